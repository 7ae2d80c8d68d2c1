/- FlongsMore: the walk. Written by tools/gen_hr.py. -/
import Derived.Test.YtigeiaiohdemiaaHQ
import Derived.Test.YtigeiaiohdemiaaGW
namespace Go.Proofs.Ytigeiaiohdemiaa
set_option linter.unusedVariables false
set_option linter.unusedSimpArgs false
open Go.RowKit

set_option maxRecDepth 100000 in
set_option maxHeartbeats 4000000 in
theorem more_early (s : FShop) (ma : Option Addr) (ml mc : Nat) (wa : Option Addr) (wl wc : Nat) (na : Option Addr) (nl nc : Nat) (n : Int) (xa : Option Addr) (xl xc : Nat) (w : World) (hp : FAt w ma ml mc wa wl wc na nl nc s) (hm : xl ≤ maxLen) (h : s.known = false ∨ (s.known = true ∧ btw n 0 ((nl : Int) - 1) = false) ∨ (s.known = true ∧ btw n 0 ((nl : Int) - 1) = true ∧ 40 < xl)) :
    Calls Try.prog 7 #[.agg #[.slice ma ml mc, .slice wa wl wc, .slice na nl nc, .int .i64 s.fresh], .int .i64 n, .slice xa xl xc] w fun e w' => e = .returned (.bool true) ∧ Below w.heap.size w w' := by
  have HK := Lib.hid (fun b (h : s.known = b) W (hb : Below w.heap.size w W) => known_is s ma ml mc wa wl wc na nl nc b h W (hp.below hb))
  have hnm := hp.2.2.2.1
  have HI := Lib.hid (fun n b (h : btw n 0 ((nl : Int) - 1) = b) W (hb : Below w.heap.size w W) => IsPage_is s ma ml mc wa wl wc na nl nc n W hnm b h)
  unfold maxLen at hm
  clear hp hnm
  rcases h with hk | ⟨hk, hf⟩ | ⟨hk, hf, h40⟩
  · have HK1 := Lib.hid (HK.out _ hk)
    clear hk
    go_enter Try.func7, Try.ntmps7
    go_wp2_with fail
    refine (HK1.out _ (by repeat (first | exact Below.refl _ _ | (refine Below.alloc ?_ (by first | omega | (simp; omega) | simp) _) | (refine Below.setCell ?_ (by first | omega | (simp; omega) | simp) _) | refine Below.drew ?_))).mono ?_
    rintro e w1 ⟨rfl, hb1⟩
    have hw1 := ((by repeat (first | exact Below.refl _ _ | (refine Below.alloc ?_ (by first | omega | (simp; omega) | simp) _) | (refine Below.setCell ?_ (by first | omega | (simp; omega) | simp) _) | refine Below.drew ?_)) : Below w.heap.size w _).trans (hb1.mono (by first | (simp; done) | (simp; omega) | omega))
    clear hb1
    go_wp2_with fail
    refine (works_any _).mono ?_
    rintro e w9 ⟨rfl, hb9⟩
    go_wp2_with fail
    go_ret
    exact ⟨rfl, hw1.trans (hb9.mono hw1.size)⟩
  · have HK1 := Lib.hid (HK.out _ hk)
    have HI1 := Lib.hid (HI.out n _ hf)
    clear hk hf
    go_enter Try.func7, Try.ntmps7
    go_wp2_with fail
    refine (HK1.out _ (by repeat (first | exact Below.refl _ _ | (refine Below.alloc ?_ (by first | omega | (simp; omega) | simp) _) | (refine Below.setCell ?_ (by first | omega | (simp; omega) | simp) _) | refine Below.drew ?_))).mono ?_
    rintro e w1 ⟨rfl, hb1⟩
    have hx0 := fun i => (hb1.cell (p := ⟨w.heap.size, i, none⟩) (by simp)).trans (World.cell?_alloc_new w #[.slice ma ml mc, .slice wa wl wc, .slice na nl nc, .int .i64 s.fresh] 26 i)
    obtain ⟨x0, x1, x2, x3⟩ : w1.cell? ⟨w.heap.size, 0, none⟩ = some (.slice ma ml mc) ∧ w1.cell? ⟨w.heap.size, 1, none⟩ = some (.slice wa wl wc) ∧ w1.cell? ⟨w.heap.size, 2, none⟩ = some (.slice na nl nc) ∧ w1.cell? ⟨w.heap.size, 3, none⟩ = some (.int .i64 s.fresh) := ⟨hx0 0, hx0 1, hx0 2, hx0 3⟩
    have q1 : w.heap.size < w1.heap.size := by have := hb1.size; simp at this; omega
    have hw1 := ((by repeat (first | exact Below.refl _ _ | (refine Below.alloc ?_ (by first | omega | (simp; omega) | simp) _) | (refine Below.setCell ?_ (by first | omega | (simp; omega) | simp) _) | refine Below.drew ?_)) : Below w.heap.size w _).trans (hb1.mono (by first | (simp; done) | (simp; omega) | omega))
    clear hb1 hx0
    go_wp2_with fail
    refine (HI1.out _ (by repeat (first | assumption | exact Below.refl _ _ | (refine Below.alloc ?_ (by first | omega | (simp; omega) | simp) _) | (refine Below.setCell ?_ (by first | omega | (simp; omega) | simp) _) | refine Below.drew ?_))).mono ?_
    rintro e w2 ⟨rfl, hb2⟩
    have hw2 := hw1.trans (hb2.mono hw1.size)
    have q2 : w.heap.size < w2.heap.size := Nat.lt_of_lt_of_le q1 hb2.size
    have y0 := (hb2.cell (p := ⟨w.heap.size, 0, none⟩) q1).trans x0; have y1 := (hb2.cell (p := ⟨w.heap.size, 1, none⟩) q1).trans x1; have y2 := (hb2.cell (p := ⟨w.heap.size, 2, none⟩) q1).trans x2; have y3 := (hb2.cell (p := ⟨w.heap.size, 3, none⟩) q1).trans x3; clear x0 x1 x2 x3
    clear hb2
    go_wp2_with fail
    refine (works_any _).mono ?_
    rintro e w9 ⟨rfl, hb9⟩
    go_wp2_with fail
    go_ret
    exact ⟨rfl, hw2.trans (hb9.mono hw2.size)⟩
  · have HK1 := Lib.hid (HK.out _ hk)
    have HI1 := Lib.hid (HI.out n _ hf)
    have h40' : (40 : Int) < (xl : Int) := by omega
    clear hk hf
    go_enter Try.func7, Try.ntmps7
    go_wp2_with fail
    refine (HK1.out _ (by repeat (first | exact Below.refl _ _ | (refine Below.alloc ?_ (by first | omega | (simp; omega) | simp) _) | (refine Below.setCell ?_ (by first | omega | (simp; omega) | simp) _) | refine Below.drew ?_))).mono ?_
    rintro e w1 ⟨rfl, hb1⟩
    have hx0 := fun i => (hb1.cell (p := ⟨w.heap.size, i, none⟩) (by simp)).trans (World.cell?_alloc_new w #[.slice ma ml mc, .slice wa wl wc, .slice na nl nc, .int .i64 s.fresh] 26 i)
    obtain ⟨x0, x1, x2, x3⟩ : w1.cell? ⟨w.heap.size, 0, none⟩ = some (.slice ma ml mc) ∧ w1.cell? ⟨w.heap.size, 1, none⟩ = some (.slice wa wl wc) ∧ w1.cell? ⟨w.heap.size, 2, none⟩ = some (.slice na nl nc) ∧ w1.cell? ⟨w.heap.size, 3, none⟩ = some (.int .i64 s.fresh) := ⟨hx0 0, hx0 1, hx0 2, hx0 3⟩
    have q1 : w.heap.size < w1.heap.size := by have := hb1.size; simp at this; omega
    have hw1 := ((by repeat (first | exact Below.refl _ _ | (refine Below.alloc ?_ (by first | omega | (simp; omega) | simp) _) | (refine Below.setCell ?_ (by first | omega | (simp; omega) | simp) _) | refine Below.drew ?_)) : Below w.heap.size w _).trans (hb1.mono (by first | (simp; done) | (simp; omega) | omega))
    clear hb1 hx0
    go_wp2_with fail
    refine (HI1.out _ (by repeat (first | assumption | exact Below.refl _ _ | (refine Below.alloc ?_ (by first | omega | (simp; omega) | simp) _) | (refine Below.setCell ?_ (by first | omega | (simp; omega) | simp) _) | refine Below.drew ?_))).mono ?_
    rintro e w2 ⟨rfl, hb2⟩
    have hw2 := hw1.trans (hb2.mono hw1.size)
    have q2 : w.heap.size < w2.heap.size := Nat.lt_of_lt_of_le q1 hb2.size
    have y0 := (hb2.cell (p := ⟨w.heap.size, 0, none⟩) q1).trans x0; have y1 := (hb2.cell (p := ⟨w.heap.size, 1, none⟩) q1).trans x1; have y2 := (hb2.cell (p := ⟨w.heap.size, 2, none⟩) q1).trans x2; have y3 := (hb2.cell (p := ⟨w.heap.size, 3, none⟩) q1).trans x3; clear x0 x1 x2 x3
    clear hb2
    go_wp2_with fail
    refine (works_any _).mono ?_
    rintro e w9 ⟨rfl, hb9⟩
    go_wp2_with fail
    go_ret
    exact ⟨rfl, hw2.trans (hb9.mono hw2.size)⟩
set_option maxRecDepth 100000 in
set_option maxHeartbeats 16000000 in
theorem more_short (s : FShop) (ma : Option Addr) (ml mc : Nat) (wa : Option Addr) (wl wc : Nat) (na : Option Addr) (nl nc : Nat) (p : Nat) (hpn : p < nl) (xa : Option Addr) (xl xc : Nat) (x : List Int) (w : World) (hp : FAt w ma ml mc wa wl wc na nl nc s) (hx : IntsAt w xa xl x) (hk : s.known = true) (h40 : xl ≤ 40) (hlen : xl ≠ wl) :
    Calls Try.prog 7 #[.agg #[.slice ma ml mc, .slice wa wl wc, .slice na nl nc, .int .i64 s.fresh], .int .i64 p, .slice xa xl xc] w fun e w' => e = .returned (.bool true) ∧ Below w.heap.size w w' := by
  obtain ⟨ho, hl0⟩ : s.ok = true ∧ 0 < s.left.length := by simpa [FShop.known] using hk
  have hnm := hp.2.2.2.1
  have hml := hp.1.1
  have hwl := hp.2.1.1
  have hnl := hp.2.2.1
  obtain ⟨hn3, hm5, hw6⟩ := FShop.ok_few ho
  have hx40 : ∀ x ∈ s.worlds, x.length ≤ 40 := fun x hx => by
    obtain ⟨k, hk, rfl⟩ := List.mem_iff_getElem.1 hx
    have := (FShop.ok_world ho k hk).1; omega
  have HK1 := Lib.hid (fun W (hb : Below w.heap.size w W) => known_is s ma ml mc wa wl wc na nl nc true hk W (hp.below hb))
  have HI1 := Lib.hid (fun W (hb : Below w.heap.size w W) => IsPage_is s ma ml mc wa wl wc na nl nc (p : Int) W hnm true (by simp [btw]; omega))
  have HCO := Lib.hid (fun W (hb : Below w.heap.size w W) => Copy_of s ma ml mc wa wl wc na nl nc W (hp.below hb) (FShop.ok_small ho))
  have HFS := Lib.hid (fun W (hb : Below w.heap.size w W) => lawFresh_is s ma ml mc wa wl wc na nl nc ho hl0 W (hp.below hb))
  have hpl : p < s.wants.length := by omega
  have hwb := FShop.ok_want ho p hpl
  have hfr := FShop.ok_fresh ho
  have hpI : (p : Int) < (nl : Int) := by omega
  have hp0 : (0 : Int) ≤ (p : Int) := by omega
  have h40' : ¬ (40 : Int) < (xl : Int) := by omega
  obtain ⟨v, hv⟩ : ∃ v, s.wants[p] = v := ⟨_, rfl⟩
  have HAT := Lib.hid (fun n0' gm cm va vc gw cw vs N1 W (h : CopyRow (s.want p (v + 1)) n0' ml wl nl gm cm va vc gw cw vs N1 W) => h.at (by omega) (by omega) (by omega) hx40)
  have hnew := want_new hfr.1 hpl
  rw [hv] at hnew hwb
  have hnS : 0 ≤ s.newAll := (newTo_bd ho _ (Nat.le_refl _)).1
  have hnS2 : s.newAll ≤ 100 := by
    have := (newTo_bd ho _ (Nat.le_refl _)).2
    show newTo s s.wants.length ≤ 100
    omega
  have hvc : (s.wants.map (Value.int .i64))[p]? = some (.int .i64 v) := by rw [List.getElem?_map, List.getElem?_eq_getElem hpl, hv]; rfl
  have HVC := Lib.hid hvc
  have HLE := Lib.hid (show (s.want p (v + 1)).left = s.left from rfl)
  have HP := Lib.hid (fun W (hb : Below w.heap.size w W) => hp.below hb)
  have hwm := hp.2.1.2.1
  unfold maxLen at hwm
  have HO := Lib.hid (And.intro ho hl0)
  have HX := Lib.hid hx40
  clear hp hk hl0 ho hml hwl hnl hn3 hm5 hw6 hx40 hvc hv hnm
  go_enter Try.func7, Try.ntmps7
  go_wp2_with fail
  refine (HK1.out _ (by repeat (first | exact Below.refl _ _ | (refine Below.alloc ?_ (by first | omega | (simp; omega) | simp) _) | (refine Below.setCell ?_ (by first | omega | (simp; omega) | simp) _) | refine Below.drew ?_))).mono ?_
  rintro e w1 ⟨rfl, hb1⟩
  have hx0 := fun i => (hb1.cell (p := ⟨w.heap.size, i, none⟩) (by simp)).trans (World.cell?_alloc_new w #[.slice ma ml mc, .slice wa wl wc, .slice na nl nc, .int .i64 s.fresh] 26 i)
  obtain ⟨x0, x1, x2, x3⟩ : w1.cell? ⟨w.heap.size, 0, none⟩ = some (.slice ma ml mc) ∧ w1.cell? ⟨w.heap.size, 1, none⟩ = some (.slice wa wl wc) ∧ w1.cell? ⟨w.heap.size, 2, none⟩ = some (.slice na nl nc) ∧ w1.cell? ⟨w.heap.size, 3, none⟩ = some (.int .i64 s.fresh) := ⟨hx0 0, hx0 1, hx0 2, hx0 3⟩
  have q1 : w.heap.size < w1.heap.size := by have := hb1.size; simp at this; omega
  have hw1 := ((by repeat (first | exact Below.refl _ _ | (refine Below.alloc ?_ (by first | omega | (simp; omega) | simp) _) | (refine Below.setCell ?_ (by first | omega | (simp; omega) | simp) _) | refine Below.drew ?_)) : Below w.heap.size w _).trans (hb1.mono (by first | (simp; done) | (simp; omega) | omega))
  clear hb1 hx0
  go_wp2_with fail
  refine (HI1.out _ (by repeat (first | assumption | exact Below.refl _ _ | (refine Below.alloc ?_ (by first | omega | (simp; omega) | simp) _) | (refine Below.setCell ?_ (by first | omega | (simp; omega) | simp) _) | refine Below.drew ?_))).mono ?_
  rintro e w2 ⟨rfl, hb2⟩
  have hw2 := hw1.trans (hb2.mono hw1.size)
  have q2 : w.heap.size < w2.heap.size := Nat.lt_of_lt_of_le q1 hb2.size
  have y0 := (hb2.cell (p := ⟨w.heap.size, 0, none⟩) q1).trans x0; have y1 := (hb2.cell (p := ⟨w.heap.size, 1, none⟩) q1).trans x1; have y2 := (hb2.cell (p := ⟨w.heap.size, 2, none⟩) q1).trans x2; have y3 := (hb2.cell (p := ⟨w.heap.size, 3, none⟩) q1).trans x3; clear x0 x1 x2 x3
  clear hb2
  go_wp2_with fail
  refine (HCO.out _ hw2).mono ?_
  rintro e u1 ⟨gm, cm, va, vc, gw, cw, vs, N1, rfl, hR1, hb3⟩
  have hu1 := hw2.trans (hb3.mono hw2.size)
  obtain ⟨gwb, egw, hgw0, hgwl, hgwc, hgwf⟩ := hR1.2.1.cell (show 0 < nl by omega)
  injection egw with egw
  subst egw
  have hwc := hgwc p _ HVC.out
  have hwf := hgwf p
  have q3 : w.heap.size < u1.heap.size := Nat.lt_of_lt_of_le q2 hb3.size
  have q4 : w.heap.size < gwb := by omega
  have x0 := (hb3.cell (p := ⟨w.heap.size, 0, none⟩) q2).trans y0; have x1 := (hb3.cell (p := ⟨w.heap.size, 1, none⟩) q2).trans y1; have x2 := (hb3.cell (p := ⟨w.heap.size, 2, none⟩) q2).trans y2; have x3 := (hb3.cell (p := ⟨w.heap.size, 3, none⟩) q2).trans y3; clear y0 y1 y2 y3
  have HSET := Lib.hid (hR1.setWant p hpn (v + 1))
  have hne1 : ¬ gwb = w.heap.size := by omega
  have hwv : IntKind.i64.wrap (v + 1) = v + 1 := IntWalk.i64_in _ ⟨by omega, by omega⟩
  obtain ⟨n0', hn0'⟩ : ∃ n0', n0' = w2.heap.size := ⟨_, rfl⟩
  rw [← hn0'] at HSET
  clear hb3 hgwc hgwf hR1 hgw0 hn0' hw1 hw2 q1 q2
  go_wp2_with fail
  obtain ⟨V, hV⟩ : ∃ V, u1.setCell ⟨gwb, p, none⟩ (.int .i64 (v + 1)) = V := ⟨_, rfl⟩
  have hcV : ∀ b i, ¬ gwb = b → V.cell? ⟨b, i, none⟩ = u1.cell? ⟨b, i, none⟩ := fun b i h => by rw [← hV]; exact set_other (by intro e; injection e with e; exact h e)
  have hzV : V.heap.size = u1.heap.size := by rw [← hV]; simp [World.setCell]
  have hBV : Below w.heap.size w V := by rw [← hV]; exact Below.setCell hu1 (show w.heap.size ≤ gwb by omega) _
  have hRV : CopyRow (s.want p (v + 1)) n0' ml wl nl gm cm va vc ⟨gwb, 0, none⟩ cw vs N1 V := by rw [← hV]; exact HSET.out
  have y0 := (hcV _ 0 hne1).trans x0
  have y1 := (hcV _ 1 hne1).trans x1
  have y2 := (hcV _ 2 hne1).trans x2
  have y3 := (hcV _ 3 hne1).trans x3
  rw [hV]
  clear hV HSET hcV
  obtain ⟨X, hX, hb4, hOb, -, hgU⟩ := name1kf V #[.slice (some gm) ml cm, .slice va wl vc, .slice (some ⟨gwb, 0, none⟩) nl cw, .int .i64 s.fresh] 26
  rw [hX]
  clear hX
  obtain ⟨gO, hgO⟩ : ∃ gO, gO = u1.heap.size := ⟨_, rfl⟩
  rw [← hgO]
  rw [hzV, ← hgO] at hOb hgU
  have qV : w.heap.size < V.heap.size := by omega
  have HSB := Lib.hid (show X.cell? ⟨w.heap.size, 0, none⟩ = some (.slice ma ml mc) ∧ X.cell? ⟨w.heap.size, 1, none⟩ = some (.slice wa wl wc) ∧ X.cell? ⟨w.heap.size, 2, none⟩ = some (.slice na nl nc) ∧ X.cell? ⟨w.heap.size, 3, none⟩ = some (.int .i64 s.fresh) from And.intro ((hb4.cell (p := ⟨w.heap.size, 0, none⟩) qV).trans y0) (And.intro ((hb4.cell (p := ⟨w.heap.size, 1, none⟩) qV).trans y1) (And.intro ((hb4.cell (p := ⟨w.heap.size, 2, none⟩) qV).trans y2) ((hb4.cell (p := ⟨w.heap.size, 3, none⟩) qV).trans y3))))
  have HOB := Lib.hid (show X.cell? ⟨gO, 0, none⟩ = some (.slice (some gm) ml cm) ∧ X.cell? ⟨gO, 1, none⟩ = some (.slice va wl vc) ∧ X.cell? ⟨gO, 2, none⟩ = some (.slice (some ⟨gwb, 0, none⟩) nl cw) ∧ X.cell? ⟨gO, 3, none⟩ = some (.int .i64 s.fresh) from ⟨hOb 0, hOb 1, hOb 2, hOb 3⟩)
  have hsU : w.heap.size < X.heap.size := Nat.lt_of_lt_of_le qV hb4.size
  have hbX := hBV.trans (hb4.mono hBV.size)
  have HBX := Lib.hid (fun W (hb : Below X.heap.size X W) => hbX.trans (hb.mono hbX.size))
  have hRX := hRV.below hb4
  have HAX := Lib.hid (fun W (hb : Below X.heap.size X W) => HAT.out _ _ _ _ _ _ _ _ _ W (hRX.below hb))
  clear x0 x1 x2 x3
  clear hb4 hOb hu1 hwc hwf hgwl q3 q4 qV hgO hzV hBV hRV hbX hRX y0 y1 y2 y3 hne1 hwv hwb
  obtain ⟨t, ht⟩ : ∃ t, s.want p (v + 1) = t := ⟨_, rfl⟩
  rw [ht] at HAX HLE hnew
  have htf : t.fresh = s.fresh := by rw [← ht]; rfl
  have HT := Lib.hid ht
  clear ht HAT
  have hXX : Below X.heap.size X X := Below.refl _ _
  have x0 := (hXX.cell (p := ⟨w.heap.size, 0, none⟩) hsU).trans HSB.out.1; have x1 := (hXX.cell (p := ⟨w.heap.size, 1, none⟩) hsU).trans HSB.out.2.1; have x2 := (hXX.cell (p := ⟨w.heap.size, 2, none⟩) hsU).trans HSB.out.2.2.1; have x3 := (hXX.cell (p := ⟨w.heap.size, 3, none⟩) hsU).trans HSB.out.2.2.2; obtain ⟨o0, o1, o2, o3⟩ : X.cell? ⟨gO, 0, none⟩ = some (.slice (some gm) ml cm) ∧ X.cell? ⟨gO, 1, none⟩ = some (.slice va wl vc) ∧ X.cell? ⟨gO, 2, none⟩ = some (.slice (some ⟨gwb, 0, none⟩) nl cw) ∧ X.cell? ⟨gO, 3, none⟩ = some (.int .i64 s.fresh) := ⟨(hXX.cell (p := ⟨gO, 0, none⟩) hgU).trans HOB.out.1, (hXX.cell (p := ⟨gO, 1, none⟩) hgU).trans HOB.out.2.1, (hXX.cell (p := ⟨gO, 2, none⟩) hgU).trans HOB.out.2.2.1, (hXX.cell (p := ⟨gO, 3, none⟩) hgU).trans HOB.out.2.2.2⟩
  have HRD := Lib.hid (fun b (h : t.ok = b) W (hb : Below X.heap.size X W) => ready_is t (some gm) ml cm va wl vc (some ⟨gwb, 0, none⟩) nl cw b h W (HAX.out W hb))
  rw [htf] at HRD
  rcases hto : t.ok with - | -
  · have HRD1 := Lib.hid (HRD.out false hto _ hXX)
    clear hto hnew
    go_wp2_with fail
    refine HRD1.out.mono ?_
    rintro e w6 ⟨rfl, hb6⟩
    clear x0 x1 x2 x3 o0 o1 o2 o3
    have x0 := (hb6.cell (p := ⟨w.heap.size, 0, none⟩) hsU).trans HSB.out.1; have x1 := (hb6.cell (p := ⟨w.heap.size, 1, none⟩) hsU).trans HSB.out.2.1; have x2 := (hb6.cell (p := ⟨w.heap.size, 2, none⟩) hsU).trans HSB.out.2.2.1; have x3 := (hb6.cell (p := ⟨w.heap.size, 3, none⟩) hsU).trans HSB.out.2.2.2
    have hw6 := HBX.out _ hb6
    have hll : ¬ (xl : Int) = (wl : Int) := by omega
    have hllB : ((xl : Int) != (wl : Int)) = true := by simp; omega
    go_wp2_with fail
    refine (works_any _).mono ?_
    rintro e w9 ⟨rfl, hb9⟩
    go_wp2_with fail
    go_ret
    exact ⟨rfl, hw6.trans (hb9.mono hw6.size)⟩
  · have HRD1 := Lib.hid (HRD.out true hto _ hXX)
    have HFO := Lib.hid (fun W (hb : Below X.heap.size X W) => lawFresh_is t (some gm) ml cm va wl vc (some ⟨gwb, 0, none⟩) nl cw hto (by rw [HLE.out]; exact HO.out.2) W (HAX.out W hb))
    rw [htf] at HFO
    generalize t.newAll = nO at *
    generalize s.newAll = nS at *
    clear hto
    go_wp2_with fail
    refine HRD1.out.mono ?_
    rintro e w6 ⟨rfl, hb6⟩
    have hB6 := HBX.out _ hb6
    clear x0 x1 x2 x3 o0 o1 o2 o3
    have x0 := (hb6.cell (p := ⟨w.heap.size, 0, none⟩) hsU).trans HSB.out.1; have x1 := (hb6.cell (p := ⟨w.heap.size, 1, none⟩) hsU).trans HSB.out.2.1; have x2 := (hb6.cell (p := ⟨w.heap.size, 2, none⟩) hsU).trans HSB.out.2.2.1; have x3 := (hb6.cell (p := ⟨w.heap.size, 3, none⟩) hsU).trans HSB.out.2.2.2; obtain ⟨o0, o1, o2, o3⟩ : w6.cell? ⟨gO, 0, none⟩ = some (.slice (some gm) ml cm) ∧ w6.cell? ⟨gO, 1, none⟩ = some (.slice va wl vc) ∧ w6.cell? ⟨gO, 2, none⟩ = some (.slice (some ⟨gwb, 0, none⟩) nl cw) ∧ w6.cell? ⟨gO, 3, none⟩ = some (.int .i64 s.fresh) := ⟨(hb6.cell (p := ⟨gO, 0, none⟩) hgU).trans HOB.out.1, (hb6.cell (p := ⟨gO, 1, none⟩) hgU).trans HOB.out.2.1, (hb6.cell (p := ⟨gO, 2, none⟩) hgU).trans HOB.out.2.2.1, (hb6.cell (p := ⟨gO, 3, none⟩) hgU).trans HOB.out.2.2.2⟩
    have s6 : w.heap.size < w6.heap.size := Nat.lt_of_lt_of_le hsU hb6.size
    have g6 : gO < w6.heap.size := Nat.lt_of_lt_of_le hgU hb6.size
    have HFSX := Lib.hid (fun W (h : Below w6.heap.size w6 W ∧ ∀ b o, b < w6.heap.size → W.cell? ⟨b, o, none⟩ = w6.cell? ⟨b, o, none⟩) => bothS1 (W0 := w6) (HFS.out W (HBX.out W (hb6.trans (h.1.mono hb6.size)))) h)
    have HFOX := Lib.hid (fun W (h : Below w6.heap.size w6 W ∧ ∀ b o, b < w6.heap.size → W.cell? ⟨b, o, none⟩ = w6.cell? ⟨b, o, none⟩) => bothS1 (W0 := w6) (HFO.out W (hb6.trans (h.1.mono hb6.size))) h)
    have HB6 := Lib.hid hb6
    clear hb6 hB6
    go_upto_region 6 with fail
    go_cut [8, 9] (fun v8 v9 wx => v8 = .int .i64 nS ∧ v9 = .int .i64 nO ∧ Below w6.heap.size w6 wx)
    case first =>
      go_region_held3 (fun w' => Below w6.heap.size w6 w' ∧ ∀ b o, b < w6.heap.size → w'.cell? ⟨b, o, none⟩ = w6.cell? ⟨b, o, none⟩) (first | with_reducible assumption | ((repeat (first | with_reducible refine bothS_drew ?_ | with_reducible refine bothS_alloc _ ?_ | with_reducible refine bothS_set _ _ (by first | omega | (simp; omega) | simp) ?_)); first | with_reducible assumption | with_reducible exact Hid.out (by assumption) | with_reducible exact ⟨Below.refl _ _, fun _ _ _ => rfl⟩)) (first | (go_at_call 31; with_reducible refine (HFSX.out _ ?_).mono ?_; (first | with_reducible assumption | ((repeat (first | with_reducible refine bothS_drew ?_ | with_reducible refine bothS_alloc _ ?_ | with_reducible refine bothS_set _ _ (by first | omega | (simp; omega) | simp) ?_)); first | with_reducible assumption | with_reducible exact Hid.out (by assumption) | with_reducible exact ⟨Below.refl _ _, fun _ _ _ => rfl⟩)); rintro e w' ⟨rfl, k, k1, k2, k3⟩; have HK := Lib.hid k; (try simp at k3); (try have k6 := Nat.lt_of_succ_le k3); (try have k7 := Nat.lt_of_succ_lt k6); (try have k8 := Nat.lt_of_succ_lt k3)) | (go_at_call 31; with_reducible refine (HFOX.out _ ?_).mono ?_; (first | with_reducible assumption | ((repeat (first | with_reducible refine bothS_drew ?_ | with_reducible refine bothS_alloc _ ?_ | with_reducible refine bothS_set _ _ (by first | omega | (simp; omega) | simp) ?_)); first | with_reducible assumption | with_reducible exact Hid.out (by assumption) | with_reducible exact ⟨Below.refl _ _, fun _ _ _ => rfl⟩)); rintro e w' ⟨rfl, k, k1, k2, k3⟩; have HK := Lib.hid k; (try simp at k3); (try have k6 := Nat.lt_of_succ_le k3); (try have k7 := Nat.lt_of_succ_lt k6); (try have k8 := Nat.lt_of_succ_lt k3)) | fail "no arm")
      all_goals (go_wp2_with fail; go_meet; exact ⟨rfl, rfl, And.left (by assumption)⟩)
    case rest =>
    obtain ⟨rfl, rfl, hBY⟩ := hcut
    obtain ⟨w7, rfl⟩ : ∃ w7 : World, w7 = wc := ⟨_, rfl⟩
    have hb7 := HB6.out.trans (hBY.mono HB6.out.size)
    have hw6 := HBX.out _ hb7
    clear x0 x1 x2 x3 o0 o1 o2 o3
    have x0 := (hb7.cell (p := ⟨w.heap.size, 0, none⟩) hsU).trans HSB.out.1; have x1 := (hb7.cell (p := ⟨w.heap.size, 1, none⟩) hsU).trans HSB.out.2.1; have x2 := (hb7.cell (p := ⟨w.heap.size, 2, none⟩) hsU).trans HSB.out.2.2.1; have x3 := (hb7.cell (p := ⟨w.heap.size, 3, none⟩) hsU).trans HSB.out.2.2.2
    have hn1 : ¬ nS < 0 := by omega
    clear hBY HFSX HFOX s6 g6
    by_cases hee : nO = nS
    · have hnb : (nO != nS) = false := by simpa using hee
      clear hnew
      have hll : ¬ (xl : Int) = (wl : Int) := by omega
      have hllB : ((xl : Int) != (wl : Int)) = true := by simp; omega
      go_wp2_with fail
      refine (works_any _).mono ?_
      rintro e w9 ⟨rfl, hb9⟩
      go_wp2_with fail
      go_ret
      exact ⟨rfl, hw6.trans (hb9.mono hw6.size)⟩
    · have hn2 : nO = nS + 1 := by omega
      subst hn2
      have hnb : (nS + 1 != nS) = true := by simp; omega
      have hnw : IntKind.i64.wrap (nS + 1) = nS + 1 := IntWalk.i64_in _ ⟨by omega, by omega⟩
      clear hnew hee
      have hll : ¬ (xl : Int) = (wl : Int) := by omega
      have hllB : ((xl : Int) != (wl : Int)) = true := by simp; omega
      go_wp2_with fail
      refine (works_any _).mono ?_
      rintro e w9 ⟨rfl, hb9⟩
      go_wp2_with fail
      go_ret
      exact ⟨rfl, hw6.trans (hb9.mono hw6.size)⟩
end Go.Proofs.Ytigeiaiohdemiaa
