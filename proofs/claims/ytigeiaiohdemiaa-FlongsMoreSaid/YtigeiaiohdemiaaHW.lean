/- FlongsMore: the walk where a mould is added, branch 2. Written by tools/gen_hr.py long. -/
import Derived.Test.YtigeiaiohdemiaaHT
namespace Go.Proofs.Ytigeiaiohdemiaa
set_option linter.unusedVariables false
set_option linter.unusedSimpArgs false
open Go.RowKit
set_option maxRecDepth 100000 in
set_option maxHeartbeats 16000000 in
theorem more_long2 (s : FShop) (ma : Option Addr) (ml mc : Nat) (wa : Option Addr) (wl wc : Nat) (na : Option Addr) (nl nc : Nat) (p : Nat) (hpn : p < nl) (xa : Option Addr) (xl xc : Nat) (x : List Int) (w : World) (hp : FAt w ma ml mc wa wl wc na nl nc s) (hx : IntsAt w xa xl x) (hk : s.known = true) (h40 : xl ≤ 40) (hlen : xl = wl) (hpl0 : p < s.wants.length) (hsel : (s.want p (s.wants[p] + 1)).ok = true ∧ (s.want p (s.wants[p] + 1)).newAll = s.newAll) :
    Calls Try.prog 7 #[.agg #[.slice ma ml mc, .slice wa wl wc, .slice na nl nc, .int .i64 s.fresh], .int .i64 p, .slice xa xl xc] w fun e w' => e = .returned (.bool true) ∧ Below w.heap.size w w' := by
  obtain ⟨ho, hl0⟩ : s.ok = true ∧ 0 < s.left.length := by simpa [FShop.known] using hk
  have hnm := hp.2.2.2.1
  have hml := hp.1.1
  have hwl := hp.2.1.1
  have hnl := hp.2.2.1
  obtain ⟨hn3, hm5, hw6⟩ := FShop.ok_few ho
  have hx40 : ∀ x ∈ s.worlds, x.length ≤ 40 := fun x hx => by
    obtain ⟨k, hk, rfl⟩ := List.mem_iff_getElem.1 hx
    have := (FShop.ok_world ho k hk).1; omega
  have HK1 := Lib.hid (fun W (hb : Below w.heap.size w W) => known_is s ma ml mc wa wl wc na nl nc true hk W (hp.below hb))
  have HI1 := Lib.hid (fun W (hb : Below w.heap.size w W) => IsPage_is s ma ml mc wa wl wc na nl nc (p : Int) W hnm true (by simp [btw]; omega))
  have HCO := Lib.hid (fun W (hb : Below w.heap.size w W) => Copy_of s ma ml mc wa wl wc na nl nc W (hp.below hb) (FShop.ok_small ho))
  have HFS := Lib.hid (fun W (hb : Below w.heap.size w W) => lawFresh_is s ma ml mc wa wl wc na nl nc ho hl0 W (hp.below hb))
  have hpl : p < s.wants.length := by omega
  have hwb := FShop.ok_want ho p hpl
  have hfr := FShop.ok_fresh ho
  have HC2 := Lib.hid (fun W (hb : Below w.heap.size w W) => Copy_any2 s ma ml mc wa wl wc na nl nc W (hp.below hb) (by omega) (by omega) (by omega) (fun x hx => by have := hx40 x hx; omega))
  have hml5 : ml ≤ 5 := by omega
  have hwl6 : wl ≤ 6 := by omega
  have hwlE := hwl
  have hnl3 : nl ≤ 3 := by omega
  have HMLE := Lib.hid hml
  have HSU := Lib.hid (fun W (hb : Below w.heap.size w W) => lawSure_is s ma ml mc wa wl wc na nl nc p hpn ho hl0 W (hp.below hb))
  have HSD := Lib.hid (sure_bd ho (p : Int))
  have hpI : (p : Int) < (nl : Int) := by omega
  have hp0 : (0 : Int) ≤ (p : Int) := by omega
  have h40' : ¬ (40 : Int) < (xl : Int) := by omega
  obtain ⟨v, hv⟩ : ∃ v, s.wants[p] = v := ⟨_, rfl⟩
  have HAT := Lib.hid (fun n0' gm cm va vc gw cw vs N1 W (h : CopyRow (s.want p (v + 1)) n0' ml wl nl gm cm va vc gw cw vs N1 W) => h.at (by omega) (by omega) (by omega) hx40)
  have hnew := want_new hfr.1 hpl
  rw [hv] at hnew hwb hsel
  have hnS : 0 ≤ s.newAll := (newTo_bd ho _ (Nat.le_refl _)).1
  have hnS2 : s.newAll ≤ 100 := by
    have := (newTo_bd ho _ (Nat.le_refl _)).2
    show newTo s s.wants.length ≤ 100
    omega
  have hvc : (s.wants.map (Value.int .i64))[p]? = some (.int .i64 v) := by rw [List.getElem?_map, List.getElem?_eq_getElem hpl, hv]; rfl
  have HVC := Lib.hid hvc
  have HLE := Lib.hid (show (s.want p (v + 1)).left = s.left from rfl)
  have HP := Lib.hid (fun W (hb : Below w.heap.size w W) => hp.below hb)
  have hwm := hp.2.1.2.1
  unfold maxLen at hwm
  have HO := Lib.hid (And.intro ho hl0)
  have HX := Lib.hid hx40
  clear hp hk hl0 ho hml hwl hnl hn3 hm5 hw6 hx40 hvc hv hnm
  go_enter Try.func7, Try.ntmps7
  go_wp2_with fail
  refine (HK1.out _ (by repeat (first | exact Below.refl _ _ | (refine Below.alloc ?_ (by first | omega | (simp; omega) | simp) _) | (refine Below.setCell ?_ (by first | omega | (simp; omega) | simp) _) | refine Below.drew ?_))).mono ?_
  rintro e w1 ⟨rfl, hb1⟩
  have hx0 := fun i => (hb1.cell (p := ⟨w.heap.size, i, none⟩) (by simp)).trans (World.cell?_alloc_new w #[.slice ma ml mc, .slice wa wl wc, .slice na nl nc, .int .i64 s.fresh] 26 i)
  obtain ⟨x0, x1, x2, x3⟩ : w1.cell? ⟨w.heap.size, 0, none⟩ = some (.slice ma ml mc) ∧ w1.cell? ⟨w.heap.size, 1, none⟩ = some (.slice wa wl wc) ∧ w1.cell? ⟨w.heap.size, 2, none⟩ = some (.slice na nl nc) ∧ w1.cell? ⟨w.heap.size, 3, none⟩ = some (.int .i64 s.fresh) := ⟨hx0 0, hx0 1, hx0 2, hx0 3⟩
  have q1 : w.heap.size < w1.heap.size := by have := hb1.size; simp at this; omega
  have hw1 := ((by repeat (first | exact Below.refl _ _ | (refine Below.alloc ?_ (by first | omega | (simp; omega) | simp) _) | (refine Below.setCell ?_ (by first | omega | (simp; omega) | simp) _) | refine Below.drew ?_)) : Below w.heap.size w _).trans (hb1.mono (by first | (simp; done) | (simp; omega) | omega))
  clear hb1 hx0
  go_wp2_with fail
  refine (HI1.out _ (by repeat (first | assumption | exact Below.refl _ _ | (refine Below.alloc ?_ (by first | omega | (simp; omega) | simp) _) | (refine Below.setCell ?_ (by first | omega | (simp; omega) | simp) _) | refine Below.drew ?_))).mono ?_
  rintro e w2 ⟨rfl, hb2⟩
  have hw2 := hw1.trans (hb2.mono hw1.size)
  have q2 : w.heap.size < w2.heap.size := Nat.lt_of_lt_of_le q1 hb2.size
  have y0 := (hb2.cell (p := ⟨w.heap.size, 0, none⟩) q1).trans x0; have y1 := (hb2.cell (p := ⟨w.heap.size, 1, none⟩) q1).trans x1; have y2 := (hb2.cell (p := ⟨w.heap.size, 2, none⟩) q1).trans x2; have y3 := (hb2.cell (p := ⟨w.heap.size, 3, none⟩) q1).trans x3; clear x0 x1 x2 x3
  clear hb2
  go_wp2_with fail
  refine (HCO.out _ hw2).mono ?_
  rintro e u1 ⟨gm, cm, va, vc, gw, cw, vs, N1, rfl, hR1, hb3⟩
  have hu1 := hw2.trans (hb3.mono hw2.size)
  obtain ⟨gwb, egw, hgw0, hgwl, hgwc, hgwf⟩ := hR1.2.1.cell (show 0 < nl by omega)
  injection egw with egw
  subst egw
  have hwc := hgwc p _ HVC.out
  have hwf := hgwf p
  have q3 : w.heap.size < u1.heap.size := Nat.lt_of_lt_of_le q2 hb3.size
  have q4 : w.heap.size < gwb := by omega
  have x0 := (hb3.cell (p := ⟨w.heap.size, 0, none⟩) q2).trans y0; have x1 := (hb3.cell (p := ⟨w.heap.size, 1, none⟩) q2).trans y1; have x2 := (hb3.cell (p := ⟨w.heap.size, 2, none⟩) q2).trans y2; have x3 := (hb3.cell (p := ⟨w.heap.size, 3, none⟩) q2).trans y3; clear y0 y1 y2 y3
  have HSET := Lib.hid (hR1.setWant p hpn (v + 1))
  have hne1 : ¬ gwb = w.heap.size := by omega
  have hwv : IntKind.i64.wrap (v + 1) = v + 1 := IntWalk.i64_in _ ⟨by omega, by omega⟩
  obtain ⟨n0', hn0'⟩ : ∃ n0', n0' = w2.heap.size := ⟨_, rfl⟩
  rw [← hn0'] at HSET
  clear hb3 hgwc hgwf hR1 hgw0 hn0' hw1 hw2 q1 q2
  go_wp2_with fail
  obtain ⟨V, hV⟩ : ∃ V, u1.setCell ⟨gwb, p, none⟩ (.int .i64 (v + 1)) = V := ⟨_, rfl⟩
  have hcV : ∀ b i, ¬ gwb = b → V.cell? ⟨b, i, none⟩ = u1.cell? ⟨b, i, none⟩ := fun b i h => by rw [← hV]; exact set_other (by intro e; injection e with e; exact h e)
  have hzV : V.heap.size = u1.heap.size := by rw [← hV]; simp [World.setCell]
  have hBV : Below w.heap.size w V := by rw [← hV]; exact Below.setCell hu1 (show w.heap.size ≤ gwb by omega) _
  have hRV : CopyRow (s.want p (v + 1)) n0' ml wl nl gm cm va vc ⟨gwb, 0, none⟩ cw vs N1 V := by rw [← hV]; exact HSET.out
  have y0 := (hcV _ 0 hne1).trans x0
  have y1 := (hcV _ 1 hne1).trans x1
  have y2 := (hcV _ 2 hne1).trans x2
  have y3 := (hcV _ 3 hne1).trans x3
  rw [hV]
  clear hV HSET hcV
  obtain ⟨X, hX, hb4, hOb, -, hgU⟩ := name1kf V #[.slice (some gm) ml cm, .slice va wl vc, .slice (some ⟨gwb, 0, none⟩) nl cw, .int .i64 s.fresh] 26
  rw [hX]
  clear hX
  obtain ⟨gO, hgO⟩ : ∃ gO, gO = u1.heap.size := ⟨_, rfl⟩
  rw [← hgO]
  rw [hzV, ← hgO] at hOb hgU
  have qV : w.heap.size < V.heap.size := by omega
  have HSB := Lib.hid (show X.cell? ⟨w.heap.size, 0, none⟩ = some (.slice ma ml mc) ∧ X.cell? ⟨w.heap.size, 1, none⟩ = some (.slice wa wl wc) ∧ X.cell? ⟨w.heap.size, 2, none⟩ = some (.slice na nl nc) ∧ X.cell? ⟨w.heap.size, 3, none⟩ = some (.int .i64 s.fresh) from And.intro ((hb4.cell (p := ⟨w.heap.size, 0, none⟩) qV).trans y0) (And.intro ((hb4.cell (p := ⟨w.heap.size, 1, none⟩) qV).trans y1) (And.intro ((hb4.cell (p := ⟨w.heap.size, 2, none⟩) qV).trans y2) ((hb4.cell (p := ⟨w.heap.size, 3, none⟩) qV).trans y3))))
  have HOB := Lib.hid (show X.cell? ⟨gO, 0, none⟩ = some (.slice (some gm) ml cm) ∧ X.cell? ⟨gO, 1, none⟩ = some (.slice va wl vc) ∧ X.cell? ⟨gO, 2, none⟩ = some (.slice (some ⟨gwb, 0, none⟩) nl cw) ∧ X.cell? ⟨gO, 3, none⟩ = some (.int .i64 s.fresh) from ⟨hOb 0, hOb 1, hOb 2, hOb 3⟩)
  have hsU : w.heap.size < X.heap.size := Nat.lt_of_lt_of_le qV hb4.size
  have hbX := hBV.trans (hb4.mono hBV.size)
  have HBX := Lib.hid (fun W (hb : Below X.heap.size X W) => hbX.trans (hb.mono hbX.size))
  have hRX := hRV.below hb4
  have HAX := Lib.hid (fun W (hb : Below X.heap.size X W) => HAT.out _ _ _ _ _ _ _ _ _ W (hRX.below hb))
  clear x0 x1 x2 x3
  clear hb4 hOb hu1 hwc hwf hgwl q3 q4 qV hgO hzV hBV hRV hbX hRX y0 y1 y2 y3 hne1 hwv hwb
  obtain ⟨t, ht⟩ : ∃ t, s.want p (v + 1) = t := ⟨_, rfl⟩
  rw [ht] at HAX HLE hnew hsel
  have htf : t.fresh = s.fresh := by rw [← ht]; rfl
  have HT := Lib.hid ht
  clear ht HAT
  have hXX : Below X.heap.size X X := Below.refl _ _
  have x0 := (hXX.cell (p := ⟨w.heap.size, 0, none⟩) hsU).trans HSB.out.1; have x1 := (hXX.cell (p := ⟨w.heap.size, 1, none⟩) hsU).trans HSB.out.2.1; have x2 := (hXX.cell (p := ⟨w.heap.size, 2, none⟩) hsU).trans HSB.out.2.2.1; have x3 := (hXX.cell (p := ⟨w.heap.size, 3, none⟩) hsU).trans HSB.out.2.2.2; obtain ⟨o0, o1, o2, o3⟩ : X.cell? ⟨gO, 0, none⟩ = some (.slice (some gm) ml cm) ∧ X.cell? ⟨gO, 1, none⟩ = some (.slice va wl vc) ∧ X.cell? ⟨gO, 2, none⟩ = some (.slice (some ⟨gwb, 0, none⟩) nl cw) ∧ X.cell? ⟨gO, 3, none⟩ = some (.int .i64 s.fresh) := ⟨(hXX.cell (p := ⟨gO, 0, none⟩) hgU).trans HOB.out.1, (hXX.cell (p := ⟨gO, 1, none⟩) hgU).trans HOB.out.2.1, (hXX.cell (p := ⟨gO, 2, none⟩) hgU).trans HOB.out.2.2.1, (hXX.cell (p := ⟨gO, 3, none⟩) hgU).trans HOB.out.2.2.2⟩
  have HRD := Lib.hid (fun b (h : t.ok = b) W (hb : Below X.heap.size X W) => ready_is t (some gm) ml cm va wl vc (some ⟨gwb, 0, none⟩) nl cw b h W (HAX.out W hb))
  rw [htf] at HRD
  rcases hto : t.ok with - | -
  · have HRD1 := Lib.hid (HRD.out false hto _ hXX)
    clear hnew
    go_wp2_with fail
    refine HRD1.out.mono ?_
    rintro e w6 ⟨rfl, hb6⟩
    clear x0 x1 x2 x3 o0 o1 o2 o3
    have x0 := (hb6.cell (p := ⟨w.heap.size, 0, none⟩) hsU).trans HSB.out.1; have x1 := (hb6.cell (p := ⟨w.heap.size, 1, none⟩) hsU).trans HSB.out.2.1; have x2 := (hb6.cell (p := ⟨w.heap.size, 2, none⟩) hsU).trans HSB.out.2.2.1; have x3 := (hb6.cell (p := ⟨w.heap.size, 3, none⟩) hsU).trans HSB.out.2.2.2
    have hw6 := HBX.out _ hb6
    have hs6 : w.heap.size < w6.heap.size := Nat.lt_of_lt_of_le hsU hb6.size
    rw [hsel.1] at hto; cases hto
  · have HRD1 := Lib.hid (HRD.out true hto _ hXX)
    have HFO := Lib.hid (fun W (hb : Below X.heap.size X W) => lawFresh_is t (some gm) ml cm va wl vc (some ⟨gwb, 0, none⟩) nl cw hto (by rw [HLE.out]; exact HO.out.2) W (HAX.out W hb))
    rw [htf] at HFO
    generalize t.newAll = nO at *
    generalize s.newAll = nS at *
    have HSL := Lib.hid hsel
    clear hsel
    go_wp2_with fail
    refine HRD1.out.mono ?_
    rintro e w6 ⟨rfl, hb6⟩
    have hB6 := HBX.out _ hb6
    clear x0 x1 x2 x3 o0 o1 o2 o3
    have x0 := (hb6.cell (p := ⟨w.heap.size, 0, none⟩) hsU).trans HSB.out.1; have x1 := (hb6.cell (p := ⟨w.heap.size, 1, none⟩) hsU).trans HSB.out.2.1; have x2 := (hb6.cell (p := ⟨w.heap.size, 2, none⟩) hsU).trans HSB.out.2.2.1; have x3 := (hb6.cell (p := ⟨w.heap.size, 3, none⟩) hsU).trans HSB.out.2.2.2; obtain ⟨o0, o1, o2, o3⟩ : w6.cell? ⟨gO, 0, none⟩ = some (.slice (some gm) ml cm) ∧ w6.cell? ⟨gO, 1, none⟩ = some (.slice va wl vc) ∧ w6.cell? ⟨gO, 2, none⟩ = some (.slice (some ⟨gwb, 0, none⟩) nl cw) ∧ w6.cell? ⟨gO, 3, none⟩ = some (.int .i64 s.fresh) := ⟨(hb6.cell (p := ⟨gO, 0, none⟩) hgU).trans HOB.out.1, (hb6.cell (p := ⟨gO, 1, none⟩) hgU).trans HOB.out.2.1, (hb6.cell (p := ⟨gO, 2, none⟩) hgU).trans HOB.out.2.2.1, (hb6.cell (p := ⟨gO, 3, none⟩) hgU).trans HOB.out.2.2.2⟩
    have s6 : w.heap.size < w6.heap.size := Nat.lt_of_lt_of_le hsU hb6.size
    have g6 : gO < w6.heap.size := Nat.lt_of_lt_of_le hgU hb6.size
    have HFSX := Lib.hid (fun W (h : Below w6.heap.size w6 W ∧ ∀ b o, b < w6.heap.size → W.cell? ⟨b, o, none⟩ = w6.cell? ⟨b, o, none⟩) => bothS1 (W0 := w6) (HFS.out W (HBX.out W (hb6.trans (h.1.mono hb6.size)))) h)
    have HFOX := Lib.hid (fun W (h : Below w6.heap.size w6 W ∧ ∀ b o, b < w6.heap.size → W.cell? ⟨b, o, none⟩ = w6.cell? ⟨b, o, none⟩) => bothS1 (W0 := w6) (HFO.out W (hb6.trans (h.1.mono hb6.size))) h)
    have HB6 := Lib.hid hb6
    clear hb6 hB6
    go_upto_region 6 with fail
    go_cut [8, 9] (fun v8 v9 wx => v8 = .int .i64 nS ∧ v9 = .int .i64 nO ∧ Below w6.heap.size w6 wx)
    case first =>
      go_region_held3 (fun w' => Below w6.heap.size w6 w' ∧ ∀ b o, b < w6.heap.size → w'.cell? ⟨b, o, none⟩ = w6.cell? ⟨b, o, none⟩) (first | with_reducible assumption | ((repeat (first | with_reducible refine bothS_drew ?_ | with_reducible refine bothS_alloc _ ?_ | with_reducible refine bothS_set _ _ (by first | omega | (simp; omega) | simp) ?_)); first | with_reducible assumption | with_reducible exact Hid.out (by assumption) | with_reducible exact ⟨Below.refl _ _, fun _ _ _ => rfl⟩)) (first | (go_at_call 31; with_reducible refine (HFSX.out _ ?_).mono ?_; (first | with_reducible assumption | ((repeat (first | with_reducible refine bothS_drew ?_ | with_reducible refine bothS_alloc _ ?_ | with_reducible refine bothS_set _ _ (by first | omega | (simp; omega) | simp) ?_)); first | with_reducible assumption | with_reducible exact Hid.out (by assumption) | with_reducible exact ⟨Below.refl _ _, fun _ _ _ => rfl⟩)); rintro e w' ⟨rfl, k, k1, k2, k3⟩; have HK := Lib.hid k; (try simp at k3); (try have k6 := Nat.lt_of_succ_le k3); (try have k7 := Nat.lt_of_succ_lt k6); (try have k8 := Nat.lt_of_succ_lt k3)) | (go_at_call 31; with_reducible refine (HFOX.out _ ?_).mono ?_; (first | with_reducible assumption | ((repeat (first | with_reducible refine bothS_drew ?_ | with_reducible refine bothS_alloc _ ?_ | with_reducible refine bothS_set _ _ (by first | omega | (simp; omega) | simp) ?_)); first | with_reducible assumption | with_reducible exact Hid.out (by assumption) | with_reducible exact ⟨Below.refl _ _, fun _ _ _ => rfl⟩)); rintro e w' ⟨rfl, k, k1, k2, k3⟩; have HK := Lib.hid k; (try simp at k3); (try have k6 := Nat.lt_of_succ_le k3); (try have k7 := Nat.lt_of_succ_lt k6); (try have k8 := Nat.lt_of_succ_lt k3)) | fail "no arm")
      all_goals (go_wp2_with fail; go_meet; exact ⟨rfl, rfl, And.left (by assumption)⟩)
    case rest =>
    obtain ⟨rfl, rfl, hBY⟩ := hcut
    obtain ⟨w7, rfl⟩ : ∃ w7 : World, w7 = wc := ⟨_, rfl⟩
    have hb7 := HB6.out.trans (hBY.mono HB6.out.size)
    have hw6 := HBX.out _ hb7
    have hs6 : w.heap.size < w7.heap.size := Nat.lt_of_lt_of_le hsU hb7.size
    clear x0 x1 x2 x3 o0 o1 o2 o3
    have x0 := (hb7.cell (p := ⟨w.heap.size, 0, none⟩) hsU).trans HSB.out.1; have x1 := (hb7.cell (p := ⟨w.heap.size, 1, none⟩) hsU).trans HSB.out.2.1; have x2 := (hb7.cell (p := ⟨w.heap.size, 2, none⟩) hsU).trans HSB.out.2.2.1; have x3 := (hb7.cell (p := ⟨w.heap.size, 3, none⟩) hsU).trans HSB.out.2.2.2
    have hn1 : ¬ nS < 0 := by omega
    clear hBY HFSX HFOX s6 g6
    by_cases hee : nO = nS
    · have hnb : (nO != nS) = false := by simpa using hee
      clear hnew
      go_wp2_with fail
      refine (HC2.out _ hw6).mono ?_
      rintro e u2 ⟨fm, fc, ka, kc, fw, fe, us, N2, rfl, hM, hWt, hfw, hO, hL, hN, hb3⟩
      have hu2 := hw6.trans (hb3.mono hw6.size)
      obtain ⟨nB, hnB⟩ : ∃ nB, nB = w7.heap.size := ⟨_, rfl⟩
      rw [← hnB] at hM hWt hO hN
      have hwB : w.heap.size < nB := by rw [hnB]; exact hs6
      have hBu : nB ≤ u2.heap.size := by rw [hnB]; exact hb3.size
      have hs3 : w.heap.size < u2.heap.size := Nat.lt_of_lt_of_le hs6 hb3.size
      have z0 := (hb3.cell (p := ⟨w.heap.size, 0, none⟩) hs6).trans x0
      have z1 := (hb3.cell (p := ⟨w.heap.size, 1, none⟩) hs6).trans x1
      have z2 := (hb3.cell (p := ⟨w.heap.size, 2, none⟩) hs6).trans x2
      have z3 := (hb3.cell (p := ⟨w.heap.size, 3, none⟩) hs6).trans x3
      clear x0 x1 x2 x3
      clear hb3 hnB hs6 hw6
      go_upto_region 12 with fail
      obtain ⟨U2, hU2, hb4, hPb, hPf, hgP⟩ := name1kf u2 #[.slice (some fm) ml fc, .slice ka wl kc, .slice (some fw) nl fe, .int .i64 s.fresh] 26
      have hPI : IsC U2 u2.heap.size 26 := by rw [← hU2]; exact IsC.new _ _ _
      rw [hU2]
      clear hU2
      obtain ⟨gP, hgPe⟩ : ∃ gP, gP = u2.heap.size := ⟨_, rfl⟩
      rw [← hgPe]
      rw [← hgPe] at hPb hPf hgP hPI
      have x0 := (hb4.cell (p := ⟨w.heap.size, 0, none⟩) hs3).trans z0
      have x1 := (hb4.cell (p := ⟨w.heap.size, 1, none⟩) hs3).trans z1
      have x2 := (hb4.cell (p := ⟨w.heap.size, 2, none⟩) hs3).trans z2
      have x3 := (hb4.cell (p := ⟨w.heap.size, 3, none⟩) hs3).trans z3
      obtain ⟨p0, p1, p2, p3⟩ : U2.cell? ⟨gP, 0, none⟩ = some (.slice (some fm) ml fc) ∧ U2.cell? ⟨gP, 1, none⟩ = some (.slice ka wl kc) ∧ U2.cell? ⟨gP, 2, none⟩ = some (.slice (some fw) nl fe) ∧ U2.cell? ⟨gP, 3, none⟩ = some (.int .i64 s.fresh) := ⟨hPb 0, hPb 1, hPb 2, hPb 3⟩
      have pf0 := hPf 0
      have hfmP : 0 < ml → fm.block < gP := fun h => by rw [hgPe]; exact hM.blt h
      have HMU := Lib.hid (hM.kept (grown_none hb4) (fun r e => by cases e))
      have hBU : nB ≤ U2.heap.size := by omega
      have HGP := Lib.hid hgPe
      have hfmB : 0 < ml → nB ≤ fm.block := fun h => by
        obtain ⟨g, e1, h1, -⟩ := hM.1.cell h
        injection e1 with e1
        subst e1
        exact h1
      have HWT := Lib.hid (hWt.kept (grown_none hb4) (fun r e => by cases e))
      have HOU := Lib.hid (hO.kept (grown_none hb4) (Classical.em _))
      have HLU := Lib.hid (hL.kept (grown_none hb4) (fun r e => by cases e))
      have HU2w := Lib.hid (hu2.trans (hb4.mono hu2.size))
      have HSX := Lib.hid (And.intro x0 (And.intro x1 (And.intro x2 x3)))
      have hgPB : nB ≤ gP := by omega
      clear z0 z1 z2 z3 hPb hgPe hM hWt hO hL hb4 hu2
      go_upto_region 13 with (at_builtin; go_must (refine wpList_append_more _ 22 48 _ 3 24 Try.underlying22 Try.info48 rfl (by decide) (by decide) nB fm ⟨U2.heap.size, 0, none⟩ ml fc _ [.int .i64 p, .int .i64 0, .int .i64 0] rfl (by simp [Value.oneCell']) (by omega) rfl _ _ rfl rfl rfl (HMU.out.kept (grown_none (by repeat (first | exact Below.refl _ _ | (refine Below.alloc ?_ (by first | omega | (simp; omega) | simp) _) | (refine Below.setCell ?_ (by first | omega | (simp; omega) | simp) _) | refine Below.drew ?_))) (fun r e => by cases e)) (three_newF _ _ _ _ _) (by simp; omega) ?_); go_must (intro ga c' wA R hF hg hR hat); go_must (have hRn : ¬ some gP = R := fun e => (by have := hR gP e.symm; have := hfmP this.2; omega)); go_must (have eA : wA.heap[gP]? = U2.heap[gP]? := (hg.block gP (by simp; omega) hRn).trans (Below.block (w := U2) (B := U2.heap.size) (by repeat (first | exact Below.refl _ _ | (refine Below.alloc ?_ (by first | omega | (simp; omega) | simp) _) | (refine Below.setCell ?_ (by first | omega | (simp; omega) | simp) _) | refine Below.drew ?_)) gP hgP)); have a0 := (World.cell?_of_block (w := U2) (a := ⟨gP, 0, none⟩) eA).trans p0; have af := (World.frozen?_of_block (w := U2) (a := ⟨gP, 0, none⟩) eA).trans pf0; have HFA := Lib.hid hF; have HGA := Lib.hid hg; have HEA := Lib.hid eA; have HRA := Lib.hid hR; have HAT := Lib.hid hat; clear hF hg hR hat eA)
      have HM0 := Lib.hid (MoreBox.first x p1 p2 p3 hPI HMU.out HWT.out hfw HOU.out HLU.out hN hBU (by repeat (first | exact Below.refl _ _ | (refine Below.alloc ?_ (by first | omega | (simp; omega) | simp) _) | (refine Below.setCell ?_ (by first | omega | (simp; omega) | simp) _) | refine Below.drew ?_)) HFA.out HGA.out HRA.out a0)
      have hBB0 : Below nB U2 wA := ((Below.refl nB U2).alloc hBU _).grown HGA.out (by simp; omega) (fun r hr => by have := HRA.out r hr; have := hfmB this.2; omega)
      have HBB := Lib.hid (hBB0.setCell hgPB _ : Below nB U2 (wA.setCell ⟨gP, 0, none⟩ (.slice (some ga) (ml + 1) c')))
      obtain ⟨B, hBe⟩ : ∃ B, wA.setCell ⟨gP, 0, none⟩ (.slice (some ga) (ml + 1) c') = B := ⟨_, rfl⟩
      rw [hBe]
      rw [hBe] at HM0 HBB
      obtain ⟨NN, hNN⟩ : ∃ NN, NN = min N2 U2.heap.size := ⟨_, rfl⟩
      rw [← hNN] at HM0
      clear hBB0 hBe hNN HFA HGA HEA HRA HAT HMU HWT HOU HLU a0 af p0 p1 p2 p3 pf0 hPf hPI hfmP hfmB x0 x1 x2 x3 hfw hN
      subst hlen
      have HXX := Lib.hid (fun W (hb : Below w.heap.size w W) => hx.below hb)
      have hxl := hx.1
      have HWL := Lib.hid hwlE
      clear hx hwlE
      go_wp2_with fail
      go_loopw [11] (fun i wr => ∃ (k : Nat) (us' : List Value), k ≤ xl ∧ i = .int .i64 k ∧ MoreBox s p x ml xl nl nB NN gP k ga c' ka kc fw fe us' wr ∧ Below nB U2 wr) (fun i _ => xl - (intOf i).toNat)
      case atStart => exact ⟨0, us, by omega, rfl, HM0.out, HBB.out⟩
      case round =>
        obtain ⟨k, us', hk, rfl, hMB, hBr⟩ := hrel
        obtain ⟨W1, rfl⟩ : ∃ W1 : World, W1 = wr := ⟨_, rfl⟩
        have HMB := Lib.hid hMB
        have HBR := Lib.hid hBr
        have hwW := HU2w.out.trans (hBr.mono (Nat.le_of_lt hwB))
        have HWW := Lib.hid hwW
        by_cases hlt : k < xl
        · have hkw : k < s.worlds.length := by rw [HWL.out]; exact hlt
          have hkx : k < x.length := by omega
          obtain ⟨⟨c0, c1, c2, c3⟩, hI, hMM, hWW, hff, hOO, hDD, hn', hN'⟩ := hMB
          obtain ⟨kg, rfl⟩ : ∃ kg, ka = some ⟨kg, 0, none⟩ := by
            rcases hOO.2 with ⟨_, h0⟩ | ⟨g, c, cur, e1, _⟩
            · omega
            · injection e1 with e1; exact ⟨g, e1⟩
          obtain ⟨hkg0, cur, hkc⟩ := own_parts hOO
          have hkgW : kg < W1.heap.size := (Array.getElem?_eq_some_iff.1 hkc).1
          have hML : (moreTo s.worlds x k).length = s.worlds.length := moreTo_len _ _ (by rw [HWL.out]; exact hxl) k (by omega)
          obtain ⟨ra, rc, hus, hFR⟩ := hDD.2.1 k (by rw [hML]; exact hkw)
          rw [moreTo_get _ _ (by rw [HWL.out]; exact hxl) k hkw] at hus hFR
          have r0 := hOO.cells (g := kg) rfl k _ hus
          rw [Addr.add_lit, Nat.zero_add] at r0
          have rf : W1.frozen? ⟨kg, k, none⟩ = false := by simp [World.frozen?, hkc]
          obtain ⟨xb, xo, rfl, hxb, hxc⟩ := (HXX.out _ hwW).2.2 (by omega)
          have cx := hxc k hkx
          have HNX := Lib.hid (fun (wP wB : World) (hP : Below W1.heap.size W1 wP) (R : Option Nat) (r2 : Addr) (c2 : Nat) hF hg hR hat => MoreBox.next (s := s) (p := p) (x := x) (k := k) (wP := wP) (wB := wB) (R := R) (r2 := r2) (c2 := c2) HMB.out (by rw [HWL.out]; exact hxl) hkw hkx hus hP hF hg hR hat)
          have hraN : 0 < s.worlds[k].length → nB ≤ ra.block := fun h => by
            obtain ⟨g, e1, h1, -⟩ := hFR.1.cell h
            injection e1 with e1
            subst e1
            show nB ≤ g
            omega
          have HBN := Lib.hid (fun (wP wB : World) (hP : Below W1.heap.size W1 wP) (R : Option Nat) (hg : wP.grownBy wB R) (hR : ∀ r, R = some r → r = ra.block ∧ 0 < s.worlds[k].length) (v : Value) => show Below nB U2 (wB.setCell ⟨kg, k, none⟩ v) from ((HBR.out.trans (hP.mono (Nat.le_trans hBU HBR.out.size))).grown hg (Nat.le_trans (Nat.le_trans hBU HBR.out.size) hP.size) (fun r hr => by have := hR r hr; have := hraN this.2; omega)).setCell hkg0 _)
          have hrk : 0 < s.worlds[k].length → ¬ ra.block = kg := fun h e => by
            obtain ⟨g, e1, ho⟩ := hFR.1.2 h
            injection e1 with e1
            subst e1
            obtain ⟨-, cu2, h2⟩ := own_parts ho
            simp only at e
            subst e
            rw [hkc] at h2
            injection h2 with h2
            injection h2 with _ h3
            exact absurd h3 (by decide)
          have hrP : 0 < s.worlds[k].length → ¬ ra.block = gP := fun h e => by
            obtain ⟨g, e1, ho⟩ := hFR.1.2 h
            injection e1 with e1
            subst e1
            obtain ⟨-, cu2, h2⟩ := own_parts ho
            obtain ⟨d, h4⟩ := hI
            simp only at e
            subst e
            rw [h4] at h2
            injection h2 with h2
            injection h2 with _ h3
            exact absurd h3 (by decide)
          have hyl := HX.out _ (List.getElem_mem hkw)
          obtain ⟨y, hy⟩ : ∃ y, s.worlds[k] = y := ⟨_, rfl⟩
          rw [hy] at HNX r0 hFR hrk hrP hyl HBN hraN
          obtain ⟨v1, hv1⟩ : ∃ v1, x[k] = v1 := ⟨_, rfl⟩
          rw [hv1] at HNX cx
          have HFR := Lib.hid hFR
          have hkl : (k : Int) < (xl : Int) := by omega
          have hk0 : (0 : Int) ≤ (k : Int) := by omega
          have hNW : NN ≤ W1.heap.size := hN'
          have hgPW : gP < W1.heap.size := hI.lt
          have hxbW : xb < W1.heap.size := hxb
          clear hus hFR hMM hWW hff hOO hDD hn' hI c0 c2 c3 hkc hML hy hv1 hxc hBr hwW HXX hkw hkg0
          go_upto_region 16 with fail
          have hmx : Try.prog.follows .mixedOrders = true := by kernel_rfl
          go_region_law
            (first
              | ((with_reducible refine step_append_one2 _ 24 3 _ 1 8 Try.underlying24 Try.info3 rfl (by decide) (by decide) NN ra y.length rc (y.map (Value.int .i64)) [.int .i64 v1] rfl (by simp [Value.oneCell']) (by omega) rfl _ _ rfl ?_ ?_ ?_ ?_ ?_); (· rfl); (· exact ⟨_, rfl, one_at (by go_simp)⟩); (· exact HFR.out.kept (grown_none (by repeat (first | exact Below.refl _ _ | (refine Below.alloc ?_ (by first | omega | (simp; omega) | simp) _) | (refine Below.setCell ?_ (by first | omega | (simp; omega) | simp) _) | refine Below.drew ?_))) (fun r e => by cases e)); (· first | omega | (simp; omega)); intro r2 c2 wB R hF hg hR hat; have eK : wB.heap[kg]? = W1.heap[kg]? := (hg.block kg (by first | omega | (simp; omega)) (fun e => by have := hR kg e.symm; exact hrk this.2 this.1.symm)).trans (Below.block (w := W1) (B := W1.heap.size) (by repeat (first | exact Below.refl _ _ | (refine Below.alloc ?_ (by first | omega | (simp; omega) | simp) _) | (refine Below.setCell ?_ (by first | omega | (simp; omega) | simp) _) | refine Below.drew ?_)) kg hkgW); have q0 := (World.cell?_of_block (w := W1) (a := ⟨kg, k, none⟩) eK).trans r0; have eP : wB.heap[gP]? = W1.heap[gP]? := (hg.block gP (by first | omega | (simp; omega)) (fun e => by have := hR gP e.symm; exact hrP this.2 this.1.symm)).trans (Below.block (w := W1) (B := W1.heap.size) (by repeat (first | exact Below.refl _ _ | (refine Below.alloc ?_ (by first | omega | (simp; omega) | simp) _) | (refine Below.setCell ?_ (by first | omega | (simp; omega) | simp) _) | refine Below.drew ?_)) gP hgPW); have qP := (World.cell?_of_block (w := W1) (a := ⟨gP, 1, none⟩) eP).trans c1; clear eP; have qf := (World.frozen?_of_block (w := W1) (a := ⟨kg, k, none⟩) eK).trans rf; have HF := Lib.hid hF; have HG := Lib.hid hg; have HR := Lib.hid hR; have HA := Lib.hid hat; clear hF hg hR hat eK)
              | fail "no arm")
          all_goals
            go_wp2_with fail
            go_roundw
            case rel => exact ⟨k + 1, _, by omega, by go_num, HNX.out _ wB (by repeat (first | exact Below.refl _ _ | (refine Below.alloc ?_ (by first | omega | (simp; omega) | simp) _) | (refine Below.setCell ?_ (by first | omega | (simp; omega) | simp) _) | refine Below.drew ?_)) R r2 c2 HF.out HG.out HR.out HA.out, HBN.out _ wB (by repeat (first | exact Below.refl _ _ | (refine Below.alloc ?_ (by first | omega | (simp; omega) | simp) _) | (refine Below.setCell ?_ (by first | omega | (simp; omega) | simp) _) | refine Below.drew ?_)) R HG.out HR.out _⟩
            case measure => simp [intOf]; omega
        · obtain rfl : xl = k := by omega
          have hl : x.length = s.worlds.length := by rw [HWL.out]; exact hxl
          have hMBa : MoreBox s p x ml xl nl nB NN gP s.worlds.length ga c' ka kc fw fe us' W1 := by rw [HWL.out]; exact HMB.out
          have HAT2 := Lib.hid (fun W (hb : Below W1.heap.size W1 W) => (hMBa.at hl (by omega) (by omega) (by omega) HX.out).below hb)
          obtain ⟨⟨c0, c1, c2, c3⟩, hI, -⟩ := hMBa
          have hgW := hI.lt
          have x0 := (hBr.cell (p := ⟨w.heap.size, 0, none⟩) hwB).trans HSX.out.1
          have x1 := (hBr.cell (p := ⟨w.heap.size, 1, none⟩) hwB).trans HSX.out.2.1
          have x2 := (hBr.cell (p := ⟨w.heap.size, 2, none⟩) hwB).trans HSX.out.2.2.1
          have x3 := (hBr.cell (p := ⟨w.heap.size, 3, none⟩) hwB).trans HSX.out.2.2.2
          have hsW : w.heap.size < W1.heap.size := by have := hBr.size; omega
          have HRDp := Lib.hid (fun b (h : (s.more p x).ok = b) => ready_is (s.more p x) (some ga) (ml + 1) c' ka xl kc (some fw) nl fe b h W1 (HAT2.out W1 (Below.refl _ _)))
          rw [show (s.more p x).fresh = s.fresh from rfl] at HRDp
          rcases hto2 : (s.more p x).ok with - | -
          · have HRD2 := Lib.hid (HRDp.out false hto2)
            clear hto2 hBr hI hwW
            go_wp2_with fail
            refine HRD2.out.mono ?_
            rintro e w3 ⟨rfl, hb3⟩
            go_wp2_with fail
            refine (works_any _).mono ?_
            rintro e w9 ⟨rfl, hb9⟩
            go_wp2_with fail
            go_ret
            exact ⟨rfl, HWW.out.trans ((hb3.trans (hb9.mono hb3.size)).mono (Nat.le_of_lt hsW))⟩
          · have HRD2 := Lib.hid (HRDp.out true hto2)
            have h0 : 0 < (s.more p x).left.length := by rw [more_len hl HO.out.1 hto2]; exact HO.out.2
            have HLF := Lib.hid (fun W (hb : Below W1.heap.size W1 W) => Left_yes (s.more p x) (some ga) (ml + 1) c' ka xl kc (some fw) nl fe ml (by omega) W (HAT2.out W hb) hto2 h0)
            have HSQ := Lib.hid (fun W (hb : Below W1.heap.size W1 W) => lawSure_is (s.more p x) (some ga) (ml + 1) c' ka xl kc (some fw) nl fe p hpn hto2 h0 W (HAT2.out W hb))
            rw [show (s.more p x).fresh = s.fresh from rfl] at HLF HSQ
            have hsum := more_sure (p := (p : Int)) hl HO.out.1 hto2
            rw [HMLE.out] at hsum
            have hlo := lo_bd hto2 ml
            have hhi := hi_bd hto2 ml
            have hlh := lo_hi h0 ml
            have ha := HSD.out
            generalize loOf (s.more p x).left ml = lo at *
            generalize hiOf (s.more p x).left ml = hi at *
            generalize sumOf (s.more p x).moulds (loOf (s.more p x).left) p = bb at *
            generalize sumOf s.moulds (loOf s.left) p = aa at *
            subst hsum
            have HIN := Lib.hid (fun W => inside_is lo hi 0 12 true (by simp; omega) W)
            clear hto2 hBr hI hwW h0 hlt hk
            go_wp2_with fail
            refine HRD2.out.mono ?_
            rintro e w3 ⟨rfl, hb3⟩
            have y0 := (hb3.cell (p := ⟨w.heap.size, 0, none⟩) hsW).trans x0
            have y1 := (hb3.cell (p := ⟨w.heap.size, 1, none⟩) hsW).trans x1
            have y2 := (hb3.cell (p := ⟨w.heap.size, 2, none⟩) hsW).trans x2
            have y3 := (hb3.cell (p := ⟨w.heap.size, 3, none⟩) hsW).trans x3
            have d0 := (hb3.cell (p := ⟨gP, 0, none⟩) hgW).trans c0
            have d1 := (hb3.cell (p := ⟨gP, 1, none⟩) hgW).trans c1
            have d2 := (hb3.cell (p := ⟨gP, 2, none⟩) hgW).trans c2
            have d3 := (hb3.cell (p := ⟨gP, 3, none⟩) hgW).trans c3
            have s3 := Nat.lt_of_lt_of_le hsW hb3.size
            have g3 := Nat.lt_of_lt_of_le hgW hb3.size
            have HB3 := Lib.hid hb3
            clear x0 x1 x2 x3 c0 c1 c2 c3 hb3
            go_wp2_with fail
            refine (HLF.out _ HB3.out).mono ?_
            rintro e w4 ⟨rfl, hb4⟩
            have x0 := (hb4.cell (p := ⟨w.heap.size, 0, none⟩) s3).trans y0
            have x1 := (hb4.cell (p := ⟨w.heap.size, 1, none⟩) s3).trans y1
            have x2 := (hb4.cell (p := ⟨w.heap.size, 2, none⟩) s3).trans y2
            have x3 := (hb4.cell (p := ⟨w.heap.size, 3, none⟩) s3).trans y3
            have c0 := (hb4.cell (p := ⟨gP, 0, none⟩) g3).trans d0
            have c1 := (hb4.cell (p := ⟨gP, 1, none⟩) g3).trans d1
            have c2 := (hb4.cell (p := ⟨gP, 2, none⟩) g3).trans d2
            have c3 := (hb4.cell (p := ⟨gP, 3, none⟩) g3).trans d3
            have s4 := Nat.lt_of_lt_of_le s3 hb4.size
            have g4 := Nat.lt_of_lt_of_le g3 hb4.size
            have hb4' := HB3.out.trans (hb4.mono HB3.out.size)
            clear y0 y1 y2 y3 d0 d1 d2 d3 hb4
            go_upto_region 20 with fail
            obtain ⟨V5, hV5, hb5, hVb, -, hgV⟩ := name1kf w4 #[.int .i64 lo, .int .i64 hi] 39
            rw [hV5]
            clear hV5
            have x0' := (hb5.cell (p := ⟨w.heap.size, 0, none⟩) s4).trans x0
            have x1' := (hb5.cell (p := ⟨w.heap.size, 1, none⟩) s4).trans x1
            have x2' := (hb5.cell (p := ⟨w.heap.size, 2, none⟩) s4).trans x2
            have x3' := (hb5.cell (p := ⟨w.heap.size, 3, none⟩) s4).trans x3
            have c0' := (hb5.cell (p := ⟨gP, 0, none⟩) g4).trans c0
            have c1' := (hb5.cell (p := ⟨gP, 1, none⟩) g4).trans c1
            have c2' := (hb5.cell (p := ⟨gP, 2, none⟩) g4).trans c2
            have c3' := (hb5.cell (p := ⟨gP, 3, none⟩) g4).trans c3
            have hs5 : w.heap.size < V5.heap.size := Nat.lt_of_lt_of_le s4 hb5.size
            have hg5 : gP < V5.heap.size := Nat.lt_of_lt_of_le g4 hb5.size
            have HVB := Lib.hid hVb
            have HB5 := Lib.hid (hb4'.trans (hb5.mono hb4'.size))
            have HQX := Lib.hid (fun W (h : Below V5.heap.size V5 W ∧ ∀ b o, b < V5.heap.size → W.cell? ⟨b, o, none⟩ = V5.cell? ⟨b, o, none⟩) => bothS1 (W0 := V5) (HSQ.out W (HB5.out.trans (h.1.mono HB5.out.size))) h)
            have HUX := Lib.hid (fun W (h : Below V5.heap.size V5 W ∧ ∀ b o, b < V5.heap.size → W.cell? ⟨b, o, none⟩ = V5.cell? ⟨b, o, none⟩) => bothS1 (W0 := V5) (HSU.out W (HWW.out.trans ((HB5.out.trans (h.1.mono HB5.out.size)).mono (Nat.le_of_lt hsW)))) h)
            clear x0 x1 x2 x3 c0 c1 c2 c3 hVb hb5 hb4'
            go_cut [14, 15] (fun v14 v15 wx => v14 = .int .i64 aa ∧ v15 = .int .i64 (aa + lo) ∧ Below V5.heap.size V5 wx)
            case first =>
              go_region_held3 (fun w' => Below V5.heap.size V5 w' ∧ ∀ b o, b < V5.heap.size → w'.cell? ⟨b, o, none⟩ = V5.cell? ⟨b, o, none⟩) (first | with_reducible assumption | ((repeat (first | with_reducible refine bothS_drew ?_ | with_reducible refine bothS_alloc _ ?_ | with_reducible refine bothS_set _ _ (by first | omega | (simp; omega) | simp) ?_)); first | with_reducible assumption | with_reducible exact Hid.out (by assumption) | with_reducible exact ⟨Below.refl _ _, fun _ _ _ => rfl⟩)) (first | (go_at_call 34; with_reducible refine (HQX.out _ ?_).mono ?_; (first | with_reducible assumption | ((repeat (first | with_reducible refine bothS_drew ?_ | with_reducible refine bothS_alloc _ ?_ | with_reducible refine bothS_set _ _ (by first | omega | (simp; omega) | simp) ?_)); first | with_reducible assumption | with_reducible exact Hid.out (by assumption) | with_reducible exact ⟨Below.refl _ _, fun _ _ _ => rfl⟩)); rintro e w' ⟨rfl, k, k1, k2, k3⟩; have HK := Lib.hid k; (try simp at k3); (try have k6 := Nat.lt_of_succ_le k3); (try have k7 := Nat.lt_of_succ_lt k6); (try have k8 := Nat.lt_of_succ_lt k3)) | (go_at_call 34; with_reducible refine (HUX.out _ ?_).mono ?_; (first | with_reducible assumption | ((repeat (first | with_reducible refine bothS_drew ?_ | with_reducible refine bothS_alloc _ ?_ | with_reducible refine bothS_set _ _ (by first | omega | (simp; omega) | simp) ?_)); first | with_reducible assumption | with_reducible exact Hid.out (by assumption) | with_reducible exact ⟨Below.refl _ _, fun _ _ _ => rfl⟩)); rintro e w' ⟨rfl, k, k1, k2, k3⟩; have HK := Lib.hid k; (try simp at k3); (try have k6 := Nat.lt_of_succ_le k3); (try have k7 := Nat.lt_of_succ_lt k6); (try have k8 := Nat.lt_of_succ_lt k3)) | fail "no arm")
              all_goals (go_wp2_with fail; go_meet; exact ⟨rfl, rfl, And.left (by assumption)⟩)
            case rest =>
            obtain ⟨rfl, rfl, hBY⟩ := hcut
            obtain ⟨w6, rfl⟩ : ∃ w6 : World, w6 = wc := ⟨_, rfl⟩
            have l0 := (hBY.cell (p := ⟨w4.heap.size, 0, none⟩) hgV).trans (HVB.out 0)
            have l1 := (hBY.cell (p := ⟨w4.heap.size, 1, none⟩) hgV).trans (HVB.out 1)
            simp only [List.getElem?_toArray, List.getElem?_cons_succ, List.getElem?_cons_zero] at l0 l1
            have HB6 := Lib.hid (HB5.out.trans (hBY.mono HB5.out.size))
            have hgV6 := Nat.lt_of_lt_of_le hgV hBY.size
            have haa : (0 : Int) ≤ aa := ha.1
            have hwr : IntKind.i64.wrap (aa + lo) = aa + lo := IntWalk.i64_in _ ⟨by omega, by omega⟩
            clear hBY HQX HUX x0' x1' x2' x3' c0' c1' c2' c3'
            go_wp2_with fail
            refine (HIN.out _).mono ?_
            rintro e w7 ⟨rfl, hb7⟩
            have m0 := (hb7.cell (p := ⟨w4.heap.size, 0, none⟩) hgV6).trans l0
            have HB7 := Lib.hid (HB6.out.trans (hb7.mono HB6.out.size))
            clear l0 l1 hb7
            go_wp2_with fail
            refine (works_any _).mono ?_
            rintro e w9 ⟨rfl, hb9⟩
            go_wp2_with fail
            go_ret
            exact ⟨rfl, HWW.out.trans ((HB7.out.trans (hb9.mono HB7.out.size)).mono (Nat.le_of_lt hsW))⟩
    · have hn2 : nO = nS + 1 := by omega
      subst hn2
      have hnb : (nS + 1 != nS) = true := by simp; omega
      have hnw : IntKind.i64.wrap (nS + 1) = nS + 1 := IntWalk.i64_in _ ⟨by omega, by omega⟩
      clear hnew hee
      exact absurd HSL.out.2 (by omega)
end Go.Proofs.Ytigeiaiohdemiaa
