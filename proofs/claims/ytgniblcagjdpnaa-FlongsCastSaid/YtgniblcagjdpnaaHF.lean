/- FlongsCast: the walk. -/
import Derived.Test.YtgniblcagjdpnaaHE
import Derived.Test.YtgniblcagjdpnaaGX
namespace Go.Proofs.Ytgniblcagjdpnaa
set_option linter.unusedVariables false
set_option linter.unusedSimpArgs false
open Go.RowKit


set_option maxRecDepth 100000 in
set_option maxHeartbeats 4000000 in
theorem cast_early (s : FShop) (ma : Option Addr) (ml mc : Nat) (wa : Option Addr) (wl wc : Nat) (na : Option Addr) (nl nc : Nat) (n : Int) (w : World) (hp : FAt w ma ml mc wa wl wc na nl nc s) (h : s.known = false ∨ (s.known = true ∧ btw n 0 ((ml : Int) - 1) = false) ∨ (s.known = true ∧ ∃ m : Nat, ∃ hm : m < s.moulds.length, n = (m : Int) ∧ s.moulds[m].b = 1)) :
    Calls Try.prog 4 #[.agg #[.slice ma ml mc, .slice wa wl wc, .slice na nl nc, .int .i64 s.fresh], .int .i64 n] w fun e w' => e = .returned (.bool true) ∧ Below w.heap.size w w' := by
  have HK := Lib.hid (fun b (h : s.known = b) W (hb : Below w.heap.size w W) => known_is s ma ml mc wa wl wc na nl nc b h W (hp.below hb))
  have hmm := hp.1.2.1
  have HI := Lib.hid (fun n b (h : btw n 0 ((ml : Int) - 1) = b) W (hb : Below w.heap.size w W) => IsMould_is s ma ml mc wa wl wc na nl nc n W hmm b h)
  rcases h with hk | ⟨hk, hf⟩ | ⟨hk, m, hm, rfl, h⟩
  · have HK1 := Lib.hid (HK.out _ hk)
    clear hk hp hmm
    go_enter Try.func4, Try.ntmps4
    go_wp2_with fail
    refine (HK1.out _ (by repeat (first | exact Below.refl _ _ | (refine Below.alloc ?_ (by first | omega | (simp; omega) | simp) _) | (refine Below.setCell ?_ (by first | omega | (simp; omega) | simp) _) | refine Below.drew ?_))).mono ?_
    rintro e w1 ⟨rfl, hb1⟩
    have hw1 := ((by repeat (first | exact Below.refl _ _ | (refine Below.alloc ?_ (by first | omega | (simp; omega) | simp) _) | (refine Below.setCell ?_ (by first | omega | (simp; omega) | simp) _) | refine Below.drew ?_)) : Below w.heap.size w _).trans (hb1.mono (by first | (simp; done) | (simp; omega) | omega))
    clear hb1
    go_wp2_with fail
    refine (works_any _).mono ?_
    rintro e w9 ⟨rfl, hb9⟩
    go_wp2_with fail
    go_ret
    exact ⟨rfl, hw1.trans (hb9.mono hw1.size)⟩
  · have HK1 := Lib.hid (HK.out _ hk)
    have HI1 := Lib.hid (HI.out n _ hf)
    clear hk hp hmm hf
    go_enter Try.func4, Try.ntmps4
    go_wp2_with fail
    refine (HK1.out _ (by repeat (first | exact Below.refl _ _ | (refine Below.alloc ?_ (by first | omega | (simp; omega) | simp) _) | (refine Below.setCell ?_ (by first | omega | (simp; omega) | simp) _) | refine Below.drew ?_))).mono ?_
    rintro e w1 ⟨rfl, hb1⟩
    have hx0 := fun i => (hb1.cell (p := ⟨w.heap.size, i, none⟩) (by simp)).trans (World.cell?_alloc_new w _ _ i)
    have x0 := hx0 0
    have x1 := hx0 1
    have x2 := hx0 2
    have x3 := hx0 3
    simp only [List.getElem?_toArray, List.getElem?_cons_succ, List.getElem?_cons_zero] at x0 x1 x2 x3
    have q1 : w.heap.size < w1.heap.size := by have := hb1.size; simp at this; omega
    have hw1 := ((by repeat (first | exact Below.refl _ _ | (refine Below.alloc ?_ (by first | omega | (simp; omega) | simp) _) | (refine Below.setCell ?_ (by first | omega | (simp; omega) | simp) _) | refine Below.drew ?_)) : Below w.heap.size w _).trans (hb1.mono (by first | (simp; done) | (simp; omega) | omega))
    clear hb1 hx0
    go_wp2_with fail
    refine (HI1.out _ (by repeat (first | assumption | exact Below.refl _ _ | (refine Below.alloc ?_ (by first | omega | (simp; omega) | simp) _) | (refine Below.setCell ?_ (by first | omega | (simp; omega) | simp) _) | refine Below.drew ?_))).mono ?_
    rintro e w2 ⟨rfl, hb2⟩
    have hw2 := hw1.trans (hb2.mono hw1.size)
    have q2 : w.heap.size < w2.heap.size := Nat.lt_of_lt_of_le q1 hb2.size
    have y0 := (hb2.cell (p := ⟨w.heap.size, 0, none⟩) q1).trans x0; have y1 := (hb2.cell (p := ⟨w.heap.size, 1, none⟩) q1).trans x1; have y2 := (hb2.cell (p := ⟨w.heap.size, 2, none⟩) q1).trans x2; have y3 := (hb2.cell (p := ⟨w.heap.size, 3, none⟩) q1).trans x3; clear x0 x1 x2 x3
    clear hb2
    go_wp2_with fail
    refine (works_any _).mono ?_
    rintro e w9 ⟨rfl, hb9⟩
    go_wp2_with fail
    go_ret
    exact ⟨rfl, hw2.trans (hb9.mono hw2.size)⟩
  · have HK1 := Lib.hid (HK.out _ hk)
    obtain ⟨⟨hml, -, hmc⟩, -⟩ := hp
    have HI1 := Lib.hid (HI.out (m : Int) true (by simp [btw]; omega))
    obtain ⟨mb, mo, rfl, hmB, hmc⟩ := hmc (by omega)
    obtain ⟨c0, c1, c2⟩ := hmc m hm
    have hmI : (m : Int) < (ml : Int) := by omega
    have hm0 : (0 : Int) ≤ (m : Int) := by omega
    generalize s.moulds[m] = M at *
    unfold maxLen at hmm
    clear hk hmc hml HI HK
    rw [h] at c2
    clear h
    go_enter Try.func4, Try.ntmps4
    go_wp2_with fail
    refine (HK1.out _ (by repeat (first | exact Below.refl _ _ | (refine Below.alloc ?_ (by first | omega | (simp; omega) | simp) _) | (refine Below.setCell ?_ (by first | omega | (simp; omega) | simp) _) | refine Below.drew ?_))).mono ?_
    rintro e w1 ⟨rfl, hb1⟩
    have hx0 := fun i => (hb1.cell (p := ⟨w.heap.size, i, none⟩) (by simp)).trans (World.cell?_alloc_new w _ _ i)
    have x0 := hx0 0
    have x1 := hx0 1
    have x2 := hx0 2
    have x3 := hx0 3
    simp only [List.getElem?_toArray, List.getElem?_cons_succ, List.getElem?_cons_zero] at x0 x1 x2 x3
    have q1 : w.heap.size < w1.heap.size := by have := hb1.size; simp at this; omega
    have hw1 := ((by repeat (first | exact Below.refl _ _ | (refine Below.alloc ?_ (by first | omega | (simp; omega) | simp) _) | (refine Below.setCell ?_ (by first | omega | (simp; omega) | simp) _) | refine Below.drew ?_)) : Below w.heap.size w _).trans (hb1.mono (by first | (simp; done) | (simp; omega) | omega))
    clear hb1 hx0
    go_wp2_with fail
    refine (HI1.out _ (by repeat (first | assumption | exact Below.refl _ _ | (refine Below.alloc ?_ (by first | omega | (simp; omega) | simp) _) | (refine Below.setCell ?_ (by first | omega | (simp; omega) | simp) _) | refine Below.drew ?_))).mono ?_
    rintro e w2 ⟨rfl, hb2⟩
    have hw2 := hw1.trans (hb2.mono hw1.size)
    have q2 : w.heap.size < w2.heap.size := Nat.lt_of_lt_of_le q1 hb2.size
    have y0 := (hb2.cell (p := ⟨w.heap.size, 0, none⟩) q1).trans x0; have y1 := (hb2.cell (p := ⟨w.heap.size, 1, none⟩) q1).trans x1; have y2 := (hb2.cell (p := ⟨w.heap.size, 2, none⟩) q1).trans x2; have y3 := (hb2.cell (p := ⟨w.heap.size, 3, none⟩) q1).trans x3; clear x0 x1 x2 x3
    have d0 := (hw2.cell (p := ⟨mb, mo + m * 3, none⟩) hmB).trans c0
    have d1 := (hw2.cell (p := ⟨mb, mo + m * 3 + 1, none⟩) hmB).trans c1
    have d2 := (hw2.cell (p := ⟨mb, mo + m * 3 + 2, none⟩) hmB).trans c2
    clear hb2 c0 c1 c2
    go_wp2_with fail
    refine (works_any _).mono ?_
    rintro e w9 ⟨rfl, hb9⟩
    go_wp2_with fail
    go_ret
    exact ⟨rfl, hw2.trans (hb9.mono hw2.size)⟩

set_option maxRecDepth 100000 in
set_option maxHeartbeats 16000000 in
theorem castlaw_walk (s : FShop) (ma : Option Addr) (ml mc : Nat) (wa : Option Addr) (wl wc : Nat) (na : Option Addr) (nl nc : Nat) (m : Nat) (hm : m < s.moulds.length) (w : World) (hp : FAt w ma ml mc wa wl wc na nl nc s) (hk : s.known = true) (hb1 : s.moulds[m].b ≠ 1) :
    Calls Try.prog 4 #[.agg #[.slice ma ml mc, .slice wa wl wc, .slice na nl nc, .int .i64 s.fresh], .int .i64 m] w fun e w' => e = .returned (.bool true) ∧ Below w.heap.size w w' := by
  obtain ⟨ho, hl0⟩ : s.ok = true ∧ 0 < s.left.length := by simpa [FShop.known] using hk
  have hmm := hp.1.2.1
  have hml := hp.1.1
  have hwl := hp.2.1.1
  have hnl := hp.2.2.1
  obtain ⟨hn3, hm5, hw6⟩ := FShop.ok_few ho
  have hx40 : ∀ x ∈ s.worlds, x.length ≤ 40 := fun x hx => by
    obtain ⟨k, hk, rfl⟩ := List.mem_iff_getElem.1 hx
    have := (FShop.ok_world ho k hk).1; omega
  have HK1 := Lib.hid (fun W (hb : Below w.heap.size w W) => known_is s ma ml mc wa wl wc na nl nc true hk W (hp.below hb))
  have HI1 := Lib.hid (fun W (hb : Below w.heap.size w W) => IsMould_is s ma ml mc wa wl wc na nl nc (m : Int) W hmm true (by simp [btw]; omega))
  have HCA := Lib.hid (fun W (hb : Below w.heap.size w W) => cast_is s ma ml mc wa wl wc na nl nc m 0 hm (.inl rfl) ho W (hp.below hb))
  have HWS := Lib.hid (fun W (hb : Below w.heap.size w W) => Worlds_yes s ma ml mc wa wl wc na nl nc W (hp.below hb) ho (by simp [FShop.chk, ho]))
  have HLS := Lib.hid (fun W (hb : Below w.heap.size w W) => lawLefts_yes s ma ml mc wa wl wc na nl nc W (hp.below hb) ho hl0)
  have HFS := Lib.hid (fun W (hb : Below w.heap.size w W) => lawFresh_is s ma ml mc wa wl wc na nl nc ho hl0 W (hp.below hb))
  have hM := FShop.ok_mould ho m hm
  obtain ⟨p, hpM⟩ : ∃ p : Nat, s.moulds[m].p = (p : Int) := ⟨s.moulds[m].p.toNat, by have := hM.1.1; omega⟩
  have hpl : p < s.wants.length := by have := hM.1.2; omega
  have hpn : p < nl := by omega
  have HAT := Lib.hid (fun n0' gm cm va vc gw cw vs N1 W (h : CopyRow (s.cast m 0) n0' ml wl nl gm cm va vc gw cw vs N1 W) => h.at (by omega) (by omega) (by omega) hx40)
  have HAT2 := Lib.hid (fun n0' gm cm va vc gw cw vs N1 W (h : CopyRow ((s.cast m 0).want p (s.wants[p] - 1)) n0' ml wl nl gm cm va vc gw cw vs N1 W) => h.at (by omega) (by omega) (by omega) hx40)
  obtain ⟨mb, mo, rfl, hmB, hmc⟩ := hp.1.2.2 (by omega)
  obtain ⟨c0, c1, c2⟩ := hmc m hm
  rw [hpM] at c0
  have hmI : (m : Int) < (ml : Int) := by omega
  have hm0 : (0 : Int) ≤ (m : Int) := by omega
  have hpI : (p : Int) < (nl : Int) := by omega
  have hp0 : (0 : Int) ≤ (p : Int) := by omega
  have hbB : (s.moulds[m].b == 1) = false := by simpa using hb1
  have hmlen : ml ≤ 5 := by omega
  have hwlen : wl ≤ 6 := by omega
  have hnlen : nl ≤ 3 := by omega
  have hvl : s.which.length ≤ wl := by rw [which_left, ← hwl, left_count]; exact List.countP_le_length
  have hwlv := cast_which_len ho hm hb1
  have HCW := Lib.hid (fun k hk => cast_which ho hm hb1 k hk)
  have HKO := Lib.hid (fun b (h : (s.cast m 0).known = b) gm cm va vc gw cw W (h' : FAt W gm ml cm va wl vc gw nl cw (s.cast m 0)) => known_is (s.cast m 0) gm ml cm va wl vc gw nl cw b h W h')
  have hwb := FShop.ok_want ho p hpl
  unfold maxLen at hmm
  have HALL := Lib.hid (show (s.cast m 0).known = true → ((s.cast m 0).ok = true ∧ 0 < (s.cast m 0).left.length) from fun h => by simpa [FShop.known] using h)
  have HLO := Lib.hid (fun h0 t => cast_lo ho hm hb1 h0 t)
  have HNEW := Lib.hid (fun h0 => cast_new ho hm hb1 h0 hpM.symm hpl)
  have HLB := Lib.hid (fun t => lo_bd ho t)
  have hnS : 0 ≤ s.newAll := (newTo_bd ho _ (Nat.le_refl _)).1
  have HP := Lib.hid (fun W (hb : Below w.heap.size w W) => hp.below hb)
  have HCWANT := Lib.hid (show (s.cast m 0).wants = s.wants from rfl)
  clear hp hk hl0 hmc hb1 hM hpM hml hwl hn3 hm5 hw6 hx40
  generalize s.moulds[m].u = MU at *
  generalize s.moulds[m].b = MB at *
  clear ho
  go_enter Try.func4, Try.ntmps4
  go_wp2_with fail
  refine (HK1.out _ (by repeat (first | exact Below.refl _ _ | (refine Below.alloc ?_ (by first | omega | (simp; omega) | simp) _) | (refine Below.setCell ?_ (by first | omega | (simp; omega) | simp) _) | refine Below.drew ?_))).mono ?_
  rintro e w1 ⟨rfl, hb1⟩
  have hx0 := fun i => (hb1.cell (p := ⟨w.heap.size, i, none⟩) (by simp)).trans (World.cell?_alloc_new w _ _ i)
  have x0 := hx0 0
  have x1 := hx0 1
  have x2 := hx0 2
  have x3 := hx0 3
  simp only [List.getElem?_toArray, List.getElem?_cons_succ, List.getElem?_cons_zero] at x0 x1 x2 x3
  have q1 : w.heap.size < w1.heap.size := by have := hb1.size; simp at this; omega
  have hw1 := ((by repeat (first | exact Below.refl _ _ | (refine Below.alloc ?_ (by first | omega | (simp; omega) | simp) _) | (refine Below.setCell ?_ (by first | omega | (simp; omega) | simp) _) | refine Below.drew ?_)) : Below w.heap.size w _).trans (hb1.mono (by first | (simp; done) | (simp; omega) | omega))
  clear hb1 hx0
  go_wp2_with fail
  refine (HI1.out _ (by repeat (first | assumption | exact Below.refl _ _ | (refine Below.alloc ?_ (by first | omega | (simp; omega) | simp) _) | (refine Below.setCell ?_ (by first | omega | (simp; omega) | simp) _) | refine Below.drew ?_))).mono ?_
  rintro e w2 ⟨rfl, hb2⟩
  have hw2 := hw1.trans (hb2.mono hw1.size)
  have q2 : w.heap.size < w2.heap.size := Nat.lt_of_lt_of_le q1 hb2.size
  have y0 := (hb2.cell (p := ⟨w.heap.size, 0, none⟩) q1).trans x0; have y1 := (hb2.cell (p := ⟨w.heap.size, 1, none⟩) q1).trans x1; have y2 := (hb2.cell (p := ⟨w.heap.size, 2, none⟩) q1).trans x2; have y3 := (hb2.cell (p := ⟨w.heap.size, 3, none⟩) q1).trans x3; clear x0 x1 x2 x3
  have d0 := (hw2.cell (p := ⟨mb, mo + m * 3, none⟩) hmB).trans c0
  have d1 := (hw2.cell (p := ⟨mb, mo + m * 3 + 1, none⟩) hmB).trans c1
  have d2 := (hw2.cell (p := ⟨mb, mo + m * 3 + 2, none⟩) hmB).trans c2
  clear hb2
  go_wp2_with fail
  refine (HCA.out _ hw2).mono ?_
  rintro e u1 ⟨gm, cm, va, vc, gw, cw, vs, N1, rfl, hR1, hb3⟩
  rw [show (s.cast m 0).fresh = s.fresh from rfl]
  have hu1 := hw2.trans (hb3.mono hw2.size)
  obtain ⟨gwb, egw, hgw0, hgwl, hgwc, hgwf⟩ := hR1.2.1.cell (show 0 < nl by omega)
  injection egw with egw
  subst egw
  have hwc := hgwc p (.int .i64 s.wants[p]) (by rw [HCWANT.out, List.getElem?_map, List.getElem?_eq_getElem hpl]; rfl)
  have hwf := hgwf p
  have q3 : w.heap.size < u1.heap.size := Nat.lt_of_lt_of_le q2 hb3.size
  have q4 : w.heap.size < gwb := by omega
  have x0 := (hb3.cell (p := ⟨w.heap.size, 0, none⟩) q2).trans y0; have x1 := (hb3.cell (p := ⟨w.heap.size, 1, none⟩) q2).trans y1; have x2 := (hb3.cell (p := ⟨w.heap.size, 2, none⟩) q2).trans y2; have x3 := (hb3.cell (p := ⟨w.heap.size, 3, none⟩) q2).trans y3; clear y0 y1 y2 y3
  have HR1 := Lib.hid hR1
  obtain ⟨n0', hn0'⟩ : ∃ n0', n0' = w2.heap.size := ⟨_, rfl⟩
  rw [← hn0'] at HR1
  clear hb3 hgwc hgwf d0 d1 d2 hR1 hgw0 hn0' hw1 hw2 q1 q2
  go_wp2_with fail
  obtain ⟨U, hU, hb4, hOb, -, hgU⟩ := name1kf u1 #[.slice (some gm) ml cm, .slice va wl vc, .slice (some ⟨gwb, 0, none⟩) nl cw, .int .i64 s.fresh] 26
  rw [hU]
  clear hU
  obtain ⟨gO, hgO⟩ : ∃ gO, gO = u1.heap.size := ⟨_, rfl⟩
  rw [← hgO]
  rw [← hgO] at hOb hgU
  have hgwO : gwb < gO := by omega
  have HSB := Lib.hid (And.intro ((hb4.cell (p := ⟨w.heap.size, 0, none⟩) q3).trans x0) (And.intro ((hb4.cell (p := ⟨w.heap.size, 1, none⟩) q3).trans x1) (And.intro ((hb4.cell (p := ⟨w.heap.size, 2, none⟩) q3).trans x2) ((hb4.cell (p := ⟨w.heap.size, 3, none⟩) q3).trans x3))))
  have HOB := Lib.hid (show U.cell? ⟨gO, 0, none⟩ = some (.slice (some gm) ml cm) ∧ U.cell? ⟨gO, 1, none⟩ = some (.slice va wl vc) ∧ U.cell? ⟨gO, 2, none⟩ = some (.slice (some ⟨gwb, 0, none⟩) nl cw) ∧ U.cell? ⟨gO, 3, none⟩ = some (.int .i64 s.fresh) from ⟨hOb 0, hOb 1, hOb 2, hOb 3⟩)
  have hsU : w.heap.size < U.heap.size := Nat.lt_of_lt_of_le q3 hb4.size
  have HRU := Lib.hid (fun W (hb : Below U.heap.size U W) => (HR1.out.below hb4).below hb)
  have hwU := hu1.trans (hb4.mono hu1.size)
  have HBS := Lib.hid (fun W (hb : Below U.heap.size U W) => hwU.trans (hb.mono hwU.size))
  have HWC := Lib.hid ((hb4.cell (p := ⟨gwb, p, none⟩) hgwl).trans hwc)
  have HWF := Lib.hid ((hb4.frozen (p := ⟨gwb, p, none⟩) hgwl).trans hwf)
  have hgwU : gwb < U.heap.size := by omega
  have HOG := Lib.hid hgO
  clear x0 x1 x2 x3
  clear hb4 hOb HR1 hu1 hwU hwc hwf hgwl q3 hgO
  have hUU : Below U.heap.size U U := Below.refl _ _
  have x0 := (hUU.cell (p := ⟨w.heap.size, 0, none⟩) hsU).trans HSB.out.1; have x1 := (hUU.cell (p := ⟨w.heap.size, 1, none⟩) hsU).trans HSB.out.2.1; have x2 := (hUU.cell (p := ⟨w.heap.size, 2, none⟩) hsU).trans HSB.out.2.2.1; have x3 := (hUU.cell (p := ⟨w.heap.size, 3, none⟩) hsU).trans HSB.out.2.2.2; obtain ⟨o0, o1, o2, o3⟩ : U.cell? ⟨gO, 0, none⟩ = some (.slice (some gm) ml cm) ∧ U.cell? ⟨gO, 1, none⟩ = some (.slice va wl vc) ∧ U.cell? ⟨gO, 2, none⟩ = some (.slice (some ⟨gwb, 0, none⟩) nl cw) ∧ U.cell? ⟨gO, 3, none⟩ = some (.int .i64 s.fresh) := ⟨(hUU.cell (p := ⟨gO, 0, none⟩) hgU).trans HOB.out.1, (hUU.cell (p := ⟨gO, 1, none⟩) hgU).trans HOB.out.2.1, (hUU.cell (p := ⟨gO, 2, none⟩) hgU).trans HOB.out.2.2.1, (hUU.cell (p := ⟨gO, 3, none⟩) hgU).trans HOB.out.2.2.2⟩
  rcases hk2 : (s.cast m 0).known with - | -
  · have HK2 := Lib.hid (HKO.out false hk2 _ _ _ _ _ _ U (HAT.out _ _ _ _ _ _ _ _ _ U (HRU.out U hUU)))
    clear hk2
    go_wp2_with fail
    refine HK2.out.mono ?_
    rintro e w6 ⟨rfl, hb6⟩
    go_wp2_with fail
    refine (works_any _).mono ?_
    rintro e w9 ⟨rfl, hb9⟩
    go_wp2_with fail
    go_ret
    exact ⟨rfl, HBS.out _ (hb6.trans (hb9.mono hb6.size))⟩
  have HK2 := Lib.hid (HKO.out true hk2 _ _ _ _ _ _ U (HAT.out _ _ _ _ _ _ _ _ _ U (HRU.out U hUU)))
  obtain ⟨ho2, hl2⟩ := HALL.out hk2
  have HWO := Lib.hid (fun W (hb : Below U.heap.size U W) => Worlds_yes (s.cast m 0) (some gm) ml cm va wl vc (some ⟨gwb, 0, none⟩) nl cw W (HAT.out _ _ _ _ _ _ _ _ _ W (HRU.out W hb)) ho2 (by simp [FShop.chk, ho2]))
  have HLO2 := Lib.hid (fun W (hb : Below U.heap.size U W) => lawLefts_yes (s.cast m 0) (some gm) ml cm va wl vc (some ⟨gwb, 0, none⟩) nl cw W (HAT.out _ _ _ _ _ _ _ _ _ W (HRU.out W hb)) ho2 hl2)
  have HLL := Lib.hid (HLO.out hl2)
  have hnew := HNEW.out hl2
  have HNN := Lib.hid (fun (hv : s.wants[p] ≠ 0) => show ((s.cast m 0).want p (s.wants[p] - 1)).ok = true from want_ok ho2 (by omega))
  have HFO := Lib.hid (fun (hv : s.wants[p] ≠ 0) W (h : CopyRow ((s.cast m 0).want p (s.wants[p] - 1)) n0' ml wl nl gm cm va vc ⟨gwb, 0, none⟩ cw vs N1 W) => lawFresh_is ((s.cast m 0).want p (s.wants[p] - 1)) (some gm) ml cm va wl vc (some ⟨gwb, 0, none⟩) nl cw (HNN.out hv) hl2 W (HAT2.out _ _ _ _ _ _ _ _ _ W h))
  have HNB := Lib.hid (fun (hv : s.wants[p] ≠ 0) => show 0 ≤ ((s.cast m 0).want p (s.wants[p] - 1)).newAll from (newTo_bd (HNN.out hv) _ (Nat.le_refl _)).1)
  have hfr1 : (s.cast m 0).fresh = s.fresh := rfl
  have hfr2 : ((s.cast m 0).want p (s.wants[p] - 1)).fresh = s.fresh := rfl
  rw [hfr1] at HWO HLO2
  rw [hfr2] at HFO
  clear hk2 ho2 hl2 HLO HNEW hfr1 hfr2 HKO HALL
  go_wp2_with fail
  refine HK2.out.mono ?_
  rintro e w6 ⟨rfl, hB6⟩
  clear x0 x1 x2 x3 o0 o1 o2 o3
  have x0 := (hB6.cell (p := ⟨w.heap.size, 0, none⟩) hsU).trans HSB.out.1; have x1 := (hB6.cell (p := ⟨w.heap.size, 1, none⟩) hsU).trans HSB.out.2.1; have x2 := (hB6.cell (p := ⟨w.heap.size, 2, none⟩) hsU).trans HSB.out.2.2.1; have x3 := (hB6.cell (p := ⟨w.heap.size, 3, none⟩) hsU).trans HSB.out.2.2.2; obtain ⟨o0, o1, o2, o3⟩ : w6.cell? ⟨gO, 0, none⟩ = some (.slice (some gm) ml cm) ∧ w6.cell? ⟨gO, 1, none⟩ = some (.slice va wl vc) ∧ w6.cell? ⟨gO, 2, none⟩ = some (.slice (some ⟨gwb, 0, none⟩) nl cw) ∧ w6.cell? ⟨gO, 3, none⟩ = some (.int .i64 s.fresh) := ⟨(hB6.cell (p := ⟨gO, 0, none⟩) hgU).trans HOB.out.1, (hB6.cell (p := ⟨gO, 1, none⟩) hgU).trans HOB.out.2.1, (hB6.cell (p := ⟨gO, 2, none⟩) hgU).trans HOB.out.2.2.1, (hB6.cell (p := ⟨gO, 3, none⟩) hgU).trans HOB.out.2.2.2⟩
  go_wp2_with fail
  refine (HWS.out _ (HBS.out _ hB6)).mono ?_
  rintro e w7 ⟨ra, rc, rfl, hri, hb7⟩
  have hB7 := hB6.trans (hb7.mono hB6.size)
  have HRI7 := Lib.hid hri
  clear x0 x1 x2 x3 o0 o1 o2 o3
  have x0 := (hB7.cell (p := ⟨w.heap.size, 0, none⟩) hsU).trans HSB.out.1; have x1 := (hB7.cell (p := ⟨w.heap.size, 1, none⟩) hsU).trans HSB.out.2.1; have x2 := (hB7.cell (p := ⟨w.heap.size, 2, none⟩) hsU).trans HSB.out.2.2.1; have x3 := (hB7.cell (p := ⟨w.heap.size, 3, none⟩) hsU).trans HSB.out.2.2.2; obtain ⟨o0, o1, o2, o3⟩ : w7.cell? ⟨gO, 0, none⟩ = some (.slice (some gm) ml cm) ∧ w7.cell? ⟨gO, 1, none⟩ = some (.slice va wl vc) ∧ w7.cell? ⟨gO, 2, none⟩ = some (.slice (some ⟨gwb, 0, none⟩) nl cw) ∧ w7.cell? ⟨gO, 3, none⟩ = some (.int .i64 s.fresh) := ⟨(hB7.cell (p := ⟨gO, 0, none⟩) hgU).trans HOB.out.1, (hB7.cell (p := ⟨gO, 1, none⟩) hgU).trans HOB.out.2.1, (hB7.cell (p := ⟨gO, 2, none⟩) hgU).trans HOB.out.2.2.1, (hB7.cell (p := ⟨gO, 3, none⟩) hgU).trans HOB.out.2.2.2⟩
  clear hb7 hri hB6
  go_wp2_with fail
  refine (HWO.out _ hB7).mono ?_
  rintro e w8 ⟨ta, tc, rfl, hti, hb8⟩
  have hB8 := hB7.trans (hb8.mono hB7.size)
  have HRI8 := Lib.hid (HRI7.out.below hb8)
  have HTI8 := Lib.hid hti
  clear x0 x1 x2 x3 o0 o1 o2 o3
  have x0 := (hB8.cell (p := ⟨w.heap.size, 0, none⟩) hsU).trans HSB.out.1; have x1 := (hB8.cell (p := ⟨w.heap.size, 1, none⟩) hsU).trans HSB.out.2.1; have x2 := (hB8.cell (p := ⟨w.heap.size, 2, none⟩) hsU).trans HSB.out.2.2.1; have x3 := (hB8.cell (p := ⟨w.heap.size, 3, none⟩) hsU).trans HSB.out.2.2.2; obtain ⟨o0, o1, o2, o3⟩ : w8.cell? ⟨gO, 0, none⟩ = some (.slice (some gm) ml cm) ∧ w8.cell? ⟨gO, 1, none⟩ = some (.slice va wl vc) ∧ w8.cell? ⟨gO, 2, none⟩ = some (.slice (some ⟨gwb, 0, none⟩) nl cw) ∧ w8.cell? ⟨gO, 3, none⟩ = some (.int .i64 s.fresh) := ⟨(hB8.cell (p := ⟨gO, 0, none⟩) hgU).trans HOB.out.1, (hB8.cell (p := ⟨gO, 1, none⟩) hgU).trans HOB.out.2.1, (hB8.cell (p := ⟨gO, 2, none⟩) hgU).trans HOB.out.2.2.1, (hB8.cell (p := ⟨gO, 3, none⟩) hgU).trans HOB.out.2.2.2⟩
  clear hb8 hti HRI7 hB7
  generalize (s.cast m 0).which = wO at *
  generalize s.which = wS at *
  have hlt1 : ¬ (wS.length : Int) < (wO.length : Int) := by omega
  have hlt2 : ¬ (wl : Int) < (wS.length : Int) := by omega
  have hltN1 : decide (wS.length < wO.length) = false := by simp; omega
  have hltN2 : decide (wl < wS.length) = false := by simp; omega
  go_wp2_with fail
  clear hlt1 hlt2 hltN1 hltN2
  clear x0 x1 x2 x3 o0 o1 o2 o3
  go_loopw [10] (fun i wr => ∃ k : Nat, k ≤ wO.length ∧ i = .int .i64 k ∧ Below w8.heap.size w8 wr) (fun i _ => wO.length - (intOf i).toNat)
  case atStart => exact ⟨0, by omega, rfl, Below.refl _ _⟩
  case round =>
    obtain ⟨k, hk, rfl, hB⟩ := hrel
    obtain ⟨W1, rfl⟩ : ∃ W1 : World, W1 = wr := ⟨_, rfl⟩
    by_cases hlt : k < wO.length
    · obtain ⟨tb, to', rfl, htb, htc⟩ := HTI8.out.2.2 (by omega)
      have cw' := (hB.cell (p := ⟨tb, to' + k, none⟩) htb).trans (htc k hlt)
      have HI := Lib.hid (In_is ra wS.length rc wS wO[k] true (decide_eq_true (HCW.out k hlt)) W1 (HRI8.out.below hB))
      have HB := Lib.hid hB
      have hkl : (k : Int) < (wO.length : Int) := by omega
      have hk0 : (0 : Int) ≤ (k : Int) := by omega
      clear hB htc
      generalize wO[k] = v at *
      go_wp2_with fail
      refine HI.out.mono ?_
      rintro e wI ⟨rfl, hbI⟩
      have HB2 := Lib.hid (HB.out.trans (hbI.mono HB.out.size))
      clear hbI
      go_wp2_with fail
      go_roundw
      case rel => exact ⟨k + 1, by omega, by go_num, HB2.out⟩
      case measure => simp [intOf]; omega
    · obtain rfl : wO.length = k := by omega
      clear hlt hk
      have hB9 := hB8.trans (hB.mono hB8.size)
      have x0 := (hB9.cell (p := ⟨w.heap.size, 0, none⟩) hsU).trans HSB.out.1; have x1 := (hB9.cell (p := ⟨w.heap.size, 1, none⟩) hsU).trans HSB.out.2.1; have x2 := (hB9.cell (p := ⟨w.heap.size, 2, none⟩) hsU).trans HSB.out.2.2.1; have x3 := (hB9.cell (p := ⟨w.heap.size, 3, none⟩) hsU).trans HSB.out.2.2.2; obtain ⟨o0, o1, o2, o3⟩ : W1.cell? ⟨gO, 0, none⟩ = some (.slice (some gm) ml cm) ∧ W1.cell? ⟨gO, 1, none⟩ = some (.slice va wl vc) ∧ W1.cell? ⟨gO, 2, none⟩ = some (.slice (some ⟨gwb, 0, none⟩) nl cw) ∧ W1.cell? ⟨gO, 3, none⟩ = some (.int .i64 s.fresh) := ⟨(hB9.cell (p := ⟨gO, 0, none⟩) hgU).trans HOB.out.1, (hB9.cell (p := ⟨gO, 1, none⟩) hgU).trans HOB.out.2.1, (hB9.cell (p := ⟨gO, 2, none⟩) hgU).trans HOB.out.2.2.1, (hB9.cell (p := ⟨gO, 3, none⟩) hgU).trans HOB.out.2.2.2⟩
      clear hB hB8
      go_wp2_with fail
      refine (HLS.out _ (HBS.out _ hB9)).mono ?_
      rintro e w10 ⟨la, lc, rfl, hsp, hb10⟩
      have hB10 := hB9.trans (hb10.mono hB9.size)
      have HSP10 := Lib.hid hsp
      clear x0 x1 x2 x3 o0 o1 o2 o3
      have x0 := (hB10.cell (p := ⟨w.heap.size, 0, none⟩) hsU).trans HSB.out.1; have x1 := (hB10.cell (p := ⟨w.heap.size, 1, none⟩) hsU).trans HSB.out.2.1; have x2 := (hB10.cell (p := ⟨w.heap.size, 2, none⟩) hsU).trans HSB.out.2.2.1; have x3 := (hB10.cell (p := ⟨w.heap.size, 3, none⟩) hsU).trans HSB.out.2.2.2; obtain ⟨o0, o1, o2, o3⟩ : w10.cell? ⟨gO, 0, none⟩ = some (.slice (some gm) ml cm) ∧ w10.cell? ⟨gO, 1, none⟩ = some (.slice va wl vc) ∧ w10.cell? ⟨gO, 2, none⟩ = some (.slice (some ⟨gwb, 0, none⟩) nl cw) ∧ w10.cell? ⟨gO, 3, none⟩ = some (.int .i64 s.fresh) := ⟨(hB10.cell (p := ⟨gO, 0, none⟩) hgU).trans HOB.out.1, (hB10.cell (p := ⟨gO, 1, none⟩) hgU).trans HOB.out.2.1, (hB10.cell (p := ⟨gO, 2, none⟩) hgU).trans HOB.out.2.2.1, (hB10.cell (p := ⟨gO, 3, none⟩) hgU).trans HOB.out.2.2.2⟩
      clear hb10 hsp hB9
      go_wp2_with fail
      refine (HLO2.out _ hB10).mono ?_
      rintro e w11 ⟨ka, kc, rfl, hsq, hb11⟩
      have hB11 := hB10.trans (hb11.mono hB10.size)
      have HSP11 := Lib.hid (HSP10.out.below hb11)
      have HSQ11 := Lib.hid hsq
      have HB11 := Lib.hid hB11
      clear x0 x1 x2 x3 o0 o1 o2 o3
      clear hb11 hsq hB10 HSP10 hB11
      generalize (s.cast m 0).left = LO at *
      generalize hLS : s.left = LS at *
      clear hLS
      go_wp2_with fail
      go_loopw [15] (fun i wr => ∃ k : Nat, k ≤ ml ∧ i = .int .i64 k ∧ Below w11.heap.size w11 wr) (fun i _ => ml - (intOf i).toNat)
      case atStart => exact ⟨0, by omega, rfl, Below.refl _ _⟩
      case round =>
        obtain ⟨k, hk, rfl, hB⟩ := hrel
        obtain ⟨W2, rfl⟩ : ∃ W2 : World, W2 = wr := ⟨_, rfl⟩
        have HB := Lib.hid hB
        by_cases hlt : k < ml
        · obtain ⟨b1, o1', rfl, hB1, hc1⟩ := HSP11.out.below hB (by omega)
          obtain ⟨b2, o2', rfl, hB2, hc2⟩ := HSQ11.out.below hB (by omega)
          obtain ⟨e0, e1⟩ := hc1 k hlt
          obtain ⟨d0, d1⟩ := hc2 k hlt
          have hll := HLL.out k
          have hkl : (k : Int) < (ml : Int) := by omega
          have hk0 : (0 : Int) ≤ (k : Int) := by omega
          have hbdS : 0 ≤ loOf LS k ∧ loOf LS k ≤ 12 := HLB.out k
          clear hc1 hc2 hB
          generalize loOf LO k = lo' at *
          generalize hiOf LO k = hi' at *
          generalize loOf LS k = lo at *
          generalize hiOf LS k = hi at *
          rcases Int.lt_or_le lo' lo with h | h
          · have hkm : k = m := by
              by_cases e : k = m
              · exact e
              · rw [if_neg e] at hll; omega
            subst hkm
            rw [if_pos rfl] at hll
            have h2 : ¬ lo' < lo - 1 := by omega
            have hd : decide (lo' < lo) = true := by simpa using h
            have hd2 : decide (lo' < lo - 1) = false := by simp; omega
            have hd3 : ((k : Int) != (k : Int)) = false := by simp
            clear hll
            go_wp2_with fail
            go_quiet (fail)
            go_wp2_with fail
            go_roundw
            case rel => exact ⟨k + 1, by omega, by go_num, HB.out.trans (Go.Joins.below_draws _ _ _)⟩
            case measure => simp [intOf]; omega
          · have hd : decide (lo' < lo) = false := by simp; omega
            clear hll h
            go_wp2_with fail
            go_quiet (fail)
            go_wp2_with fail
            go_roundw
            case rel => exact ⟨k + 1, by omega, by go_num, HB.out.trans (Go.Joins.below_draws _ _ _)⟩
            case measure => simp [intOf]; omega
        · obtain rfl : ml = k := by omega
          clear hlt hk
          have hB12 := HB11.out.trans (hB.mono HB11.out.size)
          have x0 := (hB12.cell (p := ⟨w.heap.size, 0, none⟩) hsU).trans HSB.out.1; have x1 := (hB12.cell (p := ⟨w.heap.size, 1, none⟩) hsU).trans HSB.out.2.1; have x2 := (hB12.cell (p := ⟨w.heap.size, 2, none⟩) hsU).trans HSB.out.2.2.1; have x3 := (hB12.cell (p := ⟨w.heap.size, 3, none⟩) hsU).trans HSB.out.2.2.2; obtain ⟨o0, o1, o2, o3⟩ : W2.cell? ⟨gO, 0, none⟩ = some (.slice (some gm) ml cm) ∧ W2.cell? ⟨gO, 1, none⟩ = some (.slice va wl vc) ∧ W2.cell? ⟨gO, 2, none⟩ = some (.slice (some ⟨gwb, 0, none⟩) nl cw) ∧ W2.cell? ⟨gO, 3, none⟩ = some (.int .i64 s.fresh) := ⟨(hB12.cell (p := ⟨gO, 0, none⟩) hgU).trans HOB.out.1, (hB12.cell (p := ⟨gO, 1, none⟩) hgU).trans HOB.out.2.1, (hB12.cell (p := ⟨gO, 2, none⟩) hgU).trans HOB.out.2.2.1, (hB12.cell (p := ⟨gO, 3, none⟩) hgU).trans HOB.out.2.2.2⟩
          have d0 := ((HBS.out _ hB12).cell (p := ⟨mb, mo + m * 3, none⟩) hmB).trans c0
          have e0 := (hB12.cell (p := ⟨gwb, p, none⟩) hgwU).trans HWC.out
          have f0 := (hB12.frozen (p := ⟨gwb, p, none⟩) hgwU).trans HWF.out
          have HB12 := Lib.hid hB12
          have hs2 : w.heap.size < W2.heap.size := Nat.lt_of_lt_of_le hsU hB12.size
          have hg2 : gO < W2.heap.size := Nat.lt_of_lt_of_le hgU hB12.size
          have hgw2 : gwb < W2.heap.size := Nat.lt_of_lt_of_le hgwU hB12.size
          have HSET := Lib.hid ((HRU.out W2 hB12).setWant p hpn (s.wants[p] - 1))
          clear hB hB12 c0 c1 c2
          obtain ⟨v, hv⟩ : ∃ v, s.wants[p] = v := ⟨_, rfl⟩
          rw [hv] at e0 HSET hwb HFO hnew HNB
          clear hv
          by_cases hv0 : v = 0
          · subst hv0
            go_wp2_with fail
            refine (works_any _).mono ?_
            rintro e w9 ⟨rfl, hb9⟩
            go_wp2_with fail
            go_ret
            exact ⟨rfl, HBS.out _ (HB12.out.trans (hb9.mono HB12.out.size))⟩
          · have hvB : (v == 0) = false := by simpa using hv0
            have HFO1 := Lib.hid (HFO.out hv0)
            have hnb := HNB.out hv0
            have hne1 : ¬ gwb = w.heap.size := by omega
            have hne2 : ¬ gwb = gO := by omega
            have hwv : IntKind.i64.wrap (v - 1) = v - 1 := IntWalk.i64_in _ ⟨by omega, by omega⟩
            clear hv0 HFO HNB
            go_upto_region 28 with fail
            obtain ⟨X, hX⟩ : ∃ X, W2.setCell ⟨gwb, p, none⟩ (.int .i64 (v - 1)) = X := ⟨_, rfl⟩
            have hcX : ∀ b i, ¬ gwb = b → X.cell? ⟨b, i, none⟩ = W2.cell? ⟨b, i, none⟩ := fun b i h => by rw [← hX]; exact set_other (by intro e; injection e with e; exact h e)
            have hzX : X.heap.size = W2.heap.size := by rw [← hX]; simp [World.setCell]
            have hBX : Below w.heap.size w X := by rw [← hX]; exact Below.setCell (HBS.out _ HB12.out) (show w.heap.size ≤ gwb by omega) _
            have hRX : CopyRow ((s.cast m 0).want p (v - 1)) n0' ml wl nl gm cm va vc ⟨gwb, 0, none⟩ cw vs N1 X := by rw [← hX]; exact HSET.out
            rw [hX]
            clear hX HSET
            obtain ⟨z0, z1, z2, z3⟩ := And.intro ((hcX _ 0 hne1).trans x0) (And.intro ((hcX _ 1 hne1).trans x1) (And.intro ((hcX _ 2 hne1).trans x2) ((hcX _ 3 hne1).trans x3)))
            obtain ⟨t0, t1, t2, t3⟩ := And.intro ((hcX _ 0 hne2).trans o0) (And.intro ((hcX _ 1 hne2).trans o1) (And.intro ((hcX _ 2 hne2).trans o2) ((hcX _ 3 hne2).trans o3)))
            have hsX : w.heap.size < X.heap.size := by omega
            have hgX : gO < X.heap.size := by omega
            have HFSX := Lib.hid (fun W (h : Below X.heap.size X W ∧ ∀ b o, b < X.heap.size → W.cell? ⟨b, o, none⟩ = X.cell? ⟨b, o, none⟩) => bothS1 (W0 := X) (HFS.out W (hBX.trans (h.1.mono hBX.size))) h)
            have HFOX := Lib.hid (fun W (h : Below X.heap.size X W ∧ ∀ b o, b < X.heap.size → W.cell? ⟨b, o, none⟩ = X.cell? ⟨b, o, none⟩) => bothS1 (W0 := X) (HFO1.out W (hRX.below h.1)) h)
            have HBX := Lib.hid hBX
            clear x0 x1 x2 x3 o0 o1 o2 o3
            clear hcX hzX hBX hRX e0 f0 d0
            go_cut [17, 18] (fun v17 v18 wx => v17 = .int .i64 s.newAll ∧ v18 = .int .i64 ((s.cast m 0).want p (v - 1)).newAll ∧ Below X.heap.size X wx)
            case first =>
              go_region_held3 (fun w' => Below X.heap.size X w' ∧ ∀ b o, b < X.heap.size → w'.cell? ⟨b, o, none⟩ = X.cell? ⟨b, o, none⟩) (first | with_reducible assumption | ((repeat (first | with_reducible refine bothS_drew ?_ | with_reducible refine bothS_alloc _ ?_ | with_reducible refine bothS_set _ _ (by first | omega | (simp; omega) | simp) ?_)); first | with_reducible assumption | with_reducible exact Hid.out (by assumption) | with_reducible exact ⟨Below.refl _ _, fun _ _ _ => rfl⟩)) (first | (go_at_call 31; with_reducible refine (HFSX.out _ ?_).mono ?_; (first | with_reducible assumption | ((repeat (first | with_reducible refine bothS_drew ?_ | with_reducible refine bothS_alloc _ ?_ | with_reducible refine bothS_set _ _ (by first | omega | (simp; omega) | simp) ?_)); first | with_reducible assumption | with_reducible exact Hid.out (by assumption) | with_reducible exact ⟨Below.refl _ _, fun _ _ _ => rfl⟩)); rintro e w' ⟨rfl, k, k1, k2, k3⟩; have HK := Lib.hid k; (try simp at k3); (try have k6 := Nat.lt_of_succ_le k3); (try have k7 := Nat.lt_of_succ_lt k6); (try have k8 := Nat.lt_of_succ_lt k3)) | (go_at_call 31; with_reducible refine (HFOX.out _ ?_).mono ?_; (first | with_reducible assumption | ((repeat (first | with_reducible refine bothS_drew ?_ | with_reducible refine bothS_alloc _ ?_ | with_reducible refine bothS_set _ _ (by first | omega | (simp; omega) | simp) ?_)); first | with_reducible assumption | with_reducible exact Hid.out (by assumption) | with_reducible exact ⟨Below.refl _ _, fun _ _ _ => rfl⟩)); rintro e w' ⟨rfl, k, k1, k2, k3⟩; have HK := Lib.hid k; (try simp at k3); (try have k6 := Nat.lt_of_succ_le k3); (try have k7 := Nat.lt_of_succ_lt k6); (try have k8 := Nat.lt_of_succ_lt k3)) | fail "no arm")
              all_goals (go_wp2_with fail; go_meet; exact ⟨rfl, rfl, And.left (by assumption)⟩)
            case rest =>
            obtain ⟨rfl, rfl, hBY⟩ := hcut
            have HBY := Lib.hid (HBX.out.trans (hBY.mono HBX.out.size))
            clear hBY HFSX HFOX
            generalize s.newAll = nS at *
            generalize ((s.cast m 0).want p (v - 1)).newAll = nO at *
            go_wp2_with fail
            refine (works_any _).mono ?_
            rintro e w9 ⟨rfl, hb9⟩
            go_wp2_with fail
            go_ret
            exact ⟨rfl, HBY.out.trans (hb9.mono HBY.out.size)⟩
theorem castlaw_any (s : FShop) (ma : Option Addr) (ml mc : Nat) (wa : Option Addr) (wl wc : Nat) (na : Option Addr) (nl nc : Nat) (n : Int) (w : World) (hp : FAt w ma ml mc wa wl wc na nl nc s) :
    Calls Try.prog 4 #[.agg #[.slice ma ml mc, .slice wa wl wc, .slice na nl nc, .int .i64 s.fresh], .int .i64 n] w fun e w' => e = .returned (.bool true) ∧ Below w.heap.size w w' := by
  rcases hk : s.known with - | -
  · exact cast_early s ma ml mc wa wl wc na nl nc n w hp (.inl hk)
  rcases hf : btw n 0 ((ml : Int) - 1) with - | -
  · exact cast_early s ma ml mc wa wl wc na nl nc n w hp (.inr (.inl ⟨hk, hf⟩))
  obtain ⟨m, rfl, hm⟩ := btw_nat hf
  have hm' : m < s.moulds.length := by rw [hp.1.1]; exact hm
  by_cases hb : s.moulds[m].b = 1
  · exact cast_early s ma ml mc wa wl wc na nl nc m w hp (.inr (.inr ⟨hk, m, hm', rfl, hb⟩))
  exact castlaw_walk s ma ml mc wa wl wc na nl nc m hm' w hp hk hb
end Go.Proofs.Ytgniblcagjdpnaa
