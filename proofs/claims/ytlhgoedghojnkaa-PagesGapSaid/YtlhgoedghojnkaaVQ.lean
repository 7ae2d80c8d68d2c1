/- The reference: gap, Gap, Meets; both sides in one contract. -/
import Derived.Test.YtlhgoedghojnkaaUQ
import Derived.Test.YtlhgoedghojnkaaYU
import Derived.Test.YtlhgoedghojnkaaYN
import Derived.Test.YtlhgoedghojnkaaVK
namespace Go.Proofs.Ytlhgoedghojnkaa
set_option linter.unusedVariables false
set_option linter.unusedSimpArgs false
open Go.RowKit Go.Shelf

theorem strip_pre1 : ∀ p r : List Int, stripC (p ++ r) p = (r, [])
  | [], r => by cases r <;> rfl
  | x :: p, r => by rw [List.cons_append, stripC, if_pos rfl]; exact strip_pre1 p r
theorem strip_pre2 : ∀ p r : List Int, stripC p (p ++ r) = ([], r)
  | [], r => by cases r <;> rfl
  | x :: p, r => by rw [List.cons_append, stripC, if_pos rfl]; exact strip_pre2 p r
theorem ahead_split {f : PFrame} {c k l : Nat} (h : l ≤ k) : f.ahead c k = f.ahead c l ++ (f.ahead c k).drop l := by
  unfold PFrame.ahead
  have := List.take_append_drop l ((f.cols[c]?.getD []).take k)
  rw [List.take_take, Nat.min_eq_left h] at this
  exact this.symm
theorem strip_gt {f : PFrame} {c k l : Nat} (h : l ≤ k) : stripC (f.ahead c k) (f.ahead c l) = ((f.ahead c k).drop l, []) := by
  have e := ahead_split (f := f) (c := c) h
  have := strip_pre1 (f.ahead c l) ((f.ahead c k).drop l)
  rwa [← e] at this
theorem strip_le {f : PFrame} {c k l : Nat} (h : k ≤ l) : stripC (f.ahead c k) (f.ahead c l) = ([], (f.ahead c l).drop k) := by
  have e := ahead_split (f := f) (c := c) h
  have := strip_pre2 (f.ahead c k) ((f.ahead c l).drop k)
  rwa [← e] at this
theorem ahead_mem {f : PFrame} {c k : Nat} {x : Int} (h : x ∈ f.ahead c k) : ∃ j, f.at x c j := by
  unfold PFrame.ahead at h
  by_cases hc : c < f.cols.length
  · rw [List.getElem?_eq_getElem hc] at h
    obtain ⟨j, hj, rfl⟩ := List.mem_iff_getElem.1 (List.mem_of_mem_take h)
    exact ⟨j, hc, hj, rfl⟩
  · rw [List.getElem?_eq_none (by omega)] at h
    simp at h
theorem strip_apart {f : PFrame} (ho : f.ok = true) {c d k l : Nat} (hne : c ≠ d) : stripC (f.ahead c k) (f.ahead d l) = (f.ahead c k, f.ahead d l) := by
  have hx := @ahead_mem f c k
  have hy := @ahead_mem f d l
  generalize f.ahead c k = X at *
  generalize f.ahead d l = Y at *
  cases X with
  | nil => cases Y <;> rfl
  | cons x X =>
    cases Y with
    | nil => rfl
    | cons y Y =>
      rw [stripC, if_neg]
      rintro rfl
      obtain ⟨i, hi⟩ := hx (x := x) (by simp)
      obtain ⟨j, hj⟩ := hy (x := x) (by simp)
      exact hne (at_col ho hi hj)
theorem ints_drop {w : World} {b o len k : Nat} {xs : List Int} (h : IntsAt w (some ⟨b, o, none⟩) len xs) : IntsAt w (some ⟨b, o + k, none⟩) (len - k) (xs.drop k) := by
  obtain ⟨h1, h2, h3⟩ := h
  refine ⟨by rw [List.length_drop]; omega, by omega, fun h0 => ?_⟩
  obtain ⟨b', o', e, hb, hc⟩ := h3 (by omega)
  injection e with e
  injection e with e1 e2
  subst e1 e2
  refine ⟨b, o + k, rfl, hb, fun i hi => ?_⟩
  rw [List.length_drop] at hi
  rw [List.getElem_drop, show o + k + i = o + (k + i) by omega]
  exact hc (k + i) (by omega)

set_option maxRecDepth 100000 in
set_option maxHeartbeats 8000000 in
theorem refgap_any (f : PFrame) (sa : Option Addr) (sl sc : Nat) (pa : Option Addr) (pl pc : Nat) (ca : Option Addr) (cl cc : Nat) (one other : Int) (ho : f.ok = true) (h0 : 0 ≤ one) (hn : one < (f.pieces.length : Int)) (h1 : 0 ≤ other) (hn1 : other < (f.pieces.length : Int)) (w : World) (hp : PAt w sa sl sc pa pl pc ca cl cc f) :
    Calls Try.prog 101 #[.agg #[.int .i64 f.len, .int .i64 f.slack, .slice sa sl sc, .slice pa pl pc, .slice ca cl cc], .int .i64 one, .int .i64 other] w fun e w' => GapPost f one other e ∧ Below w.heap.size w w' := by
  have HA1 := Lib.hid (fun W (hb : Below w.heap.size w W) => refAheadC_any f sa sl sc pa pl pc ca cl cc one ho h0 hn W (hp.below hb))
  have HA2 := Lib.hid (fun W (hb : Below w.heap.size w W) => refAheadC_any f sa sl sc pa pl pc ca cl cc other ho h1 hn1 W (hp.below hb))
  have HHE := Lib.hid (fun xa xl xc xs (hin : ∀ x ∈ xs, 0 ≤ x ∧ x < (f.pieces.length : Int)) (h6 : xs.length ≤ 6) W (hb : Below w.heap.size w W) (hx : IntsAt W xa xl xs) => refHigh_any f sa sl sc pa pl pc ca cl cc xa xl xc xs ho hin h6 W (hp.below hb) hx)
  have HIN := Lib.hid (fun n ci a (h : f.at n ci a) => ahead_in ho h)
  have HLB := Lib.hid (fun xs (h6 : xs.length ≤ 6) => PFrame.loS_bd ho xs h6)
  have HHB := Lib.hid (fun xs (h6 : xs.length ≤ 6) => PFrame.hiS_bd ho xs h6)
  have HO := Lib.hid ho
  clear hp ho h0 h1 hn hn1
  go_enter Try.func101, Try.ntmps101
  go_wp2_with fail
  obtain ⟨W0, hW0, hB0, ⟨g0_0, g0_1, g0_2, g0_3, g0_4, g0_5, g0_6⟩, hz0⟩ : ∃ W0, ((w.alloc (.cells #[.int .i64 f.len, .int .i64 f.slack, .slice sa sl sc, .slice pa pl pc, .slice ca cl cc] 26)).alloc (.cells #[.int .i64 0, .int .i64 0] 32)) = W0 ∧ Below w.heap.size w W0 ∧ (W0.cell? ⟨w.heap.size, 0, none⟩ = some (.int .i64 f.len) ∧ W0.cell? ⟨w.heap.size, 1, none⟩ = some (.int .i64 f.slack) ∧ W0.cell? ⟨w.heap.size, 2, none⟩ = some (.slice sa sl sc) ∧ W0.cell? ⟨w.heap.size, 3, none⟩ = some (.slice pa pl pc) ∧ W0.cell? ⟨w.heap.size, 4, none⟩ = some (.slice ca cl cc) ∧ W0.cell? ⟨w.heap.size + 1, 0, none⟩ = some (.int .i64 0) ∧ W0.cell? ⟨w.heap.size + 1, 1, none⟩ = some (.int .i64 0)) ∧ W0.heap.size = w.heap.size + 1 + 1 :=
    ⟨_, rfl, (by repeat (first | exact Below.refl _ _ | (refine Below.alloc ?_ (by first | omega | (simp; omega) | simp) _) | (refine Below.setCell ?_ (by first | omega | (simp; omega) | simp) _) | refine Below.drew ?_)), ⟨by go_simp, by go_simp, by go_simp, by go_simp, by go_simp, by go_simp, by go_simp⟩, by simp⟩
  have hfz0 : ∀ i, W0.frozen? ⟨w.heap.size + 1, i, none⟩ = false := by subst hW0; intro i; go_simp
  rw [hW0]
  clear hW0
  have HBW := Lib.hid hB0
  have HFZ := Lib.hid (show ∀ W : World, Below W0.heap.size W0 W → ∀ i, W.frozen? ⟨w.heap.size + 1, i, none⟩ = false from fun W hb i => (hb.frozen (p := ⟨w.heap.size + 1, i, none⟩) (by show w.heap.size + 1 < _; omega)).trans (hfz0 i))
  clear hfz0
  have q0_0 : w.heap.size < W0.heap.size := by omega
  have q0_1 : w.heap.size + 1 < W0.heap.size := by omega
  clear hB0 hz0
  go_wp2_with fail
  refine (HA1.out _ (HBW.out.trans (Below.mono (by repeat (first | exact Below.refl _ _ | (refine Below.alloc ?_ (by first | omega | (simp; omega) | simp) _) | (refine Below.setCell ?_ (by first | omega | (simp; omega) | simp) _) | refine Below.drew ?_)) HBW.out.size))).mono ?_
  rintro e v1 ⟨ci, a, aa, ac, rfl, hat, hIa, ⟨hac, hacm⟩, hb1⟩
  have hB1_0 : Below W0.heap.size W0 v1 := below_via (Lib.hid hb1) (by first | omega | (simp; done) | (simp; omega)) (by repeat (first | exact Below.refl _ _ | (refine Below.alloc ?_ (by first | omega | (simp; omega) | simp) _) | (refine Below.setCell ?_ (by first | omega | (simp; omega) | simp) _) | refine Below.drew ?_))
  have z1 := hb1.size
  (try simp at z1)
  obtain ⟨g1_0, g1_1, g1_2, g1_3, g1_4, g1_5, g1_6⟩ : v1.cell? ⟨w.heap.size, 0, none⟩ = some (.int .i64 f.len) ∧ v1.cell? ⟨w.heap.size, 1, none⟩ = some (.int .i64 f.slack) ∧ v1.cell? ⟨w.heap.size, 2, none⟩ = some (.slice sa sl sc) ∧ v1.cell? ⟨w.heap.size, 3, none⟩ = some (.slice pa pl pc) ∧ v1.cell? ⟨w.heap.size, 4, none⟩ = some (.slice ca cl cc) ∧ v1.cell? ⟨w.heap.size + 1, 0, none⟩ = some (.int .i64 0) ∧ v1.cell? ⟨w.heap.size + 1, 1, none⟩ = some (.int .i64 0) :=
    ⟨(hb1.cell (p := ⟨w.heap.size, 0, none⟩) (by first | omega | (simp; done) | (simp; omega))).trans (by first | (go_simp; done) | (go_simp; exact set_same (u := .int .i64 0) (by go_simp; done))), (hb1.cell (p := ⟨w.heap.size, 1, none⟩) (by first | omega | (simp; done) | (simp; omega))).trans (by first | (go_simp; done) | (go_simp; exact set_same (u := .int .i64 0) (by go_simp; done))), (hb1.cell (p := ⟨w.heap.size, 2, none⟩) (by first | omega | (simp; done) | (simp; omega))).trans (by first | (go_simp; done) | (go_simp; exact set_same (u := .int .i64 0) (by go_simp; done))), (hb1.cell (p := ⟨w.heap.size, 3, none⟩) (by first | omega | (simp; done) | (simp; omega))).trans (by first | (go_simp; done) | (go_simp; exact set_same (u := .int .i64 0) (by go_simp; done))), (hb1.cell (p := ⟨w.heap.size, 4, none⟩) (by first | omega | (simp; done) | (simp; omega))).trans (by first | (go_simp; done) | (go_simp; exact set_same (u := .int .i64 0) (by go_simp; done))), (hb1.cell (p := ⟨w.heap.size + 1, 0, none⟩) (by first | omega | (simp; done) | (simp; omega))).trans (by first | (go_simp; done) | (go_simp; exact set_same (u := .int .i64 0) (by go_simp; done))), (hb1.cell (p := ⟨w.heap.size + 1, 1, none⟩) (by first | omega | (simp; done) | (simp; omega))).trans (by first | (go_simp; done) | (go_simp; exact set_same (u := .int .i64 0) (by go_simp; done)))⟩
  have q1_0 : w.heap.size < v1.heap.size := by first | omega | (simp at *; omega)
  have q1_1 : w.heap.size + 1 < v1.heap.size := by first | omega | (simp at *; omega)
  have HB1 := Lib.hid hB1_0
  have y1 := hB1_0.size
  clear hb1 hB1_0 g0_0 g0_1 g0_2 g0_3 g0_4 g0_5 g0_6 q0_0 q0_1
  have HI1 := Lib.hid (fun W (h : Below v1.heap.size v1 W) => hIa.below h)
  clear hIa
  go_wp2_with fail
  refine (HA2.out _ (HBW.out.trans (Below.mono (by repeat (first | exact Below.refl _ _ | with_reducible exact HB1.out | (refine Below.alloc ?_ (by first | omega | (simp; omega) | simp) _) | (refine Below.setCell ?_ (by first | omega | (simp; omega) | simp) _) | refine Below.drew ?_)) HBW.out.size))).mono ?_
  rintro e v2 ⟨di, b, ba, bc, rfl, hbt, hIb, ⟨hbc, hbcm⟩, hb2⟩
  have hB2_0 : Below W0.heap.size W0 v2 := below_via (Lib.hid hb2) (by first | omega | (simp; done) | (simp; omega)) (by repeat (first | exact Below.refl _ _ | with_reducible exact HB1.out | (refine Below.alloc ?_ (by first | omega | (simp; omega) | simp) _) | (refine Below.setCell ?_ (by first | omega | (simp; omega) | simp) _) | refine Below.drew ?_))
  have hB2_1 : Below v1.heap.size v1 v2 := below_via (Lib.hid hb2) (by first | omega | (simp; done) | (simp; omega)) (by repeat (first | exact Below.refl _ _ | (refine Below.alloc ?_ (by first | omega | (simp; omega) | simp) _) | (refine Below.setCell ?_ (by first | omega | (simp; omega) | simp) _) | refine Below.drew ?_))
  have z2 := hb2.size
  (try simp at z2)
  obtain ⟨g2_0, g2_1, g2_2, g2_3, g2_4, g2_5, g2_6⟩ : v2.cell? ⟨w.heap.size, 0, none⟩ = some (.int .i64 f.len) ∧ v2.cell? ⟨w.heap.size, 1, none⟩ = some (.int .i64 f.slack) ∧ v2.cell? ⟨w.heap.size, 2, none⟩ = some (.slice sa sl sc) ∧ v2.cell? ⟨w.heap.size, 3, none⟩ = some (.slice pa pl pc) ∧ v2.cell? ⟨w.heap.size, 4, none⟩ = some (.slice ca cl cc) ∧ v2.cell? ⟨w.heap.size + 1, 0, none⟩ = some (.int .i64 0) ∧ v2.cell? ⟨w.heap.size + 1, 1, none⟩ = some (.int .i64 0) :=
    ⟨(hb2.cell (p := ⟨w.heap.size, 0, none⟩) (by first | omega | (simp; done) | (simp; omega))).trans (by first | (go_simp; done) | (go_simp; exact set_same (u := .int .i64 0) (by go_simp; done))), (hb2.cell (p := ⟨w.heap.size, 1, none⟩) (by first | omega | (simp; done) | (simp; omega))).trans (by first | (go_simp; done) | (go_simp; exact set_same (u := .int .i64 0) (by go_simp; done))), (hb2.cell (p := ⟨w.heap.size, 2, none⟩) (by first | omega | (simp; done) | (simp; omega))).trans (by first | (go_simp; done) | (go_simp; exact set_same (u := .int .i64 0) (by go_simp; done))), (hb2.cell (p := ⟨w.heap.size, 3, none⟩) (by first | omega | (simp; done) | (simp; omega))).trans (by first | (go_simp; done) | (go_simp; exact set_same (u := .int .i64 0) (by go_simp; done))), (hb2.cell (p := ⟨w.heap.size, 4, none⟩) (by first | omega | (simp; done) | (simp; omega))).trans (by first | (go_simp; done) | (go_simp; exact set_same (u := .int .i64 0) (by go_simp; done))), (hb2.cell (p := ⟨w.heap.size + 1, 0, none⟩) (by first | omega | (simp; done) | (simp; omega))).trans (by first | (go_simp; done) | (go_simp; exact set_same (u := .int .i64 0) (by go_simp; done))), (hb2.cell (p := ⟨w.heap.size + 1, 1, none⟩) (by first | omega | (simp; done) | (simp; omega))).trans (by first | (go_simp; done) | (go_simp; exact set_same (u := .int .i64 0) (by go_simp; done)))⟩
  have q2_0 : w.heap.size < v2.heap.size := by first | omega | (simp at *; omega)
  have q2_1 : w.heap.size + 1 < v2.heap.size := by first | omega | (simp at *; omega)
  have HB2 := Lib.hid hB2_0
  have HC2 := Lib.hid hB2_1
  have y2 := hB2_0.size
  clear hb2 hB2_0 hB2_1 g1_0 g1_1 g1_2 g1_3 g1_4 g1_5 g1_6 q1_0 q1_1
  have HI2 := Lib.hid (fun W (h : Below v2.heap.size v2 W) => hIb.below h)
  have HI1' := Lib.hid (HI1.out v2 (by repeat (first | exact Below.refl _ _ | with_reducible exact HC2.out | (refine Below.alloc ?_ (by first | omega | (simp; omega) | simp) _) | (refine Below.setCell ?_ (by first | omega | (simp; omega) | simp) _) | refine Below.drew ?_)))
  clear hIb
  have HPT := Lib.hid (show f.at one ci a ∧ f.at other di b from ⟨hat, hbt⟩)
  obtain ⟨i1, i2⟩ := HIN.out one ci a hat
  obtain ⟨i3, i4⟩ := HIN.out other di b hbt
  have HIX := Lib.hid i1
  have HIY := Lib.hid i3
  have hal := (HI1.out v1 (Below.refl _ _)).1
  have hbl := (HI2.out v2 (Below.refl _ _)).1
  clear i1 i3 hat hbt
  unfold maxLen at hacm hbcm
  by_cases hcd : ci = di
  · subst hcd
    by_cases hab : b < a
    · have hab2 : (a : Int) > (b : Int) := by omega
      obtain ⟨ab, ao, rfl, -⟩ := HI1'.out.2.2 (by omega)
      have hba : b ≤ a := by omega
      have hacb : ¬ ac = b := by omega
      have hq : 0 < a - b := by omega
      have HST := Lib.hid (strip_gt (f := f) (c := ci) hba)
      obtain ⟨X, hX⟩ : ∃ X, (f.ahead ci a).drop b = X := ⟨_, rfl⟩
      have HXI := Lib.hid (fun W (h : Below v2.heap.size v2 W) => show IntsAt W (some ⟨ab, ao + b, none⟩) (a - b) X from hX ▸ ints_drop (HI1'.out.below h))
      have hxin : ∀ x ∈ X, 0 ≤ x ∧ x < (f.pieces.length : Int) := fun x hx => HIX.out x (List.mem_of_mem_drop (hX ▸ hx))
      have hx6 : X.length ≤ 6 := by rw [← hX, List.length_drop]; omega
      have hlb := HLB.out X hx6
      have hhb := HHB.out X hx6
      rw [hX] at HST
      have HGP := Lib.hid (show f.gapLo (f.ahead ci a) (f.ahead ci b) = - f.hiS X ∧ f.gapHi (f.ahead ci a) (f.ahead ci b) = - f.loS X from by
        unfold PFrame.gapLo PFrame.gapHi
        rw [HST.out]
        show f.loS [] - f.hiS X = _ ∧ f.hiS [] - f.loS X = _
        have e1 : f.loS [] = 0 := rfl
        have e2 : f.hiS [] = 0 := rfl
        omega)
      have HHX := Lib.hid (fun W (h : Below w.heap.size w W) (hb : Below v2.heap.size v2 W) => HHE.out (some ⟨ab, ao + b, none⟩) (a - b) (ac - b) X hxin hx6 W h (HXI.out W hb))
      clear hX hxin hx6 HST
      generalize f.loS X = lo at *
      generalize f.hiS X = hi at *
      have HV3 : Below w.heap.size w v2 := (HBW.out.trans (Below.mono (by repeat (first | exact Below.refl _ _ | with_reducible exact HB2.out | (refine Below.alloc ?_ (by first | omega | (simp; omega) | simp) _) | (refine Below.setCell ?_ (by first | omega | (simp; omega) | simp) _) | refine Below.drew ?_)) HBW.out.size))
      have HX3 := Lib.hid (fun W (h : Below v2.heap.size v2 W ∧ ∀ b o, b < v2.heap.size → W.cell? ⟨b, o, none⟩ = v2.cell? ⟨b, o, none⟩) => bothM2 (W0 := v2) (HHX.out W (HV3.trans (h.1.mono HV3.size)) h.1) h)
      clear HV3
      go_upto_region 5 with fail
      go_cut [11] (fun v11x wx => ∃ gb , v11x = .pointer (some ⟨gb, 0, none⟩) ∧ (wx.cell? ⟨gb, 0, none⟩ = some (.int .i64 lo) ∧ wx.cell? ⟨gb, 1, none⟩ = some (.int .i64 hi)) ∧ gb < wx.heap.size ∧ v2.heap.size ≤ gb ∧ Below v2.heap.size v2 wx ∧ True)
      case first =>
        go_region_held3 (fun w' => Below v2.heap.size v2 w' ∧ ∀ b o, b < v2.heap.size → w'.cell? ⟨b, o, none⟩ = v2.cell? ⟨b, o, none⟩) (first | with_reducible assumption | ((repeat (first | with_reducible refine bothS_drew ?_ | with_reducible refine bothS_alloc _ ?_ | with_reducible refine bothS_set _ _ (by first | omega | (simp; omega) | simp) ?_)); first | with_reducible assumption | with_reducible exact Hid.out (by assumption) | with_reducible exact ⟨Below.refl _ _, fun _ _ _ => rfl⟩)) (first
          | (go_at_call 78; with_reducible refine (HX3.out _ ?_).mono ?_; (first | with_reducible assumption | ((repeat (first | with_reducible refine bothS_drew ?_ | with_reducible refine bothS_alloc _ ?_ | with_reducible refine bothS_set _ _ (by first | omega | (simp; omega) | simp) ?_)); first | with_reducible assumption | with_reducible exact Hid.out (by assumption) | with_reducible exact ⟨Below.refl _ _, fun _ _ _ => rfl⟩)); rintro e w' ⟨rfl, k, k1, k2, k3⟩; have HK' := Lib.hid k; (try simp at k3); (try have k6 := Nat.lt_of_succ_le k3); (try have k7 := Nat.lt_of_succ_lt k6))
          | fail "no arm")
        all_goals (go_wp2_with fail; go_meet)
        all_goals refine ⟨_, rfl, ?_, ?_, ?_, And.left (by assumption), trivial⟩
        all_goals first | (refine ⟨?_, ?_⟩ <;> (go_simp; done)) | (with_reducible refine set5 _ _ _ _ _ ?_ ?_ ?_ ?_ ?_ <;> (go_simp; done)) | skip
        all_goals first | omega | (simp; done) | (simp; omega) | skip
      case rest =>
      obtain ⟨gb3, rfl, ⟨c3_0, c3_1⟩, hlt3, hge3, hb3, -⟩ := hcut
      obtain ⟨v3, rfl⟩ : ∃ v3 : World, v3 = wc := ⟨_, rfl⟩
      have hB3_0 : Below W0.heap.size W0 v3 := below_via (Lib.hid hb3) (by first | omega | (simp; done) | (simp; omega)) (by repeat (first | exact Below.refl _ _ | with_reducible exact HB2.out | (refine Below.alloc ?_ (by first | omega | (simp; omega) | simp) _) | (refine Below.setCell ?_ (by first | omega | (simp; omega) | simp) _) | refine Below.drew ?_))
      have hB3_1 : Below v1.heap.size v1 v3 := below_via (Lib.hid hb3) (by first | omega | (simp; done) | (simp; omega)) (by repeat (first | exact Below.refl _ _ | with_reducible exact HC2.out | (refine Below.alloc ?_ (by first | omega | (simp; omega) | simp) _) | (refine Below.setCell ?_ (by first | omega | (simp; omega) | simp) _) | refine Below.drew ?_))
      have z3 := hb3.size
      (try simp at z3)
      obtain ⟨g3_0, g3_1, g3_2, g3_3, g3_4, g3_5, g3_6⟩ : v3.cell? ⟨w.heap.size, 0, none⟩ = some (.int .i64 f.len) ∧ v3.cell? ⟨w.heap.size, 1, none⟩ = some (.int .i64 f.slack) ∧ v3.cell? ⟨w.heap.size, 2, none⟩ = some (.slice sa sl sc) ∧ v3.cell? ⟨w.heap.size, 3, none⟩ = some (.slice pa pl pc) ∧ v3.cell? ⟨w.heap.size, 4, none⟩ = some (.slice ca cl cc) ∧ v3.cell? ⟨w.heap.size + 1, 0, none⟩ = some (.int .i64 0) ∧ v3.cell? ⟨w.heap.size + 1, 1, none⟩ = some (.int .i64 0) :=
        ⟨(hb3.cell (p := ⟨w.heap.size, 0, none⟩) (by first | omega | (simp; done) | (simp; omega))).trans (by first | (go_simp; done) | (go_simp; exact set_same (u := .int .i64 0) (by go_simp; done))), (hb3.cell (p := ⟨w.heap.size, 1, none⟩) (by first | omega | (simp; done) | (simp; omega))).trans (by first | (go_simp; done) | (go_simp; exact set_same (u := .int .i64 0) (by go_simp; done))), (hb3.cell (p := ⟨w.heap.size, 2, none⟩) (by first | omega | (simp; done) | (simp; omega))).trans (by first | (go_simp; done) | (go_simp; exact set_same (u := .int .i64 0) (by go_simp; done))), (hb3.cell (p := ⟨w.heap.size, 3, none⟩) (by first | omega | (simp; done) | (simp; omega))).trans (by first | (go_simp; done) | (go_simp; exact set_same (u := .int .i64 0) (by go_simp; done))), (hb3.cell (p := ⟨w.heap.size, 4, none⟩) (by first | omega | (simp; done) | (simp; omega))).trans (by first | (go_simp; done) | (go_simp; exact set_same (u := .int .i64 0) (by go_simp; done))), (hb3.cell (p := ⟨w.heap.size + 1, 0, none⟩) (by first | omega | (simp; done) | (simp; omega))).trans (by first | (go_simp; done) | (go_simp; exact set_same (u := .int .i64 0) (by go_simp; done))), (hb3.cell (p := ⟨w.heap.size + 1, 1, none⟩) (by first | omega | (simp; done) | (simp; omega))).trans (by first | (go_simp; done) | (go_simp; exact set_same (u := .int .i64 0) (by go_simp; done)))⟩
      have q3_0 : w.heap.size < v3.heap.size := by first | omega | (simp at *; omega)
      have q3_1 : w.heap.size + 1 < v3.heap.size := by first | omega | (simp at *; omega)
      have HB3 := Lib.hid hB3_0
      have HC3 := Lib.hid hB3_1
      have y3 := hB3_0.size
      clear hb3 hB3_0 hB3_1 g2_0 g2_1 g2_2 g2_3 g2_4 g2_5 g2_6 q2_0 q2_1
      have g3_7 := c3_0
      have g3_8 := c3_1
      have q3_2 : gb3 < v3.heap.size := hlt3
      clear c3_0 c3_1
      clear HX3
      have hw1 : IntKind.i64.wrap (-hi) = -hi := IntWalk.i64_in _ ⟨by omega, by omega⟩
      have hw2 : IntKind.i64.wrap (-lo) = -lo := IntWalk.i64_in _ ⟨by omega, by omega⟩
      have hf0 := HFZ.out v3 (by repeat (first | exact Below.refl _ _ | with_reducible exact HB3.out | (refine Below.alloc ?_ (by first | omega | (simp; omega) | simp) _) | (refine Below.setCell ?_ (by first | omega | (simp; omega) | simp) _) | refine Below.drew ?_)) 0
      have hf1 := HFZ.out v3 (by repeat (first | exact Below.refl _ _ | with_reducible exact HB3.out | (refine Below.alloc ?_ (by first | omega | (simp; omega) | simp) _) | (refine Below.setCell ?_ (by first | omega | (simp; omega) | simp) _) | refine Below.drew ?_)) 1
      go_wp2_with fail
      refine bodyPost_ret (v := .agg #[.int .i64 (-hi), .int .i64 (-lo)]) (by simp [results, Try.results101, go_sem, *]) rfl ⟨⟨ci, a, ci, b, HPT.out.1, HPT.out.2, by rw [HGP.out.1, HGP.out.2]⟩, ?_⟩
      have hBB := HBW.out.trans (HB3.out.mono HBW.out.size)
      exact (by repeat (first | assumption | exact Below.refl _ _ | (refine Below.alloc ?_ (by first | omega | (simp; omega) | simp) _) | (refine Below.setCell ?_ (by first | omega | (simp; omega) | simp) _) | refine Below.drew ?_))
    · have hab' : a ≤ b := by omega
      have hnab : ¬ (a : Int) > (b : Int) := by omega
      have HST := Lib.hid (strip_le (f := f) (c := ci) hab')
      obtain ⟨X, hX⟩ : ∃ X, (f.ahead ci b).drop a = X := ⟨_, rfl⟩
      have hxl : X.length = b - a := by rw [← hX, List.length_drop]; omega
      have hxin : ∀ x ∈ X, 0 ≤ x ∧ x < (f.pieces.length : Int) := fun x hx => HIY.out x (List.mem_of_mem_drop (hX ▸ hx))
      have hx6 : X.length ≤ 6 := by rw [← hX, List.length_drop]; omega
      have hlb := HLB.out X hx6
      have hhb := HHB.out X hx6
      rw [hX] at HST
      have HGP := Lib.hid (show f.gapLo (f.ahead ci a) (f.ahead ci b) = f.loS X ∧ f.gapHi (f.ahead ci a) (f.ahead ci b) = f.hiS X from by
        unfold PFrame.gapLo PFrame.gapHi
        rw [HST.out]
        show f.loS X - f.hiS [] = _ ∧ f.hiS X - f.loS [] = _
        have e1 : f.loS [] = 0 := rfl
        have e2 : f.hiS [] = 0 := rfl
        omega)

      rcases Nat.eq_or_lt_of_le hab' with hae | hlt
      · have hxe : X = [] := List.eq_nil_of_length_eq_zero (by omega)
        subst hae
        have HHX := Lib.hid (fun W (h : Below w.heap.size w W) (_ : Below v2.heap.size v2 W) => HHE.out (if bc = a then ba else Option.map (fun x => x.add a) ba) 0 (bc - a) X hxin hx6 W h ⟨by omega, by unfold maxLen; omega, fun h => absurd h (by omega)⟩)
        clear hX hxin hx6 HST hxe
        have hf0 := HFZ.out v2 (by repeat (first | exact Below.refl _ _ | with_reducible exact HB2.out | (refine Below.alloc ?_ (by first | omega | (simp; omega) | simp) _) | (refine Below.setCell ?_ (by first | omega | (simp; omega) | simp) _) | refine Below.drew ?_)) 0
        have hf1 := HFZ.out v2 (by repeat (first | exact Below.refl _ _ | with_reducible exact HB2.out | (refine Below.alloc ?_ (by first | omega | (simp; omega) | simp) _) | (refine Below.setCell ?_ (by first | omega | (simp; omega) | simp) _) | refine Below.drew ?_)) 1
        go_upto_region 7 with fail
        go_region_law (first
          | (with_reducible refine step_call _ 78 _ Try.func78 (by kernel_rfl) (by kernel_rfl) rfl _ _ rfl #[.agg #[.int .i64 f.len, .int .i64 f.slack, .slice sa sl sc, .slice pa pl pc, .slice ca cl cc], .slice (if bc = a then ba else Option.map (fun x => x.add a) ba) 0 (bc - a)] ?_ ?_; (· with_unfolding_all rfl); refine (HHX.out _ ?_ ?_).mono ?_; (· exact (HBW.out.trans (Below.mono (by repeat (first | exact Below.refl _ _ | with_reducible exact HB2.out | (refine Below.alloc ?_ (by first | omega | (simp; omega) | simp) _) | (refine Below.setCell ?_ (by first | omega | (simp; omega) | simp) _) | refine Below.drew ?_)) HBW.out.size))); (· exact (by repeat (first | exact Below.refl _ _ | (refine Below.alloc ?_ (by first | omega | (simp; omega) | simp) _) | (refine Below.setCell ?_ (by first | omega | (simp; omega) | simp) _) | refine Below.drew ?_))); rintro e wH ⟨rfl, hbH⟩; refine ⟨_, rfl, ?_⟩; have kA : Below v2.heap.size v2 wH := below_via (B := v2.heap.size) (Lib.hid hbH) (by first | exact Nat.le_refl _ | (simp; done) | (simp; omega)) (by repeat (first | exact Below.refl _ _ | (refine Below.alloc ?_ (by first | omega | (simp; omega) | simp) _) | (refine Below.setCell ?_ (by first | omega | (simp; omega) | simp) _) | refine Below.drew ?_)); have hg0 := (kA.cell (p := ⟨w.heap.size + 1, 0, none⟩) q2_1).trans g2_5; have hg1 := (kA.cell (p := ⟨w.heap.size + 1, 1, none⟩) q2_1).trans g2_6; have hh0 := (kA.frozen (p := ⟨w.heap.size + 1, 0, none⟩) q2_1).trans hf0; have hh1 := (kA.frozen (p := ⟨w.heap.size + 1, 1, none⟩) q2_1).trans hf1; have HKA := Lib.hid kA; clear hbH kA)
          | fail "no arm")
        all_goals go_wp2_with fail
        all_goals
          refine bodyPost_ret (v := .agg #[.int .i64 (f.loS X), .int .i64 (f.hiS X)]) (by simp [results, Try.results101, go_sem, *]) rfl ⟨⟨ci, a, ci, a, HPT.out.1, HPT.out.2, by rw [HGP.out.1, HGP.out.2]⟩, ?_⟩
          have hBB := HBW.out.trans ((HB2.out.trans (HKA.out.mono HB2.out.size)).mono HBW.out.size)
          exact (by repeat (first | assumption | exact Below.refl _ _ | (refine Below.alloc ?_ (by first | omega | (simp; omega) | simp) _) | (refine Below.setCell ?_ (by first | omega | (simp; omega) | simp) _) | refine Below.drew ?_))
      · skip
        obtain ⟨bb, bo, rfl, -⟩ := (HI2.out v2 (Below.refl _ _)).2.2 (by omega)
        have hbca : ¬ bc = a := by omega
        have HXI := Lib.hid (fun W (h : Below v2.heap.size v2 W) => show IntsAt W (some ⟨bb, bo + a, none⟩) (b - a) X from hX ▸ ints_drop (HI2.out W h))
        have HHX := Lib.hid (fun W (h : Below w.heap.size w W) (hb : Below v2.heap.size v2 W) => HHE.out (some ⟨bb, bo + a, none⟩) (b - a) (bc - a) X hxin hx6 W h (HXI.out W hb))
        clear hX hxin hx6 HST hxl
        have hf0 := HFZ.out v2 (by repeat (first | exact Below.refl _ _ | with_reducible exact HB2.out | (refine Below.alloc ?_ (by first | omega | (simp; omega) | simp) _) | (refine Below.setCell ?_ (by first | omega | (simp; omega) | simp) _) | refine Below.drew ?_)) 0
        have hf1 := HFZ.out v2 (by repeat (first | exact Below.refl _ _ | with_reducible exact HB2.out | (refine Below.alloc ?_ (by first | omega | (simp; omega) | simp) _) | (refine Below.setCell ?_ (by first | omega | (simp; omega) | simp) _) | refine Below.drew ?_)) 1
        go_upto_region 7 with fail
        go_region_law (first
          | (with_reducible refine step_call _ 78 _ Try.func78 (by kernel_rfl) (by kernel_rfl) rfl _ _ rfl #[.agg #[.int .i64 f.len, .int .i64 f.slack, .slice sa sl sc, .slice pa pl pc, .slice ca cl cc], .slice (some ⟨bb, bo + a, none⟩) (b - a) (bc - a)] ?_ ?_; (· with_unfolding_all rfl); refine (HHX.out _ ?_ ?_).mono ?_; (· exact (HBW.out.trans (Below.mono (by repeat (first | exact Below.refl _ _ | with_reducible exact HB2.out | (refine Below.alloc ?_ (by first | omega | (simp; omega) | simp) _) | (refine Below.setCell ?_ (by first | omega | (simp; omega) | simp) _) | refine Below.drew ?_)) HBW.out.size))); (· exact (by repeat (first | exact Below.refl _ _ | (refine Below.alloc ?_ (by first | omega | (simp; omega) | simp) _) | (refine Below.setCell ?_ (by first | omega | (simp; omega) | simp) _) | refine Below.drew ?_))); rintro e wH ⟨rfl, hbH⟩; refine ⟨_, rfl, ?_⟩; have kA : Below v2.heap.size v2 wH := below_via (B := v2.heap.size) (Lib.hid hbH) (by first | exact Nat.le_refl _ | (simp; done) | (simp; omega)) (by repeat (first | exact Below.refl _ _ | (refine Below.alloc ?_ (by first | omega | (simp; omega) | simp) _) | (refine Below.setCell ?_ (by first | omega | (simp; omega) | simp) _) | refine Below.drew ?_)); have hg0 := (kA.cell (p := ⟨w.heap.size + 1, 0, none⟩) q2_1).trans g2_5; have hg1 := (kA.cell (p := ⟨w.heap.size + 1, 1, none⟩) q2_1).trans g2_6; have hh0 := (kA.frozen (p := ⟨w.heap.size + 1, 0, none⟩) q2_1).trans hf0; have hh1 := (kA.frozen (p := ⟨w.heap.size + 1, 1, none⟩) q2_1).trans hf1; have HKA := Lib.hid kA; clear hbH kA)
          | fail "no arm")
        all_goals go_wp2_with fail
        all_goals
          refine bodyPost_ret (v := .agg #[.int .i64 (f.loS X), .int .i64 (f.hiS X)]) (by simp [results, Try.results101, go_sem, *]) rfl ⟨⟨ci, a, ci, b, HPT.out.1, HPT.out.2, by rw [HGP.out.1, HGP.out.2]⟩, ?_⟩
          have hBB := HBW.out.trans ((HB2.out.trans (HKA.out.mono HB2.out.size)).mono HBW.out.size)
          exact (by repeat (first | assumption | exact Below.refl _ _ | (refine Below.alloc ?_ (by first | omega | (simp; omega) | simp) _) | (refine Below.setCell ?_ (by first | omega | (simp; omega) | simp) _) | refine Below.drew ?_))
  · have HST := Lib.hid (strip_apart (f := f) (k := a) (l := b) HO.out hcd)
    have hcd2 : ¬ (ci : Int) = (di : Int) := by omega
    have hcd3 : ((ci : Int) == (di : Int)) = false := by simpa using hcd2
    have hxin := HIX.out
    have hyin := HIY.out
    have HGP := Lib.hid (show f.gapLo (f.ahead ci a) (f.ahead di b) = f.loS (f.ahead di b) - f.hiS (f.ahead ci a) ∧ f.gapHi (f.ahead ci a) (f.ahead di b) = f.hiS (f.ahead di b) - f.loS (f.ahead ci a) from by
      unfold PFrame.gapLo PFrame.gapHi
      rw [HST.out]
      exact ⟨rfl, rfl⟩)
    have hlx := HLB.out _ i2
    have hhx := HHB.out _ i2
    have hly := HLB.out _ i4
    have hhy := HHB.out _ i4
    have HHX := Lib.hid (fun W (h : Below w.heap.size w W) (hb : Below v2.heap.size v2 W) => HHE.out aa a ac (f.ahead ci a) hxin i2 W h (HI1'.out.below hb))
    have HHY := Lib.hid (fun W (h : Below w.heap.size w W) (hb : Below v2.heap.size v2 W) => HHE.out ba b bc (f.ahead di b) hyin i4 W h (HI2.out W hb))
    clear hxin hyin HST
    generalize f.loS (f.ahead ci a) = lx at *
    generalize f.hiS (f.ahead ci a) = hx at *
    generalize f.loS (f.ahead di b) = ly at *
    generalize f.hiS (f.ahead di b) = hy at *
    have HVb := Lib.hid (show Below w.heap.size w v2 from (HBW.out.trans (Below.mono (by repeat (first | exact Below.refl _ _ | with_reducible exact HB2.out | (refine Below.alloc ?_ (by first | omega | (simp; omega) | simp) _) | (refine Below.setCell ?_ (by first | omega | (simp; omega) | simp) _) | refine Below.drew ?_)) HBW.out.size)))
    have HY1 := Lib.hid (fun W (h : Below v2.heap.size v2 W ∧ ∀ b o, b < v2.heap.size → W.cell? ⟨b, o, none⟩ = v2.cell? ⟨b, o, none⟩) => bothM2 (W0 := v2) (HHX.out W (HVb.out.trans (h.1.mono HVb.out.size)) h.1) h)
    have HY2 := Lib.hid (fun W (h : Below v2.heap.size v2 W ∧ ∀ b o, b < v2.heap.size → W.cell? ⟨b, o, none⟩ = v2.cell? ⟨b, o, none⟩) => bothM2 (W0 := v2) (HHY.out W (HVb.out.trans (h.1.mono HVb.out.size)) h.1) h)
    go_upto_region 8 with fail
    go_cut [12, 13] (fun v12 v13 wx => ∃ g1 g2, v12 = .pointer (some ⟨g1, 0, none⟩) ∧ v13 = .pointer (some ⟨g2, 0, none⟩) ∧ (wx.cell? ⟨g1, 0, none⟩ = some (.int .i64 lx) ∧ wx.cell? ⟨g1, 1, none⟩ = some (.int .i64 hx) ∧ wx.cell? ⟨g2, 0, none⟩ = some (.int .i64 ly) ∧ wx.cell? ⟨g2, 1, none⟩ = some (.int .i64 hy)) ∧ (v2.heap.size ≤ g1 ∧ v2.heap.size ≤ g2) ∧ Below v2.heap.size v2 wx)
    case first =>
      go_region_held3 (fun w' => Below v2.heap.size v2 w' ∧ ∀ b o, b < v2.heap.size → w'.cell? ⟨b, o, none⟩ = v2.cell? ⟨b, o, none⟩) (first | with_reducible assumption | ((repeat (first | with_reducible refine bothS_drew ?_ | with_reducible refine bothS_alloc _ ?_ | with_reducible refine bothS_set _ _ (by first | omega | (simp; omega) | simp) ?_)); first | with_reducible assumption | with_reducible exact Hid.out (by assumption) | with_reducible exact ⟨Below.refl _ _, fun _ _ _ => rfl⟩)) (first
        | (go_at_call 78; with_reducible refine (HY1.out _ ?_).mono ?_; (first | with_reducible assumption | ((repeat (first | with_reducible refine bothS_drew ?_ | with_reducible refine bothS_alloc _ ?_ | with_reducible refine bothS_set _ _ (by first | omega | (simp; omega) | simp) ?_)); first | with_reducible assumption | with_reducible exact Hid.out (by assumption) | with_reducible exact ⟨Below.refl _ _, fun _ _ _ => rfl⟩)); rintro e w' ⟨rfl, k, k1, k2, k3⟩; have HK' := Lib.hid k; (try simp at k3); (try have kk6 := Nat.lt_of_lt_of_le k6 k3); (try have kk7 := Nat.lt_of_lt_of_le k6 (Nat.le_of_succ_le k3)); (try have k6 := Nat.lt_of_succ_le k3); (try have k7 := Nat.lt_of_succ_lt k6))
        | (go_at_call 78; with_reducible refine (HY2.out _ ?_).mono ?_; (first | with_reducible assumption | ((repeat (first | with_reducible refine bothS_drew ?_ | with_reducible refine bothS_alloc _ ?_ | with_reducible refine bothS_set _ _ (by first | omega | (simp; omega) | simp) ?_)); first | with_reducible assumption | with_reducible exact Hid.out (by assumption) | with_reducible exact ⟨Below.refl _ _, fun _ _ _ => rfl⟩)); rintro e w' ⟨rfl, k, k1, k2, k3⟩; have HK' := Lib.hid k; (try simp at k3); (try have kk6 := Nat.lt_of_lt_of_le k6 k3); (try have kk7 := Nat.lt_of_lt_of_le k6 (Nat.le_of_succ_le k3)); (try have k6 := Nat.lt_of_succ_le k3); (try have k7 := Nat.lt_of_succ_lt k6))
        | fail "no arm")
      all_goals (go_wp2_with fail; go_meet)
      all_goals refine ⟨_, _, rfl, rfl, ⟨?_, ?_, ?_, ?_⟩, ⟨?_, ?_⟩, And.left (by assumption)⟩
      all_goals first | (go_simp; done) | omega | (simp; done) | (simp; omega) | (go_simp; exact set_same (u := .int .i64 0) (by go_simp; done)) | skip
    case rest =>
    obtain ⟨g1, g2, rfl, rfl, ⟨c1, c2, c3, c4⟩, ⟨hg1, hg2⟩, hb3⟩ := hcut
    obtain ⟨v3, rfl⟩ : ∃ v3 : World, v3 = wc := ⟨_, rfl⟩
    have HB3 := Lib.hid (HB2.out.trans (hb3.mono HB2.out.size))
    have hf0 := HFZ.out v3 HB3.out 0
    have hf1 := HFZ.out v3 HB3.out 1
    have r0 := (hb3.cell (p := ⟨w.heap.size + 1, 0, none⟩) q2_1).trans g2_5
    have r1 := (hb3.cell (p := ⟨w.heap.size + 1, 1, none⟩) q2_1).trans g2_6
    have hw1 : IntKind.i64.wrap (ly - hx) = ly - hx := IntWalk.i64_in _ ⟨by omega, by omega⟩
    have hw2 : IntKind.i64.wrap (hy - lx) = hy - lx := IntWalk.i64_in _ ⟨by omega, by omega⟩
    go_wp2_with fail
    refine bodyPost_ret (v := .agg #[.int .i64 (ly - hx), .int .i64 (hy - lx)]) (by simp [results, Try.results101, go_sem, *]) rfl ⟨⟨ci, a, di, b, HPT.out.1, HPT.out.2, by rw [HGP.out.1, HGP.out.2]⟩, ?_⟩
    have hBB := HBW.out.trans (HB3.out.mono HBW.out.size)
    exact (by repeat (first | assumption | exact Below.refl _ _ | (refine Below.alloc ?_ (by first | omega | (simp; omega) | simp) _) | (refine Below.setCell ?_ (by first | omega | (simp; omega) | simp) _) | refine Below.drew ?_))
end Go.Proofs.Ytlhgoedghojnkaa
