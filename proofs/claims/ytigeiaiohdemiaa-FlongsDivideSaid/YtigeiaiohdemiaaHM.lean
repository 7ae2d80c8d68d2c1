/- Flongs: the reference's Earlier and Spared, the laws' isFor. -/
import Derived.Test.YtigeiaiohdemiaaHL
import Derived.Test.YtigeiaiohdemiaaGT
namespace Go.Proofs.Ytigeiaiohdemiaa
set_option linter.unusedVariables false
set_option linter.unusedSimpArgs false
open Go.RowKit
attribute [local go_sem] field_span

set_option maxHeartbeats 1000000 in
theorem refEarlier_any (xa : Option Addr) (xc : Nat) (ya : Option Addr) (yc n : Nat) (x y : List Int) (w : World) (hx : IntsAt w xa n x) (hy : IntsAt w ya n y) :
    Calls Try.prog 40 #[.slice xa n xc, .slice ya n yc] w fun e w' => e = .returned (.bool (earlB x y)) ∧ Below w.heap.size w w' := by
  obtain ⟨hxl, hxm, hxc⟩ := hx
  obtain ⟨hyl, _, hyc⟩ := hy
  unfold maxLen at hxm
  rcases Nat.eq_zero_or_pos n with h0 | h0
  · subst h0
    obtain rfl : x = [] := List.length_eq_zero_iff.1 hxl
    have HS := Lib.hid (show earlB [] y = false by simp [earlB])
    clear hxl hyl hxc hyc
    go_enter Try.func40, Try.ntmps40
    go_wp2
    go_loopw [5] (fun i wr => i = .int .i64 0 ∧ Below w.heap.size w wr) (fun _ _ => 0)
    case atStart => exact ⟨rfl, Below.refl _ _⟩
    case round =>
      obtain ⟨rfl, hB⟩ := hrel
      go_wp2
      go_ret
      exact ⟨ret_bool HS.out.symm, hB⟩
  · obtain ⟨xb, xo, rfl, hxB, hxcell⟩ := hxc h0
    obtain ⟨yb, yo, rfl, hyB, hycell⟩ := hyc h0
    have HX := Lib.hid hxl
    have HY := Lib.hid hyl
    clear hxl hyl hxc hyc
    obtain ⟨r, hr⟩ : ∃ r, earlB x y = r := ⟨_, rfl⟩
    have HR := Lib.hid hr
    clear hr
    go_enter Try.func40, Try.ntmps40
    go_wp2
    go_loopw [5] (fun i wr => ∃ k : Nat, k ≤ n ∧ i = .int .i64 k ∧ earlB (x.drop k) (y.drop k) = r ∧ Below w.heap.size w wr) (fun i _ => n - (intOf i).toNat)
    case atStart => exact ⟨0, by omega, rfl, HR.out, Below.refl _ _⟩
    case round =>
      obtain ⟨k, hk, rfl, hsm, hB⟩ := hrel
      by_cases hlt : k < n
      · have hk2 : k < x.length := by rw [HX.out]; exact hlt
        have hk3 : k < y.length := by rw [HY.out]; exact hlt
        rw [List.drop_eq_getElem_cons hk2, List.drop_eq_getElem_cons hk3] at hsm
        have cx := (hB.cell (p := ⟨xb, _, none⟩) hxB).trans (hxcell k hk2)
        have cy := (hB.cell (p := ⟨yb, _, none⟩) hyB).trans (hycell k hk3)
        have hkl : (k : Int) < (n : Int) := by omega
        simp only [earlB] at hsm
        by_cases he : x[k] = y[k]
        · rw [if_pos he] at hsm
          have HSM := Lib.hid hsm; clear hsm
          rw [← he] at cy
          clear he
          generalize x[k] = v at *
          go_wp2_with fail
          go_quiet (fail)
          go_wp2_with fail
          go_roundw
          case rel => exact ⟨k + 1, by omega, by go_num, HSM.out, hB.trans (Go.Joins.below_draws _ _ _)⟩
          case measure => simp [intOf]; omega
        · rw [if_neg he] at hsm
          have HSM := Lib.hid hsm; clear hsm
          have e1 : (x[k] == y[k]) = false := by simpa using he
          have e2 : (x[k] != y[k]) = true := by simpa using he
          clear he
          generalize x[k] = v at *
          generalize y[k] = u at *
          go_wp2_with fail
          go_quiet (fail)
          go_wp2_with fail
          go_quiet (fail)
          go_wp2_with fail
          go_ret
          exact ⟨ret_bool (HSM.out.trans HR.out.symm), (hB.trans (Go.Joins.below_draws _ _ _)).trans (Go.Joins.below_draws _ _ _)⟩
      · have hk' : k = n := by omega
        subst hk'
        rw [List.drop_eq_nil_of_le (by rw [HX.out]; exact Nat.le_refl _)] at hsm
        have HSM := Lib.hid (show r = false by rw [← hsm]; simp [earlB]); clear hsm
        go_wp2
        go_ret
        exact ⟨ret_bool (HSM.out.symm.trans HR.out.symm), hB⟩

theorem refEarlier_is (xa : Option Addr) (xc : Nat) (ya : Option Addr) (yc n : Nat) (x y : List Int) (b : Bool) (h : earlB x y = b) (w : World) (hx : IntsAt w xa n x) (hy : IntsAt w ya n y) :
    Calls Try.prog 40 #[.slice xa n xc, .slice ya n yc] w fun e w' => e = .returned (.bool b) ∧ Below w.heap.size w w' := h ▸ refEarlier_any xa xc ya yc n x y w hx hy
theorem psum_bd : ∀ (ms : List Mould) (z : List Int) (p : Nat) (_ : ∀ i (h : i < z.length), 0 ≤ z[i] ∧ z[i] ≤ 12), 0 ≤ psum ms z p ∧ psum ms z p ≤ 12 * ms.length
  | [], _, _, _ => by simp [psum]
  | _ :: _, [], _, _ => by simp [psum]; omega
  | m :: ms, v :: z, p, h => by
    have h1 := psum_bd ms z p (fun i hi => by have := h (i + 1) (by simpa using hi); simpa using this)
    have h2 := h 0 (by simp)
    simp only [List.getElem_cons_zero] at h2
    simp only [psum, List.length_cons]
    push_cast
    split <;> omega

set_option maxRecDepth 100000 in
set_option maxHeartbeats 4000000 in
theorem isFor_any (s : FShop) (ma : Option Addr) (ml mc : Nat) (wa : Option Addr) (wl wc : Nat) (na : Option Addr) (nl nc : Nat) (xa : Option Addr) (xl xc : Nat) (x : List Int) (ho : s.ok = true) (w : World) (hp : FAt w ma ml mc wa wl wc na nl nc s) (hx : IntsAt w xa xl x) :
    Calls Try.prog 39 #[.agg #[.slice ma ml mc, .slice wa wl wc, .slice na nl nc, .int .i64 s.fresh], .slice xa xl xc] w fun e w' => e = .returned (.bool (forB s x)) ∧ Below w.heap.size w w' := by
  have HAS := Lib.hid (fun b (h : sharesB s.moulds x = b) W (hb : Below w.heap.size w W) => refAreShares_is s ma ml mc wa wl wc na nl nc xa xl xc x b h W (hp.below hb) (hx.below hb))
  obtain ⟨hml, hmm, hmc⟩ := hp.1
  obtain ⟨hnl, hnm, hnc⟩ := hp.2.2
  obtain ⟨hxl, hxm, hxc⟩ := hx
  have hm5 := (FShop.ok_few ho).2.1
  have hn3 := (FShop.ok_few ho).1
  have HWB := Lib.hid (fun k (hk : k < s.wants.length) => FShop.ok_want ho k hk)
  unfold maxLen at hxm
  clear hp
  by_cases hne : xl = ml
  · obtain rfl : ml = xl := hne.symm
    rcases hs : sharesB s.moulds x with - | -
    · have HAS1 := Lib.hid (HAS.out _ hs)
      have HF := Lib.hid (show forB s x = false by simp [forB, hs])
      clear hs hml hmc hnl hnc hxl hxc ho
      go_enter Try.func39, Try.ntmps39
      go_wp2_with fail
      refine (HAS1.out _ (by repeat (first | exact Below.refl _ _ | (refine Below.alloc ?_ (by first | omega | (simp; omega) | simp) _) | (refine Below.setCell ?_ (by first | omega | (simp; omega) | simp) _) | refine Below.drew ?_))).mono ?_
      rintro e w1 ⟨rfl, hb1⟩
      have HB := Lib.hid hb1
      clear hb1
      go_wp2_with fail
      go_ret
      exact ⟨ret_bool HF.out.symm, (by repeat (first | exact Below.refl _ _ | (refine Below.alloc ?_ (by first | omega | (simp; omega) | simp) _) | (refine Below.setCell ?_ (by first | omega | (simp; omega) | simp) _) | refine Below.drew ?_ | (refine below_via (by assumption) (by first | omega | (simp; omega) | simp) ?_)))⟩
    · have HAS1 := Lib.hid (HAS.out _ hs)
      have hlen := (shares_bd hs).1
      have HXB := Lib.hid (fun i (h : i < x.length) => (shares_bd hs).2 i h)
      have HF := Lib.hid (show forB s x = ((List.range s.wants.length).all fun p => decide (psum s.moulds x p = s.wants[p]?.getD 0)) by simp [forB, hs])
      have HNX := Lib.hid (fun k (hk : k < s.moulds.length) (hk2 : k < x.length) p => psum_next hlen hk hk2 p)
      have HBD := Lib.hid (fun k p => psum_bd (s.moulds.take k) (x.take k) p (fun i hi => by
        have hi2 : i < x.length := by rw [List.length_take] at hi; omega
        rw [List.getElem_take]
        exact (shares_bd hs).2 i hi2))
      have HLT := Lib.hid (fun k => show (s.moulds.take k).length ≤ s.moulds.length by rw [List.length_take]; omega)
      have HEND := Lib.hid (fun p => show psum (s.moulds.take ml) (x.take ml) p = psum s.moulds x p by rw [List.take_of_length_le (by omega), List.take_of_length_le (by omega)])
      have HML := Lib.hid hml
      have HNL := Lib.hid hnl
      have HXL := Lib.hid hxl
      have HMC := Lib.hid hmc
      have HNC := Lib.hid hnc
      have HXC := Lib.hid hxc
      have hml5 : ml ≤ 5 := by omega
      have hnl3 : nl ≤ 3 := by omega
      clear hs hml hmc hnl hnc hxl hxc ho hlen hm5 hn3 hnm hmm
      go_enter Try.func39, Try.ntmps39
      go_wp2_with fail
      refine (HAS1.out _ (by repeat (first | exact Below.refl _ _ | (refine Below.alloc ?_ (by first | omega | (simp; omega) | simp) _) | (refine Below.setCell ?_ (by first | omega | (simp; omega) | simp) _) | refine Below.drew ?_))).mono ?_
      rintro e w1 ⟨rfl, hb1⟩
      have hx0 := fun i => (hb1.cell (p := ⟨w.heap.size, i, none⟩) (by simp)).trans (World.cell?_alloc_new w #[.slice ma ml mc, .slice wa wl wc, .slice na nl nc, .int .i64 s.fresh] 26 i)
      have HX0 := Lib.hid hx0
      obtain ⟨x0, x1, x2, x3⟩ : w1.cell? ⟨w.heap.size, 0, none⟩ = some (.slice ma ml mc) ∧ w1.cell? ⟨w.heap.size, 1, none⟩ = some (.slice wa wl wc) ∧ w1.cell? ⟨w.heap.size, 2, none⟩ = some (.slice na nl nc) ∧ w1.cell? ⟨w.heap.size, 3, none⟩ = some (.int .i64 s.fresh) := ⟨hx0 0, hx0 1, hx0 2, hx0 3⟩
      have q1 : w.heap.size < w1.heap.size := by have := hb1.size; simp at this; omega
      have hw1 := ((by repeat (first | exact Below.refl _ _ | (refine Below.alloc ?_ (by first | omega | (simp; omega) | simp) _) | (refine Below.setCell ?_ (by first | omega | (simp; omega) | simp) _) | refine Below.drew ?_)) : Below w.heap.size w _).trans (hb1.mono (by first | (simp; done) | (simp; omega) | omega))
      have HW1 := Lib.hid hw1
      clear hb1 hx0 hw1
      go_wp2_with fail
      clear x0 x1 x2 x3
      go_loopw [5] (fun i wr => ∃ k : Nat, k ≤ nl ∧ i = .int .i64 k ∧ ((List.range k).all fun p => decide (psum s.moulds x p = s.wants[p]?.getD 0)) = true ∧ Below w1.heap.size w1 wr) (fun i _ => nl - (intOf i).toNat)
      case atStart => exact ⟨0, by omega, rfl, by simp, Below.refl _ _⟩
      case round =>
        obtain ⟨k, hk, rfl, hall, hB⟩ := hrel
        have HALL := Lib.hid hall
        have HB := Lib.hid hB
        obtain ⟨x0, x1, x2, x3⟩ : wr.cell? ⟨w.heap.size, 0, none⟩ = some (.slice ma ml mc) ∧ wr.cell? ⟨w.heap.size, 1, none⟩ = some (.slice wa wl wc) ∧ wr.cell? ⟨w.heap.size, 2, none⟩ = some (.slice na nl nc) ∧ wr.cell? ⟨w.heap.size, 3, none⟩ = some (.int .i64 s.fresh) := ⟨(hB.cell (p := ⟨w.heap.size, 0, none⟩) q1).trans (HX0.out 0), (hB.cell (p := ⟨w.heap.size, 1, none⟩) q1).trans (HX0.out 1), (hB.cell (p := ⟨w.heap.size, 2, none⟩) q1).trans (HX0.out 2), (hB.cell (p := ⟨w.heap.size, 3, none⟩) q1).trans (HX0.out 3)⟩
        have hbw := HW1.out.trans (hB.mono HW1.out.size)
        clear hall
        by_cases hlt : k < nl
        · have hk2 : k < s.wants.length := by rw [HNL.out]; exact hlt
          obtain ⟨nb, no, rfl, hnB, hncell⟩ := HNC.out (by omega)
          have cn := (hbw.cell (p := ⟨nb, no + k, none⟩) hnB).trans (hncell k hk2)
          have hkl : (k : Int) < (nl : Int) := by omega
          have hk0 : (0 : Int) ≤ (k : Int) := by omega
          have HBW := Lib.hid hbw
          clear hB hbw hncell
          go_wp2_with fail
          obtain ⟨W2, hW2⟩ : ∃ W2 : World, W2 = wr := ⟨_, rfl⟩
          have HW2 := Lib.hid hW2
          clear hW2
          go_loopw [6, 7] (fun n i wi => ∃ j : Nat, j ≤ ml ∧ i = .int .i64 j ∧ n = .int .i64 (psum (s.moulds.take j) (x.take j) k) ∧ wr = wi) (fun _ i _ => ml - (intOf i).toNat)
          case atStart => exact ⟨0, by omega, rfl, by simp [psum], rfl⟩
          case round =>
            obtain ⟨j, hj, rfl, rfl, rfl⟩ := hrel
            obtain ⟨hb1, hb2⟩ := HBD.out j k
            have hlt' := HLT.out j
            rw [HML.out] at hlt'
            have hb3 : psum (s.moulds.take j) (x.take j) k ≤ 60 := by omega
            by_cases hlt2 : j < ml
            · have hj2 : j < s.moulds.length := by rw [HML.out]; exact hlt2
              have hj3 : j < x.length := by rw [HXL.out]; exact hlt2
              obtain ⟨mb, mo, rfl, hmB, hmcell⟩ := HMC.out (by omega)
              obtain ⟨xb, xo, rfl, hxB, hxcell⟩ := HXC.out (by omega)
              obtain ⟨d0, -, -⟩ := Mould.at_below HBW.out hmB (hmcell j hj2)
              have cx := (HBW.out.cell (p := ⟨xb, xo + j, none⟩) hxB).trans (hxcell j hj3)
              have HN := Lib.hid (HNX.out j hj2 hj3 k)
              have hxb := HXB.out j hj3
              have hjl : (j : Int) < (ml : Int) := by omega
              have hj0 : (0 : Int) ≤ (j : Int) := by omega
              clear hmcell hxcell hlt' hb2
              generalize hps : psum (s.moulds.take j) (x.take j) k = ps at *
              generalize s.moulds[j].p = mp at *
              generalize x[j] = xv at *
              by_cases he : mp = (k : Int)
              · subst he
                have HN' := Lib.hid (HN.out.trans (show _ = ps + xv by rw [if_pos rfl]))
                clear HN
                go_wp2_with fail
                go_roundw
                case rel => exact ⟨j + 1, by omega, by go_num, by rw [HN'.out], by first | trivial | rfl⟩
                case measure => simp [intOf]; omega
              · have HN' := Lib.hid (HN.out.trans (show _ = ps by rw [if_neg he]; omega))
                have heB : (mp == (k : Int)) = false := by simpa using he
                clear HN
                go_wp2_with fail
                go_roundw
                case rel => exact ⟨j + 1, by omega, by go_num, by rw [HN'.out], by first | trivial | rfl⟩
                case measure => simp [intOf]; omega
            · obtain rfl : ml = j := by omega
              rw [HEND.out] at hb1 hb3
              have HE2 := Lib.hid (HEND.out k)
              clear hb2 hlt' hlt2 hj
              rw [HE2.out]
              have HNEXT := Lib.hid (show decide (psum s.moulds x k = s.wants[k]) = true → ((List.range (k + 1)).all fun p => decide (psum s.moulds x p = s.wants[p]?.getD 0)) = true from fun h => by
                rw [List.range_succ, List.all_append, HALL.out]
                simp only [List.all_cons, List.all_nil, Bool.true_and, Bool.and_true, List.getElem?_eq_getElem hk2, Option.getD_some]
                exact h)
              have HFALSE := Lib.hid (show ¬ psum s.moulds x k = s.wants[k] → forB s x = false from fun h => by
                rw [HF.out]
                refine List.all_eq_false.2 ⟨k, List.mem_range.2 hk2, ?_⟩
                simp only [List.getElem?_eq_getElem hk2, Option.getD_some, decide_eq_true_eq]
                exact h)
              generalize psum s.moulds x k = ps at *
              generalize s.wants[k] = wk at *
              by_cases he : ps = wk
              · subst he
                have HA2 := Lib.hid (HNEXT.out (by simp))
                clear HNEXT HFALSE
                go_wp2_with fail
                go_roundw
                case rel => exact ⟨k + 1, by omega, by go_num, HA2.out, HB.out⟩
                case measure => simp [intOf]; omega
              · have HF2 := Lib.hid (HFALSE.out he)
                have heB : (ps != wk) = true := by simpa using he
                clear HNEXT HFALSE
                go_wp2_with fail
                go_ret
                exact ⟨ret_bool HF2.out.symm, HBW.out⟩
        · obtain rfl : nl = k := by omega
          have HBW := Lib.hid hbw
          have HT := Lib.hid (show forB s x = true by rw [HF.out, HNL.out]; exact HALL.out)
          clear hB hbw
          go_wp2_with fail
          go_ret
          exact ⟨ret_bool HT.out.symm, HBW.out⟩
  · have HF := Lib.hid (show forB s x = false by
      have : sharesB s.moulds x = false := by
        unfold sharesB
        rw [show decide (x.length = s.moulds.length) = false from decide_eq_false (by omega)]
        rfl
      simp [forB, this])
    have h1 : ¬ (xl : Int) = (ml : Int) := by omega
    clear hml hmc hnl hnc hxl hxc ho
    go_enter Try.func39, Try.ntmps39
    go_wp2_with fail
    go_ret
    exact ⟨ret_bool HF.out.symm, (by repeat (first | exact Below.refl _ _ | (refine Below.alloc ?_ (by first | omega | (simp; omega) | simp) _) | (refine Below.setCell ?_ (by first | omega | (simp; omega) | simp) _) | refine Below.drew ?_))⟩
theorem isFor_is (s : FShop) (ma : Option Addr) (ml mc : Nat) (wa : Option Addr) (wl wc : Nat) (na : Option Addr) (nl nc : Nat) (xa : Option Addr) (xl xc : Nat) (x : List Int) (b : Bool) (h : forB s x = b) (ho : s.ok = true) (w : World) (hp : FAt w ma ml mc wa wl wc na nl nc s) (hx : IntsAt w xa xl x) :
    Calls Try.prog 39 #[.agg #[.slice ma ml mc, .slice wa wl wc, .slice na nl nc, .int .i64 s.fresh], .slice xa xl xc] w fun e w' => e = .returned (.bool b) ∧ Below w.heap.size w w' := h ▸ isFor_any s ma ml mc wa wl wc na nl nc xa xl xc x ho w hp hx

set_option maxRecDepth 100000 in
set_option maxHeartbeats 4000000 in
theorem refSpared_is (s : FShop) (ma : Option Addr) (ml mc : Nat) (wa : Option Addr) (wl wc : Nat) (na : Option Addr) (nl nc : Nat) (xa : Option Addr) (xl xc : Nat) (x : List Int) (ho : s.ok = true) (hl0 : 0 < s.left.length) (hs : sharesB s.moulds x = true) (w : World) (hp : FAt w ma ml mc wa wl wc na nl nc s) (hx : IntsAt w xa xl x) :
    Calls Try.prog 41 #[.agg #[.slice ma ml mc, .slice wa wl wc, .slice na nl nc, .int .i64 s.fresh], .slice xa xl xc] w fun e w' => e = .returned (.int .i64 (farOf (loOf s.left) x)) ∧ Below w.heap.size w w' := by
  have hlen := (shares_bd hs).1
  have HXB := Lib.hid (fun i (h : i < x.length) => (shares_bd hs).2 i h)
  have HLO := Lib.hid (fun m (hm : m < x.length) W (hb : Below w.heap.size w W) => refLeftOf_is s ma ml mc wa wl wc na nl nc m (by omega) ho hl0 W (hp.below hb))
  have HFB := Lib.hid (fun k (hk : k ≤ x.length) => far_bd (g := loOf s.left) (lo_bd ho) (shares_bd hs).2 k hk)
  have HLB := Lib.hid (fun t => lo_bd ho t)
  have HFN := Lib.hid (fun k (h : k < x.length) => farTo_next (g := loOf s.left) h)
  have HE := Lib.hid (show farOf (loOf s.left) x = farTo (loOf s.left) x x.length from rfl)
  have HE0 := Lib.hid (show farTo (loOf s.left) x 0 = 1000 from rfl)
  obtain ⟨hxl, hxm, hxc⟩ := hx
  have HXL := Lib.hid hxl
  have HXC := Lib.hid hxc
  unfold maxLen at hxm
  clear hp hs hlen ho hl0 hxl hxc
  generalize loOf s.left = lo at *
  generalize hiOf s.left = hi at *
  go_enter Try.func41, Try.ntmps41
  go_wp2_with fail
  obtain ⟨W0, hW0, hB0, hs0, hz0⟩ := name1k w #[.slice ma ml mc, .slice wa wl wc, .slice na nl nc, .int .i64 s.fresh] 26
  rw [hW0]
  clear hW0
  have HB0 := Lib.hid hB0
  have HS0 := Lib.hid hs0
  clear hB0 hs0
  go_loopw [5, 6] (fun n i wr => ∃ k : Nat, k ≤ xl ∧ i = .int .i64 k ∧ n = .int .i64 (farTo lo x k) ∧ Below W0.heap.size W0 wr) (fun _ i _ => xl - (intOf i).toNat)
  case atStart => exact ⟨0, by omega, rfl, by rw [HE0.out], Below.refl _ _⟩
  case round =>
    obtain ⟨k, hk, rfl, rfl, hB⟩ := hrel
    obtain ⟨W1, rfl⟩ : ∃ W1 : World, W1 = wr := ⟨_, rfl⟩
    have HB := Lib.hid hB
    obtain ⟨x0, x1, x2, x3⟩ : W1.cell? ⟨w.heap.size, 0, none⟩ = some (.slice ma ml mc) ∧ W1.cell? ⟨w.heap.size, 1, none⟩ = some (.slice wa wl wc) ∧ W1.cell? ⟨w.heap.size, 2, none⟩ = some (.slice na nl nc) ∧ W1.cell? ⟨w.heap.size, 3, none⟩ = some (.int .i64 s.fresh) := ⟨(hB.cell (p := ⟨w.heap.size, 0, none⟩) hz0).trans (HS0.out 0), (hB.cell (p := ⟨w.heap.size, 1, none⟩) hz0).trans (HS0.out 1), (hB.cell (p := ⟨w.heap.size, 2, none⟩) hz0).trans (HS0.out 2), (hB.cell (p := ⟨w.heap.size, 3, none⟩) hz0).trans (HS0.out 3)⟩
    have hbw := HB0.out.trans (hB.mono HB0.out.size)
    by_cases hlt : k < xl
    · have hk2 : k < x.length := by rw [HXL.out]; exact hlt
      obtain ⟨xb, xo, rfl, hxB, hxcell⟩ := HXC.out (by omega)
      have cx := (hbw.cell (p := ⟨xb, xo + k, none⟩) hxB).trans (hxcell k hk2)
      have hxW : xb < W1.heap.size := Nat.lt_of_lt_of_le hxB hbw.size
      have hwW : w.heap.size < W1.heap.size := Nat.lt_of_lt_of_le hz0 hB.size
      have HLX := Lib.hid (fun W (h : Below W1.heap.size W1 W ∧ ∀ b o, b < W1.heap.size → W.cell? ⟨b, o, none⟩ = W1.cell? ⟨b, o, none⟩) => bothS1 (W0 := W1) (HLO.out k hk2 W (hbw.trans (h.1.mono hbw.size))) h)
      have HN := Lib.hid (HFN.out k hk2)
      obtain ⟨hf1, hf2⟩ := HFB.out k (by omega)
      obtain ⟨hl1, hl2⟩ := HLB.out k
      obtain ⟨hx1, hx2⟩ := HXB.out k hk2
      have hkl : (k : Int) < (xl : Int) := by omega
      have hk0 : (0 : Int) ≤ (k : Int) := by omega
      clear hB hbw hxcell
      generalize hfk : farTo lo x k = fk at *
      generalize lo k = lk at *
      generalize hi k = hik at *
      generalize x[k] = xv at *
      by_cases h0 : 0 < xv
      · have hwr : IntKind.i64.wrap (lk - xv) = lk - xv := IntWalk.i64_in _ ⟨by omega, by omega⟩
        obtain ⟨nv, hnv⟩ : ∃ nv, min fk (lk - xv) = nv := ⟨_, rfl⟩
        have HN' := Lib.hid (HN.out.trans (show _ = nv by rw [if_pos h0, hnv]))
        have HNV := Lib.hid hnv
        clear HN hnv
        rcases Int.lt_or_le (lk - xv) fk with h | h
        · have hmin : min fk (lk - xv) = lk - xv := by omega
          have HV := Lib.hid (show nv = lk - xv by rw [← HNV.out]; omega)
          go_upto_region 6 with fail
          go_region_held3 (fun w' => Below W1.heap.size W1 w' ∧ ∀ b o, b < W1.heap.size → w'.cell? ⟨b, o, none⟩ = W1.cell? ⟨b, o, none⟩) (first | with_reducible assumption | ((repeat (first | with_reducible refine bothS_drew ?_ | with_reducible refine bothS_alloc _ ?_ | with_reducible refine bothS_set _ _ (by first | omega | (simp; omega) | simp) ?_)); first | with_reducible assumption | with_reducible exact Hid.out (by assumption) | with_reducible exact ⟨Below.refl _ _, fun _ _ _ => rfl⟩)) (first | (go_at_call 79; with_reducible refine (HLX.out _ ?_).mono ?_; (first | with_reducible assumption | ((repeat (first | with_reducible refine bothS_drew ?_ | with_reducible refine bothS_alloc _ ?_ | with_reducible refine bothS_set _ _ (by first | omega | (simp; omega) | simp) ?_)); first | with_reducible assumption | with_reducible exact Hid.out (by assumption) | with_reducible exact ⟨Below.refl _ _, fun _ _ _ => rfl⟩)); rintro e w' ⟨rfl, kq, -, -, -⟩) | fail "no arm")
          all_goals
            have hh := ‹Below W1.heap.size W1 _ ∧ _›
            have HH5 := Lib.hid (HB.out.trans (hh.1.mono HB.out.size))
            clear hh
            go_wp2_with fail
            go_roundw
            case rel => exact ⟨k + 1, by omega, by go_num, by rw [HN'.out, HV.out]; first | done | rfl | rw [if_neg (by omega)] | rw [if_pos (by omega)], HH5.out⟩
            case measure => simp [intOf]; omega
        · have hmin : min fk (lk - xv) = fk := by omega
          have HV := Lib.hid (show nv = fk by rw [← HNV.out]; omega)
          go_upto_region 6 with fail
          go_region_held3 (fun w' => Below W1.heap.size W1 w' ∧ ∀ b o, b < W1.heap.size → w'.cell? ⟨b, o, none⟩ = W1.cell? ⟨b, o, none⟩) (first | with_reducible assumption | ((repeat (first | with_reducible refine bothS_drew ?_ | with_reducible refine bothS_alloc _ ?_ | with_reducible refine bothS_set _ _ (by first | omega | (simp; omega) | simp) ?_)); first | with_reducible assumption | with_reducible exact Hid.out (by assumption) | with_reducible exact ⟨Below.refl _ _, fun _ _ _ => rfl⟩)) (first | (go_at_call 79; with_reducible refine (HLX.out _ ?_).mono ?_; (first | with_reducible assumption | ((repeat (first | with_reducible refine bothS_drew ?_ | with_reducible refine bothS_alloc _ ?_ | with_reducible refine bothS_set _ _ (by first | omega | (simp; omega) | simp) ?_)); first | with_reducible assumption | with_reducible exact Hid.out (by assumption) | with_reducible exact ⟨Below.refl _ _, fun _ _ _ => rfl⟩)); rintro e w' ⟨rfl, kq, -, -, -⟩) | fail "no arm")
          all_goals
            have hh := ‹Below W1.heap.size W1 _ ∧ _›
            have HH5 := Lib.hid (HB.out.trans (hh.1.mono HB.out.size))
            clear hh
            go_wp2_with fail
            go_roundw
            case rel => exact ⟨k + 1, by omega, by go_num, by rw [HN'.out, HV.out]; first | done | rfl | rw [if_neg (by omega)] | rw [if_pos (by omega)], HH5.out⟩
            case measure => simp [intOf]; omega
      · have HN' := Lib.hid (HN.out.trans (show _ = fk by rw [if_neg h0]))
        clear HN
        go_wp2_with fail
        go_roundw
        case rel => exact ⟨k + 1, by omega, by go_num, by rw [HN'.out], HB.out⟩
        case measure => simp [intOf]; omega
    · obtain rfl : xl = k := by omega
      have HBW := Lib.hid hbw
      clear hB hbw
      go_wp2_with fail
      go_ret
      exact ⟨ret_i64 (by rw [HE.out, HXL.out]), HBW.out⟩
end Go.Proofs.Ytigeiaiohdemiaa
