/- The reference of changes: Within, Rising, Earlier, In; IsThing, IsChange, IsMinute. -/
import Derived.Test.YtedfdhpggghjeaaCS
import Derived.Test.YtedfdhpggghjeaaYQ
namespace Go.Proofs.Ytedfdhpggghjeaa
set_option linter.unusedVariables false
set_option linter.unusedSimpArgs false
open Go.RowKit Go.Shelf

set_option maxHeartbeats 400000 in
theorem Within_any (n lo hi : Int) (w : World) :
    Calls Try.prog 46 #[.int .i64 n, .int .i64 lo, .int .i64 hi] w fun e w' => e = .returned (.bool (btw n lo hi)) ∧ w = w' := by
  go_enter Try.func46, Try.ntmps46
  go_wp2
  all_goals (go_ret; refine ⟨ret_bool ?_, rfl⟩; rw [Bool.eq_iff_iff]; simp [btw]; omega)
theorem Within_is (n lo hi : Int) (b : Bool) (h : btw n lo hi = b) (w : World) :
    Calls Try.prog 46 #[.int .i64 n, .int .i64 lo, .int .i64 hi] w fun e w' => e = .returned (.bool b) ∧ w = w' := h ▸ Within_any n lo hi w
theorem within_is (n lo hi : Int) (b : Bool) (h : btw n lo hi = b) (w : World) :
    Calls Try.prog 66 #[.int .i64 n, .int .i64 lo, .int .i64 hi] w fun e w' => e = .returned (.bool b) ∧ w = w' := by
  subst h
  have HW := Lib.hid (fun w1 => Within_any n lo hi w1)
  go_enter Try.func66, Try.ntmps66
  go_wp2_with fail
  refine (HW.out _).mono ?_
  rintro e w1 ⟨rfl, rfl⟩
  go_wp2_with fail
  go_ret
  exact ⟨rfl, rfl⟩
def earlB : List Int → List Int → Bool
  | a :: x, b :: y => if a = b then earlB x y else decide (a < b)
  | _, _ => false
theorem earl_irr : ∀ x, earlB x x = false
  | [] => rfl
  | a :: x => by simp [earlB, earl_irr x]
/-- The number at a place is within the bounds, and more than the one before it. -/
def goodAt (x : List Int) (lo hi : Int) (k : Nat) : Bool := btw (x.getD k 0) lo hi && (k == 0 || decide (x.getD (k - 1) 0 < x.getD k 0))
def risingB (x : List Int) (lo hi : Int) : Bool := (List.range x.length).all (goodAt x lo hi)
theorem rising_no {x : List Int} {lo hi : Int} {k : Nat} (h : k < x.length) (hg : goodAt x lo hi k = false) : risingB x lo hi = false := by
  rcases hb : risingB x lo hi with - | -
  · rfl
  · have := List.all_eq_true.1 hb k (List.mem_range.2 h)
    rw [hg] at this; exact absurd this (by decide)
theorem rising_yes {x : List Int} {lo hi : Int} (h : ∀ k, k < x.length → goodAt x lo hi k = true) : risingB x lo hi = true :=
  List.all_eq_true.2 fun k hk => h k (List.mem_range.1 hk)
set_option maxHeartbeats 2000000 in
theorem Rising_any (xa : Option Addr) (xl xc : Nat) (x : List Int) (lo hi : Int) (w : World) (hx : IntsAt w xa xl x) :
    Calls Try.prog 55 #[.slice xa xl xc, .int .i64 lo, .int .i64 hi] w fun e w' => e = .returned (.bool (risingB x lo hi)) ∧ Below w.heap.size w w' := by
  obtain ⟨hxl, hxm, hxc⟩ := hx
  unfold maxLen at hxm
  rcases Nat.eq_zero_or_pos xl with h0 | h0
  · subst h0
    have HS := Lib.hid (show risingB x lo hi = true by rw [List.length_eq_zero_iff.1 hxl]; rfl)
    clear hxl hxc
    go_enter Try.func55, Try.ntmps55
    go_wp2
    go_loopw [7] (fun i wr => i = .int .i64 0 ∧ Below w.heap.size w wr) (fun _ _ => 0)
    case atStart => exact ⟨rfl, Below.refl _ _⟩
    case round =>
      obtain ⟨rfl, hB⟩ := hrel
      go_wp2
      go_ret
      exact ⟨ret_bool HS.out.symm, hB⟩
  · obtain ⟨xb, xo, rfl, hxB, hxcell⟩ := hxc h0
    have HX := Lib.hid hxl
    have HC := Lib.hid hxcell
    clear hxl hxc hxcell
    go_enter Try.func55, Try.ntmps55
    go_wp2
    go_loopw [7] (fun i wr => ∃ k : Nat, k ≤ xl ∧ i = .int .i64 k ∧ (∀ q, q < k → goodAt x lo hi q = true) ∧ Below w.heap.size w wr) (fun i _ => xl - (intOf i).toNat)
    case atStart => exact ⟨0, by omega, rfl, fun q h => by omega, Below.refl _ _⟩
    case round =>
      obtain ⟨k, hk, rfl, hsm, hB⟩ := hrel
      have HSM := Lib.hid hsm; clear hsm
      by_cases hlt : k < xl
      · have hk2 : k < x.length := by rw [HX.out]; exact hlt
        have cx := (hB.cell (p := ⟨xb, _, none⟩) hxB).trans (HC.out k hk2)
        have hkl : (k : Int) < (xl : Int) := by omega
        have hgx : x.getD k 0 = x[k] := by simp [List.getD, hk2]
        rcases hb : btw x[k] lo hi with - | -
        · have HN := Lib.hid (rising_no (lo := lo) (hi := hi) hk2 (by simp only [goodAt, hgx, hb, Bool.false_and]))
          have HW := Lib.hid hb
          clear hb hgx
          generalize x[k] = m at *
          go_wp2_with fail
          go_quiet ((go_at_call 46; exact Calls.quiet_of_same ((Within_is _ _ _ _ HW.out _).mono fun _ _ h => ⟨h.1, h.2.symm⟩)))
          go_wp2_with fail
          go_ret
          exact ⟨ret_bool HN.out.symm, hB.trans (Go.Joins.below_draws _ _ _)⟩
        · rcases Nat.eq_zero_or_pos k with hz | hz
          · subst hz
            have HSM2 := Lib.hid (show ∀ q, q < 0 + 1 → goodAt x lo hi q = true from fun q hq => by
              obtain rfl : q = 0 := by omega
              simp only [goodAt, hgx, hb]; rfl)
            have HW := Lib.hid hb
            clear hb hgx
            generalize x[0] = m at *
            have cx0 : wr.cell? ⟨xb, xo, none⟩ = some (.int .i64 m) := by simpa using cx
            have hkl0 : (0 : Int) < (xl : Int) := by omega
            clear cx
            go_wp2_with fail
            go_quiet ((go_at_call 46; exact Calls.quiet_of_same ((Within_is _ _ _ _ HW.out _).mono fun _ _ h => ⟨h.1, h.2.symm⟩)))
            go_wp2_with fail
            go_roundw
            case rel => exact ⟨0 + 1, by omega, by go_num, HSM2.out, hB.trans (Go.Joins.below_draws _ _ _)⟩
            case measure => simp [intOf]; omega
          · obtain ⟨j, rfl⟩ : ∃ j, k = j + 1 := ⟨k - 1, by omega⟩
            have hj2 : j < x.length := by omega
            have cj := (hB.cell (p := ⟨xb, _, none⟩) hxB).trans (HC.out j hj2)
            have hgj : x.getD (j + 1 - 1) 0 = x[j] := by simp [List.getD, hj2]
            have hjl : (j : Int) < (xl : Int) := by omega
            have w1 : IntKind.i64.wrap (j : Int) = (j : Int) := IntWalk.i64_in _ ⟨by omega, by omega⟩
            have w2 : IntKind.i64.wrap ((j : Int) + 1 - 1) = (j : Int) := by rw [show (j : Int) + 1 - 1 = j by omega]; exact w1
            have w3 : ((j : Int) + 1).toNat = j + 1 := by omega
            have w4 : 0 < (j : Int) + 1 := by omega
            have w5 : 0 ≤ (j : Int) + 1 := by omega
            have hkl' : (j : Int) + 1 < (xl : Int) := by omega
            by_cases ho : x[j] < x[j + 1]
            · have HSM2 := Lib.hid (show ∀ q, q < j + 1 + 1 → goodAt x lo hi q = true from fun q hq => by
                by_cases e : q = j + 1
                · subst e; simp only [goodAt, hgx, hgj, hb, decide_eq_true ho, Bool.or_true, Bool.and_self]
                · exact HSM.out q (by omega))
              have HW := Lib.hid hb
              have ho' : ¬ x[j + 1] ≤ x[j] := by omega
              clear hb hgx hgj
              generalize x[j + 1] = m at *
              generalize x[j] = n at *
              go_wp2_with fail
              go_quiet ((go_at_call 46; exact Calls.quiet_of_same ((Within_is _ _ _ _ HW.out _).mono fun _ _ h => ⟨h.1, h.2.symm⟩)))
              go_wp2_with fail
              go_roundw
              case rel => exact ⟨j + 1 + 1, by omega, by go_num, HSM2.out, hB.trans (Go.Joins.below_draws _ _ _)⟩
              case measure => simp [intOf]; omega
            · have HN := Lib.hid (rising_no (lo := lo) (hi := hi) hk2 (by simp only [goodAt, hgx, hgj, hb, decide_eq_false ho]; rfl))
              have HW := Lib.hid hb
              have ho' : x[j + 1] ≤ x[j] := by omega
              clear hb hgx hgj
              generalize x[j + 1] = m at *
              generalize x[j] = n at *
              go_wp2_with fail
              go_quiet ((go_at_call 46; exact Calls.quiet_of_same ((Within_is _ _ _ _ HW.out _).mono fun _ _ h => ⟨h.1, h.2.symm⟩)))
              go_wp2_with fail
              go_ret
              exact ⟨ret_bool HN.out.symm, hB.trans (Go.Joins.below_draws _ _ _)⟩
      · have hk' : k = xl := by omega
        subst hk'
        have HS := Lib.hid (show risingB x lo hi = true from rising_yes fun q hq => HSM.out q (by have := HX.out; omega))
        go_wp2
        go_ret
        exact ⟨ret_bool HS.out.symm, hB⟩
set_option maxHeartbeats 1000000 in
theorem refEarlier_any (xa : Option Addr) (xc : Nat) (ya : Option Addr) (yc n : Nat) (x y : List Int) (w : World) (hx : IntsAt w xa n x) (hy : IntsAt w ya n y) :
    Calls Try.prog 52 #[.slice xa n xc, .slice ya n yc] w fun e w' => e = .returned (.bool (earlB x y)) ∧ Below w.heap.size w w' := by
  obtain ⟨hxl, hxm, hxc⟩ := hx
  obtain ⟨hyl, _, hyc⟩ := hy
  unfold maxLen at hxm
  rcases Nat.eq_zero_or_pos n with h0 | h0
  · subst h0
    obtain rfl : x = [] := List.length_eq_zero_iff.1 hxl
    have HS := Lib.hid (show earlB [] y = false by simp [earlB])
    clear hxl hyl hxc hyc
    go_enter Try.func52, Try.ntmps52
    go_wp2
    go_loopw [5] (fun i wr => i = .int .i64 0 ∧ Below w.heap.size w wr) (fun _ _ => 0)
    case atStart => exact ⟨rfl, Below.refl _ _⟩
    case round =>
      obtain ⟨rfl, hB⟩ := hrel
      go_wp2
      go_ret
      exact ⟨ret_bool HS.out.symm, hB⟩
  · obtain ⟨xb, xo, rfl, hxB, hxcell⟩ := hxc h0
    obtain ⟨yb, yo, rfl, hyB, hycell⟩ := hyc h0
    have HX := Lib.hid hxl
    have HY := Lib.hid hyl
    clear hxl hyl hxc hyc
    obtain ⟨r, hr⟩ : ∃ r, earlB x y = r := ⟨_, rfl⟩
    have HR := Lib.hid hr
    clear hr
    go_enter Try.func52, Try.ntmps52
    go_wp2
    go_loopw [5] (fun i wr => ∃ k : Nat, k ≤ n ∧ i = .int .i64 k ∧ earlB (x.drop k) (y.drop k) = r ∧ Below w.heap.size w wr) (fun i _ => n - (intOf i).toNat)
    case atStart => exact ⟨0, by omega, rfl, HR.out, Below.refl _ _⟩
    case round =>
      obtain ⟨k, hk, rfl, hsm, hB⟩ := hrel
      by_cases hlt : k < n
      · have hk2 : k < x.length := by rw [HX.out]; exact hlt
        have hk3 : k < y.length := by rw [HY.out]; exact hlt
        rw [List.drop_eq_getElem_cons hk2, List.drop_eq_getElem_cons hk3] at hsm
        have cx := (hB.cell (p := ⟨xb, _, none⟩) hxB).trans (hxcell k hk2)
        have cy := (hB.cell (p := ⟨yb, _, none⟩) hyB).trans (hycell k hk3)
        have hkl : (k : Int) < (n : Int) := by omega
        simp only [earlB] at hsm
        by_cases he : x[k] = y[k]
        · rw [if_pos he] at hsm
          have HSM := Lib.hid hsm; clear hsm
          rw [← he] at cy
          clear he
          generalize x[k] = v at *
          go_wp2_with fail
          go_quiet (fail)
          go_wp2_with fail
          go_roundw
          case rel => exact ⟨k + 1, by omega, by go_num, HSM.out, hB.trans (Go.Joins.below_draws _ _ _)⟩
          case measure => simp [intOf]; omega
        · rw [if_neg he] at hsm
          have HSM := Lib.hid hsm; clear hsm
          have e1 : (x[k] == y[k]) = false := by simpa using he
          have e2 : (x[k] != y[k]) = true := by simpa using he
          clear he
          generalize x[k] = v at *
          generalize y[k] = u at *
          go_wp2_with fail
          go_quiet (fail)
          go_wp2_with fail
          go_quiet (fail)
          go_wp2_with fail
          go_ret
          exact ⟨ret_bool (HSM.out.trans HR.out.symm), (hB.trans (Go.Joins.below_draws _ _ _)).trans (Go.Joins.below_draws _ _ _)⟩
      · have hk' : k = n := by omega
        subst hk'
        rw [List.drop_eq_nil_of_le (by rw [HX.out]; exact Nat.le_refl _)] at hsm
        have HSM := Lib.hid (show r = false by rw [← hsm]; simp [earlB]); clear hsm
        go_wp2
        go_ret
        exact ⟨ret_bool (HSM.out.symm.trans HR.out.symm), hB⟩
theorem refEarlier_is (xa : Option Addr) (xc : Nat) (ya : Option Addr) (yc n : Nat) (x y : List Int) (b : Bool) (h : earlB x y = b) (w : World) (hx : IntsAt w xa n x) (hy : IntsAt w ya n y) :
    Calls Try.prog 52 #[.slice xa n xc, .slice ya n yc] w fun e w' => e = .returned (.bool b) ∧ Below w.heap.size w w' := h ▸ refEarlier_any xa xc ya yc n x y w hx hy
set_option maxRecDepth 100000 in
set_option maxHeartbeats 4000000 in
theorem refIn_any (xa : Option Addr) (xl xc : Nat) (x : List Int) (v : Int) (b : Bool) (h : x.contains v = b) (w : World) (hx : IntsAt w xa xl x) :
    Calls Try.prog 56 #[.slice xa xl xc, .int .i64 v] w fun e w' => e = .returned (.bool b) ∧ Below w.heap.size w w' := by
  obtain ⟨hxl, hxm, hxc⟩ := hx
  unfold maxLen at hxm
  have HXL := Lib.hid hxl
  have HXC := Lib.hid hxc
  have HN := Lib.hid (fun k (h : k < x.length) (hv : (x.take k).contains v = false) => show (x.take (k + 1)).contains v = decide (x[k] = v) from by
    rw [List.take_succ_eq_append_getElem h, List.contains_append, hv, Bool.false_or]
    simp [eq_comm])
  have HT := Lib.hid (fun k (hk : k < x.length) (hv : x[k] = v) => show b = true from by
    rw [← h, List.contains_iff_mem, ← hv]; exact List.getElem_mem hk)
  have HF := Lib.hid (fun (hv : (x.take xl).contains v = false) => show b = false from by
    rw [List.take_of_length_le (by omega)] at hv; rw [← h, hv])
  clear hxl hxc h
  go_enter Try.func56, Try.ntmps56
  go_wp2_with fail
  go_loopw [5] (fun i wr => ∃ k : Nat, k ≤ xl ∧ i = .int .i64 k ∧ (x.take k).contains v = false ∧ Below w.heap.size w wr) (fun i _ => xl - (intOf i).toNat)
  case atStart => exact ⟨0, by omega, rfl, by simp, Below.refl _ _⟩
  case round =>
    obtain ⟨k, hk, rfl, hc, hB⟩ := hrel
    have HB := Lib.hid hB
    by_cases hlt : k < xl
    · have hk3 : k < x.length := by rw [HXL.out]; exact hlt
      obtain ⟨b', o', rfl, hbB', hcx'⟩ := HXC.out (by omega)
      have hcx := (hB.cell (p := ⟨b', o' + k, none⟩) hbB').trans (hcx' k hk3)
      have hkl : (k : Int) < (xl : Int) := by omega
      have hk0 : (0 : Int) ≤ (k : Int) := by omega
      have HNK := Lib.hid (HN.out k hk3 hc)
      have HTK := Lib.hid (HT.out k hk3)
      clear hcx' hB hc HN HT
      generalize x[k] = u at *
      clear hk3
      by_cases he : u = v
      · subst he
        obtain rfl := HTK.out rfl
        go_wp2_with fail
        go_ret
        exact ⟨rfl, HB.out⟩
      · have hne : (u == v) = false := by simpa using he
        go_wp2_with fail
        go_roundw
        case rel => exact ⟨k + 1, by omega, by go_num, by rw [HNK.out]; simpa using he, HB.out⟩
        case measure => simp [intOf]; omega
    · obtain rfl : xl = k := by omega
      obtain rfl := HF.out hc
      clear hB hc
      go_wp2_with fail
      go_ret
      exact ⟨rfl, HB.out⟩
set_option maxHeartbeats 400000 in
theorem refIsChange_is (n : Int) (b : Bool) (h : btw n 0 2 = b) (w : World) :
    Calls Try.prog 47 #[.int .i64 n] w fun e w' => e = .returned (.bool b) ∧ w = w' := by
  have HB := Lib.hid (fun w1 => within_is n 0 2 b h w1)
  go_enter Try.func47, Try.ntmps47
  go_wp2_with fail
  refine (HB.out _).mono ?_
  rintro e w1 ⟨rfl, rfl⟩
  go_wp2_with fail
  go_ret
  exact ⟨rfl, rfl⟩
set_option maxHeartbeats 400000 in
theorem refIsMinute_is (n : Int) (b : Bool) (h : btw n 0 99 = b) (w : World) :
    Calls Try.prog 48 #[.int .i64 n] w fun e w' => e = .returned (.bool b) ∧ w = w' := by
  have HB := Lib.hid (fun w1 => within_is n 0 99 b h w1)
  go_enter Try.func48, Try.ntmps48
  go_wp2_with fail
  refine (HB.out _).mono ?_
  rintro e w1 ⟨rfl, rfl⟩
  go_wp2_with fail
  go_ret
  exact ⟨rfl, rfl⟩
set_option maxHeartbeats 400000 in
theorem refIsThing_is (ta : Option Addr) (tl tc : Nat) (ma : Option Addr) (ml mc : Nat) (n : Int) (w : World) (hl : tl ≤ maxLen) (b : Bool) (h : btw n 0 ((tl : Int) - 1) = b) :
    Calls Try.prog 64 #[.agg #[.slice ta tl tc, .slice ma ml mc], .int .i64 n] w fun e w' => e = .returned (.bool b) ∧ Below w.heap.size w w' := by
  unfold maxLen at hl
  have HB := Lib.hid (fun w1 => within_is n 0 ((tl : Int) - 1) b h w1)
  go_enter Try.func64, Try.ntmps64
  go_wp2_with fail
  refine (HB.out _).mono ?_
  rintro e w1 ⟨rfl, rfl⟩
  go_wp2_with fail
  go_ret
  exact ⟨rfl, (by repeat (first | exact Below.refl _ _ | (refine Below.alloc ?_ (by first | omega | (simp; omega) | simp) _) | (refine Below.setCell ?_ (by first | omega | (simp; omega) | simp) _) | refine Below.drew ?_))⟩
end Go.Proofs.Ytedfdhpggghjeaa
