/- SameInts of the reference. -/
import Derived.Test.YtedfdhpggghjeaaYA
import Derived.Lib.SmallJoins
namespace Go.Proofs.Ytedfdhpggghjeaa
set_option linter.unusedVariables false
set_option linter.unusedSimpArgs false
open Go.RowKit

def sameB (x y : List Int) : Bool := decide (x = y)
theorem sameB_no {x y : List Int} {k : Nat} (h : k < x.length) (h' : k < y.length) (hne : x[k] ≠ y[k]) : sameB x y = false := by
  simp only [sameB, decide_eq_false_iff_not]; rintro rfl; exact hne rfl
theorem sameB_len {x y : List Int} (h : x.length ≠ y.length) : sameB x y = false := by
  simp only [sameB, decide_eq_false_iff_not]; rintro rfl; exact h rfl
theorem sameB_yes {x y : List Int} {len : Nat} (hx : x.length = len) (hy : y.length = len) (h : ∀ q (h1 : q < x.length) (h2 : q < y.length), x[q] = y[q]) : sameB x y = true := by
  simp only [sameB, decide_eq_true_eq]; exact List.ext_getElem (by omega) h

set_option maxHeartbeats 1000000 in
theorem SameInts_any (xa : Option Addr) (xl xc : Nat) (ya : Option Addr) (yl yc : Nat) (x y : List Int) (w : World) (hx : IntsAt w xa xl x) (hy : IntsAt w ya yl y) :
    Calls Try.prog 31 #[.slice xa xl xc, .slice ya yl yc] w fun e w' => e = .returned (.bool (sameB x y)) ∧ Below w.heap.size w w' := by
  obtain ⟨hxl, hxm, hxc⟩ := hx
  obtain ⟨hyl, _, hyc⟩ := hy
  unfold maxLen at hxm
  by_cases hne : xl = yl
  · obtain rfl : xl = yl := hne
    rcases Nat.eq_zero_or_pos xl with h0 | h0
    · subst h0
      have HS := Lib.hid (show sameB x y = true from sameB_yes hxl hyl fun q h1 _ => by omega)
      clear hxl hyl hxc hyc
      go_enter Try.func31, Try.ntmps31
      go_wp2
      go_loopw [5] (fun i wr => i = .int .i64 0 ∧ Below w.heap.size w wr) (fun _ _ => 0)
      case atStart => exact ⟨rfl, Below.refl _ _⟩
      case round =>
        obtain ⟨rfl, hB⟩ := hrel
        go_wp2
        go_ret
        exact ⟨ret_bool HS.out.symm, hB⟩
    · obtain ⟨xb, xo, rfl, hxB, hxcell⟩ := hxc h0
      obtain ⟨yb, yo, rfl, hyB, hycell⟩ := hyc h0
      have HX := Lib.hid hxl
      have HY := Lib.hid hyl
      clear hxl hyl hxc hyc
      go_enter Try.func31, Try.ntmps31
      go_wp2
      go_loopw [5] (fun i wr => ∃ k : Nat, k ≤ xl ∧ i = .int .i64 k ∧ (∀ q (h1 : q < x.length) (h2 : q < y.length), q < k → x[q] = y[q]) ∧ Below w.heap.size w wr) (fun i _ => xl - (intOf i).toNat)
      case atStart => exact ⟨0, by omega, rfl, fun q _ _ h => by omega, Below.refl _ _⟩
      case round =>
        obtain ⟨k, hk, rfl, hsm, hB⟩ := hrel
        have HSM := Lib.hid hsm; clear hsm
        by_cases hlt : k < xl
        · have hk2 : k < x.length := by rw [HX.out]; exact hlt
          have hk3 : k < y.length := by rw [HY.out]; exact hlt
          have cx := (hB.cell (p := ⟨xb, _, none⟩) hxB).trans (hxcell k hk2)
          have cy := (hB.cell (p := ⟨yb, _, none⟩) hyB).trans (hycell k hk3)
          have hkl : (k : Int) < (xl : Int) := by omega
          by_cases he : x[k] = y[k]
          · have HSM2 := Lib.hid (show ∀ q (h1 : q < x.length) (h2 : q < y.length), q < k + 1 → x[q] = y[q] from fun q h1 h2 hq => by
              by_cases e : q = k
              · subst e; exact he
              · exact HSM.out q h1 h2 (by omega))
            rw [← he] at cy
            clear he
            generalize x[k] = n at *
            go_wp2_with fail
            go_quiet (fail)
            go_wp2_with fail
            go_roundw
            case rel => exact ⟨k + 1, by omega, by go_num, HSM2.out, hB.trans (Go.Joins.below_draws _ _ _)⟩
            case measure => simp [intOf]; omega
          · have HN := Lib.hid (sameB_no hk2 hk3 he)
            have e1 : (x[k] == y[k]) = false := by simpa using he
            have e2 : (x[k] != y[k]) = true := by simpa using he
            clear he
            generalize x[k] = n at *
            generalize y[k] = m at *
            go_wp2_with fail
            go_quiet (fail)
            go_wp2_with fail
            go_ret
            exact ⟨ret_bool HN.out.symm, hB.trans (Go.Joins.below_draws _ _ _)⟩
        · have hk' : k = xl := by omega
          subst hk'
          have HS := Lib.hid (show sameB x y = true from sameB_yes HX.out HY.out fun q h1 h2 => HSM.out q h1 h2 (by have := HX.out; omega))
          go_wp2
          go_ret
          exact ⟨ret_bool HS.out.symm, hB⟩
  · have HS := Lib.hid (sameB_len (x := x) (y := y) (by omega))
    have e1 : ((xl : Int) == (yl : Int)) = false := by simp; omega
    have e2 : ((xl : Int) != (yl : Int)) = true := by simp; omega
    clear hxl hyl hxc hyc
    go_enter Try.func31, Try.ntmps31
    go_wp2
    go_ret
    exact ⟨ret_bool HS.out.symm, Below.refl _ _⟩

theorem same_refl (w : World) (xa : Option Addr) (xl xc : Nat) (ya : Option Addr) (yl yc : Nat) (x : List Int) (hx : IntsAt w xa xl x) (hy : IntsAt w ya yl x) :
    Calls Try.prog 31 #[.slice xa xl xc, .slice ya yl yc] w fun e w' => e = .returned (.bool true) ∧ Below w.heap.size w w' := by
  obtain rfl : xl = yl := hx.1.symm.trans hy.1
  have h := SameInts_any xa xl xc ya xl yc x x w hx hy
  rwa [show sameB x x = true by simp [sameB]] at h
end Go.Proofs.Ytedfdhpggghjeaa
