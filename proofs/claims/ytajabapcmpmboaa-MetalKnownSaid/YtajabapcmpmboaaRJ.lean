/- RJ RK, joined. -/
import Derived.Test.YtajabapcmpmboaaRE
import Derived.Test.YtajabapcmpmboaaN
/- Keeps, SameInts and Huge. -/
namespace Go.Proofs.Ytajabapcmpmboaa
set_option linter.unusedVariables false
set_option linter.unusedSimpArgs false
open Go.RowKit

theorem Huge_any (s : Shop) (a : Option Addr) (len cap : Nat) (w : World) :
    Calls Try.prog 15 #[.agg #[.int .i64 s.P, .int .i64 s.tl, .int .i64 s.th, .int .i64 s.al, .int .i64 s.ah, .int .i64 s.room, .int .i64 s.xl, .int .i64 s.xh, .int .i64 s.yl, .int .i64 s.yh, .slice a len cap]] w fun e w' => e = .returned (.bool (decide (40 < len))) ∧ Below w.heap.size w w' := by
  rcases Nat.lt_or_ge 40 len with h | h
  · have h' : (40 : Int) < (len : Int) := by omega
    go_enter Try.func15, Try.ntmps15
    go_wp2
    go_ret
    exact ⟨ret_bool (by simp; omega), (by repeat (first | exact Below.refl _ _ | (refine Below.alloc ?_ (by first | omega | (simp; omega) | simp) _) | (refine Below.setCell ?_ (by first | omega | (simp; omega) | simp) _) | refine Below.drew ?_))⟩
  · have h' : ¬ (40 : Int) < (len : Int) := by omega
    go_enter Try.func15, Try.ntmps15
    go_wp2
    go_ret
    exact ⟨ret_bool (by simp; omega), (by repeat (first | exact Below.refl _ _ | (refine Below.alloc ?_ (by first | omega | (simp; omega) | simp) _) | (refine Below.setCell ?_ (by first | omega | (simp; omega) | simp) _) | refine Below.drew ?_))⟩

/-- Whether metal is within a limit. -/
def keepsR (s : Shop) (limit P t a : Int) : Bool :=
  if limit = 1 then decide (P * s.xl ≤ 1000 * t) else if limit = 2 then decide (1000 * t ≤ P * s.xh) else if limit = 3 then decide (P * s.yl ≤ 1000 * a) else decide (1000 * a ≤ P * s.yh)
set_option maxHeartbeats 400000 in
theorem refKeeps_1 (s : Shop) (a : Option Addr) (len cap : Nat) (P t x : Int) (w : World) (hP : 0 ≤ P ∧ P ≤ 2000) (hx : 0 ≤ s.xl ∧ s.xl ≤ 1000) (hv : Fair t) :
    Calls Try.prog 54 #[.agg #[.int .i64 s.P, .int .i64 s.tl, .int .i64 s.th, .int .i64 s.al, .int .i64 s.ah, .int .i64 s.room, .int .i64 s.xl, .int .i64 s.xh, .int .i64 s.yl, .int .i64 s.yh, .slice a len cap], .int .i64 1, .int .i64 P, .int .i64 t, .int .i64 x] w fun e w' => e = .returned (.bool (keepsR s 1 P t x)) ∧ Below w.heap.size w w' := by
  obtain ⟨m1, m2⟩ := bd_mul P s.xl hP hx
  obtain ⟨v1, v2⟩ := hv
  go_enter Try.func54, Try.ntmps54
  go_wp2
  go_ret
  exact ⟨ret_bool (by simp [keepsR]), (by repeat (first | exact Below.refl _ _ | (refine Below.alloc ?_ (by first | omega | (simp; omega) | simp) _) | (refine Below.setCell ?_ (by first | omega | (simp; omega) | simp) _) | refine Below.drew ?_))⟩
set_option maxHeartbeats 400000 in
theorem refKeeps_2 (s : Shop) (a : Option Addr) (len cap : Nat) (P t x : Int) (w : World) (hP : 0 ≤ P ∧ P ≤ 2000) (hx : 0 ≤ s.xh ∧ s.xh ≤ 1000) (hv : Fair t) :
    Calls Try.prog 54 #[.agg #[.int .i64 s.P, .int .i64 s.tl, .int .i64 s.th, .int .i64 s.al, .int .i64 s.ah, .int .i64 s.room, .int .i64 s.xl, .int .i64 s.xh, .int .i64 s.yl, .int .i64 s.yh, .slice a len cap], .int .i64 2, .int .i64 P, .int .i64 t, .int .i64 x] w fun e w' => e = .returned (.bool (keepsR s 2 P t x)) ∧ Below w.heap.size w w' := by
  obtain ⟨m1, m2⟩ := bd_mul P s.xh hP hx
  obtain ⟨v1, v2⟩ := hv
  go_enter Try.func54, Try.ntmps54
  go_wp2
  go_ret
  exact ⟨ret_bool (by simp [keepsR]), (by repeat (first | exact Below.refl _ _ | (refine Below.alloc ?_ (by first | omega | (simp; omega) | simp) _) | (refine Below.setCell ?_ (by first | omega | (simp; omega) | simp) _) | refine Below.drew ?_))⟩
set_option maxHeartbeats 400000 in
theorem refKeeps_3 (s : Shop) (a : Option Addr) (len cap : Nat) (P t x : Int) (w : World) (hP : 0 ≤ P ∧ P ≤ 2000) (hx : 0 ≤ s.yl ∧ s.yl ≤ 1000) (hv : Fair x) :
    Calls Try.prog 54 #[.agg #[.int .i64 s.P, .int .i64 s.tl, .int .i64 s.th, .int .i64 s.al, .int .i64 s.ah, .int .i64 s.room, .int .i64 s.xl, .int .i64 s.xh, .int .i64 s.yl, .int .i64 s.yh, .slice a len cap], .int .i64 3, .int .i64 P, .int .i64 t, .int .i64 x] w fun e w' => e = .returned (.bool (keepsR s 3 P t x)) ∧ Below w.heap.size w w' := by
  obtain ⟨m1, m2⟩ := bd_mul P s.yl hP hx
  obtain ⟨v1, v2⟩ := hv
  go_enter Try.func54, Try.ntmps54
  go_wp2
  go_ret
  exact ⟨ret_bool (by simp [keepsR]), (by repeat (first | exact Below.refl _ _ | (refine Below.alloc ?_ (by first | omega | (simp; omega) | simp) _) | (refine Below.setCell ?_ (by first | omega | (simp; omega) | simp) _) | refine Below.drew ?_))⟩
set_option maxHeartbeats 400000 in
theorem refKeeps_4 (s : Shop) (a : Option Addr) (len cap : Nat) (P t x : Int) (w : World) (hP : 0 ≤ P ∧ P ≤ 2000) (hx : 0 ≤ s.yh ∧ s.yh ≤ 1000) (hv : Fair x) :
    Calls Try.prog 54 #[.agg #[.int .i64 s.P, .int .i64 s.tl, .int .i64 s.th, .int .i64 s.al, .int .i64 s.ah, .int .i64 s.room, .int .i64 s.xl, .int .i64 s.xh, .int .i64 s.yl, .int .i64 s.yh, .slice a len cap], .int .i64 4, .int .i64 P, .int .i64 t, .int .i64 x] w fun e w' => e = .returned (.bool (keepsR s 4 P t x)) ∧ Below w.heap.size w w' := by
  obtain ⟨m1, m2⟩ := bd_mul P s.yh hP hx
  obtain ⟨v1, v2⟩ := hv
  go_enter Try.func54, Try.ntmps54
  go_wp2
  go_ret
  exact ⟨ret_bool (by simp [keepsR]), (by repeat (first | exact Below.refl _ _ | (refine Below.alloc ?_ (by first | omega | (simp; omega) | simp) _) | (refine Below.setCell ?_ (by first | omega | (simp; omega) | simp) _) | refine Below.drew ?_))⟩
end Go.Proofs.Ytajabapcmpmboaa

/- SameInts. -/
namespace Go.Proofs.Ytajabapcmpmboaa
set_option linter.unusedVariables false
set_option linter.unusedSimpArgs false
open Go.RowKit

def sameB (x y : List Int) : Bool := decide (x = y)
theorem sameB_no {x y : List Int} {k : Nat} (h : k < x.length) (h' : k < y.length) (hne : x[k] ≠ y[k]) : sameB x y = false := by
  simp only [sameB, decide_eq_false_iff_not]; rintro rfl; exact hne rfl
theorem sameB_len {x y : List Int} (h : x.length ≠ y.length) : sameB x y = false := by
  simp only [sameB, decide_eq_false_iff_not]; rintro rfl; exact h rfl
theorem sameB_yes {x y : List Int} {len : Nat} (hx : x.length = len) (hy : y.length = len) (h : ∀ q (h1 : q < x.length) (h2 : q < y.length), x[q] = y[q]) : sameB x y = true := by
  simp only [sameB, decide_eq_true_eq]; exact List.ext_getElem (by omega) h

set_option maxHeartbeats 1000000 in
theorem SameInts_any (xa : Option Addr) (xl xc : Nat) (ya : Option Addr) (yl yc : Nat) (x y : List Int) (w : World) (hx : IntsAt w xa xl x) (hy : IntsAt w ya yl y) :
    Calls Try.prog 28 #[.slice xa xl xc, .slice ya yl yc] w fun e w' => e = .returned (.bool (sameB x y)) ∧ Below w.heap.size w w' := by
  obtain ⟨hxl, hxm, hxc⟩ := hx
  obtain ⟨hyl, _, hyc⟩ := hy
  unfold maxLen at hxm
  by_cases hne : xl = yl
  · obtain rfl : xl = yl := hne
    rcases Nat.eq_zero_or_pos xl with h0 | h0
    · subst h0
      have HS := Lib.hid (show sameB x y = true from sameB_yes hxl hyl fun q h1 _ => by omega)
      clear hxl hyl hxc hyc
      go_enter Try.func28, Try.ntmps28
      go_wp2
      go_loopw [5] (fun i wr => i = .int .i64 0 ∧ Below w.heap.size w wr) (fun _ _ => 0)
      case atStart => exact ⟨rfl, Below.refl _ _⟩
      case round =>
        obtain ⟨rfl, hB⟩ := hrel
        go_wp2
        go_ret
        exact ⟨ret_bool HS.out.symm, hB⟩
    · obtain ⟨xb, xo, rfl, hxB, hxcell⟩ := hxc h0
      obtain ⟨yb, yo, rfl, hyB, hycell⟩ := hyc h0
      have HX := Lib.hid hxl
      have HY := Lib.hid hyl
      clear hxl hyl hxc hyc
      go_enter Try.func28, Try.ntmps28
      go_wp2
      go_loopw [5] (fun i wr => ∃ k : Nat, k ≤ xl ∧ i = .int .i64 k ∧ (∀ q (h1 : q < x.length) (h2 : q < y.length), q < k → x[q] = y[q]) ∧ Below w.heap.size w wr) (fun i _ => xl - (intOf i).toNat)
      case atStart => exact ⟨0, by omega, rfl, fun q _ _ h => by omega, Below.refl _ _⟩
      case round =>
        obtain ⟨k, hk, rfl, hsm, hB⟩ := hrel
        have HSM := Lib.hid hsm; clear hsm
        by_cases hlt : k < xl
        · have hk2 : k < x.length := by rw [HX.out]; exact hlt
          have hk3 : k < y.length := by rw [HY.out]; exact hlt
          have cx := (hB.cell (p := ⟨xb, _, none⟩) hxB).trans (hxcell k hk2)
          have cy := (hB.cell (p := ⟨yb, _, none⟩) hyB).trans (hycell k hk3)
          have hkl : (k : Int) < (xl : Int) := by omega
          by_cases he : x[k] = y[k]
          · have HSM2 := Lib.hid (show ∀ q (h1 : q < x.length) (h2 : q < y.length), q < k + 1 → x[q] = y[q] from fun q h1 h2 hq => by
              by_cases e : q = k
              · subst e; exact he
              · exact HSM.out q h1 h2 (by omega))
            rw [← he] at cy
            clear he
            generalize x[k] = n at *
            go_wp2_with fail
            go_quiet (fail)
            go_wp2_with fail
            go_roundw
            case rel => exact ⟨k + 1, by omega, by go_num, HSM2.out, hB.trans (Go.Joins.below_draws _ _ _)⟩
            case measure => simp [intOf]; omega
          · have HN := Lib.hid (sameB_no hk2 hk3 he)
            have e1 : (x[k] == y[k]) = false := by simpa using he
            have e2 : (x[k] != y[k]) = true := by simpa using he
            clear he
            generalize x[k] = n at *
            generalize y[k] = m at *
            go_wp2_with fail
            go_quiet (fail)
            go_wp2_with fail
            go_ret
            exact ⟨ret_bool HN.out.symm, hB.trans (Go.Joins.below_draws _ _ _)⟩
        · have hk' : k = xl := by omega
          subst hk'
          have HS := Lib.hid (show sameB x y = true from sameB_yes HX.out HY.out fun q h1 h2 => HSM.out q h1 h2 (by have := HX.out; omega))
          go_wp2
          go_ret
          exact ⟨ret_bool HS.out.symm, hB⟩
  · have HS := Lib.hid (sameB_len (x := x) (y := y) (by omega))
    have e1 : ((xl : Int) == (yl : Int)) = false := by simp; omega
    have e2 : ((xl : Int) != (yl : Int)) = true := by simp; omega
    clear hxl hyl hxc hyc
    go_enter Try.func28, Try.ntmps28
    go_wp2
    go_ret
    exact ⟨ret_bool HS.out.symm, Below.refl _ _⟩
end Go.Proofs.Ytajabapcmpmboaa
