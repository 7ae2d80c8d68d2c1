/- Keeps, SameInts and Huge. -/
import Derived.Test.YtojmimfjnnibdaaRG
import Derived.Test.YtojmimfjnnibdaaK
namespace Go.Proofs.Ytojmimfjnnibdaa
set_option linter.unusedVariables false
set_option linter.unusedSimpArgs false
open Go.RowKit

theorem Huge_any (s : Shop) (a : Option Addr) (len cap : Nat) (w : World) :
    Calls Try.prog 15 #[.agg #[.int .i64 s.P, .int .i64 s.tl, .int .i64 s.th, .int .i64 s.al, .int .i64 s.ah, .int .i64 s.room, .int .i64 s.xl, .int .i64 s.xh, .int .i64 s.yl, .int .i64 s.yh, .slice a len cap]] w fun e w' => e = .returned (.bool (decide (40 < len))) ∧ Below w.heap.size w w' := by
  rcases Nat.lt_or_ge 40 len with h | h
  · have h' : (40 : Int) < (len : Int) := by omega
    go_enter Try.func15, Try.ntmps15
    go_wp2
    go_ret
    exact ⟨ret_bool (by simp; omega), (by repeat (first | exact Below.refl _ _ | (refine Below.alloc ?_ (by first | omega | (simp; omega) | simp) _) | (refine Below.setCell ?_ (by first | omega | (simp; omega) | simp) _) | refine Below.drew ?_))⟩
  · have h' : ¬ (40 : Int) < (len : Int) := by omega
    go_enter Try.func15, Try.ntmps15
    go_wp2
    go_ret
    exact ⟨ret_bool (by simp; omega), (by repeat (first | exact Below.refl _ _ | (refine Below.alloc ?_ (by first | omega | (simp; omega) | simp) _) | (refine Below.setCell ?_ (by first | omega | (simp; omega) | simp) _) | refine Below.drew ?_))⟩

/-- Whether metal is within a limit. -/
def keepsR (s : Shop) (limit P t a : Int) : Bool :=
  if limit = 1 then decide (P * s.xl ≤ 1000 * t) else if limit = 2 then decide (1000 * t ≤ P * s.xh) else if limit = 3 then decide (P * s.yl ≤ 1000 * a) else decide (1000 * a ≤ P * s.yh)
set_option maxHeartbeats 400000 in
theorem refKeeps_1 (s : Shop) (a : Option Addr) (len cap : Nat) (P t x : Int) (w : World) (hP : 0 ≤ P ∧ P ≤ 2000) (hx : 0 ≤ s.xl ∧ s.xl ≤ 1000) (hv : Fair t) :
    Calls Try.prog 54 #[.agg #[.int .i64 s.P, .int .i64 s.tl, .int .i64 s.th, .int .i64 s.al, .int .i64 s.ah, .int .i64 s.room, .int .i64 s.xl, .int .i64 s.xh, .int .i64 s.yl, .int .i64 s.yh, .slice a len cap], .int .i64 1, .int .i64 P, .int .i64 t, .int .i64 x] w fun e w' => e = .returned (.bool (keepsR s 1 P t x)) ∧ Below w.heap.size w w' := by
  obtain ⟨m1, m2⟩ := bd_mul P s.xl hP hx
  obtain ⟨v1, v2⟩ := hv
  go_enter Try.func54, Try.ntmps54
  go_wp2
  go_ret
  exact ⟨ret_bool (by simp [keepsR]), (by repeat (first | exact Below.refl _ _ | (refine Below.alloc ?_ (by first | omega | (simp; omega) | simp) _) | (refine Below.setCell ?_ (by first | omega | (simp; omega) | simp) _) | refine Below.drew ?_))⟩
set_option maxHeartbeats 400000 in
theorem refKeeps_2 (s : Shop) (a : Option Addr) (len cap : Nat) (P t x : Int) (w : World) (hP : 0 ≤ P ∧ P ≤ 2000) (hx : 0 ≤ s.xh ∧ s.xh ≤ 1000) (hv : Fair t) :
    Calls Try.prog 54 #[.agg #[.int .i64 s.P, .int .i64 s.tl, .int .i64 s.th, .int .i64 s.al, .int .i64 s.ah, .int .i64 s.room, .int .i64 s.xl, .int .i64 s.xh, .int .i64 s.yl, .int .i64 s.yh, .slice a len cap], .int .i64 2, .int .i64 P, .int .i64 t, .int .i64 x] w fun e w' => e = .returned (.bool (keepsR s 2 P t x)) ∧ Below w.heap.size w w' := by
  obtain ⟨m1, m2⟩ := bd_mul P s.xh hP hx
  obtain ⟨v1, v2⟩ := hv
  go_enter Try.func54, Try.ntmps54
  go_wp2
  go_ret
  exact ⟨ret_bool (by simp [keepsR]), (by repeat (first | exact Below.refl _ _ | (refine Below.alloc ?_ (by first | omega | (simp; omega) | simp) _) | (refine Below.setCell ?_ (by first | omega | (simp; omega) | simp) _) | refine Below.drew ?_))⟩
set_option maxHeartbeats 400000 in
theorem refKeeps_3 (s : Shop) (a : Option Addr) (len cap : Nat) (P t x : Int) (w : World) (hP : 0 ≤ P ∧ P ≤ 2000) (hx : 0 ≤ s.yl ∧ s.yl ≤ 1000) (hv : Fair x) :
    Calls Try.prog 54 #[.agg #[.int .i64 s.P, .int .i64 s.tl, .int .i64 s.th, .int .i64 s.al, .int .i64 s.ah, .int .i64 s.room, .int .i64 s.xl, .int .i64 s.xh, .int .i64 s.yl, .int .i64 s.yh, .slice a len cap], .int .i64 3, .int .i64 P, .int .i64 t, .int .i64 x] w fun e w' => e = .returned (.bool (keepsR s 3 P t x)) ∧ Below w.heap.size w w' := by
  obtain ⟨m1, m2⟩ := bd_mul P s.yl hP hx
  obtain ⟨v1, v2⟩ := hv
  go_enter Try.func54, Try.ntmps54
  go_wp2
  go_ret
  exact ⟨ret_bool (by simp [keepsR]), (by repeat (first | exact Below.refl _ _ | (refine Below.alloc ?_ (by first | omega | (simp; omega) | simp) _) | (refine Below.setCell ?_ (by first | omega | (simp; omega) | simp) _) | refine Below.drew ?_))⟩
set_option maxHeartbeats 400000 in
theorem refKeeps_4 (s : Shop) (a : Option Addr) (len cap : Nat) (P t x : Int) (w : World) (hP : 0 ≤ P ∧ P ≤ 2000) (hx : 0 ≤ s.yh ∧ s.yh ≤ 1000) (hv : Fair x) :
    Calls Try.prog 54 #[.agg #[.int .i64 s.P, .int .i64 s.tl, .int .i64 s.th, .int .i64 s.al, .int .i64 s.ah, .int .i64 s.room, .int .i64 s.xl, .int .i64 s.xh, .int .i64 s.yl, .int .i64 s.yh, .slice a len cap], .int .i64 4, .int .i64 P, .int .i64 t, .int .i64 x] w fun e w' => e = .returned (.bool (keepsR s 4 P t x)) ∧ Below w.heap.size w w' := by
  obtain ⟨m1, m2⟩ := bd_mul P s.yh hP hx
  obtain ⟨v1, v2⟩ := hv
  go_enter Try.func54, Try.ntmps54
  go_wp2
  go_ret
  exact ⟨ret_bool (by simp [keepsR]), (by repeat (first | exact Below.refl _ _ | (refine Below.alloc ?_ (by first | omega | (simp; omega) | simp) _) | (refine Below.setCell ?_ (by first | omega | (simp; omega) | simp) _) | refine Below.drew ?_))⟩
end Go.Proofs.Ytojmimfjnnibdaa
