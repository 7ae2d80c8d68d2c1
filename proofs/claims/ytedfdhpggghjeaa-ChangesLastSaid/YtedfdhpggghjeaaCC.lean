/- Package changes: leaves. -/
import Derived.Test.YtedfdhpggghjeaaCB
namespace Go.Proofs.Ytedfdhpggghjeaa
set_option linter.unusedVariables false
set_option linter.unusedSimpArgs false
open Go.RowKit

set_option maxHeartbeats 400000 in
theorem between_any (n lo hi : Int) (w : World) :
    Calls Try.prog 86 #[.int .i64 n, .int .i64 lo, .int .i64 hi] w fun e w' => e = .returned (.bool (btw n lo hi)) ∧ w = w' := by
  go_enter Try.func86, Try.ntmps86
  go_wp2
  all_goals (go_ret; refine ⟨ret_bool ?_, rfl⟩; rw [Bool.eq_iff_iff]; simp [btw]; omega)
theorem between_is (n lo hi : Int) (b : Bool) (h : btw n lo hi = b) (w : World) :
    Calls Try.prog 86 #[.int .i64 n, .int .i64 lo, .int .i64 hi] w fun e w' => e = .returned (.bool b) ∧ w = w' := h ▸ between_any n lo hi w

set_option maxHeartbeats 400000 in
theorem isChange_is (n : Int) (b : Bool) (h : btw n 0 2 = b) (w : World) :
    Calls Try.prog 60 #[.int .i64 n] w fun e w' => e = .returned (.bool b) ∧ w = w' := by
  have HB := Lib.hid (fun w1 => between_is n 0 2 b h w1)
  go_enter Try.func60, Try.ntmps60
  go_wp2_with fail
  refine (HB.out _).mono ?_
  rintro e w1 ⟨rfl, rfl⟩
  go_wp2_with fail
  go_ret
  exact ⟨rfl, rfl⟩
set_option maxHeartbeats 400000 in
theorem isMinute_is (n : Int) (b : Bool) (h : btw n 0 99 = b) (w : World) :
    Calls Try.prog 61 #[.int .i64 n] w fun e w' => e = .returned (.bool b) ∧ w = w' := by
  have HB := Lib.hid (fun w1 => between_is n 0 99 b h w1)
  go_enter Try.func61, Try.ntmps61
  go_wp2_with fail
  refine (HB.out _).mono ?_
  rintro e w1 ⟨rfl, rfl⟩
  go_wp2_with fail
  go_ret
  exact ⟨rfl, rfl⟩
set_option maxHeartbeats 400000 in
theorem hasThing_is (ta : Option Addr) (tl tc : Nat) (ma : Option Addr) (ml mc : Nat) (n : Int) (w : World) (hl : tl ≤ maxLen) (b : Bool) (h : btw n 0 ((tl : Int) - 1) = b) :
    Calls Try.prog 59 #[.agg #[.slice ta tl tc, .slice ma ml mc], .int .i64 n] w fun e w' => e = .returned (.bool b) ∧ Below w.heap.size w w' := by
  unfold maxLen at hl
  have HB := Lib.hid (fun w1 => between_is n 0 ((tl : Int) - 1) b h w1)
  go_enter Try.func59, Try.ntmps59
  go_wp2_with fail
  refine (HB.out _).mono ?_
  rintro e w1 ⟨rfl, rfl⟩
  go_wp2_with fail
  go_ret
  exact ⟨rfl, (by repeat (first | exact Below.refl _ _ | (refine Below.alloc ?_ (by first | omega | (simp; omega) | simp) _) | (refine Below.setCell ?_ (by first | omega | (simp; omega) | simp) _) | refine Below.drew ?_))⟩
set_option maxHeartbeats 1000000 in
theorem earliest_any (h : CHouse) (ta : Option Addr) (tl tc : Nat) (ma : Option Addr) (ml mc : Nat) (x : CThing) (hx : x.o = -1 ∨ (0 ≤ x.o ∧ x.o < (h.things.length : Int))) (w : World) (hp : HAt w ta tl tc ma ml mc h) :
    Calls Try.prog 113 #[.agg #[.slice ta tl tc, .slice ma ml mc], .agg #[.int .i64 x.o, .int .i64 x.a, .int .i64 x.c, .int .i64 x.p]] w fun e w' => e = .returned (.int .i64 (h.earl x)) ∧ Below w.heap.size w w' := by
  obtain ⟨⟨htl, htm, htc⟩, -⟩ := hp
  unfold CHouse.earl
  rcases hx with hx | ⟨h0, h1⟩
  · rw [if_pos hx]
    rw [hx]
    clear htc
    go_enter Try.func113, Try.ntmps113
    go_wp2_with fail
    go_ret
    exact ⟨rfl, (by repeat (first | exact Below.refl _ _ | (refine Below.alloc ?_ (by first | omega | (simp; omega) | simp) _) | (refine Below.setCell ?_ (by first | omega | (simp; omega) | simp) _) | refine Below.drew ?_))⟩
  · rw [if_neg (by omega)]
    obtain ⟨k, hk⟩ : ∃ k : Nat, x.o = (k : Int) := ⟨x.o.toNat, by omega⟩
    have hkl : k < h.things.length := by omega
    rw [hk, Int.toNat_natCast, List.getElem?_eq_getElem hkl]
    simp only [Option.map_some, Option.getD_some]
    obtain ⟨b, o, rfl, hB, hcell⟩ := htc (by omega)
    obtain ⟨-, c1, -⟩ := hcell k hkl
    have hn : ¬ (k : Int) = -1 := by omega
    have hkt : (k : Int) < (tl : Int) := by omega
    have hk0 : (0 : Int) ≤ (k : Int) := by omega
    clear hcell
    generalize h.things[k].a = v at *
    go_enter Try.func113, Try.ntmps113
    go_wp2_with fail
    go_ret
    exact ⟨rfl, (by repeat (first | exact Below.refl _ _ | (refine Below.alloc ?_ (by first | omega | (simp; omega) | simp) _) | (refine Below.setCell ?_ (by first | omega | (simp; omega) | simp) _) | refine Below.drew ?_))⟩
end Go.Proofs.Ytedfdhpggghjeaa
