/- The leaves of the reference. -/
import Derived.Test.YtojmimfjnnibdaaC
namespace Go.Proofs.Ytojmimfjnnibdaa
set_option linter.unusedVariables false
set_option linter.unusedSimpArgs false
open Go.RowKit

set_option maxHeartbeats 400000 in
theorem Within_any (n lo hi : Int) (w : World) :
    Calls Try.prog 53 #[.int .i64 n, .int .i64 lo, .int .i64 hi] w fun e w' => e = .returned (.bool (btw n lo hi)) ∧ w = w' := by
  go_enter Try.func53, Try.ntmps53
  go_wp2
  all_goals (go_ret; refine ⟨ret_bool ?_, rfl⟩; rw [Bool.eq_iff_iff]; simp [btw]; omega)
theorem Within_is (n lo hi : Int) (b : Bool) (h : btw n lo hi = b) (w : World) :
    Calls Try.prog 53 #[.int .i64 n, .int .i64 lo, .int .i64 hi] w fun e w' => e = .returned (.bool b) ∧ w = w' := h ▸ Within_any n lo hi w

set_option maxHeartbeats 400000 in
theorem IsSpan_any (lo hi m : Int) (w : World) :
    Calls Try.prog 72 #[.agg #[.int .i64 lo, .int .i64 hi], .int .i64 m] w fun e w' => e = .returned (.bool (spanB lo hi m)) ∧ w.alloc (.cells #[.int .i64 lo, .int .i64 hi] 23) = w' := by
  rcases h1 : btw hi 0 m with - | -
  · go_enter Try.func72, Try.ntmps72
    go_wp2_with (go_at_call 53; with_reducible refine (Within_is _ _ _ _ h1 _).mono ?_; rintro e w' ⟨rfl, rfl⟩)
    go_ret
    refine ⟨ret_bool ?_, rfl⟩
    simp [btw] at h1; simp [spanB]; omega
  rcases h2 : btw lo 0 hi with - | -
  all_goals go_enter Try.func72, Try.ntmps72
  all_goals go_wp2_with (first | (go_at_call 53; with_reducible refine (Within_is _ _ _ _ h1 _).mono ?_; rintro e w' ⟨rfl, rfl⟩) | (go_at_call 53; with_reducible refine (Within_is _ _ _ _ h2 _).mono ?_; rintro e w' ⟨rfl, rfl⟩))
  all_goals go_ret
  all_goals refine ⟨ret_bool ?_, rfl⟩
  all_goals (simp [btw] at h1 h2; simp [spanB]; omega)
theorem IsSpan_is (lo hi m : Int) (b : Bool) (h : spanB lo hi m = b) (w : World) :
    Calls Try.prog 72 #[.agg #[.int .i64 lo, .int .i64 hi], .int .i64 m] w fun e w' => e = .returned (.bool b) ∧ w.alloc (.cells #[.int .i64 lo, .int .i64 hi] 23) = w' := h ▸ IsSpan_any lo hi m w

set_option maxHeartbeats 400000 in
theorem IsPot_any (P tl th al ah : Int) (w : World) :
    Calls Try.prog 65 #[.agg #[.int .i64 P, .int .i64 tl, .int .i64 th, .int .i64 al, .int .i64 ah]] w fun e w' => e = .returned (.bool (potB P tl th al ah)) ∧ Below w.heap.size w w' := by
  rcases h1 : btw P 0 400 with - | -
  · go_enter Try.func65, Try.ntmps65
    go_wp2_with (go_at_call 53; with_reducible refine (Within_is _ _ _ _ h1 _).mono ?_; rintro e w' ⟨rfl, rfl⟩)
    go_ret
    exact ⟨ret_bool (by simp [potB, h1]), (by repeat (first | exact Below.refl _ _ | (refine Below.alloc ?_ (by first | omega | (simp; omega) | simp) _) | (refine Below.setCell ?_ (by first | omega | (simp; omega) | simp) _) | refine Below.drew ?_))⟩
  rcases h2 : spanB tl th P with - | -
  · go_enter Try.func65, Try.ntmps65
    go_wp2_with (first | (go_at_call 53; with_reducible refine (Within_is _ _ _ _ h1 _).mono ?_; rintro e w' ⟨rfl, rfl⟩) | (go_at_call 72; with_reducible refine (IsSpan_is _ _ _ _ h2 _).mono ?_; rintro e w' ⟨rfl, rfl⟩))
    go_ret
    exact ⟨ret_bool (by simp [potB, h2]), (by repeat (first | exact Below.refl _ _ | (refine Below.alloc ?_ (by first | omega | (simp; omega) | simp) _) | (refine Below.setCell ?_ (by first | omega | (simp; omega) | simp) _) | refine Below.drew ?_))⟩
  rcases h3 : spanB al ah P with - | -
  · go_enter Try.func65, Try.ntmps65
    go_wp2_with (first | (go_at_call 53; with_reducible refine (Within_is _ _ _ _ h1 _).mono ?_; rintro e w' ⟨rfl, rfl⟩) | (go_at_call 72; with_reducible refine (IsSpan_is _ _ _ _ h2 _).mono ?_; rintro e w' ⟨rfl, rfl⟩) | (go_at_call 72; with_reducible refine (IsSpan_is _ _ _ _ h3 _).mono ?_; rintro e w' ⟨rfl, rfl⟩))
    go_ret
    exact ⟨ret_bool (by simp [potB, h3]), (by repeat (first | exact Below.refl _ _ | (refine Below.alloc ?_ (by first | omega | (simp; omega) | simp) _) | (refine Below.setCell ?_ (by first | omega | (simp; omega) | simp) _) | refine Below.drew ?_))⟩
  · have b1 : 0 ≤ th ∧ th ≤ 400 ∧ 0 ≤ ah ∧ ah ≤ 400 := by simp [btw, spanB] at h1 h2 h3; omega
    obtain ⟨b1, b2, b3, b4⟩ := b1
    go_enter Try.func65, Try.ntmps65
    go_wp2_with (first | (go_at_call 53; with_reducible refine (Within_is _ _ _ _ h1 _).mono ?_; rintro e w' ⟨rfl, rfl⟩) | (go_at_call 72; with_reducible refine (IsSpan_is _ _ _ _ h2 _).mono ?_; rintro e w' ⟨rfl, rfl⟩) | (go_at_call 72; with_reducible refine (IsSpan_is _ _ _ _ h3 _).mono ?_; rintro e w' ⟨rfl, rfl⟩))
    go_ret
    exact ⟨ret_bool (by simp [potB, h1, h2, h3]), (by repeat (first | exact Below.refl _ _ | (refine Below.alloc ?_ (by first | omega | (simp; omega) | simp) _) | (refine Below.setCell ?_ (by first | omega | (simp; omega) | simp) _) | refine Below.drew ?_))⟩

theorem more_any (lo hi by' : Int) (w : World) (h1 : Fair lo) (h2 : Fair hi) (h3 : Fair by') :
    Calls Try.prog 94 #[.agg #[.int .i64 lo, .int .i64 hi], .int .i64 by'] w fun e w' => e = .returned (.agg #[.int .i64 (lo + by'), .int .i64 (hi + by')]) ∧ (w.alloc (.cells #[.int .i64 lo, .int .i64 hi] 23)).alloc (.cells #[.int .i64 (lo + by'), .int .i64 (hi + by')] 23) = w' := by
  obtain ⟨a1, a2⟩ := h1; obtain ⟨a3, a4⟩ := h2; obtain ⟨a5, a6⟩ := h3
  go_enter Try.func94, Try.ntmps94
  go_wp2
  exact bodyPost_ret (v := .agg #[.int .i64 (lo + by'), .int .i64 (hi + by')]) (by simp [results, Try.results94, go_sem]) rfl ⟨rfl, rfl⟩
end Go.Proofs.Ytojmimfjnnibdaa
