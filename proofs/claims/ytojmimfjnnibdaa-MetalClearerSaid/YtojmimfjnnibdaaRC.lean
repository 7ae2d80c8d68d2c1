/- Whether a shop is valid, as the reference says it. -/
import Derived.Test.YtojmimfjnnibdaaRB
namespace Go.Proofs.Ytojmimfjnnibdaa
set_option linter.unusedVariables false
set_option linter.unusedSimpArgs false
open Go.RowKit

set_option maxHeartbeats 800000 in
theorem isPig_any (P t a c m : Int) (w : World) :
    Calls Try.prog 73 #[.agg #[.int .i64 P, .int .i64 t, .int .i64 a, .int .i64 c, .int .i64 m]] w fun e w' => e = .returned (.bool (pigB P t a c m)) ∧ w.alloc (.cells #[.int .i64 P, .int .i64 t, .int .i64 a, .int .i64 c, .int .i64 m] 70) = w' := by
  rcases h1 : btw P 1 40 with - | -
  · go_enter Try.func73, Try.ntmps73
    go_wp2_with (first | (go_at_call 53; with_reducible refine (Within_is _ _ _ _ h1 _).mono ?_; rintro e w' ⟨rfl, rfl⟩))
    go_ret
    exact ⟨ret_bool (by simp [pigB, btw] at *; omega), rfl⟩
  rcases h2 : btw t 0 P with - | -
  · go_enter Try.func73, Try.ntmps73
    go_wp2_with (first | (go_at_call 53; with_reducible refine (Within_is _ _ _ _ h1 _).mono ?_; rintro e w' ⟨rfl, rfl⟩) | (go_at_call 53; with_reducible refine (Within_is _ _ _ _ h2 _).mono ?_; rintro e w' ⟨rfl, rfl⟩))
    go_ret
    exact ⟨ret_bool (by simp [pigB, btw] at *; omega), rfl⟩
  rcases h3 : btw a 0 (P - t) with - | -
  · have k1 : 0 ≤ t ∧ t ≤ P ∧ 1 ≤ P ∧ P ≤ 40 := by simp [btw] at h1 h2; omega
    obtain ⟨k1, k2, k3, k4⟩ := k1
    go_enter Try.func73, Try.ntmps73
    go_wp2_with (first | (go_at_call 53; with_reducible refine (Within_is _ _ _ _ h1 _).mono ?_; rintro e w' ⟨rfl, rfl⟩) | (go_at_call 53; with_reducible refine (Within_is _ _ _ _ h2 _).mono ?_; rintro e w' ⟨rfl, rfl⟩) | (go_at_call 53; with_reducible refine (Within_is _ _ _ _ h3 _).mono ?_; rintro e w' ⟨rfl, rfl⟩))
    go_ret
    exact ⟨ret_bool (by simp [pigB, btw] at *; omega), rfl⟩
  rcases h5 : btw c 0 99 with - | -
  · have k1 : 0 ≤ t ∧ t ≤ P ∧ 1 ≤ P ∧ P ≤ 40 := by simp [btw] at h1 h2; omega
    obtain ⟨k1, k2, k3, k4⟩ := k1
    go_enter Try.func73, Try.ntmps73
    go_wp2_with (first | (go_at_call 53; with_reducible refine (Within_is _ _ _ _ h1 _).mono ?_; rintro e w' ⟨rfl, rfl⟩) | (go_at_call 53; with_reducible refine (Within_is _ _ _ _ h2 _).mono ?_; rintro e w' ⟨rfl, rfl⟩) | (go_at_call 53; with_reducible refine (Within_is _ _ _ _ h3 _).mono ?_; rintro e w' ⟨rfl, rfl⟩) | (go_at_call 53; with_reducible refine (Within_is _ _ _ _ h5 _).mono ?_; rintro e w' ⟨rfl, rfl⟩))
    go_ret
    exact ⟨ret_bool (by simp [pigB, btw] at *; omega), rfl⟩
  rcases h6 : btw m 0 5 with - | -
  · have k1 : 0 ≤ t ∧ t ≤ P ∧ 1 ≤ P ∧ P ≤ 40 := by simp [btw] at h1 h2; omega
    obtain ⟨k1, k2, k3, k4⟩ := k1
    go_enter Try.func73, Try.ntmps73
    go_wp2_with (first | (go_at_call 53; with_reducible refine (Within_is _ _ _ _ h1 _).mono ?_; rintro e w' ⟨rfl, rfl⟩) | (go_at_call 53; with_reducible refine (Within_is _ _ _ _ h2 _).mono ?_; rintro e w' ⟨rfl, rfl⟩) | (go_at_call 53; with_reducible refine (Within_is _ _ _ _ h3 _).mono ?_; rintro e w' ⟨rfl, rfl⟩) | (go_at_call 53; with_reducible refine (Within_is _ _ _ _ h5 _).mono ?_; rintro e w' ⟨rfl, rfl⟩) | (go_at_call 53; with_reducible refine (Within_is _ _ _ _ h6 _).mono ?_; rintro e w' ⟨rfl, rfl⟩))
    go_ret
    exact ⟨ret_bool (by simp [pigB, btw] at *; omega), rfl⟩
  have k1 : 0 ≤ t ∧ t ≤ P ∧ 1 ≤ P ∧ P ≤ 40 := by simp [btw] at h1 h2; omega
  obtain ⟨k1, k2, k3, k4⟩ := k1
  go_enter Try.func73, Try.ntmps73
  go_wp2_with (first | (go_at_call 53; with_reducible refine (Within_is _ _ _ _ h1 _).mono ?_; rintro e w' ⟨rfl, rfl⟩) | (go_at_call 53; with_reducible refine (Within_is _ _ _ _ h2 _).mono ?_; rintro e w' ⟨rfl, rfl⟩) | (go_at_call 53; with_reducible refine (Within_is _ _ _ _ h3 _).mono ?_; rintro e w' ⟨rfl, rfl⟩) | (go_at_call 53; with_reducible refine (Within_is _ _ _ _ h5 _).mono ?_; rintro e w' ⟨rfl, rfl⟩) | (go_at_call 53; with_reducible refine (Within_is _ _ _ _ h6 _).mono ?_; rintro e w' ⟨rfl, rfl⟩))
  go_ret
  exact ⟨ret_bool (by simp [pigB, btw] at *; omega), rfl⟩

end Go.Proofs.Ytojmimfjnnibdaa
