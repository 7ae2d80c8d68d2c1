/- Pages: each piece just once: two ways to say it. -/
import Derived.Test.YtgpmnelkjfoplaaYA
namespace Go.Proofs.Ytgpmnelkjfoplaa
set_option linter.unusedVariables false
set_option linter.unusedSimpArgs false
open Go.RowKit

theorem once_le : ∀ xs : List Int, onceB xs = true ↔ ∀ x, xs.count x ≤ 1
  | [] => by simp [onceB]
  | y :: xs => by
    rw [onceB, Bool.and_eq_true, once_le xs]
    constructor
    · rintro ⟨h1, h2⟩ x
      rw [List.count_cons]
      by_cases h : y = x
      · subst h
        have : xs.count y = 0 := List.count_eq_zero.2 (by simpa using h1)
        simp [this]
      · have := h2 x
        have : (y == x) = false := by simpa using h
        simp [this]; omega
    · intro h
      constructor
      · have := h y
        rw [List.count_cons] at this
        have h0 : xs.count y = 0 := by simp at this; exact this
        simpa using List.count_eq_zero.1 h0
      · intro x
        have := h x
        rw [List.count_cons] at this
        omega
theorem sum_ind (x : Int) : ∀ n : Nat, ((List.range n).map fun i => if (x == ((i : Nat) : Int)) = true then 1 else 0).sum = if 0 ≤ x ∧ x < (n : Int) then 1 else 0
  | 0 => by simp
  | n + 1 => by
    rw [List.range_succ, List.map_append, List.sum_append, sum_ind x n]
    simp only [List.map_cons, List.map_nil, List.sum_cons, List.sum_nil, beq_iff_eq]
    by_cases h : x = (n : Int)
    · rw [if_pos h, if_neg (by omega), if_pos (by omega)]; rfl
    · rw [if_neg h]
      by_cases h2 : 0 ≤ x ∧ x < (n : Int)
      · rw [if_pos h2, if_pos (by omega)]; rfl
      · rw [if_neg h2, if_neg (by omega)]; rfl
theorem sum_cnt (n : Nat) : ∀ xs : List Int, (∀ x ∈ xs, 0 ≤ x ∧ x < (n : Int)) → ((List.range n).map fun i => xs.count ((i : Nat) : Int)).sum = xs.length
  | [], _ => by
    have : ∀ m : Nat, ((List.range m).map fun _ => 0).sum = 0 := by
      intro m; induction m with
      | zero => rfl
      | succ m ih => rw [List.range_succ, List.map_append, List.sum_append, ih]; rfl
    simpa using this n
  | y :: xs, h => by
    have ih := sum_cnt n xs (fun x hx => h x (by simp [hx]))
    have hy := sum_ind y n
    rw [if_pos (h y (by simp))] at hy
    have e : ∀ l : List Nat, (l.map fun i => (y :: xs).count ((i : Nat) : Int)).sum = (l.map fun i => xs.count ((i : Nat) : Int)).sum + (l.map fun i => if (y == ((i : Nat) : Int)) = true then 1 else 0).sum := by
      intro l; induction l with
      | nil => rfl
      | cons i l ih2 => have h1 : (y :: xs).count (i : Int) = xs.count (i : Int) + if (y == (i : Int)) = true then 1 else 0 := List.count_cons; simp only [List.map_cons, List.sum_cons]; omega
    rw [e, ih, hy, List.length_cons]
theorem sum_one (c : Nat → Nat) : ∀ n : Nat, (∀ i, i < n → c i ≤ 1) → ((List.range n).map c).sum ≤ n ∧ (((List.range n).map c).sum = n ↔ ∀ i, i < n → c i = 1)
  | 0, _ => by simp
  | n + 1, h => by
    obtain ⟨h1, h2⟩ := sum_one c n (fun i hi => h i (by omega))
    have h3 := h n (by omega)
    rw [List.range_succ, List.map_append, List.sum_append]
    simp only [List.map_cons, List.map_nil, List.sum_cons, List.sum_nil]
    refine ⟨by omega, fun e => ?_, fun e => ?_⟩
    · intro i hi
      have e1 := h2.1 (by omega)
      by_cases hin : i < n
      · exact e1 i hin
      · obtain rfl : i = n := by omega
        omega
    · have := h2.2 (fun i hi => e i (by omega))
      have := e n (by omega)
      omega
theorem placed_times (f : PFrame) : f.placed = (f.flat.all (fun i => btw i 0 (f.pieces.length - 1)) && (List.range f.pieces.length).all fun i => decide (f.flat.count (i : Int) = 1)) := by
  unfold PFrame.placed
  cases ha : f.flat.all (fun i => btw i 0 (f.pieces.length - 1))
  · rfl
  · have hr : ∀ x ∈ f.flat, 0 ≤ x ∧ x < (f.pieces.length : Int) := fun x hx => by
      have := List.all_eq_true.1 ha x hx
      unfold btw at this
      simp at this
      omega
    have hs := sum_cnt f.pieces.length f.flat hr
    simp only [Bool.true_and]
    rw [Bool.eq_iff_iff, Bool.and_eq_true, decide_eq_true_eq, once_le, List.all_eq_true]
    constructor
    · rintro ⟨h1, h2⟩ i hi
      have h3 := (sum_one (fun i => f.flat.count ((i : Nat) : Int)) f.pieces.length (fun i _ => h1 _)).2.1 (by rw [hs, h2])
      simpa using h3 i (List.mem_range.1 hi)
    · intro h
      have h1 : ∀ i : Nat, i < f.pieces.length → f.flat.count (i : Int) = 1 := fun i hi => by simpa using h i (List.mem_range.2 hi)
      refine ⟨fun x => ?_, ?_⟩
      · by_cases hx : x ∈ f.flat
        · obtain ⟨h2, h3⟩ := hr x hx
          have := h1 x.toNat (by omega)
          rw [Int.toNat_of_nonneg h2] at this
          omega
        · rw [List.count_eq_zero.2 hx]; omega
      · have := (sum_one (fun i => f.flat.count ((i : Nat) : Int)) f.pieces.length (fun i hi => by rw [h1 i hi]; exact Nat.le_refl _)).2.2 h1
        rw [hs] at this
        exact this
end Go.Proofs.Ytgpmnelkjfoplaa
