/- MetalEach: each truth. -/
import Derived.Test.YtajabapcmpmboaaPB
namespace Go.Proofs.Ytajabapcmpmboaa
set_option linter.unusedVariables false
set_option linter.unusedSimpArgs false
open Go.RowKit

theorem rising_4 (p : Int → Bool) : risingB ([1, 2, 3, 4].filter p) 1 4 = true := by
  simp only [List.filter]
  cases p 1 <;> cases p 2 <;> cases p 3 <;> cases p 4 <;> rfl
theorem keepsB_all (s : Shop) (P tl th al ah : Int) : (∀ l ∈ [1, 2, 3, 4], keepsB s P tl th al ah l = true) ↔ safeI s P tl th al ah = 1 := by
  rw [safeI_1]
  simp only [List.mem_cons, List.not_mem_nil, or_false, forall_eq_or_imp, forall_eq, keepsB]
  simp only [if_true, show (2 : Int) ≠ 1 by decide, show (3 : Int) ≠ 1 by decide, show (3 : Int) ≠ 2 by decide, show (4 : Int) ≠ 1 by decide, show (4 : Int) ≠ 2 by decide, show (4 : Int) ≠ 3 by decide, if_false, decide_eq_true_eq]
  unfold allowLo allowHi
  generalize P * s.xl = a
  generalize P * s.xh = b
  generalize P * s.yl = c
  generalize P * s.yh = d
  constructor
  · rintro ⟨h1, h2, h3, h4⟩; omega
  · rintro ⟨⟨h1, h2⟩, h3, h4⟩; omega
theorem bad_nil (s : Shop) (ns : List Int) : (s.bad ns [1, 2, 3, 4]).length = 0 ↔ s.safeOf ns = 1 := by
  rw [List.length_eq_zero_iff]
  unfold Shop.bad Shop.safeOf
  rw [← keepsB_all, List.filter_eq_nil_iff]
  simp
/-- Whether the first k limits are kept. -/
def allTo (s : Shop) (P a b : Int) (k : Nat) : Bool := (List.range k).all fun j => keepsR s ((j : Int) + 1) P a b
theorem allTo_succ (s : Shop) (P a b : Int) (k : Nat) : allTo s P a b (k + 1) = (allTo s P a b k && keepsR s ((k : Int) + 1) P a b) := by
  simp [allTo, List.range_succ, List.all_append]
theorem allTo_4 (s : Shop) (P a b : Int) : allTo s P a b 4 = true ↔ (P * s.xl ≤ 1000 * a ∧ 1000 * a ≤ P * s.xh) ∧ (P * s.yl ≤ 1000 * b ∧ 1000 * b ≤ P * s.yh) := by
  have e : allTo s P a b 4 = (keepsR s 1 P a b && keepsR s 2 P a b && keepsR s 3 P a b && keepsR s 4 P a b) := by
    simp [allTo, List.range_succ, Bool.and_assoc]
  rw [e]
  simp only [keepsR, Bool.and_eq_true]
  simp only [if_true, show (2 : Int) ≠ 1 by decide, show (3 : Int) ≠ 1 by decide, show (3 : Int) ≠ 2 by decide, show (4 : Int) ≠ 1 by decide, show (4 : Int) ≠ 2 by decide, show (4 : Int) ≠ 3 by decide, if_false, decide_eq_true_eq]
  constructor
  · rintro ⟨⟨⟨h1, h2⟩, h3⟩, h4⟩; exact ⟨⟨h1, h2⟩, h3, h4⟩
  · rintro ⟨⟨h1, h2⟩, h3, h4⟩; exact ⟨⟨⟨h1, h2⟩, h3⟩, h4⟩
/-- What Safe says of each truth. -/
theorem each_all (s : Shop) (ns : List Int) (a b : Int) (ha : s.tl + tot Pig.t s.pigs ns ≤ a ∧ a ≤ s.th + tot Pig.t s.pigs ns) (hb : s.al + tot Pig.a s.pigs ns ≤ b ∧ b ≤ s.ah + tot Pig.a s.pigs ns) :
    (s.safeOf ns = 1 ∧ allTo s (s.P + tot Pig.P s.pigs ns) a b 4 = true) ∨ (s.safeOf ns = 2 ∧ allTo s (s.P + tot Pig.P s.pigs ns) a b 4 = false) ∨ s.safeOf ns = 3 := by
  have h3 := safeOf_in s ns
  simp only [btw, decide_eq_true_eq] at h3
  rcases (by omega : s.safeOf ns = 1 ∨ s.safeOf ns = 2 ∨ s.safeOf ns = 3) with h | h | h
  · refine .inl ⟨h, ?_⟩
    rw [allTo_4]
    rw [safeOf_verdict, verdict_1] at h
    unfold allowLo allowHi at h
    generalize (s.P + tot Pig.P s.pigs ns) * s.xl = e1 at *
    generalize (s.P + tot Pig.P s.pigs ns) * s.xh = e2 at *
    generalize (s.P + tot Pig.P s.pigs ns) * s.yl = e3 at *
    generalize (s.P + tot Pig.P s.pigs ns) * s.yh = e4 at *
    omega
  · refine .inr (.inl ⟨h, ?_⟩)
    rw [safeOf_verdict, verdict_2] at h
    rcases hc : allTo s (s.P + tot Pig.P s.pigs ns) a b 4 with - | -
    · rfl
    · exfalso
      rw [allTo_4] at hc
      unfold allowLo allowHi at h
      generalize (s.P + tot Pig.P s.pigs ns) * s.xl = e1 at *
      generalize (s.P + tot Pig.P s.pigs ns) * s.xh = e2 at *
      generalize (s.P + tot Pig.P s.pigs ns) * s.yl = e3 at *
      generalize (s.P + tot Pig.P s.pigs ns) * s.yh = e4 at *
      omega
  · exact .inr (.inr h)
/-- A limit that is not kept in some truth is in Fails. -/
theorem each_bad (s : Shop) (ns : List Int) (a b : Int) (ha : s.tl + tot Pig.t s.pigs ns ≤ a ∧ a ≤ s.th + tot Pig.t s.pigs ns) (hb : s.al + tot Pig.a s.pigs ns ≤ b ∧ b ≤ s.ah + tot Pig.a s.pigs ns)
    (l : Int) (hl : 1 ≤ l ∧ l ≤ 4) (hk : keepsR s l (s.P + tot Pig.P s.pigs ns) a b = false) : l ∈ s.bad ns [1, 2, 3, 4] := by
  have hm : l ∈ [1, 2, 3, 4] := by
    have : l = 1 ∨ l = 2 ∨ l = 3 ∨ l = 4 := by omega
    simpa using this
  refine List.mem_filter.2 ⟨hm, ?_⟩
  rcases hB : keepsB s (s.P + tot Pig.P s.pigs ns) (s.tl + tot Pig.t s.pigs ns) (s.th + tot Pig.t s.pigs ns) (s.al + tot Pig.a s.pigs ns) (s.ah + tot Pig.a s.pigs ns) l with - | -
  · rfl
  · exfalso
    unfold keepsB at hB
    unfold keepsR at hk
    generalize (s.P + tot Pig.P s.pigs ns) * s.xl = e1 at *
    generalize (s.P + tot Pig.P s.pigs ns) * s.xh = e2 at *
    generalize (s.P + tot Pig.P s.pigs ns) * s.yl = e3 at *
    generalize (s.P + tot Pig.P s.pigs ns) * s.yh = e4 at *
    split at hB
    · rw [if_pos (by assumption)] at hk; have h1 := of_decide_eq_true hB; have h2 := of_decide_eq_false hk; omega
    · rw [if_neg (by assumption)] at hk
      split at hB
      · rw [if_pos (by assumption)] at hk; have h1 := of_decide_eq_true hB; have h2 := of_decide_eq_false hk; omega
      · rw [if_neg (by assumption)] at hk
        split at hB
        · rw [if_pos (by assumption)] at hk; have h1 := of_decide_eq_true hB; have h2 := of_decide_eq_false hk; omega
        · rw [if_neg (by assumption)] at hk; have h1 := of_decide_eq_true hB; have h2 := of_decide_eq_false hk; omega
end Go.Proofs.Ytajabapcmpmboaa
