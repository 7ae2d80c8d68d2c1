/- The offers' order among those that cost as much doesn't matter. -/
import Derived.Test.YtojmimfjnnibdaaKF
namespace Go.Proofs.Ytojmimfjnnibdaa
set_option linter.unusedVariables false
set_option linter.unusedSimpArgs false
open Go.RowKit

/-- Each truth with so much tin has an offer. -/
def Full (tin al : Int) (n : Nat) (l : List Offer) : Prop := ∀ i, i < n → cover tin l (al + i) = true
theorem full_iff (tin al : Int) (n : Nat) (l : List Offer) : unmet (marks tin al n l 0 0) = 0 ↔ Full tin al n l := by
  unfold unmet Full
  rw [List.countP_eq_zero]
  constructor
  · intro h i hi
    have := h (cover tin l (al + i)) (by
      refine List.mem_iff_getElem?.2 ⟨i, ?_⟩
      rw [marks_get _ _ _ _ _ _ _ hi]
      rw [show decide ((0 : Int) ≤ al + i ∧ al + (i : Int) < 0) = false by simp]; simp)
    simpa using this
  · intro h b hb
    obtain ⟨i, hi⟩ := List.mem_iff_getElem?.1 hb
    have hin : i < n := by have := (List.getElem?_eq_some_iff.1 hi).1; rwa [marks_len] at this
    rw [marks_get _ _ _ _ _ _ _ hin] at hi
    have : b = true := by rw [← Option.some.inj hi, h i hin]; rfl
    simp [this]
theorem Full.mono {tin al : Int} {n : Nat} {l l' : List Offer} (h : Full tin al n l) (hs : ∀ o ∈ l, o ∈ l') : Full tin al n l' := fun i hi => by
  have := h i hi
  unfold cover at *
  obtain ⟨o, ho, hp⟩ := List.any_eq_true.1 this
  exact List.any_eq_true.2 ⟨o, hs o ho, hp⟩
theorem dear_some {tin al : Int} {n : Nat} {c : Int} : ∀ (pre r : List Offer), dearOf tin al n pre r = some c → ∃ k, ∃ h : k < r.length, r[k].c = c ∧ Full tin al n (pre ++ r.take (k + 1)) ∧ ∀ j, 1 ≤ j → j ≤ k → ¬ Full tin al n (pre ++ r.take j)
  | _, [], h => by simp [dearOf] at h
  | pre, o :: r, h => by
    rw [dearOf] at h
    by_cases hf : unmet (marks tin al n (pre ++ [o]) 0 0) = 0
    · rw [if_pos hf] at h
      exact ⟨0, by simp, by simpa using h, by simpa using (full_iff _ _ _ _).1 hf, fun j h1 h2 => by omega⟩
    · rw [if_neg hf] at h
      obtain ⟨k, hk, h1, h2, h3⟩ := dear_some (pre ++ [o]) r h
      refine ⟨k + 1, by simp; omega, by simpa using h1, by simpa using h2, fun j h4 h5 => ?_⟩
      cases j with
      | zero => omega
      | succ j =>
        cases j with
        | zero => rw [full_iff] at hf; simpa using hf
        | succ j => have := h3 (j + 1) (by omega) (by omega); simpa using this
theorem dear_none {tin al : Int} {n : Nat} : ∀ (pre r : List Offer), dearOf tin al n pre r = none → ∀ j, 1 ≤ j → j ≤ r.length → ¬ Full tin al n (pre ++ r.take j)
  | _, [], _, j, h1, h2 => by simp at h2; omega
  | pre, o :: r, h, j, h1, h2 => by
    rw [dearOf] at h
    by_cases hf : unmet (marks tin al n (pre ++ [o]) 0 0) = 0
    · rw [if_pos hf] at h; cases h
    · rw [if_neg hf] at h
      cases j with
      | zero => omega
      | succ j =>
        cases j with
        | zero => rw [full_iff] at hf; simpa using hf
        | succ j => have := dear_none (pre ++ [o]) r h (j + 1) (by omega) (by simp at h2; omega); simpa using this
/-- What the cheapest offers that do in all these truths cost. -/
def lev (c : Int) (l : List Offer) : List Offer := l.filter fun o => decide (o.c ≤ c)
def DearIs (tin al : Int) (n : Nat) (l : List Offer) : Option Int → Prop
  | some c => Full tin al n (lev c l) ∧ ∀ c', c' < c → ¬ Full tin al n (lev c' l)
  | none => ¬ Full tin al n l
theorem dear_is {tin al : Int} {n : Nat} (hn : 1 ≤ n) {l : List Offer} (hs : l.Pairwise fun x y => x.c ≤ y.c) (R : Option Int) (h : dearOf tin al n [] l = R) : DearIs tin al n l R := by
  have hnil : ¬ Full tin al n [] := fun h => by have := h 0 (by omega); simp [cover] at this
  cases R with
  | none =>
    intro hf
    cases l with
    | nil => exact hnil hf
    | cons o r => exact dear_none [] (o :: r) h (o :: r).length (by simp) (Nat.le_refl _) (by simpa using hf)
  | some c =>
    obtain ⟨k, hk, h1, h2, h3⟩ := dear_some [] l h
    rw [List.pairwise_iff_getElem] at hs
    refine ⟨h2.mono fun o ho => ?_, fun c' hc hf => ?_⟩
    · simp only [List.nil_append] at ho
      obtain ⟨j, hj, rfl⟩ := List.getElem_of_mem ho
      have hj2 : j < l.length ∧ j < k + 1 := by simp at hj; omega
      rw [List.getElem_take]
      refine List.mem_filter.2 ⟨List.getElem_mem _, ?_⟩
      by_cases e : j = k
      · subst e; simp [h1]
      · have := hs j k hj2.1 hk (by omega); simp; omega
    · have hf2 : Full tin al n (l.take k) := hf.mono fun o ho => by
        obtain ⟨h4, h5⟩ := List.mem_filter.1 ho
        obtain ⟨j, hj, rfl⟩ := List.getElem_of_mem h4
        have hjk : j < k := by
          rcases Nat.lt_or_ge j k with h | h
          · exact h
          · rcases Nat.eq_or_lt_of_le h with e | h
            · subst e; simp at h5; omega
            · have := hs k j hk hj h; simp at h5; omega
        exact List.mem_take_iff_getElem.2 ⟨j, by omega, rfl⟩
      by_cases e : k = 0
      · subst e; exact hnil (by simpa using hf2)
      · exact h3 k (by omega) (Nat.le_refl _) (by simpa using hf2)
theorem lev_mem {c : Int} {l l' : List Offer} (h : ∀ o, o ∈ l ↔ o ∈ l') : ∀ o ∈ lev c l, o ∈ lev c l' := fun o ho => by
  obtain ⟨h1, h2⟩ := List.mem_filter.1 ho
  exact List.mem_filter.2 ⟨(h o).1 h1, h2⟩
theorem dear_perm {tin al : Int} {n : Nat} (hn : 1 ≤ n) {l l' : List Offer} (hs : l.Pairwise fun x y => x.c ≤ y.c) (hs' : l'.Pairwise fun x y => x.c ≤ y.c) (hp : ∀ o, o ∈ l ↔ o ∈ l') : dearOf tin al n [] l = dearOf tin al n [] l' := by
  have h1 := dear_is (tin := tin) (al := al) hn hs _ rfl
  have h2 := dear_is (tin := tin) (al := al) hn hs' _ rfl
  have lall : ∀ c (l : List Offer), Full tin al n (lev c l) → Full tin al n l := fun c l h => h.mono fun o ho => (List.mem_filter.1 ho).1
  cases e1 : dearOf tin al n [] l with
  | none =>
    rw [e1] at h1
    cases e2 : dearOf tin al n [] l' with
    | none => rfl
    | some c => rw [e2] at h2; exact absurd ((lall _ _ h2.1).mono fun o ho => (hp o).2 ho) h1
  | some c =>
    rw [e1] at h1
    cases e2 : dearOf tin al n [] l' with
    | none => rw [e2] at h2; exact absurd ((lall _ _ h1.1).mono fun o ho => (hp o).1 ho) h2
    | some c' =>
      rw [e2] at h2
      rcases Int.lt_trichotomy c c' with h | h | h
      · exact absurd (h1.1.mono (lev_mem hp)) (h2.2 c h)
      · rw [h]
      · exact absurd (h2.1.mono (lev_mem fun o => (hp o).symm)) (h1.2 c' h)
theorem most_perm {al : Int} {n : Nat} (hn : 1 ≤ n) {l l' : List Offer} (hs : l.Pairwise fun x y => x.c ≤ y.c) (hs' : l'.Pairwise fun x y => x.c ≤ y.c) (hp : ∀ o, o ∈ l ↔ o ∈ l') (tl : Int) : ∀ m, mostOf al n l m tl = mostOf al n l' m tl
  | 0 => rfl
  | m + 1 => by rw [mostOf, mostOf, most_perm hn hs hs' hp tl m, dear_perm hn hs hs' hp]
theorem known_perm {s : Shop} (ho : s.ok = true) {l l' : List Offer} (h : OffersOf s l) (h' : OffersOf s l') : knownOf s l = knownOf s l' := by
  have hp : ∀ o, o ∈ l ↔ o ∈ l' := fun o => h.1.mem_iff.trans h'.1.mem_iff.symm
  have hbd := Shop.ok_bd ho
  cases l with
  | nil =>
    cases l' with
    | nil => rfl
    | cons o r => exact absurd ((hp o).2 (List.mem_cons_self ..)) (by simp)
  | cons o r =>
    cases l' with
    | nil => exact absurd ((hp o).1 (List.mem_cons_self ..)) (by simp)
    | cons o' r' =>
      have e : o.c = o'.c := by
        have h1 := (List.pairwise_cons.1 h.2).1
        have h2 := (List.pairwise_cons.1 h'.2).1
        have h3 := (hp o).1 (List.mem_cons_self ..)
        have h4 := (hp o').2 (List.mem_cons_self ..)
        rcases List.mem_cons.1 h3 with rfl | h3
        · rfl
        · rcases List.mem_cons.1 h4 with rfl | h4
          · rfl
          · have := h2 _ h3; have := h1 _ h4; omega
      unfold knownOf
      simp only
      rw [most_perm (by omega) h.2 h'.2 hp, e]
def Shop.sorted (s : Shop) : List Offer := (s.offersOf ((allL s.most).filter s.room?)).mergeSort fun x y => decide (x.c ≤ y.c)
theorem sorted_is (s : Shop) : OffersOf s s.sorted := by
  refine ⟨List.mergeSort_perm _ _, ?_⟩
  have h := List.pairwise_mergeSort (le := fun x y : Offer => decide (x.c ≤ y.c)) (by intro a b c; simp; omega) (by intro a b; simp; omega) (s.offersOf ((allL s.most).filter s.room?))
  exact h.imp fun hh => by simpa using hh
def Shop.knownR (s : Shop) : Option (Int × Int) := knownOf s s.sorted
end Go.Proofs.Ytojmimfjnnibdaa
