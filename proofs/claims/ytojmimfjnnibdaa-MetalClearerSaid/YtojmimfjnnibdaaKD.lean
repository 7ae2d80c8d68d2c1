/- In how many truths with so much tin an offer does: the plain part. -/
import Derived.Test.YtojmimfjnnibdaaKB
namespace Go.Proofs.Ytojmimfjnnibdaa
set_option linter.unusedVariables false
set_option linter.unusedSimpArgs false
open Go.RowKit

/-- Some offer of a list does in a truth. -/
def cover (tin : Int) (l : List Offer) (a : Int) : Bool := l.any fun o => btw tin o.tl o.th && btw a o.al o.ah
/-- The marks of the truths with so much tin, n of them from al on, behind a list of offers, and a part of one more. -/
def marks (tin al : Int) (n : Nat) (l : List Offer) (lo x : Int) : List Bool := (List.range n).map fun (i : Nat) => cover tin l (al + i) || decide (lo ≤ al + i ∧ al + i < x)
def unmet (bs : List Bool) : Nat := bs.countP (!·)
theorem marks_len (tin al : Int) (n : Nat) (l : List Offer) (lo x : Int) : (marks tin al n l lo x).length = n := by simp [marks]
theorem marks_get (tin al : Int) (n : Nat) (l : List Offer) (lo x : Int) (i : Nat) (h : i < n) : (marks tin al n l lo x)[i]? = some (cover tin l (al + i) || decide (lo ≤ al + i ∧ al + i < x)) := by simp [marks, h]
/-- None begun. -/
theorem marks_none (tin al : Int) (n : Nat) (l : List Offer) (lo lo' : Int) : marks tin al n l lo lo = marks tin al n l lo' lo' := by
  unfold marks; refine List.map_congr_left fun i _ => ?_
  rw [show decide (lo ≤ al + i ∧ al + i < lo) = false by simp, show decide (lo' ≤ al + i ∧ al + i < lo') = false by simp]
/-- The next one. -/
theorem marks_set (tin al : Int) (n : Nat) (l : List Offer) (lo x : Int) (j : Nat) (hj : j < n) (hx : x = al + j) (hlo : lo ≤ x) : (marks tin al n l lo x).set j true = marks tin al n l lo (x + 1) := by
  apply List.ext_getElem?
  intro i
  by_cases hi : i < n
  · rw [marks_get _ _ _ _ _ _ _ hi]
    by_cases e : j = i
    · subst e
      rw [List.getElem?_set_self (by rw [marks_len]; exact hj)]
      rw [show decide (lo ≤ al + (j : Int) ∧ al + (j : Int) < x + 1) = true by simp; omega]; simp
    · rw [List.getElem?_set_ne e, marks_get _ _ _ _ _ _ _ hi]
      rw [show decide (lo ≤ al + (i : Int) ∧ al + (i : Int) < x + 1) = decide (lo ≤ al + (i : Int) ∧ al + (i : Int) < x) by rw [decide_eq_decide]; omega]
  · rw [List.getElem?_eq_none (by simp [marks_len]; omega), List.getElem?_eq_none (by simp [marks_len]; omega)]
/-- One that is marked already. -/
theorem marks_same (tin al : Int) (n : Nat) (l : List Offer) (lo x : Int) (j : Nat) (hx : x = al + j) (h : (marks tin al n l lo x)[j]? = some true) : marks tin al n l lo (x + 1) = marks tin al n l lo x := by
  unfold marks at *
  refine List.map_congr_left fun i hi => ?_
  by_cases e : i = j
  · subst e
    have hi' : i < n := List.mem_range.1 hi
    simp [hi'] at h
    rcases h with h | h
    · simp [h]
    · omega
  · rw [show decide (lo ≤ al + (i : Int) ∧ al + (i : Int) < x + 1) = decide (lo ≤ al + (i : Int) ∧ al + (i : Int) < x) by rw [decide_eq_decide]; omega]
/-- A whole offer. -/
theorem marks_done (tin al : Int) (n : Nat) (l : List Offer) (o : Offer) (x lo' : Int) (ht : btw tin o.tl o.th = true) (hx : x = o.ah + 1) : marks tin al n l o.al x = marks tin al n (l ++ [o]) lo' lo' := by
  unfold marks; refine List.map_congr_left fun i _ => ?_
  rw [show decide (lo' ≤ al + (i : Int) ∧ al + (i : Int) < lo') = false by simp]
  simp only [cover, List.any_append, List.any_cons, List.any_nil, ht, Bool.or_false, Bool.true_and]
  congr 1
  unfold btw; rw [decide_eq_decide]; omega
theorem marks_past (tin al : Int) (n : Nat) (l : List Offer) (o : Offer) (lo : Int) (ht : btw tin o.tl o.th = false) : marks tin al n (l ++ [o]) lo lo = marks tin al n l lo lo := by
  unfold marks; refine List.map_congr_left fun i _ => ?_
  simp [cover, ht]
theorem unmet_set : ∀ (bs : List Bool) (j : Nat), bs[j]? = some false → unmet (bs.set j true) + 1 = unmet bs
  | [], j, h => by simp at h
  | b :: bs, 0, h => by
    have : b = false := by simpa using h
    subst this; simp [unmet]
  | b :: bs, j + 1, h => by
    have := unmet_set bs j (by simpa using h)
    unfold unmet at *
    rw [List.set_cons_succ, List.countP_cons, List.countP_cons]; omega
theorem unmet_le (bs : List Bool) : unmet bs ≤ bs.length := List.countP_le_length
/-- What the offer costs by which the last of these truths gets one. -/
def dearOf (tin al : Int) (n : Nat) : List Offer → List Offer → Option Int
  | _, [] => none
  | pre, o :: r => if unmet (marks tin al n (pre ++ [o]) 0 0) = 0 then some o.c else dearOf tin al n (pre ++ [o]) r
def dearTwo : Option Int → Int × Bool
  | none => (0, false)
  | some c => (c, true)
theorem dearOf_drop (tin al : Int) (n : Nat) (l : List Offer) (k : Nat) (h : k < l.length) : dearOf tin al n (l.take k) (l.drop k) = if unmet (marks tin al n (l.take (k + 1)) 0 0) = 0 then some l[k].c else dearOf tin al n (l.take (k + 1)) (l.drop (k + 1)) := by
  rw [List.drop_eq_getElem_cons h, dearOf, List.take_succ_eq_append_getElem h]
theorem marks_start (tin al : Int) (n : Nat) (lo : Int) : marks tin al n [] lo lo = List.replicate n false := by
  apply List.ext_getElem (by simp [marks])
  intro i h1 h2
  simp [marks, cover]
/-- What holds of each offer of a shop. -/
def Offer.in_ (o : Offer) (al ah : Int) : Prop := al ≤ o.al ∧ o.al ≤ o.ah ∧ o.ah ≤ ah
theorem offers_in {s : Shop} {l : List Offer} (h : OffersOf s l) : ∀ o ∈ l, o.in_ s.al s.ah ∧ s.tl ≤ o.tl ∧ o.tl ≤ o.th ∧ o.th ≤ s.th := by
  intro o ho
  have h1 := h.1.mem_iff.1 ho
  simp only [Shop.offersOf, List.mem_filter, List.mem_map] at h1
  obtain ⟨⟨x, hx, rfl⟩, hg⟩ := h1
  simp only [Offer.good, emptyB, Bool.and_eq_true, Bool.not_eq_true', decide_eq_false_iff_not] at hg
  obtain ⟨g1, g2⟩ := hg
  have m1 : ∀ a b : Int, a ≤ maxI a b := fun a b => by unfold maxI; split <;> omega
  have m2 : ∀ a b : Int, minI a b ≤ a := fun a b => by unfold minI; split <;> omega
  refine ⟨⟨m1 _ _, by omega, m2 _ _⟩, m1 _ _, by omega, m2 _ _⟩
end Go.Proofs.Ytojmimfjnnibdaa
