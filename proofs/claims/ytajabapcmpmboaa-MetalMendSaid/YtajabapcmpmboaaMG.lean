/- Wider limits: what the least and what is bad do. -/
import Derived.Test.YtajabapcmpmboaaMD
import Derived.Test.YtajabapcmpmboaaME
namespace Go.Proofs.Ytajabapcmpmboaa
set_option linter.unusedVariables false
set_option linter.unusedSimpArgs false
open Go.RowKit

/-- The shop with other limits. -/
def Shop.wide (s : Shop) (a b c d : Int) : Shop := { s with xl := a, xh := b, yl := c, yh := d }
theorem allowLo_mono {p a b : Int} (hp : 0 ≤ p) (h : a ≤ b) : allowLo p a ≤ allowLo p b := by
  have := Int.mul_le_mul_of_nonneg_left h hp
  unfold allowLo; omega
theorem allowHi_mono {p a b : Int} (hp : 0 ≤ p) (h : a ≤ b) : allowHi p a ≤ allowHi p b := by
  have := Int.mul_le_mul_of_nonneg_left h hp
  unfold allowHi; omega
theorem wide_safe (s : Shop) (a b c d : Int) (h1 : insideB s.xl s.xh a b = true) (h2 : insideB s.yl s.yh c d = true) (x : List Int) (hP : 0 ≤ s.P + tot Pig.P s.pigs x) (h : s.safeOf x = 1) : (s.wide a b c d).safeOf x = 1 := by
  simp only [insideB, decide_eq_true_eq] at h1 h2
  rw [safeOf_verdict, verdict_1] at h ⊢
  simp only [Shop.wide]
  have k1 := allowLo_mono hP h1.1
  have k2 := allowHi_mono hP h1.2.2
  have k3 := allowLo_mono hP h2.1
  have k4 := allowHi_mono hP h2.2.2
  omega
theorem adds_P {s : Shop} (ho : s.ok = true) {x : List Int} (hx : x ∈ s.adds) : 0 ≤ s.P + tot Pig.P s.pigs x := by
  have h2 := (List.mem_filter.1 hx).1
  have hl := allL_len _ _ h2
  simp only [Shop.most, List.length_map] at hl
  have := tot_all Pig.P bd_pounds s.pigs x (Shop.few_all ho h2) rfl hl
  have hbd := Shop.ok_bd ho
  omega
theorem wide_less (s : Shop) (a b c d : Int) (h1 : insideB s.xl s.xh a b = true) (h2 : insideB s.yl s.yh c d = true) (ho : s.ok = true) (hok : (s.wide a b c d).ok = true) : lessB (s.wide a b c d) s = true := by
  have key : ∀ f, f = 0 ∨ f = 1 → (s.wide a b c d).costN f ≤ s.costN f := fun f hf =>
    costN_le f (fun x _ => Int.le_refl _) (fun x h => h) (fun x hx h => wide_safe s a b c d h1 h2 x (adds_P ho hx) h) (best_fair hok f hf)
  simp [lessB, key]
theorem filter_len {α : Type} (p q : α → Bool) (h : ∀ x, p x = true → q x = true) : ∀ l : List α, (l.filter p).length ≤ (l.filter q).length
  | [] => Nat.le_refl _
  | x :: l => by
    have ih := filter_len p q h l
    rcases hp : p x with - | -
    · rw [List.filter_cons_of_neg (by simp [hp])]
      rcases hq : q x with - | -
      · rw [List.filter_cons_of_neg (by simp [hq])]; exact ih
      · rw [List.filter_cons_of_pos hq]; simp; omega
    · rw [List.filter_cons_of_pos hp, List.filter_cons_of_pos (h x hp)]; simp; omega
theorem wide_keeps (s : Shop) (a b c d : Int) (h1 : insideB s.xl s.xh a b = true) (h2 : insideB s.yl s.yh c d = true) (P tl th al ah : Int) (hP : 0 ≤ P) (l : Int) (h : keepsB s P tl th al ah l = true) : keepsB (s.wide a b c d) P tl th al ah l = true := by
  simp only [insideB, decide_eq_true_eq] at h1 h2
  have k1 := Int.mul_le_mul_of_nonneg_left h1.1 hP
  have k2 := Int.mul_le_mul_of_nonneg_left h1.2.2 hP
  have k3 := Int.mul_le_mul_of_nonneg_left h2.1 hP
  have k4 := Int.mul_le_mul_of_nonneg_left h2.2.2 hP
  unfold keepsB at h ⊢
  simp only [Shop.wide]
  split at h
  · rw [if_pos (by assumption)]; have h := of_decide_eq_true h; exact decide_eq_true (by omega)
  · rw [if_neg (by assumption)]
    split at h
    · rw [if_pos (by assumption)]; have h := of_decide_eq_true h; exact decide_eq_true (by omega)
    · rw [if_neg (by assumption)]
      split at h
      · rw [if_pos (by assumption)]; have h := of_decide_eq_true h; exact decide_eq_true (by omega)
      · rw [if_neg (by assumption)]; have h := of_decide_eq_true h; exact decide_eq_true (by omega)
theorem wide_bad (s : Shop) (a b c d : Int) (h1 : insideB s.xl s.xh a b = true) (h2 : insideB s.yl s.yh c d = true) (ns : List Int) (hP : 0 ≤ s.P + tot Pig.P s.pigs ns) (L : List Int) :
    ((s.wide a b c d).bad ns L).length ≤ (s.bad ns L).length ∧ (s.bad ns L).length ≤ L.length ∧ ∀ l ∈ (s.wide a b c d).bad ns L, l ∈ s.bad ns L := by
  have key : ∀ l, (!keepsB (s.wide a b c d) (s.P + tot Pig.P s.pigs ns) (s.tl + tot Pig.t s.pigs ns) (s.th + tot Pig.t s.pigs ns) (s.al + tot Pig.a s.pigs ns) (s.ah + tot Pig.a s.pigs ns) l) = true → (!keepsB s (s.P + tot Pig.P s.pigs ns) (s.tl + tot Pig.t s.pigs ns) (s.th + tot Pig.t s.pigs ns) (s.al + tot Pig.a s.pigs ns) (s.ah + tot Pig.a s.pigs ns) l) = true := fun l hl => by
    rcases h : keepsB s (s.P + tot Pig.P s.pigs ns) (s.tl + tot Pig.t s.pigs ns) (s.th + tot Pig.t s.pigs ns) (s.al + tot Pig.a s.pigs ns) (s.ah + tot Pig.a s.pigs ns) l with - | -
    · rfl
    · rw [wide_keeps s a b c d h1 h2 _ _ _ _ _ hP l h] at hl; exact hl
  refine ⟨filter_len _ _ key L, List.length_filter_le _ _, fun l hl => ?_⟩
  have := List.mem_filter.1 hl
  exact List.mem_filter.2 ⟨this.1, key l this.2⟩
/-- A slice of numbers that a call has made. -/
theorem row_ints {w : World} {n0 n : Nat} {v : Value} {xs : List Int} (h : w.ownsRow n0 3 1 v n (xs.map (Value.int .i64))) (hn : n ≤ maxLen) : ∃ a cap, v = .slice a n cap ∧ IntsAt w a n xs := by
  have h' := h
  rcases h.2 with ⟨h0, h1⟩ | ⟨g, cap, cur, hv, _⟩
  · subst h0; subst h1
    exact ⟨none, 0, rfl, by have := h.1; simp at this; exact ⟨by simp [this], by decide, fun h => by omega⟩⟩
  · subst hv
    exact ⟨_, cap, rfl, ints_own h' hn⟩
end Go.Proofs.Ytajabapcmpmboaa
