/- Flongs: one cast more: mathematics. -/
import Derived.Test.YtigeiaiohdemiaaHB
import Derived.Test.YtigeiaiohdemiaaGN
namespace Go.Proofs.Ytigeiaiohdemiaa
set_option linter.unusedVariables false
set_option linter.unusedSimpArgs false
open Go.RowKit

theorem cast_which {s : FShop} (ho : s.ok = true) {m : Nat} (hm : m < s.moulds.length) (hb : s.moulds[m].b ≠ 1) (k : Nat) (hk : k < (s.cast m 0).which.length) : (s.cast m 0).which[k] ∈ s.which := by
  obtain ⟨j, hj, h1, h2, -⟩ := which_get (s.cast m 0) _ (Nat.le_refl _) k hk
  have hj' : j < s.worlds.length := hj
  have h3 : agreeB (s.cast m 0).moulds s.worlds[j] = true := h2
  rw [cast_agree0 hm hb (FShop.ok_world ho j hj').1, Bool.and_eq_true] at h3
  show (s.cast m 0).which[k] ∈ s.which
  have h4 : (s.cast m 0).which[k] = (j : Int) := h1
  rw [h4]
  exact which_mem hj' h3.1
theorem cast_which_len {s : FShop} (ho : s.ok = true) {m : Nat} (hm : m < s.moulds.length) (hb : s.moulds[m].b ≠ 1) : (s.cast m 0).which.length ≤ s.which.length := by
  rw [which_left, which_left]
  have := cast_left0 ho hm hb
  omega
theorem cast_cst {s : FShop} {m : Nat} (hm : m < s.moulds.length) {x : List Int} (hx : x.length = s.moulds.length) (t : Nat) : cst (s.cast m 0).moulds x t = cst s.moulds x t - (if t = m then 1 else 0) := by
  rw [cast_moulds hm]
  by_cases ht : t < s.moulds.length
  · rw [cst_at (by rw [List.length_set]; exact ht) (by omega), cst_at ht (by omega)]
    by_cases e : t = m
    · subst e
      rw [List.getElem_set_self, if_pos rfl]
      simp [Mould.cast]; omega
    · rw [List.getElem_set_ne (fun h => e h.symm), if_neg e]; omega
  · rw [cst_out (by rw [List.length_set]; omega), cst_out (by omega), if_neg (by omega)]; rfl
theorem cast_mem {s : FShop} (ho : s.ok = true) {m : Nat} (hm : m < s.moulds.length) (hb : s.moulds[m].b ≠ 1) {c : Nat → Int} (hc : c ∈ (s.cast m 0).left) : ∃ d ∈ s.left, ∀ t, c t = d t - (if t = m then 1 else 0) := by
  unfold FShop.left FShop.agreeing at hc
  obtain ⟨x, hx, rfl⟩ := List.mem_map.1 hc
  obtain ⟨hx1, hx2⟩ := List.mem_filter.1 hx
  have hx1' : x ∈ s.worlds := hx1
  obtain ⟨j, hj, rfl⟩ := List.mem_iff_getElem.1 hx1'
  have hl := (FShop.ok_world ho j hj).1
  rw [cast_agree0 hm hb hl, Bool.and_eq_true] at hx2
  exact ⟨cst s.moulds s.worlds[j], left_mem hj hx2.1, fun t => cast_cst hm hl t⟩
theorem cast_lo {s : FShop} (ho : s.ok = true) {m : Nat} (hm : m < s.moulds.length) (hb : s.moulds[m].b ≠ 1) (h0 : 0 < (s.cast m 0).left.length) (t : Nat) : loOf s.left t - (if t = m then 1 else 0) ≤ loOf (s.cast m 0).left t := by
  obtain ⟨c, hc, e⟩ := lo_att h0 t
  obtain ⟨d, hd, h⟩ := cast_mem ho hm hb hc
  have h1 := (lo_mem t hd).1
  have h2 := h t
  rw [e, h2]
  omega
/-- The sums of a page, where one mould has one less. -/
theorem sumTo_less {ms ns : List Mould} (hl : ns.length = ms.length) (hp : ∀ i (h1 : i < ms.length) (h2 : i < ns.length), ns[i].p = ms[i].p) {c d : Nat → Int} {m : Nat} (hm : m < ms.length) (h : ∀ t, c t - (if t = m then 1 else 0) ≤ d t) (p : Int) : ∀ k, k ≤ ms.length → sumTo ms c p k - (if m < k ∧ ms[m].p = p then 1 else 0) ≤ sumTo ns d p k
  | 0, _ => by simp [sumTo]
  | k + 1, hk => by
    have ih := sumTo_less hl hp hm h p k (by omega)
    have hk2 : k < ms.length := by omega
    have hk3 : k < ns.length := by omega
    rw [sumTo_next hk2, sumTo_next hk3, hp k hk2 hk3]
    have h1 := h k
    by_cases e : k = m
    · subst e
      rw [if_pos rfl] at h1
      rw [if_neg (by omega)] at ih
      by_cases e2 : ms[k].p = p
      · rw [if_pos e2, if_pos e2, if_pos ⟨by omega, e2⟩]; omega
      · rw [if_neg e2, if_neg e2, if_neg (fun h => e2 h.2)]; omega
    · rw [if_neg e] at h1
      have e3 : (m < k + 1 ∧ ms[m].p = p) ↔ (m < k ∧ ms[m].p = p) := by constructor <;> rintro ⟨a, b⟩ <;> exact ⟨by omega, b⟩
      simp only [e3]
      by_cases e2 : ms[k].p = p
      · rw [if_pos e2, if_pos e2]; omega
      · rw [if_neg e2, if_neg e2]; exact ih
theorem newTo_less {s t : FShop} (hwl : t.wants.length = s.wants.length) (hf : t.fresh = s.fresh) (h1 : 1 ≤ s.fresh) (h : ∀ p (h1 : p < s.wants.length) (h2 : p < t.wants.length), t.wants[p] - sumOf t.moulds (loOf t.left) p ≤ s.wants[p] - sumOf s.moulds (loOf s.left) p) : ∀ k, k ≤ s.wants.length → newTo t k ≤ newTo s k
  | 0, _ => Int.le_refl _
  | k + 1, hk => by
    have hk2 : k < s.wants.length := by omega
    have hk3 : k < t.wants.length := by omega
    have h2 := newTo_less hwl hf h1 h k (by omega)
    rw [newTo_next hk2, newTo_next hk3]
    have h3 : newFor t t.wants[k] k ≤ newFor s s.wants[k] k := by
      show ceilF _ _ ≤ ceilF _ _
      rw [hf]
      exact ceil_mono (h k hk2 hk3) h1
    omega
theorem newAll_less {s t : FShop} (hwl : t.wants.length = s.wants.length) (hf : t.fresh = s.fresh) (h1 : 1 ≤ s.fresh) (h : ∀ p (h1 : p < s.wants.length) (h2 : p < t.wants.length), t.wants[p] - sumOf t.moulds (loOf t.left) p ≤ s.wants[p] - sumOf s.moulds (loOf s.left) p) : t.newAll ≤ s.newAll := by
  have := newTo_less hwl hf h1 h s.wants.length (Nat.le_refl _)
  unfold FShop.newAll
  rwa [hwl]
/-- A shop of which a page wants another number. -/
def FShop.want (s : FShop) (p : Nat) (v : Int) : FShop := { s with wants := s.wants.set p v }
theorem want_ok {s : FShop} (ho : s.ok = true) {p : Nat} {v : Int} (hv : 0 ≤ v ∧ v ≤ 12) : (s.want p v).ok = true := by
  unfold FShop.ok FShop.few at ho ⊢
  have e : (s.want p v).wants.length = s.wants.length := by simp [FShop.want]
  rw [e]
  show (decide (s.wants.length ≤ 3) && decide (s.moulds.length ≤ 5) && decide (s.worlds.length ≤ 6) && (s.wants.set p v).all _ && s.moulds.all (mouldB s.wants.length) && s.worlds.all (worldB s.moulds.length) && btw s.fresh 1 12) = true
  simp only [Bool.and_eq_true] at ho ⊢
  obtain ⟨⟨⟨⟨h1, h2⟩, h3⟩, h4⟩, h5⟩ := ho
  refine ⟨⟨⟨⟨h1, ?_⟩, h3⟩, h4⟩, h5⟩
  rw [List.all_eq_true] at h2 ⊢
  intro q hq
  rcases List.mem_or_eq_of_mem_set hq with hq | rfl
  · exact h2 q hq
  · simp [btw]; omega
theorem cast_new {s : FShop} (ho : s.ok = true) {m : Nat} (hm : m < s.moulds.length) (hb : s.moulds[m].b ≠ 1) (h0 : 0 < (s.cast m 0).left.length) {p : Nat} (hp : (p : Int) = s.moulds[m].p) (hpl : p < s.wants.length) :
    ((s.cast m 0).want p (s.wants[p] - 1)).newAll ≤ s.newAll := by
  refine newAll_less (by simp [FShop.want, FShop.cast]) rfl (FShop.ok_fresh ho).1 fun q h1 h2 => ?_
  have hcm := cast_moulds hm (0 : Int)
  have hl : (s.cast m 0).moulds.length = s.moulds.length := by rw [hcm, List.length_set]
  have hs := sumTo_less (ms := s.moulds) (ns := (s.cast m 0).moulds) hl (fun i h1 h2 => by
    simp only [hcm]
    by_cases e : m = i
    · subst e; rw [List.getElem_set_self]; simp [Mould.cast]
    · rw [List.getElem_set_ne e]) hm (c := loOf s.left) (d := loOf (s.cast m 0).left) (fun t => cast_lo ho hm hb h0 t) (q : Int) _ (Nat.le_refl _)
  have hS : sumOf ((s.cast m 0).want p (s.wants[p] - 1)).moulds (loOf ((s.cast m 0).want p (s.wants[p] - 1)).left) (q : Int) = sumTo (s.cast m 0).moulds (loOf (s.cast m 0).left) (q : Int) s.moulds.length := by
    show sumTo (s.cast m 0).moulds (loOf (s.cast m 0).left) (q : Int) (s.cast m 0).moulds.length = _
    rw [hl]
  rw [hS]
  have hS2 : sumOf s.moulds (loOf s.left) (q : Int) = sumTo s.moulds (loOf s.left) (q : Int) s.moulds.length := rfl
  rw [hS2]
  have hw : ((s.cast m 0).want p (s.wants[p] - 1)).wants[q] = if p = q then s.wants[p] - 1 else s.wants[q] := by
    show (s.wants.set p (s.wants[p] - 1))[q]'(by rw [List.length_set]; exact h1) = _
    rw [List.getElem_set]
  rw [hw]
  by_cases e : p = q
  · subst e
    rw [if_pos rfl]
    rw [if_pos ⟨hm, hp.symm⟩] at hs
    omega
  · rw [if_neg e]
    rw [if_neg (fun h => e (by have := h.2; omega))] at hs
    omega
end Go.Proofs.Ytigeiaiohdemiaa
