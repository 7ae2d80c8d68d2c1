/- Package changes: mathematics of what is dearer, or later. -/
import Derived.Test.YtedfdhpggghjeaaDO
import Derived.Test.YtedfdhpggghjeaaDI
namespace Go.Proofs.Ytedfdhpggghjeaa
set_option linter.unusedVariables false
set_option linter.unusedSimpArgs false
open Go.RowKit

theorem cmpR_lt {x y : List Int} {p q : Int} (h : p < q) : cmpR x p y q < 0 := by
  have e : cmpZ p q = -1 := by unfold cmpZ; rw [if_pos h]
  unfold cmpR orL
  rw [e, if_neg (by decide : ¬ (-1 : Int) = 0)]
  decide
theorem cmpR_gt {x y : List Int} {p q : Int} (h : q < p) : ¬ cmpR x p y q < 0 := by
  have e : cmpZ p q = 1 := by unfold cmpZ; rw [if_neg (by omega), if_pos h]
  unfold cmpR orL
  rw [e, if_neg (by decide : ¬ (1 : Int) = 0)]
  decide
theorem lessR_yes {h : CHouse} {y b : Nat} (hl : h.lessR y b = true) : h.cost y ≤ h.cost b := by
  unfold CHouse.lessR at hl
  have := of_decide_eq_true hl
  rcases Int.lt_or_le (h.cost b) (h.cost y) with q | q
  · exact absurd this (cmpR_gt q)
  · exact q
theorem lessR_no {h : CHouse} {y b : Nat} (hl : h.lessR y b = false) : h.cost b ≤ h.cost y := by
  unfold CHouse.lessR at hl
  have := of_decide_eq_false hl
  rcases Int.lt_or_le (h.cost y) (h.cost b) with q | q
  · exact absurd (cmpR_lt q) this
  · exact q
theorem minR_cost (h : CHouse) : ∀ (l : List Nat) (x : Nat), ∀ y ∈ x :: l, h.cost (h.minR x l) ≤ h.cost y
  | [], x, y, hy => by
    rw [List.mem_singleton] at hy
    subst hy
    exact Int.le_refl _
  | z :: l, x, y, hy => by
    have e : h.minR x (z :: l) = h.minR (if h.lessR z x = true then z else x) l := rfl
    rw [e]
    have ih := minR_cost h l (if h.lessR z x = true then z else x)
    rcases hl : h.lessR z x with - | -
    · rw [hl] at ih
      simp only [Bool.false_eq_true, if_false] at ih ⊢
      rcases List.mem_cons.1 hy with rfl | hy
      · exact ih y (List.mem_cons_self ..)
      · rcases List.mem_cons.1 hy with rfl | hy
        · exact Int.le_trans (ih x (List.mem_cons_self ..)) (lessR_no hl)
        · exact ih y (List.mem_cons_of_mem _ hy)
    · rw [hl] at ih
      simp only [if_true] at ih ⊢
      rcases List.mem_cons.1 hy with rfl | hy
      · exact Int.le_trans (ih z (List.mem_cons_self ..)) (lessR_yes hl)
      · rcases List.mem_cons.1 hy with rfl | hy
        · exact ih y (List.mem_cons_self ..)
        · exact ih y (List.mem_cons_of_mem _ hy)
theorem leastR_cost {h : CHouse} {c now : Int} {y : Nat} (hy : y ∈ h.rems c now) : h.cost (h.leastR c now) ≤ h.cost y := by
  unfold CHouse.leastR
  rcases hr : h.rems c now with - | ⟨x, l⟩
  · rw [hr] at hy; cases hy
  · rw [hr] at hy
    exact minR_cost h l x y hy
theorem heals_iff (h : CHouse) (c now : Int) (x : Nat) : h.heals c now x = true ↔ ∀ y ∈ h.plates 99, (h.alter c now (h.pick x)).since c y.toNat ≤ 99 := by
  unfold CHouse.heals CHouse.lacks
  rw [List.isEmpty_iff, List.filter_eq_nil_iff]
  have e : (h.alter c now (h.pick x)).plates 99 = h.plates 99 := rfl
  rw [e]
  simp [CHouse.hasB]
theorem numsTo_congr {p q : Nat → Bool} : ∀ {n : Nat}, (∀ k, k < n → p k = q k) → numsTo p n = numsTo q n
  | 0, _ => rfl
  | n + 1, h => by rw [numsTo_next, numsTo_next, h n (by omega), numsTo_congr (fun k hk => h k (by omega))]
theorem alter_firstA (h : CHouse) (c now : Int) (l : List Int) {t : Int} {m : CMark} (hm : m ∈ (h.alter c now l).marks) (ht : m.t = t) : m ∈ h.marks ∨ (t ∈ l ∧ m = ⟨c, t, max now (((h.things[t.toNat]?).map CThing.a).getD 0)⟩) := by
  rcases List.mem_append.1 hm with q | q
  · exact .inl q
  · obtain ⟨y, hy, rfl⟩ := List.mem_map.1 q
    subst ht
    exact .inr ⟨hy, rfl⟩
theorem alter_late {h : CHouse} (hl : h.late) (c now : Int) (l : List Int) : (h.alter c now l).late := fun k hk c2 => by
  have hk : k < h.things.length := hk
  show h.things[k].a ≤ _
  have h0 := hl k hk c2
  rcases firstA_mem (h.alter c now l) k c2 with ⟨hno, e⟩ | ⟨m, hm, h1, h2, e⟩
  · rw [e]
    rcases firstA_mem h k c2 with ⟨-, e2⟩ | ⟨m2, hm2, h3, h4, -⟩
    · rw [e2] at h0; exact h0
    · exact absurd ⟨h3, h4⟩ (hno m2 (List.mem_append_left _ hm2))
  · rw [e]
    rcases alter_firstA h c now l hm h1 with q | ⟨-, rfl⟩
    · exact Int.le_trans h0 (firstA_le q h1 h2)
    · show _ ≤ max now _
      simp only [Int.toNat_natCast]
      rw [List.getElem?_eq_getElem hk]
      exact Int.le_max_right _ _
theorem alter_bd {h : CHouse} (ho : h.okT = true) (hb : ∀ m ∈ h.marks, m.a ≤ 100) (c : Int) {now : Int} (hn : now ≤ 99) (l : List Int) : ∀ m ∈ (h.alter c now l).marks, m.a ≤ 100 := fun m hm => by
  rcases alter_firstA h c now l hm rfl with q | ⟨-, e⟩
  · exact hb m q
  · rw [e]
    show max now _ ≤ 100
    refine Int.max_le.2 ⟨by omega, ?_⟩
    by_cases hk : m.t.toNat < h.things.length
    · rw [List.getElem?_eq_getElem hk]
      have := (CHouse.okT_thing ho hk).2.1.2
      show h.things[m.t.toNat].a ≤ 100
      omega
    · rw [List.getElem?_eq_none (by omega)]; decide
theorem ok_bd {h : CHouse} (ho : h.ok = true) : ∀ m ∈ h.marks, m.a ≤ 100 := fun m hm => by
  have := (CHouse.ok_mark ho hm).2.2.2; omega
/-- What heals later heals now. -/
theorem heals_later {h : CHouse} (ho : h.ok = true) (c : Int) {now now2 : Int} (hn : now ≤ now2) (hn2 : now2 ≤ 99) {x : Nat} (hx : h.heals c now2 x = true) : h.heals c now x = true := by
  rw [heals_iff] at hx ⊢
  intro y hy
  obtain ⟨h0, h1, -⟩ := (numsTo_mem _ _ _).1 hy
  refine Int.le_trans (since_mono (h := h.alter c now2 (h.pick x)) (h' := h.alter c now (h.pick x)) rfl (alter_okT (CHouse.ok_T ho) _ _ _) (alter_okT (CHouse.ok_T ho) _ _ _) (alter_late (ok_late ho) _ _ _) h.things.length (Nat.le_refl _) (fun _ _ _ _ => ⟨rfl, rfl⟩) (fun k hk => ?_) y.toNat (by omega)) (hx y hy)
  refine firstA_less (fun m hm h2 h3 => ?_) (alter_bd (CHouse.ok_T ho) (ok_bd ho) c (by omega) _)
  rcases alter_firstA h c now2 _ hm h2 with q | ⟨q, rfl⟩
  · exact ⟨m, List.mem_append_left _ q, h2, h3, Int.le_refl _⟩
  · refine ⟨_, List.mem_append_right _ (List.mem_map.2 ⟨_, q, rfl⟩), rfl, h3, ?_⟩
    show max now _ ≤ max now2 _
    exact Int.max_le.2 ⟨Int.le_trans hn (Int.le_max_left _ _), Int.le_max_right _ _⟩
theorem later_cost {h : CHouse} (ho : h.ok = true) (c : Int) {now now2 : Int} (hn : now ≤ now2) (hn2 : now2 ≤ 99) : h.cost (h.leastR c now) ≤ h.cost (h.leastR c now2) := by
  have hm := leastR_mem (CHouse.ok_T ho) c now2 hn2
  obtain ⟨h1, h2⟩ := List.mem_filter.1 hm
  exact leastR_cost (List.mem_filter.2 ⟨h1, heals_later ho c hn hn2 h2⟩)

/-! A thing that costs more. -/
theorem pick_lt (h : CHouse) (x : Nat) : ∀ y ∈ h.pick x, y.toNat < h.things.length := fun y hy => by
  have := (numsTo_mem _ _ _).1 hy
  omega
theorem firstTo_eq {h h' : CHouse} (e : h'.marks = h.marks) (t c : Int) : ∀ k, h'.firstTo t c k = h.firstTo t c k
  | 0 => rfl
  | k + 1 => by
    have hb : ∀ o m, h'.better o m = h.better o m := fun o m => by unfold CHouse.better; rw [e]
    rw [CHouse.firstTo, CHouse.firstTo, e, firstTo_eq e t c k]
    cases h.marks[k]? with
    | none => rfl
    | some m => simp only [hb]
theorem firstA_eq {h h' : CHouse} (e : h'.marks = h.marks) (t c : Int) : h'.firstA t c = h.firstA t c := by
  unfold CHouse.firstA CHouse.first
  rw [firstTo_eq e, e]

theorem priced_get (h : CHouse) (k : Nat) (hk : k < h.things.length) (q : Int) (i : Nat) (hi : i < h.things.length) (hi' : i < (h.priced k q).things.length) : (h.priced k q).things[i] = if i = k then { h.things[k] with c := q } else h.things[i] := by
  have e := priced_at h k hk q
  have : ∀ (L : List CThing) (hL : i < L.length), L = h.things.set k { h.things[k] with c := q } → L[i] = if i = k then { h.things[k] with c := q } else h.things[i] := fun L hL eL => by
    subst eL
    rw [List.getElem_set]
    by_cases e2 : i = k
    · rw [if_pos e2.symm, if_pos e2]
    · rw [if_neg (fun e => e2 e.symm), if_neg e2]
  exact this _ hi' (by rw [e])
theorem priced_len (h : CHouse) (k : Nat) (q : Int) : (h.priced k q).things.length = h.things.length := by
  unfold CHouse.priced
  dsimp only
  split <;> simp
theorem priced_same (h : CHouse) (k : Nat) (hk : k < h.things.length) (q : Int) (i : Nat) (hi : i < h.things.length) (hi' : i < (h.priced k q).things.length) : (h.priced k q).things[i].o = h.things[i].o ∧ (h.priced k q).things[i].a = h.things[i].a ∧ (h.priced k q).things[i].p = h.things[i].p := by
  rw [priced_get h k hk q i hi hi']
  by_cases e : i = k
  · subst e; rw [if_pos rfl]; exact ⟨rfl, rfl, rfl⟩
  · rw [if_neg e]; exact ⟨rfl, rfl, rfl⟩
theorem priced_heals {h : CHouse} (ho : h.ok = true) (k : Nat) (hk : k < h.things.length) (q : Int) (ho2 : (h.priced k q).ok = true) (c now : Int) (x : Nat) : (h.priced k q).heals c now x = h.heals c now x := by
  have hl := priced_len h k q
  have hpick : (h.priced k q).pick x = h.pick x := by unfold CHouse.pick; rw [hl]
  have hplates : (h.priced k q).plates 99 = h.plates 99 := by
    unfold CHouse.plates
    rw [hl]
    refine numsTo_congr fun i hi => ?_
    unfold CHouse.printB
    have hi' : i < (h.priced k q).things.length := by omega
    rw [List.getElem?_eq_getElem hi, List.getElem?_eq_getElem hi']
    obtain ⟨-, e2, e3⟩ := priced_same h k hk q i hi hi'
    dsimp only
    rw [e2, e3]
  have hmk : (h.priced k q).marks = h.marks := by rfl
  have hsince : ∀ i, i < h.things.length → ((h.priced k q).alter c now (h.pick x)).since c i = (h.alter c now (h.pick x)).since c i := by
    refine since_same (h := h.alter c now (h.pick x)) (h' := (h.priced k q).alter c now (h.pick x)) hl (alter_okT (CHouse.ok_T ho) _ _ _) (alter_okT (CHouse.ok_T ho2) _ _ _) h.things.length (Nat.le_refl _) (fun i hi hi' _ => ⟨(priced_same h k hk q i hi hi').1, (priced_same h k hk q i hi hi').2.1⟩) (fun i hi => ?_)
    have e : ((h.priced k q).alter c now (h.pick x)).marks = (h.alter c now (h.pick x)).marks := by
      unfold CHouse.alter
      dsimp only
      rw [hmk]
      congr 1
      refine List.map_congr_left fun y hy => ?_
      have hy2 := (pick_lt h x y hy)
      have hi' : y.toNat < (h.priced k q).things.length := by omega
      rw [List.getElem?_eq_getElem hy2, List.getElem?_eq_getElem hi']
      show (⟨c, y, max now (h.priced k q).things[y.toNat].a⟩ : CMark) = ⟨c, y, max now h.things[y.toNat].a⟩
      rw [(priced_same h k hk q _ hy2 hi').2.1]
    exact firstA_eq e _ _
  rw [Bool.eq_iff_iff, heals_iff, heals_iff, hpick, hplates]
  constructor
  · intro hh y hy
    have := (numsTo_mem _ _ _).1 hy
    rw [← hsince _ (by omega)]
    exact hh y hy
  · intro hh y hy
    have := (numsTo_mem _ _ _).1 hy
    rw [hsince _ (by omega)]
    exact hh y hy
theorem priced_costTo {h : CHouse} (k : Nat) (hk : k < h.things.length) (q : Int) (x : Nat) : ∀ n, n ≤ h.things.length → (h.priced k q).costTo x n = h.costTo x n + (if bitB x k = true ∧ k < n then q - h.things[k].c else 0)
  | 0, _ => by simp [CHouse.costTo]
  | n + 1, hn => by
    rw [CHouse.costTo, CHouse.costTo, priced_costTo k hk q x n (by omega)]
    have hn1 : n < h.things.length := by omega
    have hn2 : n < (h.priced k q).things.length := by rw [priced_len]; omega
    rw [List.getElem?_eq_getElem hn1, List.getElem?_eq_getElem hn2, priced_get h k hk q n hn1 hn2]
    simp only [Option.map_some, Option.getD_some]
    by_cases e : n = k
    · subst e
      rw [if_pos rfl, if_neg (by omega : ¬ (bitB x n = true ∧ n < n))]
      by_cases hb : bitB x n = true
      · rw [if_pos hb, if_pos hb, if_pos ⟨hb, by omega⟩]
        show _ + q = _
        omega
      · rw [if_neg hb, if_neg hb, if_neg (fun h => hb h.1)]
    · rw [if_neg e]
      have : (bitB x k = true ∧ k < n) ↔ (bitB x k = true ∧ k < n + 1) := ⟨fun h => ⟨h.1, by omega⟩, fun h => ⟨h.1, by omega⟩⟩
      simp only [this]
      omega
theorem priced_cost {h : CHouse} (ho : h.ok = true) (k : Nat) (hk : k < h.things.length) (d : Int) (hd : 0 ≤ d) (ho2 : (h.priced k (h.things[k].c + d)).ok = true) (c now : Int) (hn : now ≤ 99) :
    h.cost (h.leastR c now) ≤ (h.priced k (h.things[k].c + d)).cost ((h.priced k (h.things[k].c + d)).leastR c now) ∧ (h.priced k (h.things[k].c + d)).cost ((h.priced k (h.things[k].c + d)).leastR c now) ≤ h.cost (h.leastR c now) + d := by
  have hr : ∀ x, x ∈ (h.priced k (h.things[k].c + d)).rems c now ↔ x ∈ h.rems c now := fun x => by
    unfold CHouse.rems
    rw [List.mem_filter, List.mem_filter, priced_len, priced_heals ho k hk _ ho2]
  have hc : ∀ x, h.cost x ≤ (h.priced k (h.things[k].c + d)).cost x ∧ (h.priced k (h.things[k].c + d)).cost x ≤ h.cost x + d := fun x => by
    unfold CHouse.cost
    rw [priced_len, priced_costTo k hk _ x _ (Nat.le_refl _)]
    split <;> omega
  have m1 := leastR_mem (CHouse.ok_T ho) c now hn
  have m2 := leastR_mem (CHouse.ok_T ho2) c now hn
  exact ⟨Int.le_trans (leastR_cost ((hr _).1 m2)) (hc _).1, Int.le_trans (leastR_cost ((hr _).2 m1)) (hc _).2⟩
end Go.Proofs.Ytedfdhpggghjeaa
