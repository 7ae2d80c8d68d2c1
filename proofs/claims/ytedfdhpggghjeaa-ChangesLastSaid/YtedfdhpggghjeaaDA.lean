/- Package changes: mathematics of remedies: the first mark, all things heal, how remedies compare, the least. -/
import Derived.Test.YtedfdhpggghjeaaCB
namespace Go.Proofs.Ytedfdhpggghjeaa
set_option linter.unusedVariables false
set_option linter.unusedSimpArgs false
open Go.RowKit

/-- The first of the earliest marks, as told of. -/
theorem firstTo_spec (h : CHouse) (t c : Int) : ∀ k : Nat,
    match h.firstTo t c k with
    | none => ∀ (j : Nat) (hj : j < h.marks.length), j < k → ¬ (h.marks[j].t = t ∧ h.marks[j].c = c)
    | some i => ∃ (hi : i < h.marks.length), h.marks[i].t = t ∧ h.marks[i].c = c ∧ i < k ∧ ∀ (j : Nat) (hj : j < h.marks.length), j < k → h.marks[j].t = t → h.marks[j].c = c → h.marks[i].a ≤ h.marks[j].a ∧ (j < i → h.marks[i].a < h.marks[j].a)
  | 0 => fun _ _ hj => absurd hj (by omega)
  | k + 1 => by
    have ih := firstTo_spec h t c k
    rw [CHouse.firstTo]
    by_cases hk : k < h.marks.length
    · rw [List.getElem?_eq_getElem hk]
      dsimp only
      rcases hf : h.firstTo t c k with - | b
      · rw [hf] at ih
        dsimp only at ih
        by_cases hm : h.marks[k].t = t ∧ h.marks[k].c = c
        · rw [if_pos ⟨hm.1, hm.2, rfl⟩]
          refine ⟨hk, hm.1, hm.2, by omega, fun j hj hjk h1 h2 => ?_⟩
          by_cases e : j = k
          · subst e; exact ⟨Int.le_refl _, fun h => absurd h (by omega)⟩
          · exact absurd ⟨h1, h2⟩ (ih j hj (by omega))
        · rw [if_neg (fun h => hm ⟨h.1, h.2.1⟩)]
          dsimp only
          intro j hj hjk
          by_cases e : j = k
          · subst e; exact hm
          · exact ih j hj (by omega)
      · rw [hf] at ih
        dsimp only at ih
        obtain ⟨hb, h1, h2, h3, h4⟩ := ih
        have hbe : h.better (some b) h.marks[k] = decide (h.marks[k].a < h.marks[b].a) := by unfold CHouse.better; dsimp only; rw [List.getElem?_eq_getElem hb]; rfl
        by_cases hm : h.marks[k].t = t ∧ h.marks[k].c = c ∧ h.better (some b) h.marks[k] = true
        · rw [if_pos hm]
          have hlt := hm.2.2
          rw [hbe, decide_eq_true_eq] at hlt
          refine ⟨hk, hm.1, hm.2.1, by omega, fun j hj hjk q1 q2 => ?_⟩
          by_cases e : j = k
          · subst e; exact ⟨Int.le_refl _, fun h => absurd h (by omega)⟩
          · have := h4 j hj (by omega) q1 q2
            exact ⟨by omega, fun _ => by omega⟩
        · rw [if_neg hm]
          refine ⟨hb, h1, h2, by omega, fun j hj hjk q1 q2 => ?_⟩
          by_cases e : j = k
          · subst e
            refine ⟨?_, fun h => absurd h (by omega)⟩
            rcases Int.lt_or_le h.marks[j].a h.marks[b].a with q | q
            · exact absurd ⟨q1, q2, by rw [hbe, decide_eq_true_eq]; exact q⟩ hm
            · exact q
          · exact h4 j hj (by omega) q1 q2
    · rw [List.getElem?_eq_none (by omega)]
      dsimp only
      rcases hf : h.firstTo t c k with - | b
      · rw [hf] at ih
        dsimp only at ih ⊢
        exact fun j hj hjk => ih j hj (by omega)
      · rw [hf] at ih
        dsimp only at ih ⊢
        obtain ⟨hb, h1, h2, h3, h4⟩ := ih
        exact ⟨hb, h1, h2, by omega, fun j hj _ => h4 j hj (by omega)⟩
theorem firstA_le {h : CHouse} {t c : Int} {m : CMark} (hm : m ∈ h.marks) (h1 : m.t = t) (h2 : m.c = c) : h.firstA t c ≤ m.a := by
  obtain ⟨j, hj, rfl⟩ := List.getElem_of_mem hm
  have hs := firstTo_spec h t c h.marks.length
  unfold CHouse.firstA CHouse.first
  rcases hf : h.firstTo t c h.marks.length with - | b
  · rw [hf] at hs
    exact absurd ⟨h1, h2⟩ (hs j hj hj)
  · rw [hf] at hs
    obtain ⟨hb, -, -, -, h4⟩ := hs
    dsimp only
    rw [List.getElem?_eq_getElem hb]
    exact (h4 j hj hj h1 h2).1
theorem firstA_mem (h : CHouse) (t c : Int) : ((∀ m ∈ h.marks, ¬ (m.t = t ∧ m.c = c)) ∧ h.firstA t c = 100) ∨ ∃ m ∈ h.marks, m.t = t ∧ m.c = c ∧ h.firstA t c = m.a := by
  have hs := firstTo_spec h t c h.marks.length
  unfold CHouse.firstA CHouse.first
  rcases hf : h.firstTo t c h.marks.length with - | b
  · rw [hf] at hs
    refine .inl ⟨fun m hm => ?_, rfl⟩
    obtain ⟨j, hj, rfl⟩ := List.getElem_of_mem hm
    exact hs j hj hj
  · rw [hf] at hs
    obtain ⟨hb, h1, h2, -, -⟩ := hs
    refine .inr ⟨h.marks[b], List.getElem_mem hb, h1, h2, ?_⟩
    dsimp only
    rw [List.getElem?_eq_getElem hb]
    rfl

theorem bit_all : ∀ n : Fin 9, ∀ k : Fin 8, k.val < n.val → bitB (2 ^ n.val - 1) k.val = true := by decide
theorem pick_all (h : CHouse) (h8 : h.things.length ≤ 8) (y : Int) (h0 : 0 ≤ y) (h1 : y < (h.things.length : Int)) : y ∈ h.pick (2 ^ h.things.length - 1) := by
  refine (numsTo_mem _ _ _).2 ⟨h0, h1, ?_⟩
  exact bit_all ⟨h.things.length, by omega⟩ ⟨y.toNat, by omega⟩ (by show y.toNat < h.things.length; omega)
/-- All things altered, no plate lacks the change. -/
theorem all_heals {h : CHouse} (ho : h.okT = true) (c now : Int) (hn : now ≤ 99) : h.heals c now (2 ^ h.things.length - 1) = true := by
  unfold CHouse.heals CHouse.lacks
  rw [List.isEmpty_iff, List.filter_eq_nil_iff]
  intro y hy
  obtain ⟨h0, h1, -⟩ := (numsTo_mem _ _ _).1 hy
  have h1 : y < (h.things.length : Int) := h1
  have hk : y.toNat < h.things.length := by omega
  have hp := pick_all h (CHouse.okT_few ho) y h0 h1
  have hta := CHouse.okT_thing ho hk
  have ho2 : (h.alter c now (h.pick (2 ^ h.things.length - 1))).okT = true := alter_okT ho c now _
  have hk2 : y.toNat < (h.alter c now (h.pick (2 ^ h.things.length - 1))).things.length := hk
  simp only [Bool.not_eq_true, Bool.not_eq_false', CHouse.hasB, decide_eq_true_eq]
  rw [since_eq ho2 c hk2]
  split
  · exact hta.2.1.2
  · have hm : (⟨c, y, max now (((h.things[y.toNat]?).map CThing.a).getD 0)⟩ : CMark) ∈ (h.alter c now (h.pick (2 ^ h.things.length - 1))).marks :=
      List.mem_append_right _ (List.mem_map.2 ⟨y, hp, rfl⟩)
    refine Int.le_trans (firstA_le hm (by show y = _; omega) rfl) ?_
    show max now _ ≤ 99
    rw [List.getElem?_eq_getElem hk]
    exact Int.max_le.2 ⟨hn, hta.2.1.2⟩
/-- The choices that are remedies. -/
def CHouse.rems (h : CHouse) (c now : Int) : List Nat := (List.range (2 ^ h.things.length)).filter (h.heals c now)
theorem rems_ne {h : CHouse} (ho : h.okT = true) (c now : Int) (hn : now ≤ 99) : h.rems c now ≠ [] := by
  refine List.ne_nil_of_mem (a := 2 ^ h.things.length - 1) (List.mem_filter.2 ⟨List.mem_range.2 ?_, all_heals ho c now hn⟩)
  have : 0 < 2 ^ h.things.length := Nat.pos_of_ne_zero (by simp)
  omega
theorem rems_len {h : CHouse} (h8 : h.things.length ≤ 8) (c now : Int) : (h.rems c now).length ≤ 256 := by
  refine Nat.le_trans (List.length_filter_le _ _) ?_
  rw [List.length_range]
  exact Nat.le_trans (Nat.pow_le_pow_right (by omega) h8) (by decide)
theorem rems_mem {h : CHouse} {c now : Int} {x : Nat} (hx : x ∈ h.rems c now) (h8 : h.things.length ≤ 8) : x < 256 ∧ h.heals c now x = true := by
  obtain ⟨h1, h2⟩ := List.mem_filter.1 hx
  have := List.mem_range.1 h1
  have : 2 ^ h.things.length ≤ 2 ^ 8 := Nat.pow_le_pow_right (by omega) h8
  exact ⟨by omega, h2⟩

def cmpZ (a b : Int) : Int := if a < b then -1 else if b < a then 1 else 0
def cmpL : List Int → List Int → Int
  | [], [] => 0
  | [], _ :: _ => -1
  | _ :: _, [] => 1
  | x :: xs, y :: ys => if cmpZ x y = 0 then cmpL xs ys else cmpZ x y
/-- The first that is not 0. -/
def orL : List Int → Int
  | [] => 0
  | x :: xs => if x = 0 then orL xs else x
/-- How two refusals compare: a number below 0 if the first one is better. -/
def cmpR (x : List Int) (p : Int) (y : List Int) (q : Int) : Int := orL [cmpZ p q, cmpZ x.length y.length, cmpL x y]
/-- Whether a choice is less than another one. -/
def CHouse.lessR (h : CHouse) (x y : Nat) : Bool := decide (cmpR (h.pick x) (h.cost x) (h.pick y) (h.cost y) < 0)
/-- The first of the least of some choices, the first one given. -/
def CHouse.minR (h : CHouse) (x : Nat) (l : List Nat) : Nat := l.foldl (fun b y => if h.lessR y b = true then y else b) x
def CHouse.leastR (h : CHouse) (c now : Int) : Nat := match h.rems c now with
  | [] => 0
  | x :: l => h.minR x l
theorem minR_mem (h : CHouse) : ∀ (l : List Nat) (x : Nat), h.minR x l ∈ x :: l
  | [], x => by simp [CHouse.minR]
  | y :: l, x => by
    have e : h.minR x (y :: l) = h.minR (if h.lessR y x = true then y else x) l := rfl
    rw [e]
    have := minR_mem h l (if h.lessR y x = true then y else x)
    rcases List.mem_cons.1 this with q | q
    · rw [q]; split <;> simp
    · exact List.mem_cons_of_mem _ (List.mem_cons_of_mem _ q)
theorem leastR_mem {h : CHouse} (ho : h.okT = true) (c now : Int) (hn : now ≤ 99) : h.leastR c now ∈ h.rems c now := by
  have hne := rems_ne ho c now hn
  unfold CHouse.leastR
  rcases hr : h.rems c now with - | ⟨x, l⟩
  · exact absurd hr hne
  · exact minR_mem h l x
end Go.Proofs.Ytedfdhpggghjeaa
