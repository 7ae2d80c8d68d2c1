/- Package changes: mathematics of a thing less. -/
import Derived.Test.YtedfdhpggghjeaaDQ
namespace Go.Proofs.Ytedfdhpggghjeaa
set_option linter.unusedVariables false
set_option linter.unusedSimpArgs false
open Go.RowKit

theorem since_part {h h' : CHouse} (ho : h.okT = true) (ho' : h'.okT = true) {c c' : Int} (N : Nat) (hN : N ≤ h.things.length) (hN' : N ≤ h'.things.length) (hth : ∀ (k : Nat) (hk : k < h.things.length) (hk' : k < h'.things.length), k < N → h'.things[k].o = h.things[k].o ∧ h'.things[k].a = h.things[k].a) (hm : ∀ k : Nat, k < N → h'.firstA k c' = h.firstA k c) : ∀ k, k < N → h'.since c' k = h.since c k := by
  intro k
  induction k using Nat.strongRecOn with
  | _ k ih =>
    intro hkN
    have hk : k < h.things.length := by omega
    have hk' : k < h'.things.length := by omega
    obtain ⟨e1, e2⟩ := hth k hk hk' hkN
    have hb := (CHouse.okT_thing ho hk).1
    rw [since_eq ho c hk, since_eq ho' c' hk']
    have hmm : h.made c h.things[k] = h'.made c' h'.things[k] := by
      unfold CHouse.made
      rw [e1, e2]
      by_cases e : h.things[k].o = -1
      · simp [e]
      · rw [ih _ (by omega) (by omega)]
    rw [hmm, e2, hm k hkN]
theorem firstA_same {h h' : CHouse} {t c : Int} (hs : ∀ m : CMark, m.t = t → m.c = c → (m ∈ h.marks ↔ m ∈ h'.marks)) (hb : ∀ m ∈ h.marks, m.a ≤ 100) (hb' : ∀ m ∈ h'.marks, m.a ≤ 100) : h'.firstA t c = h.firstA t c :=
  Int.le_antisymm (firstA_less (fun m hm h1 h2 => ⟨m, (hs m h1 h2).1 hm, h1, h2, Int.le_refl _⟩) hb') (firstA_less (fun m hm h1 h2 => ⟨m, (hs m h1 h2).2 hm, h1, h2, Int.le_refl _⟩) hb)
/-- A house without its last thing, and without its marks. -/
def CHouse.cut (h : CHouse) (n : Nat) : CHouse := ⟨h.things.take n, h.marks.filter fun m => decide (m.t ≠ (n : Int))⟩
theorem cut_get {h : CHouse} {n i : Nat} (hi : i < n) : (h.cut n).things[i]? = h.things[i]? := by
  unfold CHouse.cut
  dsimp only
  rw [List.getElem?_take, if_pos hi]
theorem cut_len {h : CHouse} {n : Nat} (hn : h.things.length = n + 1) : (h.cut n).things.length = n := by
  unfold CHouse.cut
  dsimp only
  rw [List.length_take]
  omega
theorem cut_earl {h : CHouse} {n : Nat} {x : CThing} {i : Nat} (hi : i < n) (h1 : -1 ≤ x.o) (h2 : x.o < (i : Int)) : (h.cut n).earl x = h.earl x := by
  unfold CHouse.earl
  by_cases e : x.o = -1
  · rw [if_pos e, if_pos e]
  · rw [if_neg e, if_neg e, cut_get (by omega)]
theorem cut_ok {h : CHouse} {n : Nat} (ho : h.ok = true) (hn : h.things.length = n + 1) : (h.cut n).ok = true := by
  have hT := CHouse.ok_T ho
  obtain ⟨h8, h6⟩ := CHouse.ok_few ho
  unfold CHouse.ok
  simp only [Bool.and_eq_true, decide_eq_true_eq, List.all_eq_true]
  refine ⟨⟨⟨by rw [cut_len hn]; omega, Nat.le_trans (List.length_filter_le _ _) h6⟩, fun i hi => ?_⟩, fun m hm => ?_⟩
  · rw [List.mem_range, cut_len hn] at hi
    have hk : i < h.things.length := by omega
    obtain ⟨⟨a1, a2⟩, ⟨a3, a4⟩, ⟨a5, a6⟩, a7, a8⟩ := CHouse.okT_thing hT hk
    unfold CHouse.thingB
    rw [cut_get hi, List.getElem?_eq_getElem hk]
    dsimp only
    rw [cut_earl hi a1 a2]
    simp [btw]
    omega
  · obtain ⟨hm1, hm2⟩ := List.mem_filter.1 hm
    have hm2 := of_decide_eq_true hm2
    obtain ⟨b1, b2, b3⟩ := CHouse.ok_mark ho hm1
    have hlt : m.t.toNat < n := by omega
    unfold CHouse.markB
    rw [cut_get hlt, cut_len hn]
    simp only [btw, Bool.and_eq_true, decide_eq_true_eq]
    omega
theorem cut_same {h : CHouse} {n : Nat} (k : Nat) (hk : k < h.things.length) (hk' : k < (h.cut n).things.length) (hkn : k < n) : (h.cut n).things[k] = h.things[k] := by
  have e := cut_get (h := h) hkn
  rw [List.getElem?_eq_getElem hk', List.getElem?_eq_getElem hk] at e
  exact Option.some.inj e
theorem cut_since {h : CHouse} {n : Nat} (ho : h.ok = true) (hn : h.things.length = n + 1) (c : Int) {k : Nat} (hk : k < n) : (h.cut n).since c k = h.since c k := by
  have ho2 := cut_ok ho hn
  refine since_part (CHouse.ok_T ho) (CHouse.ok_T ho2) n (by omega) (by rw [cut_len hn]; exact Nat.le_refl _) (fun i hi hi' hin => by rw [cut_same i hi hi' hin]; exact ⟨rfl, rfl⟩) (fun i hi => ?_) k hk
  refine firstA_same (fun m h1 _ => ?_) (ok_bd ho) (ok_bd ho2)
  show m ∈ h.marks ↔ m ∈ h.marks.filter _
  rw [List.mem_filter]
  exact ⟨fun q => ⟨q, by rw [decide_eq_true_eq]; omega⟩, fun q => q.1⟩
theorem bit_mod (x n k : Nat) (hk : k < n) : bitB (x % 2 ^ n) k = bitB x k := by
  have e : ∀ y, bitB y k = y.testBit k := fun y => by
    unfold bitB
    rw [Nat.testBit_eq_decide_div_mod_eq]
    rw [Bool.eq_iff_iff]
    simp
  rw [e, e, Nat.testBit_mod_two_pow]
  simp [hk]
theorem cut_pick {h : CHouse} {n : Nat} (hn : h.things.length = n + 1) (x : Nat) : (h.cut n).pick (x % 2 ^ n) = numsTo (bitB x) n := by
  unfold CHouse.pick
  rw [cut_len hn]
  exact numsTo_congr fun k hk => bit_mod x n k hk
theorem cut_heals {h : CHouse} {n : Nat} (ho : h.ok = true) (hn : h.things.length = n + 1) (c : Int) {now : Int} (hw : now ≤ 99) {x : Nat} (hx : h.heals c now x = true) : (h.cut n).heals c now (x % 2 ^ n) = true := by
  have ho2 := cut_ok ho hn
  rw [heals_iff] at hx ⊢
  intro y hy
  have hy1 := (numsTo_mem _ _ _).1 hy
  rw [cut_len hn] at hy1
  obtain ⟨y0, y1, y2⟩ := hy1
  have hyn : y.toNat < n := by omega
  have hyp : y ∈ h.plates 99 := by
    refine (numsTo_mem _ _ _).2 ⟨y0, by omega, ?_⟩
    unfold CHouse.printB at y2 ⊢
    rw [cut_get hyn] at y2
    exact y2
  have hs : ((h.cut n).alter c now ((h.cut n).pick (x % 2 ^ n))).since c y.toNat = (h.alter c now (h.pick x)).since c y.toNat := by
    refine since_part (h := h.alter c now (h.pick x)) (h' := (h.cut n).alter c now ((h.cut n).pick (x % 2 ^ n))) (alter_okT (CHouse.ok_T ho) _ _ _) (alter_okT (CHouse.ok_T ho2) _ _ _) n (by show n ≤ h.things.length; omega) (by show n ≤ (h.cut n).things.length; rw [cut_len hn]; exact Nat.le_refl _) (fun i hi hi' hin => ?_) (fun i hi => ?_) y.toNat hyn
    · have e := cut_same (h := h) (n := n) i hi hi' hin
      exact ⟨congrArg CThing.o e, congrArg CThing.a e⟩
    · refine firstA_same (fun m h1 h2 => ?_) (alter_bd (CHouse.ok_T ho) (ok_bd ho) c hw _) (alter_bd (CHouse.ok_T ho2) (ok_bd ho2) c hw _)
      have e1 : ((h.cut n).things[(i : Int).toNat]?).map CThing.a = (h.things[(i : Int).toNat]?).map CThing.a := by rw [cut_get (by omega)]
      constructor
      · intro hm
        rcases alter_firstA h c now _ hm h1 with q | ⟨q, e⟩
        · refine List.mem_append_left _ (List.mem_filter.2 ⟨q, ?_⟩)
          rw [decide_eq_true_eq]; omega
        · refine List.mem_append_right _ (List.mem_map.2 ⟨(i : Int), ?_, ?_⟩)
          · rw [cut_pick hn]
            have := (numsTo_mem _ _ _).1 q
            exact (numsTo_mem _ _ _).2 ⟨this.1, by omega, this.2.2⟩
          · rw [e, e1]
      · intro hm
        rcases alter_firstA (h.cut n) c now _ hm h1 with q | ⟨q, e⟩
        · exact List.mem_append_left _ (List.mem_filter.1 q).1
        · refine List.mem_append_right _ (List.mem_map.2 ⟨(i : Int), ?_, ?_⟩)
          · rw [cut_pick hn] at q
            have := (numsTo_mem _ _ _).1 q
            exact (numsTo_mem _ _ _).2 ⟨this.1, by omega, this.2.2⟩
          · rw [e, e1]
  rw [hs]
  exact hx y hyp
theorem cut_costTo {h : CHouse} {n : Nat} (x : Nat) : ∀ j, j ≤ n → (h.cut n).costTo (x % 2 ^ n) j = h.costTo x j
  | 0, _ => rfl
  | j + 1, hj => by rw [CHouse.costTo, CHouse.costTo, cut_costTo x j (by omega), bit_mod x n j (by omega), cut_get (by omega)]
theorem last_cost {h : CHouse} {n : Nat} (ho : h.ok = true) (hn : h.things.length = n + 1) (c : Int) {now : Int} (hw : now ≤ 99) : (h.cut n).cost ((h.cut n).leastR c now) ≤ h.cost (h.leastR c now) := by
  have hm := leastR_mem (CHouse.ok_T ho) c now hw
  obtain ⟨-, h2⟩ := List.mem_filter.1 hm
  have hr : h.leastR c now % 2 ^ n ∈ (h.cut n).rems c now := by
    refine List.mem_filter.2 ⟨List.mem_range.2 ?_, cut_heals ho hn c hw h2⟩
    rw [cut_len hn]
    exact Nat.mod_lt _ (Nat.pow_pos (by omega))
  refine Int.le_trans (leastR_cost hr) ?_
  unfold CHouse.cost
  rw [cut_len hn, cut_costTo _ n (Nat.le_refl _), hn, CHouse.costTo]
  have hk : n < h.things.length := by omega
  rw [List.getElem?_eq_getElem hk]
  have := (CHouse.okT_thing (CHouse.ok_T ho) hk).2.2.1
  simp only [Option.map_some, Option.getD_some]
  split <;> omega
end Go.Proofs.Ytedfdhpggghjeaa
