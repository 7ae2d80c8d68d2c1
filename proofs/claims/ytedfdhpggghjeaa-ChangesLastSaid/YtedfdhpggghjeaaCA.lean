/- Package changes: what a house's slices read; whether a house is valid; since when a thing has a change. -/
import Derived.Test.YtedfdhpggghjeaaYA
namespace Go.Proofs.Ytedfdhpggghjeaa
set_option linter.unusedVariables false
set_option linter.unusedSimpArgs false
open Go.RowKit

structure CThing where
  o : Int
  a : Int
  c : Int
  p : Int
structure CMark where
  c : Int
  t : Int
  a : Int
structure CHouse where
  things : List CThing
  marks : List CMark
def ThingsAt (w : World) (a : Option Addr) (len : Nat) (ps : List CThing) : Prop :=
  ps.length = len ∧ len ≤ maxLen ∧ (0 < len → ∃ b o, a = some ⟨b, o, none⟩ ∧ b < w.heap.size ∧ ∀ i (h : i < ps.length), w.cell? ⟨b, o + i * 4, none⟩ = some (.int .i64 ps[i].o) ∧ w.cell? ⟨b, o + i * 4 + 1, none⟩ = some (.int .i64 ps[i].a) ∧ w.cell? ⟨b, o + i * 4 + 2, none⟩ = some (.int .i64 ps[i].c) ∧ w.cell? ⟨b, o + i * 4 + 3, none⟩ = some (.int .i64 ps[i].p))
def MarksAt (w : World) (a : Option Addr) (len : Nat) (ps : List CMark) : Prop :=
  ps.length = len ∧ len ≤ maxLen ∧ (0 < len → ∃ b o, a = some ⟨b, o, none⟩ ∧ b < w.heap.size ∧ ∀ i (h : i < ps.length), w.cell? ⟨b, o + i * 3, none⟩ = some (.int .i64 ps[i].c) ∧ w.cell? ⟨b, o + i * 3 + 1, none⟩ = some (.int .i64 ps[i].t) ∧ w.cell? ⟨b, o + i * 3 + 2, none⟩ = some (.int .i64 ps[i].a))
theorem ThingsAt.below {w w1 : World} {a : Option Addr} {len : Nat} {ps : List CThing} (hb : Below w.heap.size w w1) (h : ThingsAt w a len ps) : ThingsAt w1 a len ps := by
  obtain ⟨h1, h2, h3⟩ := h
  refine ⟨h1, h2, fun hl => ?_⟩
  obtain ⟨b, o, ha, hB, hc⟩ := h3 hl
  exact ⟨b, o, ha, Nat.lt_of_lt_of_le hB hb.size, fun i hi => ⟨(hb.cell (p := ⟨b, _, none⟩) hB).trans (hc i hi).1, (hb.cell (p := ⟨b, _, none⟩) hB).trans (hc i hi).2.1, (hb.cell (p := ⟨b, _, none⟩) hB).trans (hc i hi).2.2.1, (hb.cell (p := ⟨b, _, none⟩) hB).trans (hc i hi).2.2.2⟩⟩
theorem MarksAt.below {w w1 : World} {a : Option Addr} {len : Nat} {ps : List CMark} (hb : Below w.heap.size w w1) (h : MarksAt w a len ps) : MarksAt w1 a len ps := by
  obtain ⟨h1, h2, h3⟩ := h
  refine ⟨h1, h2, fun hl => ?_⟩
  obtain ⟨b, o, ha, hB, hc⟩ := h3 hl
  exact ⟨b, o, ha, Nat.lt_of_lt_of_le hB hb.size, fun i hi => ⟨(hb.cell (p := ⟨b, _, none⟩) hB).trans (hc i hi).1, (hb.cell (p := ⟨b, _, none⟩) hB).trans (hc i hi).2.1, (hb.cell (p := ⟨b, _, none⟩) hB).trans (hc i hi).2.2⟩⟩
/-- What a house's two slices read. -/
def HAt (w : World) (ta : Option Addr) (tl tc : Nat) (ma : Option Addr) (ml mc : Nat) (h : CHouse) : Prop := ThingsAt w ta tl h.things ∧ MarksAt w ma ml h.marks ∧ ml ≤ mc ∧ mc ≤ maxLen
theorem HAt.below {w w1 : World} {ta : Option Addr} {tl tc : Nat} {ma : Option Addr} {ml mc : Nat} {h : CHouse} (hb : Below w.heap.size w w1) (hp : HAt w ta tl tc ma ml mc h) : HAt w1 ta tl tc ma ml mc h :=
  ⟨hp.1.below hb, hp.2.1.below hb, hp.2.2⟩

/-- When what a thing is made of was made. -/
def CHouse.earl (h : CHouse) (x : CThing) : Int := if x.o = -1 then 0 else ((h.things[x.o.toNat]?).map CThing.a).getD 0
def CHouse.thingB (h : CHouse) (i : Nat) : Bool := match h.things[i]? with
  | none => false
  | some x => btw x.o (-1) ((i : Int) - 1) && btw x.a (h.earl x) 99 && btw x.c 0 99 && btw x.p 0 1
def CHouse.markB (h : CHouse) (m : CMark) : Bool := btw m.c 0 2 && btw m.t 0 ((h.things.length : Int) - 1) && btw m.a (((h.things[m.t.toNat]?).map CThing.a).getD 0) 99
/-- A house whose things stand; it may have more marks. -/
def CHouse.okT (h : CHouse) : Bool := decide (h.things.length ≤ 8) && (List.range h.things.length).all h.thingB
def CHouse.ok (h : CHouse) : Bool := decide (h.things.length ≤ 8) && decide (h.marks.length ≤ 6) && (List.range h.things.length).all h.thingB && h.marks.all h.markB
theorem CHouse.ok_T {h : CHouse} (ho : h.ok = true) : h.okT = true := by
  unfold CHouse.ok at ho
  unfold CHouse.okT
  simp only [Bool.and_eq_true] at ho ⊢
  exact ⟨ho.1.1.1, ho.1.2⟩
theorem CHouse.ok_few {h : CHouse} (ho : h.ok = true) : h.things.length ≤ 8 ∧ h.marks.length ≤ 6 := by
  unfold CHouse.ok at ho
  simp only [Bool.and_eq_true, decide_eq_true_eq] at ho
  exact ⟨ho.1.1.1, ho.1.1.2⟩
theorem CHouse.okT_few {h : CHouse} (ho : h.okT = true) : h.things.length ≤ 8 := by
  unfold CHouse.okT at ho
  simp only [Bool.and_eq_true, decide_eq_true_eq] at ho
  exact ho.1
theorem CHouse.okT_thing {h : CHouse} (ho : h.okT = true) {k : Nat} (hk : k < h.things.length) : (-1 ≤ h.things[k].o ∧ h.things[k].o < (k : Int)) ∧ (h.earl h.things[k] ≤ h.things[k].a ∧ h.things[k].a ≤ 99) ∧ (0 ≤ h.things[k].c ∧ h.things[k].c ≤ 99) ∧ (0 ≤ h.things[k].p ∧ h.things[k].p ≤ 1) := by
  unfold CHouse.okT at ho
  simp only [Bool.and_eq_true, List.all_eq_true] at ho
  have := ho.2 k (List.mem_range.2 hk)
  unfold CHouse.thingB btw at this
  rw [List.getElem?_eq_getElem hk] at this
  simp only [Bool.and_eq_true, decide_eq_true_eq] at this
  omega
theorem CHouse.ok_mark {h : CHouse} (ho : h.ok = true) {m : CMark} (hm : m ∈ h.marks) : (0 ≤ m.c ∧ m.c ≤ 2) ∧ (0 ≤ m.t ∧ m.t < (h.things.length : Int)) ∧ (((h.things[m.t.toNat]?).map CThing.a).getD 0 ≤ m.a ∧ m.a ≤ 99) := by
  unfold CHouse.ok at ho
  simp only [Bool.and_eq_true, List.all_eq_true] at ho
  have := ho.2 m hm
  unfold CHouse.markB btw at this
  simp only [Bool.and_eq_true, decide_eq_true_eq] at this
  omega
theorem CHouse.at_pos {h : CHouse} (ho : h.okT = true) : ∀ (k : Nat) (hk : k < h.things.length), 0 ≤ h.things[k].a := by
  intro k
  induction k using Nat.strongRecOn with
  | _ k ih =>
    intro hk
    obtain ⟨⟨h1, h2⟩, ⟨h3, h4⟩, -⟩ := CHouse.okT_thing ho hk
    unfold CHouse.earl at h3
    by_cases e : h.things[k].o = -1
    · rw [if_pos e] at h3; exact h3
    · rw [if_neg e] at h3
      have hl : h.things[k].o.toNat < k := by omega
      rw [List.getElem?_eq_getElem (show h.things[k].o.toNat < h.things.length by omega)] at h3
      simp only [Option.map_some, Option.getD_some] at h3
      have := ih _ hl (by omega)
      omega

/-- Whether a mark is earlier than one that was found. -/
def CHouse.better (h : CHouse) (o : Option Nat) (m : CMark) : Bool := match o with
  | none => true
  | some b => decide (m.a < ((h.marks[b]?).map CMark.a).getD 0)
/-- The first of the earliest marks of a change in a thing, of the first k marks. -/
def CHouse.firstTo (h : CHouse) (t c : Int) : Nat → Option Nat
  | 0 => none
  | k + 1 => match h.marks[k]? with
    | none => h.firstTo t c k
    | some m => if m.t = t ∧ m.c = c ∧ h.better (h.firstTo t c k) m = true then some k else h.firstTo t c k
def CHouse.first (h : CHouse) (t c : Int) : Option Nat := h.firstTo t c h.marks.length
def CHouse.firstA (h : CHouse) (t c : Int) : Int := match h.first t c with
  | none => 100
  | some i => ((h.marks[i]?).map CMark.a).getD 0
def CHouse.sinceF (h : CHouse) (c : Int) : Nat → Nat → Int
  | 0, _ => 100
  | n + 1, k => match h.things[k]? with
    | none => 100
    | some x => if x.o ≠ -1 ∧ h.sinceF c n x.o.toNat ≤ x.a then x.a else h.firstA k c
/-- Since when a thing has a change; 100: never. -/
def CHouse.since (h : CHouse) (c : Int) (k : Nat) : Int := h.sinceF c (k + 1) k
theorem sinceF_fuel {h : CHouse} (ho : h.okT = true) (c : Int) : ∀ (n k : Nat), k < n → h.sinceF c n k = h.since c k := by
  intro n
  induction n using Nat.strongRecOn with
  | _ n ih =>
    intro k hk
    unfold CHouse.since
    match n, hk, ih with
    | n + 1, hk, ih =>
      rw [CHouse.sinceF, CHouse.sinceF]
      by_cases hkl : k < h.things.length
      · rw [List.getElem?_eq_getElem hkl]
        have hb := (CHouse.okT_thing ho hkl).1
        by_cases e : h.things[k].o = -1
        · simp [e]
        · have h1 : h.sinceF c n h.things[k].o.toNat = h.since c h.things[k].o.toNat := ih n (by omega) _ (by omega)
          have h2 : h.sinceF c k h.things[k].o.toNat = h.since c h.things[k].o.toNat := by
            rcases Nat.lt_or_ge k (n + 1) with q | q
            · exact ih k q _ (by omega)
            · omega
          simp only [h1, h2]
      · rw [List.getElem?_eq_none (by omega)]
/-- What a thing has of that of which it is made. -/
def CHouse.made (h : CHouse) (c : Int) (x : CThing) : Bool := decide (x.o ≠ -1) && decide (h.since c x.o.toNat ≤ x.a)
theorem since_eq {h : CHouse} (ho : h.okT = true) (c : Int) {k : Nat} (hk : k < h.things.length) : h.since c k = if h.made c h.things[k] = true then h.things[k].a else h.firstA k c := by
  conv => lhs; unfold CHouse.since
  rw [CHouse.sinceF, List.getElem?_eq_getElem hk]
  have hb := (CHouse.okT_thing ho hk).1
  unfold CHouse.made
  by_cases e : h.things[k].o = -1
  · simp [e]
  · have h1 : h.sinceF c k h.things[k].o.toNat = h.since c h.things[k].o.toNat := sinceF_fuel ho c k _ (by omega)
    simp only [h1, ne_eq, e, not_false_eq_true, true_and, decide_true, Bool.true_and, decide_eq_true_eq]
theorem firstTo_lt (h : CHouse) (t c : Int) : ∀ (k i : Nat), h.firstTo t c k = some i → i < k ∧ ∃ (hi : i < h.marks.length), h.marks[i].t = t ∧ h.marks[i].c = c
  | 0, i, e => by rw [CHouse.firstTo] at e; cases e
  | k + 1, i, e => by
    rw [CHouse.firstTo] at e
    by_cases hk : k < h.marks.length
    · rw [List.getElem?_eq_getElem hk] at e
      simp only at e
      split at e
      · rename_i hc
        injection e with e
        subst e
        exact ⟨by omega, hk, hc.1, hc.2.1⟩
      · have := firstTo_lt h t c k i e
        exact ⟨by omega, this.2⟩
    · rw [List.getElem?_eq_none (by omega)] at e
      have := firstTo_lt h t c k i e
      exact ⟨by omega, this.2⟩
end Go.Proofs.Ytedfdhpggghjeaa
