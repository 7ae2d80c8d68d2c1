/- Package changes: the mathematics of plates, of what is mixed, of remedies. -/
import Derived.Test.YtedfdhpggghjeaaCA
namespace Go.Proofs.Ytedfdhpggghjeaa
set_option linter.unusedVariables false
set_option linter.unusedSimpArgs false
open Go.RowKit

def CHouse.hasB (h : CHouse) (c : Int) (k : Nat) (m : Int) : Bool := decide (h.since c k ≤ m)
def CHouse.printB (h : CHouse) (m : Int) (k : Nat) : Bool := match h.things[k]? with
  | none => false
  | some x => decide (x.p = 1) && decide (x.a ≤ m)
/-- The numbers below k that are so. -/
def numsTo (p : Nat → Bool) (k : Nat) : List Int := ((List.range k).filter p).map fun (i : Nat) => (i : Int)
theorem numsTo_next (p : Nat → Bool) (k : Nat) : numsTo p (k + 1) = if p k = true then numsTo p k ++ [(k : Int)] else numsTo p k := by
  unfold numsTo
  rw [List.range_succ, List.filter_append, List.map_append]
  cases h : p k <;> simp [h]
theorem numsTo_len (p : Nat → Bool) : ∀ k : Nat, (numsTo p k).length ≤ k
  | 0 => by simp [numsTo]
  | k + 1 => by
    have := numsTo_len p k
    rw [numsTo_next]; split
    · rw [List.length_append, List.length_singleton]; omega
    · omega
theorem numsTo_mem (p : Nat → Bool) (k : Nat) (y : Int) : y ∈ numsTo p k ↔ 0 ≤ y ∧ y < (k : Int) ∧ p y.toNat = true := by
  unfold numsTo
  simp only [List.mem_map, List.mem_filter, List.mem_range]
  constructor
  · rintro ⟨i, ⟨h1, h2⟩, rfl⟩; exact ⟨by omega, by omega, by simpa using h2⟩
  · rintro ⟨h1, h2, h3⟩; exact ⟨y.toNat, ⟨by omega, h3⟩, by omega⟩
theorem numsTo_rise (p : Nat → Bool) : ∀ k : Nat, (numsTo p k).Pairwise fun a b => a < b
  | 0 => by simp [numsTo]
  | k + 1 => by
    rw [numsTo_next]; split
    · rw [List.pairwise_append]
      refine ⟨numsTo_rise p k, by simp, fun a ha b hb => ?_⟩
      have := (numsTo_mem p k a).1 ha
      simp at hb
      omega
    · exact numsTo_rise p k
def CHouse.plates (h : CHouse) (m : Int) : List Int := numsTo (h.printB m) h.things.length
def CHouse.having (h : CHouse) (c : Int) : List Int := numsTo (fun k => h.hasB c k 99) h.things.length
def CHouse.lacks (h : CHouse) (c : Int) : List Int := (h.plates 99).filter fun y => !h.hasB c y.toNat 99
/-- How many of some plates have a change at a minute. -/
def CHouse.haveN (h : CHouse) (c m : Int) (l : List Int) : Nat := l.countP fun y => h.hasB c y.toNat m
def CHouse.mixB (h : CHouse) (l : List Int) (c m : Int) : Bool := btw (h.haveN c m l) 1 ((l.length : Int) - 1)
def CHouse.mixed (h : CHouse) (l : List Int) (m : Int) : List Int := numsTo (fun c => h.mixB l c m) 3
/-- The span of the minutes below k at which something is so. -/
def spanTo (p : Nat → Bool) : Nat → Option (Int × Int)
  | 0 => none
  | k + 1 => if p k = true then (match spanTo p k with | none => some ((k : Int), (k : Int)) | some s => some (s.1, (k : Int))) else spanTo p k
def CHouse.time (h : CHouse) (c : Int) : Option (Int × Int) := spanTo (fun m => h.mixB (h.plates m) c m) 100
/-- Things that are altered. -/
def CHouse.alter (h : CHouse) (c now : Int) (l : List Int) : CHouse := { h with marks := h.marks ++ l.map fun y => ⟨c, y, max now (((h.things[y.toNat]?).map CThing.a).getD 0)⟩ }
theorem alter_okT {h : CHouse} (ho : h.okT = true) (c now : Int) (l : List Int) : (h.alter c now l).okT = true := ho
/-- Which things a choice has. -/
def bitB (x k : Nat) : Bool := x / 2 ^ k % 2 == 1
def CHouse.pick (h : CHouse) (x : Nat) : List Int := numsTo (bitB x) h.things.length
def CHouse.costTo (h : CHouse) (x : Nat) : Nat → Int
  | 0 => 0
  | k + 1 => h.costTo x k + (if bitB x k = true then ((h.things[k]?).map CThing.c).getD 0 else 0)
def CHouse.cost (h : CHouse) (x : Nat) : Int := h.costTo x h.things.length
def CHouse.heals (h : CHouse) (c now : Int) (x : Nat) : Bool := ((h.alter c now (h.pick x)).lacks c).isEmpty
theorem costTo_bd {h : CHouse} (ho : h.okT = true) (x : Nat) : ∀ k : Nat, 0 ≤ h.costTo x k ∧ h.costTo x k ≤ 99 * (k : Int)
  | 0 => by simp [CHouse.costTo]
  | k + 1 => by
    have ih := costTo_bd ho x k
    rw [CHouse.costTo]
    have hb : 0 ≤ ((h.things[k]?).map CThing.c).getD 0 ∧ ((h.things[k]?).map CThing.c).getD 0 ≤ 99 := by
      by_cases hk : k < h.things.length
      · rw [List.getElem?_eq_getElem hk]
        exact (CHouse.okT_thing ho hk).2.2.1
      · rw [List.getElem?_eq_none (by omega)]; simp
    push_cast
    split <;> omega
end Go.Proofs.Ytedfdhpggghjeaa
