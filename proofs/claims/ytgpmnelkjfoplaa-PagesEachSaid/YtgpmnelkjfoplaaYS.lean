/- Pages: all sets of strips, in order; all layouts. -/
import Derived.Test.YtgpmnelkjfoplaaYA
namespace Go.Proofs.Ytgpmnelkjfoplaa
set_option linter.unusedVariables false
set_option linter.unusedSimpArgs false
open Go.RowKit

structure T3 where
  a : Int
  b : Int
  c : Int
theorem T3.ext' {s t : T3} (h1 : s.a = t.a) (h2 : s.b = t.b) (h3 : s.c = t.c) : s = t := by cases s; cases t; simp_all
def rng (a b : Int) : List Int := (List.range (b + 1 - a).toNat).map fun (i : Nat) => a + (i : Int)
theorem rng_nil {a b : Int} (h : b < a) : rng a b = [] := by
  unfold rng; rw [show (b + 1 - a).toNat = 0 by omega]; rfl
theorem rng_cons {a b : Int} (h : a ≤ b) : rng a b = a :: rng (a + 1) b := by
  unfold rng
  rw [show (b + 1 - a).toNat = (b + 1 - (a + 1)).toNat + 1 by omega, List.range_succ_eq_map, List.map_cons, List.map_map]
  congr 1
  · simp
  · refine List.map_congr_left fun i _ => ?_
    simp only [Function.comp_apply, Nat.succ_eq_add_one]; push_cast; omega
theorem mem_rng {a b x : Int} : x ∈ rng a b ↔ a ≤ x ∧ x ≤ b := by
  unfold rng
  rw [List.mem_map]
  constructor
  · rintro ⟨i, hi, rfl⟩
    have := List.mem_range.1 hi
    omega
  · rintro ⟨h1, h2⟩
    exact ⟨(x - a).toNat, List.mem_range.2 (by omega), by omega⟩
/-- All sets of so many strips, the least first. -/
def allS (l : T3) : List T3 := (rng 0 l.a).flatMap fun a => (rng 0 l.b).flatMap fun b => (rng 0 l.c).map fun c => ⟨a, b, c⟩
/-- Those from one on. -/
def fromS (s l : T3) : List T3 := ((rng s.c l.c).map fun c => (⟨s.a, s.b, c⟩ : T3)) ++ ((rng (s.b + 1) l.b).flatMap fun b => (rng 0 l.c).map fun c => (⟨s.a, b, c⟩ : T3)) ++ ((rng (s.a + 1) l.a).flatMap fun a => (rng 0 l.b).flatMap fun b => (rng 0 l.c).map fun c => (⟨a, b, c⟩ : T3))
def nextS (s l : T3) : Option T3 := if s.c < l.c then some ⟨s.a, s.b, s.c + 1⟩ else if s.b < l.b then some ⟨s.a, s.b + 1, 0⟩ else if s.a < l.a then some ⟨s.a + 1, 0, 0⟩ else none
def leS (s l : T3) : Prop := 0 ≤ s.a ∧ s.a ≤ l.a ∧ 0 ≤ s.b ∧ s.b ≤ l.b ∧ 0 ≤ s.c ∧ s.c ≤ l.c
theorem next_le {s l s' : T3} (h : leS s l) (hn : nextS s l = some s') : leS s' l := by
  unfold leS at h ⊢
  unfold nextS at hn
  split at hn
  · injection hn with hn; subst hn; simp only; omega
  · split at hn
    · injection hn with hn; subst hn; simp only; omega
    · split at hn
      · injection hn with hn; subst hn; simp only; omega
      · cases hn
theorem from_zero {l : T3} (ha : 0 ≤ l.a) (hb : 0 ≤ l.b) (hc : 0 ≤ l.c) : fromS ⟨0, 0, 0⟩ l = allS l := by
  unfold fromS allS
  rw [rng_cons ha, List.flatMap_cons, rng_cons hb, List.flatMap_cons]
theorem from_next {s l : T3} (h : leS s l) : fromS s l = s :: (match nextS s l with | some s' => fromS s' l | none => []) := by
  obtain ⟨h1, h2, h3, h4, h5, h6⟩ := h
  unfold nextS
  by_cases hc : s.c < l.c
  · rw [if_pos hc]
    unfold fromS
    rw [rng_cons h6]
    rfl
  · rw [if_neg hc]
    have ec : rng s.c l.c = [s.c] := by rw [rng_cons h6, rng_nil (by omega)]
    by_cases hb : s.b < l.b
    · rw [if_pos hb]
      unfold fromS
      rw [ec, rng_cons (show s.b + 1 ≤ l.b by omega), List.flatMap_cons]
      simp
    · rw [if_neg hb]
      have eb : rng (s.b + 1) l.b = [] := rng_nil (by omega)
      by_cases ha : s.a < l.a
      · rw [if_pos ha]
        unfold fromS
        rw [ec, eb, rng_cons (show s.a + 1 ≤ l.a by omega), List.flatMap_cons, rng_cons (show (0 : Int) ≤ l.b by omega), List.flatMap_cons]
        simp
      · rw [if_neg ha]
        unfold fromS
        rw [ec, eb, rng_nil (show l.a < s.a + 1 by omega)]
        simp
theorem mem_allS {s l : T3} : s ∈ allS l ↔ leS s l := by
  unfold allS leS
  simp only [List.mem_flatMap, List.mem_map, mem_rng]
  constructor
  · rintro ⟨a, ha, b, hb, c, hc, rfl⟩
    exact ⟨ha.1, ha.2, hb.1, hb.2, hc.1, hc.2⟩
  · rintro ⟨h1, h2, h3, h4, h5, h6⟩
    exact ⟨s.a, ⟨h1, h2⟩, s.b, ⟨h3, h4⟩, s.c, ⟨h5, h6⟩, rfl⟩
/-- How much the walk of the odometer has left. -/
theorem from_len {s l s' : T3} (h : leS s l) (hn : nextS s l = some s') : (fromS s l).length = (fromS s' l).length + 1 := by
  rw [from_next h, hn]; rfl
def subS (l s : T3) : T3 := ⟨l.a - s.a, l.b - s.b, l.c - s.c⟩
def PFrame.thick (f : PFrame) (k : Nat) : Int := ((f.strips[k]?).map Strip.t).getD 0
def PFrame.many (f : PFrame) (k : Nat) : Int := ((f.strips[k]?).map Strip.m).getD 0
def PFrame.stock (f : PFrame) : T3 := ⟨f.many 0, f.many 1, f.many 2⟩
/-- How many points a set has. -/
def PFrame.pts (f : PFrame) (s : T3) : Int := s.a * f.thick 0 + s.b * f.thick 1 + s.c * f.thick 2
def inRoom (f : PFrame) (r : Int × Int) (s : T3) : Bool := btw (f.pts s) r.1 r.2
def PFrame.setsOf (f : PFrame) (l : T3) (r : Int × Int) : List T3 := (allS l).filter (inRoom f r)
/-- All layouts behind those columns that are begun. -/
def laysF (f : PFrame) : List (Int × Int) → T3 → List T3 → List (List T3)
  | [], _, begun => [begun]
  | r :: rs, l, begun => (f.setsOf l r).flatMap fun s => laysF f rs (subS l s) (begun ++ [s])
def cntS (s : T3) : Int := s.a + s.b + s.c
def cntL (ls : List T3) : Int := (ls.map cntS).sum
end Go.Proofs.Ytgpmnelkjfoplaa
