/- YS YK, joined. -/
import Derived.Test.YtcklhojeneejiaaYA
import Derived.Test.YtcklhojeneejiaaYE
/- Pages: all sets of strips, in order; all layouts. -/
namespace Go.Proofs.Ytcklhojeneejiaa
set_option linter.unusedVariables false
set_option linter.unusedSimpArgs false
open Go.RowKit

structure T3 where
  a : Int
  b : Int
  c : Int
theorem T3.ext' {s t : T3} (h1 : s.a = t.a) (h2 : s.b = t.b) (h3 : s.c = t.c) : s = t := by cases s; cases t; simp_all
def rng (a b : Int) : List Int := (List.range (b + 1 - a).toNat).map fun (i : Nat) => a + (i : Int)
theorem rng_nil {a b : Int} (h : b < a) : rng a b = [] := by
  unfold rng; rw [show (b + 1 - a).toNat = 0 by omega]; rfl
theorem rng_cons {a b : Int} (h : a ≤ b) : rng a b = a :: rng (a + 1) b := by
  unfold rng
  rw [show (b + 1 - a).toNat = (b + 1 - (a + 1)).toNat + 1 by omega, List.range_succ_eq_map, List.map_cons, List.map_map]
  congr 1
  · simp
  · refine List.map_congr_left fun i _ => ?_
    simp only [Function.comp_apply, Nat.succ_eq_add_one]; push_cast; omega
theorem mem_rng {a b x : Int} : x ∈ rng a b ↔ a ≤ x ∧ x ≤ b := by
  unfold rng
  rw [List.mem_map]
  constructor
  · rintro ⟨i, hi, rfl⟩
    have := List.mem_range.1 hi
    omega
  · rintro ⟨h1, h2⟩
    exact ⟨(x - a).toNat, List.mem_range.2 (by omega), by omega⟩
/-- All sets of so many strips, the least first. -/
def allS (l : T3) : List T3 := (rng 0 l.a).flatMap fun a => (rng 0 l.b).flatMap fun b => (rng 0 l.c).map fun c => ⟨a, b, c⟩
/-- Those from one on. -/
def fromS (s l : T3) : List T3 := ((rng s.c l.c).map fun c => (⟨s.a, s.b, c⟩ : T3)) ++ ((rng (s.b + 1) l.b).flatMap fun b => (rng 0 l.c).map fun c => (⟨s.a, b, c⟩ : T3)) ++ ((rng (s.a + 1) l.a).flatMap fun a => (rng 0 l.b).flatMap fun b => (rng 0 l.c).map fun c => (⟨a, b, c⟩ : T3))
def nextS (s l : T3) : Option T3 := if s.c < l.c then some ⟨s.a, s.b, s.c + 1⟩ else if s.b < l.b then some ⟨s.a, s.b + 1, 0⟩ else if s.a < l.a then some ⟨s.a + 1, 0, 0⟩ else none
def leS (s l : T3) : Prop := 0 ≤ s.a ∧ s.a ≤ l.a ∧ 0 ≤ s.b ∧ s.b ≤ l.b ∧ 0 ≤ s.c ∧ s.c ≤ l.c
theorem next_le {s l s' : T3} (h : leS s l) (hn : nextS s l = some s') : leS s' l := by
  unfold leS at h ⊢
  unfold nextS at hn
  split at hn
  · injection hn with hn; subst hn; simp only; omega
  · split at hn
    · injection hn with hn; subst hn; simp only; omega
    · split at hn
      · injection hn with hn; subst hn; simp only; omega
      · cases hn
theorem from_zero {l : T3} (ha : 0 ≤ l.a) (hb : 0 ≤ l.b) (hc : 0 ≤ l.c) : fromS ⟨0, 0, 0⟩ l = allS l := by
  unfold fromS allS
  rw [rng_cons ha, List.flatMap_cons, rng_cons hb, List.flatMap_cons]
theorem from_next {s l : T3} (h : leS s l) : fromS s l = s :: (match nextS s l with | some s' => fromS s' l | none => []) := by
  obtain ⟨h1, h2, h3, h4, h5, h6⟩ := h
  unfold nextS
  by_cases hc : s.c < l.c
  · rw [if_pos hc]
    unfold fromS
    rw [rng_cons h6]
    rfl
  · rw [if_neg hc]
    have ec : rng s.c l.c = [s.c] := by rw [rng_cons h6, rng_nil (by omega)]
    by_cases hb : s.b < l.b
    · rw [if_pos hb]
      unfold fromS
      rw [ec, rng_cons (show s.b + 1 ≤ l.b by omega), List.flatMap_cons]
      simp
    · rw [if_neg hb]
      have eb : rng (s.b + 1) l.b = [] := rng_nil (by omega)
      by_cases ha : s.a < l.a
      · rw [if_pos ha]
        unfold fromS
        rw [ec, eb, rng_cons (show s.a + 1 ≤ l.a by omega), List.flatMap_cons, rng_cons (show (0 : Int) ≤ l.b by omega), List.flatMap_cons]
        simp
      · rw [if_neg ha]
        unfold fromS
        rw [ec, eb, rng_nil (show l.a < s.a + 1 by omega)]
        simp
theorem mem_allS {s l : T3} : s ∈ allS l ↔ leS s l := by
  unfold allS leS
  simp only [List.mem_flatMap, List.mem_map, mem_rng]
  constructor
  · rintro ⟨a, ha, b, hb, c, hc, rfl⟩
    exact ⟨ha.1, ha.2, hb.1, hb.2, hc.1, hc.2⟩
  · rintro ⟨h1, h2, h3, h4, h5, h6⟩
    exact ⟨s.a, ⟨h1, h2⟩, s.b, ⟨h3, h4⟩, s.c, ⟨h5, h6⟩, rfl⟩
/-- How much the walk of the odometer has left. -/
theorem from_len {s l s' : T3} (h : leS s l) (hn : nextS s l = some s') : (fromS s l).length = (fromS s' l).length + 1 := by
  rw [from_next h, hn]; rfl
def subS (l s : T3) : T3 := ⟨l.a - s.a, l.b - s.b, l.c - s.c⟩
def PFrame.thick (f : PFrame) (k : Nat) : Int := ((f.strips[k]?).map Strip.t).getD 0
def PFrame.many (f : PFrame) (k : Nat) : Int := ((f.strips[k]?).map Strip.m).getD 0
def PFrame.stock (f : PFrame) : T3 := ⟨f.many 0, f.many 1, f.many 2⟩
/-- How many points a set has. -/
def PFrame.pts (f : PFrame) (s : T3) : Int := s.a * f.thick 0 + s.b * f.thick 1 + s.c * f.thick 2
def inRoom (f : PFrame) (r : Int × Int) (s : T3) : Bool := btw (f.pts s) r.1 r.2
def PFrame.setsOf (f : PFrame) (l : T3) (r : Int × Int) : List T3 := (allS l).filter (inRoom f r)
/-- All layouts behind those columns that are begun. -/
def laysF (f : PFrame) : List (Int × Int) → T3 → List T3 → List (List T3)
  | [], _, begun => [begun]
  | r :: rs, l, begun => (f.setsOf l r).flatMap fun s => laysF f rs (subS l s) (begun ++ [s])
def cntS (s : T3) : Int := s.a + s.b + s.c
def cntL (ls : List T3) : Int := (ls.map cntS).sum
end Go.Proofs.Ytcklhojeneejiaa

/- Package pages: next. -/
namespace Go.Proofs.Ytcklhojeneejiaa
set_option linter.unusedVariables false
set_option linter.unusedSimpArgs false
open Go.RowKit

def T3At (w : World) (g : Nat) (t : T3) : Prop := (w.cell? ⟨g, 0, none⟩ = some (.int .i64 t.a) ∧ w.cell? ⟨g, 1, none⟩ = some (.int .i64 t.b) ∧ w.cell? ⟨g, 2, none⟩ = some (.int .i64 t.c)) ∧ ∀ i, w.frozen? ⟨g, i, none⟩ = false
theorem T3At.lt {w : World} {g : Nat} {t : T3} (h : T3At w g t) : g < w.heap.size := World.block_lt_of_cell? _ _ h.1.1
theorem T3At.below {w w' : World} {g : Nat} {t : T3} (h : T3At w g t) (hb : Below w.heap.size w w') : T3At w' g t :=
  ⟨⟨(hb.cell (p := ⟨g, 0, none⟩) h.lt).trans h.1.1, (hb.cell (p := ⟨g, 1, none⟩) h.lt).trans h.1.2.1, (hb.cell (p := ⟨g, 2, none⟩) h.lt).trans h.1.2.2⟩, fun i => (hb.frozen (p := ⟨g, i, none⟩) h.lt).trans (h.2 i)⟩
theorem set_cell {w : World} {g i : Nat} {u v : Value} (h : w.cell? ⟨g, i, none⟩ = some u) : (w.setCell ⟨g, i, none⟩ v).cell? ⟨g, i, none⟩ = some v := World.cell?_setCell_same' w _ v (by rw [h]; rfl)
theorem set_cell' {w : World} {g i j : Nat} {v : Value} (h : i ≠ j) : (w.setCell ⟨g, i, none⟩ v).cell? ⟨g, j, none⟩ = w.cell? ⟨g, j, none⟩ := by
  rw [World.cell?_setCell_other]; intro e; injection e with _ e; exact h e
theorem set_frz {w : World} {g i j : Nat} {v : Value} (h : w.frozen? ⟨g, j, none⟩ = false) : (w.setCell ⟨g, i, none⟩ v).frozen? ⟨g, j, none⟩ = false := by go_simp
theorem T3At.set0 {w : World} {g : Nat} {t : T3} (h : T3At w g t) (v : Int) : T3At (w.setCell ⟨g, 0, none⟩ (.int .i64 v)) g ⟨v, t.b, t.c⟩ :=
  ⟨⟨set_cell h.1.1, (set_cell' (by decide)).trans h.1.2.1, (set_cell' (by decide)).trans h.1.2.2⟩, fun i => set_frz (h.2 i)⟩
theorem T3At.set1 {w : World} {g : Nat} {t : T3} (h : T3At w g t) (v : Int) : T3At (w.setCell ⟨g, 1, none⟩ (.int .i64 v)) g ⟨t.a, v, t.c⟩ :=
  ⟨⟨(set_cell' (by decide)).trans h.1.1, set_cell h.1.2.1, (set_cell' (by decide)).trans h.1.2.2⟩, fun i => set_frz (h.2 i)⟩
theorem T3At.set2 {w : World} {g : Nat} {t : T3} (h : T3At w g t) (v : Int) : T3At (w.setCell ⟨g, 2, none⟩ (.int .i64 v)) g ⟨t.a, t.b, v⟩ :=
  ⟨⟨(set_cell' (by decide)).trans h.1.1, (set_cell' (by decide)).trans h.1.2.1, set_cell h.1.2.2⟩, fun i => set_frz (h.2 i)⟩
/-- How far the odometer has come down. -/
def NextI (s l : T3) (g : Nat) (W0 wr : World) (i : Value) : Prop := ∃ t : T3, T3At wr g t ∧ W0.grownBy wr (some g) ∧
  ((i = .int .i64 2 ∧ t = s) ∨ (i = .int .i64 1 ∧ ¬ s.c < l.c ∧ t = ⟨s.a, s.b, 0⟩) ∨ (i = .int .i64 0 ∧ ¬ s.c < l.c ∧ ¬ s.b < l.b ∧ t = ⟨s.a, 0, 0⟩) ∨ (i = .int .i64 (-1) ∧ ¬ s.c < l.c ∧ ¬ s.b < l.b ∧ ¬ s.a < l.a ∧ t = ⟨0, 0, 0⟩))
def NextPost (s l : T3) (g : Nat) (w : World) (e : Ending) (w' : World) : Prop := e = .returned (.bool (nextS s l).isSome) ∧ T3At w' g ((nextS s l).getD ⟨0, 0, 0⟩) ∧ w.grownBy w' (some g)

set_option maxRecDepth 100000 in
set_option maxHeartbeats 4000000 in
theorem next_any (g : Nat) (s l : T3) (w : World) (hg : T3At w g s) (hs : leS s l) (hl : l.a ≤ 4 ∧ l.b ≤ 4 ∧ l.c ≤ 4) :
    Calls Try.prog 130 #[.pointer (some ⟨g, 0, none⟩), .agg #[.int .i64 l.a, .int .i64 l.b, .int .i64 l.c]] w fun e w' => NextPost s l g w e w' := by
  obtain ⟨h1, h2, h3, h4, h5, h6⟩ := hs
  obtain ⟨h7, h8, h9⟩ := hl
  have hgl := hg.lt
  have HG := Lib.hid hg
  clear hg
  go_enter Try.func130, Try.ntmps130
  go_wp2_with fail
  obtain ⟨W0, hW0, hB0, hs0, hz0⟩ := name1k w #[.int .i64 l.a, .int .i64 l.b, .int .i64 l.c] 99
  rw [hW0]
  clear hW0
  have HB0 := Lib.hid hB0
  have HS0 := Lib.hid hs0
  have HG0 := Lib.hid (HG.out.below hB0)
  clear hB0 hs0
  go_loopw [5] (fun i wr => NextI s l g W0 wr i) (fun i _ => (intOf i + 1).toNat)
  case atStart => exact ⟨s, HG0.out, gbx_refl _ _, .inl ⟨rfl, rfl⟩⟩
  case round =>
    obtain ⟨t, ht, hgr, hcase⟩ := hrel
    have hne : some w.heap.size ≠ some g := fun e => by injection e with e; omega
    have HT := Lib.hid ht
    have HGR := Lib.hid hgr
    obtain ⟨b0, b1, b2⟩ : wr.cell? ⟨w.heap.size, 0, none⟩ = some (.int .i64 l.a) ∧ wr.cell? ⟨w.heap.size, 1, none⟩ = some (.int .i64 l.b) ∧ wr.cell? ⟨w.heap.size, 2, none⟩ = some (.int .i64 l.c) := ⟨hgr.cell (a := ⟨w.heap.size, 0, none⟩) (HS0.out 0) hne, hgr.cell (a := ⟨w.heap.size, 1, none⟩) (HS0.out 1) hne, hgr.cell (a := ⟨w.heap.size, 2, none⟩) (HS0.out 2) hne⟩
    obtain ⟨⟨t0, t1, t2⟩, tf⟩ := ht
    have f0 := tf 0
    have f1 := tf 1
    have f2 := tf 2
    have HWG := Lib.hid ((grow_gb HB0.out (some g)).trans hgr)
    clear hgr tf hne
    rcases hcase with ⟨rfl, rfl⟩ | ⟨rfl, c1, rfl⟩ | ⟨rfl, c1, c2, rfl⟩ | ⟨rfl, c1, c2, c3, rfl⟩
    · by_cases hc : t.c < l.c
      · have HN := Lib.hid (show nextS t l = some ⟨t.a, t.b, t.c + 1⟩ by unfold nextS; rw [if_pos hc])
        go_wp2_with fail
        go_region
        go_wp2_with fail
        go_region
        go_wp2_with fail
        go_ret
        unfold NextPost
        rw [HN.out]
        exact ⟨rfl, HT.out.set2 _, (by repeat (first | exact gbx_set HWG.out _ _ | refine gbx_drew ?_))⟩
      · go_wp2_with fail
        go_region
        go_wp2_with fail
        go_roundw
        case rel => exact ⟨_, HT.out.set2 _, (by repeat (first | exact gbx_set HGR.out _ _ | refine gbx_drew ?_)), .inr (.inl ⟨rfl, by omega, rfl⟩)⟩
        case measure => simp [intOf]
    · simp only at t0 t1 t2
      by_cases hc : s.b < l.b
      · have HN := Lib.hid (show nextS s l = some ⟨s.a, s.b + 1, 0⟩ by unfold nextS; rw [if_neg c1, if_pos hc])
        go_wp2_with fail
        go_region
        go_wp2_with fail
        go_region
        go_wp2_with fail
        go_ret
        unfold NextPost
        rw [HN.out]
        exact ⟨rfl, HT.out.set1 _, (by repeat (first | exact gbx_set HWG.out _ _ | refine gbx_drew ?_))⟩
      · go_wp2_with fail
        go_region
        go_wp2_with fail
        go_roundw
        case rel => exact ⟨_, HT.out.set1 _, (by repeat (first | exact gbx_set HGR.out _ _ | refine gbx_drew ?_)), .inr (.inr (.inl ⟨rfl, by omega, by omega, rfl⟩))⟩
        case measure => simp [intOf]
    · simp only at t0 t1 t2
      by_cases hc : s.a < l.a
      · have HN := Lib.hid (show nextS s l = some ⟨s.a + 1, 0, 0⟩ by unfold nextS; rw [if_neg c1, if_neg c2, if_pos hc])
        go_wp2_with fail
        go_region
        go_wp2_with fail
        go_region
        go_wp2_with fail
        go_ret
        unfold NextPost
        rw [HN.out]
        exact ⟨rfl, HT.out.set0 _, (by repeat (first | exact gbx_set HWG.out _ _ | refine gbx_drew ?_))⟩
      · go_wp2_with fail
        go_region
        go_wp2_with fail
        go_roundw
        case rel => exact ⟨_, HT.out.set0 _, (by repeat (first | exact gbx_set HGR.out _ _ | refine gbx_drew ?_)), .inr (.inr (.inr ⟨rfl, by omega, by omega, by omega, rfl⟩))⟩
        case measure => simp [intOf]
    · have HN := Lib.hid (show nextS s l = none by unfold nextS; rw [if_neg c1, if_neg c2, if_neg c3])
      go_wp2_with fail
      go_ret
      unfold NextPost
      rw [HN.out]
      exact ⟨rfl, HT.out, HWG.out⟩
end Go.Proofs.Ytcklhojeneejiaa
