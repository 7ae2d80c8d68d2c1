/- What an addition costs, and in which truths of the pot the metal is within all limits with it. -/
import Derived.Test.YtojmimfjnnibdaaV
import Derived.Test.YtojmimfjnnibdaaZT
import Derived.Sort.QuietTacIn
namespace Go.Proofs.Ytojmimfjnnibdaa
set_option linter.unusedVariables false
set_option linter.unusedSimpArgs false
open Go.RowKit Go.Shelf Go.Sort

attribute [local go_sem] Oper.semAt_some

structure Offer where
  c : Int
  tl : Int
  th : Int
  al : Int
  ah : Int
def Offer.cells (o : Offer) : List Value := [.int .i64 o.c, .int .i64 o.tl, .int .i64 o.th, .int .i64 o.al, .int .i64 o.ah]
/-- An addition's offer. -/
def Shop.offerOf (s : Shop) (x : List Int) : Offer :=
  { c := tot Pig.c s.pigs x
    tl := maxI s.tl (allowLo (s.P + tot Pig.P s.pigs x) s.xl + -(tot Pig.t s.pigs x))
    th := minI s.th (allowHi (s.P + tot Pig.P s.pigs x) s.xh + -(tot Pig.t s.pigs x))
    al := maxI s.al (allowLo (s.P + tot Pig.P s.pigs x) s.yl + -(tot Pig.a s.pigs x))
    ah := minI s.ah (allowHi (s.P + tot Pig.P s.pigs x) s.yh + -(tot Pig.a s.pigs x)) }
def Offer.good (o : Offer) : Bool := !emptyB o.tl o.th && !emptyB o.al o.ah
def Shop.offersOf (s : Shop) (l : List (List Int)) : List Offer := (l.map s.offerOf).filter Offer.good
theorem offersOf_snoc (s : Shop) (l : List (List Int)) (x : List Int) : s.offersOf (l ++ [x]) = s.offersOf l ++ (if (s.offerOf x).good then [s.offerOf x] else []) := by
  simp only [Shop.offersOf, List.map_append, List.filter_append, List.map_cons, List.map_nil]
  congr 1
  cases h : (s.offerOf x).good <;> simp [h]

/-- A callee met in a world of the class, in a round. -/
theorem meet {l : Nat} {r : Nat} {P : Program} {f : FuncId} {args : Array Value} {W : World} {v : Value}
    (h : ∀ w1, Below W.heap.size W w1 → Calls P f args w1 fun e w' => e = .returned v ∧ Below w1.heap.size w1 w') (d : Nat) (os : Array Obj) :
    CallsIn (Fence.wide.inRound l) r P f args (grow (redrawn W d) os) fun e w'' => e = .returned v ∧ ∃ p : Regrown, w'' = grow (redrawn W p.d) p.os :=
  (CallsIn.inRound l (callsIn_wide.2 (h _ (below_regrown W d os)))).regrown_of
theorem meet0 {r : Nat} {P : Program} {f : FuncId} {args : Array Value} {W : World} {v : Value}
    (h : ∀ w1, Below W.heap.size W w1 → Calls P f args w1 fun e w' => e = .returned v ∧ Below w1.heap.size w1 w') (d : Nat) (os : Array Obj) :
    CallsIn Fence.wide r P f args (grow (redrawn W d) os) fun e w'' => e = .returned v ∧ ∃ p : Regrown, w'' = grow (redrawn W p.d) p.os :=
  (callsIn_wide.2 (h _ (below_regrown W d os))).regrown_of

theorem moved_below (lo hi by' : Int) (h1 : Fair lo) (h2 : Fair hi) (h3 : Fair by') (w : World) :
    Calls Try.prog 96 #[.agg #[.int .i64 lo, .int .i64 hi], .int .i64 by'] w fun e w' => e = .returned (.agg #[.int .i64 (lo + by'), .int .i64 (hi + by')]) ∧ Below w.heap.size w w' :=
  (moved_any lo hi by' w h1 h2 h3).mono fun e w' ⟨he, hw⟩ => ⟨he, by subst hw; exact (by repeat (first | exact Below.refl _ _ | (refine Below.alloc ?_ (by first | omega | (simp; omega) | simp) _) | (refine Below.setCell ?_ (by first | omega | (simp; omega) | simp) _) | refine Below.drew ?_))⟩
theorem common_below (il ih ol oh : Int) (w : World) :
    Calls Try.prog 104 #[.agg #[.int .i64 il, .int .i64 ih], .agg #[.int .i64 ol, .int .i64 oh]] w fun e w' => e = .returned (.agg #[.int .i64 (maxI il ol), .int .i64 (minI ih oh)]) ∧ Below w.heap.size w w' :=
  (common_any il ih ol oh w).mono fun e w' ⟨he, hw⟩ => ⟨he, by subst hw; exact (by repeat (first | exact Below.refl _ _ | (refine Below.alloc ?_ (by first | omega | (simp; omega) | simp) _) | (refine Below.setCell ?_ (by first | omega | (simp; omega) | simp) _) | refine Below.drew ?_))⟩
theorem allowed_below (p lo hi : Int) (h1 : 0 ≤ p ∧ p ≤ 2000) (h2 : 0 ≤ lo ∧ lo ≤ 1000) (h3 : 0 ≤ hi ∧ hi ≤ 1000) (w : World) :
    Calls Try.prog 101 #[.int .i64 p, .agg #[.int .i64 lo, .int .i64 hi]] w fun e w' => e = .returned (.agg #[.int .i64 (allowLo p lo), .int .i64 (allowHi p hi)]) ∧ Below w.heap.size w w' :=
  (allowed_any p lo hi w h1 h2 h3).mono fun e w' ⟨he, hw⟩ => ⟨he, by subst hw; exact (by repeat (first | exact Below.refl _ _ | (refine Below.alloc ?_ (by first | omega | (simp; omega) | simp) _) | (refine Below.setCell ?_ (by first | omega | (simp; omega) | simp) _) | refine Below.drew ?_))⟩
end Go.Proofs.Ytojmimfjnnibdaa
