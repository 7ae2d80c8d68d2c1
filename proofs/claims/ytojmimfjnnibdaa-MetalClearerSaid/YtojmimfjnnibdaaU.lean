/- The safe addition of which what is asked is the least. -/
import Derived.Test.YtojmimfjnnibdaaT
namespace Go.Proofs.Ytojmimfjnnibdaa
set_option linter.unusedVariables false
set_option linter.unusedSimpArgs false
open Go.RowKit Go.Shelf

attribute [local go_sem] Oper.semAt_some

set_option maxHeartbeats 1000000 in
theorem ask_Mend (s : Shop) (a : Option Addr) (len cap Wb b : Nat) (x : List Int) (w : World) (hbx : ∀ i, w.cell? ⟨Wb, i, none⟩ = (#[.int .i64 s.P, .int .i64 s.tl, .int .i64 s.th, .int .i64 s.al, .int .i64 s.ah, .int .i64 s.room, .int .i64 s.xl, .int .i64 s.xh, .int .i64 s.yl, .int .i64 s.yh, .slice a len cap] : Array Value)[i]?) (hp : PigsAt w a len s.pigs) (hx : Holds w b x) (hl : x.length = len) (hl4 : len ≤ 4) (hf : Few s.pigs x) :
    Calls Try.prog 86 #[.slice (some ⟨b, 0, none⟩) len len, .pointer (some ⟨Wb, 0, none⟩)] w fun e w' => e = .returned (.int .i64 (tot Pig.c s.pigs x * 1000 + tot Pig.P s.pigs x)) ∧ Below w.heap.size w w' := by
  have hxi : IntsAt w (some ⟨b, 0, none⟩) len x := by have := ints_of_holds hx (by rw [hl]; unfold maxLen; omega); rwa [hl] at this
  have hWb : Wb < w.heap.size := World.block_lt_of_cell? w _ (hbx 0)
  have HC := Lib.hid (held2 (Below.refl _ w) fun w1 (hb : Below w.heap.size w w1) => total_pence s a cap (some ⟨b, 0, none⟩) len len x w1 (hp.below hb) (hxi.below hb) hl4 hf)
  have HP := Lib.hid (held2 (Below.refl _ w) fun w1 (hb : Below w.heap.size w w1) => total_pounds s a cap (some ⟨b, 0, none⟩) len len x w1 (hp.below hb) (hxi.below hb) hl4 hf)
  obtain ⟨c1, c2⟩ := tot_all Pig.c bd_pence s.pigs x hf hp.1 hl
  obtain ⟨p1, p2⟩ := tot_all Pig.P bd_pounds s.pigs x hf hp.1 hl
  clear hp hx hf hl hxi
  generalize tot Pig.c s.pigs x = tc at *
  generalize tot Pig.P s.pigs x = tp at *
  have hw1 : IntKind.i64.wrap (tc * 1000) = tc * 1000 := IntWalk.i64_in _ ⟨by omega, by omega⟩
  have hw2 : IntKind.i64.wrap (tc * 1000 + tp) = tc * 1000 + tp := IntWalk.i64_in _ ⟨by omega, by omega⟩
  go_enter Try.func86, Try.ntmps86
  go_wp2_with fail
  go_region_held3 (fun w' => Below w.heap.size w w' ∧ ∀ b o, b < w.heap.size → w'.cell? ⟨b, o, none⟩ = w.cell? ⟨b, o, none⟩) (first | with_reducible assumption | exact ⟨(Below.refl _ _).drew, fun _ _ _ => rfl⟩)
    (first | (go_at_call 84; with_reducible refine (HC.out _ ?_).mono ?_; (first | with_reducible assumption | exact ⟨(Below.refl _ _).drew, fun _ _ _ => rfl⟩); rintro e w' ⟨rfl, k⟩) | (go_at_call 84; with_reducible refine (HP.out _ ?_).mono ?_; (first | with_reducible assumption | exact ⟨(Below.refl _ _).drew, fun _ _ _ => rfl⟩); rintro e w' ⟨rfl, k⟩))
  have hh := ‹Below w.heap.size w _ ∧ _›
  go_wp2_with fail
  go_ret
  exact ⟨rfl, hh.1⟩

/-- The least of what is asked, and the first list that it is asked of. -/
def stepBest (s : Shop) (f : List Int → Int) (o : Option (List Int × Int)) (x : List Int) : Option (List Int × Int) :=
  if s.safeOf x = 1 then (match o with | none => some (x, f x) | some (y, m) => if f x < m then some (x, f x) else some (y, m)) else o
def bestOf (s : Shop) (f : List Int → Int) (l : List (List Int)) : Option (List Int × Int) := l.foldl (stepBest s f) none
theorem bestOf_snoc (s : Shop) (f : List Int → Int) (l : List (List Int)) (x : List Int) : bestOf s f (l ++ [x]) = stepBest s f (bestOf s f l) x := by simp [bestOf]

/-- All but three blocks from B on lie as they lay. -/
structure But3 (B : Nat) (w w' : World) : Prop where
  os : w'.os = w.os
  tape : w'.tape = w.tape
  output : w'.output = w.output
  size : w.heap.size ≤ w'.heap.size
  block : ∀ k, k < w.heap.size → (k < B ∨ B + 3 ≤ k) → w'.heap[k]? = w.heap[k]?
theorem But3.refl (B : Nat) (w : World) : But3 B w w := ⟨rfl, rfl, rfl, Nat.le_refl _, fun _ _ _ => rfl⟩
theorem But3.grown {B : Nat} {w w' w2 : World} {row : Option Nat} (h : But3 B w w') (hg : w'.grownBy w2 row) (hr : ∀ r, row = some r → w.heap.size ≤ r ∨ (B ≤ r ∧ r < B + 3)) : But3 B w w2 :=
  ⟨hg.os.trans h.os, hg.tape.trans h.tape, hg.output.trans h.output, Nat.le_trans h.size hg.size, fun k hk hne => (hg.block k (Nat.lt_of_lt_of_le hk h.size) (fun e => by have := hr k e.symm; omega)).trans (h.block k hk hne)⟩
theorem But3.below {B : Nat} {w w' w2 : World} (h : But3 B w w') (hb : Below w'.heap.size w' w2) : But3 B w w2 := h.grown (grown_none hb) (fun r e => by cases e)
theorem But3.cell {B : Nat} {w w' : World} (h : But3 B w w') {k : Nat} (hk : k < w.heap.size) (hne : k < B ∨ B + 3 ≤ k) (o : Nat) : w'.cell? ⟨k, o, none⟩ = w.cell? ⟨k, o, none⟩ :=
  World.cell?_of_block (w := w) (a := ⟨k, o, none⟩) (h.block k hk hne)
theorem But3.pigs {B : Nat} {w w' : World} (h : But3 B w w') {a : Option Addr} {len : Nat} {ps : List Pig} (hp : PigsAt w a len ps) (hB : 0 < len → ∀ pb po, a = some ⟨pb, po, none⟩ → pb < B ∨ B + 3 ≤ pb) : PigsAt w' a len ps := by
  obtain ⟨h1, h2, h3⟩ := hp
  refine ⟨h1, h2, fun hl => ?_⟩
  obtain ⟨b, o, ha, hb, hc⟩ := h3 hl
  refine ⟨b, o, ha, Nat.lt_of_lt_of_le hb h.size, fun i hi => ?_⟩
  obtain ⟨c0, c1, c2, c3, c4⟩ := hc i hi
  have e := fun o => h.cell hb (hB hl _ _ ha) o
  exact ⟨(e _).trans c0, (e _).trans c1, (e _).trans c2, (e _).trans c3, (e _).trans c4⟩

theorem additions_in (n : Nat) (s : Shop) (a : Option Addr) (len cap : Nat) (w : World) :
    CallsIn Fence.wide n Try.prog 106 #[.agg #[.int .i64 s.P, .int .i64 s.tl, .int .i64 s.th, .int .i64 s.al, .int .i64 s.ah, .int .i64 s.room, .int .i64 s.xl, .int .i64 s.xh, .int .i64 s.yl, .int .i64 s.yh, .slice a len cap]] w fun e w' => e = .returned (.func (.func 112) #[] #[.pointer (some ⟨w.heap.size, 0, none⟩)]) ∧ w.alloc (.cells #[.int .i64 s.P, .int .i64 s.tl, .int .i64 s.th, .int .i64 s.al, .int .i64 s.ah, .int .i64 s.room, .int .i64 s.xl, .int .i64 s.xh, .int .i64 s.yl, .int .i64 s.yh, .slice a len cap] 78) = w' := by
  refine callsIn_of_wp Try.func106 rfl trivial ?_ rfl
  simp only [Try.ntmps106, List.size_toArray, List.length_cons, List.length_nil, Nat.reduceAdd, Nat.reduceSub, Array.replicate_succ, Array.replicate_zero, List.push_toArray, List.append_toArray, List.nil_append, List.cons_append]
  gi_wp2
  go_ret
  exact ⟨rfl, rfl⟩
end Go.Proofs.Ytojmimfjnnibdaa
