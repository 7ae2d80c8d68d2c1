/- Any program: what a range over an iterator asks, where a round may end it; a region that draws within a round. -/
import Derived.Test.YtedfdhpggghjeaaYA
import Derived.RangeFuncNested
import Derived.RangeFuncBound
import Derived.RangeFuncCalls
import Derived.RangeFuncLeaves
import Derived.Shelf.RegionOpen
import Derived.Shelf.Abstract
import Derived.Sort.LoopGhostIn
import Derived.Sort.CutIn
import Derived.Deep.RegionHeld3
import Derived.Deep.RegionLaw
import Derived.Deep.DeepCutAuto
namespace Go.Proofs.Ytedfdhpggghjeaa
set_option linter.unusedVariables false
set_option linter.unusedSimpArgs false
open Go.RowKit Go.Shelf

theorem round_deep {F : Fence} (hd : F.depth = none) {m m' : Nat} {P : Program} {l : Nat} {f : FuncId} {tmps : Array Value} {assign body : Code} {w : World} {R : Ending → World → Prop}
    (h : RoundIn F m P l f tmps assign body w R) : RoundIn F m' P l f tmps assign body w R := ⟨h.1, fun c cs _ => h.2 c cs (fun d e => by rw [hd] at e; cases e)⟩
/-- At a fence that asks no depth the depths are all one. -/
theorem yield_deep {F : Fence} (hd : F.depth = none) {m : Nat} (m' : Nat) {P : Program} {l : Nat} {args : Array Value} {W : World} {R : Ending → World → Prop} (h : YieldAt F m P l args W R) : YieldAt F m' P l args W R := by
  obtain ⟨fn, tmps, assign, body, hy, hR⟩ := h
  exact ⟨fn, tmps, assign, body, hy, round_deep hd hR⟩

/-- From N on all that lay lies as it lay. -/
def KeepsUp (N : Nat) (w w' : World) : Prop := w.heap.size ≤ w'.heap.size ∧ ∀ k, N ≤ k → k < w.heap.size → w'.heap[k]? = w.heap[k]?
theorem KeepsUp.refl (N : Nat) (w : World) : KeepsUp N w w := ⟨Nat.le_refl _, fun _ _ _ => rfl⟩
theorem KeepsUp.trans {N : Nat} {u v w : World} (h : KeepsUp N u v) (k : KeepsUp N v w) : KeepsUp N u w :=
  ⟨Nat.le_trans h.1 k.1, fun j h1 h2 => (k.2 j h1 (Nat.lt_of_lt_of_le h2 h.1)).trans (h.2 j h1 h2)⟩
theorem KeepsUp.below {N : Nat} {w w' : World} (h : Below w.heap.size w w') : KeepsUp N w w' := ⟨h.size, fun k _ h2 => h.block k h2⟩
theorem KeepsUp.up {N M : Nat} {w w' : World} (h : KeepsUp N w w') (hm : N ≤ M) : KeepsUp M w w' := ⟨h.1, fun k h1 h2 => h.2 k (Nat.le_trans hm h1) h2⟩
theorem KeepsUp.cell {N : Nat} {w w' : World} (h : KeepsUp N w w') {k : Nat} (h1 : N ≤ k) (h2 : k < w.heap.size) (o : Nat) : w'.cell? ⟨k, o, none⟩ = w.cell? ⟨k, o, none⟩ :=
  World.cell?_of_block (w := w) (a := ⟨k, o, none⟩) (h.2 k h1 h2)
theorem KeepsUp.frozen {N : Nat} {w w' : World} (h : KeepsUp N w w') {k : Nat} (h1 : N ≤ k) (h2 : k < w.heap.size) (o : Nat) : w'.frozen? ⟨k, o, none⟩ = w.frozen? ⟨k, o, none⟩ :=
  World.frozen?_of_block (w := w) (a := ⟨k, o, none⟩) (h.2 k h1 h2)
theorem KeepsUp.set {N : Nat} {w w' : World} (h : KeepsUp N w w') {b i : Nat} (hb : b < N ∨ w.heap.size ≤ b) (v : Value) : KeepsUp N w (w'.setCell ⟨b, i, none⟩ v) := by
  have hg : w'.grownBy (w'.setCell ⟨b, i, none⟩ v) (some b) := ⟨rfl, rfl, rfl, by simp [World.setCell], fun k hk hne => Below.heap_setCell w' _ v k (fun e => hne (by rw [e]))⟩
  exact ⟨Nat.le_trans h.1 hg.size, fun k h1 h2 => (hg.block k (Nat.lt_of_lt_of_le h2 h.1) (by simp; omega)).trans (h.2 k h1 h2)⟩
theorem KeepsUp.putObj {N : Nat} {w : World} {b : Nat} (o : Obj) (hb : b < N) : KeepsUp N w (w.putObj b o) :=
  ⟨(grownBy_putObj' w b o).size, fun k h1 h2 => (grownBy_putObj' w b o).block k h2 (by simp; omega)⟩
theorem below_putObj {n b : Nat} {w : World} {o : Obj} (o' : Obj) (h : w.heap[b]? = some o) (hn : n ≤ b) : Below n w (w.putObj b o') :=
  (Below.refl n w).grown (grownBy_putObj' w b o') (by have := (Array.getElem?_eq_some_iff.1 h).1; omega) (fun k e => by cases e; omega)

/-- How the body of a round ends: what the loop has laid, and what came behind, lies as it lay; it goes on, or returns. -/
def upPost {α : Type} (B : Nat) (I : List α → World → Prop) (Ix : World → Prop) (xs : List α) (W : World) : Exit → Act → World → Prop
  | .normal, _, W' => KeepsUp B W W' ∧ I xs W'
  | .ret, _, W' => KeepsUp B W W' ∧ Ix W'
  | _, _, _ => False

/-- What an iterator does: it yields all, one behind the other, till a round says no. -/
def Iterates {α : Type} (P : Program) (gf : Nat) (lb : Array Value) (enc : α → Array Value) (Env : World → Prop) (Good : α → Prop) (all : List α) : Prop :=
  ∀ (l : Nat) (J : List α → World → Prop) (Stop : World → Prop) (W : World),
    (∀ pre W1 W2, J pre W1 → Below W.heap.size W1 W2 → J pre W2) → (∀ W1 W2, Stop W1 → Below W.heap.size W1 W2 → Stop W2) → (∀ pre W1, J pre W1 → Env W1) → (∀ W1, Stop W1 → Env W1) →
    (∀ pre x W1, J pre W1 → W.heap.size ≤ W1.heap.size → Good x → YieldAt Fence.wide 12 P l (enc x) W1 fun e W' =>
      (e = .returned (.bool true) ∧ J (pre ++ [x]) W' ∧ KeepsUp W.heap.size W1 W') ∨ (e = .returned (.bool false) ∧ Stop W' ∧ KeepsUp W.heap.size W1 W')) →
    J [] W → Calls P gf (#[.func (.yield l) #[] #[]] ++ lb) W fun e W' => (∃ v, e = .returned v) ∧ (J all W' ∨ Stop W')

set_option maxHeartbeats 1000000 in
theorem wpIn_rangeUp {α : Type} {P : Program} {gf : Nat} {lb : Array Value} {enc : α → Array Value} {Env : World → Prop} {Good : α → Prop} {all : List α} (hit : Iterates P gf lb enc Env Good all)
    {g : Operand} {ps : Array Tmp} {assign body : Code} {Q : Exit → Act → World → Prop} {a : Act} {w : World} (hg : a.eval g = .func (.func gf) #[] lb) (eg : ∀ args w, (callFunc gf args).run P w = .ok (.enter gf args) w) (hps : ∀ x, (enc x).size = ps.size)
    (I : List α → World → Prop) (Ix : World → Prop) (hI : ∀ pre W1 W2, I pre W1 → Below w.heap.size W1 W2 → I pre W2) (hIx : ∀ W1 W2, Ix W1 → Below w.heap.size W1 W2 → Ix W2) (hEnv : ∀ pre W, I pre W → Env W) (hIxE : ∀ W, Ix W → Env W) (h0 : I [] w)
    (Ax : α → Act → World → Prop) (hAx : ∀ x a' W1 W2, Ax x a' W1 → KeepsUp (w.heap.size + 2) W1 W2 → Ax x a' W2)
    (hassign : ∀ (l : Nat) (x : α) (W : World) (K : Act → World → Prop), w.heap.size + 2 ≤ W.heap.size → (∀ a' W', Below W.heap.size W W' → Ax x a' W' → K a' W') →
      assign.wpIn (Fence.wide.inRound l) 12 P (Exit.then K (fun _ _ _ => False)) { tmps := (ps.zip (enc x)).foldl (fun t (p, v) => t.setIfInBounds p v) a.tmps, defers := [] } W)
    (hbody : ∀ (l : Nat) (pre : List α) (x : α) (a' : Act) (W : World), w.heap.size + 2 ≤ W.heap.size → I pre W → Good x → Ax x a' W → body.wpIn (Fence.wide.inRound l) 12 P (upPost w.heap.size I Ix (pre ++ [x]) W) a' W)
    (hdone : ∀ (D : Nat) (W : World), w.heap.size ≤ D → I all W → W.heap[D]? = some (.deferred (some [])) → Q .normal { a with defers := { target := .collected D, args := #[] } :: a.defers } W)
    (hstop : ∀ (D : Nat) (W : World), w.heap.size ≤ D → Ix W → W.heap[D]? = some (.deferred (some [])) → Q .ret { a with defers := { target := .collected D, args := #[] } :: a.defers } W) :
    (Code.rangeFunc g ps assign body).wpIn Fence.wide 14 P Q a w := by
  refine wpIn_rangeFunc ?_
  intro fn hfn
  obtain ⟨rec, hrec⟩ : ∃ rec : LoopState → Option Code → Loop, rec = fun st pe => { state := st, pending := pe, fn, tmps := a.tmps, params := ps, assign, body, defers := w.heap.size } := ⟨_, rfl⟩
  obtain ⟨W1, hW1⟩ : ∃ W1, (w.alloc (.deferred (some []))).alloc (.loop (rec .ready none)) = W1 := ⟨_, rfl⟩
  have hL1 : W1.heap[w.heap.size + 1]? = some (.loop (rec .ready none)) := by
    rw [← hW1]; have := World.alloc_heap_new (w.alloc (.deferred (some []))) (.loop (rec .ready none)); rwa [World.size_alloc] at this
  have hK1 : W1.heap[w.heap.size]? = some (.deferred (some [])) := by
    rw [← hW1]; exact (Below.heap_alloc _ _ _ (by simp)).trans (World.alloc_heap_new w _)
  have hb1 : Below w.heap.size w W1 := by
    rw [← hW1]; exact ((Below.refl _ w).alloc (Nat.le_refl _) _).alloc (by simp) _
  have hz1 : W1.heap.size = w.heap.size + 2 := by rw [← hW1]; simp
  refine ⟨w.heap.size + 1, [{ target := .collected w.heap.size, args := #[] }], W1, { target := .fn (.func gf) lb, args := #[.func (.yield (w.heap.size + 1)) #[] #[]] }, W1, gf,
    #[.func (.yield (w.heap.size + 1)) #[] #[]] ++ lb, W1, ?_, ?_, ?_, ?_, fun _ => by omega, ?_⟩
  · rw [← hW1, hrec]; exact run_enterLoop_outer _ _ _ _ _
  · simp only [resolve, hg]
    simp [go_sem]
  · intro f' hf'; exact trivial
  · simp [invoke, go_sem, eg]
  · refine (callsIn_wide.2 (hit (w.heap.size + 1)
      (fun pre W => I pre W ∧ W.heap[w.heap.size + 1]? = some (.loop (rec .ready none)) ∧ W.heap[w.heap.size]? = some (.deferred (some [])))
      (fun W => Ix W ∧ W.heap[w.heap.size + 1]? = some (.loop (rec .done (some .ret))) ∧ W.heap[w.heap.size]? = some (.deferred (some []))) W1
      (fun pre Wa Wb h hb => ⟨hI _ _ _ h.1 (hb.mono (by omega)), (hb.block _ (by omega)).trans h.2.1, (hb.block _ (by omega)).trans h.2.2⟩)
      (fun Wa Wb h hb => ⟨hIx _ _ h.1 (hb.mono (by omega)), (hb.block _ (by omega)).trans h.2.1, (hb.block _ (by omega)).trans h.2.2⟩)
      (fun pre Wa h => hEnv _ _ h.1) (fun Wa h => hIxE _ h.1) ?_ ⟨hI _ _ _ h0 hb1, hL1, hK1⟩)).mono ?_
    · rintro pre x W ⟨hi, hlp, hk⟩ hzW hgx
      rw [hz1] at hzW
      have hy := run_yield (P := P) (args := enc x) hlp (by rw [hrec]; exact hps x)
      rw [hrec] at hy
      refine ⟨fn, _, assign, body, hy, roundIn_of_wpIn hfn (hassign _ x W _ hzW ?_)⟩
      intro a' Wa hba hax
      have hzA := hba.size
      have hlpA := (hba.block _ (by omega)).trans hlp
      have hkA := (hba.block _ (by omega)).trans hk
      have hiA := hI _ _ _ hi (hba.mono (by omega))
      refine ⟨_, run_beginRound hlpA (by rw [hrec]), ?_⟩
      have hl2 : (Wa.putObj (w.heap.size + 1) (.loop { rec .ready none with state := .busy })).heap[w.heap.size + 1]? = some (.loop { rec .ready none with state := .busy }) := World.putObj_heap_same (by omega)
      have hk2 : (Wa.putObj (w.heap.size + 1) (.loop { rec .ready none with state := .busy })).heap[w.heap.size]? = some (.deferred (some [])) := (World.putObj_heap_other (by omega)).trans hkA
      have hzP : Wa.heap.size ≤ (Wa.putObj (w.heap.size + 1) (.loop { rec .ready none with state := .busy })).heap.size := (grownBy_putObj' _ _ _).size
      have hup2 : KeepsUp (w.heap.size + 2) W (Wa.putObj (w.heap.size + 1) (.loop { rec .ready none with state := .busy })) := (KeepsUp.below hba).trans (KeepsUp.putObj _ (by omega))
      refine wpIn_mono (hbody _ pre x a' _ (Nat.le_trans (show w.heap.size + 2 ≤ Wa.heap.size by omega) (grownBy_putObj' _ _ _).size) (hI _ _ _ hiA (below_putObj _ hlpA (by omega))) hgx (hAx _ _ _ _ hax (KeepsUp.putObj _ (by omega)))) ?_
      have fin : ∀ (jump : Option Code) (W3 : World), KeepsUp w.heap.size (Wa.putObj (w.heap.size + 1) (.loop { rec .ready none with state := .busy })) W3 →
          (Instr.endRound (w.heap.size + 1) jump).run P W3 = .ok (.bool jump.isNone) (W3.putObj (w.heap.size + 1) (.loop (rec (if jump.isNone then .ready else .done) jump))) ∧
          W3.heap[w.heap.size + 1]? = some (.loop { rec .ready none with state := .busy }) ∧
          (W3.putObj (w.heap.size + 1) (.loop (rec (if jump.isNone then .ready else .done) jump))).heap[w.heap.size + 1]? = some (.loop (rec (if jump.isNone then .ready else .done) jump)) ∧
          (W3.putObj (w.heap.size + 1) (.loop (rec (if jump.isNone then .ready else .done) jump))).heap[w.heap.size]? = some (.deferred (some [])) ∧
          KeepsUp (w.heap.size + 2) W (W3.putObj (w.heap.size + 1) (.loop (rec (if jump.isNone then .ready else .done) jump))) := fun jump W3 hk3 => by
        have hl3 := (hk3.2 _ (by omega) (Array.getElem?_eq_some_iff.1 hl2).1).trans hl2
        have := run_endRound (P := P) jump hl3
        rw [hrec] at this ⊢
        exact ⟨this, by rw [hrec] at hl3; exact hl3, World.putObj_heap_same (Array.getElem?_eq_some_iff.1 hl3).1, (World.putObj_heap_other (by omega)).trans ((hk3.2 _ (Nat.le_refl _) (Array.getElem?_eq_some_iff.1 hk2).1).trans hk2), by
          rw [hrec] at hup2 hk3; exact (hup2.trans (hk3.up (by omega))).trans (KeepsUp.putObj _ (by omega))⟩
      rintro e a3 W3 hp
      cases e with
      | normal =>
        obtain ⟨hk3, hi3⟩ := hp
        obtain ⟨hr, hl3, hl4, hk4, hup⟩ := fin none W3 hk3
        exact ⟨_, _, hr, .inl ⟨rfl, ⟨hI _ _ _ hi3 (below_putObj _ hl3 (by omega)), hl4, hk4⟩, by rw [hz1]; exact hup⟩⟩
      | ret =>
        obtain ⟨hk3, hi3⟩ := hp
        obtain ⟨hr, hl3, hl4, hk4, hup⟩ := fin (some .ret) W3 hk3
        exact ⟨_, _, hr, .inr ⟨rfl, ⟨hIx _ _ hi3 (below_putObj _ hl3 (by omega)), hl4, hk4⟩, by rw [hz1]; exact hup⟩⟩
      | exit id => exact hp.elim
      | goto t => exact hp.elim
      | panic ch => exact hp.elim
      | outgrown => exact hp.elim
    · rintro e W2 ⟨⟨v, rfl⟩, (⟨hi, hl, hk⟩ | ⟨hi, hl, hk⟩)⟩
      · exact ⟨none, _, by have := run_endLoop (P := P) hl (by rw [hrec]; simp); rw [hrec] at this; exact this, hdone _ _ (Nat.le_refl _) (hI _ _ _ hi (below_putObj _ hl (by omega))) ((World.putObj_heap_other (by omega)).trans hk)⟩
      · exact ⟨some .ret, _, by have := run_endLoop (P := P) hl (by rw [hrec]; simp); rw [hrec] at this; exact this, wpIn_ret (hstop _ _ (Nat.le_refl _) (hIx _ _ hi (below_putObj _ hl (by omega))) ((World.putObj_heap_other (by omega)).trans hk))⟩

/-! A region within a round, walked as it is outside. -/
theorem rowsIn_wide {n : Nat} {P : Program} {row : String} {args : Array Value} {w : World} {R : Value → World → Prop} (h : Rows P row args w R) : RowsIn Fence.wide n P row args w R :=
  fun c cs _ => let ⟨v, w', r, s⟩ := h c cs; ⟨v, w', r, stepsIn_wide.2 s⟩
theorem operIn_of {l n : Nat} {P : Program} {o : Oper} {a : Act} {w : World} {next : Act → World → Prop} {Q : Exit → Act → World → Prop} (hd : ∀ c, o.op ≠ .defer c) (h : o.wp P a w next Q) : o.wpIn (Fence.wide.inRound l) n P a w next Q := by
  refine ⟨fun _ _ => trivial, ?_⟩
  rw [show (Fence.wide.inRound l).round = some l from rfl, Oper.semAt_some l _ o hd]
  unfold Oper.wp at h
  generalize (execOp a.eval o).run P w = r at *
  cases r with
  | ok x w' =>
    cases x <;> simp only [Oper.upon, Oper.uponIn] at h ⊢ <;>
      first
        | exact h
        | exact ⟨fun hs => (by cases hs), CallsIn.inRound l (callsIn_wide.2 h)⟩
        | exact ⟨fun hs => (by cases hs), rowsIn_wide h⟩
  | halt x w' => cases x <;> simp only [Oper.upon, Oper.uponIn] at h ⊢ <;> exact h
theorem wpAnyIn_of_held {l n : Nat} {P : Program} {md : Region.Mode} {ops : Array Oper} {Q : Exit → Act → World → Prop} {S : World → Prop} (hd : ∀ (i : Nat) (o : Oper), ops[i]? = some o → ∀ c, o.op ≠ .defer c) (hQ : ¬ LetsOut Q) :
    ∀ (fuel : Nat) (listed : Array Bool) (a : Act) (w : World), wpAnyH P md ops Q S fuel listed a w → wpAnyIn (Fence.wide.inRound l) n P md ops Q fuel listed a w
  | 0, _, _, _, h => h
  | fuel + 1, listed, a, w, h => by
    refine ⟨h.1, fun i hi => ?_⟩
    have h2 := h.2 i hi
    unfold wpOp at h2
    unfold wpOpIn
    rcases ho : ops[i]? with - | o
    · rw [ho] at h2
      exact wpAnyIn_of_held hd hQ fuel _ _ _ h2.2
    · rw [ho] at h2
      simp only at h2 ⊢
      by_cases hw : Region.wanted o (yielded ops a.tmps) = true
      · rw [if_pos hw] at h2 ⊢
        rcases h2 with h2 | h2
        · exact Oper.wpIn_mono (fun a' w' h' => wpAnyIn_of_held hd hQ fuel _ a' w' h'.2) (operIn_of (hd i o ho) h2)
        · exact absurd h2.2 hQ
      · rw [if_neg hw] at h2 ⊢
        exact ⟨fun _ _ => trivial, wpAnyIn_of_held hd hQ fuel _ _ _ h2.2⟩
/-- The beginning of a region that draws, within a round. -/
theorem wpIn_region_held {l n : Nat} {P : Program} {ops : Array Oper} {Q : Exit → Act → World → Prop} {S : World → Prop} {id : Nat} {a : Act} {w : World} (hm : P.follows .mixedOrders = true) (hd : ∀ (i : Nat) (o : Oper), ops[i]? = some o → ∀ c, o.op ≠ .defer c) (hQ : ¬ LetsOut Q)
    (h : wpAnyH P .any ops Q S ops.size (Array.replicate ops.size false) a w.drew) : (Code.region id ops true).wpIn (Fence.wide.inRound l) n P Q a w :=
  wpIn_region_any hm (wpAnyIn_of_held hd hQ _ _ _ _ h)
theorem bothS_drew {W0 w1 : World} (h : Below W0.heap.size W0 w1 ∧ ∀ b o, b < W0.heap.size → w1.cell? ⟨b, o, none⟩ = W0.cell? ⟨b, o, none⟩) :
    Below W0.heap.size W0 w1.drew ∧ ∀ b o, b < W0.heap.size → w1.drew.cell? ⟨b, o, none⟩ = W0.cell? ⟨b, o, none⟩ := ⟨h.1.drew, h.2⟩
theorem bothS_alloc {W0 w1 : World} (o : Obj) (h : Below W0.heap.size W0 w1 ∧ ∀ b o, b < W0.heap.size → w1.cell? ⟨b, o, none⟩ = W0.cell? ⟨b, o, none⟩) :
    Below W0.heap.size W0 (w1.alloc o) ∧ ∀ b o', b < W0.heap.size → (w1.alloc o).cell? ⟨b, o', none⟩ = W0.cell? ⟨b, o', none⟩ :=
  ⟨h.1.alloc h.1.size _, fun b _ hb => (h.1.alloc h.1.size _).cell (p := ⟨b, _, none⟩) hb⟩
theorem bothS_set {W0 w1 : World} (p : Addr) (v : Value) (hp : W0.heap.size ≤ p.block) (h : Below W0.heap.size W0 w1 ∧ ∀ b o, b < W0.heap.size → w1.cell? ⟨b, o, none⟩ = W0.cell? ⟨b, o, none⟩) :
    Below W0.heap.size W0 (w1.setCell p v) ∧ ∀ b o', b < W0.heap.size → (w1.setCell p v).cell? ⟨b, o', none⟩ = W0.cell? ⟨b, o', none⟩ :=
  ⟨h.1.setCell hp _, fun b _ hb => (h.1.setCell hp _).cell (p := ⟨b, _, none⟩) hb⟩
theorem bothM2 {P : Program} {f : FuncId} {args : Array Value} {W0 w1 : World} {R : Ending → World → Prop} (h : Calls P f args w1 fun e w' => R e w' ∧ Below w1.heap.size w1 w')
    (h1 : Below W0.heap.size W0 w1 ∧ ∀ b o, b < W0.heap.size → w1.cell? ⟨b, o, none⟩ = W0.cell? ⟨b, o, none⟩) :
    Calls P f args w1 fun e w' => R e w' ∧ (Below W0.heap.size W0 w' ∧ ∀ b o, b < W0.heap.size → w'.cell? ⟨b, o, none⟩ = W0.cell? ⟨b, o, none⟩) ∧
      (∀ b o, b < w1.heap.size → w'.cell? ⟨b, o, none⟩ = w1.cell? ⟨b, o, none⟩) ∧ (∀ b o, b < w1.heap.size → w'.frozen? ⟨b, o, none⟩ = w1.frozen? ⟨b, o, none⟩) ∧ w1.heap.size ≤ w'.heap.size :=
  h.mono fun e w' ⟨he, hb⟩ => ⟨he, ⟨h1.1.trans (hb.mono h1.1.size), fun b o hbo => (h1.1.trans (hb.mono h1.1.size)).cell (p := ⟨b, o, none⟩) hbo⟩, fun b o hbo => hb.cell (p := ⟨b, o, none⟩) hbo, fun b o hbo => hb.frozen (p := ⟨b, o, none⟩) hbo, hb.size⟩
theorem bothS1 {P : Program} {f : FuncId} {args : Array Value} {W0 w1 : World} {v : Value} (h : Calls P f args w1 fun e w' => e = .returned v ∧ Below w1.heap.size w1 w')
    (h1 : Below W0.heap.size W0 w1 ∧ ∀ b o, b < W0.heap.size → w1.cell? ⟨b, o, none⟩ = W0.cell? ⟨b, o, none⟩) :
    Calls P f args w1 fun e w' => e = .returned v ∧ (Below W0.heap.size W0 w' ∧ ∀ b o, b < W0.heap.size → w'.cell? ⟨b, o, none⟩ = W0.cell? ⟨b, o, none⟩) ∧
      (∀ b o, b < w1.heap.size → w'.cell? ⟨b, o, none⟩ = w1.cell? ⟨b, o, none⟩) ∧ (∀ b o, b < w1.heap.size → w'.frozen? ⟨b, o, none⟩ = w1.frozen? ⟨b, o, none⟩) ∧ w1.heap.size ≤ w'.heap.size := bothM2 h h1
theorem set_same {w : World} {a : Addr} {u v : Value} (h : w.cell? a = some u) : (w.setCell a v).cell? a = some v := World.cell?_setCell_same' w a v (by rw [h]; rfl)
theorem bothS_below {W0 W wA : World} (h : Below W0.heap.size W0 W ∧ ∀ b o, b < W0.heap.size → W.cell? ⟨b, o, none⟩ = W0.cell? ⟨b, o, none⟩) (hb : Below W.heap.size W wA) : Below W0.heap.size W0 wA ∧ ∀ b o, b < W0.heap.size → wA.cell? ⟨b, o, none⟩ = W0.cell? ⟨b, o, none⟩ :=
  ⟨h.1.trans (hb.mono h.1.size), fun b o hbo => (h.1.trans (hb.mono h.1.size)).cell (p := ⟨b, o, none⟩) hbo⟩
theorem grown_none {w w' : World} (h : Below w.heap.size w w') : w.grownBy w' none := grow_gb h none
theorem grown_low {w w' : World} {R : Option Nat} {N : Nat} (h : w.grownBy w' R) (hN : N ≤ w.heap.size) (hR : ∀ r, R = some r → N ≤ r) : Below N w w' :=
  ⟨h.os, h.tape, h.output, h.size, fun k hk => h.block k (by omega) (fun e => by have := hR k e.symm; omega)⟩
theorem set_cell {w : World} {g i : Nat} {u v : Value} (h : w.cell? ⟨g, i, none⟩ = some u) : (w.setCell ⟨g, i, none⟩ v).cell? ⟨g, i, none⟩ = some v := World.cell?_setCell_same' w _ v (by rw [h]; rfl)
theorem set_cell' {w : World} {g i j : Nat} {v : Value} (h : i ≠ j) : (w.setCell ⟨g, i, none⟩ v).cell? ⟨g, j, none⟩ = w.cell? ⟨g, j, none⟩ := by
  rw [World.cell?_setCell_other]; intro e; injection e with _ e; exact h e
theorem set_frz {w : World} {g i j : Nat} {v : Value} (h : w.frozen? ⟨g, j, none⟩ = false) : (w.setCell ⟨g, i, none⟩ v).frozen? ⟨g, j, none⟩ = false := by go_simp
theorem own_set {w : World} {n0 e size g k cap : Nat} {cs : List Value} (h : w.ownsRow n0 e size (.slice (some ⟨g, 0, none⟩) k cap) k cs) (j : Nat) (v : Value) :
    (w.setCell ⟨g, j, none⟩ v).ownsRow n0 e size (.slice (some ⟨g, 0, none⟩) k cap) k (cs.set j v) := by
  rcases h.2 with ⟨e1, _⟩ | ⟨g', c, cur, e1, h1, h2, h3, h4, h5, h6⟩
  · cases e1
  · injection e1 with e1 e2 e3
    injection e1 with e1
    injection e1 with e1
    subst e1 e3
    refine ⟨by rw [List.length_set]; exact h.1, .inr ⟨g, cap, cur.setIfInBounds j v, rfl, h1, heap_setCell_same _ _ _ _ _ _ h2, h3, h4, by simpa using h5, ?_⟩⟩
    rw [Array.toList_setIfInBounds, List.take_set, h6]
theorem own_slice1 {w : World} {n1 size n : Nat} {e : TypeId} {v : Value} {vs : List Value} (ho : w.ownsRow n1 e size v n vs) : ∃ a c, v = .slice a n c := by
  rcases ho.2 with ⟨rfl, rfl⟩ | ⟨g, cap, cur, rfl, -⟩
  · exact ⟨none, 0, rfl⟩
  · exact ⟨_, _, rfl⟩
theorem own_src {w : World} {n1 n c : Nat} {e : TypeId} {a : Option Addr} {vs : List Value} (ho : w.ownsRow n1 e 1 (.slice a n c) n vs) : 0 < n → ∃ pb po, a = some ⟨pb, po, none⟩ ∧ ∀ j u, vs[j]? = some u → w.cell? ⟨pb, po + j, none⟩ = some u := by
  intro h0
  rcases ho.2 with ⟨_, e1⟩ | ⟨g, cap, cur, e1, hg, hb, hn, hc, hcs, ht⟩
  · omega
  · injection e1 with e1 _ _
    subst e1
    refine ⟨g, 0, rfl, fun j u hj => ?_⟩
    have := ho.cells (g := g) rfl j u hj
    rw [Addr.add_lit] at this
    rwa [Nat.zero_add] at this ⊢
theorem own_ints {w : World} {n0 len : Nat} {v : Value} {xs : List Int} (h : w.ownsRow n0 3 1 v len (xs.map (Value.int .i64))) (hl : xs.length = len) : ∃ a c, v = .slice a len c ∧ IntsAt w a len xs := by
  rcases h.2 with ⟨rfl, h0⟩ | ⟨g, cap, cur, rfl, h1, h2, h3, h4, h5, h6⟩
  · subst h0
    exact ⟨_, _, rfl, hl, by unfold maxLen; omega, fun h => absurd h (by omega)⟩
  · refine ⟨_, _, rfl, hl, by omega, fun _ => ⟨g, 0, rfl, (Array.getElem?_eq_some_iff.1 h2).1, fun i hi => ?_⟩⟩
    have hx : (cur.toList.take (len * 1))[i]? = some (.int .i64 xs[i]) := by rw [h6]; simp [hi]
    rw [List.getElem?_take] at hx
    split at hx
    · simp only [World.cell?, h2]; simpa using hx
    · cases hx
/-- An operation that may be taken first, with its side conditions paid by the way. -/
theorem takeH {P : Program} {ops : Array Oper} {Q : Exit → Act → World → Prop} {md : Region.Mode} {S : World → Prop} (i : Nat) {oi : Oper} {v : Value} {fuel : Nat} {listed : Array Bool} {a : Act} {w : World}
    (h : wpAnyH P md ops Q S fuel (listed.setIfInBounds i true) (a.put oi.dst v) w)
    (hi : ops[i]? = some oi := by (simp only [List.getElem?_toArray, List.getElem?_cons_succ, List.getElem?_cons_zero]; with_reducible rfl))
    (hs : Region.noSelect ops = true := by kernel_rfl) (hf : Region.free md ops listed i = true := by kernel_rfl) (hr : (Region.ready md ops listed).contains i = true := by kernel_rfl)
    (hQ : ∀ c a w, Q (.panic c) (a.put oi.dst v) w → Q (.panic c) a w := by exact fun _ _ _ h => h)
    (hy : YieldsIf P ops S oi v a := by (refine Or.inl ⟨by rfl, ?_⟩; intro w hSw; (try dsimp only at hSw); go_simp; try with_reducible rfl)) (hS : S w := by assumption) : wpAnyH P md ops Q S (fuel + 1) listed a w :=
  wpAnyH_take hi hs hf hr hQ hy hS h
/-- .. one that its guard leaves out. -/
theorem skipH {P : Program} {ops : Array Oper} {Q : Exit → Act → World → Prop} {md : Region.Mode} {S : World → Prop} (i : Nat) {oi : Oper} {fuel : Nat} {listed : Array Bool} {a : Act} {w : World}
    (h : wpAnyH P md ops Q S fuel (listed.setIfInBounds i true) (a.put oi.dst undef) w)
    (hi : ops[i]? = some oi := by (simp only [List.getElem?_toArray, List.getElem?_cons_succ, List.getElem?_cons_zero]; with_reducible rfl))
    (hs : Region.noSelect ops = true := by kernel_rfl) (hf : Region.free md ops listed i = true := by kernel_rfl) (hr : (Region.ready md ops listed).contains i = true := by kernel_rfl)
    (hQ : ∀ c a w, Q (.panic c) (a.put oi.dst undef) w → Q (.panic c) a w := by exact fun _ _ _ h => h)
    (hy : YieldsIf P ops S oi undef a := by exact Or.inr ⟨by rfl, rfl⟩) (hS : S w := by assumption) : wpAnyH P md ops Q S (fuel + 1) listed a w :=
  wpAnyH_take hi hs hf hr hQ hy hS h
/-- One that comes up alone. -/
theorem readyH {P : Program} {ops : Array Oper} {Q : Exit → Act → World → Prop} {md : Region.Mode} {S : World → Prop} (i : Nat) {o : Oper} {fuel : Nat} {listed : Array Bool} {a : Act} {w : World}
    (h : ∀ K' : Act → World → Prop, Shut (∀ a w, S w → (S w → wpAnyH P md ops Q S fuel (listed.setIfInBounds i true) a w) → K' a w) → if Region.wanted o (yielded ops a.tmps) = true then Oper.wp P o a w K' Q else K' (a.put o.dst undef) w)
    (ho : ops[i]? = some o := by (simp only [List.getElem?_toArray, List.getElem?_cons_succ, List.getElem?_cons_zero]; with_reducible rfl))
    (hr : Region.ready md ops listed = [i] := by kernel_rfl) : wpAnyH P md ops Q S (fuel + 1) listed a w :=
  wpAnyH_ready hr (by simp) (AllReadyH.cons ho h AllReadyH.nil)
end Go.Proofs.Ytedfdhpggghjeaa
