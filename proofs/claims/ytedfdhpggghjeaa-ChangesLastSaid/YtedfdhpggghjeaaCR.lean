/- An iterator that changes nothing that was there: what it yields is good in the world of the yield, over what lay at the round before; a range over it. -/
import Derived.Test.YtedfdhpggghjeaaCE
namespace Go.Proofs.Ytedfdhpggghjeaa
set_option linter.unusedVariables false
set_option linter.unusedSimpArgs false
open Go.RowKit Go.Shelf

/-- What is no cells lies as it lay. -/
def KeepsN (w w' : World) : Prop := w.heap.size ≤ w'.heap.size ∧ ∀ (b : Nat) (o : Obj), w.heap[b]? = some o → o.isCells = false → w'.heap[b]? = some o
theorem KeepsN.refl (w : World) : KeepsN w w := ⟨Nat.le_refl _, fun _ _ h _ => h⟩
theorem KeepsN.trans {u v w : World} (h : KeepsN u v) (k : KeepsN v w) : KeepsN u w := ⟨Nat.le_trans h.1 k.1, fun b o h1 h2 => k.2 b o (h.2 b o h1 h2) h2⟩
theorem KeepsN.below {w w' : World} (h : Below w.heap.size w w') : KeepsN w w' := ⟨h.size, fun b _ h1 _ => (h.block b (Array.getElem?_eq_some_iff.1 h1).1).trans h1⟩
/-- What an iterator does that lays only new blocks: it yields one behind the other, till a round says no; what it has yielded in all is in All. -/
def IteratesV {α : Type} (P : Program) (gf : Nat) (lb : Array Value) (enc : α → Array Value) (Env : World → Prop) (Good : List α → α → World → World → Prop) (All : List α → Prop) : Prop :=
  ∀ (l : Nat) (J : List α → World → Prop) (Stop : World → Prop) (W : World),
    (∀ pre W1 W2, J pre W1 → Below W1.heap.size W1 W2 → J pre W2) → (∀ W1 W2, Stop W1 → Below W1.heap.size W1 W2 → Stop W2) → (∀ pre W1, J pre W1 → Env W1) → (∀ W1, Stop W1 → Env W1) →
    (∀ pre x W0 W1, J pre W0 → W.heap.size ≤ W0.heap.size → Below W0.heap.size W0 W1 → Good pre x W0 W1 → YieldAt Fence.wide 12 P l (enc x) W1 fun e W' =>
      (e = .returned (.bool true) ∧ J (pre ++ [x]) W' ∧ KeepsUp W0.heap.size W1 W') ∨ (e = .returned (.bool false) ∧ Stop W' ∧ KeepsUp W0.heap.size W1 W')) →
    J [] W → Calls P gf (#[.func (.yield l) #[] #[]] ++ lb) W fun e W' => (∃ v, e = .returned v) ∧ ((∃ all, All all ∧ J all W') ∨ Stop W')
/-- How the body of a round ends: what is no cells lies as it lay, and what was laid from N on; it goes on, or returns. -/
def vPost {α : Type} (N : Nat) (I : List α → World → Prop) (Ix : World → Prop) (xs : List α) (W : World) : Exit → Act → World → Prop
  | .normal, _, W' => KeepsN W W' ∧ KeepsUp N W W' ∧ I xs W'
  | .ret, _, W' => KeepsN W W' ∧ KeepsUp N W W' ∧ Ix W'
  | _, _, _ => False

set_option maxHeartbeats 1000000 in
theorem wpIn_rangeV {α : Type} {P : Program} {gf : Nat} {lb : Array Value} {enc : α → Array Value} {Env : World → Prop} {Good : List α → α → World → World → Prop} {All : List α → Prop} (hit : IteratesV P gf lb enc Env Good All)
    {g : Operand} {ps : Array Tmp} {assign body : Code} {Q : Exit → Act → World → Prop} {a : Act} {w : World} (hg : a.eval g = .func (.func gf) #[] lb) (eg : ∀ args w, (callFunc gf args).run P w = .ok (.enter gf args) w) (hps : ∀ x, (enc x).size = ps.size)
    (I : List α → World → Prop) (Ix : World → Prop) (hI : ∀ pre W1 W2, I pre W1 → Below W1.heap.size W1 W2 → I pre W2) (hIx : ∀ W1 W2, Ix W1 → Below W1.heap.size W1 W2 → Ix W2) (hIp : ∀ pre W1 b o o', w.heap.size ≤ b → I pre W1 → W1.heap[b]? = some o → o.isCells = false → I pre (W1.putObj b o')) (hIxp : ∀ W1 b o o', w.heap.size ≤ b → Ix W1 → W1.heap[b]? = some o → o.isCells = false → Ix (W1.putObj b o')) (hEnv : ∀ pre W, I pre W → Env W) (hIxE : ∀ W, Ix W → Env W) (h0 : I [] w)
    (R : Nat → List α → α → Act → World → Prop) (hR : ∀ N pre x a' W1 b o o', w.heap.size ≤ b → b < N → R N pre x a' W1 → W1.heap[b]? = some o → o.isCells = false → R N pre x a' (W1.putObj b o'))
    (hassign : ∀ (l : Nat) (pre : List α) (x : α) (W0 W : World) (K : Act → World → Prop), w.heap.size + 2 ≤ W0.heap.size → I pre W0 → Below W0.heap.size W0 W → Good pre x W0 W → (∀ a' W', Below W.heap.size W W' → R W0.heap.size pre x a' W' → K a' W') →
      assign.wpIn (Fence.wide.inRound l) 12 P (Exit.then K (fun _ _ _ => False)) { tmps := (ps.zip (enc x)).foldl (fun t (p, v) => t.setIfInBounds p v) a.tmps, defers := [] } W)
    (hbody : ∀ (l N : Nat) (pre : List α) (x : α) (a' : Act) (W : World), w.heap.size + 2 ≤ N → N ≤ W.heap.size → R N pre x a' W → body.wpIn (Fence.wide.inRound l) 12 P (vPost N I Ix (pre ++ [x]) W) a' W)
    (hdone : ∀ (D : Nat) (W : World) (all : List α), All all → w.heap.size ≤ D → I all W → W.heap[D]? = some (.deferred (some [])) → Q .normal { a with defers := { target := .collected D, args := #[] } :: a.defers } W)
    (hstop : ∀ (D : Nat) (W : World), w.heap.size ≤ D → Ix W → W.heap[D]? = some (.deferred (some [])) → Q .ret { a with defers := { target := .collected D, args := #[] } :: a.defers } W) :
    (Code.rangeFunc g ps assign body).wpIn Fence.wide 14 P Q a w := by
  refine wpIn_rangeFunc ?_
  intro fn hfn
  obtain ⟨rec, hrec⟩ : ∃ rec : LoopState → Option Code → Loop, rec = fun st pe => { state := st, pending := pe, fn, tmps := a.tmps, params := ps, assign, body, defers := w.heap.size } := ⟨_, rfl⟩
  obtain ⟨W1, hW1⟩ : ∃ W1, (w.alloc (.deferred (some []))).alloc (.loop (rec .ready none)) = W1 := ⟨_, rfl⟩
  have hL1 : W1.heap[w.heap.size + 1]? = some (.loop (rec .ready none)) := by
    rw [← hW1]; have := World.alloc_heap_new (w.alloc (.deferred (some []))) (.loop (rec .ready none)); rwa [World.size_alloc] at this
  have hK1 : W1.heap[w.heap.size]? = some (.deferred (some [])) := by
    rw [← hW1]; exact (Below.heap_alloc _ _ _ (by simp)).trans (World.alloc_heap_new w _)
  have hb1 : Below w.heap.size w W1 := by
    rw [← hW1]; exact ((Below.refl _ w).alloc (Nat.le_refl _) _).alloc (by simp) _
  have hz1 : W1.heap.size = w.heap.size + 2 := by rw [← hW1]; simp
  refine ⟨w.heap.size + 1, [{ target := .collected w.heap.size, args := #[] }], W1, { target := .fn (.func gf) lb, args := #[.func (.yield (w.heap.size + 1)) #[] #[]] }, W1, gf,
    #[.func (.yield (w.heap.size + 1)) #[] #[]] ++ lb, W1, ?_, ?_, ?_, ?_, fun _ => by omega, ?_⟩
  · rw [← hW1, hrec]; exact run_enterLoop_outer _ _ _ _ _
  · simp only [resolve, hg]
    simp [go_sem]
  · intro f' hf'; exact trivial
  · simp [invoke, go_sem, eg]
  · refine (callsIn_wide.2 (hit (w.heap.size + 1)
      (fun pre W => I pre W ∧ W.heap[w.heap.size + 1]? = some (.loop (rec .ready none)) ∧ W.heap[w.heap.size]? = some (.deferred (some [])))
      (fun W => Ix W ∧ W.heap[w.heap.size + 1]? = some (.loop (rec .done (some .ret))) ∧ W.heap[w.heap.size]? = some (.deferred (some []))) W1
      (fun pre Wa Wb h hb => ⟨hI _ _ _ h.1 hb, (hb.block _ (Array.getElem?_eq_some_iff.1 h.2.1).1).trans h.2.1, (hb.block _ (Array.getElem?_eq_some_iff.1 h.2.2).1).trans h.2.2⟩)
      (fun Wa Wb h hb => ⟨hIx _ _ h.1 hb, (hb.block _ (Array.getElem?_eq_some_iff.1 h.2.1).1).trans h.2.1, (hb.block _ (Array.getElem?_eq_some_iff.1 h.2.2).1).trans h.2.2⟩)
      (fun pre Wa h => hEnv _ _ h.1) (fun Wa h => hIxE _ h.1) ?_ ⟨hI _ _ _ h0 hb1, hL1, hK1⟩)).mono ?_
    · rintro pre x W0 W ⟨hi, hlp0, hk0⟩ hzW hbW hgx
      rw [hz1] at hzW
      have hlp := (hbW.block _ (Array.getElem?_eq_some_iff.1 hlp0).1).trans hlp0
      have hk := (hbW.block _ (Array.getElem?_eq_some_iff.1 hk0).1).trans hk0
      have hzW2 := hbW.size
      have hy := run_yield (P := P) (args := enc x) hlp (by rw [hrec]; exact hps x)
      rw [hrec] at hy
      refine ⟨fn, _, assign, body, hy, roundIn_of_wpIn hfn (hassign _ pre x W0 W _ hzW hi hbW hgx ?_)⟩
      intro a' Wa hba hax
      have hzA := hba.size
      have hlpA := (hba.block _ (by omega)).trans hlp
      have hkA := (hba.block _ (by omega)).trans hk
      refine ⟨_, run_beginRound hlpA (by rw [hrec]), ?_⟩
      have hl2 : (Wa.putObj (w.heap.size + 1) (.loop { rec .ready none with state := .busy })).heap[w.heap.size + 1]? = some (.loop { rec .ready none with state := .busy }) := World.putObj_heap_same (by omega)
      have hk2 : (Wa.putObj (w.heap.size + 1) (.loop { rec .ready none with state := .busy })).heap[w.heap.size]? = some (.deferred (some [])) := (World.putObj_heap_other (by omega)).trans hkA
      have hzP : Wa.heap.size ≤ (Wa.putObj (w.heap.size + 1) (.loop { rec .ready none with state := .busy })).heap.size := (grownBy_putObj' _ _ _).size
      refine wpIn_mono (hbody _ W0.heap.size pre x a' _ hzW (Nat.le_trans (show W0.heap.size ≤ Wa.heap.size by omega) (grownBy_putObj' _ _ _).size) (hR _ _ _ _ _ _ _ _ (by omega) (by omega) hax hlpA rfl)) ?_
      have fin : ∀ (jump : Option Code) (W3 : World), KeepsN (Wa.putObj (w.heap.size + 1) (.loop { rec .ready none with state := .busy })) W3 → KeepsUp W0.heap.size (Wa.putObj (w.heap.size + 1) (.loop { rec .ready none with state := .busy })) W3 →
          (Instr.endRound (w.heap.size + 1) jump).run P W3 = .ok (.bool jump.isNone) (W3.putObj (w.heap.size + 1) (.loop (rec (if jump.isNone then .ready else .done) jump))) ∧
          W3.heap[w.heap.size + 1]? = some (.loop { rec .ready none with state := .busy }) ∧
          (W3.putObj (w.heap.size + 1) (.loop (rec (if jump.isNone then .ready else .done) jump))).heap[w.heap.size + 1]? = some (.loop (rec (if jump.isNone then .ready else .done) jump)) ∧
          (W3.putObj (w.heap.size + 1) (.loop (rec (if jump.isNone then .ready else .done) jump))).heap[w.heap.size]? = some (.deferred (some [])) ∧
          KeepsUp W0.heap.size W (W3.putObj (w.heap.size + 1) (.loop (rec (if jump.isNone then .ready else .done) jump))) := fun jump W3 hk3 hu3 => by
        have hl3 := hk3.2 _ _ hl2 rfl
        have hz3 := hk3.1
        have := run_endRound (P := P) jump hl3
        have hup := ((KeepsUp.below (N := W0.heap.size) hba).trans ((KeepsUp.putObj (w := Wa) (b := w.heap.size + 1) (N := W0.heap.size) (.loop { rec .ready none with state := .busy }) (by omega)).trans hu3)).trans (KeepsUp.putObj (w := W3) (b := w.heap.size + 1) (N := W0.heap.size) (.loop (rec (if jump.isNone then .ready else .done) jump)) (by omega))
        rw [hrec] at this hup ⊢
        exact ⟨this, by rw [hrec] at hl3; exact hl3, World.putObj_heap_same (Array.getElem?_eq_some_iff.1 hl3).1, (World.putObj_heap_other (by omega)).trans (hk3.2 _ _ hk2 rfl), hup⟩
      rintro e a3 W3 hp
      cases e with
      | normal =>
        obtain ⟨hk3, hu3, hi3⟩ := hp
        obtain ⟨hr, hl3, hl4, hk4, hup⟩ := fin none W3 hk3 hu3
        exact ⟨_, _, hr, .inl ⟨rfl, ⟨hIp _ _ _ _ _ (by omega) hi3 hl3 rfl, hl4, hk4⟩, hup⟩⟩
      | ret =>
        obtain ⟨hk3, hu3, hi3⟩ := hp
        obtain ⟨hr, hl3, hl4, hk4, hup⟩ := fin (some .ret) W3 hk3 hu3
        exact ⟨_, _, hr, .inr ⟨rfl, ⟨hIxp _ _ _ _ (by omega) hi3 hl3 rfl, hl4, hk4⟩, hup⟩⟩
      | exit id => exact hp.elim
      | goto t => exact hp.elim
      | panic ch => exact hp.elim
      | outgrown => exact hp.elim
    · rintro e W2 ⟨⟨v, rfl⟩, (⟨all, hall, hi, hl, hk⟩ | ⟨hi, hl, hk⟩)⟩
      · exact ⟨none, _, by have := run_endLoop (P := P) hl (by rw [hrec]; simp); rw [hrec] at this; exact this, hdone _ _ all hall (Nat.le_refl _) (hIp _ _ _ _ _ (by omega) hi hl rfl) ((World.putObj_heap_other (by omega)).trans hk)⟩
      · exact ⟨some .ret, _, by have := run_endLoop (P := P) hl (by rw [hrec]; simp); rw [hrec] at this; exact this, wpIn_ret (hstop _ _ (Nat.le_refl _) (hIxp _ _ _ _ (by omega) hi hl rfl) ((World.putObj_heap_other (by omega)).trans hk))⟩
end Go.Proofs.Ytedfdhpggghjeaa
