/- A range over all additions: what the caller owes. -/
import Derived.Test.YtajabapcmpmboaaR
namespace Go.Proofs.Ytajabapcmpmboaa
set_option linter.unusedVariables false
set_option linter.unusedSimpArgs false
open Go.RowKit Go.Shelf

theorem Holds.other {w w' : World} {b : Nat} {x : List Int} {row : Option Nat} (h : Holds w b x) (hg : w.grownBy w' row) (hne : some b ≠ row) : Holds w' b x := by
  have e : w'.heap[b]? = w.heap[b]? := hg.block b h.1 hne
  exact ⟨Nat.lt_of_lt_of_le h.1 hg.size, fun i hi => (World.cell?_of_block (w := w) (a := ⟨b, i, none⟩) e).trans (h.2.1 i hi), fun i => (World.frozen?_of_block (w := w) (a := ⟨b, i, none⟩) e).trans (h.2.2 i)⟩
/-- How the body of a round ends: what is no cells, from where the loop began on, lies as it lay. -/
def addPost (B : Nat) (I : Nat → List (List Int) → World → Prop) (b : Nat) (xs : List (List Int)) (x : List Int) (W : World) : Exit → Act → World → Prop
  | .normal, _, W' => KeepsFrom B W W' ∧ I b xs W' ∧ Holds W' b x
  | _, _, _ => False

set_option maxHeartbeats 1000000 in
theorem wpIn_rangeAddsP {g : Operand} {ps : Array Tmp} {assign body : Code} {Q : Exit → Act → World → Prop} {a : Act} {w : World} {n : Nat} (hn : 4 ≤ n)
    (Bs : Nat) (s : Shop) (sa : Option Addr) (len cap : Nat) (hg : a.eval g = .func (.func 112) #[] #[.pointer (some ⟨Bs, 0, none⟩)]) (hps : ps.size = 1) (ho : s.ok = true) (hl : s.pigs.length = len)
    (I : Nat → List (List Int) → World → Prop)
    (hI : ∀ b pre W W' row, I b pre W → W.grownBy W' row → (∀ r, row = some r → r = b ∨ (w.heap.size ≤ r ∧ ∃ o : Obj, W.heap[r]? = some o ∧ o.isCells = false)) → I b pre W')
    (hS : ∀ b pre W, I b pre W → (∀ i, W.cell? ⟨Bs, i, none⟩ = (#[.int .i64 s.P, .int .i64 s.tl, .int .i64 s.th, .int .i64 s.al, .int .i64 s.ah, .int .i64 s.room, .int .i64 s.xl, .int .i64 s.xh, .int .i64 s.yl, .int .i64 s.yh, .slice sa len cap] : Array Value)[i]?) ∧ PigsAt W sa len s.pigs ∧ (0 < len → ∀ pb po, sa = some ⟨pb, po, none⟩ → pb ≠ b))
    (h0 : ∀ W' b, Below w.heap.size w W' → w.heap.size ≤ b → I b [] W') (a₁ : Value → Act)
    (hassign : ∀ (l : Nat) (v : Value) (W : World) (K : Act → World → Prop), K (a₁ v) W →
      assign.wpIn (Fence.wide.inRound l) (n - 1 - 1) Try.prog (Exit.then K (fun _ _ _ => False)) { tmps := (ps.zip #[v]).foldl (fun t (p, v) => t.setIfInBounds p v) a.tmps, defers := [] } W)
    (hbody : ∀ (l b : Nat) (pre : List (List Int)) (x : List Int) (W : World), I b pre W → Holds W b x → x.length = len → x ∈ allL s.most → s.room? x = true → (pre ++ [x]) <+: (allL s.most).filter s.room? →
      body.wpIn (Fence.wide.inRound l) (n - 1 - 1) Try.prog (addPost w.heap.size I b (pre ++ [x]) x W) (a₁ (.slice (some ⟨b, 0, none⟩) len len)) W)
    (hdone : ∀ (D b : Nat) (W : World), w.heap.size ≤ D → I b ((allL s.most).filter s.room?) W → W.heap[D]? = some (.deferred (some [])) → Q .normal { a with defers := { target := .collected D, args := #[] } :: a.defers } W) :
    (Code.rangeFunc g ps assign body).wpIn Fence.wide n Try.prog Q a w := by
  refine wpIn_rangeFunc ?_
  intro fn hfn
  obtain ⟨rec, hrec⟩ : ∃ rec : LoopState → Option Code → Loop, rec = fun st pe => { state := st, pending := pe, fn, tmps := a.tmps, params := ps, assign, body, defers := w.heap.size } := ⟨_, rfl⟩
  obtain ⟨W1, hW1⟩ : ∃ W1, (w.alloc (.deferred (some []))).alloc (.loop (rec .ready none)) = W1 := ⟨_, rfl⟩
  have hL1 : W1.heap[w.heap.size + 1]? = some (.loop (rec .ready none)) := by
    rw [← hW1]; have := World.alloc_heap_new (w.alloc (.deferred (some []))) (.loop (rec .ready none)); rwa [World.size_alloc] at this
  have hK1 : W1.heap[w.heap.size]? = some (.deferred (some [])) := by
    rw [← hW1]; exact (Below.heap_alloc _ _ _ (by simp)).trans (World.alloc_heap_new w _)
  have hb1 : Below w.heap.size w W1 := by
    rw [← hW1]; exact ((Below.refl _ w).alloc (Nat.le_refl _) _).alloc (by simp) _
  have hz1 : W1.heap.size = w.heap.size + 2 := by rw [← hW1]; simp
  have eg := enters_of Try.func112 (by kernel_rfl) rfl
  have hroom : ∀ {W : World} {l b : Nat} {o o' : Obj} {pre : List (List Int)}, I b pre W → W.heap[l]? = some o → o.isCells = false → w.heap.size ≤ l → I b pre (W.putObj l o') := fun hi hl hc hle =>
    hI _ _ _ _ _ hi (grownBy_putObj' _ _ _) (fun r e => by cases e; exact .inr ⟨hle, _, hl, hc⟩)
  refine ⟨w.heap.size + 1, [{ target := .collected w.heap.size, args := #[] }], W1, { target := .fn (.func 112) #[.pointer (some ⟨Bs, 0, none⟩)], args := #[.func (.yield (w.heap.size + 1)) #[] #[]] }, W1, 112,
    #[.func (.yield (w.heap.size + 1)) #[] #[]] ++ #[.pointer (some ⟨Bs, 0, none⟩)], W1, ?_, ?_, ?_, ?_, fun _ => by omega, ?_⟩
  · rw [← hW1, hrec]; exact run_enterLoop_outer _ _ _ _ _
  · simp only [resolve, hg]
    simp [go_sem]
  · intro f' hf'; exact trivial
  · simp [invoke, go_sem, eg]
  · refine (additions1_wide (n - 1) (by omega) (w.heap.size + 1) Bs s sa len cap ho hl
      (fun b pre W => I b pre W ∧ W.heap[w.heap.size + 1]? = some (.loop (rec .ready none)) ∧ W.heap[w.heap.size]? = some (.deferred (some [])) ∧ w.heap.size + 2 ≤ b)
      (fun b pre W h => hS b pre W h.1)
      (fun b pre W W' h hgr => ⟨hI _ _ _ _ _ h.1 hgr (fun r e => by cases e; exact .inl rfl), (hgr.block _ (Array.getElem?_eq_some_iff.1 h.2.1).1 (by simp; omega)).trans h.2.1, (hgr.block _ (Array.getElem?_eq_some_iff.1 h.2.2.1).1 (by simp; omega)).trans h.2.2.1, h.2.2.2⟩)
      ?_ W1 (fun W' b hbW hb => ⟨h0 _ _ (hb1.trans (hbW.mono (by omega))) (by omega), (hbW.block _ (by omega)).trans hL1, (hbW.block _ (by omega)).trans hK1, by omega⟩)
      (fun i => by
        have h := h0 w w.heap.size (Below.refl _ _) (Nat.le_refl _)
        have hb := (hS _ _ _ h).1 i
        have h' := h0 W1 W1.heap.size hb1 (by omega)
        exact (hS _ _ _ h').1 i)).mono ?_
    · rintro b pre x W ⟨hi, hlp, hk, hbb⟩ hHo hxl hxa hxr hpx
      have hlt : w.heap.size + 1 < W.heap.size := (Array.getElem?_eq_some_iff.1 hlp).1
      have hy := run_yield (P := Try.prog) (args := #[.slice (some ⟨b, 0, none⟩) len len]) hlp (by rw [hrec]; simp [hps])
      rw [hrec] at hy
      refine ⟨fn, _, assign, body, hy, roundIn_of_wpIn hfn (hassign _ _ W _ ⟨_, run_beginRound hlp (by rw [hrec]), ?_⟩)⟩
      have hl2 : (W.putObj (w.heap.size + 1) (.loop { rec .ready none with state := .busy })).heap[w.heap.size + 1]? = some (.loop { rec .ready none with state := .busy }) := World.putObj_heap_same hlt
      have hk2 : (W.putObj (w.heap.size + 1) (.loop { rec .ready none with state := .busy })).heap[w.heap.size]? = some (.deferred (some [])) := (World.putObj_heap_other (by omega)).trans hk
      have hH2 : Holds (W.putObj (w.heap.size + 1) (.loop { rec .ready none with state := .busy })) b x := hHo.other (grownBy_putObj' _ _ _) (by simp; omega)
      have hI2 : I b pre (W.putObj (w.heap.size + 1) (.loop { rec .ready none with state := .busy })) := hroom hi hlp rfl (by omega)
      refine wpIn_mono (hbody _ b pre x _ hI2 hH2 hxl hxa hxr hpx) ?_
      rintro e a3 W3 hp
      cases e with
      | normal =>
        obtain ⟨hk3, hi3, hH3⟩ := hp
        have hl3 := hk3.same _ _ (by omega) hl2 rfl
        have hd3 := hk3.same _ _ (Nat.le_refl _) hk2 rfl
        have hr := run_endRound (P := Try.prog) none hl3
        rw [hrec] at hr hl3
        refine ⟨_, _, hr, rfl, ⟨hroom hi3 hl3 rfl (by omega), ?_, (World.putObj_heap_other (by omega)).trans hd3, hbb⟩, hH3.other (grownBy_putObj' _ _ _) (by simp; omega)⟩
        rw [hrec]
        exact World.putObj_heap_same (Array.getElem?_eq_some_iff.1 hl3).1
      | ret => exact hp.elim
      | exit id => exact hp.elim
      | goto t => exact hp.elim
      | panic ch => exact hp.elim
      | outgrown => exact hp.elim
    · rintro e W2 ⟨⟨v, rfl⟩, b, hi, hlp, hk, hbb⟩
      exact ⟨none, _, by have := run_endLoop (P := Try.prog) hlp (by rw [hrec]; simp); rw [hrec] at this; exact this, hdone _ b _ (Nat.le_refl _) (hroom hi hlp rfl (by omega)) ((World.putObj_heap_other (by omega)).trans hk)⟩
theorem wpIn_rangeAdds {g : Operand} {ps : Array Tmp} {assign body : Code} {Q : Exit → Act → World → Prop} {a : Act} {w : World} {n : Nat} (hn : 4 ≤ n)
    (Bs : Nat) (s : Shop) (sa : Option Addr) (len cap : Nat) (hg : a.eval g = .func (.func 112) #[] #[.pointer (some ⟨Bs, 0, none⟩)]) (hps : ps.size = 1) (ho : s.ok = true) (hl : s.pigs.length = len)
    (I : Nat → List (List Int) → World → Prop)
    (hI : ∀ b pre W W' row, I b pre W → W.grownBy W' row → (∀ r, row = some r → r = b ∨ (w.heap.size ≤ r ∧ ∃ o : Obj, W.heap[r]? = some o ∧ o.isCells = false)) → I b pre W')
    (hS : ∀ b pre W, I b pre W → (∀ i, W.cell? ⟨Bs, i, none⟩ = (#[.int .i64 s.P, .int .i64 s.tl, .int .i64 s.th, .int .i64 s.al, .int .i64 s.ah, .int .i64 s.room, .int .i64 s.xl, .int .i64 s.xh, .int .i64 s.yl, .int .i64 s.yh, .slice sa len cap] : Array Value)[i]?) ∧ PigsAt W sa len s.pigs ∧ (0 < len → ∀ pb po, sa = some ⟨pb, po, none⟩ → pb ≠ b))
    (h0 : ∀ W' b, Below w.heap.size w W' → w.heap.size ≤ b → I b [] W') (a₁ : Value → Act)
    (hassign : ∀ (l : Nat) (v : Value) (W : World) (K : Act → World → Prop), K (a₁ v) W →
      assign.wpIn (Fence.wide.inRound l) (n - 1 - 1) Try.prog (Exit.then K (fun _ _ _ => False)) { tmps := (ps.zip #[v]).foldl (fun t (p, v) => t.setIfInBounds p v) a.tmps, defers := [] } W)
    (hbody : ∀ (l b : Nat) (pre : List (List Int)) (x : List Int) (W : World), I b pre W → Holds W b x → x.length = len → x ∈ allL s.most → s.room? x = true →
      body.wpIn (Fence.wide.inRound l) (n - 1 - 1) Try.prog (addPost w.heap.size I b (pre ++ [x]) x W) (a₁ (.slice (some ⟨b, 0, none⟩) len len)) W)
    (hdone : ∀ (D b : Nat) (W : World), w.heap.size ≤ D → I b ((allL s.most).filter s.room?) W → W.heap[D]? = some (.deferred (some [])) → Q .normal { a with defers := { target := .collected D, args := #[] } :: a.defers } W) :
    (Code.rangeFunc g ps assign body).wpIn Fence.wide n Try.prog Q a w :=
  wpIn_rangeAddsP hn Bs s sa len cap hg hps ho hl I hI hS h0 a₁ hassign (fun l b pre x W h1 h2 h3 h4 h5 _ => hbody l b pre x W h1 h2 h3 h4 h5) hdone
end Go.Proofs.Ytajabapcmpmboaa
