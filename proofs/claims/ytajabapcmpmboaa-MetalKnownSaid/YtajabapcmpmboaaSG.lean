/- metal's keeping and Short. -/
import Derived.Test.YtajabapcmpmboaaKB
import Derived.Test.YtajabapcmpmboaaQ
import Derived.RangeFuncNested
import Derived.Maps.OwnIn
import Derived.Maps.OwnSet
namespace Go.Proofs.Ytajabapcmpmboaa
set_option linter.unusedVariables false
set_option linter.unusedSimpArgs false
open Go.RowKit Go.Shelf

attribute [local go_sem] Oper.semAt_some

set_option maxHeartbeats 1000000 in
theorem wpIn_rangeAddsL {g : Operand} {ps : Array Tmp} {assign body : Code} {Q : Exit → Act → World → Prop} {a : Act} {w : World} {n : Nat} (hn : 4 ≤ n)
    (Bs : Nat) (s : Shop) (sa : Option Addr) (len cap : Nat) (hg : a.eval g = .func (.func 112) #[] #[.pointer (some ⟨Bs, 0, none⟩)]) (hps : ps.size = 1) (ho : s.ok = true) (hl : s.pigs.length = len)
    (I : Nat → List (List Int) → World → Prop)
    (hI : ∀ b pre W W' row, I b pre W → W.grownBy W' row → (∀ r, row = some r → r = b ∨ (w.heap.size ≤ r ∧ ∃ o : Obj, W.heap[r]? = some o ∧ o.isCells = false)) → I b pre W')
    (hS : ∀ b pre W, I b pre W → (∀ i, W.cell? ⟨Bs, i, none⟩ = (#[.int .i64 s.P, .int .i64 s.tl, .int .i64 s.th, .int .i64 s.al, .int .i64 s.ah, .int .i64 s.room, .int .i64 s.xl, .int .i64 s.xh, .int .i64 s.yl, .int .i64 s.yh, .slice sa len cap] : Array Value)[i]?) ∧ PigsAt W sa len s.pigs ∧ (0 < len → ∀ pb po, sa = some ⟨pb, po, none⟩ → pb ≠ b))
    (h0 : ∀ W' b, Below w.heap.size w W' → w.heap.size ≤ b → I b [] W') (a₁ : Value → Act)
    (hassign : ∀ (l : Nat) (v : Value) (W : World) (K : Act → World → Prop), K (a₁ v) W →
      assign.wpIn (Fence.wide.inRound l) (n - 1 - 1) Try.prog (Exit.then K (fun _ _ _ => False)) { tmps := (ps.zip #[v]).foldl (fun t (p, v) => t.setIfInBounds p v) a.tmps, defers := [] } W)
    (hbody : ∀ (l b : Nat) (pre : List (List Int)) (x : List Int) (W : World) (r : Loop), W.heap[l]? = some (.loop r) → w.heap.size ≤ l → I b pre W → Holds W b x → x.length = len → x ∈ allL s.most → s.room? x = true → (pre ++ [x]) <+: (allL s.most).filter s.room? →
      body.wpIn (Fence.wide.inRound l) (n - 1 - 1) Try.prog (addPost w.heap.size I b (pre ++ [x]) x W) (a₁ (.slice (some ⟨b, 0, none⟩) len len)) W)
    (hdone : ∀ (D b : Nat) (W : World), w.heap.size ≤ D → I b ((allL s.most).filter s.room?) W → W.heap[D]? = some (.deferred (some [])) → Q .normal { a with defers := { target := .collected D, args := #[] } :: a.defers } W) :
    (Code.rangeFunc g ps assign body).wpIn Fence.wide n Try.prog Q a w := by
  refine wpIn_rangeFunc ?_
  intro fn hfn
  obtain ⟨rec, hrec⟩ : ∃ rec : LoopState → Option Code → Loop, rec = fun st pe => { state := st, pending := pe, fn, tmps := a.tmps, params := ps, assign, body, defers := w.heap.size } := ⟨_, rfl⟩
  obtain ⟨W1, hW1⟩ : ∃ W1, (w.alloc (.deferred (some []))).alloc (.loop (rec .ready none)) = W1 := ⟨_, rfl⟩
  have hL1 : W1.heap[w.heap.size + 1]? = some (.loop (rec .ready none)) := by
    rw [← hW1]; have := World.alloc_heap_new (w.alloc (.deferred (some []))) (.loop (rec .ready none)); rwa [World.size_alloc] at this
  have hK1 : W1.heap[w.heap.size]? = some (.deferred (some [])) := by
    rw [← hW1]; exact (Below.heap_alloc _ _ _ (by simp)).trans (World.alloc_heap_new w _)
  have hb1 : Below w.heap.size w W1 := by
    rw [← hW1]; exact ((Below.refl _ w).alloc (Nat.le_refl _) _).alloc (by simp) _
  have hz1 : W1.heap.size = w.heap.size + 2 := by rw [← hW1]; simp
  have eg := enters_of Try.func112 (by kernel_rfl) rfl
  have hroom : ∀ {W : World} {l b : Nat} {o o' : Obj} {pre : List (List Int)}, I b pre W → W.heap[l]? = some o → o.isCells = false → w.heap.size ≤ l → I b pre (W.putObj l o') := fun hi hl hc hle =>
    hI _ _ _ _ _ hi (grownBy_putObj' _ _ _) (fun r e => by cases e; exact .inr ⟨hle, _, hl, hc⟩)
  refine ⟨w.heap.size + 1, [{ target := .collected w.heap.size, args := #[] }], W1, { target := .fn (.func 112) #[.pointer (some ⟨Bs, 0, none⟩)], args := #[.func (.yield (w.heap.size + 1)) #[] #[]] }, W1, 112,
    #[.func (.yield (w.heap.size + 1)) #[] #[]] ++ #[.pointer (some ⟨Bs, 0, none⟩)], W1, ?_, ?_, ?_, ?_, fun _ => by omega, ?_⟩
  · rw [← hW1, hrec]; exact run_enterLoop_outer _ _ _ _ _
  · simp only [resolve, hg]
    simp [go_sem]
  · intro f' hf'; exact trivial
  · simp [invoke, go_sem, eg]
  · refine (additions1_wide (n - 1) (by omega) (w.heap.size + 1) Bs s sa len cap ho hl
      (fun b pre W => I b pre W ∧ W.heap[w.heap.size + 1]? = some (.loop (rec .ready none)) ∧ W.heap[w.heap.size]? = some (.deferred (some [])) ∧ w.heap.size + 2 ≤ b)
      (fun b pre W h => hS b pre W h.1)
      (fun b pre W W' h hgr => ⟨hI _ _ _ _ _ h.1 hgr (fun r e => by cases e; exact .inl rfl), (hgr.block _ (Array.getElem?_eq_some_iff.1 h.2.1).1 (by simp; omega)).trans h.2.1, (hgr.block _ (Array.getElem?_eq_some_iff.1 h.2.2.1).1 (by simp; omega)).trans h.2.2.1, h.2.2.2⟩)
      ?_ W1 (fun W' b hbW hb => ⟨h0 _ _ (hb1.trans (hbW.mono (by omega))) (by omega), (hbW.block _ (by omega)).trans hL1, (hbW.block _ (by omega)).trans hK1, by omega⟩)
      (fun i => by
        have h := h0 w w.heap.size (Below.refl _ _) (Nat.le_refl _)
        have hb := (hS _ _ _ h).1 i
        have h' := h0 W1 W1.heap.size hb1 (by omega)
        exact (hS _ _ _ h').1 i)).mono ?_
    · rintro b pre x W ⟨hi, hlp, hk, hbb⟩ hHo hxl hxa hxr hpx
      have hlt : w.heap.size + 1 < W.heap.size := (Array.getElem?_eq_some_iff.1 hlp).1
      have hy := run_yield (P := Try.prog) (args := #[.slice (some ⟨b, 0, none⟩) len len]) hlp (by rw [hrec]; simp [hps])
      rw [hrec] at hy
      refine ⟨fn, _, assign, body, hy, roundIn_of_wpIn hfn (hassign _ _ W _ ⟨_, run_beginRound hlp (by rw [hrec]), ?_⟩)⟩
      have hl2 : (W.putObj (w.heap.size + 1) (.loop { rec .ready none with state := .busy })).heap[w.heap.size + 1]? = some (.loop { rec .ready none with state := .busy }) := World.putObj_heap_same hlt
      have hk2 : (W.putObj (w.heap.size + 1) (.loop { rec .ready none with state := .busy })).heap[w.heap.size]? = some (.deferred (some [])) := (World.putObj_heap_other (by omega)).trans hk
      have hH2 : Holds (W.putObj (w.heap.size + 1) (.loop { rec .ready none with state := .busy })) b x := hHo.other (grownBy_putObj' _ _ _) (by simp; omega)
      have hI2 : I b pre (W.putObj (w.heap.size + 1) (.loop { rec .ready none with state := .busy })) := hroom hi hlp rfl (by omega)
      refine wpIn_mono (hbody _ b pre x _ _ hl2 (by omega) hI2 hH2 hxl hxa hxr hpx) ?_
      rintro e a3 W3 hp
      cases e with
      | normal =>
        obtain ⟨hk3, hi3, hH3⟩ := hp
        have hl3 := hk3.same _ _ (by omega) hl2 rfl
        have hd3 := hk3.same _ _ (Nat.le_refl _) hk2 rfl
        have hr := run_endRound (P := Try.prog) none hl3
        rw [hrec] at hr hl3
        refine ⟨_, _, hr, rfl, ⟨hroom hi3 hl3 rfl (by omega), ?_, (World.putObj_heap_other (by omega)).trans hd3, hbb⟩, hH3.other (grownBy_putObj' _ _ _) (by simp; omega)⟩
        rw [hrec]
        exact World.putObj_heap_same (Array.getElem?_eq_some_iff.1 hl3).1
      | ret => exact hp.elim
      | exit id => exact hp.elim
      | goto t => exact hp.elim
      | panic ch => exact hp.elim
      | outgrown => exact hp.elim
    · rintro e W2 ⟨⟨v, rfl⟩, b, hi, hlp, hk, hbb⟩
      exact ⟨none, _, by have := run_endLoop (P := Try.prog) hlp (by rw [hrec]; simp); rw [hrec] at this; exact this, hdone _ b _ (Nat.le_refl _) (hroom hi hlp rfl (by omega)) ((World.putObj_heap_other (by omega)).trans hk)⟩

set_option maxHeartbeats 1000000 in
/-- The numbers from 1 to 4, for every loop body. -/
theorem limits1F_in (F : Fence) (n : Nat) (h6 : F.fn 105) (hro : F.round = none) (hn : 1 ≤ n) (l : Nat) (K : World → World → Prop) (J Jx : List (Fin 4) → World → Prop)
    (hY : ∀ pre (x : Fin 4) W, J pre W → pre.length < 4 → YieldAt F (n - 1) Try.prog l #[.int .i64 ((x.val : Int) + 1)] W fun e W' =>
      (e = .returned (.bool true) ∧ J (pre ++ [x]) W' ∧ K W W') ∨ (e = .returned (.bool false) ∧ Jx (pre ++ [x]) W'))
    (W : World) (h0 : J [] W) :
    CallsIn F n Try.prog 105 #[.func (.yield l) #[] #[]] W fun e W' => (∃ v, e = .returned v) ∧
      ((∃ ys, ys = [0, 1, 2, 3] ∧ J ys W') ∨ (∃ pre, pre <+: [0, 1, 2, 3] ∧ Jx pre W')) := by
  refine callsIn_of_wp Try.func105 rfl h6 ?_ hro
  simp only [Try.ntmps105, List.size_toArray, List.length_cons, List.length_nil, Nat.reduceAdd, Nat.reduceSub, Array.replicate_succ, Array.replicate_zero, List.push_toArray, List.append_toArray, List.nil_append, List.cons_append]
  gi_wp2
  gi_loopw [2] (fun i wr => ∃ k : Nat, k ≤ 4 ∧ i = .int .i64 ((k : Int) + 1) ∧ J ([0, 1, 2, 3].take k) wr) (fun i _ => 5 - (intOf i).toNat)
  case atStart => exact ⟨0, by omega, rfl, h0⟩
  case round =>
    obtain ⟨k, hk, rfl, hJ⟩ := hrel
    by_cases hlt : k < 4
    · obtain ⟨fn, tmps, assign, body, hy, hR⟩ := hY _ ⟨k, hlt⟩ wr hJ (by simp; omega)
      have hnext : ([0, 1, 2, 3] : List (Fin 4)).take k ++ [⟨k, hlt⟩] = [0, 1, 2, 3].take (k + 1) := by
        match k, hlt with
        | 0, _ => rfl
        | 1, _ => rfl
        | 2, _ => rfl
        | 3, _ => rfl
      have HN := Lib.hid hnext; clear hnext
      dsimp only at hy
      gi_wp2
      refine hR.mono ?_
      rintro e W3 (⟨rfl, hJ3, hk3⟩ | ⟨rfl, hJx3⟩)
      · gi_wp2
        go_roundw
        case rel => exact ⟨k + 1, by omega, by go_num, HN.out ▸ hJ3⟩
        case measure => simp [intOf]; omega
      · gi_wp2
        refine bodyPost_ret (results_none rfl _ _ _) rfl ?_
        exact ⟨⟨_, rfl⟩, .inr ⟨_, HN.out ▸ List.take_prefix _ _, hJx3⟩⟩
    · have hk' : k = 4 := by omega
      subst hk'
      gi_wp2
      go_end0
      exact ⟨⟨_, rfl⟩, .inl ⟨_, rfl, hJ⟩⟩
theorem limits_stopsF (F : Fence) (n : Nat) (h6 : F.fn 105) (hro : F.round = none) (hn : 1 ≤ n) (K : World → World → Prop) (w : World) :
    SeqStopsK F n Try.prog 105 #[] (fun x : Fin 4 => #[Value.int .i64 ((x.val : Int) + 1)]) K (fun ys => ys = [0, 1, 2, 3]) (fun pre => pre <+: [0, 1, 2, 3]) 4 w := fun l J Jx W _ _ _ hY h0 =>
  limits1F_in F n h6 hro hn l K J Jx hY W h0

/-- Whether a limit is kept with an addition; how many of some additions keep it. -/
def Shop.keepsX (s : Shop) (x : List Int) (i : Fin 4) : Bool := keepsB s (s.P + tot Pig.P s.pigs x) (s.tl + tot Pig.t s.pigs x) (s.th + tot Pig.t s.pigs x) (s.al + tot Pig.a s.pigs x) (s.ah + tot Pig.a s.pigs x) ((i.val : Int) + 1)
def Shop.keepN (s : Shop) (xs : List (List Int)) (i : Fin 4) : Int := ((xs.countP fun x => s.keepsX x i : Nat) : Int)
def tallyF (s : Shop) (pre : List (List Int)) (x : List Int) (ps : List (Fin 4)) (i : Fin 4) : Int := s.keepN pre i + (if s.keepsX x i then (ps.count i : Int) else 0)
theorem tallyF_nil (s : Shop) (pre : List (List Int)) (x : List Int) (i : Fin 4) : tallyF s pre x [] i = s.keepN pre i := by simp [tallyF]
theorem tallyF_all (s : Shop) (pre : List (List Int)) (x : List Int) (i : Fin 4) : tallyF s pre x [0, 1, 2, 3] i = s.keepN (pre ++ [x]) i := by
  have h : ([0, 1, 2, 3] : List (Fin 4)).count i = 1 := by revert i; decide
  unfold tallyF Shop.keepN
  rw [List.countP_append, h]
  cases hk : s.keepsX x i <;> simp [hk]
theorem tallyF_no {s : Shop} {pre : List (List Int)} {x : List Int} {ps : List (Fin 4)} {y : Fin 4} (h : s.keepsX x y = false) (i : Fin 4) : tallyF s pre x (ps ++ [y]) i = tallyF s pre x ps i := by
  unfold tallyF
  by_cases e : y = i
  · subst e; rw [h]; simp
  · rw [List.count_append, List.count_singleton]
    simp [e]
theorem tallyF_yes {s : Shop} {pre : List (List Int)} {x : List Int} {ps : List (Fin 4)} {y : Fin 4} (h : s.keepsX x y = true) : tallyF s pre x (ps ++ [y]) y = tallyF s pre x ps y + 1 := by
  unfold tallyF
  rw [h]; simp; omega
theorem tallyF_other {s : Shop} {pre : List (List Int)} {x : List Int} {ps : List (Fin 4)} {y i : Fin 4} (h : y ≠ i) : tallyF s pre x (ps ++ [y]) i = tallyF s pre x ps i := by
  unfold tallyF
  rw [List.count_append, List.count_singleton]
  simp [h]
theorem tallyF_bd (s : Shop) (pre : List (List Int)) (x : List Int) (ps : List (Fin 4)) (i : Fin 4) : 0 ≤ tallyF s pre x ps i ∧ tallyF s pre x ps i ≤ pre.length + ps.length := by
  unfold tallyF Shop.keepN
  have h1 := List.countP_le_length (p := fun x => s.keepsX x i) (l := pre)
  have h2 := List.count_le_length (a := i) (l := ps)
  split <;> omega

/-- A map of counts, from 1 to 4. -/
def Tally (W : World) (mb n : Nat) (f : Fin 4 → Int) : Prop :=
  ∃ D : DataW Unit, W.ownsMap Try.prog 3 (plainElem (H := Unit) Try.prog 3) mb n D ∧ ∀ i : Fin 4, D.atKey (.int .i64 ((i.val : Int) + 1)) (.lit (.int .i64 0)) = .lit (.int .i64 (f i))
theorem Tally.kept {W W' : World} {mb n : Nat} {f : Fin 4 → Int} {row : Option Nat} (h : Tally W mb n f) (hg : W.grownBy W' row) (hne : some mb ≠ row) : Tally W' mb n f := by
  obtain ⟨D, h1, h2⟩ := h
  exact ⟨D, h1.kept hg hne, h2⟩
theorem Tally.as {W : World} {mb n n' : Nat} {f g : Fin 4 → Int} (h : Tally W mb n f) (hn : n ≤ n') (e : ∀ i, f i = g i) : Tally W mb n' g := by
  obtain ⟨D, h1, h2⟩ := h
  exact ⟨D, h1.mono hn, fun i => by rw [h2, e]⟩
theorem Tally.lt {W : World} {mb n : Nat} {f : Fin 4 → Int} (h : Tally W mb n f) : mb < W.heap.size := by obtain ⟨D, h1, _⟩ := h; exact h1.lt
theorem Tally.put {W W' : World} {mb n n' : Nat} {f g : Fin 4 → Int} {D : DataW Unit} {y : Fin 4} {c : Int} (h1 : W.ownsMap Try.prog 3 (plainElem (H := Unit) Try.prog 3) mb n D) (h2 : ∀ i : Fin 4, D.atKey (.int .i64 ((i.val : Int) + 1)) (.lit (.int .i64 0)) = .lit (.int .i64 (f i)))
    (h : W'.ownsMap Try.prog 3 (plainElem (H := Unit) Try.prog 3) mb n' (D.put (.int .i64 ((y.val : Int) + 1)) (.lit (.int .i64 c)))) (hs : g y = c) (ho : ∀ i, y ≠ i → g i = f i) : Tally W' mb n' g := by
  refine ⟨_, h, fun i => ?_⟩
  by_cases e : y = i
  · subst e
    rw [Maps.atKey_put_same h1.isMap (by exact trivial), hs]
  · rw [Maps.atKey_put_other (by intro h; injection h with _ h; exact e (Fin.ext (by omega))), h2, ho i e]

theorem wf4 : ∀ y : Fin 4, (Lit.int .i64 ((y.val : Int) + 1)).wf = true := by decide
theorem But1.trans {B : Nat} {w w' w2 : World} (h : But1 B w w') (k : But1 B w' w2) : But1 B w w2 :=
  ⟨k.os.trans h.os, k.tape.trans h.tape, k.output.trans h.output, Nat.le_trans h.size k.size, fun j hj hne => (k.block j (Nat.lt_of_lt_of_le hj h.size) hne).trans (h.block j hj hne)⟩
theorem But1.ofBelow {B : Nat} {w w' : World} (h : Below w.heap.size w w') : But1 B w w' := (But1.refl B w).below h
theorem Holds.but1 {B b : Nat} {w w' : World} {x : List Int} (h : Holds w b x) (k : But1 B w w') (hne : b ≠ B) : Holds w' b x := by
  have e : w'.heap[b]? = w.heap[b]? := k.block b h.1 hne
  exact ⟨Nat.lt_of_lt_of_le h.1 k.size, fun i hi => (World.cell?_of_block (w := w) (a := ⟨b, i, none⟩) e).trans (h.2.1 i hi), fun i => (World.frozen?_of_block (w := w) (a := ⟨b, i, none⟩) e).trans (h.2.2 i)⟩
theorem shop_keeps (s : Shop) (a : Option Addr) (len cap : Nat) (x : List Int) (ho : s.ok = true) (hadd : s.isAdd x = true) (hpl : s.pigs.length = len) (i : Fin 4) (w : World) :
    Calls Try.prog 77 #[.agg #[.int .i64 s.P, .int .i64 s.tl, .int .i64 s.th, .int .i64 s.al, .int .i64 s.ah, .int .i64 s.room, .int .i64 s.xl, .int .i64 s.xh, .int .i64 s.yl, .int .i64 s.yh, .slice a len cap], .agg #[.int .i64 (s.P + tot Pig.P s.pigs x), .int .i64 (s.tl + tot Pig.t s.pigs x), .int .i64 (s.th + tot Pig.t s.pigs x), .int .i64 (s.al + tot Pig.a s.pigs x), .int .i64 (s.ah + tot Pig.a s.pigs x)], .int .i64 ((i.val : Int) + 1)] w fun e w' => e = .returned (.bool (s.keepsX x i)) ∧ Below w.heap.size w w' := by
  obtain ⟨hl, hfew⟩ := Shop.isAdd_len hadd
  have hf := s.few x ho hfew
  have bt := tot_all Pig.t bd_tin s.pigs x hf hpl (by omega)
  have ba := tot_all Pig.a bd_antimony s.pigs x hf hpl (by omega)
  have hbd := Shop.ok_bd ho
  exact keeps_any s a len cap _ _ _ _ _ _ w (Shop.tot_P ho hadd) (Shop.lims ho).1 (Shop.lims ho).2 (by unfold Fair; omega) (by unfold Fair; omega) (by unfold Fair; omega) (by unfold Fair; omega)

set_option maxRecDepth 100000 in
set_option maxHeartbeats 4000000 in
theorem keeping_any (s : Shop) (a : Option Addr) (len cap : Nat) (w : World) (hp : PigsAt w a len s.pigs) (ho : s.ok = true) :
    Calls Try.prog 80 #[.agg #[.int .i64 s.P, .int .i64 s.tl, .int .i64 s.th, .int .i64 s.al, .int .i64 s.ah, .int .i64 s.room, .int .i64 s.xl, .int .i64 s.xh, .int .i64 s.yl, .int .i64 s.yh, .slice a len cap]] w fun e w' => ∃ mb, e = .returned (.map (some mb)) ∧ w.heap.size ≤ mb ∧ Tally w' mb 10000 (s.keepN ((allL s.most).filter s.room?)) ∧ Below w.heap.size w w' := by
  have hpl := hp.1
  have hl4 : len ≤ 4 := by have := Shop.ok_bd ho; omega
  have hrows := rows_few ho
  have hmm := @run_makeMap Try.prog
  refine (callsIn_wide (n := 12)).1 ?_
  refine callsIn_of_wp_marks Try.func80 rfl trivial ?_ rfl
  simp only [Try.ntmps80, List.size_toArray, List.length_cons, List.length_nil, Nat.reduceAdd, Nat.reduceSub, Array.replicate_succ, Array.replicate_zero, List.push_toArray, List.append_toArray, List.nil_append, List.cons_append]
  gi_wp2_with (refine ⟨trivial, ?_⟩; gi_at_call 106; refine (additions_in _ s a len cap _).mono ?_; rintro e w2 ⟨rfl, rfl⟩)
  obtain ⟨Wl, hWl⟩ : ∃ Wl, (((w.alloc (.cells #[.int .i64 s.P, .int .i64 s.tl, .int .i64 s.th, .int .i64 s.al, .int .i64 s.ah, .int .i64 s.room, .int .i64 s.xl, .int .i64 s.xh, .int .i64 s.yl, .int .i64 s.yh, .slice a len cap] 78)).alloc (.map #[] 0)).alloc (.cells #[.map (some (w.heap.size + 1))] 93)).alloc (.cells #[.int .i64 s.P, .int .i64 s.tl, .int .i64 s.th, .int .i64 s.al, .int .i64 s.ah, .int .i64 s.room, .int .i64 s.xl, .int .i64 s.xh, .int .i64 s.yl, .int .i64 s.yh, .slice a len cap] 78) = Wl := ⟨_, rfl⟩
  have hzl : Wl.heap.size = w.heap.size + 4 := by rw [← hWl]; simp
  have hBw : Below w.heap.size w Wl := by rw [← hWl]; exact (by repeat (first | exact Below.refl _ _ | (refine Below.alloc ?_ (by first | omega | (simp; omega) | simp) _) | (refine Below.setCell ?_ (by first | omega | (simp; omega) | simp) _) | refine Below.drew ?_))
  have bF : Boxed Wl (w.heap.size + 1 + 1) 93 (.map (some (w.heap.size + 1))) := by
    rw [← hWl]; have h := Boxed.new ((w.alloc (.cells #[.int .i64 s.P, .int .i64 s.tl, .int .i64 s.th, .int .i64 s.al, .int .i64 s.ah, .int .i64 s.room, .int .i64 s.xl, .int .i64 s.xh, .int .i64 s.yl, .int .i64 s.yh, .slice a len cap] 78)).alloc (.map #[] 0)) 93 (.map (some (w.heap.size + 1))); simp only [World.size_alloc] at h; exact h.alloc _
  have tF : Tally Wl (w.heap.size + 1) 0 (s.keepN []) := by
    have h := World.ownsMap_made (w.alloc (.cells #[.int .i64 s.P, .int .i64 s.tl, .int .i64 s.th, .int .i64 s.al, .int .i64 s.ah, .int .i64 s.room, .int .i64 s.xl, .int .i64 s.xh, .int .i64 s.yl, .int .i64 s.yh, .slice a len cap] 78)) Try.prog 3 (plainElem (H := Unit) Try.prog 3)
    rw [World.size_alloc] at h
    rw [← hWl]
    exact ⟨_, (h.alloc _).alloc _, fun i => rfl⟩
  have hcl : ∀ i, Wl.cell? ⟨w.heap.size + 1 + 1 + 1, i, none⟩ = (#[.int .i64 s.P, .int .i64 s.tl, .int .i64 s.th, .int .i64 s.al, .int .i64 s.ah, .int .i64 s.room, .int .i64 s.xl, .int .i64 s.xh, .int .i64 s.yl, .int .i64 s.yh, .slice a len cap] : Array Value)[i]? := fun i => by rw [← hWl]; exact new4 _ _ _ _ _ _ i
  have hsl : ∀ i, Wl.cell? ⟨w.heap.size, i, none⟩ = (#[.int .i64 s.P, .int .i64 s.tl, .int .i64 s.th, .int .i64 s.al, .int .i64 s.ah, .int .i64 s.room, .int .i64 s.xl, .int .i64 s.xh, .int .i64 s.yl, .int .i64 s.yh, .slice a len cap] : Array Value)[i]? := fun i => by
    have e1 : Below (w.heap.size + 1) (w.alloc (.cells #[.int .i64 s.P, .int .i64 s.tl, .int .i64 s.th, .int .i64 s.al, .int .i64 s.ah, .int .i64 s.room, .int .i64 s.xl, .int .i64 s.xh, .int .i64 s.yl, .int .i64 s.yh, .slice a len cap] 78)) Wl := by rw [← hWl]; exact (by repeat (first | exact Below.refl _ _ | (refine Below.alloc ?_ (by first | omega | (simp; omega) | simp) _) | (refine Below.setCell ?_ (by first | omega | (simp; omega) | simp) _) | refine Below.drew ?_))
    rw [e1.cell (p := ⟨w.heap.size, i, none⟩) (show w.heap.size < w.heap.size + 1 by omega)]
    exact World.cell?_alloc_new w _ _ i
  have hpgl := hp.below hBw
  have hpb : 0 < len → ∀ pb po, a = some ⟨pb, po, none⟩ → pb < w.heap.size := fun h0 pb po e => by
    obtain ⟨b', o', e', hb', _⟩ := hp.2.2 h0; rw [e] at e'; cases e'; exact hb'
  rw [hWl]
  clear hWl hp
  refine wpIn_rangeAddsL (n := 12) (by omega) (w.heap.size + 1 + 1 + 1) s a len cap rfl rfl ho hpl
    (fun b pre W => (Boxed W (w.heap.size + 1 + 1) 93 (.map (some (w.heap.size + 1))) ∧ Tally W (w.heap.size + 1) (4 * pre.length) (s.keepN pre)) ∧ But1 (w.heap.size + 1) Wl W ∧ Wl.heap.size ≤ b)
    ?hI ?hS ?h0 (fun y => { tmps := #[.agg #[.int .i64 s.P, .int .i64 s.tl, .int .i64 s.th, .int .i64 s.al, .int .i64 s.ah, .int .i64 s.room, .int .i64 s.xl, .int .i64 s.xh, .int .i64 s.yl, .int .i64 s.yh, .slice a len cap], .pointer (some ⟨w.heap.size, 0, none⟩), .map none, .pointer (some ⟨w.heap.size + 1 + 1, 0, none⟩), y, undef, undef, .map (some (w.heap.size + 1)), .agg #[.int .i64 s.P, .int .i64 s.tl, .int .i64 s.th, .int .i64 s.al, .int .i64 s.ah, .int .i64 s.room, .int .i64 s.xl, .int .i64 s.xh, .int .i64 s.yl, .int .i64 s.yh, .slice a len cap], .func (.func 112) #[] #[.pointer (some ⟨w.heap.size + 1 + 1 + 1, 0, none⟩)], y, undef, undef, undef, undef, undef, undef, undef, undef, undef, undef, undef, undef, undef, undef], defers := [] }) ?assign ?body ?done
  case hI =>
    rintro b pre W W' row ⟨⟨hb, ht⟩, h3, hbb⟩ hg hr
    exact ⟨⟨hb.kept hg (fun e => by have := hr _ e.symm; omega), ht.kept hg (fun e => by have := hr _ e.symm; omega)⟩, h3.grown hg (fun r e => by rcases hr r e with h1 | h1 <;> omega), hbb⟩
  case hS =>
    rintro b pre W ⟨hb, h3, hbb⟩
    exact ⟨fun i => (h3.cell (by omega) (by omega) i).trans (hcl i), h3.pigs hpgl (fun h0 pb po e => by have := hpb h0 pb po e; omega), fun h0 pb po e => by have := hpb h0 pb po e; omega⟩
  case h0 =>
    intro W' b hb hle
    exact ⟨⟨(hb.block _ (by omega)).trans bF, tF.kept (grown_none hb) (by simp)⟩, (But1.refl _ _).below hb, hle⟩
  case assign =>
    intro l y W K hK
    gi_wp2
    exact hK
  case body =>
    rintro l b pre x W r hr hlge ⟨⟨hbk, htl⟩, h3, hbb⟩ hHo hxl hxa hxr hpx
    have hs2 : ∀ i, W.cell? ⟨w.heap.size, i, none⟩ = (#[.int .i64 s.P, .int .i64 s.tl, .int .i64 s.th, .int .i64 s.al, .int .i64 s.ah, .int .i64 s.room, .int .i64 s.xl, .int .i64 s.xh, .int .i64 s.yl, .int .i64 s.yh, .slice a len cap] : Array Value)[i]? := fun i => (h3.cell (by omega) (by omega) i).trans (hsl i)
    have hpW : PigsAt W a len s.pigs := h3.pigs hpgl (fun h0 pb po e => by have := hpb h0 pb po e; omega)
    have hzW : Wl.heap.size ≤ W.heap.size := h3.size
    have hxi := ints_len hHo hxl hl4
    have hadd := Shop.isAdd_all ho hxa hxr
    have hfw := Shop.few_all ho hxa
    have HA := fun W1 (hb : Below W.heap.size W W1) => after_any s a len cap (some ⟨b, 0, none⟩) len x W1 (hpW.below hb) (hxi.below hb) ho (Shop.isAdd_len hadd).2
    unfold potCells at HA
    replace HA := Lib.hid HA
    have HK := Lib.hid (fun i w1 => shop_keeps s a len cap x ho hadd hpl i w1)
    have hplen : pre.length + 1 ≤ 1296 := by
      have e2 := hpx.length_le
      have e3 : ((allL s.most).filter s.room?).length ≤ (allL s.most).length := List.length_filter_le _ _
      simp only [List.length_append, List.length_cons, List.length_nil] at e2
      omega
    generalize s.P + tot Pig.P s.pigs x = n1 at *
    generalize s.tl + tot Pig.t s.pigs x = n2 at *
    generalize s.th + tot Pig.t s.pigs x = n3 at *
    generalize s.al + tot Pig.a s.pigs x = n4 at *
    generalize s.ah + tot Pig.a s.pigs x = n5 at *
    have HHo := Lib.hid hHo
    have HB3 := Lib.hid h3
    have HTL := Lib.hid htl
    have HS2 := Lib.hid hs2
    have cK := hbk.cell
    have fK := hbk.frozen
    obtain ⟨x0, x1, x2, x3, x4, x5, x6, x7, x8, x9, x10⟩ := box11 hs2
    clear hHo h3 htl hpW hxi hadd hfw hs2
    have d1 : w.heap.size < W.heap.size := by omega
    have d2 : w.heap.size + 1 + 1 < W.heap.size := by omega
    gi_wp2_with (first | (refine ⟨trivial, ?_⟩; gi_at_call 69; refine (CallsIn.inRound l (callsIn_wide.2 (HA.out _ (Below.refl _ _)))).mono ?_; rintro e w2 ⟨rfl, hb2⟩; have hz2 := hb2.size) | (refine ⟨trivial, ?_⟩; gi_at_call 76; refine (CallsIn.inRound l (limits_in Fence.wide _ trivial rfl _)).mono ?_; rintro e w3 ⟨rfl, rfl⟩))
    obtain ⟨Wp, hWp⟩ : ∃ Wp, w2.alloc (.cells #[.int .i64 n1, .int .i64 n2, .int .i64 n3, .int .i64 n4, .int .i64 n5] 25) = Wp := ⟨_, rfl⟩
    have hB2 : Below W.heap.size W Wp := by rw [← hWp]; exact hb2.alloc hb2.size _
    have hzp : Wp.heap.size = w2.heap.size + 1 := by rw [← hWp]; simp
    have hpot : ∀ i, Wp.cell? ⟨w2.heap.size, i, none⟩ = (#[.int .i64 n1, .int .i64 n2, .int .i64 n3, .int .i64 n4, .int .i64 n5] : Array Value)[i]? := fun i => by rw [← hWp]; exact World.cell?_alloc_new _ _ _ i
    rw [hWp]
    clear hWp hb2
    have hrp : Wp.heap[l]? = some (.loop r) := (hB2.block l (Array.getElem?_eq_some_iff.1 hr).1).trans hr
    have hKp : KeepsFrom Wl.heap.size W Wp := (keeps_others hB2).from _
    have htp : Tally Wp (w.heap.size + 1) (4 * pre.length) (s.keepN pre) := HTL.out.kept (grown_none hB2) (by simp)
    have hmlt := htp.lt
    clear x0 x1 x2 x3 x4 x5 x6 x7 x8 x9 x10 cK fK
    have h1' : 1 ≤ 12 - 1 - 1 := by decide
    refine wpIn_rangeFunc_ownN (l₀ := l) (r₀ := r) rfl hrp h1' (gf := 105) (lb := #[]) rfl trivial (enters_of Try.func105 (by kernel_rfl) rfl)
      ((limits_stopsF Fence.wide (12 - 1 - 1 - 1) trivial rfl (by decide) (fun _ _ => True) Wp).inRound l) (fun _ _ => trivial) (fun _ _ _ _ _ _ _ _ => trivial) (Below.refl _ _) (fun _ => rfl)
      (fun ps W' => Tally W' (w.heap.size + 1) (4 * pre.length + ps.length) (tallyF s pre x ps) ∧ But1 (w.heap.size + 1) Wp W' ∧ KeepsFrom Wl.heap.size Wp W')
      (fun _ _ _ => False)
      (OwnFrom.and (fun _ _ _ row hs hg hr => hs.kept hg (fun e => by have := (hr _ e.symm).1; omega)) (OwnFrom.and (fun _ _ _ row hs hg hr => hs.grown hg (fun r e => .inl (hr r e).1)) (ownFrom_keepsFrom (Nat.le_refl _))))
      (fun _ _ _ _ _ hs _ _ => hs)
      ⟨htp.as (by simp) (fun i => (tallyF_nil s pre x i).symm), But1.refl _ _, KeepsFrom.refl _ _⟩
      (fun y a'' _ => a'' = { tmps := #[.agg #[.int .i64 s.P, .int .i64 s.tl, .int .i64 s.th, .int .i64 s.al, .int .i64 s.ah, .int .i64 s.room, .int .i64 s.xl, .int .i64 s.xh, .int .i64 s.yl, .int .i64 s.yh, .slice a len cap], .pointer (some ⟨w.heap.size, 0, none⟩), .map none, .pointer (some ⟨w.heap.size + 1 + 1, 0, none⟩), .slice (some ⟨b, 0, none⟩) len len, .pointer (some ⟨w2.heap.size, 0, none⟩), .int .i64 ((y.val : Int) + 1), .map (some (w.heap.size + 1)), .agg #[.int .i64 s.P, .int .i64 s.tl, .int .i64 s.th, .int .i64 s.al, .int .i64 s.ah, .int .i64 s.room, .int .i64 s.xl, .int .i64 s.xh, .int .i64 s.yl, .int .i64 s.yh, .slice a len cap], .func (.func 112) #[] #[.pointer (some ⟨w.heap.size + 1 + 1 + 1, 0, none⟩)], .slice (some ⟨b, 0, none⟩) len len, .agg #[.int .i64 s.P, .int .i64 s.tl, .int .i64 s.th, .int .i64 s.al, .int .i64 s.ah, .int .i64 s.room, .int .i64 s.xl, .int .i64 s.xh, .int .i64 s.yl, .int .i64 s.yh, .slice a len cap], .slice (some ⟨b, 0, none⟩) len len, .agg #[.int .i64 n1, .int .i64 n2, .int .i64 n3, .int .i64 n4, .int .i64 n5], .func (.func 105) #[] #[], .int .i64 ((y.val : Int) + 1), undef, undef, undef, undef, undef, undef, undef, undef, undef], defers := [] })
      (fun _ _ _ _ _ _ hs _ _ => hs)
      ?assign2 ?body2 ?done2 ?stop2
    case assign2 =>
      rintro l2 pre' y W' K hi hK
      gi_wp2
      exact hK _ _ (KeepsFrom.refl _ _) trivial hi rfl
    case body2 =>
      rintro l2 ps y a'' W' _ _ ⟨htl2, hB1, hKF⟩ rfl hlt
      have hz1 := hB1.size
      have hbx : ∀ i, W'.cell? ⟨w.heap.size, i, none⟩ = (#[.int .i64 s.P, .int .i64 s.tl, .int .i64 s.th, .int .i64 s.al, .int .i64 s.ah, .int .i64 s.room, .int .i64 s.xl, .int .i64 s.xh, .int .i64 s.yl, .int .i64 s.yh, .slice a len cap] : Array Value)[i]? := fun i => (hB1.cell (by have := hB2.size; omega) (by omega) i).trans ((hB2.cell (p := ⟨w.heap.size, i, none⟩) d1).trans (HS2.out i))
      have hpx2 : ∀ i, W'.cell? ⟨w2.heap.size, i, none⟩ = (#[.int .i64 n1, .int .i64 n2, .int .i64 n3, .int .i64 n4, .int .i64 n5] : Array Value)[i]? := fun i => (hB1.cell (by omega) (by omega) i).trans (hpot i)
      have hkx : W'.cell? ⟨w.heap.size + 1 + 1, 0, none⟩ = some (.map (some (w.heap.size + 1))) := (hB1.cell (by have := hB2.size; omega) (by omega) 0).trans ((hB2.cell (p := ⟨w.heap.size + 1 + 1, 0, none⟩) d2).trans hbk.cell)
      obtain ⟨x0, x1, x2, x3, x4, x5, x6, x7, x8, x9, x10⟩ := box11 hbx
      obtain ⟨p0, p1, p2, p3, p4⟩ : W'.cell? ⟨w2.heap.size, 0, none⟩ = some (.int .i64 n1) ∧ W'.cell? ⟨w2.heap.size, 1, none⟩ = some (.int .i64 n2) ∧ W'.cell? ⟨w2.heap.size, 2, none⟩ = some (.int .i64 n3) ∧ W'.cell? ⟨w2.heap.size, 3, none⟩ = some (.int .i64 n4) ∧ W'.cell? ⟨w2.heap.size, 4, none⟩ = some (.int .i64 n5) := ⟨hpx2 0, hpx2 1, hpx2 2, hpx2 3, hpx2 4⟩
      clear hbx hpx2
      have hbd := tallyF_bd s pre x ps y
      have HKB := Lib.hid (fun i => tallyF_no (s := s) (pre := pre) (x := x) (ps := ps) (y := y) (i := i))
      have HKO := Lib.hid (fun i => tallyF_other (s := s) (pre := pre) (x := x) (ps := ps) (y := y) (i := i))
      have HKY := Lib.hid (tallyF_yes (s := s) (pre := pre) (x := x) (ps := ps) (y := y))
      have HT2 := Lib.hid htl2
      have HB1 := Lib.hid hB1
      have HKF := Lib.hid hKF
      have hmlt2 := htl2.lt
      have d3 : w.heap.size + 1 + 1 < W'.heap.size := by have := hB2.size; omega
      clear htl2 hB1 hKF
      obtain ⟨kb, hkb⟩ : ∃ kb, s.keepsX x y = kb := ⟨_, rfl⟩
      have HC := Lib.hid (fun w1 => hkb ▸ HK.out y w1)
      have HKV := Lib.hid hkb
      clear hkb
      cases kb
      · gi_wp2_with (refine ⟨trivial, ?_⟩; gi_at_call 77; refine (CallsIn.inRound l2 (CallsIn.inRound l (callsIn_wide.2 (HC.out _)))).mono ?_; rintro e w4 ⟨rfl, hb4⟩)
        exact ⟨(keeps_others hb4).from _, trivial, (HT2.out.kept (grown_none hb4) (by simp)).as (by simp) (fun i => (HKB.out i HKV.out).symm), HB1.out.below hb4, HKF.out.trans ((keeps_others hb4).from _)⟩
      · obtain ⟨D, hown, hat0⟩ := HT2.out
        have hwf : (Lit.int .i64 ((y.val : Int) + 1)).wf = true := wf4 y
        have hwv : (Lit.int .i64 (tallyF s pre x ps y + 1)).wf = true := WalkArith.wf_i64 (by omega)
        have hnl : 4 * pre.length + ps.length < maxLen := by unfold maxLen; omega
        have hkey := Maps.keyOf_int_mk Try.underlying3 hwf
        gi_wp2_with (first
          | (refine ⟨trivial, ?_⟩; gi_at_call 77; refine (CallsIn.inRound l2 (CallsIn.inRound l (callsIn_wide.2 (HC.out _)))).mono ?_; rintro e w4 ⟨rfl, hb4⟩; have hk4 : w4.cell? ⟨w.heap.size + 1 + 1, 0, none⟩ = some (.map (some (w.heap.size + 1))) := ((hb4.cell (p := ⟨w.heap.size + 1 + 1, 0, none⟩) d3).trans hkx); have hown4 := hown.kept (grown_none hb4) (by simp))
          | (gi_at_lookup; refine wpListIn_lookup_own_int _ rfl _ _ 93 rfl 3 3 .i64 (Maps.int_keyed Try.underlying3) Try.underlying93 Try.underlying3 (Try.zeroValue3 _) (w.heap.size + 1) _ _ rfl hown4 _ _ rfl hkey ?_; intro c hat hwc; obtain rfl : c = tallyF s pre x ps y := (by have h := (hat0 y).symm.trans hat; simpa using h.symm))
          | (gi_at_mapUpdate; refine wpListIn_mapUpdate_own _ rfl _ _ _ 93 rfl 3 3 (Maps.int_keyed Try.underlying3) Try.underlying93 _ (w.heap.size + 1) _ _ rfl hown4 hnl _ _ _ rfl rfl hkey _ [] (plainElem_int Try.underlying3 hwv) ?_; intro w5 hown5 hgrow5))
        exact ⟨((keeps_others hb4).from _).trans (KeepsFrom.of_grownBy hgrow5 (fun j e => by cases e; omega)), trivial, Tally.put hown4 hat0 (by rw [List.length_append]; exact hown5) (HKY.out HKV.out) (fun i hi => HKO.out i hi), (HB1.out.below hb4).grown hgrow5 (fun r e => by cases e; exact .inr rfl), HKF.out.trans (((keeps_others hb4).from _).trans (KeepsFrom.of_grownBy hgrow5 (fun j e => by cases e; omega)))⟩
    case done2 =>
      rintro ys W' rfl ⟨htl2, hB1, hKF⟩
      gi_wp2
      exact ⟨hKp.trans hKF, ⟨⟨(hB1.block _ (by have := hB2.size; omega) (by omega)).trans ((hB2.block _ (by omega)).trans hbk), htl2.as (by simp; omega) (fun i => tallyF_all s pre x i)⟩, (HB3.out.below hB2).trans hB1, hbb⟩, (HHo.out.below hB2).but1 hB1 (by omega)⟩
    case stop2 =>
      rintro c ps W' _ h
      exact h.elim
  case done =>
    rintro D b W hD ⟨⟨hbk, htl⟩, h3, hbb⟩ hK
    have cK := hbk.cell
    gi_wp2
    have hlen : 4 * ((allL s.most).filter s.room?).length ≤ 10000 := by
      have e3 : ((allL s.most).filter s.room?).length ≤ (allL s.most).length := List.length_filter_le _ _
      omega
    refine ⟨by simp, .inl ⟨_, _, rfl, run_takeDeferred hK, ?_⟩⟩
    refine ⟨.map (some (w.heap.size + 1)), by simp [results, Try.results80, go_sem], w.heap.size + 1, rfl, by omega, (htl.as hlen (fun _ => rfl)).kept (grownBy_putObj' _ D _) (fun e => by cases e; omega), ?_⟩
    exact (hBw.trans (h3.toBelow (by omega) hBw.size)).trans (belowK_b (w := w) (Nat.le_refl _) W D _ (.deferred none) (by omega) hK rfl rfl)
end Go.Proofs.Ytajabapcmpmboaa
