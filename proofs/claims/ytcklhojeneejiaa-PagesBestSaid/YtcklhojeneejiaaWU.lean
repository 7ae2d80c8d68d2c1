/- Package pages: withPiece. -/
import Derived.Test.YtcklhojeneejiaaWT
import Derived.Test.YtcklhojeneejiaaZY
namespace Go.Proofs.Ytcklhojeneejiaa
set_option linter.unusedVariables false
set_option linter.unusedSimpArgs false
open Go.RowKit Go.Shelf

theorem gb_low {W X Y : World} {R : Option Nat} {n : Nat} (h : W.grownBy X R) (hb : Below n X Y) (hn : W.heap.size ≤ n) : W.grownBy Y R :=
  ⟨hb.os.trans h.os, hb.tape.trans h.tape, hb.output.trans h.output, Nat.le_trans h.size hb.size, fun k hk hne => (hb.block k (Nat.lt_of_lt_of_le hk hn)).trans (h.block k hk hne)⟩
theorem gbx_cell {W X : World} {g : Nat} (h : W.grownBy X (some g)) {b : Nat} (hb : b < W.heap.size) (hne : b ≠ g) (i : Nat) : X.cell? ⟨b, i, none⟩ = W.cell? ⟨b, i, none⟩ :=
  World.cell?_of_block (w := W) (a := ⟨b, i, none⟩) (h.block b hb (by simp; exact hne))
theorem gbx_frozen {W X : World} {g : Nat} (h : W.grownBy X (some g)) {b : Nat} (hb : b < W.heap.size) (hne : b ≠ g) (i : Nat) : X.frozen? ⟨b, i, none⟩ = W.frozen? ⟨b, i, none⟩ :=
  World.frozen?_of_block (w := W) (a := ⟨b, i, none⟩) (h.block b hb (by simp; exact hne))
theorem step_append_srcB {P : Program} {ops : Array Oper} {o : Oper} {a : Act} {K : Act → World → Prop} {Q : Exit → Act → World → Prop} {E : Prop} (w : World) (t e : TypeId) (z : Value) (size bytes : Nat) (ht : P.underlying t = some (.slice e)) (hinfo : (P.info? e).map (fun i => (i.zero, i.size, i.bytes)) = some (some z, size, bytes)) (hz : z.cells.size = size) (hs0 : 0 < size)
    (hby : bytes ≤ 1000) (n0 n xlen xcap : Nat) (v : Value) (xs cs : List Value) (xa : Option Addr) (hcs : cs.length = xlen * size) (h1c : ∀ u ∈ cs, u.oneCell' = true) (hl : n + xlen ≤ 1000000) (hgd : o.guard = none) (s x : Operand)
    (ho : o.op = .call { callee := .builtin .append, args := #[s, x], argTypes := #[t, t] }) (hs : a.eval s = v) (hxv : a.eval x = .slice xa xlen xcap)
    (hrow : w.ownsRow n0 e size v n xs) (hsrc : 0 < xlen → ∃ pb po, xa = some ⟨pb, po, none⟩ ∧ ∀ j u, cs[j]? = some u → w.cell? ⟨pb, po + j, none⟩ = some u) (hnw : n0 ≤ w.heap.size)
    (h : ∀ ga gc w', w'.ownsRow n0 e size (.slice ga (n + xlen) gc) (n + xlen) (xs ++ cs) → Below n0 w w' → K (a.put o.dst (.slice ga (n + xlen) gc)) w') : if Region.wanted o (yielded ops a.tmps) = true then Oper.wp P o a w K Q else E :=
  step_append_src w t e z size bytes ht hinfo hz hs0 hby n0 n xlen xcap v xs cs xa hcs h1c hl hgd s x ho hs hxv hrow hsrc hnw fun v' w' h1 h2 _ => by
    obtain ⟨ga, gc, rfl⟩ := own_slice1 h1
    exact h ga gc w' h1 (grown_low h2 hnw (own_low hrow))
theorem bcellN {n : Nat} {X Y : World} (hb : Below n X Y) : (∀ b o, b < n → Y.cell? ⟨b, o, none⟩ = X.cell? ⟨b, o, none⟩) ∧ (∀ b o, b < n → Y.frozen? ⟨b, o, none⟩ = X.frozen? ⟨b, o, none⟩) :=
  ⟨fun b o h => hb.cell (p := ⟨b, o, none⟩) h, fun b o h => hb.frozen (p := ⟨b, o, none⟩) h⟩
theorem src3 {X : World} {g : Nat} {u0 u1 u2 : Value} (h0 : X.cell? ⟨g, 0, none⟩ = some u0) (h1 : X.cell? ⟨g, 1, none⟩ = some u1) (h2 : X.cell? ⟨g, 2, none⟩ = some u2) : ∀ j u, [u0, u1, u2][j]? = some u → X.cell? ⟨g, j, none⟩ = some u := by
  intro j u hj
  match j, hj with
  | 0, hj => cases hj; exact h0
  | 1, hj => cases hj; exact h1
  | 2, hj => cases hj; exact h2
  | j + 3, hj => simp at hj
theorem src1 {X : World} {g : Nat} {u0 : Value} (h0 : X.cell? ⟨g, 0, none⟩ = some u0) : ∀ j u, [u0][j]? = some u → X.cell? ⟨g, j, none⟩ = some u := by
  intro j u hj
  match j, hj with
  | 0, hj => cases hj; exact h0
  | j + 1, hj => simp at hj
/-- append of one element that was built for it, to a row of one's own: a step of a region that draws. -/
theorem step_append_built {P : Program} {ops : Array Oper} {o : Oper} {a : Act} {K : Act → World → Prop} {Q : Exit → Act → World → Prop} {E : Prop} (w : World) (t e : TypeId) (z : Value) (size bytes : Nat) (ht : P.underlying t = some (.slice e)) (hinfo : (P.info? e).map (fun i => (i.zero, i.size, i.bytes)) = some (some z, size, bytes)) (hz : z.cells.size = size) (hs0 : 0 < size)
    (hby : bytes ≤ 1000) (n0 n : Nat) (va : Option Addr) (vc : Nat) (xs cs : List Value) (hcs : cs.length = 1 * size) (h1c : ∀ u ∈ cs, u.oneCell' = true) (hl : n + 1 ≤ 1000000) (hgd : o.guard = none) (s x : Operand)
    (ho : o.op = .call { callee := .builtin .append, args := #[s, x], argTypes := #[t, t] }) (hs : a.eval s = .slice va n vc) (hxv : ∃ p, a.eval x = .slice (some ⟨p, 0, none⟩) 1 1 ∧ ∀ j u, cs[j]? = some u → w.cell? ⟨p, j, none⟩ = some u)
    (hrow : w.ownsRow n0 e size (.slice va n vc) n xs) (hnw : n0 ≤ w.heap.size)
    (h : ∀ ga gc w', w'.ownsRow n0 e size (.slice ga (n + 1) gc) (n + 1) (xs ++ cs) → Below n0 w w' → K (a.put o.dst (.slice ga (n + 1) gc)) w') : if Region.wanted o (yielded ops a.tmps) = true then Oper.wp P o a w K Q else E := by
  obtain ⟨p, hx1, hx2⟩ := hxv
  exact step_append_srcB w t e z size bytes ht hinfo hz hs0 hby n0 n 1 1 _ xs cs (some ⟨p, 0, none⟩) hcs h1c hl hgd s x ho hs hx1 hrow (fun _ => ⟨p, 0, rfl, fun j u hj => by rw [Nat.zero_add]; exact hx2 j u hj⟩) hnw h
/-- A call of a Go function by its contract: a step of a region that draws. -/
theorem step_call {P : Program} {ops : Array Oper} {o : Oper} {a : Act} {K : Act → World → Prop} {Q : Exit → Act → World → Prop} {E : Prop} (w : World) (f : FuncId) (fn : Func) (hf : P.funcs[f]? = some fn) (hname : (fn.name == "runtime.NumGoroutine") = false) (hb : fn.body.isSome = true) (hgd : o.guard = none) (xs : Array Operand) (ats : Array TypeId)
    (ho : o.op = .call { callee := .value (.func f), args := xs, argTypes := ats }) (args : Array Value) (ha : xs.map a.eval = args) (h : Calls P f args w fun e w' => ∃ v, e = .returned v ∧ K (a.put o.dst v) w') : if Region.wanted o (yielded ops a.tmps) = true then Oper.wp P o a w K Q else E := by
  rw [if_pos (by simp [Region.wanted, hgd])]
  have h1 : fn.name ≠ "runtime.NumGoroutine" := by simpa using hname
  obtain ⟨c, hb⟩ := Option.isSome_iff_exists.1 hb
  have e : (execOp a.eval o).run P w = .ok (.enter f args) w := by
    obtain ⟨dst, op, ty, pos, after, gd⟩ := o
    simp only at ho
    subst ho
    rw [execOp_call_go]
    subst ha
    simp [callFunc, hf, h1, hb]
  unfold Oper.wp
  rw [e, Oper.upon_enter]
  exact h.mono fun e w' ⟨v, he, hk⟩ => by subst he; exact hk
theorem own_frow {w : World} {n0 k cap size : Nat} {e : TypeId} {ga : Option Addr} {cs : List Value} (h : w.ownsRow n0 e size (.slice ga k cap) k cs) : FRow w n0 e size ga k cap cs :=
  ⟨h.1, fun h0 => by
    obtain ⟨g, c', e1, -⟩ := ownsRow_pos h h0
    injection e1 with e1 _ e3
    subst e1 e3
    exact ⟨g, rfl, h⟩⟩
theorem own_cap {w : World} {n0 k cap size : Nat} {e : TypeId} {ga : Option Addr} {cs : List Value} (h : w.ownsRow n0 e size (.slice ga k cap) k cs) : k ≤ cap ∧ cap ≤ maxLen := by
  rcases h.2 with ⟨e1, h0⟩ | ⟨g, c, cur, e1, h1, h2, h3, h4, -⟩
  · injection e1 with _ _ e3
    subst e3 h0
    exact ⟨Nat.le_refl _, by unfold maxLen; omega⟩
  · injection e1 with _ _ e3
    subst e3
    exact ⟨h3, h4⟩
theorem PFrame.piece_one (p : Piece) : p.cells = [.int .i64 p.lo, .int .i64 p.hi, .int .i64 p.pe] := rfl
/-- The frame with one more piece at the end of a column. -/
def PFrame.put (f : PFrame) (c : Nat) (p : Piece) : PFrame := { f with pieces := f.pieces ++ [p], cols := f.cols.set c (((f.cols[c]?).getD []) ++ [(f.pieces.length : Int)]) }

set_option maxRecDepth 100000 in
set_option maxHeartbeats 16000000 in
theorem withPiece_any (f : PFrame) (sa : Option Addr) (sl sc : Nat) (pa : Option Addr) (pl pc : Nat) (ca : Option Addr) (cl cc : Nat) (c : Nat) (hc : c < f.cols.length) (p : Piece) (w : World) (hp : PAt w sa sl sc pa pl pc ca cl cc f) (hl : pl ≤ 1000) (hl2 : cl ≤ 1000) (hl3' : ∀ x ∈ f.cols, x.length ≤ 999) :
    Calls Try.prog 93 #[.agg #[.int .i64 f.len, .int .i64 f.slack, .slice sa sl sc, .slice pa pl pc, .slice ca cl cc], .int .i64 c, .agg #[.int .i64 p.lo, .int .i64 p.hi, .int .i64 p.pe]] w fun e w' => ∃ ga gc ia ic, e = .returned (.agg #[.int .i64 f.len, .int .i64 f.slack, .slice sa sl sc, .slice ga (pl + 1) gc, .slice ia cl ic]) ∧ PAt w' sa sl sc ga (pl + 1) gc ia cl ic (f.put c p) ∧ Below w.heap.size w w' := by
  obtain ⟨vs, hvr, hvs⟩ := lists_vals hp.2.2
  have HVR := Lib.hid hvr
  have hcl := hp.2.2.1
  have HCL2 := Lib.hid (fun W (hb : Below w.heap.size w W) => CloneL_own ca cl cc vs W (by rw [hvr.1, hcl]) hvr.cells (fun h0 => by obtain ⟨pb, po, e, h1, h2⟩ := hvs h0; exact ⟨pb, po, e, Nat.lt_of_lt_of_le h1 hb.size, fun j u hj => (hb.cell (p := ⟨pb, po + j, none⟩) h1).trans (h2 j u hj)⟩) hl2)
  obtain ⟨ra, rl, rc, hvc, hrc, hri⟩ := hvr.2 c hc
  have hrl : rl ≤ 999 := by rw [← hri.1]; exact hl3' _ (List.getElem_mem hc)
  have HRL := Lib.hid hri.1
  have HCI := Lib.hid (fun W (hb : Below w.heap.size w W) => Clone_own ra rl rc f.cols[c] W (hri.below hb) (by omega))
  have HST := Lib.hid hp.1
  have hclt : c < cl := by omega
  have hckl : (c : Int) < (cl : Int) := by omega
  have hck0 : (0 : Int) ≤ (c : Int) := by omega
  clear hvs hvr
  have HCL := Lib.hid (fun W (hb : Below w.heap.size w W) => CloneP_own pa pl pc f.pieces W (hp.2.1.below hb) hl)
  have hpl := hp.2.1.1
  have hpl0 : (pl : Int) ≤ 1000 := by omega
  have hcs := cells3_len f.pieces
  rw [hpl] at hcs
  have HPL := Lib.hid hpl
  clear hp hri
  obtain ⟨a, b, d⟩ := p
  simp only
  go_enter Try.func93, Try.ntmps93
  go_upto_region 2 with fail
  obtain ⟨W0, hW0, hB0, ⟨x0, x1, x2, x3, x4, p0, p1, p2, t0, t1, t2, t3, t4⟩, hf0, hf2, hz0⟩ : ∃ W0, ((w.alloc (.cells #[.int .i64 f.len, .int .i64 f.slack, .slice sa sl sc, .slice pa pl pc, .slice ca cl cc] 87)).alloc (.cells #[.int .i64 a, .int .i64 b, .int .i64 d] 43)).alloc (.cells #[.int .i64 0, .int .i64 0, .slice none 0 0, .slice none 0 0, .slice none 0 0] 87) = W0 ∧ Below w.heap.size w W0 ∧
      ((W0.cell? ⟨w.heap.size, 0, none⟩ = some (.int .i64 f.len)) ∧ W0.cell? ⟨w.heap.size, 1, none⟩ = some (.int .i64 f.slack) ∧ W0.cell? ⟨w.heap.size, 2, none⟩ = some (.slice sa sl sc) ∧ W0.cell? ⟨w.heap.size, 3, none⟩ = some (.slice pa pl pc) ∧ W0.cell? ⟨w.heap.size, 4, none⟩ = some (.slice ca cl cc) ∧
        W0.cell? ⟨w.heap.size + 1, 0, none⟩ = some (.int .i64 a) ∧ W0.cell? ⟨w.heap.size + 1, 1, none⟩ = some (.int .i64 b) ∧ W0.cell? ⟨w.heap.size + 1, 2, none⟩ = some (.int .i64 d) ∧
        W0.cell? ⟨w.heap.size + 1 + 1, 0, none⟩ = some (.int .i64 0) ∧ W0.cell? ⟨w.heap.size + 1 + 1, 1, none⟩ = some (.int .i64 0) ∧ W0.cell? ⟨w.heap.size + 1 + 1, 2, none⟩ = some (.slice none 0 0) ∧ W0.cell? ⟨w.heap.size + 1 + 1, 3, none⟩ = some (.slice none 0 0) ∧ W0.cell? ⟨w.heap.size + 1 + 1, 4, none⟩ = some (.slice none 0 0)) ∧
      (∀ i, W0.frozen? ⟨w.heap.size, i, none⟩ = false) ∧ (∀ i, W0.frozen? ⟨w.heap.size + 1 + 1, i, none⟩ = false) ∧ W0.heap.size = w.heap.size + 1 + 1 + 1 := by
    refine ⟨_, rfl, (by repeat (first | exact Below.refl _ _ | (refine Below.alloc ?_ (by first | omega | (simp; omega) | simp) _) | (refine Below.setCell ?_ (by first | omega | (simp; omega) | simp) _) | refine Below.drew ?_)), ⟨?_, ?_, ?_, ?_, ?_, ?_, ?_, ?_, ?_, ?_, ?_, ?_, ?_⟩, fun i => ?_, fun i => ?_, by simp⟩
    all_goals go_simp
  rw [hW0]
  clear hW0
  have HB0 := Lib.hid hB0
  have HF0 := Lib.hid hf0
  have q3 := hf0 3
  have hd0 : w.heap.size < W0.heap.size := by omega
  have hd1 : w.heap.size + 1 < W0.heap.size := by omega
  have hnw : w.heap.size ≤ W0.heap.size := by omega
  clear hB0 hf0
  have hz3 : (Value.agg #[.int .i64 0, .int .i64 0, .int .i64 0]).cells.size = 3 := rfl
  have h1c : ∀ u ∈ ([.int .i64 a, .int .i64 b, .int .i64 d] : List Value), u.oneCell' = true := by
    intro u hu
    simp at hu
    rcases hu with rfl | rfl | rfl <;> rfl
  have hl3 : ([.int .i64 a, .int .i64 b, .int .i64 d] : List Value).length = 1 * 3 := rfl
  have hp3 : pl + 1 ≤ 1000000 := by omega
  have HCX := Lib.hid (fun W (h : W0.grownBy W (some w.heap.size) ∧ ∀ b o, b < W0.heap.size → ¬ b = w.heap.size → W.cell? ⟨b, o, none⟩ = W0.cell? ⟨b, o, none⟩) => show Calls Try.prog 110 #[.slice pa pl pc] W fun e w' => (∃ v, e = .returned v ∧ w'.ownsRow W0.heap.size 43 3 v pl (f.pieces.flatMap Piece.cells)) ∧ Below W.heap.size W w' from (HCL.out W (HB0.out.trans (grown_low h.1 hnw (fun r e => by injection e with e; omega)))).mono fun e w' k => by obtain ⟨v, k1, k2, k3⟩ := k; exact ⟨⟨v, k1, own_base2 k2 h.1.size⟩, k3⟩)
  go_cut [] (fun wx => ∃ gp gpc, W0.grownBy wx (some w.heap.size) ∧ wx.cell? ⟨w.heap.size, 3, none⟩ = some (.slice gp (pl + 1) gpc) ∧ (∀ i, i ≠ 3 → wx.cell? ⟨w.heap.size, i, none⟩ = W0.cell? ⟨w.heap.size, i, none⟩) ∧ (∀ i, wx.frozen? ⟨w.heap.size, i, none⟩ = false) ∧ wx.ownsRow W0.heap.size 43 3 (.slice gp (pl + 1) gpc) (pl + 1) (f.pieces.flatMap Piece.cells ++ [.int .i64 a, .int .i64 b, .int .i64 d]))
  case first =>
    go_region_law (first
      | (with_reducible refine step_call _ 110 _ Try.func110 (by kernel_rfl) (by kernel_rfl) rfl _ _ rfl #[.slice pa pl pc] ?_ ?_; (· with_unfolding_all rfl); refine (HCX.out _ ?_).mono ?_; (· refine gS_of ?_; repeat (first | exact gbx_refl _ _ | refine gbx_alloc ?_ _ | refine gbx_drew ?_)); rintro e wC ⟨⟨v, rfl, hown⟩, hb⟩; refine ⟨_, rfl, ?_⟩; obtain ⟨ga, gc, rfl⟩ := own_slice1 hown; have kA := gb_low (gbx_refl W0 (some w.heap.size)) (below_via (B := W0.heap.size) (Lib.hid hb) (by simp) (by repeat (first | exact Below.refl _ _ | (refine Below.alloc ?_ (by first | omega | (simp; omega) | simp) _) | (refine Below.setCell ?_ (by first | omega | (simp; omega) | simp) _) | refine Below.drew ?_))) (Nat.le_refl _); have kz : w.heap.size < wC.heap.size := Nat.lt_of_lt_of_le hd0 kA.size; have HKA := Lib.hid kA; have HOW := Lib.hid hown; have HBC := Lib.hid hb; have hzC := hb.size; (try simp at hzC); obtain ⟨hcC, hfC⟩ := bcell hb; clear hown hb kA)
      | ((with_reducible refine step_append_built _ 23 43 (.agg #[.int .i64 0, .int .i64 0, .int .i64 0]) 3 24 Try.underlying23 Try.info43 hz3 (by decide) (by decide) W0.heap.size pl ga gc (f.pieces.flatMap Piece.cells) [.int .i64 a, .int .i64 b, .int .i64 d] hl3 h1c hp3 rfl _ _ rfl ?_ ?_ ?_ ?_ ?_); (· rfl); (· refine ⟨_, rfl, src3 ?_ ?_ ?_⟩ <;> (go_simp; done)); (· exact HOW.out.kept (grown_none (by repeat (first | exact Below.refl _ _ | (refine Below.alloc ?_ (by first | omega | (simp; omega) | simp) _) | (refine Below.setCell ?_ (by first | omega | (simp; omega) | simp) _) | refine Below.drew ?_))) (Classical.em _)); (· first | omega | (simp; omega)); intro gp gpc wA hownA hBA; have HOA := Lib.hid hownA; obtain ⟨hcA, hfA⟩ := bcellN hBA; have g3 : wA.cell? ⟨w.heap.size, 3, none⟩ = some (.slice pa pl pc) := (hcA _ _ hd0).trans (by go_simp); have g3f : wA.frozen? ⟨w.heap.size, 3, none⟩ = false := (hfA _ _ hd0).trans (by go_simp); have hzA := hBA.size; (try simp at hzA); have HBA := Lib.hid hBA; clear hownA hBA)
      | fail "no arm")
    all_goals (
      go_wp2_with fail
      go_meet
      refine ⟨gp, gpc, gbx_set (gb_low (by repeat (first | exact HKA.out | refine gbx_alloc ?_ _ | refine gbx_drew ?_)) HBA.out (Nat.le_refl _)) _ _, set_cell g3, fun i hi => (set_cell' (fun e => hi e.symm)).trans ((hcA _ i hd0).trans (by go_simp)), fun i => set_frz ((hfA _ i hd0).trans ?_), HOA.out.kept (gbx_set (gbx_refl _ _) _ _) (.inr fun e => by have := own_low HOA.out _ e; omega)⟩
      have hfi := HF0.out i
      go_simp)
  case rest =>
  obtain ⟨gp, gpc, hg1, h13, h1o, h1f, hO1⟩ := hcut
  obtain ⟨w1, rfl⟩ : ∃ w1 : World, w1 = wc := ⟨_, rfl⟩
  have HB1 := Lib.hid (show Below w.heap.size w w1 from HB0.out.trans (grown_low hg1 hnw (fun r e => by injection e with e; omega)))
  have hz1 := hg1.size
  have y0 := (h1o 0 (by decide)).trans x0
  have y1 := (h1o 1 (by decide)).trans x1
  have y2 := (h1o 2 (by decide)).trans x2
  have y4 := (h1o 4 (by decide)).trans x4
  have e4 := h1f 4
  have hd2 : w.heap.size + 1 + 1 < W0.heap.size := by omega
  have HT1 := Lib.hid (show ∀ i, w1.cell? ⟨w.heap.size + 1 + 1, i, none⟩ = W0.cell? ⟨w.heap.size + 1 + 1, i, none⟩ ∧ w1.frozen? ⟨w.heap.size + 1 + 1, i, none⟩ = W0.frozen? ⟨w.heap.size + 1 + 1, i, none⟩ from fun i => ⟨gbx_cell hg1 hd2 (by omega) i, gbx_frozen hg1 hd2 (by omega) i⟩)
  have HO1 := Lib.hid hO1
  have H1F := Lib.hid h1f
  have HTC := Lib.hid (show ∀ i, W0.cell? ⟨w.heap.size + 1 + 1, i, none⟩ = (#[.int .i64 0, .int .i64 0, .slice none 0 0, .slice none 0 0, .slice none 0 0] : Array Value)[i]? ∨ 5 ≤ i from fun i => by
    match i with
    | 0 => exact .inl t0
    | 1 => exact .inl t1
    | 2 => exact .inl t2
    | 3 => exact .inl t3
    | 4 => exact .inl t4
    | i + 5 => exact .inr (by omega))
  have HTF := Lib.hid hf2
  clear hg1 h1o h1f hO1 x0 x1 x2 x3 x4 p0 p1 p2 q3 HCX HCL hf2
  go_upto_region 4 with (go_at_call 111; refine (HCL2.out _ HB1.out).mono ?_; rintro e wD ⟨v, rfl, hown2, hb2⟩; obtain ⟨qa, qc, rfl⟩ := own_slice1 hown2; have hzD := hb2.size; have hcD : ∀ b o, b < w1.heap.size → wD.cell? ⟨b, o, none⟩ = w1.cell? ⟨b, o, none⟩ := (fun b o h => hb2.cell (p := ⟨b, o, none⟩) h); have hfD : ∀ b o, b < w1.heap.size → wD.frozen? ⟨b, o, none⟩ = w1.frozen? ⟨b, o, none⟩ := (fun b o h => hb2.frozen (p := ⟨b, o, none⟩) h); have HO2 := Lib.hid hown2; have HB2 := Lib.hid hb2; have hd3 : w.heap.size < w1.heap.size := (by omega); have kd4 := (hcD _ 4 hd3).trans y4; have kf4 := (hfD _ 4 hd3).trans e4; clear hown2 hb2)
  obtain ⟨w2, hw2⟩ : ∃ w2, wD.setCell ⟨w.heap.size, 4, none⟩ (.slice qa cl qc) = w2 := ⟨_, rfl⟩
  rw [hw2]
  have hg2 : wD.grownBy w2 (some w.heap.size) := by rw [← hw2]; exact gbx_set (gbx_refl _ _) _ _
  have hz2 : w2.heap.size = wD.heap.size := by rw [← hw2]; simp [World.setCell]
  have hd3 : w.heap.size < w1.heap.size := by omega
  have u0 : w2.cell? ⟨w.heap.size, 0, none⟩ = some (.int .i64 f.len) := by rw [← hw2]; exact (set_cell' (by decide)).trans ((hcD _ _ hd3).trans y0)
  have u1 : w2.cell? ⟨w.heap.size, 1, none⟩ = some (.int .i64 f.slack) := by rw [← hw2]; exact (set_cell' (by decide)).trans ((hcD _ _ hd3).trans y1)
  have u2 : w2.cell? ⟨w.heap.size, 2, none⟩ = some (.slice sa sl sc) := by rw [← hw2]; exact (set_cell' (by decide)).trans ((hcD _ _ hd3).trans y2)
  have u3 : w2.cell? ⟨w.heap.size, 3, none⟩ = some (.slice gp (pl + 1) gpc) := by rw [← hw2]; exact (set_cell' (by decide)).trans ((hcD _ _ hd3).trans h13)
  have u4 : w2.cell? ⟨w.heap.size, 4, none⟩ = some (.slice qa cl qc) := by rw [← hw2]; exact set_cell kd4
  have hOc : w2.ownsRow w1.heap.size 27 1 (.slice qa cl qc) cl vs := HO2.out.kept hg2 (.inr fun e => by have := own_low HO2.out _ e; omega)
  have hOp : w2.ownsRow W0.heap.size 43 3 (.slice gp (pl + 1) gpc) (pl + 1) (f.pieces.flatMap Piece.cells ++ [.int .i64 a, .int .i64 b, .int .i64 d]) := (HO1.out.kept (grown_none HB2.out) (Classical.em _)).kept hg2 (.inr fun e => by have := own_low HO1.out _ e; omega)
  obtain ⟨gv, qc', hge, hgv⟩ := ownsRow_pos hOc (by omega)
  injection hge with hge _ hqc
  subst hge hqc
  have hgl : gv < w2.heap.size := by
    obtain ⟨_, cur, hcur⟩ := own_parts hOc
    exact (Array.getElem?_eq_some_iff.1 hcur).1
  have v0 : w2.cell? ⟨gv, c, none⟩ = some (.slice ra rl rc) := by
    have := hOc.cells (g := gv) rfl c _ hvc
    rw [Addr.add_lit] at this
    rwa [Nat.zero_add] at this
  have vf : w2.frozen? ⟨gv, c, none⟩ = false := by
    obtain ⟨_, cur, hcur⟩ := own_parts hOc
    simp [World.frozen?, hcur]
  have HB2w := Lib.hid (show Below w.heap.size w w2 from (HB1.out.trans (HB2.out.mono HB1.out.size)).trans (grown_low hg2 (by omega) (fun r e => by injection e with e; omega)))
  have HT2 := Lib.hid (show ∀ i, w2.cell? ⟨w.heap.size + 1 + 1, i, none⟩ = W0.cell? ⟨w.heap.size + 1 + 1, i, none⟩ ∧ w2.frozen? ⟨w.heap.size + 1 + 1, i, none⟩ = W0.frozen? ⟨w.heap.size + 1 + 1, i, none⟩ from fun i => ⟨(gbx_cell hg2 (by omega) (by omega) i).trans ((hcD _ _ (by omega)).trans (HT1.out i).1), (gbx_frozen hg2 (by omega) (by omega) i).trans ((hfD _ _ (by omega)).trans (HT1.out i).2)⟩)
  have HOC := Lib.hid hOc
  have HOP := Lib.hid hOp
  have k0 : w.heap.size < w2.heap.size := by omega
  have n0 : ¬ w.heap.size = gv := by omega
  have hnw2 : W0.heap.size ≤ w2.heap.size := by omega
  have hnw3 : w1.heap.size ≤ w2.heap.size := by omega
  have hk0 : w.heap.size ≤ w2.heap.size := by omega
  have hgle : gv ≤ w2.heap.size := by omega
  clear hz2 hzD hw2 hg2 hOc hOp hcD hfD kd4 kf4 y0 y1 y2 y4 h13 HT1 HO1 HO2 e4
  have hz3' : (Value.int .i64 0).cells.size = 1 := rfl
  have hl1 : ([.int .i64 (pl : Int)] : List Value).length = 1 * 1 := rfl
  have h1i : ∀ u ∈ ([.int .i64 (pl : Int)] : List Value), u.oneCell' = true := by
    intro u hu
    simp at hu
    subst hu; rfl
  have hr1 : rl + 1 ≤ 1000000 := by omega
  go_cut [] (fun wx => ∃ na nc, w2.grownBy wx (some gv) ∧ wx.ownsRow w1.heap.size 27 1 (.slice (some ⟨gv, 0, none⟩) cl qc) cl (vs.set c (.slice na (rl + 1) nc)) ∧ wx.ownsRow w2.heap.size 3 1 (.slice na (rl + 1) nc) (rl + 1) (f.cols[c].map (Value.int .i64) ++ [.int .i64 (pl : Int)]))
  case first =>
    go_region_law (first
      | (with_reducible refine step_call _ 90 _ Try.func90 (by kernel_rfl) (by kernel_rfl) rfl _ _ rfl #[.slice ra rl rc] ?_ ?_; (· with_unfolding_all rfl); refine (HCI.out _ ?_).mono ?_; (· exact HB2w.out.trans (Below.mono (by repeat (first | exact Below.refl _ _ | (refine Below.alloc ?_ (by first | omega | (simp; omega) | simp) _) | (refine Below.setCell ?_ (by first | omega | (simp; omega) | simp) _) | refine Below.drew ?_)) HB2w.out.size)); rintro e wC ⟨v, rfl, hown, hb⟩; refine ⟨_, rfl, ?_⟩; obtain ⟨ga, gc, rfl⟩ := own_slice1 hown; have kA : Below w2.heap.size w2 wC := below_via (B := w2.heap.size) (Lib.hid hb) (by simp) (by repeat (first | exact Below.refl _ _ | (refine Below.alloc ?_ (by first | omega | (simp; omega) | simp) _) | (refine Below.setCell ?_ (by first | omega | (simp; omega) | simp) _) | refine Below.drew ?_)); have kz : w.heap.size < wC.heap.size := Nat.lt_of_lt_of_le k0 kA.size; have kg : gv < wC.heap.size := Nat.lt_of_lt_of_le hgl kA.size; have q4 : wC.cell? ⟨w.heap.size, 4, none⟩ = some (.slice (some ⟨gv, 0, none⟩) cl qc) := (kA.cell (p := ⟨w.heap.size, 4, none⟩) k0).trans u4; have q5 : wC.cell? ⟨gv, c, none⟩ = some (.slice ra rl rc) := (kA.cell (p := ⟨gv, c, none⟩) hgl).trans v0; have q6 : wC.frozen? ⟨gv, c, none⟩ = false := (kA.frozen (p := ⟨gv, c, none⟩) hgl).trans vf; have HOW := Lib.hid (own_base2 hown (n1 := w2.heap.size) (by simp)); have HKA := Lib.hid kA; obtain ⟨hcC, hfC⟩ := bcell hb; clear hown hb kA)
      | ((with_reducible refine step_append_built _ 27 3 (.int .i64 0) 1 8 Try.underlying27 Try.info3 hz3' (by decide) (by decide) w2.heap.size rl ga gc (f.cols[c].map (Value.int .i64)) [.int .i64 (pl : Int)] hl1 h1i hr1 rfl _ _ rfl ?_ ?_ ?_ ?_ ?_); (· rfl); (· refine ⟨_, rfl, src1 ?_⟩; (go_simp; done)); (· exact HOW.out.kept (grown_none (by repeat (first | exact Below.refl _ _ | (refine Below.alloc ?_ (by first | omega | (simp; omega) | simp) _) | (refine Below.setCell ?_ (by first | omega | (simp; omega) | simp) _) | refine Below.drew ?_))) (Classical.em _)); (· have := HKA.out.size; first | omega | (simp; omega)); intro na nc wA hownA hBA; have HOA := Lib.hid hownA; obtain ⟨hcA, hfA⟩ := bcellN hBA; have gw4 : wA.cell? ⟨w.heap.size, 4, none⟩ = some (.slice (some ⟨gv, 0, none⟩) cl qc) := (hcA _ _ k0).trans (by go_simp); have g3 : wA.cell? ⟨gv, c, none⟩ = some (.slice ra rl rc) := (hcA _ _ hgl).trans (by go_simp); have g3f : wA.frozen? ⟨gv, c, none⟩ = false := (hfA _ _ hgl).trans (by go_simp); have hzA := hBA.size; (try simp at hzA); have HBA := Lib.hid hBA; clear hownA hBA)
      | fail "no arm")
    all_goals (
      go_wp2_with fail
      go_meet
      have hb12 : Below w2.heap.size w2 wA := Below.trans (by repeat (first | exact HKA.out | (refine Below.alloc ?_ (by first | exact HKA.out.size | omega | (simp; omega)) _) | refine Below.drew ?_)) HBA.out
      refine ⟨na, nc, gbx_set (grow_gb hb12 _) _ _, own_set (HOC.out.kept (grown_none hb12) (Classical.em _)) c _, HOA.out.kept (gbx_set (gbx_refl _ _) _ _) (.inr fun e => by have := own_low HOA.out _ e; omega)⟩)
  case rest =>
  obtain ⟨na, nc, hg3, hOc3, hOn⟩ := hcut
  obtain ⟨w3, rfl⟩ : ∃ w3 : World, w3 = wc := ⟨_, rfl⟩
  have hz3w := hg3.size
  have b0 := (gbx_cell hg3 k0 n0 0).trans u0
  have b1 := (gbx_cell hg3 k0 n0 1).trans u1
  have b2 := (gbx_cell hg3 k0 n0 2).trans u2
  have b3 := (gbx_cell hg3 k0 n0 3).trans u3
  have b4 := (gbx_cell hg3 k0 n0 4).trans u4
  have kt : w.heap.size + 1 + 1 < w2.heap.size := by omega
  have nt : w.heap.size + 1 + 1 ≠ gv := by omega
  have s0 := (gbx_cell hg3 kt nt 0).trans ((HT2.out 0).1.trans t0)
  have s1 := (gbx_cell hg3 kt nt 1).trans ((HT2.out 1).1.trans t1)
  have s2 := (gbx_cell hg3 kt nt 2).trans ((HT2.out 2).1.trans t2)
  have s3 := (gbx_cell hg3 kt nt 3).trans ((HT2.out 3).1.trans t3)
  have s4 := (gbx_cell hg3 kt nt 4).trans ((HT2.out 4).1.trans t4)
  have m0 := (gbx_frozen hg3 kt nt 0).trans ((HT2.out 0).2.trans (HTF.out 0))
  have m1 := (gbx_frozen hg3 kt nt 1).trans ((HT2.out 1).2.trans (HTF.out 1))
  have m2 := (gbx_frozen hg3 kt nt 2).trans ((HT2.out 2).2.trans (HTF.out 2))
  have m3 := (gbx_frozen hg3 kt nt 3).trans ((HT2.out 3).2.trans (HTF.out 3))
  have m4 := (gbx_frozen hg3 kt nt 4).trans ((HT2.out 4).2.trans (HTF.out 4))
  obtain ⟨r0, r1, r2, r3, r4⟩ := set5 (.int .i64 f.len) (.int .i64 f.slack) (.slice sa sl sc) (.slice gp (pl + 1) gpc) (.slice (some ⟨gv, 0, none⟩) cl qc) s0 s1 s2 s3 s4
  have hg7 : w3.grownBy (((((w3.setCell ⟨w.heap.size + 1 + 1, 0, none⟩ (.int .i64 f.len)).setCell ⟨w.heap.size + 1 + 1, 1, none⟩ (.int .i64 f.slack)).setCell ⟨w.heap.size + 1 + 1, 2, none⟩ (.slice sa sl sc)).setCell ⟨w.heap.size + 1 + 1, 3, none⟩ (.slice gp (pl + 1) gpc)).setCell ⟨w.heap.size + 1 + 1, 4, none⟩ (.slice (some ⟨gv, 0, none⟩) cl qc)) (some (w.heap.size + 1 + 1)) := gbx_set (gbx_set (gbx_set (gbx_set (gbx_set (gbx_refl _ _) _ _) _ _) _ _) _ _) _ _
  have hBF : Below w.heap.size w (((((w3.setCell ⟨w.heap.size + 1 + 1, 0, none⟩ (.int .i64 f.len)).setCell ⟨w.heap.size + 1 + 1, 1, none⟩ (.int .i64 f.slack)).setCell ⟨w.heap.size + 1 + 1, 2, none⟩ (.slice sa sl sc)).setCell ⟨w.heap.size + 1 + 1, 3, none⟩ (.slice gp (pl + 1) gpc)).setCell ⟨w.heap.size + 1 + 1, 4, none⟩ (.slice (some ⟨gv, 0, none⟩) cl qc)) := (HB2w.out.trans (low_grown (N := w.heap.size) hg3 (by omega) (by omega))).trans (low_grown (N := w.heap.size) hg7 (by omega) (by omega))
  have hne3 : ∀ {X : World} {n k : Nat} {e : TypeId} {v : Value} {xs : List Value} {m : Nat}, X.ownsRow n e k v m xs → W0.heap.size ≤ n → v.ownBlock ≠ some (w.heap.size + 1 + 1) := fun h hn e => by have := own_low h _ e; omega
  obtain ⟨wF, hwF⟩ : ∃ wF, (((((w3.setCell ⟨w.heap.size + 1 + 1, 0, none⟩ (.int .i64 f.len)).setCell ⟨w.heap.size + 1 + 1, 1, none⟩ (.int .i64 f.slack)).setCell ⟨w.heap.size + 1 + 1, 2, none⟩ (.slice sa sl sc)).setCell ⟨w.heap.size + 1 + 1, 3, none⟩ (.slice gp (pl + 1) gpc)).setCell ⟨w.heap.size + 1 + 1, 4, none⟩ (.slice (some ⟨gv, 0, none⟩) cl qc)) = wF := ⟨_, rfl⟩
  have hOpF : wF.ownsRow W0.heap.size 43 3 (.slice gp (pl + 1) gpc) (pl + 1) ((f.put c ⟨a, b, d⟩).pieces.flatMap Piece.cells) := by
    have e : (f.put c ⟨a, b, d⟩).pieces.flatMap Piece.cells = f.pieces.flatMap Piece.cells ++ [.int .i64 a, .int .i64 b, .int .i64 d] := by unfold PFrame.put; simp [Piece.cells]
    rw [e, ← hwF]
    refine (HOP.out.kept hg3 (.inr fun e => ?_)).kept hg7 (.inr (hne3 HOP.out (Nat.le_refl _)))
    obtain ⟨_, cur, hcur⟩ := own_parts HOC.out
    exact own_ne HOP.out ⟨cur, hcur⟩ (by decide) e.symm
  have hOcF : wF.ownsRow w1.heap.size 27 1 (.slice (some ⟨gv, 0, none⟩) cl qc) cl (vs.set c (.slice na (rl + 1) nc)) := by
    rw [← hwF]; exact hOc3.kept hg7 (.inr (hne3 hOc3 (by omega)))
  have hOnF : wF.ownsRow w2.heap.size 3 1 (.slice na (rl + 1) nc) (rl + 1) ((f.cols[c] ++ [(f.pieces.length : Int)]).map (Value.int .i64)) := by
    rw [← hwF, List.map_append, HPL.out]; exact hOn.kept hg7 (.inr (hne3 hOn (by omega)))
  have hVF : VRow wF (vs.set c (.slice na (rl + 1) nc)) (f.put c ⟨a, b, d⟩).cols := by
    have e : (f.put c ⟨a, b, d⟩).cols = f.cols.set c (f.cols[c] ++ [(f.pieces.length : Int)]) := by unfold PFrame.put; simp [hc]
    rw [e]
    obtain ⟨a', c', e1, hi⟩ := own_ints hOnF (by simp [HRL.out])
    injection e1 with e1 _ e3
    subst e1
    exact (HVR.out.below (by rw [← hwF]; exact hBF)).set c _ _ _ _ (own_cap hOnF) hi
  have HPA := Lib.hid (show PAt wF sa sl sc gp (pl + 1) gpc (some ⟨gv, 0, none⟩) cl qc (f.put c ⟨a, b, d⟩) from
    ⟨HST.out.below (by rw [← hwF]; exact hBF), FRow.pieces (own_frow hOpF) (by unfold maxLen; omega), hVF.lists hOcF (by unfold maxLen; omega)⟩)
  rw [← hwF] at HPA
  have HBF := Lib.hid hBF
  clear hwF hOpF hOcF hOnF hVF hg7 hg3 hOc3 hOn hne3 hBF t0 t1 t2 t3 t4 u0 u1 u2 u3 u4 v0 vf HT2 HTF HTC HOC HOP hz3w
  go_wp2_with fail
  refine bodyPost_ret (v := .agg #[.int .i64 f.len, .int .i64 f.slack, .slice sa sl sc, .slice gp (pl + 1) gpc, .slice (some ⟨gv, 0, none⟩) cl qc]) ?_ rfl ⟨_, _, _, _, rfl, HPA.out, HBF.out⟩
  simp [results, Try.results93, go_sem, r0, r1, r2, r3, r4]
end Go.Proofs.Ytcklhojeneejiaa
