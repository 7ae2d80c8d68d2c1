/- Package pages: slices.Clone at pieces; withHigh. -/
import Derived.Test.YtcklhojeneejiaaZJ
import Derived.Test.YtcklhojeneejiaaZN
namespace Go.Proofs.Ytcklhojeneejiaa
set_option linter.unusedVariables false
set_option linter.unusedSimpArgs false
open Go.RowKit Go.Shelf

theorem Try.info43 : (Try.prog.info? 43).map (fun i => (i.zero, i.size, i.bytes)) = some (some (.agg #[.int .i64 0, .int .i64 0, .int .i64 0]), 3, 24) := by kernel_rfl
def Piece.cells (m : Piece) : List Value := [.int .i64 m.lo, .int .i64 m.hi, .int .i64 m.pe]
theorem cells3_len (L : List Piece) : (L.flatMap Piece.cells).length = L.length * 3 := by
  induction L with
  | nil => rfl
  | cons a L ih => rw [List.flatMap_cons, List.length_append, ih, List.length_cons]; simp [Piece.cells]; omega
theorem cells3_get : ∀ (L : List Piece) (i : Nat) (h : i < L.length) (t : Nat), t < 3 → (L.flatMap Piece.cells)[i * 3 + t]? = (L[i]).cells[t]?
  | [], i, h, _, _ => by simp at h
  | m :: L, i, h, t, ht => by
    rw [List.flatMap_cons]
    cases i with
    | zero => rw [List.getElem?_append_left (by simp [Piece.cells]; omega)]; simp
    | succ i =>
      rw [List.getElem?_append_right (by simp [Piece.cells]; omega)]
      have e : (i + 1) * 3 + t - (Piece.cells m).length = i * 3 + t := by simp [Piece.cells]; omega
      rw [e, cells3_get L i (by simpa using h) t ht]
      rfl
theorem pieces_src {w : World} {a : Option Addr} {len : Nat} {ps : List Piece} (h : PiecesAt w a len ps) : 0 < len → ∃ pb po, a = some ⟨pb, po, none⟩ ∧ pb < w.heap.size ∧ ∀ j u, (ps.flatMap Piece.cells)[j]? = some u → w.cell? ⟨pb, po + j, none⟩ = some u := by
  obtain ⟨h1, h2, h3⟩ := h
  intro hl
  obtain ⟨b, o, ha, hb, hc⟩ := h3 hl
  refine ⟨b, o, ha, hb, fun j u hj => ?_⟩
  have hlt : j < (ps.flatMap Piece.cells).length := (List.getElem?_eq_some_iff.1 hj).1
  rw [cells3_len] at hlt
  have hi : j / 3 < ps.length := by omega
  obtain ⟨c0, c1, c2⟩ := hc (j / 3) hi
  have hj3 : j = j / 3 * 3 + j % 3 := by omega
  have hm := cells3_get ps (j / 3) hi (j % 3) (Nat.mod_lt _ (by omega))
  rw [← hj3, hj] at hm
  have : j % 3 = 0 ∨ j % 3 = 1 ∨ j % 3 = 2 := by omega
  rcases this with e | e | e <;> rw [e] at hm <;> simp [Piece.cells] at hm <;> subst hm
  · rw [show o + j = o + j / 3 * 3 by omega]; exact c0
  · rw [show o + j = o + j / 3 * 3 + 1 by omega]; exact c1
  · rw [show o + j = o + j / 3 * 3 + 2 by omega]; exact c2
theorem FRow.pieces {w : World} {n0 : Nat} {ga : Option Addr} {k cap : Nat} {ps : List Piece} (h : FRow w n0 43 3 ga k cap (ps.flatMap Piece.cells)) (hm : k ≤ maxLen) : PiecesAt w ga k ps := by
  have hl : ps.length = k := by have := h.1; rw [cells3_len] at this; omega
  refine ⟨hl, hm, fun h0 => ?_⟩
  obtain ⟨g, rfl, -, hg, hc, -⟩ := h.cell h0
  refine ⟨g, 0, rfl, hg, fun i hi => ?_⟩
  have e := fun t ht => hc (i * 3 + t) _ (by rw [cells3_get ps i hi t ht]; exact List.getElem?_eq_getElem (by simpa [Piece.cells] using ht))
  refine ⟨?_, ?_, ?_⟩
  · simpa [Piece.cells] using e 0 (by omega)
  · simpa [Piece.cells] using e 1 (by omega)
  · simpa [Piece.cells] using e 2 (by omega)

set_option maxRecDepth 100000 in
set_option maxHeartbeats 1000000 in
theorem CloneP_some (p : Addr) (xl xc : Nat) (x : List Piece) (w : World) (hx : PiecesAt w (some p) xl x) (h100 : xl ≤ 1000) :
    Calls Try.prog 110 #[.slice (some p) xl xc] w fun e w' => ∃ ga cc, e = .returned (.slice ga xl cc) ∧ FRow w' w.heap.size 43 3 ga xl cc (x.flatMap Piece.cells) ∧ Below w.heap.size w w' := by
  have hn : ∀ wx, (binOp .eql 23 (.slice (some p) xl xc) (.slice none 0 0)).run Try.prog wx = .ok (.bool false) wx := fun wx => Lib.run_eql_slice_nil wx _ _ _ _ _ _ _ Try.underlying23
  have HX := Lib.hid (fun w1 (hb : Below w.heap.size w w1) => run_append_fresh (P := Try.prog) w1 23 23 43 _ 3 24 Try.underlying23 Try.info43 rfl (by decide) (by decide) ⟨w.heap.size, 0, none⟩ xl xc (some p) (x.flatMap Piece.cells) (by rw [cells3_len, hx.1]) (fun h => by
    obtain ⟨pb, po, e, _, h2⟩ := pieces_src (hx.below hb) h
    exact ⟨pb, po, e, h2⟩) h100)
  clear hx
  go_enter Try.func110, Try.ntmps110
  go_wp2_with (at_builtin; obtain ⟨ga, c3, w3, hr3, hf3, hb3⟩ := HX.out (w.alloc (.cells #[] 43)) (by repeat (first | exact Below.refl _ _ | (refine Below.alloc ?_ (by first | omega | (simp; omega) | simp) _) | (refine Below.setCell ?_ (by first | omega | (simp; omega) | simp) _) | refine Below.drew ?_)); refine wpList_append_run _ rfl _ _ 23 rfl _ _ _ _ rfl rfl hr3 ?_)
  go_ret
  exact ⟨_, _, rfl, hf3.low (by simp), ((Below.refl _ w).alloc (Nat.le_refl _) _).trans (hb3.mono (by simp))⟩
/-- What slices.Clone at pieces ends with. -/
theorem CloneP_any (xa : Option Addr) (xl xc : Nat) (x : List Piece) (w : World) (hx : PiecesAt w xa xl x) (h100 : xl ≤ 1000) :
    Calls Try.prog 110 #[.slice xa xl xc] w fun e w' => ∃ ga cc, e = .returned (.slice ga xl cc) ∧ FRow w' w.heap.size 43 3 ga xl cc (x.flatMap Piece.cells) ∧ Below w.heap.size w w' := by
  cases xa with
  | none =>
    have hx0 : xl = 0 := by
      rcases Nat.eq_zero_or_pos xl with h | h
      · exact h
      · obtain ⟨b, o, e, _⟩ := hx.2.2 h; cases e
    subst hx0
    have hx1 : x = [] := List.length_eq_zero_iff.1 hx.1
    subst hx1
    have hn : ∀ wx, (binOp .eql 23 (.slice none 0 xc) (.slice none 0 0)).run Try.prog wx = .ok (.bool true) wx := fun wx => Lib.run_eql_slice_nil wx _ _ _ _ _ _ _ Try.underlying23
    go_enter Try.func110, Try.ntmps110
    go_wp2_with fail
    go_ret
    exact ⟨none, 0, rfl, ⟨rfl, fun h => absurd h (by omega)⟩, (by repeat (first | exact Below.refl _ _ | (refine Below.alloc ?_ (by first | omega | (simp; omega) | simp) _) | (refine Below.setCell ?_ (by first | omega | (simp; omega) | simp) _) | refine Below.drew ?_))⟩
  | some p => exact CloneP_some p xl xc x w hx h100

/-- The frame with another High of a piece. -/
def PFrame.high (f : PFrame) (k : Nat) (h : Int) : PFrame := { f with pieces := f.pieces.set k ⟨f.lo k, h, f.pay k⟩ }

set_option maxRecDepth 100000 in
set_option maxHeartbeats 8000000 in
theorem withHigh_any (f : PFrame) (sa : Option Addr) (sl sc : Nat) (pa : Option Addr) (pl pc : Nat) (ca : Option Addr) (cl cc : Nat) (ho : f.ok = true) (k : Nat) (hk : k < f.pieces.length) (h : Int) (w : World) (hp : PAt w sa sl sc pa pl pc ca cl cc f) :
    Calls Try.prog 99 #[.agg #[.int .i64 f.len, .int .i64 f.slack, .slice sa sl sc, .slice pa pl pc, .slice ca cl cc], .int .i64 k, .int .i64 h] w fun e w' => ∃ ga gc, e = .returned (.agg #[.int .i64 f.len, .int .i64 f.slack, .slice sa sl sc, .slice ga pl gc, .slice ca cl cc]) ∧ PAt w' sa sl sc ga pl gc ca cl cc (f.high k h) ∧ Below w.heap.size w w' := by
  have hpl := hp.2.1.1
  have hpl6 := (PFrame.ok_parts ho).2.2.2.2.2.1
  have HCL := Lib.hid (fun w1 (hb : Below w.heap.size w w1) => CloneP_any pa pl pc f.pieces w1 (hp.2.1.below hb) (by omega))
  have HP := Lib.hid hp
  have hkl : (k : Int) < (pl : Int) := by omega
  have hk0 : (0 : Int) ≤ (k : Int) := by omega
  clear hp
  go_enter Try.func99, Try.ntmps99
  go_upto_region 1 with fail
  obtain ⟨W0, hW0, hB0, hs0, hr0, hz0⟩ := name2c w #[.int .i64 f.len, .int .i64 f.slack, .slice sa sl sc, .slice pa pl pc, .slice ca cl cc] 87 #[.int .i64 0, .int .i64 0, .slice none 0 0, .slice none 0 0, .slice none 0 0] 87
  have hfr0 : ∀ i, W0.frozen? ⟨w.heap.size, i, none⟩ = false := by subst hW0; intro i; go_simp
  have hfr1 : ∀ i, W0.frozen? ⟨w.heap.size + 1, i, none⟩ = false := by subst hW0; intro i; go_simp
  try rw [hW0]
  clear hW0
  obtain ⟨x0, x1, x2, x3, x4⟩ : W0.cell? ⟨w.heap.size, 0, none⟩ = some (.int .i64 f.len) ∧ W0.cell? ⟨w.heap.size, 1, none⟩ = some (.int .i64 f.slack) ∧ W0.cell? ⟨w.heap.size, 2, none⟩ = some (.slice sa sl sc) ∧ W0.cell? ⟨w.heap.size, 3, none⟩ = some (.slice pa pl pc) ∧ W0.cell? ⟨w.heap.size, 4, none⟩ = some (.slice ca cl cc) := ⟨hs0 0, hs0 1, hs0 2, hs0 3, hs0 4⟩
  have hd1 : w.heap.size < W0.heap.size := by omega
  have hd2 : w.heap.size + 1 < W0.heap.size := by omega
  have u3 := hfr0 3
  go_upto_region 2 with (go_at_call 110; refine (HCL.out _ hB0).mono ?_; rintro e wC ⟨ga, gc, rfl, hf, hb⟩; obtain ⟨g, rfl, hgn, hgl, hgc, hgf⟩ := hf.cell (by omega); have hzC := hb.size; have hcC : ∀ b o, b < W0.heap.size → wC.cell? ⟨b, o, none⟩ = W0.cell? ⟨b, o, none⟩ := (fun b o h => hb.cell (p := ⟨b, o, none⟩) h); have hfC : ∀ b o, b < W0.heap.size → wC.frozen? ⟨b, o, none⟩ = W0.frozen? ⟨b, o, none⟩ := (fun b o h => hb.frozen (p := ⟨b, o, none⟩) h); have HF := Lib.hid hf; have HB := Lib.hid hb; have HGC := Lib.hid hgc; have HGF := Lib.hid hgf; clear hf hb hgc hgf)
  obtain ⟨w4, hw4⟩ : ∃ w4, wC.setCell ⟨w.heap.size, 3, none⟩ (.slice (some ⟨g, 0, none⟩) pl gc) = w4 := ⟨_, rfl⟩
  rw [hw4]
  have hoth4 : ∀ b, b ≠ w.heap.size → w4.heap[b]? = wC.heap[b]? := fun b h => by rw [← hw4]; exact Below.heap_setCell wC ⟨w.heap.size, 3, none⟩ _ b h
  have hz4 : w4.heap.size = wC.heap.size := by rw [← hw4]; simp [World.setCell]
  obtain ⟨y0, y1, y2, y3, y4⟩ : w4.cell? ⟨w.heap.size, 0, none⟩ = some (.int .i64 f.len) ∧ w4.cell? ⟨w.heap.size, 1, none⟩ = some (.int .i64 f.slack) ∧ w4.cell? ⟨w.heap.size, 2, none⟩ = some (.slice sa sl sc) ∧ w4.cell? ⟨w.heap.size, 3, none⟩ = some (.slice (some ⟨g, 0, none⟩) pl gc) ∧ w4.cell? ⟨w.heap.size, 4, none⟩ = some (.slice ca cl cc) := by
    rw [← hw4]
    exact ⟨(set_cell' (by decide)).trans ((hcC _ _ hd1).trans x0), (set_cell' (by decide)).trans ((hcC _ _ hd1).trans x1), (set_cell' (by decide)).trans ((hcC _ _ hd1).trans x2), set_cell ((hcC _ _ hd1).trans x3), (set_cell' (by decide)).trans ((hcC _ _ hd1).trans x4)⟩
  have hB4 : Below w.heap.size w w4 := by rw [← hw4]; exact (hB0.trans (HB.out.mono hB0.size)).setCell (by exact Nat.le_refl _) _
  have hF4 : FRow w4 W0.heap.size 43 3 (some ⟨g, 0, none⟩) pl gc (f.pieces.flatMap Piece.cells) := HF.out.kept (row := some w.heap.size) (by rw [← hw4]; exact gbx_set (gbx_refl _ _) _ _) (fun r e => by injection e with e; exact .inr (.inl (by omega)))
  obtain ⟨g', hg', hgn4, hgl4, hgc4, hgf4⟩ := hF4.cell (by omega)
  obtain rfl : g = g' := by injection hg' with e; injection e
  have hq : w4.cell? ⟨g, k * 3 + 1, none⟩ = some (.int .i64 f.pieces[k].hi) := hgc4 (k * 3 + 1) _ (by rw [cells3_get _ k hk 1 (by omega)]; rfl)
  have hqf := hgf4 (k * 3 + 1)
  have hr4 : ∀ i, w4.cell? ⟨w.heap.size + 1, i, none⟩ = W0.cell? ⟨w.heap.size + 1, i, none⟩ := fun i => (World.cell?_of_block (w := wC) (a := ⟨w.heap.size + 1, i, none⟩) (hoth4 (w.heap.size + 1) (by omega))).trans (hcC _ _ hd2)
  have hrf4 : ∀ i, w4.frozen? ⟨w.heap.size + 1, i, none⟩ = W0.frozen? ⟨w.heap.size + 1, i, none⟩ := fun i => (World.frozen?_of_block (w := wC) (a := ⟨w.heap.size + 1, i, none⟩) (hoth4 (w.heap.size + 1) (by omega))).trans (hfC _ _ hd2)
  have HF4 := Lib.hid hF4
  have HB4 := Lib.hid hB4
  have HG4 := Lib.hid hgc4
  clear hw4 hoth4 hB4 hF4 hgc4 hgf4 hcC hfC
  go_upto_region 3 with fail
  obtain ⟨w5, hw5⟩ : ∃ w5, w4.setCell ⟨g, k * 3 + 1, none⟩ (.int .i64 h) = w5 := ⟨_, rfl⟩
  rw [hw5]
  have hoth5 : ∀ b, b ≠ g → w5.heap[b]? = w4.heap[b]? := fun b h' => by rw [← hw5]; exact Below.heap_setCell w4 ⟨g, k * 3 + 1, none⟩ _ b h'
  have hz5 : w5.heap.size = w4.heap.size := by rw [← hw5]; simp [World.setCell]
  have hB5 : Below w.heap.size w w5 := by rw [← hw5]; exact HB4.out.setCell (by show w.heap.size ≤ g; omega) _
  have h5F : ∀ i, w5.cell? ⟨w.heap.size, i, none⟩ = w4.cell? ⟨w.heap.size, i, none⟩ := fun i => World.cell?_of_block (w := w4) (a := ⟨w.heap.size, i, none⟩) (hoth5 (w.heap.size) (by omega))
  have h5R : ∀ i, w5.cell? ⟨w.heap.size + 1, i, none⟩ = w4.cell? ⟨w.heap.size + 1, i, none⟩ := fun i => World.cell?_of_block (w := w4) (a := ⟨w.heap.size + 1, i, none⟩) (hoth5 (w.heap.size + 1) (by omega))
  have h5Q : ∀ i, w5.frozen? ⟨w.heap.size + 1, i, none⟩ = w4.frozen? ⟨w.heap.size + 1, i, none⟩ := fun i => World.frozen?_of_block (w := w4) (a := ⟨w.heap.size + 1, i, none⟩) (hoth5 (w.heap.size + 1) (by omega))
  have hk1 : w5.cell? ⟨g, k * 3 + 1, none⟩ = some (.int .i64 h) := by rw [← hw5]; exact set_cell hq
  have hkn : ∀ j, j ≠ k * 3 + 1 → w5.cell? ⟨g, j, none⟩ = w4.cell? ⟨g, j, none⟩ := fun j hj => by rw [← hw5]; exact set_cell' (fun e => hj e.symm)
  have HPI := Lib.hid (show ∀ w6 : World, (∀ b, b ≠ w.heap.size + 1 → w6.heap[b]? = w5.heap[b]?) → w5.heap.size ≤ w6.heap.size → PiecesAt w6 (some ⟨g, 0, none⟩) pl (f.high k h).pieces from fun w6 h6 hz6 => by
    refine ⟨by unfold PFrame.high; simpa using hpl, by unfold maxLen; omega, fun _ => ⟨g, 0, rfl, by omega, fun i hi => ?_⟩⟩
    have hi' : i < f.pieces.length := by unfold PFrame.high at hi; simpa using hi
    have hc6 : ∀ j, w6.cell? ⟨g, j, none⟩ = w5.cell? ⟨g, j, none⟩ := fun j => World.cell?_of_block (w := w5) (a := ⟨g, j, none⟩) (h6 g (by omega))
    have e := fun t ht => HG4.out (i * 3 + t) _ (by rw [cells3_get f.pieces i hi' t ht]; exact List.getElem?_eq_getElem (by simpa [Piece.cells] using ht))
    have e0 := e 0 (by omega)
    have e1 := e 1 (by omega)
    have e2 := e 2 (by omega)
    simp only [Piece.cells, List.getElem_cons_zero, List.getElem_cons_succ] at e0 e1 e2
    rw [Nat.zero_add]
    rw [hc6, hc6, hc6]
    by_cases hik : i = k
    · subst hik
      have hlo : f.lo i = f.pieces[i].lo := by unfold PFrame.lo; simp [hi']
      have hpy : f.pay i = f.pieces[i].pe := by unfold PFrame.pay; simp [hi']
      have hset : (f.high i h).pieces[i] = ⟨f.lo i, h, f.pay i⟩ := by unfold PFrame.high; exact List.getElem_set_self _
      rw [hset, hlo, hpy]
      exact ⟨(hkn _ (by omega)).trans e0, hk1, (hkn _ (by omega)).trans e2⟩
    · have hset : (f.high k h).pieces[i] = f.pieces[i] := by unfold PFrame.high; exact List.getElem_set_ne (fun e => hik e.symm) _
      rw [hset]
      exact ⟨(hkn _ (by omega)).trans e0, (hkn _ (by omega)).trans e1, (hkn _ (by omega)).trans e2⟩)
  rw [← h5F] at y0 y1 y2 y3 y4
  have t0 := ((h5R 0).trans (hr4 0)).trans (hr0 0)
  have t1 := ((h5R 1).trans (hr4 1)).trans (hr0 1)
  have t2 := ((h5R 2).trans (hr4 2)).trans (hr0 2)
  have t3 := ((h5R 3).trans (hr4 3)).trans (hr0 3)
  have t4 := ((h5R 4).trans (hr4 4)).trans (hr0 4)
  simp only [List.getElem?_toArray, List.getElem?_cons_zero, List.getElem?_cons_succ] at t0 t1 t2 t3 t4
  have p0 := ((h5Q 0).trans (hrf4 0)).trans (hfr1 0)
  have p1 := ((h5Q 1).trans (hrf4 1)).trans (hfr1 1)
  have p2 := ((h5Q 2).trans (hrf4 2)).trans (hfr1 2)
  have p3 := ((h5Q 3).trans (hrf4 3)).trans (hfr1 3)
  have p4 := ((h5Q 4).trans (hrf4 4)).trans (hfr1 4)
  have hgs : w5.grownBy (((((w5.setCell ⟨w.heap.size + 1, 0, none⟩ (.int .i64 f.len)).setCell ⟨w.heap.size + 1, 1, none⟩ (.int .i64 f.slack)).setCell ⟨w.heap.size + 1, 2, none⟩ (.slice sa sl sc)).setCell ⟨w.heap.size + 1, 3, none⟩ (.slice (some ⟨g, 0, none⟩) pl gc)).setCell ⟨w.heap.size + 1, 4, none⟩ (.slice ca cl cc)) (some (w.heap.size + 1)) := gbx_set (gbx_set (gbx_set (gbx_set (gbx_set (gbx_refl _ _) _ _) _ _) _ _) _ _) _ _
  have HB6 := Lib.hid (hB5.trans (low_grown (N := w.heap.size) hgs (by omega) (by omega)))
  have HPA := Lib.hid (HPI.out (((((w5.setCell ⟨w.heap.size + 1, 0, none⟩ (.int .i64 f.len)).setCell ⟨w.heap.size + 1, 1, none⟩ (.int .i64 f.slack)).setCell ⟨w.heap.size + 1, 2, none⟩ (.slice sa sl sc)).setCell ⟨w.heap.size + 1, 3, none⟩ (.slice (some ⟨g, 0, none⟩) pl gc)).setCell ⟨w.heap.size + 1, 4, none⟩ (.slice ca cl cc)) (fun b hb => by
    rcases Nat.lt_or_ge b w5.heap.size with h1 | h1
    · exact hgs.block b h1 (by simp; exact hb)
    · rw [Array.getElem?_eq_none h1, Array.getElem?_eq_none (by simp [World.setCell]; omega)]) hgs.size)
  have r0 : World.cell? (((((w5.setCell ⟨w.heap.size + 1, 0, none⟩ (.int .i64 f.len)).setCell ⟨w.heap.size + 1, 1, none⟩ (.int .i64 f.slack)).setCell ⟨w.heap.size + 1, 2, none⟩ (.slice sa sl sc)).setCell ⟨w.heap.size + 1, 3, none⟩ (.slice (some ⟨g, 0, none⟩) pl gc)).setCell ⟨w.heap.size + 1, 4, none⟩ (.slice ca cl cc)) ⟨w.heap.size + 1, 0, none⟩ = some (.int .i64 f.len) := (set_cell' (by decide)).trans ((set_cell' (by decide)).trans ((set_cell' (by decide)).trans ((set_cell' (by decide)).trans (set_cell t0))))
  have r1 : World.cell? (((((w5.setCell ⟨w.heap.size + 1, 0, none⟩ (.int .i64 f.len)).setCell ⟨w.heap.size + 1, 1, none⟩ (.int .i64 f.slack)).setCell ⟨w.heap.size + 1, 2, none⟩ (.slice sa sl sc)).setCell ⟨w.heap.size + 1, 3, none⟩ (.slice (some ⟨g, 0, none⟩) pl gc)).setCell ⟨w.heap.size + 1, 4, none⟩ (.slice ca cl cc)) ⟨w.heap.size + 1, 1, none⟩ = some (.int .i64 f.slack) := (set_cell' (by decide)).trans ((set_cell' (by decide)).trans ((set_cell' (by decide)).trans (set_cell ((set_cell' (by decide)).trans t1))))
  have r2 : World.cell? (((((w5.setCell ⟨w.heap.size + 1, 0, none⟩ (.int .i64 f.len)).setCell ⟨w.heap.size + 1, 1, none⟩ (.int .i64 f.slack)).setCell ⟨w.heap.size + 1, 2, none⟩ (.slice sa sl sc)).setCell ⟨w.heap.size + 1, 3, none⟩ (.slice (some ⟨g, 0, none⟩) pl gc)).setCell ⟨w.heap.size + 1, 4, none⟩ (.slice ca cl cc)) ⟨w.heap.size + 1, 2, none⟩ = some (.slice sa sl sc) := (set_cell' (by decide)).trans ((set_cell' (by decide)).trans (set_cell ((set_cell' (by decide)).trans ((set_cell' (by decide)).trans t2))))
  have r3 : World.cell? (((((w5.setCell ⟨w.heap.size + 1, 0, none⟩ (.int .i64 f.len)).setCell ⟨w.heap.size + 1, 1, none⟩ (.int .i64 f.slack)).setCell ⟨w.heap.size + 1, 2, none⟩ (.slice sa sl sc)).setCell ⟨w.heap.size + 1, 3, none⟩ (.slice (some ⟨g, 0, none⟩) pl gc)).setCell ⟨w.heap.size + 1, 4, none⟩ (.slice ca cl cc)) ⟨w.heap.size + 1, 3, none⟩ = some (.slice (some ⟨g, 0, none⟩) pl gc) := (set_cell' (by decide)).trans (set_cell ((set_cell' (by decide)).trans ((set_cell' (by decide)).trans ((set_cell' (by decide)).trans t3))))
  have r4 : World.cell? (((((w5.setCell ⟨w.heap.size + 1, 0, none⟩ (.int .i64 f.len)).setCell ⟨w.heap.size + 1, 1, none⟩ (.int .i64 f.slack)).setCell ⟨w.heap.size + 1, 2, none⟩ (.slice sa sl sc)).setCell ⟨w.heap.size + 1, 3, none⟩ (.slice (some ⟨g, 0, none⟩) pl gc)).setCell ⟨w.heap.size + 1, 4, none⟩ (.slice ca cl cc)) ⟨w.heap.size + 1, 4, none⟩ = some (.slice ca cl cc) := set_cell ((set_cell' (by decide)).trans ((set_cell' (by decide)).trans ((set_cell' (by decide)).trans ((set_cell' (by decide)).trans t4))))
  clear hw5 hoth5 h5F h5R h5Q hkn hgs hr4 hrf4 hr0 hfr0 hfr1 hs0
  go_wp2_with fail
  refine bodyPost_ret (v := .agg #[.int .i64 f.len, .int .i64 f.slack, .slice sa sl sc, .slice (some ⟨g, 0, none⟩) pl gc, .slice ca cl cc]) ?_ rfl ⟨_, _, rfl, ⟨(HP.out.below HB6.out).1, HPA.out, (HP.out.below HB6.out).2.2⟩, HB6.out⟩
  simp [results, Try.results99, go_sem, r0, r1, r2, r3, r4]
end Go.Proofs.Ytcklhojeneejiaa
