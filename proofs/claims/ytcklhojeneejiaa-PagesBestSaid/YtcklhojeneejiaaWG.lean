/- Pages: what a copy owns, written; the reference's Grown. -/
import Derived.Test.YtcklhojeneejiaaWB
namespace Go.Proofs.Ytcklhojeneejiaa
set_option linter.unusedVariables false
set_option linter.unusedSimpArgs false
open Go.RowKit Go.Shelf

theorem cells3_set : ∀ (L : List Piece) (i : Nat) (_ : i < L.length) (m : Piece), (L.set i m).flatMap Piece.cells = (((L.flatMap Piece.cells).set (i * 3) (.int .i64 m.lo)).set (i * 3 + 1) (.int .i64 m.hi)).set (i * 3 + 2) (.int .i64 m.pe)
  | [], i, h, _ => by simp at h
  | a :: L, 0, _, m => by simp [Piece.cells, List.flatMap_cons]
  | a :: L, i + 1, h, m => by
    have ih := cells3_set L i (by simpa using h) m
    rw [List.set_cons_succ, List.flatMap_cons, List.flatMap_cons, ih]
    have e : ∀ (t : Nat), (i + 1) * 3 + t = (i * 3 + t) + 3 := fun t => by omega
    rw [e 1, e 2, show (i + 1) * 3 = i * 3 + 3 by omega]
    rfl
theorem own_set {w : World} {n0 e size g k cap : Nat} {cs : List Value} (h : w.ownsRow n0 e size (.slice (some ⟨g, 0, none⟩) k cap) k cs) (j : Nat) (v : Value) :
    (w.setCell ⟨g, j, none⟩ v).ownsRow n0 e size (.slice (some ⟨g, 0, none⟩) k cap) k (cs.set j v) := by
  rcases h.2 with ⟨e1, _⟩ | ⟨g', c, cur, e1, h1, h2, h3, h4, h5, h6⟩
  · cases e1
  · injection e1 with e1 e2 e3
    injection e1 with e1
    injection e1 with e1
    subst e1 e3
    refine ⟨by rw [List.length_set]; exact h.1, .inr ⟨g, cap, cur.setIfInBounds j v, rfl, h1, heap_setCell_same _ _ _ _ _ _ h2, h3, h4, by simpa using h5, ?_⟩⟩
    rw [Array.toList_setIfInBounds, List.take_set, h6]
theorem FRow.set {w : World} {n0 : Nat} {e : TypeId} {size : Nat} {ga : Addr} {k cap : Nat} {cs : List Value} (h : FRow w n0 e size (some ga) k cap cs) (j : Nat) (v : Value) :
    FRow (w.setCell ⟨ga.block, j, none⟩ v) n0 e size (some ga) k cap (cs.set j v) := by
  refine ⟨by rw [List.length_set]; exact h.1, fun h0 => ?_⟩
  obtain ⟨g, e1, ho⟩ := h.2 h0
  injection e1 with e1
  subst e1
  exact ⟨g, rfl, own_set ho j v⟩
theorem own_geP {w : World} {n0 k n r : Nat} {e : TypeId} {v : Value} {xs : List Value} (h : w.ownsRow n0 e k v n xs) (hr : r < n0) : some r ≠ v.ownBlock := fun e => by have := (own_span h r e.symm).1; omega
/-- What a copy owns. -/
def PRow (f : PFrame) (n0 sl pl cl : Nat) (gs : Addr) (gsc : Nat) (gp : Addr) (gpc : Nat) (va : Option Addr) (vc : Nat) (vs : List Value) (N1 : Nat) (w : World) : Prop :=
  FRow w n0 80 2 (some gs) sl gsc (f.strips.flatMap Strip.cells) ∧ FRow w n0 43 3 (some gp) pl gpc (f.pieces.flatMap Piece.cells) ∧
    w.ownsRow n0 27 1 (.slice va cl vc) cl vs ∧ LRow w N1 vs f.cols ∧ n0 ≤ N1
section
variable {f : PFrame} {n0 sl pl cl : Nat} {gs : Addr} {gsc : Nat} {gp : Addr} {gpc : Nat} {va : Option Addr} {vc : Nat} {vs : List Value} {N1 : Nat} {w w' : World}
theorem PRow.below (h : PRow f n0 sl pl cl gs gsc gp gpc va vc vs N1 w) (hb : Below w.heap.size w w') : PRow f n0 sl pl cl gs gsc gp gpc va vc vs N1 w' := by
  obtain ⟨h1, h2, h4, h5, h6⟩ := h
  exact ⟨h1.kept (grown_none hb) (fun r e => by cases e), h2.kept (grown_none hb) (fun r e => by cases e), h4.kept (grown_none hb) (Classical.em _), h5.kept (grown_none hb) (fun r e => by cases e), h6⟩
theorem PRow.out {r : Nat} (h : PRow f n0 sl pl cl gs gsc gp gpc va vc vs N1 w) (hg : w.grownBy w' (some r)) (hr : r < n0) : PRow f n0 sl pl cl gs gsc gp gpc va vc vs N1 w' := by
  obtain ⟨h1, h2, h4, h5, h6⟩ := h
  exact ⟨h1.kept hg (fun r' e => by injection e with e; exact .inr (.inl (by omega))), h2.kept hg (fun r' e => by injection e with e; exact .inr (.inl (by omega))), h4.kept hg (.inr (fun e => own_geP h4 hr e.symm)), h5.kept hg (fun r' e => by injection e with e; exact .inr (.inl (by omega))), h6⟩
theorem PRow.low {n1 : Nat} (h : PRow f n0 sl pl cl gs gsc gp gpc va vc vs N1 w) (hn : n1 ≤ n0) : PRow f n1 sl pl cl gs gsc gp gpc va vc vs N1 w := by
  obtain ⟨h1, h2, h4, h5, h6⟩ := h
  exact ⟨h1.low hn, h2.low hn, own_base2 h4 hn, h5, by omega⟩
theorem PRow.up {N : Nat} (h : PRow f n0 sl pl cl gs gsc gp gpc va vc vs N1 w) (hk : KeepsUp N w w') (hn : N ≤ n0) : PRow f n0 sl pl cl gs gsc gp gpc va vc vs N1 w' := by
  obtain ⟨h1, h2, h4, h5, h6⟩ := h
  exact ⟨h1.up hk hn, h2.up hk hn, own_up h4 hk hn, h5.up hk (by omega), h6⟩
theorem PRow.at (h : PRow f n0 sl pl cl gs gsc gp gpc va vc vs N1 w) (hm : sl ≤ 1000) (hw : cl ≤ 1000) (hn : pl ≤ 1000) (hx : ∀ x ∈ f.cols, x.length ≤ 1000) : PAt w (some gs) sl gsc (some gp) pl gpc va cl vc f := by
  obtain ⟨h1, h2, h4, h5, h6⟩ := h
  exact ⟨h1.strips (by unfold maxLen; omega), h2.pieces (by unfold maxLen; omega), h5.lists h4 (by unfold maxLen; omega) (fun x hx' => by have := hx x hx'; unfold maxLen; omega)⟩
theorem PRow.setPiece (h : PRow f n0 sl pl cl gs gsc gp gpc va vc vs N1 w) (i : Nat) (hi : i < f.pieces.length) (hpl : f.pieces.length = pl) (m : Piece) :
    PRow { f with pieces := f.pieces.set i m } n0 sl pl cl gs gsc gp gpc va vc vs N1 (((w.setCell ⟨gp.block, i * 3, none⟩ (.int .i64 m.lo)).setCell ⟨gp.block, i * 3 + 1, none⟩ (.int .i64 m.hi)).setCell ⟨gp.block, i * 3 + 2, none⟩ (.int .i64 m.pe)) := by
  obtain ⟨h1, h2, h4, h5, h6⟩ := h
  obtain ⟨g, e1, ho⟩ := h2.2 (by omega)
  injection e1 with e1
  obtain ⟨hg0, cur, hc⟩ := own_parts ho
  have hg : w.grownBy (((w.setCell ⟨gp.block, i * 3, none⟩ (.int .i64 m.lo)).setCell ⟨gp.block, i * 3 + 1, none⟩ (.int .i64 m.hi)).setCell ⟨gp.block, i * 3 + 2, none⟩ (.int .i64 m.pe)) (some gp.block) := gbx_set (gbx_set (gbx_set (gbx_refl _ _) _ _) _ _) _ _
  have hne : ∀ {e : TypeId} {n : Nat}, 43 ≠ e → ∀ r, some gp.block = some r → (∃ (c : Array Value) (e' : TypeId), w.heap[r]? = some (.cells c e' (0, 0)) ∧ e' ≠ e) ∨ r < n ∨ w.heap.size ≤ r := fun he r hr => by
    injection hr with hr; subst hr; subst e1; exact .inl ⟨cur, _, hc, he⟩
  refine ⟨h1.kept hg (hne (by decide)), ?_, h4.kept hg (.inr fun e => ?_), h5.kept hg (hne (by decide)), h6⟩
  · rw [cells3_set _ _ hi]
    exact ((h2.set _ _).set _ _).set _ _
  · subst e1
    exact own_ne h4 ⟨cur, hc⟩ (by decide) e.symm
theorem PRow.piece (h : PRow f n0 sl pl cl gs gsc gp gpc va vc vs N1 w) (h0 : 0 < pl) : gp.off = 0 ∧ gp = ⟨gp.block, 0, none⟩ ∧ n0 ≤ gp.block ∧ gp.block < w.heap.size ∧ (∀ i, w.frozen? ⟨gp.block, i, none⟩ = false) ∧ ∀ i (h : i < f.pieces.length), w.cell? ⟨gp.block, i * 3, none⟩ = some (.int .i64 f.pieces[i].lo) ∧ w.cell? ⟨gp.block, i * 3 + 1, none⟩ = some (.int .i64 f.pieces[i].hi) ∧ w.cell? ⟨gp.block, i * 3 + 2, none⟩ = some (.int .i64 f.pieces[i].pe) := by
  obtain ⟨g, hge, hgn, hgl, hgc, hgf⟩ := h.2.1.cell h0
  obtain rfl : gp = ⟨g, 0, none⟩ := by injection hge
  refine ⟨rfl, rfl, hgn, hgl, hgf, fun i hi => ?_⟩
  have e := fun t ht => hgc (i * 3 + t) _ (by rw [cells3_get f.pieces i hi t ht]; exact List.getElem?_eq_getElem (by simpa [Piece.cells] using ht))
  have e0 := e 0 (by omega)
  have e1 := e 1 (by omega)
  have e2 := e 2 (by omega)
  simp only [Piece.cells, List.getElem_cons_zero, List.getElem_cons_succ] at e0 e1 e2
  exact ⟨e0, e1, e2⟩
end
def CopyOf (f : PFrame) (sl pl cl : Nat) (w : World) (e : Ending) (w' : World) : Prop :=
  ∃ (gs : Addr) (gsc : Nat) (gp : Addr) (gpc : Nat) (va : Option Addr) (vc : Nat) (vs : List Value) (N1 : Nat), e = .returned (.agg #[.int .i64 f.len, .int .i64 f.slack, .slice (some gs) sl gsc, .slice (some gp) pl gpc, .slice va cl vc]) ∧ PRow f w.heap.size sl pl cl gs gsc gp gpc va vc vs N1 w' ∧ Below w.heap.size w w'
/-- As CopyOf; a copy's pieces that are none have no room. -/
def CopyOfC (f : PFrame) (sl pl cl : Nat) (w : World) (e : Ending) (w' : World) : Prop :=
  ∃ (gs : Addr) (gsc : Nat) (gp : Addr) (gpc : Nat) (va : Option Addr) (vc : Nat) (vs : List Value) (N1 : Nat), e = .returned (.agg #[.int .i64 f.len, .int .i64 f.slack, .slice (some gs) sl gsc, .slice (some gp) pl gpc, .slice va cl vc]) ∧ PRow f w.heap.size sl pl cl gs gsc gp gpc va vc vs N1 w' ∧ CapOk pl gpc ∧ Below w.heap.size w w'
theorem Copy_ofC (f : PFrame) (sa : Option Addr) (sl sc : Nat) (pa : Option Addr) (pl pc : Nat) (ca : Option Addr) (cl cc : Nat) (w : World) (hp : PAt w sa sl sc pa pl pc ca cl cc f) (hm1 : sl ≤ 1000) (hw1 : cl ≤ 1000) (hn1 : pl ≤ 1000) (hx1 : ∀ x ∈ f.cols, x.length ≤ 1000) :
    Calls Try.prog 19 #[.agg #[.int .i64 f.len, .int .i64 f.slack, .slice sa sl sc, .slice pa pl pc, .slice ca cl cc]] w fun e w' => CopyOfC f sl pl cl w e w' := by
  refine (Copy_any f sa sl sc pa pl pc ca cl cc w hp hm1 hw1 hn1 hx1).mono ?_
  rintro e w' ⟨gs, gsc, gp, gpc, va, vc, vs, N1, rfl, hM, hW, hO, hL, ⟨hN, hC⟩, hb⟩
  exact ⟨gs, gsc, gp, gpc, va, vc, vs, N1, rfl, ⟨hM, hW, hO, hL, hN⟩, hC, hb⟩
theorem Copy_of (f : PFrame) (sa : Option Addr) (sl sc : Nat) (pa : Option Addr) (pl pc : Nat) (ca : Option Addr) (cl cc : Nat) (w : World) (hp : PAt w sa sl sc pa pl pc ca cl cc f) (hm1 : sl ≤ 1000) (hw1 : cl ≤ 1000) (hn1 : pl ≤ 1000) (hx1 : ∀ x ∈ f.cols, x.length ≤ 1000) :
    Calls Try.prog 19 #[.agg #[.int .i64 f.len, .int .i64 f.slack, .slice sa sl sc, .slice pa pl pc, .slice ca cl cc]] w fun e w' => CopyOf f sl pl cl w e w' := by
  refine (Copy_any f sa sl sc pa pl pc ca cl cc w hp hm1 hw1 hn1 hx1).mono ?_
  rintro e w' ⟨gs, gsc, gp, gpc, va, vc, vs, N1, rfl, hM, hW, hO, hL, ⟨hN, -⟩, hb⟩
  exact ⟨gs, gsc, gp, gpc, va, vc, vs, N1, rfl, ⟨hM, hW, hO, hL, hN⟩, hb⟩
/-- What a frame gives that is a changed copy. -/
def NewOf (g : PFrame) (sl pl cl : Nat) (w : World) (e : Ending) (w' : World) : Prop :=
  ∃ ga gc ha hc ia ic, e = .returned (.agg #[.int .i64 g.len, .int .i64 g.slack, .slice ga sl gc, .slice ha pl hc, .slice ia cl ic]) ∧ (∀ W', KeepsUp w.heap.size w' W' → PAt W' ga sl gc ha pl hc ia cl ic g)

set_option maxRecDepth 100000 in
set_option maxHeartbeats 8000000 in
theorem Grown_any (f : PFrame) (sa : Option Addr) (sl sc : Nat) (pa : Option Addr) (pl pc : Nat) (ca : Option Addr) (cl cc : Nat) (k : Nat) (hk : k < f.pieces.length) (m : Int) (w : World) (hp : PAt w sa sl sc pa pl pc ca cl cc f) (hm1 : sl ≤ 1000) (hw1 : cl ≤ 1000) (hn1 : pl ≤ 1000) (hx1 : ∀ x ∈ f.cols, x.length ≤ 1000) :
    Calls Try.prog 72 #[.agg #[.int .i64 f.len, .int .i64 f.slack, .slice sa sl sc, .slice pa pl pc, .slice ca cl cc], .int .i64 k, .int .i64 m] w fun e w' => NewOf (f.high k m) sl pl cl w e w' ∧ Below w.heap.size w w' := by
  have hpl := hp.2.1.1
  have HCL := Lib.hid (fun w1 (hb : Below w.heap.size w w1) => Copy_of f sa sl sc pa pl pc ca cl cc w1 (hp.below hb) hm1 hw1 hn1 hx1)
  have hkl : (k : Int) < (pl : Int) := by omega
  have hk0 : (0 : Int) ≤ (k : Int) := by omega
  have HX1 := Lib.hid hx1
  clear hp hx1
  go_enter Try.func72, Try.ntmps72
  go_upto_region 1 with fail
  obtain ⟨W0, hW0, hB0, hs0, hr0, hz0⟩ := name2c w #[.int .i64 f.len, .int .i64 f.slack, .slice sa sl sc, .slice pa pl pc, .slice ca cl cc] 26 #[.int .i64 0, .int .i64 0, .slice none 0 0, .slice none 0 0, .slice none 0 0] 26
  have hfr1 : ∀ i, W0.frozen? ⟨w.heap.size + 1, i, none⟩ = false := by subst hW0; intro i; go_simp
  try rw [hW0]
  clear hW0
  obtain ⟨x0, x1, x2, x3, x4⟩ : W0.cell? ⟨w.heap.size, 0, none⟩ = some (.int .i64 f.len) ∧ W0.cell? ⟨w.heap.size, 1, none⟩ = some (.int .i64 f.slack) ∧ W0.cell? ⟨w.heap.size, 2, none⟩ = some (.slice sa sl sc) ∧ W0.cell? ⟨w.heap.size, 3, none⟩ = some (.slice pa pl pc) ∧ W0.cell? ⟨w.heap.size, 4, none⟩ = some (.slice ca cl cc) := ⟨hs0 0, hs0 1, hs0 2, hs0 3, hs0 4⟩
  have hd2 : w.heap.size + 1 < W0.heap.size := by omega
  go_upto_region 2 with (go_at_call 19; refine (HCL.out _ hB0).mono ?_; rintro e w2 ⟨gs, gsc, gp, gpc, va, vc, vs, N1, rfl, hPR, hb2⟩; have HPR := Lib.hid hPR; have HB2 := Lib.hid hb2; clear hPR hb2)
  obtain ⟨-, hge, hgn, hgl, hgf, hgc⟩ := HPR.out.piece (by omega)
  obtain ⟨c0, c1, c2⟩ := hgc k hk
  obtain ⟨g, hg⟩ : ∃ g, gp.block = g := ⟨_, rfl⟩
  rw [hg] at hge hgn hgl hgf c0 c1 c2
  have HGE := Lib.hid hg
  clear hg hgc
  subst hge
  have hz2 := HB2.out.size
  obtain ⟨w3, hw3, hB3, ho3, hz3⟩ := name1k w2 #[.int .i64 f.len, .int .i64 f.slack, .slice (some gs) sl gsc, .slice (some ⟨g, 0, none⟩) pl gpc, .slice va cl vc] 26
  rw [hw3]
  clear hw3
  have q0 := (hB3.cell (p := ⟨g, k * 3, none⟩) hgl).trans c0
  have q1 := (hB3.cell (p := ⟨g, k * 3 + 1, none⟩) hgl).trans c1
  have q2 := (hB3.cell (p := ⟨g, k * 3 + 2, none⟩) hgl).trans c2
  obtain ⟨y0, y1, y2, y3, y4⟩ : w3.cell? ⟨w2.heap.size, 0, none⟩ = some (.int .i64 f.len) ∧ w3.cell? ⟨w2.heap.size, 1, none⟩ = some (.int .i64 f.slack) ∧ w3.cell? ⟨w2.heap.size, 2, none⟩ = some (.slice (some gs) sl gsc) ∧ w3.cell? ⟨w2.heap.size, 3, none⟩ = some (.slice (some ⟨g, 0, none⟩) pl gpc) ∧ w3.cell? ⟨w2.heap.size, 4, none⟩ = some (.slice va cl vc) := ⟨ho3 0, ho3 1, ho3 2, ho3 3, ho3 4⟩
  have hlo : f.lo k = f.pieces[k].lo := by unfold PFrame.lo; simp [hk]
  have hpy : f.pay k = f.pieces[k].pe := by unfold PFrame.pay; simp [hk]
  have HGF := Lib.hid hgf
  rw [← hlo] at q0
  rw [← hpy] at q2
  have HSET := Lib.hid (fun (W : World) (h : PRow f W0.heap.size sl pl cl gs gsc ⟨g, 0, none⟩ gpc va vc vs N1 W) => show PRow (f.high k m) W0.heap.size sl pl cl gs gsc ⟨g, 0, none⟩ gpc va vc vs N1 (((W.setCell ⟨g, k * 3, none⟩ (.int .i64 (f.lo k))).setCell ⟨g, k * 3 + 1, none⟩ (.int .i64 m)).setCell ⟨g, k * 3 + 2, none⟩ (.int .i64 (f.pay k))) from h.setPiece k hk hpl ⟨f.lo k, m, f.pay k⟩)
  clear c0 c1 c2 hgf hlo hpy
  generalize f.pieces[k].hi = mo at *
  generalize f.lo (k : Int) = lo at *
  generalize f.pay k = pe at *
  go_upto_region 3 with fail
  obtain ⟨w4, hw4, hB4, ho4, hz4⟩ := name1k w3 #[.int .i64 lo, .int .i64 mo, .int .i64 pe] 43
  have hfr4 : w4.frozen? ⟨w3.heap.size, 1, none⟩ = false := by subst hw4; go_simp
  try rw [hw4]
  clear hw4
  have s0 := ho4 0
  have s1 := ho4 1
  have s2 := ho4 2
  simp only [List.getElem?_toArray, List.getElem?_cons_zero, List.getElem?_cons_succ] at s0 s1 s2
  go_upto_region 4 with fail
  obtain ⟨w5, hw5⟩ : ∃ w5, w4.setCell ⟨w3.heap.size, 1, none⟩ (.int .i64 m) = w5 := ⟨_, rfl⟩
  rw [hw5]
  have hB5 : Below w3.heap.size w3 w5 := by rw [← hw5]; exact hB4.setCell (by exact Nat.le_refl _) _
  have a0 : w5.cell? ⟨w3.heap.size, 0, none⟩ = some (.int .i64 lo) := by rw [← hw5]; exact (set_cell' (by decide)).trans s0
  have a1 : w5.cell? ⟨w3.heap.size, 1, none⟩ = some (.int .i64 m) := by rw [← hw5]; exact set_cell s1
  have a2 : w5.cell? ⟨w3.heap.size, 2, none⟩ = some (.int .i64 pe) := by rw [← hw5]; exact (set_cell' (by decide)).trans s2
  have hz5 : w5.heap.size = w4.heap.size := by rw [← hw5]; simp [World.setCell]
  have hB25 : Below w2.heap.size w2 w5 := hB3.trans (hB5.mono (by omega))
  have hd3 : w2.heap.size < w3.heap.size := by omega
  have b0 := (hB5.cell (p := ⟨w2.heap.size, 0, none⟩) hd3).trans y0
  have b1 := (hB5.cell (p := ⟨w2.heap.size, 1, none⟩) hd3).trans y1
  have b2 := (hB5.cell (p := ⟨w2.heap.size, 2, none⟩) hd3).trans y2
  have b3 := (hB5.cell (p := ⟨w2.heap.size, 3, none⟩) hd3).trans y3
  have b4 := (hB5.cell (p := ⟨w2.heap.size, 4, none⟩) hd3).trans y4
  have p0 := (hB5.cell (p := ⟨g, k * 3, none⟩) (by show g < _; omega)).trans q0
  have p1 := (hB5.cell (p := ⟨g, k * 3 + 1, none⟩) (by show g < _; omega)).trans q1
  have p2 := (hB5.cell (p := ⟨g, k * 3 + 2, none⟩) (by show g < _; omega)).trans q2
  have pf : ∀ i, w5.frozen? ⟨g, i, none⟩ = false := fun i => (hB25.frozen (p := ⟨g, i, none⟩) hgl).trans (HGF.out i)
  have pf0 := pf (k * 3)
  have pf1 := pf (k * 3 + 1)
  have pf2 := pf (k * 3 + 2)
  have HP5 := Lib.hid (HPR.out.below hB25)
  clear hw5 s0 s1 s2 q0 q1 q2 y0 y1 y2 y3 y4 x0 x1 x2 x3 x4
  go_upto_region 5 with fail
  obtain ⟨w6, hw6⟩ : ∃ w6, ((w5.setCell ⟨g, k * 3, none⟩ (.int .i64 lo)).setCell ⟨g, k * 3 + 1, none⟩ (.int .i64 m)).setCell ⟨g, k * 3 + 2, none⟩ (.int .i64 pe) = w6 := ⟨_, rfl⟩
  rw [hw6]
  have HP6 := Lib.hid (show PRow (f.high k m) W0.heap.size sl pl cl gs gsc ⟨g, 0, none⟩ gpc va vc vs N1 w6 from by rw [← hw6]; exact HSET.out _ HP5.out)
  have hg6 : w5.grownBy w6 (some g) := by rw [← hw6]; exact gbx_set (gbx_set (gbx_set (gbx_refl _ _) _ _) _ _) _ _
  have h6 : ∀ b i, b ≠ g → b < w5.heap.size → w6.cell? ⟨b, i, none⟩ = w5.cell? ⟨b, i, none⟩ := fun b i h1 h2 => World.cell?_of_block (w := w5) (a := ⟨b, i, none⟩) (hg6.block b h2 (by simp; exact h1))
  have h6f : ∀ b i, b ≠ g → b < w5.heap.size → w6.frozen? ⟨b, i, none⟩ = w5.frozen? ⟨b, i, none⟩ := fun b i h1 h2 => World.frozen?_of_block (w := w5) (a := ⟨b, i, none⟩) (hg6.block b h2 (by simp; exact h1))
  rw [← h6 _ _ (by omega) (by omega)] at b0 b1 b2 b3 b4
  have hBw5 : Below w.heap.size w w5 := (hB0.trans (HB2.out.mono hB0.size)).trans (hB25.mono (by omega))
  have hw0 : ∀ i, w6.cell? ⟨w.heap.size + 1, i, none⟩ = W0.cell? ⟨w.heap.size + 1, i, none⟩ := fun i => (h6 _ i (by omega) (by omega)).trans ((hB25.cell (p := ⟨w.heap.size + 1, i, none⟩) (by show w.heap.size + 1 < _; omega)).trans (HB2.out.cell (p := ⟨w.heap.size + 1, i, none⟩) hd2))
  have hw0f : ∀ i, w6.frozen? ⟨w.heap.size + 1, i, none⟩ = W0.frozen? ⟨w.heap.size + 1, i, none⟩ := fun i => (h6f _ i (by omega) (by omega)).trans ((hB25.frozen (p := ⟨w.heap.size + 1, i, none⟩) (by show w.heap.size + 1 < _; omega)).trans (HB2.out.frozen (p := ⟨w.heap.size + 1, i, none⟩) hd2))
  have t0 := (hw0 0).trans (hr0 0)
  have t1 := (hw0 1).trans (hr0 1)
  have t2 := (hw0 2).trans (hr0 2)
  have t3 := (hw0 3).trans (hr0 3)
  have t4 := (hw0 4).trans (hr0 4)
  simp only [List.getElem?_toArray, List.getElem?_cons_zero, List.getElem?_cons_succ] at t0 t1 t2 t3 t4
  have u0 := (hw0f 0).trans (hfr1 0)
  have u1 := (hw0f 1).trans (hfr1 1)
  have u2 := (hw0f 2).trans (hfr1 2)
  have u3 := (hw0f 3).trans (hfr1 3)
  have u4 := (hw0f 4).trans (hfr1 4)
  have hg7 : w6.grownBy (((((w6.setCell ⟨w.heap.size + 1, 0, none⟩ (.int .i64 f.len)).setCell ⟨w.heap.size + 1, 1, none⟩ (.int .i64 f.slack)).setCell ⟨w.heap.size + 1, 2, none⟩ (.slice (some gs) sl gsc)).setCell ⟨w.heap.size + 1, 3, none⟩ (.slice (some ⟨g, 0, none⟩) pl gpc)).setCell ⟨w.heap.size + 1, 4, none⟩ (.slice va cl vc)) (some (w.heap.size + 1)) := gbx_set (gbx_set (gbx_set (gbx_set (gbx_set (gbx_refl _ _) _ _) _ _) _ _) _ _) _ _
  obtain ⟨r0, r1, r2, r3, r4⟩ := set5 (.int .i64 f.len) (.int .i64 f.slack) (.slice (some gs) sl gsc) (.slice (some ⟨g, 0, none⟩) pl gpc) (.slice va cl vc) t0 t1 t2 t3 t4
  have hz6 := hg6.size
  have HPA := Lib.hid (show (∀ W', KeepsUp w.heap.size (((((w6.setCell ⟨w.heap.size + 1, 0, none⟩ (.int .i64 f.len)).setCell ⟨w.heap.size + 1, 1, none⟩ (.int .i64 f.slack)).setCell ⟨w.heap.size + 1, 2, none⟩ (.slice (some gs) sl gsc)).setCell ⟨w.heap.size + 1, 3, none⟩ (.slice (some ⟨g, 0, none⟩) pl gpc)).setCell ⟨w.heap.size + 1, 4, none⟩ (.slice va cl vc)) W' → PAt W' (some gs) sl gsc (some ⟨g, 0, none⟩) pl gpc va cl vc (f.high k m)) ∧ Below w.heap.size w (((((w6.setCell ⟨w.heap.size + 1, 0, none⟩ (.int .i64 f.len)).setCell ⟨w.heap.size + 1, 1, none⟩ (.int .i64 f.slack)).setCell ⟨w.heap.size + 1, 2, none⟩ (.slice (some gs) sl gsc)).setCell ⟨w.heap.size + 1, 3, none⟩ (.slice (some ⟨g, 0, none⟩) pl gpc)).setCell ⟨w.heap.size + 1, 4, none⟩ (.slice va cl vc)) from
    ⟨fun W' hkk => ((HP6.out.out hg7 hd2).up hkk (by omega)).at hm1 hw1 hn1 HX1.out, (hBw5.trans (low_grown (N := w.heap.size) hg6 (by omega) (by omega))).trans (low_grown (N := w.heap.size) hg7 (by omega) (by omega))⟩)
  clear hw6 hg7 h6 h6f hw0 hw0f hr0 hs0 hfr1 pf
  go_wp2_with fail
  refine bodyPost_ret (v := .agg #[.int .i64 f.len, .int .i64 f.slack, .slice (some gs) sl gsc, .slice (some ⟨g, 0, none⟩) pl gpc, .slice va cl vc]) ?_ rfl ⟨⟨_, _, _, _, _, _, rfl, HPA.out.1⟩, HPA.out.2⟩
  simp [results, Try.results72, go_sem, r0, r1, r2, r3, r4]
end Go.Proofs.Ytcklhojeneejiaa
