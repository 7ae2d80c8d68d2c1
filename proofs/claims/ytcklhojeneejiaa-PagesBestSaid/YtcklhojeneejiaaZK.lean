/- ZK ZL, joined. -/
import Derived.Test.YtcklhojeneejiaaZJ
/- Package pages: fewest. -/
namespace Go.Proofs.Ytcklhojeneejiaa
set_option linter.unusedVariables false
set_option linter.unusedSimpArgs false
open Go.RowKit Go.Shelf

attribute [local go_sem] Oper.semAt_some

theorem colAt_few {ls : List T3} (h : ∀ s ∈ ls, fewS s) (i : Nat) : fewS (colAt ls i) := by
  unfold colAt
  by_cases hi : i < ls.length
  · rw [List.getElem?_eq_getElem hi]; exact h _ (List.getElem_mem hi)
  · rw [List.getElem?_eq_none (by omega)]; exact ⟨by simp, by simp, by simp⟩
theorem cntL_three {ls : List T3} (h : ls.length ≤ 3) : cntL ls = cntS (colAt ls 0) + cntS (colAt ls 1) + cntS (colAt ls 2) := by
  unfold cntL colAt
  rcases ls with - | ⟨a, - | ⟨b, - | ⟨c, - | ⟨d, ls⟩⟩⟩⟩
  · simp [cntS]
  · simp [cntS]
  · simp [cntS]
  · simp; omega
  · simp at h
/-- The layout with the fewest strips so far, the least of several. -/
def bestL (xs : List (List T3)) : Option (List T3) := xs.foldl (fun o x => match o with | none => some x | some y => if cntL x < cntL y then some x else some y) none
theorem bestL_snoc (xs : List (List T3)) (x : List T3) : bestL (xs ++ [x]) = (match bestL xs with | none => some x | some y => if cntL x < cntL y then some x else some y) := by
  unfold bestL; rw [List.foldl_append]; rfl
/-- A store of a whole layout. -/
def set9 (w : World) (B : Nat) (l : List T3) : World := (((((((((w.setCell ⟨B, 0, none⟩ (.int .i64 (colAt l 0).a)).setCell ⟨B, 1, none⟩ (.int .i64 (colAt l 0).b)).setCell ⟨B, 2, none⟩ (.int .i64 (colAt l 0).c)).setCell ⟨B, 3, none⟩ (.int .i64 (colAt l 1).a)).setCell ⟨B, 4, none⟩ (.int .i64 (colAt l 1).b)).setCell ⟨B, 5, none⟩ (.int .i64 (colAt l 1).c)).setCell ⟨B, 6, none⟩ (.int .i64 (colAt l 2).a)).setCell ⟨B, 7, none⟩ (.int .i64 (colAt l 2).b)).setCell ⟨B, 8, none⟩ (.int .i64 (colAt l 2).c))
theorem set9_grown (w : World) (B : Nat) (l : List T3) : w.grownBy (set9 w B l) (some B) := gbx_set (gbx_set (gbx_set (gbx_set (gbx_set (gbx_set (gbx_set (gbx_set (gbx_set (gbx_refl _ _) _ _) _ _) _ _) _ _) _ _) _ _) _ _) _ _) _ _
theorem set9_cell {w : World} {B : Nat} {l0 : List T3} (l : List T3) (h : ∀ i, w.cell? ⟨B, i, none⟩ = (cells9 l0)[i]?) (i : Nat) : (set9 w B l).cell? ⟨B, i, none⟩ = (cells9 l)[i]? := by
  have hs : ∀ i, i < 9 → ∃ u, w.cell? ⟨B, i, none⟩ = some u := fun i hi => ⟨(cells9 l0)[i]'(by simp [cells9]; omega), by rw [h i]; exact Array.getElem?_eq_getElem _⟩
  unfold set9
  by_cases hi : i < 9
  · obtain ⟨u, hu⟩ := hs i hi
    match i, hi with
    | 0, _ => exact (set_cell' (by decide)).trans ((set_cell' (by decide)).trans ((set_cell' (by decide)).trans ((set_cell' (by decide)).trans ((set_cell' (by decide)).trans ((set_cell' (by decide)).trans ((set_cell' (by decide)).trans ((set_cell' (by decide)).trans (set_cell (hu)))))))))
    | 1, _ => exact (set_cell' (by decide)).trans ((set_cell' (by decide)).trans ((set_cell' (by decide)).trans ((set_cell' (by decide)).trans ((set_cell' (by decide)).trans ((set_cell' (by decide)).trans ((set_cell' (by decide)).trans (set_cell ((set_cell' (by decide)).trans hu))))))))
    | 2, _ => exact (set_cell' (by decide)).trans ((set_cell' (by decide)).trans ((set_cell' (by decide)).trans ((set_cell' (by decide)).trans ((set_cell' (by decide)).trans ((set_cell' (by decide)).trans (set_cell ((set_cell' (by decide)).trans ((set_cell' (by decide)).trans hu))))))))
    | 3, _ => exact (set_cell' (by decide)).trans ((set_cell' (by decide)).trans ((set_cell' (by decide)).trans ((set_cell' (by decide)).trans ((set_cell' (by decide)).trans (set_cell ((set_cell' (by decide)).trans ((set_cell' (by decide)).trans ((set_cell' (by decide)).trans hu))))))))
    | 4, _ => exact (set_cell' (by decide)).trans ((set_cell' (by decide)).trans ((set_cell' (by decide)).trans ((set_cell' (by decide)).trans (set_cell ((set_cell' (by decide)).trans ((set_cell' (by decide)).trans ((set_cell' (by decide)).trans ((set_cell' (by decide)).trans hu))))))))
    | 5, _ => exact (set_cell' (by decide)).trans ((set_cell' (by decide)).trans ((set_cell' (by decide)).trans (set_cell ((set_cell' (by decide)).trans ((set_cell' (by decide)).trans ((set_cell' (by decide)).trans ((set_cell' (by decide)).trans ((set_cell' (by decide)).trans hu))))))))
    | 6, _ => exact (set_cell' (by decide)).trans ((set_cell' (by decide)).trans (set_cell ((set_cell' (by decide)).trans ((set_cell' (by decide)).trans ((set_cell' (by decide)).trans ((set_cell' (by decide)).trans ((set_cell' (by decide)).trans ((set_cell' (by decide)).trans hu))))))))
    | 7, _ => exact (set_cell' (by decide)).trans (set_cell ((set_cell' (by decide)).trans ((set_cell' (by decide)).trans ((set_cell' (by decide)).trans ((set_cell' (by decide)).trans ((set_cell' (by decide)).trans ((set_cell' (by decide)).trans ((set_cell' (by decide)).trans hu))))))))
    | 8, _ => exact set_cell ((set_cell' (by decide)).trans ((set_cell' (by decide)).trans ((set_cell' (by decide)).trans ((set_cell' (by decide)).trans ((set_cell' (by decide)).trans ((set_cell' (by decide)).trans ((set_cell' (by decide)).trans ((set_cell' (by decide)).trans hu))))))))
  · have e : (cells9 l)[i]? = none := Array.getElem?_eq_none (by simp [cells9]; omega)
    have e0 : (cells9 l0)[i]? = none := Array.getElem?_eq_none (by simp [cells9]; omega)
    rw [e]
    repeat rw [set_cell' (by omega)]
    rw [h i, e0]
theorem set9_frz {w : World} {B : Nat} (l : List T3) (h : ∀ i, w.frozen? ⟨B, i, none⟩ = false) (i : Nat) : (set9 w B l).frozen? ⟨B, i, none⟩ = false := set_frz (set_frz (set_frz (set_frz (set_frz (set_frz (set_frz (set_frz (set_frz (h i)))))))))
theorem set9_size (w : World) (B : Nat) (l : List T3) : (set9 w B l).heap.size = w.heap.size := by unfold set9; simp [World.setCell]
theorem set9_below {n : Nat} {w : World} {B : Nat} (l : List T3) (h : n ≤ B) (hn : n ≤ w.heap.size) : Below n w (set9 w B l) := low_grown (set9_grown w B l) h hn

/-- What the three boxes hold. -/
def BestAt (B : Nat) (o : Option (List T3)) (w : World) : Prop :=
  (∀ i, w.frozen? ⟨B, i, none⟩ = false) ∧ w.frozen? ⟨B + 1, 0, none⟩ = false ∧ w.frozen? ⟨B + 1 + 1, 0, none⟩ = false ∧
  ∃ l : List T3, ∃ n : Int, ∃ b : Bool, (∀ i, w.cell? ⟨B, i, none⟩ = (cells9 l)[i]?) ∧ w.cell? ⟨B + 1, 0, none⟩ = some (.int .i64 n) ∧ w.cell? ⟨B + 1 + 1, 0, none⟩ = some (.bool b) ∧ ((o = none ∧ b = false) ∨ (o = some l ∧ b = true ∧ n = cntL l))
theorem BestAt.keep {B : Nat} {o : Option (List T3)} {w w' : World} (h : BestAt B o w) (hb : ∀ j, B ≤ j → j ≤ B + 1 + 1 → w'.heap[j]? = w.heap[j]?) : BestAt B o w' := by
  obtain ⟨h1, h2, h3, l, n, b, h4, h5, h6, h7⟩ := h
  have hc : ∀ j i, B ≤ j → j ≤ B + 1 + 1 → w'.cell? ⟨j, i, none⟩ = w.cell? ⟨j, i, none⟩ := fun j i h1 h2 => World.cell?_of_block (w := w) (a := ⟨j, i, none⟩) (hb j h1 h2)
  have hf : ∀ j i, B ≤ j → j ≤ B + 1 + 1 → w'.frozen? ⟨j, i, none⟩ = w.frozen? ⟨j, i, none⟩ := fun j i h1 h2 => World.frozen?_of_block (w := w) (a := ⟨j, i, none⟩) (hb j h1 h2)
  exact ⟨fun i => (hf _ i (by omega) (by omega)).trans (h1 i), (hf _ _ (by omega) (by omega)).trans h2, (hf _ _ (by omega) (by omega)).trans h3, l, n, b, fun i => (hc _ i (by omega) (by omega)).trans (h4 i), (hc _ _ (by omega) (by omega)).trans h5, (hc _ _ (by omega) (by omega)).trans h6, h7⟩
/-- The world at the end, the mark taken in. -/
def FinAt (X : World) (D : Nat) (w : World) (l : List T3) : Prop :=
  ∃ wf, X.putObj D (.deferred none) = wf ∧ X.heap[D]? = some (.deferred (some [])) ∧ Below w.heap.size w wf ∧ ∀ i, wf.cell? ⟨w.heap.size + 1, i, none⟩ = (cells9 l)[i]?
theorem FinAt.drew {X : World} {D : Nat} {w : World} {l : List T3} (h : FinAt X D w l) : FinAt X.drew D w l := by
  obtain ⟨wf, rfl, h1, h2, h3⟩ := h
  exact ⟨_, rfl, h1, h2.drew, h3⟩
theorem BestAt.put {B : Nat} {w : World} {l0 : List T3} {n : Int} {b : Bool} (x : List T3) (h1 : ∀ i, w.frozen? ⟨B, i, none⟩ = false) (h2 : w.frozen? ⟨B + 1, 0, none⟩ = false) (h3 : w.frozen? ⟨B + 1 + 1, 0, none⟩ = false)
    (h4 : ∀ i, w.cell? ⟨B, i, none⟩ = (cells9 l0)[i]?) (h5 : w.cell? ⟨B + 1, 0, none⟩ = some (.int .i64 n)) (h6 : w.cell? ⟨B + 1 + 1, 0, none⟩ = some (.bool b)) :
    BestAt B (some x) (((set9 w B x).setCell ⟨B + 1, 0, none⟩ (.int .i64 (cntL x))).setCell ⟨B + 1 + 1, 0, none⟩ (.bool true)) ∧ (((set9 w B x).setCell ⟨B + 1, 0, none⟩ (.int .i64 (cntL x))).setCell ⟨B + 1 + 1, 0, none⟩ (.bool true)).heap.size = w.heap.size ∧
    ∀ j, j < B ∨ B + 1 + 1 < j → j < w.heap.size → (((set9 w B x).setCell ⟨B + 1, 0, none⟩ (.int .i64 (cntL x))).setCell ⟨B + 1 + 1, 0, none⟩ (.bool true)).heap[j]? = w.heap[j]? := by
  have hs1 := World.block_lt_of_cell? _ _ h5
  have hs2 := World.block_lt_of_cell? _ _ h6
  simp only at hs1 hs2
  have hb9 : ∀ j, j ≠ B → j < w.heap.size → (set9 w B x).heap[j]? = w.heap[j]? := fun j h h' => (set9_grown w B x).block j h' (by simp; exact h)
  have hc9 : ∀ j i, j ≠ B → j < w.heap.size → (set9 w B x).cell? ⟨j, i, none⟩ = w.cell? ⟨j, i, none⟩ := fun j i h h' => World.cell?_of_block (w := w) (a := ⟨j, i, none⟩) (hb9 j h h')
  have hf9 : ∀ j i, j ≠ B → j < w.heap.size → (set9 w B x).frozen? ⟨j, i, none⟩ = w.frozen? ⟨j, i, none⟩ := fun j i h h' => World.frozen?_of_block (w := w) (a := ⟨j, i, none⟩) (hb9 j h h')
  have q5 := (hc9 (B + 1) 0 (by omega) hs1).trans h5
  have q6 := (hc9 (B + 1 + 1) 0 (by omega) hs2).trans h6
  have q2 := (hf9 (B + 1) 0 (by omega) hs1).trans h2
  have q3 := (hf9 (B + 1 + 1) 0 (by omega) hs2).trans h3
  have q1 := set9_frz x h1
  have q4 := set9_cell x h4
  have hzs := set9_size w B x
  generalize set9 w B x = w9 at *
  have hb1 : ∀ v j, j ≠ B + 1 → (w9.setCell ⟨B + 1, 0, none⟩ v).heap[j]? = w9.heap[j]? := fun v j h => Below.heap_setCell w9 ⟨B + 1, 0, none⟩ v j h
  have hb2 : ∀ w8 : World, ∀ v j, j ≠ B + 1 + 1 → (w8.setCell ⟨B + 1 + 1, 0, none⟩ v).heap[j]? = w8.heap[j]? := fun w8 v j h => Below.heap_setCell w8 ⟨B + 1 + 1, 0, none⟩ v j h
  refine ⟨⟨fun i => ?_, ?_, ?_, x, cntL x, true, fun i => ?_, ?_, ?_, .inr ⟨rfl, rfl, rfl⟩⟩, by simp [World.setCell]; simpa [World.setCell] using hzs, fun j h h' => ?_⟩
  · rw [World.frozen?_setCell, World.frozen?_setCell]; exact q1 i
  · rw [World.frozen?_setCell, World.frozen?_setCell]; exact q2
  · rw [World.frozen?_setCell, World.frozen?_setCell]; exact q3
  · exact (World.cell?_of_block (a := ⟨B, i, none⟩) (hb2 _ _ B (by omega))).trans ((World.cell?_of_block (a := ⟨B, i, none⟩) (hb1 _ B (by omega))).trans (q4 i))
  · exact (World.cell?_of_block (a := ⟨B + 1, 0, none⟩) (hb2 _ _ (B + 1) (by omega))).trans (set_cell q5)
  · exact set_cell ((World.cell?_of_block (a := ⟨B + 1 + 1, 0, none⟩) (hb1 _ (B + 1 + 1) (by omega))).trans q6)
  · exact (hb2 _ _ j (by omega)).trans ((hb1 _ j (by omega)).trans (hb9 j (by omega) h'))
/-- What fewest ends with. -/
def FewestPost (f : PFrame) (e : Ending) : Prop :=
  match (if f.ok then bestL (f.lays 0) else none) with
  | none => e = .returned (.tuple #[.agg (cells9 []), .int .i64 0, .int .i64 (if f.ok then 3 else 30)])
  | some l => e = .returned (.tuple #[.agg (cells9 l), .int .i64 (cntL l), .int .i64 0])

set_option maxRecDepth 100000 in
set_option maxHeartbeats 8000000 in
theorem fewest_no (f : PFrame) (sa : Option Addr) (sl sc : Nat) (pa : Option Addr) (pl pc : Nat) (ca : Option Addr) (cl cc : Nat) (ho : f.ok = false) (w : World) (hp : PAt w sa sl sc pa pl pc ca cl cc f) :
    Calls Try.prog 89 #[.agg #[.int .i64 f.len, .int .i64 f.slack, .slice sa sl sc, .slice pa pl pc, .slice ca cl cc]] w fun e w' => FewestPost f e ∧ Below w.heap.size w w' := by
  have HV := Lib.hid (fun W (hb : Below w.heap.size w W) => valid_is f sa sl sc pa pl pc ca cl cc false ho W (hp.below hb))
  clear hp
  refine (callsIn_wide (n := 14)).1 ?_
  refine callsIn_of_wp_marks Try.func89 rfl trivial ?_ rfl
  simp only [Try.ntmps89, List.size_toArray, List.length_cons, List.length_nil, Nat.reduceAdd, Nat.reduceSub, Array.replicate_succ, Array.replicate_zero, List.push_toArray, List.append_toArray, List.nil_append, List.cons_append]
  gi_upto_region 1 with fail
  obtain ⟨W0, hW0, hB0, hs0, hr0, hz0⟩ := name2c w #[.int .i64 f.len, .int .i64 f.slack, .slice sa sl sc, .slice pa pl pc, .slice ca cl cc] 87 (cells9 []) 101
  have hfr0 : ∀ i, W0.frozen? ⟨w.heap.size + 1, i, none⟩ = false := by subst hW0; intro i; go_simp
  have hW0' : (w.alloc (.cells #[.int .i64 f.len, .int .i64 f.slack, .slice sa sl sc, .slice pa pl pc, .slice ca cl cc] 87)).alloc (.cells #[.int .i64 0, .int .i64 0, .int .i64 0, .int .i64 0, .int .i64 0, .int .i64 0, .int .i64 0, .int .i64 0, .int .i64 0] 101) = W0 := hW0
  try rw [hW0']
  clear hW0 hW0'
  obtain ⟨x0, x1, x2, x3, x4⟩ : W0.cell? ⟨w.heap.size, 0, none⟩ = some (.int .i64 f.len) ∧ W0.cell? ⟨w.heap.size, 1, none⟩ = some (.int .i64 f.slack) ∧ W0.cell? ⟨w.heap.size, 2, none⟩ = some (.slice sa sl sc) ∧ W0.cell? ⟨w.heap.size, 3, none⟩ = some (.slice pa pl pc) ∧ W0.cell? ⟨w.heap.size, 4, none⟩ = some (.slice ca cl cc) := ⟨hs0 0, hs0 1, hs0 2, hs0 3, hs0 4⟩
  have HB0 := Lib.hid hB0
  have HBB := Lib.hid (hB0.trans ((Below.refl _ W0).mono hB0.size))
  clear hs0
  gi_upto_region 2 with (refine ⟨trivial, ?_⟩; gi_at_call 79; refine (callsIn_wide.2 (HV.out _ hB0)).mono ?_; rintro e w2 ⟨rfl, hb2⟩)
  have y0 := (hb2.cell (p := ⟨w.heap.size + 1, 0, none⟩) (by show w.heap.size + 1 < _; omega)).trans (hr0 0)
  have y1 := (hb2.cell (p := ⟨w.heap.size + 1, 1, none⟩) (by show w.heap.size + 1 < _; omega)).trans (hr0 1)
  have y2 := (hb2.cell (p := ⟨w.heap.size + 1, 2, none⟩) (by show w.heap.size + 1 < _; omega)).trans (hr0 2)
  have y3 := (hb2.cell (p := ⟨w.heap.size + 1, 3, none⟩) (by show w.heap.size + 1 < _; omega)).trans (hr0 3)
  have y4 := (hb2.cell (p := ⟨w.heap.size + 1, 4, none⟩) (by show w.heap.size + 1 < _; omega)).trans (hr0 4)
  have y5 := (hb2.cell (p := ⟨w.heap.size + 1, 5, none⟩) (by show w.heap.size + 1 < _; omega)).trans (hr0 5)
  have y6 := (hb2.cell (p := ⟨w.heap.size + 1, 6, none⟩) (by show w.heap.size + 1 < _; omega)).trans (hr0 6)
  have y7 := (hb2.cell (p := ⟨w.heap.size + 1, 7, none⟩) (by show w.heap.size + 1 < _; omega)).trans (hr0 7)
  have y8 := (hb2.cell (p := ⟨w.heap.size + 1, 8, none⟩) (by show w.heap.size + 1 < _; omega)).trans (hr0 8)
  have g : ∀ i, w2.frozen? ⟨w.heap.size + 1, i, none⟩ = false := fun i => (hb2.frozen (p := ⟨w.heap.size + 1, i, none⟩) (by show w.heap.size + 1 < _; omega)).trans (hfr0 i)
  have g0 := g 0
  have g1 := g 1
  have g2 := g 2
  have g3 := g 3
  have g4 := g 4
  have g5 := g 5
  have g6 := g 6
  have g7 := g 7
  have g8 := g 8
  unfold cells9 at y0 y1 y2 y3 y4 y5 y6 y7 y8
  simp only [List.getElem?_toArray, List.getElem?_cons_zero, List.getElem?_cons_succ] at y0 y1 y2 y3 y4 y5 y6 y7 y8
  clear g hfr0 x0 x1 x2 x3 x4
  have HP := Lib.hid (show FewestPost f (.returned (.tuple #[.agg #[.int .i64 0, .int .i64 0, .int .i64 0, .int .i64 0, .int .i64 0, .int .i64 0, .int .i64 0, .int .i64 0, .int .i64 0], .int .i64 0, .int .i64 30])) from by unfold FewestPost; simp only [ho]; rfl)
  have hz2 := hb2.size
  have hr := set9_cell (w := w2) (B := w.heap.size + 1) (l0 := []) [] (fun i => (hb2.cell (p := ⟨w.heap.size + 1, i, none⟩) (by show w.heap.size + 1 < _; omega)).trans (hr0 i))
  have HBE := Lib.hid ((HB0.out.trans (hb2.mono HB0.out.size)).trans (set9_below (n := w.heap.size) (w := w2) (B := w.heap.size + 1) [] (by omega) (by omega)))
  clear hr0
  gi_wp2_with fail
  rw [show (((((((((w2.setCell ⟨w.heap.size + 1, 0, none⟩ (.int .i64 0)).setCell ⟨w.heap.size + 1, 1, none⟩ (.int .i64 0)).setCell ⟨w.heap.size + 1, 2, none⟩ (.int .i64 0)).setCell ⟨w.heap.size + 1, 3, none⟩ (.int .i64 0)).setCell ⟨w.heap.size + 1, 4, none⟩ (.int .i64 0)).setCell ⟨w.heap.size + 1, 5, none⟩ (.int .i64 0)).setCell ⟨w.heap.size + 1, 6, none⟩ (.int .i64 0)).setCell ⟨w.heap.size + 1, 7, none⟩ (.int .i64 0)).setCell ⟨w.heap.size + 1, 8, none⟩ (.int .i64 0)) = set9 w2 (w.heap.size + 1) [] from rfl]
  clear y0 y1 y2 y3 y4 y5 y6 y7 y8 g0 g1 g2 g3 g4 g5 g6 g7 g8
  generalize set9 w2 (w.heap.size + 1) [] = w9 at *
  have r0 := hr 0
  have r1 := hr 1
  have r2 := hr 2
  have r3 := hr 3
  have r4 := hr 4
  have r5 := hr 5
  have r6 := hr 6
  have r7 := hr 7
  have r8 := hr 8
  unfold cells9 at r0 r1 r2 r3 r4 r5 r6 r7 r8
  simp only [List.getElem?_toArray, List.getElem?_cons_zero, List.getElem?_cons_succ] at r0 r1 r2 r3 r4 r5 r6 r7 r8
  clear hr
  exact ⟨_, by simp [results, Try.results89, go_sem, r0, r1, r2, r3, r4, r5, r6, r7, r8]; exact ⟨rfl, rfl, rfl, rfl, rfl, rfl, rfl, rfl, rfl⟩, HP.out, HBE.out⟩

/-- What the loop of fewest keeps. -/
def FewI (f : PFrame) (sa : Option Addr) (sl sc : Nat) (pa : Option Addr) (pl pc : Nat) (ca : Option Addr) (cl cc : Nat) (B bf bo : Nat) (w : World) (pre : List (List T3)) (W : World) : Prop :=
  BestAt B (bestL pre) W ∧ Below w.heap.size w W ∧ (∀ i, W.cell? ⟨bf, i, none⟩ = (#[.int .i64 f.len, .int .i64 f.slack, .slice sa sl sc, .slice pa pl pc, .slice ca cl cc] : Array Value)[i]?) ∧ W.cell? ⟨bo, 0, none⟩ = some (.int .i64 ((0 : Nat) : Int)) ∧
  (∀ i, W.cell? ⟨w.heap.size + 1, i, none⟩ = (cells9 [])[i]?) ∧ ∀ i, W.frozen? ⟨w.heap.size + 1, i, none⟩ = false
theorem best_boxes (w : World) : ∃ W3, ((w.alloc (.cells (cells9 []) 101)).alloc (.cells #[.int .i64 0] 3)).alloc (.cells #[.bool false] 4) = W3 ∧ Below w.heap.size w W3 ∧ BestAt w.heap.size none W3 ∧ W3.heap.size = w.heap.size + 3 := by
  refine ⟨_, rfl, (by repeat (first | exact Below.refl _ _ | (refine Below.alloc ?_ (by first | omega | (simp; omega) | simp) _) | (refine Below.setCell ?_ (by first | omega | (simp; omega) | simp) _) | refine Below.drew ?_)), ⟨fun i => by go_simp, by go_simp, by go_simp, [], 0, false, fun i => by go_simp, by go_simp, by go_simp, .inl ⟨rfl, rfl⟩⟩, by simp [World.setCell]⟩

set_option maxRecDepth 100000 in
set_option maxHeartbeats 16000000 in
theorem fewest_yes (f : PFrame) (sa : Option Addr) (sl sc : Nat) (pa : Option Addr) (pl pc : Nat) (ca : Option Addr) (cl cc : Nat) (ho : f.ok = true) (w : World) (hp : PAt w sa sl sc pa pl pc ca cl cc f) :
    Calls Try.prog 89 #[.agg #[.int .i64 f.len, .int .i64 f.slack, .slice sa sl sc, .slice pa pl pc, .slice ca cl cc]] w fun e w' => FewestPost f e ∧ Below w.heap.size w w' := by
  have HV := Lib.hid (fun W (hb : Below w.heap.size w W) => valid_is f sa sl sc pa pl pc ca cl cc true ho W (hp.below hb))
  have HLY := Lib.hid (fun w1 => layouts_any f sa sl sc pa pl pc ca cl cc 0 w1)
  have HPO := Lib.hid (show ∀ o, bestL (f.lays 0) = o → match o with | none => FewestPost f (.returned (.tuple #[.agg (cells9 []), .int .i64 0, .int .i64 3])) | some l => FewestPost f (.returned (.tuple #[.agg (cells9 l), .int .i64 (cntL l), .int .i64 0])) from fun o h => by
    cases o <;> (show FewestPost f _; unfold FewestPost; simp [ho, h]))
  refine (callsIn_wide (n := 14)).1 ?_
  refine callsIn_of_wp_marks Try.func89 rfl trivial ?_ rfl
  simp only [Try.ntmps89, List.size_toArray, List.length_cons, List.length_nil, Nat.reduceAdd, Nat.reduceSub, Array.replicate_succ, Array.replicate_zero, List.push_toArray, List.append_toArray, List.nil_append, List.cons_append]
  gi_upto_region 1 with fail
  obtain ⟨W0, hW0, hB0, hs0, hr0, hz0⟩ := name2c w #[.int .i64 f.len, .int .i64 f.slack, .slice sa sl sc, .slice pa pl pc, .slice ca cl cc] 87 (cells9 []) 101
  have hfr0 : ∀ i, W0.frozen? ⟨w.heap.size + 1, i, none⟩ = false := by subst hW0; intro i; go_simp
  have hW0' : (w.alloc (.cells #[.int .i64 f.len, .int .i64 f.slack, .slice sa sl sc, .slice pa pl pc, .slice ca cl cc] 87)).alloc (.cells #[.int .i64 0, .int .i64 0, .int .i64 0, .int .i64 0, .int .i64 0, .int .i64 0, .int .i64 0, .int .i64 0, .int .i64 0] 101) = W0 := hW0
  try rw [hW0']
  clear hW0 hW0'
  obtain ⟨x0, x1, x2, x3, x4⟩ : W0.cell? ⟨w.heap.size, 0, none⟩ = some (.int .i64 f.len) ∧ W0.cell? ⟨w.heap.size, 1, none⟩ = some (.int .i64 f.slack) ∧ W0.cell? ⟨w.heap.size, 2, none⟩ = some (.slice sa sl sc) ∧ W0.cell? ⟨w.heap.size, 3, none⟩ = some (.slice pa pl pc) ∧ W0.cell? ⟨w.heap.size, 4, none⟩ = some (.slice ca cl cc) := ⟨hs0 0, hs0 1, hs0 2, hs0 3, hs0 4⟩
  have HB0 := Lib.hid hB0
  clear hs0
  gi_upto_region 5 with (refine ⟨trivial, ?_⟩; gi_at_call 79; refine (callsIn_wide.2 (HV.out _ hB0)).mono ?_; rintro e w2 ⟨rfl, hb2⟩)
  obtain ⟨W3, hW3, hB3, hbest, hz3⟩ := best_boxes w2
  have hW3' : ((w2.alloc (.cells #[.int .i64 0, .int .i64 0, .int .i64 0, .int .i64 0, .int .i64 0, .int .i64 0, .int .i64 0, .int .i64 0, .int .i64 0] 101)).alloc (.cells #[.int .i64 0] 3)).alloc (.cells #[.bool false] 4) = W3 := hW3
  rw [hW3']
  clear hW3 hW3'
  have hz2 := hb2.size
  obtain ⟨x0, x1, x2, x3, x4⟩ : W3.cell? ⟨w.heap.size, 0, none⟩ = some (.int .i64 f.len) ∧ W3.cell? ⟨w.heap.size, 1, none⟩ = some (.int .i64 f.slack) ∧ W3.cell? ⟨w.heap.size, 2, none⟩ = some (.slice sa sl sc) ∧ W3.cell? ⟨w.heap.size, 3, none⟩ = some (.slice pa pl pc) ∧ W3.cell? ⟨w.heap.size, 4, none⟩ = some (.slice ca cl cc) := ⟨(hB3.cell (p := ⟨w.heap.size, 0, none⟩) (by show w.heap.size < _; omega)).trans ((hb2.cell (p := ⟨w.heap.size, 0, none⟩) (by show w.heap.size < _; omega)).trans x0), (hB3.cell (p := ⟨w.heap.size, 1, none⟩) (by show w.heap.size < _; omega)).trans ((hb2.cell (p := ⟨w.heap.size, 1, none⟩) (by show w.heap.size < _; omega)).trans x1), (hB3.cell (p := ⟨w.heap.size, 2, none⟩) (by show w.heap.size < _; omega)).trans ((hb2.cell (p := ⟨w.heap.size, 2, none⟩) (by show w.heap.size < _; omega)).trans x2), (hB3.cell (p := ⟨w.heap.size, 3, none⟩) (by show w.heap.size < _; omega)).trans ((hb2.cell (p := ⟨w.heap.size, 3, none⟩) (by show w.heap.size < _; omega)).trans x3), (hB3.cell (p := ⟨w.heap.size, 4, none⟩) (by show w.heap.size < _; omega)).trans ((hb2.cell (p := ⟨w.heap.size, 4, none⟩) (by show w.heap.size < _; omega)).trans x4)⟩
  have HB3 := Lib.hid ((HB0.out.trans (hb2.mono HB0.out.size)).trans (hB3.mono (by omega)))
  have HRC := Lib.hid (show ∀ i, W3.cell? ⟨w.heap.size + 1, i, none⟩ = (cells9 [])[i]? from fun i => (hB3.cell (p := ⟨w.heap.size + 1, i, none⟩) (by show w.heap.size + 1 < _; omega)).trans ((hb2.cell (p := ⟨w.heap.size + 1, i, none⟩) (by show w.heap.size + 1 < _; omega)).trans (hr0 i)))
  have HRF := Lib.hid (show ∀ i, W3.frozen? ⟨w.heap.size + 1, i, none⟩ = false from fun i => (hB3.frozen (p := ⟨w.heap.size + 1, i, none⟩) (by show w.heap.size + 1 < _; omega)).trans ((hb2.frozen (p := ⟨w.heap.size + 1, i, none⟩) (by show w.heap.size + 1 < _; omega)).trans (hfr0 i)))
  have HBE := Lib.hid hbest
  clear hbest hr0 hfr0 hb2 hB3 hB0
  gi_wp2_with (refine ⟨trivial, ?_⟩; gi_at_call 107; refine (callsIn_wide.2 (HLY.out _)).mono ?_; rintro e w1 ⟨bf, bo, rfl, hb1, hlow, hhigh, hcf, hco⟩)
  have hz1 := hb1.size
  have hwB : w.heap.size + 1 < w2.heap.size := by omega
  have hB2 : w2.heap.size + 1 + 1 < w1.heap.size := by omega
  have HI0 := Lib.hid (show FewI f sa sl sc pa pl pc ca cl cc w2.heap.size bf bo w [] w1 from ⟨HBE.out.keep (fun j _ hj => hb1.block j (by omega)), HB3.out.trans (hb1.mono (by omega)), hcf, hco, fun i => (hb1.cell (p := ⟨w.heap.size + 1, i, none⟩) (by show w.heap.size + 1 < _; omega)).trans (HRC.out i), fun i => (hb1.frozen (p := ⟨w.heap.size + 1, i, none⟩) (by show w.heap.size + 1 < _; omega)).trans (HRF.out i)⟩)
  clear hcf hco x0 x1 x2 x3 x4 hb1
  have HMEM := Lib.hid (show ∀ x, x ∈ f.lays 0 → x.length ≤ 3 ∧ ∀ s ∈ x, fewS s from fun x hx => by
    obtain ⟨t, hxt, ht, hf⟩ := mem_lays (stock_few ho) hx
    rw [List.nil_append] at hxt
    subst hxt
    have := (PFrame.ok_parts ho).2.2.2.2.2.2
    have e : (f.roomsOf 0).length = f.cols.length := by unfold PFrame.roomsOf; simp
    exact ⟨by omega, hf⟩)
  refine wpIn_rangeUp (layouts1_it f sa sl sc pa pl pc ca cl cc ho 0 (by decide) bf bo) rfl (enters_of Try.func116 (by kernel_rfl) rfl) (fun _ => rfl)
    (FewI f sa sl sc pa pl pc ca cl cc w2.heap.size bf bo w) (fun _ => False) ?hI ?hIx ?hEnv ?hIxE ?h0
    (fun x a' wx => ∃ b8, a' = { tmps := List.toArray ((.agg #[.int .i64 f.len, .int .i64 f.slack, .slice sa sl sc, .slice pa pl pc, .slice ca cl cc]) :: (.pointer (some ⟨w.heap.size, 0, none⟩)) :: (.pointer (some ⟨w.heap.size + 1, 0, none⟩)) :: (.int .i64 0) :: (.int .i64 0) :: (.pointer (some ⟨w2.heap.size, 0, none⟩)) :: (.pointer (some ⟨w2.heap.size + 1, 0, none⟩)) :: (.pointer (some ⟨w2.heap.size + 1 + 1, 0, none⟩)) :: (.pointer (some ⟨b8, 0, none⟩)) :: (undef) :: (.agg #[.int .i64 f.len, .int .i64 f.slack, .slice sa sl sc, .slice pa pl pc, .slice ca cl cc]) :: (.bool true) :: (.bool false) :: (undef) :: (.agg #[.int .i64 f.len, .int .i64 f.slack, .slice sa sl sc, .slice pa pl pc, .slice ca cl cc]) :: (.func (.func 116) #[] #[.pointer (some ⟨bf, 0, none⟩), .pointer (some ⟨bo, 0, none⟩)]) :: (.agg (cells9 x)) :: (undef) :: (undef) :: (undef) :: (undef) :: (undef) :: (undef) :: (undef) :: (undef) :: (undef) :: (undef) :: (undef) :: (undef) :: (undef) :: (undef) :: (undef) :: (undef) :: []), defers := [] } ∧ w1.heap.size + 2 ≤ b8 ∧ b8 < wx.heap.size ∧ ∀ i, wx.cell? ⟨b8, i, none⟩ = (cells9 x)[i]?) ?hAx ?assign ?body ?done ?stop
  case hI =>
    rintro pre W1 W2 ⟨h1, h2, h3, h4, h5, h6⟩ hb
    exact ⟨h1.keep (fun j _ hj => hb.block j (by omega)), h2.trans (hb.mono (by omega)), fun i => (hb.cell (p := ⟨bf, i, none⟩) hhigh.1).trans (h3 i), (hb.cell (p := ⟨bo, 0, none⟩) hhigh.2).trans h4, fun i => (hb.cell (p := ⟨w.heap.size + 1, i, none⟩) (by show w.heap.size + 1 < _; omega)).trans (h5 i), fun i => (hb.frozen (p := ⟨w.heap.size + 1, i, none⟩) (by show w.heap.size + 1 < _; omega)).trans (h6 i)⟩
  case hIx => rintro W1 W2 h -; exact h
  case hEnv =>
    rintro pre W1 ⟨-, h2, h3, h4, -⟩
    exact ⟨hp.below h2, h3, h4⟩
  case hIxE => rintro W1 h; exact h.elim
  case h0 => exact HI0.out
  case hAx =>
    rintro x a' W1 W2 ⟨b8, rfl, h1, h2, h3⟩ hk
    exact ⟨b8, rfl, h1, Nat.lt_of_lt_of_le h2 hk.1, fun i => (hk.cell h1 h2 i).trans (h3 i)⟩
  case assign =>
    intro l x W1 K hz hK
    unfold encL
    have e9 : (Value.agg (cells9 x)) = .agg #[.int .i64 (colAt x 0).a, .int .i64 (colAt x 0).b, .int .i64 (colAt x 0).c, .int .i64 (colAt x 1).a, .int .i64 (colAt x 1).b, .int .i64 (colAt x 1).c, .int .i64 (colAt x 2).a, .int .i64 (colAt x 2).b, .int .i64 (colAt x 2).c] := rfl
    rw [e9]
    gi_wp2
    exact hK _ _ (by repeat (first | exact Below.refl _ _ | (refine Below.alloc ?_ (by first | omega | (simp; omega) | simp) _) | (refine Below.setCell ?_ (by first | omega | (simp; omega) | simp) _) | refine Below.drew ?_)) ⟨W1.heap.size, rfl, hz, by simp, fun i => World.cell?_alloc_new W1 _ _ i⟩
  case body =>
    rintro l pre x a' W1 hz hI hx ⟨b8, rfl, h8, h8l, h8c⟩
    have hx : x ∈ f.lays 0 := hx
    obtain ⟨hx3, hxf⟩ := HMEM.out x hx
    have HCN := Lib.hid (show ∀ W, Calls Try.prog 108 #[.agg #[.int .i64 (colAt x 0).a, .int .i64 (colAt x 0).b, .int .i64 (colAt x 0).c, .int .i64 (colAt x 1).a, .int .i64 (colAt x 1).b, .int .i64 (colAt x 1).c, .int .i64 (colAt x 2).a, .int .i64 (colAt x 2).b, .int .i64 (colAt x 2).c]] W fun e w' => e = .returned (.int .i64 (cntL x)) ∧ Below W.heap.size W w' from fun W => by
      have h := count_any (colAt x 0) (colAt x 1) (colAt x 2) (colAt_few hxf 0) (colAt_few hxf 1) (colAt_few hxf 2) W
      rw [← cntL_three hx3] at h
      exact h)
    obtain ⟨⟨k1, k2, k3, l0, n0, b0, k4, k5, k6, k7⟩, hrest⟩ := hI
    have v0 := h8c 0
    have v1 := h8c 1
    have v2 := h8c 2
    have v3 := h8c 3
    have v4 := h8c 4
    have v5 := h8c 5
    have v6 := h8c 6
    have v7 := h8c 7
    have v8 := h8c 8
    have y0 := k4 0
    have y1 := k4 1
    have y2 := k4 2
    have y3 := k4 3
    have y4 := k4 4
    have y5 := k4 5
    have y6 := k4 6
    have y7 := k4 7
    have y8 := k4 8
    unfold cells9 at v0 v1 v2 v3 v4 v5 v6 v7 v8 y0 y1 y2 y3 y4 y5 y6 y7 y8
    simp only [List.getElem?_toArray, List.getElem?_cons_zero, List.getElem?_cons_succ] at v0 v1 v2 v3 v4 v5 v6 v7 v8 y0 y1 y2 y3 y4 y5 y6 y7 y8
    have g0 := k1 0
    have g1 := k1 1
    have g2 := k1 2
    have g3 := k1 3
    have g4 := k1 4
    have g5 := k1 5
    have g6 := k1 6
    have g7 := k1 7
    have g8 := k1 8
    have d1 : w2.heap.size < W1.heap.size := by omega
    have d2 : w2.heap.size + 1 < W1.heap.size := by omega
    have d3 : w2.heap.size + 1 + 1 < W1.heap.size := by omega
    have HPUT := Lib.hid (show bestL (pre ++ [x]) = some x → ∀ wc, Below W1.heap.size W1 wc → KeepsUp w1.heap.size W1 (((set9 wc w2.heap.size x).setCell ⟨w2.heap.size + 1, 0, none⟩ (.int .i64 (cntL x))).setCell ⟨w2.heap.size + 1 + 1, 0, none⟩ (.bool true)) ∧ FewI f sa sl sc pa pl pc ca cl cc w2.heap.size bf bo w (pre ++ [x]) (((set9 wc w2.heap.size x).setCell ⟨w2.heap.size + 1, 0, none⟩ (.int .i64 (cntL x))).setCell ⟨w2.heap.size + 1 + 1, 0, none⟩ (.bool true)) from fun he wc hb => by
      have hzc := hb.size
      have hc1 : ∀ j i, j < W1.heap.size → wc.cell? ⟨j, i, none⟩ = W1.cell? ⟨j, i, none⟩ := fun j i h => hb.cell (p := ⟨j, i, none⟩) h
      have hf1 : ∀ j i, j < W1.heap.size → wc.frozen? ⟨j, i, none⟩ = W1.frozen? ⟨j, i, none⟩ := fun j i h => hb.frozen (p := ⟨j, i, none⟩) h
      have hput := BestAt.put x (w := wc) (B := w2.heap.size) (l0 := l0) (n := n0) (b := b0) (fun i => (hf1 _ i d1).trans (k1 i)) ((hf1 _ 0 d2).trans k2) ((hf1 _ 0 d3).trans k3) (fun i => (hc1 _ i d1).trans (k4 i)) ((hc1 _ 0 d2).trans k5) ((hc1 _ 0 d3).trans k6)
      obtain ⟨hp1, hp2, hp3⟩ := hput
      have hp3' : ∀ j, j < w2.heap.size ∨ (w2.heap.size + 1 + 1 < j ∧ j < W1.heap.size) → (((set9 wc w2.heap.size x).setCell ⟨w2.heap.size + 1, 0, none⟩ (.int .i64 (cntL x))).setCell ⟨w2.heap.size + 1 + 1, 0, none⟩ (.bool true)).heap[j]? = W1.heap[j]? := fun j h => (hp3 j (by omega) (by omega)).trans (hb.block j (by omega))
      have hce : ∀ j i, j < w2.heap.size ∨ (w2.heap.size + 1 + 1 < j ∧ j < W1.heap.size) → (((set9 wc w2.heap.size x).setCell ⟨w2.heap.size + 1, 0, none⟩ (.int .i64 (cntL x))).setCell ⟨w2.heap.size + 1 + 1, 0, none⟩ (.bool true)).cell? ⟨j, i, none⟩ = W1.cell? ⟨j, i, none⟩ := fun j i h => World.cell?_of_block (w := W1) (a := ⟨j, i, none⟩) (hp3' j h)
      have hfe : ∀ j i, j < w2.heap.size ∨ (w2.heap.size + 1 + 1 < j ∧ j < W1.heap.size) → (((set9 wc w2.heap.size x).setCell ⟨w2.heap.size + 1, 0, none⟩ (.int .i64 (cntL x))).setCell ⟨w2.heap.size + 1 + 1, 0, none⟩ (.bool true)).frozen? ⟨j, i, none⟩ = W1.frozen? ⟨j, i, none⟩ := fun j i h => World.frozen?_of_block (w := W1) (a := ⟨j, i, none⟩) (hp3' j h)
      obtain ⟨r1, r2, r3, r4, r5⟩ := hrest
      have hbel : Below w.heap.size wc (((set9 wc w2.heap.size x).setCell ⟨w2.heap.size + 1, 0, none⟩ (.int .i64 (cntL x))).setCell ⟨w2.heap.size + 1 + 1, 0, none⟩ (.bool true)) := ((set9_below x (by omega) (by omega)).setCell (by show w.heap.size ≤ w2.heap.size + 1; omega) _).setCell (by show w.heap.size ≤ w2.heap.size + 1 + 1; omega) _
      exact ⟨⟨by rw [hp2]; omega, fun j h1 h2 => hp3' j (.inr ⟨by omega, h2⟩)⟩, by rw [he]; exact hp1, (r1.trans (hb.mono r1.size)).trans hbel, fun i => (hce bf i (.inr ⟨by omega, by omega⟩)).trans (r2 i), (hce bo 0 (.inr ⟨by omega, by omega⟩)).trans r3, fun i => (hce _ i (.inl (by omega))).trans (r4 i), fun i => (hfe _ i (.inl (by omega))).trans (r5 i)⟩)
    have HSN := Lib.hid (bestL_snoc pre x)
    rcases k7 with ⟨hn, rfl⟩ | ⟨hs, rfl, rfl⟩
    · have HN := Lib.hid (show bestL (pre ++ [x]) = some x by rw [HSN.out, hn])
      clear k1 k4 hrest hn h8c
      gi_wp2_with (refine ⟨trivial, ?_⟩; gi_at_call 108; refine (CallsIn.inRound l (callsIn_wide.2 (HCN.out _))).mono ?_; rintro e wc ⟨rfl, hbc⟩; have hzc := hbc.size; have hc2 : ∀ b o, b < W1.heap.size → wc.cell? ⟨b, o, none⟩ = W1.cell? ⟨b, o, none⟩ := (fun b o h => hbc.cell (p := ⟨b, o, none⟩) h); have hf2 : ∀ b o, b < W1.heap.size → wc.frozen? ⟨b, o, none⟩ = W1.frozen? ⟨b, o, none⟩ := (fun b o h => hbc.frozen (p := ⟨b, o, none⟩) h); have HBC := Lib.hid hbc; clear hbc)
      exact HPUT.out HN.out wc HBC.out
    · have HOLD := Lib.hid (show bestL (pre ++ [x]) = bestL pre → ∀ wc, Below W1.heap.size W1 wc → KeepsUp w1.heap.size W1 wc ∧ FewI f sa sl sc pa pl pc ca cl cc w2.heap.size bf bo w (pre ++ [x]) wc from fun he wc hb => by
        obtain ⟨r1, r2, r3, r4, r5⟩ := hrest
        have hB : BestAt w2.heap.size (bestL (pre ++ [x])) W1 := ⟨k1, k2, k3, l0, cntL l0, true, k4, k5, k6, .inr ⟨by rw [he, hs], rfl, rfl⟩⟩
        exact ⟨KeepsUp.below hb, hB.keep (fun j _ hj => hb.block j (by omega)), r1.trans (hb.mono r1.size), fun i => (hb.cell (p := ⟨bf, i, none⟩) (by show bf < _; omega)).trans (r2 i), (hb.cell (p := ⟨bo, 0, none⟩) (by show bo < _; omega)).trans r3, fun i => (hb.cell (p := ⟨w.heap.size + 1, i, none⟩) (by show w.heap.size + 1 < _; omega)).trans (r4 i), fun i => (hb.frozen (p := ⟨w.heap.size + 1, i, none⟩) (by show w.heap.size + 1 < _; omega)).trans (r5 i)⟩)
      by_cases hlt : cntL x < cntL l0
      · have HN := Lib.hid (show bestL (pre ++ [x]) = some x by rw [HSN.out, hs]; simp only [hlt, if_true])
        clear k1 k4 hrest hs h8c
        gi_wp2_with (refine ⟨trivial, ?_⟩; gi_at_call 108; refine (CallsIn.inRound l (callsIn_wide.2 (HCN.out _))).mono ?_; rintro e wc ⟨rfl, hbc⟩; have hzc := hbc.size; have hc2 : ∀ b o, b < W1.heap.size → wc.cell? ⟨b, o, none⟩ = W1.cell? ⟨b, o, none⟩ := (fun b o h => hbc.cell (p := ⟨b, o, none⟩) h); have hf2 : ∀ b o, b < W1.heap.size → wc.frozen? ⟨b, o, none⟩ = W1.frozen? ⟨b, o, none⟩ := (fun b o h => hbc.frozen (p := ⟨b, o, none⟩) h); have HBC := Lib.hid hbc; clear hbc)
        exact HPUT.out HN.out wc HBC.out
      · have HN := Lib.hid (show bestL (pre ++ [x]) = bestL pre by rw [HSN.out, hs]; simp only [hlt, if_false])
        clear k1 k4 hrest hs h8c
        gi_wp2_with (refine ⟨trivial, ?_⟩; gi_at_call 108; refine (CallsIn.inRound l (callsIn_wide.2 (HCN.out _))).mono ?_; rintro e wc ⟨rfl, hbc⟩; have hzc := hbc.size; have hc2 : ∀ b o, b < W1.heap.size → wc.cell? ⟨b, o, none⟩ = W1.cell? ⟨b, o, none⟩ := (fun b o h => hbc.cell (p := ⟨b, o, none⟩) h); have hf2 : ∀ b o, b < W1.heap.size → wc.frozen? ⟨b, o, none⟩ = W1.frozen? ⟨b, o, none⟩ := (fun b o h => hbc.frozen (p := ⟨b, o, none⟩) h); have HBC := Lib.hid hbc; clear hbc)
        exact HOLD.out HN.out wc HBC.out
  case done =>
    rintro D W2 hD ⟨⟨k1, k2, k3, l0, n0, b0, k4, k5, k6, k7⟩, r1, r2, r3, r4, r5⟩ hd
    have v0 := r4 0
    have v1 := r4 1
    have v2 := r4 2
    have v3 := r4 3
    have v4 := r4 4
    have v5 := r4 5
    have v6 := r4 6
    have v7 := r4 7
    have v8 := r4 8
    have y0 := k4 0
    have y1 := k4 1
    have y2 := k4 2
    have y3 := k4 3
    have y4 := k4 4
    have y5 := k4 5
    have y6 := k4 6
    have y7 := k4 7
    have y8 := k4 8
    unfold cells9 at v0 v1 v2 v3 v4 v5 v6 v7 v8 y0 y1 y2 y3 y4 y5 y6 y7 y8
    simp only [List.getElem?_toArray, List.getElem?_cons_zero, List.getElem?_cons_succ] at v0 v1 v2 v3 v4 v5 v6 v7 v8 y0 y1 y2 y3 y4 y5 y6 y7 y8
    have g0 := r5 0
    have g1 := r5 1
    have g2 := r5 2
    have g3 := r5 3
    have g4 := r5 4
    have g5 := r5 5
    have g6 := r5 6
    have g7 := r5 7
    have g8 := r5 8
    have hDs := (Array.getElem?_eq_some_iff.1 hd).1
    have HFIN := Lib.hid (show ∀ W2', (∀ j, W2'.heap[j]? = W2.heap[j]?) → W2'.heap.size = W2.heap.size → Below w.heap.size W2 W2' → ∀ l, FinAt (set9 W2' (w.heap.size + 1) l) D w l from fun W2' he hz2' hbb l => by
      have hd9 : (set9 W2' (w.heap.size + 1) l).heap[D]? = some (.deferred (some [])) := ((set9_grown W2' (w.heap.size + 1) l).block D (by omega) (by simp; omega)).trans ((he D).trans hd)
      refine ⟨_, rfl, hd9, ((r1.trans hbb).trans (set9_below l (by omega) (by omega))).trans (below_putObj _ hd9 (by omega)), fun i => ?_⟩
      exact (World.cell?_of_block (a := ⟨w.heap.size + 1, i, none⟩) (World.putObj_heap_other (by show w.heap.size + 1 ≠ D; omega))).trans (set9_cell l (fun i => (World.cell?_of_block (a := ⟨w.heap.size + 1, i, none⟩) (he _)).trans (r4 i)) i))
    rcases k7 with ⟨hn, rfl⟩ | ⟨hs, rfl, rfl⟩
    · have HP := Lib.hid (HPO.out none hn)
      clear k1 k4 r1 r2 r4 r5 hn
      obtain ⟨wf, hwf, hd9, hbf, hcf⟩ := HFIN.out W2 (fun _ => rfl) rfl (Below.refl _ _) []
      gi_wp2_with fail
      rw [show (((((((((W2.setCell ⟨w.heap.size + 1, 0, none⟩ (.int .i64 0)).setCell ⟨w.heap.size + 1, 1, none⟩ (.int .i64 0)).setCell ⟨w.heap.size + 1, 2, none⟩ (.int .i64 0)).setCell ⟨w.heap.size + 1, 3, none⟩ (.int .i64 0)).setCell ⟨w.heap.size + 1, 4, none⟩ (.int .i64 0)).setCell ⟨w.heap.size + 1, 5, none⟩ (.int .i64 0)).setCell ⟨w.heap.size + 1, 6, none⟩ (.int .i64 0)).setCell ⟨w.heap.size + 1, 7, none⟩ (.int .i64 0)).setCell ⟨w.heap.size + 1, 8, none⟩ (.int .i64 0)) = set9 W2 (w.heap.size + 1) [] from rfl]
      refine ⟨by simp, .inl ⟨_, _, rfl, run_takeDeferred hd9, ?_⟩⟩
      rw [hwf]
      clear hwf hd9 y0 y1 y2 y3 y4 y5 y6 y7 y8 v0 v1 v2 v3 v4 v5 v6 v7 v8
      have r0 := hcf 0
      have r1 := hcf 1
      have r2 := hcf 2
      have r3 := hcf 3
      have r4 := hcf 4
      have r5 := hcf 5
      have r6 := hcf 6
      have r7 := hcf 7
      have r8 := hcf 8
      unfold cells9 at r0 r1 r2 r3 r4 r5 r6 r7 r8
      simp only [List.getElem?_toArray, List.getElem?_cons_zero, List.getElem?_cons_succ] at r0 r1 r2 r3 r4 r5 r6 r7 r8
      clear hcf
      exact ⟨_, by simp [results, Try.results89, go_sem, r0, r1, r2, r3, r4, r5, r6, r7, r8]; rfl, HP.out, hbf⟩
    · have HP := Lib.hid (HPO.out (some l0) hs)
      have hmx : Try.prog.follows .mixedOrders = true := by kernel_rfl
      have HF2 := Lib.hid ((HFIN.out W2 (fun _ => rfl) rfl (Below.refl _ _) l0).drew)
      clear k1 k4 r1 r2 r4 r5 hs
      gi_wp2_with fail
      refine wpIn_mono ?_ NoPanic.imp
      gi_region_with_o (fail)
      all_goals (try simp only [NoPanic])
      all_goals (try gi_wp2)
      all_goals (rw [show (((((((((W2.setCell ⟨w.heap.size + 1, 0, none⟩ (.int .i64 (colAt l0 0).a)).setCell ⟨w.heap.size + 1, 1, none⟩ (.int .i64 (colAt l0 0).b)).setCell ⟨w.heap.size + 1, 2, none⟩ (.int .i64 (colAt l0 0).c)).setCell ⟨w.heap.size + 1, 3, none⟩ (.int .i64 (colAt l0 1).a)).setCell ⟨w.heap.size + 1, 4, none⟩ (.int .i64 (colAt l0 1).b)).setCell ⟨w.heap.size + 1, 5, none⟩ (.int .i64 (colAt l0 1).c)).setCell ⟨w.heap.size + 1, 6, none⟩ (.int .i64 (colAt l0 2).a)).setCell ⟨w.heap.size + 1, 7, none⟩ (.int .i64 (colAt l0 2).b)).setCell ⟨w.heap.size + 1, 8, none⟩ (.int .i64 (colAt l0 2).c)) = set9 W2 (w.heap.size + 1) l0 from rfl])
      all_goals (obtain ⟨wf, hwf, hd9, hbf, hcf⟩ := HF2.out)
      all_goals (refine ⟨by simp, .inl ⟨_, _, rfl, run_takeDeferred hd9, ?_⟩⟩)
      all_goals (rw [hwf])
      all_goals (clear hwf hd9 y0 y1 y2 y3 y4 y5 y6 y7 y8 v0 v1 v2 v3 v4 v5 v6 v7 v8)
      all_goals have r0 := hcf 0
      all_goals have r1 := hcf 1
      all_goals have r2 := hcf 2
      all_goals have r3 := hcf 3
      all_goals have r4 := hcf 4
      all_goals have r5 := hcf 5
      all_goals have r6 := hcf 6
      all_goals have r7 := hcf 7
      all_goals have r8 := hcf 8
      all_goals unfold cells9 at r0 r1 r2 r3 r4 r5 r6 r7 r8
      all_goals simp only [List.getElem?_toArray, List.getElem?_cons_zero, List.getElem?_cons_succ] at r0 r1 r2 r3 r4 r5 r6 r7 r8
      all_goals exact ⟨_, by simp [results, Try.results89, go_sem, r0, r1, r2, r3, r4, r5, r6, r7, r8]; rfl, HP.out, hbf⟩
  case stop => rintro D W2 hD h; exact h.elim
end Go.Proofs.Ytcklhojeneejiaa

/- Package pages: Strips. -/
namespace Go.Proofs.Ytcklhojeneejiaa
set_option linter.unusedVariables false
set_option linter.unusedSimpArgs false
open Go.RowKit Go.Shelf

attribute [local go_sem] Oper.semAt_some

/-- What Strips gives. -/
def PFrame.strips4 (f : PFrame) : Int × Int :=
  match (if f.ok then bestL (f.lays 0) else none) with
  | none => (0, if f.ok then 3 else 30)
  | some l => (cntL l, 0)
theorem fewest_any (f : PFrame) (sa : Option Addr) (sl sc : Nat) (pa : Option Addr) (pl pc : Nat) (ca : Option Addr) (cl cc : Nat) (w : World) (hp : PAt w sa sl sc pa pl pc ca cl cc f) :
    Calls Try.prog 89 #[.agg #[.int .i64 f.len, .int .i64 f.slack, .slice sa sl sc, .slice pa pl pc, .slice ca cl cc]] w fun e w' => ∃ l, e = .returned (.tuple #[.agg (cells9 l), .int .i64 f.strips4.1, .int .i64 f.strips4.2]) ∧ (∀ l', (if f.ok then bestL (f.lays 0) else none) = some l' → l' = l) ∧ Below w.heap.size w w' := by
  have h : Calls Try.prog 89 #[.agg #[.int .i64 f.len, .int .i64 f.slack, .slice sa sl sc, .slice pa pl pc, .slice ca cl cc]] w fun e w' => FewestPost f e ∧ Below w.heap.size w w' := by
    cases ho : f.ok
    · exact fewest_no f sa sl sc pa pl pc ca cl cc ho w hp
    · exact fewest_yes f sa sl sc pa pl pc ca cl cc ho w hp
  refine h.mono ?_
  rintro e w' ⟨h1, h2⟩
  unfold FewestPost at h1
  unfold PFrame.strips4
  cases hb : (if f.ok then bestL (f.lays 0) else none) with
  | none => rw [hb] at h1; exact ⟨[], h1, fun l' h => (by cases h), h2⟩
  | some l => rw [hb] at h1; exact ⟨l, h1, fun l' h => (by injection h with h; exact h.symm), h2⟩

set_option maxRecDepth 100000 in
set_option maxHeartbeats 4000000 in
theorem Strips_any (f : PFrame) (sa : Option Addr) (sl sc : Nat) (pa : Option Addr) (pl pc : Nat) (ca : Option Addr) (cl cc : Nat) (w : World) (hp : PAt w sa sl sc pa pl pc ca cl cc f) :
    Calls Try.prog 31 #[.agg #[.int .i64 f.len, .int .i64 f.slack, .slice sa sl sc, .slice pa pl pc, .slice ca cl cc]] w fun e w' => e = .returned (.tuple #[.int .i64 f.strips4.1, .int .i64 f.strips4.2]) ∧ Below w.heap.size w w' := by
  have HF := Lib.hid (fun W (hb : Below w.heap.size w W) => fewest_any f sa sl sc pa pl pc ca cl cc W (hp.below hb))
  clear hp
  generalize f.strips4 = r at *
  obtain ⟨n, c⟩ := r
  simp only at HF ⊢
  go_enter Try.func31, Try.ntmps31
  go_wp2_with fail
  refine (HF.out _ (by repeat (first | exact Below.refl _ _ | (refine Below.alloc ?_ (by first | omega | (simp; omega) | simp) _) | (refine Below.setCell ?_ (by first | omega | (simp; omega) | simp) _) | refine Below.drew ?_))).mono ?_
  rintro e w2 ⟨l, rfl, -, hb⟩
  unfold cells9
  go_wp2_with fail
  go_ret2
  have hb' : Below w.heap.size w w2 := ((by repeat (first | exact Below.refl _ _ | (refine Below.alloc ?_ (by first | omega | (simp; omega) | simp) _) | (refine Below.setCell ?_ (by first | omega | (simp; omega) | simp) _) | refine Below.drew ?_)) : Below w.heap.size w _).trans (hb.mono (by simp))
  exact ⟨rfl, hb'.alloc hb'.size _⟩
end Go.Proofs.Ytcklhojeneejiaa
