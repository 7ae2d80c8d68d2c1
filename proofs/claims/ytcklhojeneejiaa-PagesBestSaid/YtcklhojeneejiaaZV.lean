/- The chapter's examples, for the landed code: the frames. -/
import Derived.Test.YtcklhojeneejiaaZU
namespace Go.Proofs.Ytcklhojeneejiaa
set_option linter.unusedVariables false
set_option linter.unusedSimpArgs false
open Go.RowKit Go.Shelf
def exP : PFrame := ⟨60, 2, [⟨5, 2⟩, ⟨3, 2⟩, ⟨18, 1⟩], [⟨20, 21, 9⟩, ⟨30, 30, 5⟩, ⟨40, 41, 7⟩, ⟨12, 13, 4⟩], [[0, 1], [2, 3]]⟩
def exO : PFrame := ⟨60, 2, [⟨5, 2⟩, ⟨3, 3⟩, ⟨18, 1⟩], [⟨20, 21, 9⟩, ⟨30, 30, 5⟩, ⟨40, 41, 7⟩, ⟨12, 13, 4⟩], [[0, 1], [2, 3]]⟩
theorem exO_is : exP.stocked 1 3 = exO := rfl
def allocs (w : World) (os : List (Array Value × TypeId)) : World := os.foldl (fun w o => w.alloc (.cells o.1 o.2)) w
theorem allocs_size : ∀ (os : List (Array Value × TypeId)) (w : World), (allocs w os).heap.size = w.heap.size + os.length
  | [], w => by simp [allocs]
  | o :: os, w => by
    show (allocs (w.alloc (.cells o.1 o.2)) os).heap.size = _
    rw [allocs_size os]; simp; omega
theorem allocs_below : ∀ (os : List (Array Value × TypeId)) (w : World), Below w.heap.size w (allocs w os)
  | [], w => Below.refl _ _
  | o :: os, w => by
    show Below w.heap.size w (allocs (w.alloc (.cells o.1 o.2)) os)
    exact ((Below.refl _ _).alloc (Nat.le_refl _) _).trans ((allocs_below os (w.alloc (.cells o.1 o.2))).mono (by simp))
/-- What lies in the blocks of a chain. -/
theorem allocs_at : ∀ (os : List (Array Value × TypeId)) (w : World) (k : Nat) (h : k < os.length), (allocs w os).heap[w.heap.size + k]? = some (.cells os[k].1 os[k].2 (0, 0))
  | o :: os, w, 0, h => by
    show (allocs (w.alloc (.cells o.1 o.2)) os).heap[w.heap.size]? = _
    rw [(allocs_below os (w.alloc (.cells o.1 o.2))).block _ (by simp)]
    exact World.alloc_heap_new _ _
  | o :: os, w, k + 1, h => by
    show (allocs (w.alloc (.cells o.1 o.2)) os).heap[w.heap.size + (k + 1)]? = _
    have := allocs_at os (w.alloc (.cells o.1 o.2)) k (by simpa using h)
    rw [World.size_alloc] at this
    rw [show w.heap.size + (k + 1) = w.heap.size + 1 + k by omega]
    exact this
theorem cell_at {w : World} {b : Nat} {c : Array Value} {T : TypeId} (h : w.heap[b]? = some (.cells c T (0, 0))) (i : Nat) : w.cell? ⟨b, i, none⟩ = c[i]? := by simp [World.cell?, h]


def exOs (w : World) : List (Array Value × TypeId) := [(#[.int .i64 60, .int .i64 2, .slice (some ⟨w.heap.size + 1 + 1, 0, none⟩) 3 3, .slice (some ⟨w.heap.size + 1 + 1 + 1, 0, none⟩) 4 4, .slice (some ⟨w.heap.size + 1 + 1 + 1 + 1 + 1 + 1, 0, none⟩) 2 2], 26), (#[.int .i64 0, .int .i64 0, .slice none 0 0, .slice none 0 0, .slice none 0 0], 26), (#[.int .i64 5, .int .i64 2, .int .i64 3, .int .i64 2, .int .i64 18, .int .i64 1], 80), (#[.int .i64 20, .int .i64 21, .int .i64 9, .int .i64 30, .int .i64 30, .int .i64 5, .int .i64 40, .int .i64 41, .int .i64 7, .int .i64 12, .int .i64 13, .int .i64 4], 43), (#[.int .i64 0, .int .i64 1], 3), (#[.int .i64 2, .int .i64 3], 3), (#[.slice (some ⟨w.heap.size + 1 + 1 + 1 + 1, 0, none⟩) 2 2, .slice (some ⟨w.heap.size + 1 + 1 + 1 + 1 + 1, 0, none⟩) 2 2], 27)]
theorem ints2 {W : World} {b : Nat} {a0 a1 : Int} {T : TypeId} (h : W.heap[b]? = some (.cells #[.int .i64 a0, .int .i64 a1] T (0, 0))) : IntsAt W (some ⟨b, 0, none⟩) 2 [a0, a1] :=
  ⟨rfl, by decide, fun _ => ⟨b, 0, rfl, (Array.getElem?_eq_some_iff.1 h).1, fun i hi => by
    rw [cell_at h]
    have : i = 0 ∨ i = 1 := by simp at hi; omega
    rcases this with rfl | rfl <;> rfl⟩⟩
theorem ex_PAt {w W : World} (h : ∀ k, 2 ≤ k → k < 7 → W.heap[w.heap.size + k]? = (allocs w (exOs w)).heap[w.heap.size + k]?) : PAt W (some ⟨w.heap.size + 1 + 1, 0, none⟩) 3 3 (some ⟨w.heap.size + 1 + 1 + 1, 0, none⟩) 4 4 (some ⟨w.heap.size + 1 + 1 + 1 + 1 + 1 + 1, 0, none⟩) 2 2 exP := by
  have e := fun k (h1 : 2 ≤ k) (h2 : k < 7) => (h k h1 h2).trans (allocs_at (exOs w) w k h2)
  have e2 := e 2 (by omega) (by omega)
  have e3 := e 3 (by omega) (by omega)
  have e4 := e 4 (by omega) (by omega)
  have e5 := e 5 (by omega) (by omega)
  have e6 := e 6 (by omega) (by omega)
  clear e h
  refine ⟨⟨rfl, by decide, fun _ => ⟨_, 0, rfl, (Array.getElem?_eq_some_iff.1 e2).1, fun i hi => ?_⟩⟩, ⟨rfl, by decide, fun _ => ⟨_, 0, rfl, (Array.getElem?_eq_some_iff.1 e3).1, fun i hi => ?_⟩⟩, ⟨rfl, by decide, fun _ => ⟨_, 0, rfl, (Array.getElem?_eq_some_iff.1 e6).1, fun i hi => ?_⟩⟩⟩
  · have : i = 0 ∨ i = 1 ∨ i = 2 := by simp [exP] at hi; omega
    rcases this with rfl | rfl | rfl <;> refine ⟨?_, ?_⟩ <;> rw [cell_at e2] <;> rfl
  · have : i = 0 ∨ i = 1 ∨ i = 2 ∨ i = 3 := by simp [exP] at hi; omega
    rcases this with rfl | rfl | rfl | rfl <;> refine ⟨?_, ?_, ?_⟩ <;> rw [cell_at e3] <;> rfl
  · have : i = 0 ∨ i = 1 := by simp [exP] at hi; omega
    rcases this with rfl | rfl
    · exact ⟨_, 2, 2, by rw [cell_at e6]; rfl, ⟨Nat.le_refl _, by decide⟩, ints2 e4⟩
    · exact ⟨_, 2, 2, by rw [cell_at e6]; rfl, ⟨Nat.le_refl _, by decide⟩, ints2 e5⟩
theorem ex_boxes (w : World) : ∃ W1, (((((((w.alloc (.cells #[.int .i64 60, .int .i64 2, .slice (some ⟨w.heap.size + 1 + 1, 0, none⟩) 3 3, .slice (some ⟨w.heap.size + 1 + 1 + 1, 0, none⟩) 4 4, .slice (some ⟨w.heap.size + 1 + 1 + 1 + 1 + 1 + 1, 0, none⟩) 2 2] 26)).alloc (.cells #[.int .i64 0, .int .i64 0, .slice none 0 0, .slice none 0 0, .slice none 0 0] 26)).alloc (.cells #[.int .i64 5, .int .i64 2, .int .i64 3, .int .i64 2, .int .i64 18, .int .i64 1] 80)).alloc (.cells #[.int .i64 20, .int .i64 21, .int .i64 9, .int .i64 30, .int .i64 30, .int .i64 5, .int .i64 40, .int .i64 41, .int .i64 7, .int .i64 12, .int .i64 13, .int .i64 4] 43)).alloc (.cells #[.int .i64 0, .int .i64 1] 3)).alloc (.cells #[.int .i64 2, .int .i64 3] 3)).alloc (.cells #[.slice (some ⟨w.heap.size + 1 + 1 + 1 + 1, 0, none⟩) 2 2, .slice (some ⟨w.heap.size + 1 + 1 + 1 + 1 + 1, 0, none⟩) 2 2] 27)) = W1 ∧ Below w.heap.size w W1 ∧ (∀ W, (∀ k, 2 ≤ k → k < 7 → W.heap[w.heap.size + k]? = W1.heap[w.heap.size + k]?) → PAt W (some ⟨w.heap.size + 1 + 1, 0, none⟩) 3 3 (some ⟨w.heap.size + 1 + 1 + 1, 0, none⟩) 4 4 (some ⟨w.heap.size + 1 + 1 + 1 + 1 + 1 + 1, 0, none⟩) 2 2 exP) ∧ (∀ i, W1.cell? ⟨w.heap.size, i, none⟩ = (#[.int .i64 60, .int .i64 2, .slice (some ⟨w.heap.size + 1 + 1, 0, none⟩) 3 3, .slice (some ⟨w.heap.size + 1 + 1 + 1, 0, none⟩) 4 4, .slice (some ⟨w.heap.size + 1 + 1 + 1 + 1 + 1 + 1, 0, none⟩) 2 2] : Array Value)[i]?) ∧ (∀ i, W1.cell? ⟨w.heap.size + 1, i, none⟩ = (#[.int .i64 0, .int .i64 0, .slice none 0 0, .slice none 0 0, .slice none 0 0] : Array Value)[i]?) ∧ (∀ i, W1.frozen? ⟨w.heap.size, i, none⟩ = false) ∧ (∀ i, W1.frozen? ⟨w.heap.size + 1, i, none⟩ = false) ∧ W1.heap.size = w.heap.size + 7 := by
  refine ⟨_, rfl, (by repeat (first | exact Below.refl _ _ | (refine Below.alloc ?_ (by first | omega | (simp; omega) | simp) _) | (refine Below.setCell ?_ (by first | omega | (simp; omega) | simp) _) | refine Below.drew ?_)), fun W h => ex_PAt (w := w) h, ?_, ?_, ?_, ?_, by simp⟩
  · intro i; exact cell_at (allocs_at (exOs w) w 0 (by simp [exOs])) i
  · intro i; exact cell_at (allocs_at (exOs w) w 1 (by simp [exOs])) i
  · intro i; have h := allocs_at (exOs w) w 0 (by simp [exOs]); show (allocs w (exOs w)).frozen? _ = false; simp only [World.frozen?]; rw [show (allocs w (exOs w)).heap[w.heap.size]? = _ from h]; rfl
  · intro i; have h := allocs_at (exOs w) w 1 (by simp [exOs]); show (allocs w (exOs w)).frozen? _ = false; simp only [World.frozen?]; rw [show (allocs w (exOs w)).heap[w.heap.size + 1]? = _ from h]; rfl
/-- What Example gives: two frames. -/
def ExPost (w : World) (e : Ending) (w' : World) : Prop :=
  ∃ sa sc pa pc ca cc ta tc qa qc da dc, e = .returned (.tuple #[.agg #[.int .i64 60, .int .i64 2, .slice sa 3 sc, .slice pa 4 pc, .slice ca 2 cc], .agg #[.int .i64 60, .int .i64 2, .slice ta 3 tc, .slice qa 4 qc, .slice da 2 dc]]) ∧
    PAt w' sa 3 sc pa 4 pc ca 2 cc exP ∧ PAt w' ta 3 tc qa 4 qc da 2 dc exO ∧ Below w.heap.size w w'

set_option maxRecDepth 100000 in
set_option maxHeartbeats 8000000 in
theorem Example_any (w : World) : Calls Try.prog 73 #[] w fun e w' => ExPost w e w' := by
  have HST := Lib.hid (fun W (h : PAt W (some ⟨w.heap.size + 1 + 1, 0, none⟩) 3 3 (some ⟨w.heap.size + 1 + 1 + 1, 0, none⟩) 4 4 (some ⟨w.heap.size + 1 + 1 + 1 + 1 + 1 + 1, 0, none⟩) 2 2 exP) => Stocked_any exP (some ⟨w.heap.size + 1 + 1, 0, none⟩) 3 3 (some ⟨w.heap.size + 1 + 1 + 1, 0, none⟩) 4 4 (some ⟨w.heap.size + 1 + 1 + 1 + 1 + 1 + 1, 0, none⟩) 2 2 1 (by decide) 3 W h (by decide) (by decide) (by decide) (by decide))
  go_enter Try.func73, Try.ntmps73
  go_upto_region 2 with fail
  obtain ⟨W1, hW1, hB1, hp1, hpb, hob, hpf, hof, hz1⟩ := ex_boxes w
  rw [hW1]
  clear hW1
  have hmx : Try.prog.follows .mixedOrders = true := by kernel_rfl
  have hd0 : w.heap.size < W1.heap.size := by omega
  have hd1 : w.heap.size + 1 < W1.heap.size := by omega
  have x0 := hpb 0
  have y0 := hob 0
  have f0 := hpf 0
  have g0 := hof 0
  have x1 := hpb 1
  have y1 := hob 1
  have f1 := hpf 1
  have g1 := hof 1
  have x2 := hpb 2
  have y2 := hob 2
  have f2 := hpf 2
  have g2 := hof 2
  have x3 := hpb 3
  have y3 := hob 3
  have f3 := hpf 3
  have g3 := hof 3
  have x4 := hpb 4
  have y4 := hob 4
  have f4 := hpf 4
  have g4 := hof 4
  simp only [List.getElem?_toArray, List.getElem?_cons_zero, List.getElem?_cons_succ] at x0 x1 x2 x3 x4 y0 y1 y2 y3 y4
  have HP1 := Lib.hid hp1
  have HB1 := Lib.hid hB1
  clear hpb hob hpf hof hp1 hB1
  refine wp_region_noPanic ?_
  go_region_with (go_at_call 66; refine (HST.out _ ((HP1.out W1 (fun _ _ _ => rfl)).below (by repeat (first | exact Below.refl _ _ | (refine Below.alloc ?_ (by first | omega | (simp; omega) | simp) _) | (refine Below.setCell ?_ (by first | omega | (simp; omega) | simp) _) | refine Below.drew ?_)))).mono ?_; rintro e w2 ⟨ga, gc, ha, hc, ia, ic, rfl, hp2, hb2⟩; have hb2' : Below W1.heap.size W1 w2 := ((by repeat (first | exact Below.refl _ _ | (refine Below.alloc ?_ (by first | omega | (simp; omega) | simp) _) | (refine Below.setCell ?_ (by first | omega | (simp; omega) | simp) _) | refine Below.drew ?_)) : Below W1.heap.size W1 _).trans (hb2.mono (by simp)); have hc2 : ∀ b o, b < W1.heap.size → w2.cell? ⟨b, o, none⟩ = W1.cell? ⟨b, o, none⟩ := (fun b o h => hb2'.cell (p := ⟨b, o, none⟩) h); have hf2 : ∀ b o, b < W1.heap.size → w2.frozen? ⟨b, o, none⟩ = W1.frozen? ⟨b, o, none⟩ := (fun b o h => hb2'.frozen (p := ⟨b, o, none⟩) h); have HB2 := Lib.hid hb2'; have HP2 := Lib.hid hp2; clear hb2 hb2' hp2)
  all_goals (refine NoPanic.normal ?_)
  all_goals (
    have hz2 := HB2.out.size
    obtain ⟨p0, p1, p2, p3, p4⟩ := set5 (.int .i64 60) (.int .i64 2) (.slice (some ⟨w.heap.size + 1 + 1, 0, none⟩) 3 3) (.slice (some ⟨w.heap.size + 1 + 1 + 1, 0, none⟩) 4 4) (.slice (some ⟨w.heap.size + 1 + 1 + 1 + 1 + 1 + 1, 0, none⟩) 2 2) ((hc2 _ 0 hd0).trans x0) ((hc2 _ 1 hd0).trans x1) ((hc2 _ 2 hd0).trans x2) ((hc2 _ 3 hd0).trans x3) ((hc2 _ 4 hd0).trans x4)
    have hgA : w2.grownBy (((((w2.setCell ⟨w.heap.size, 0, none⟩ (.int .i64 60)).setCell ⟨w.heap.size, 1, none⟩ (.int .i64 2)).setCell ⟨w.heap.size, 2, none⟩ (.slice (some ⟨w.heap.size + 1 + 1, 0, none⟩) 3 3)).setCell ⟨w.heap.size, 3, none⟩ (.slice (some ⟨w.heap.size + 1 + 1 + 1, 0, none⟩) 4 4)).setCell ⟨w.heap.size, 4, none⟩ (.slice (some ⟨w.heap.size + 1 + 1 + 1 + 1 + 1 + 1, 0, none⟩) 2 2)) (some w.heap.size) := gbx_set (gbx_set (gbx_set (gbx_set (gbx_set (gbx_refl _ _) _ _) _ _) _ _) _ _) _ _
    obtain ⟨wA, hwA⟩ : ∃ wA, (((((w2.setCell ⟨w.heap.size, 0, none⟩ (.int .i64 60)).setCell ⟨w.heap.size, 1, none⟩ (.int .i64 2)).setCell ⟨w.heap.size, 2, none⟩ (.slice (some ⟨w.heap.size + 1 + 1, 0, none⟩) 3 3)).setCell ⟨w.heap.size, 3, none⟩ (.slice (some ⟨w.heap.size + 1 + 1 + 1, 0, none⟩) 4 4)).setCell ⟨w.heap.size, 4, none⟩ (.slice (some ⟨w.heap.size + 1 + 1 + 1 + 1 + 1 + 1, 0, none⟩) 2 2)) = wA := ⟨_, rfl⟩
    rw [hwA] at p0 p1 p2 p3 p4 hgA ⊢
    have hzA := hgA.size
    have hcA : ∀ i, wA.cell? ⟨w.heap.size + 1, i, none⟩ = w2.cell? ⟨w.heap.size + 1, i, none⟩ := fun i => World.cell?_of_block (w := w2) (a := ⟨w.heap.size + 1, i, none⟩) (hgA.block (w.heap.size + 1) (by omega) (by simp))
    obtain ⟨q0, q1, q2, q3, q4⟩ := set5 (.int .i64 exP.len) (.int .i64 exP.slack) (.slice ga 3 gc) (.slice ha 4 hc) (.slice ia 2 ic) (((hcA 0).trans (hc2 _ 0 hd1)).trans y0) (((hcA 1).trans (hc2 _ 1 hd1)).trans y1) (((hcA 2).trans (hc2 _ 2 hd1)).trans y2) (((hcA 3).trans (hc2 _ 3 hd1)).trans y3) (((hcA 4).trans (hc2 _ 4 hd1)).trans y4)
    have hgB : wA.grownBy (((((wA.setCell ⟨w.heap.size + 1, 0, none⟩ (.int .i64 exP.len)).setCell ⟨w.heap.size + 1, 1, none⟩ (.int .i64 exP.slack)).setCell ⟨w.heap.size + 1, 2, none⟩ (.slice ga 3 gc)).setCell ⟨w.heap.size + 1, 3, none⟩ (.slice ha 4 hc)).setCell ⟨w.heap.size + 1, 4, none⟩ (.slice ia 2 ic)) (some (w.heap.size + 1)) := gbx_set (gbx_set (gbx_set (gbx_set (gbx_set (gbx_refl _ _) _ _) _ _) _ _) _ _) _ _
    obtain ⟨wB, hwB⟩ : ∃ wB, (((((wA.setCell ⟨w.heap.size + 1, 0, none⟩ (.int .i64 exP.len)).setCell ⟨w.heap.size + 1, 1, none⟩ (.int .i64 exP.slack)).setCell ⟨w.heap.size + 1, 2, none⟩ (.slice ga 3 gc)).setCell ⟨w.heap.size + 1, 3, none⟩ (.slice ha 4 hc)).setCell ⟨w.heap.size + 1, 4, none⟩ (.slice ia 2 ic)) = wB := ⟨_, rfl⟩
    rw [hwB] at q0 q1 q2 q3 q4 hgB ⊢
    have hzB := hgB.size
    have hcB : ∀ i, wB.cell? ⟨w.heap.size, i, none⟩ = wA.cell? ⟨w.heap.size, i, none⟩ := fun i => World.cell?_of_block (w := wA) (a := ⟨w.heap.size, i, none⟩) (hgB.block (w.heap.size) (by omega) (by simp))
    rw [← hcB] at p0 p1 p2 p3 p4
    have hblk : ∀ j, j ≠ w.heap.size → j ≠ w.heap.size + 1 → j < w2.heap.size → wB.heap[j]? = w2.heap[j]? := fun j h1 h2 h3 => (hgB.block j (by omega) (by simp; exact h2)).trans (hgA.block j h3 (by simp; exact h1))
    have HRES := Lib.hid (show PAt wB (some ⟨w.heap.size + 1 + 1, 0, none⟩) 3 3 (some ⟨w.heap.size + 1 + 1 + 1, 0, none⟩) 4 4 (some ⟨w.heap.size + 1 + 1 + 1 + 1 + 1 + 1, 0, none⟩) 2 2 exP ∧ PAt wB ga 3 gc ha 4 hc ia 2 ic exO ∧ Below w.heap.size w wB from
      ⟨HP1.out wB (fun k h1 h2 => (hblk _ (by omega) (by omega) (by omega)).trans (HB2.out.block _ (by omega))), HP2.out wB ⟨by omega, fun j h1 h2 => hblk j (by simp at h1; omega) (by simp at h1; omega) h2⟩,
        ((HB1.out.trans (HB2.out.mono HB1.out.size)).trans (low_grown (N := w.heap.size) hgA (by omega) (by omega))).trans (low_grown (N := w.heap.size) hgB (by omega) (by omega))⟩)
    clear hwA hwB hgA hgB hcA hcB hblk
    go_wp2_with fail
    refine bodyPost_ret (v := .tuple #[.agg #[.int .i64 60, .int .i64 2, .slice (some ⟨w.heap.size + 1 + 1, 0, none⟩) 3 3, .slice (some ⟨w.heap.size + 1 + 1 + 1, 0, none⟩) 4 4, .slice (some ⟨w.heap.size + 1 + 1 + 1 + 1 + 1 + 1, 0, none⟩) 2 2], .agg #[.int .i64 60, .int .i64 2, .slice ga 3 gc, .slice ha 4 hc, .slice ia 2 ic]]) ?_ rfl ⟨_, _, _, _, _, _, _, _, _, _, _, _, rfl, HRES.out⟩
    simp [results, Try.results73, go_sem, p0, p1, p2, p3, p4, q0, q1, q2, q3, q4]
    exact ⟨rfl, rfl⟩)
end Go.Proofs.Ytcklhojeneejiaa
