/- The examples' shop. -/
import Derived.Test.YtojmimfjnnibdaaLB
import Derived.Test.YtojmimfjnnibdaaRK
import Derived.Test.YtojmimfjnnibdaaH
import Derived.Test.YtojmimfjnnibdaaN
import Derived.Test.YtojmimfjnnibdaaQ
namespace Go.Proofs.Ytojmimfjnnibdaa
set_option linter.unusedVariables false
set_option linter.unusedSimpArgs false
open Go.RowKit
set_option linter.unnecessarySimpa false

def shopM : Shop := { P := 200, tl := 6, th := 8, al := 28, ah := 30, room := 300, xl := 40, xh := 60, yl := 120, yh := 160, pigs := [{ P := 10, t := 5, a := 0, c := 30, m := 3 }, { P := 20, t := 1, a := 6, c := 25, m := 2 }, { P := 25, t := 0, a := 0, c := 5, m := 2 }] }
def cellsM (a : Option Addr) (cap : Nat) : Array Value := #[.int .i64 200, .int .i64 6, .int .i64 8, .int .i64 28, .int .i64 30, .int .i64 300, .int .i64 40, .int .i64 60, .int .i64 120, .int .i64 160, .slice a 3 cap]

theorem frozen_new (w : World) (cs : Array Value) (T : TypeId) (i : Nat) : (w.alloc (.cells cs T)).frozen? ⟨w.heap.size, i, none⟩ = false := by
  have h : (w.alloc (.cells cs T)).heap[w.heap.size]? = some (.cells cs T (0, 0)) := World.alloc_heap_new _ _
  unfold World.frozen?; rw [h]; simp

theorem pigs_kept {w w' : World} {a : Option Addr} {len : Nat} {ps : List Pig} (h : PigsAt w a len ps) (hs : w.heap.size ≤ w'.heap.size) (hk : ∀ b o, a = some ⟨b, o, none⟩ → w'.heap[b]? = w.heap[b]?) : PigsAt w' a len ps := by
  obtain ⟨h1, h2, h3⟩ := h
  refine ⟨h1, h2, fun hl => ?_⟩
  obtain ⟨b, o, ha, hb, hc⟩ := h3 hl
  refine ⟨b, o, ha, Nat.lt_of_lt_of_le hb hs, fun i hi => ?_⟩
  obtain ⟨c0, c1, c2, c3, c4⟩ := hc i hi
  have e := fun j => World.cell?_of_block (w := w) (w' := w') (a := ⟨b, j, none⟩) (hk b o ha)
  exact ⟨(e _).trans c0, (e _).trans c1, (e _).trans c2, (e _).trans c3, (e _).trans c4⟩

set_option maxHeartbeats 2000000 in
theorem Example_any (w : World) :
    Calls Try.prog 67 #[] w fun e w' => Below w.heap.size w w' ∧ ∃ a cap a2 cap2, e = .returned (.tuple #[.agg (cellsM a cap), .agg (cellsM a2 cap2)]) ∧ PigsAt w' a 3 shopM.pigs := by
  go_enter Try.func67, Try.ntmps67
  go_wp2
  obtain ⟨W0, hW0⟩ : ∃ W0, (((w.alloc (.cells (cellsM (some ⟨w.heap.size + 1 + 1, 0, none⟩) 3) 28)).alloc (.cells #[.int .i64 0, .int .i64 0, .int .i64 0, .int .i64 0, .int .i64 0, .int .i64 0, .int .i64 0, .int .i64 0, .int .i64 0, .int .i64 0, .slice none 0 0] 28)).alloc (.cells #[.int .i64 10, .int .i64 5, .int .i64 0, .int .i64 30, .int .i64 3, .int .i64 20, .int .i64 1, .int .i64 6, .int .i64 25, .int .i64 2, .int .i64 25, .int .i64 0, .int .i64 0, .int .i64 5, .int .i64 2] 70)) = W0 := ⟨_, rfl⟩
  have hz0 : W0.heap.size = w.heap.size + 1 + 1 + 1 := by rw [← hW0]; simp
  have hB0 : Below w.heap.size w W0 := by rw [← hW0]; exact (by repeat (first | exact Below.refl _ _ | (refine Below.alloc ?_ (by first | omega | (simp; omega) | simp) _) | (refine Below.setCell ?_ (by first | omega | (simp; omega) | simp) _) | refine Below.drew ?_))
  have hp : PigsAt W0 (some ⟨w.heap.size + 1 + 1, 0, none⟩) 3 shopM.pigs := by
    refine ⟨rfl, by decide, fun _ => ⟨w.heap.size + 1 + 1, 0, rfl, by omega, fun i hi => ?_⟩⟩
    have hi3 : i < 3 := hi
    have hr : ∀ j, W0.cell? ⟨w.heap.size + 1 + 1, j, none⟩ = (#[.int .i64 10, .int .i64 5, .int .i64 0, .int .i64 30, .int .i64 3, .int .i64 20, .int .i64 1, .int .i64 6, .int .i64 25, .int .i64 2, .int .i64 25, .int .i64 0, .int .i64 0, .int .i64 5, .int .i64 2] : Array Value)[j]? := fun j => by
      rw [← hW0]; have h := World.cell?_alloc_new ((w.alloc (.cells (cellsM (some ⟨w.heap.size + 1 + 1, 0, none⟩) 3) 28)).alloc (.cells #[.int .i64 0, .int .i64 0, .int .i64 0, .int .i64 0, .int .i64 0, .int .i64 0, .int .i64 0, .int .i64 0, .int .i64 0, .int .i64 0, .slice none 0 0] 28)) #[.int .i64 10, .int .i64 5, .int .i64 0, .int .i64 30, .int .i64 3, .int .i64 20, .int .i64 1, .int .i64 6, .int .i64 25, .int .i64 2, .int .i64 25, .int .i64 0, .int .i64 0, .int .i64 5, .int .i64 2] 70 j; simpa using h
    match i, hi3 with
    | 0, _ => exact ⟨hr 0, hr 1, hr 2, hr 3, hr 4⟩
    | 1, _ => exact ⟨hr 5, hr 6, hr 7, hr 8, hr 9⟩
    | 2, _ => exact ⟨hr 10, hr 11, hr 12, hr 13, hr 14⟩
  have hb0 : ∀ i, W0.cell? ⟨w.heap.size, i, none⟩ = (cellsM (some ⟨w.heap.size + 1 + 1, 0, none⟩) 3)[i]? := fun i => by
    have e1 : Below (w.heap.size + 1) (w.alloc (.cells (cellsM (some ⟨w.heap.size + 1 + 1, 0, none⟩) 3) 28)) W0 := by rw [← hW0]; exact (by repeat (first | exact Below.refl _ _ | (refine Below.alloc ?_ (by first | omega | (simp; omega) | simp) _) | (refine Below.setCell ?_ (by first | omega | (simp; omega) | simp) _) | refine Below.drew ?_))
    rw [e1.cell (p := ⟨w.heap.size, i, none⟩) (show w.heap.size < w.heap.size + 1 by omega)]
    exact World.cell?_alloc_new w _ _ i
  have hb1 : ∀ i, W0.cell? ⟨w.heap.size + 1, i, none⟩ = (#[.int .i64 0, .int .i64 0, .int .i64 0, .int .i64 0, .int .i64 0, .int .i64 0, .int .i64 0, .int .i64 0, .int .i64 0, .int .i64 0, .slice none 0 0] : Array Value)[i]? := fun i => by
    have e1 : Below (w.heap.size + 2) ((w.alloc (.cells (cellsM (some ⟨w.heap.size + 1 + 1, 0, none⟩) 3) 28)).alloc (.cells #[.int .i64 0, .int .i64 0, .int .i64 0, .int .i64 0, .int .i64 0, .int .i64 0, .int .i64 0, .int .i64 0, .int .i64 0, .int .i64 0, .slice none 0 0] 28)) W0 := by rw [← hW0]; exact (by repeat (first | exact Below.refl _ _ | (refine Below.alloc ?_ (by first | omega | (simp; omega) | simp) _) | (refine Below.setCell ?_ (by first | omega | (simp; omega) | simp) _) | refine Below.drew ?_))
    rw [e1.cell (p := ⟨w.heap.size + 1, i, none⟩) (show w.heap.size + 1 < w.heap.size + 2 by omega)]
    have h := World.cell?_alloc_new (w.alloc (.cells (cellsM (some ⟨w.heap.size + 1 + 1, 0, none⟩) 3) 28)) #[.int .i64 0, .int .i64 0, .int .i64 0, .int .i64 0, .int .i64 0, .int .i64 0, .int .i64 0, .int .i64 0, .int .i64 0, .int .i64 0, .slice none 0 0] 28 i
    simpa using h
  have hf0 : ∀ i, W0.frozen? ⟨w.heap.size, i, none⟩ = false := fun i => by
    have e1 : Below (w.heap.size + 1) (w.alloc (.cells (cellsM (some ⟨w.heap.size + 1 + 1, 0, none⟩) 3) 28)) W0 := by rw [← hW0]; exact (by repeat (first | exact Below.refl _ _ | (refine Below.alloc ?_ (by first | omega | (simp; omega) | simp) _) | (refine Below.setCell ?_ (by first | omega | (simp; omega) | simp) _) | refine Below.drew ?_))
    rw [e1.frozen (p := ⟨w.heap.size, i, none⟩) (show w.heap.size < w.heap.size + 1 by omega)]
    exact frozen_new w _ _ i
  have hf1 : ∀ i, W0.frozen? ⟨w.heap.size + 1, i, none⟩ = false := fun i => by
    have e1 : Below (w.heap.size + 2) ((w.alloc (.cells (cellsM (some ⟨w.heap.size + 1 + 1, 0, none⟩) 3) 28)).alloc (.cells #[.int .i64 0, .int .i64 0, .int .i64 0, .int .i64 0, .int .i64 0, .int .i64 0, .int .i64 0, .int .i64 0, .int .i64 0, .int .i64 0, .slice none 0 0] 28)) W0 := by rw [← hW0]; exact (by repeat (first | exact Below.refl _ _ | (refine Below.alloc ?_ (by first | omega | (simp; omega) | simp) _) | (refine Below.setCell ?_ (by first | omega | (simp; omega) | simp) _) | refine Below.drew ?_))
    rw [e1.frozen (p := ⟨w.heap.size + 1, i, none⟩) (show w.heap.size + 1 < w.heap.size + 2 by omega)]
    have h := frozen_new (w.alloc (.cells (cellsM (some ⟨w.heap.size + 1 + 1, 0, none⟩) 3) 28)) #[.int .i64 0, .int .i64 0, .int .i64 0, .int .i64 0, .int .i64 0, .int .i64 0, .int .i64 0, .int .i64 0, .int .i64 0, .int .i64 0, .slice none 0 0] 28 i
    simpa using h
  unfold cellsM at hW0
  rw [hW0]
  clear hW0
  obtain ⟨x0, x1, x2, x3, x4, x5, x6, x7, x8, x9, x10⟩ : W0.cell? ⟨w.heap.size, 0, none⟩ = some (.int .i64 200) ∧ W0.cell? ⟨w.heap.size, 1, none⟩ = some (.int .i64 6) ∧ W0.cell? ⟨w.heap.size, 2, none⟩ = some (.int .i64 8) ∧ W0.cell? ⟨w.heap.size, 3, none⟩ = some (.int .i64 28) ∧ W0.cell? ⟨w.heap.size, 4, none⟩ = some (.int .i64 30) ∧ W0.cell? ⟨w.heap.size, 5, none⟩ = some (.int .i64 300) ∧ W0.cell? ⟨w.heap.size, 6, none⟩ = some (.int .i64 40) ∧ W0.cell? ⟨w.heap.size, 7, none⟩ = some (.int .i64 60) ∧ W0.cell? ⟨w.heap.size, 8, none⟩ = some (.int .i64 120) ∧ W0.cell? ⟨w.heap.size, 9, none⟩ = some (.int .i64 160) ∧ W0.cell? ⟨w.heap.size, 10, none⟩ = some (.slice (some ⟨w.heap.size + 1 + 1, 0, none⟩) 3 3) :=
    ⟨hb0 0, hb0 1, hb0 2, hb0 3, hb0 4, hb0 5, hb0 6, hb0 7, hb0 8, hb0 9, hb0 10⟩
  obtain ⟨y0, y1, y2, y3, y4, y5, y6, y7, y8, y9, y10⟩ : W0.cell? ⟨w.heap.size + 1, 0, none⟩ = some (.int .i64 0) ∧ W0.cell? ⟨w.heap.size + 1, 1, none⟩ = some (.int .i64 0) ∧ W0.cell? ⟨w.heap.size + 1, 2, none⟩ = some (.int .i64 0) ∧ W0.cell? ⟨w.heap.size + 1, 3, none⟩ = some (.int .i64 0) ∧ W0.cell? ⟨w.heap.size + 1, 4, none⟩ = some (.int .i64 0) ∧ W0.cell? ⟨w.heap.size + 1, 5, none⟩ = some (.int .i64 0) ∧ W0.cell? ⟨w.heap.size + 1, 6, none⟩ = some (.int .i64 0) ∧ W0.cell? ⟨w.heap.size + 1, 7, none⟩ = some (.int .i64 0) ∧ W0.cell? ⟨w.heap.size + 1, 8, none⟩ = some (.int .i64 0) ∧ W0.cell? ⟨w.heap.size + 1, 9, none⟩ = some (.int .i64 0) ∧ W0.cell? ⟨w.heap.size + 1, 10, none⟩ = some (.slice none 0 0) :=
    ⟨hb1 0, hb1 1, hb1 2, hb1 3, hb1 4, hb1 5, hb1 6, hb1 7, hb1 8, hb1 9, hb1 10⟩
  have HP := Lib.hid (fun w1 (hb : Below W0.heap.size W0 w1) => Pigged_any shopM (some ⟨w.heap.size + 1 + 1, 0, none⟩) 3 3 0 0 w1 (hp.below hb) (by omega) (by omega))
  have HPG := Lib.hid hp
  clear hb0 hb1 hp
  have q1 : w.heap.size < W0.heap.size := by omega
  have q2 : w.heap.size + 1 < W0.heap.size := by omega
  have HQ := Lib.hid (show ∀ w1, Below W0.heap.size W0 w1 → (∀ b o, b < W0.heap.size → w1.cell? ⟨b, o, none⟩ = W0.cell? ⟨b, o, none⟩) ∧ (∀ b o, b < W0.heap.size → w1.frozen? ⟨b, o, none⟩ = W0.frozen? ⟨b, o, none⟩) from fun w1 h => bcell h)
  have hdr : ∀ n, Below W0.heap.size W0 (W0.drewN n) := fun n => Go.Joins.below_draws _ _ _
  have hmx : Try.prog.follows .mixedOrders = true := by kernel_rfl
  go_region_with (go_at_call 62; refine (HP.out _ (Below.refl _ W0).drew).mono ?_; rintro e w1 ⟨hb1, a', cap', rfl, -⟩; have hBw := (Below.refl _ W0).drew.trans hb1; obtain ⟨hc1, hg1⟩ := HQ.out w1 hBw; have hz1 := hBw.size; have q3 : w.heap.size < w1.heap.size := (by omega); have q4 : w.heap.size + 1 < w1.heap.size := (by omega); clear hb1)
  all_goals go_wp2
  all_goals refine bodyPost_ret (v := .tuple #[.agg (cellsM (some ⟨w.heap.size + 1 + 1, 0, none⟩) 3), .agg #[.int .i64 shopM.P, .int .i64 shopM.tl, .int .i64 shopM.th, .int .i64 shopM.al, .int .i64 shopM.ah, .int .i64 shopM.room, .int .i64 shopM.xl, .int .i64 shopM.xh, .int .i64 shopM.yl, .int .i64 shopM.yh, .slice a' 3 cap']]) (by simp [results, Try.results67, go_sem, cellsM, hc1, hg1, q1, q2, q3, q4, hf0, hf1, x0, y0, x1, y1, x2, y2, x3, y3, x4, y4, x5, y5, x6, y6, x7, y7, x8, y8, x9, y9, x10, y10]) rfl ⟨?_, _, _, _, _, rfl, ?_⟩
  all_goals first
    | (repeat (refine Below.setCell ?_ (by first | (simp; done) | (simp; omega) | omega) _)
       exact hB0.trans (hBw.mono hB0.size))
    | (refine pigs_kept HPG.out (by simpa using hz1) (fun b o e => ?_)
       cases e
       repeat (refine (Below.heap_setCell _ _ _ _ (by first | (simp; done) | (simp; omega))).trans ?_)
       exact hBw.block (w.heap.size + 1 + 1) (show w.heap.size + 1 + 1 < W0.heap.size by omega))
end Go.Proofs.Ytojmimfjnnibdaa
