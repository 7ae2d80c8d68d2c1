/- The chapter's examples: the walk. -/
import Derived.Test.YtojmimfjnnibdaaLD
namespace Go.Proofs.Ytojmimfjnnibdaa
set_option linter.unusedVariables false
set_option linter.unusedSimpArgs false
open Go.RowKit

set_option maxHeartbeats 2000000 in
theorem works_any (w : World) : Calls Try.prog 16 #[] w fun e w' => e = .returned (.bool true) ∧ Below w.heap.size w w' := by
  go_enter Try.func16, Try.ntmps16
  go_wp2_with fail
  refine (Example_any w).mono ?_
  rintro e w1 ⟨hb1, a, cap, a2, cap2, rfl, hp⟩
  unfold cellsM
  go_wp2_with fail
  obtain ⟨W0, hW0⟩ : ∃ W0, (w1.alloc (.cells (cellsM a cap) 28)).alloc (.cells (cellsM a2 cap2) 28) = W0 := ⟨_, rfl⟩
  have hz0 : W0.heap.size = w1.heap.size + 1 + 1 := by rw [← hW0]; simp
  have hB0 : Below w1.heap.size w1 W0 := by rw [← hW0]; exact (by repeat (first | exact Below.refl _ _ | (refine Below.alloc ?_ (by first | omega | (simp; omega) | simp) _) | (refine Below.setCell ?_ (by first | omega | (simp; omega) | simp) _) | refine Below.drew ?_))
  have hb0 : ∀ i, W0.cell? ⟨w1.heap.size, i, none⟩ = (cellsM a cap)[i]? := fun i => by
    have e1 : Below (w1.heap.size + 1) (w1.alloc (.cells (cellsM a cap) 28)) W0 := by rw [← hW0]; exact (by repeat (first | exact Below.refl _ _ | (refine Below.alloc ?_ (by first | omega | (simp; omega) | simp) _) | (refine Below.setCell ?_ (by first | omega | (simp; omega) | simp) _) | refine Below.drew ?_))
    rw [e1.cell (p := ⟨w1.heap.size, i, none⟩) (show w1.heap.size < w1.heap.size + 1 by omega)]
    exact World.cell?_alloc_new w1 _ _ i
  unfold cellsM at hW0
  rw [hW0]
  clear hW0
  have hp0 := hp.below hB0
  have hbw : Below w.heap.size w W0 := hb1.trans (hB0.mono hb1.size)
  have HP := Lib.hid (fun W (h : Below W0.heap.size W0 W) => hp0.below h)
  obtain ⟨x0, x1, x2, x3, x4, x5, x6, x7, x8, x9, x10⟩ : W0.cell? ⟨w1.heap.size, 0, none⟩ = some (.int .i64 200) ∧ W0.cell? ⟨w1.heap.size, 1, none⟩ = some (.int .i64 6) ∧ W0.cell? ⟨w1.heap.size, 2, none⟩ = some (.int .i64 8) ∧ W0.cell? ⟨w1.heap.size, 3, none⟩ = some (.int .i64 28) ∧ W0.cell? ⟨w1.heap.size, 4, none⟩ = some (.int .i64 30) ∧ W0.cell? ⟨w1.heap.size, 5, none⟩ = some (.int .i64 300) ∧ W0.cell? ⟨w1.heap.size, 6, none⟩ = some (.int .i64 40) ∧ W0.cell? ⟨w1.heap.size, 7, none⟩ = some (.int .i64 60) ∧ W0.cell? ⟨w1.heap.size, 8, none⟩ = some (.int .i64 120) ∧ W0.cell? ⟨w1.heap.size, 9, none⟩ = some (.int .i64 160) ∧ W0.cell? ⟨w1.heap.size, 10, none⟩ = some (.slice a 3 cap) :=
    ⟨hb0 0, hb0 1, hb0 2, hb0 3, hb0 4, hb0 5, hb0 6, hb0 7, hb0 8, hb0 9, hb0 10⟩
  clear hb0 hp hp0 hb1 hB0
  have q0 : w1.heap.size < W0.heap.size := by omega
  go_wp2_with fail
  refine (Safe_M _ _ _ _ _ (HP.out _ (by repeat (first | exact Below.refl _ _ | (refine Below.alloc ?_ (by first | omega | (simp; omega) | simp) _) | (refine Below.setCell ?_ (by first | omega | (simp; omega) | simp) _) | refine Below.drew ?_))) (ints3 W0 1 1 1 _ (by omega))).mono ?_
  rintro e w2 ⟨rfl, hb2⟩
  have hB2 : Below W0.heap.size W0 w2 := ((by repeat (first | exact Below.refl _ _ | (refine Below.alloc ?_ (by first | omega | (simp; omega) | simp) _) | (refine Below.setCell ?_ (by first | omega | (simp; omega) | simp) _) | refine Below.drew ?_)) : Below W0.heap.size W0 _).trans (hb2.mono (by simp))
  obtain ⟨hc2, hf2⟩ := bcell hB2
  have q2 : w1.heap.size < w2.heap.size := Nat.lt_of_lt_of_le q0 hB2.size
  clear hb2
  go_wp2_with fail
  refine (Fails_M _ _ _ _ _ (HP.out _ (hB2.alloc hB2.size _)) (ints3 w2 0 1 0 _ rfl)).mono ?_
  rintro e w3 ⟨f, fc, rfl, hr3, hb3⟩
  have hB3 : Below W0.heap.size W0 w3 := (hB2.alloc hB2.size _).trans (hb3.mono (by have := hB2.size; simp; omega))
  obtain ⟨hc3, hf3⟩ := bcell hB3
  have q3 : w1.heap.size < w3.heap.size := Nat.lt_of_lt_of_le q0 hB3.size
  clear hb3 hc2 hf2 hB2
  have HR3 := Lib.hid hr3
  clear hr3
  go_wp2_with fail
  refine (Lead_M _ _ _ _ _ (HP.out _ (hB3.alloc hB3.size _)) (ints3 w3 1 1 0 _ rfl)).mono ?_
  rintro e w4 ⟨rfl, hb4⟩
  have hB4 : Below W0.heap.size W0 w4 := (hB3.alloc hB3.size _).trans (hb4.mono (by have := hB3.size; simp; omega))
  have hr4 := (HR3.out.kept (World.grownBy_alloc _ _ none) (Classical.em _)).kept (grown_none hb4) (Classical.em _)
  have HR4 := Lib.hid hr4
  obtain ⟨hc4, hf4⟩ := bcell hB4
  have q4 : w1.heap.size < w4.heap.size := Nat.lt_of_lt_of_le q0 hB4.size
  clear hb4 hc3 hf3 hB3 hr4
  go_wp2_with fail
  obtain ⟨W4, hW4⟩ : ∃ W4, w4.alloc (.cells #[.int .i64 4, .int .i64 53] 23) = W4 := ⟨_, rfl⟩
  have s0 : W4.cell? ⟨w4.heap.size, 0, none⟩ = some (.int .i64 4) := by rw [← hW4, World.cell?_alloc_new]; rfl
  have s1 : W4.cell? ⟨w4.heap.size, 1, none⟩ = some (.int .i64 53) := by rw [← hW4, World.cell?_alloc_new]; rfl
  have hz4 : W4.heap.size = w4.heap.size + 1 := by rw [← hW4]; simp
  have hB5 : Below W0.heap.size W0 W4 := by rw [← hW4]; exact hB4.alloc hB4.size _
  have hr5 : W4.ownsRow w2.heap.size.succ 3 1 (.slice f 2 fc) 2 ([1, 4].map (Value.int .i64)) := by rw [← hW4]; exact (Go.Joins.ownsRow_le HR4.out (by simp)).alloc _
  rw [hW4]
  clear hW4 hc4 hf4 hB4 HR4 HR3
  obtain ⟨hc5, hf5⟩ := bcell hB5
  have q5 : w1.heap.size < W4.heap.size := Nat.lt_of_lt_of_le q0 hB5.size
  refine (Cheap_M _ _ _ (HP.out _ hB5)).mono ?_
  rintro e w5 ⟨rfl, hb5⟩
  have hB6 : Below W4.heap.size W4 w5 := hb5
  obtain ⟨hc6, hf6⟩ := bcell hB6
  have q6 : w1.heap.size < w5.heap.size := Nat.lt_of_lt_of_le q5 hB6.size
  have q6' : w4.heap.size < W4.heap.size := by omega
  clear hb5
  go_wp2_with fail
  refine (Tin_M _ _ _ (HP.out _ (hB5.trans (hB6.mono hB5.size)))).mono ?_
  rintro e w6 ⟨rfl, hb6⟩
  have hB7 : Below W4.heap.size W4 w6 := hB6.trans (hb6.mono hB6.size)
  clear hB6 hc6 hf6 hb6
  obtain ⟨hc7, hf7⟩ := bcell hB7
  go_wp2_with fail
  refine (Worth_M _ _ _ (HP.out _ (hB5.trans (hB7.mono hB5.size)))).mono ?_
  rintro e w7 ⟨rfl, hb7⟩
  have hB8 : Below W4.heap.size W4 w7 := hB7.trans (hb7.mono hB7.size)
  clear hB7 hc7 hf7 hb7
  obtain ⟨hc8, hf8⟩ := bcell hB8
  have hr8 := hr5.kept (grown_none hB8) (Classical.em _)
  have HR8 := Lib.hid hr8
  have hbw8 : Below w.heap.size w w7 := (hbw.trans (hB5.mono hbw.size)).trans (hB8.mono (by have := hB5.size; have := hbw.size; omega))
  clear hr5 hr8
  go_wp2_with fail
  refine (SameInts_any f 2 fc (some ⟨w7.heap.size, 0, none⟩) 2 2 [1, 4] [1, 4] _ (ints_own (HR8.out.alloc _) (by decide)) (ints2 w7 1 4 _ rfl)).mono ?_
  rintro e w8 ⟨rfl, hb8⟩
  rw [show sameB [1, 4] [1, 4] = true from by decide]
  have hB9 : Below W4.heap.size W4 w8 := (hB8.alloc hB8.size _).trans (hb8.mono (by have := hB8.size; simp; omega))
  have hbw9 : Below w.heap.size w w8 := (hbw8.alloc hbw8.size _).trans (hb8.mono (by have := hbw8.size; simp; omega))
  clear hB8 hc8 hf8 hb8
  obtain ⟨hc9, hf9⟩ := bcell hB9
  go_wp2_with fail
  go_ret
  exact ⟨rfl, hbw9⟩
end Go.Proofs.Ytojmimfjnnibdaa
