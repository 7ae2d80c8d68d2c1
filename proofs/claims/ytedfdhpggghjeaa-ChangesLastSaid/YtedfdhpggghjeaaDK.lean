/- The chapter's examples, for the landed code: they hold. -/
import Derived.Test.YtedfdhpggghjeaaDJ
import Derived.Test.YtedfdhpggghjeaaDG
import Derived.Test.YtedfdhpggghjeaaYQ
namespace Go.Proofs.Ytedfdhpggghjeaa
set_option linter.unusedVariables false
set_option linter.unusedSimpArgs false
open Go.RowKit Go.Shelf
theorem exH_ok : exH.ok = true := by kernel_rfl
theorem exG_ok : exG.ok = true := by kernel_rfl
set_option maxRecDepth 100000 in
theorem exH_lacks : exH.lacks 1 = [2, 3] := by kernel_rfl
set_option maxRecDepth 100000 in
theorem exH_since : exH.since 1 5 = 30 := by kernel_rfl
set_option maxRecDepth 100000 in
theorem exH_time : exH.time 0 = some (20, 99) := by kernel_rfl
set_option maxRecDepth 100000 in
theorem exH_mixed : exH.mixed [3, 5] 40 = [0, 1] := by kernel_rfl
set_option maxRecDepth 100000 in
theorem exG_cost : exG.cost (exG.leastR 1 15) = 10 := by kernel_rfl
set_option maxRecDepth 100000 in
theorem exH_pick : exH.pick (exH.leastR 0 15) = [2, 5] := by kernel_rfl
theorem ints2a (W : World) (a b : Int) (g : Nat) (h : W.heap.size = g) : IntsAt (W.alloc (.cells #[.int .i64 a, .int .i64 b] 3)) (some ⟨g, 0, none⟩) 2 [a, b] := by
  subst h
  refine ⟨rfl, by unfold maxLen; omega, fun _ => ⟨W.heap.size, 0, rfl, by simp, fun i hi => ?_⟩⟩
  have hi2 : i < 2 := by simpa using hi
  match i, hi2 with
  | 0, _ => exact World.cell?_alloc_new W _ _ 0
  | 1, _ => exact World.cell?_alloc_new W _ _ 1

theorem Lacks_H (ta : Option Addr) (tc : Nat) (ma : Option Addr) (mc : Nat) (w : World) (hp : HAt w ta 6 tc ma 2 mc exH) :
    Calls Try.prog 29 #[.agg #[.slice ta 6 tc, .slice ma 2 mc], .int .i64 1] w fun e w' => (∃ (a : Option Addr) (n : Nat), e = .returned (.tuple #[.slice a 2 n, .int .i64 0]) ∧ IntsAt w' a 2 [2, 3]) ∧ Below w.heap.size w w' := by
  have h := Lacks_yes exH ta 6 tc ma 2 mc exH_ok 1 (by decide) w hp
  rw [exH_lacks] at h
  exact h
theorem Since_H (ta : Option Addr) (tc : Nat) (ma : Option Addr) (mc : Nat) (w : World) (hp : HAt w ta 6 tc ma 2 mc exH) :
    Calls Try.prog 22 #[.agg #[.slice ta 6 tc, .slice ma 2 mc], .int .i64 5, .int .i64 1] w fun e w' => e = .returned (.tuple #[.int .i64 30, .int .i64 0]) ∧ Below w.heap.size w w' := by
  have h := Since_yes exH ta 6 tc ma 2 mc exH_ok 5 (by decide) 1 (by decide) w hp
  rw [exH_since, if_neg (by decide)] at h
  exact h
theorem Time_H (ta : Option Addr) (tc : Nat) (ma : Option Addr) (mc : Nat) (w : World) (hp : HAt w ta 6 tc ma 2 mc exH) :
    Calls Try.prog 34 #[.agg #[.slice ta 6 tc, .slice ma 2 mc], .int .i64 0] w fun e w' => e = .returned (.tuple #[.agg #[.int .i64 20, .int .i64 99], .int .i64 0]) ∧ Below w.heap.size w w' := by
  have h := Time_yes exH ta 6 tc ma 2 mc exH_ok 0 (by decide) w hp
  rw [exH_time] at h
  exact h
theorem Mixed_H (ta : Option Addr) (tc : Nat) (ma : Option Addr) (mc : Nat) (xa : Option Addr) (xc : Nat) (w : World) (hp : HAt w ta 6 tc ma 2 mc exH) (hx : IntsAt w xa 2 [3, 5]) :
    Calls Try.prog 32 #[.agg #[.slice ta 6 tc, .slice ma 2 mc], .slice xa 2 xc, .int .i64 40] w fun e w' => (∃ (a : Option Addr) (n : Nat), e = .returned (.tuple #[.slice a 2 n, .int .i64 0]) ∧ IntsAt w' a 2 [0, 1]) ∧ Below w.heap.size w w' := by
  have h := Mixed_yes exH ta 6 tc ma 2 mc exH_ok xa 2 xc [3, 5] 40 (by decide) (by kernel_rfl) w hp hx
  rw [exH_mixed] at h
  exact h
theorem Cheap_G (ta : Option Addr) (tc : Nat) (ma : Option Addr) (mc : Nat) (w : World) (hp : HAt w ta 6 tc ma 2 mc exG) :
    Calls Try.prog 36 #[.agg #[.slice ta 6 tc, .slice ma 2 mc], .int .i64 1, .int .i64 15] w fun e w' => (∃ q, q = (10 : Int) ∧ e = .returned (.tuple #[.int .i64 q, .int .i64 0])) ∧ Below w.heap.size w w' := by
  have h := Cheap_yes exG ta 6 tc ma 2 mc exG_ok 1 15 (by decide) (by decide) w hp
  rw [exG_cost] at h
  exact h
theorem Remedy_H (ta : Option Addr) (tc : Nat) (ma : Option Addr) (mc : Nat) (w : World) (hp : HAt w ta 6 tc ma 2 mc exH) :
    Calls Try.prog 38 #[.agg #[.slice ta 6 tc, .slice ma 2 mc], .int .i64 0, .int .i64 15] w fun e w' => (∃ (a : Option Addr) (n : Nat), e = .returned (.tuple #[.slice a 2 n, .int .i64 0]) ∧ IntsAt w' a 2 [2, 5]) ∧ Below w.heap.size w w' := by
  have h := Remedy_yes exH ta 6 tc ma 2 mc exH_ok 0 15 (by decide) (by decide) w hp
  rw [exH_pick] at h
  exact h
set_option maxRecDepth 100000 in
set_option maxHeartbeats 8000000 in
theorem works_any (w : World) : Calls Try.prog 16 #[] w fun e w' => e = .returned (.bool true) ∧ Below w.heap.size w w' := by
  go_enter Try.func16, Try.ntmps16
  go_wp2_with fail
  refine (Example_any w).mono ?_
  rintro e w1 ⟨ka, kc, la, lc, pa, pc, qa, qc, rfl, hs, ht, hb1⟩
  go_wp2_with fail
  obtain ⟨W0, hW0, hB0, ⟨g0_0, g0_1, g0_2, g0_3⟩, hz0⟩ : ∃ W0, (w1.alloc (.cells #[.slice ka 6 kc, .slice la 2 lc] 25)).alloc (.cells #[.slice pa 6 pc, .slice qa 2 qc] 25) = W0 ∧ Below w1.heap.size w1 W0 ∧
      (W0.cell? ⟨w1.heap.size, 0, none⟩ = some (.slice ka 6 kc) ∧ W0.cell? ⟨w1.heap.size, 1, none⟩ = some (.slice la 2 lc) ∧ W0.cell? ⟨w1.heap.size + 1, 0, none⟩ = some (.slice pa 6 pc) ∧ W0.cell? ⟨w1.heap.size + 1, 1, none⟩ = some (.slice qa 2 qc)) ∧ W0.heap.size = w1.heap.size + 2 :=
    ⟨_, rfl, (by repeat (first | exact Below.refl _ _ | (refine Below.alloc ?_ (by first | omega | (simp; omega) | simp) _) | (refine Below.setCell ?_ (by first | omega | (simp; omega) | simp) _) | refine Below.drew ?_)), ⟨by go_simp, by go_simp, by go_simp, by go_simp⟩, by simp⟩
  rw [hW0]
  clear hW0
  obtain ⟨n0, hn0⟩ : ∃ n0, w1.heap.size = n0 := ⟨_, rfl⟩
  have HS := Lib.hid (fun W (h : Below W0.heap.size W0 W) => (hs.below hB0).below h)
  have HT := Lib.hid (fun W (h : Below W0.heap.size W0 W) => (ht.below hB0).below h)
  have HBW := Lib.hid (hb1.trans (hB0.mono hb1.size))
  rw [hn0] at g0_0 g0_1 g0_2 g0_3 hz0
  rw [hn0]
  have q0_0 : n0 < W0.heap.size := by omega
  have q0_1 : n0 + 1 < W0.heap.size := by omega
  clear hs ht hb1 hB0 hz0 hn0
  go_wp2_with fail
  refine (Lacks_H ka kc la lc _ (HS.out _ (by repeat (first | exact Below.refl _ _ | (refine Below.alloc ?_ (by first | omega | (simp; omega) | simp) _) | (refine Below.setCell ?_ (by first | omega | (simp; omega) | simp) _) | refine Below.drew ?_)))).mono ?_
  rintro e v1 ⟨⟨al, cl, rfl, hl⟩, hb1⟩
  have hB1_0 : Below W0.heap.size W0 v1 := below_via (Lib.hid hb1) (by first | omega | (simp; done) | (simp; omega)) (by repeat (first | exact Below.refl _ _ | (refine Below.alloc ?_ (by first | omega | (simp; omega) | simp) _) | (refine Below.setCell ?_ (by first | omega | (simp; omega) | simp) _) | refine Below.drew ?_))
  have z1 := hb1.size
  (try simp at z1)
  obtain ⟨g1_0, g1_1, g1_2, g1_3⟩ : v1.cell? ⟨n0, 0, none⟩ = some (.slice ka 6 kc) ∧ v1.cell? ⟨n0, 1, none⟩ = some (.slice la 2 lc) ∧ v1.cell? ⟨n0 + 1, 0, none⟩ = some (.slice pa 6 pc) ∧ v1.cell? ⟨n0 + 1, 1, none⟩ = some (.slice qa 2 qc) :=
    ⟨(hb1.cell (p := ⟨n0, 0, none⟩) (by first | omega | (simp; done) | (simp; omega))).trans (by first | (go_simp; done) | (go_simp; exact set_same (u := .int .i64 0) (by go_simp; done))), (hb1.cell (p := ⟨n0, 1, none⟩) (by first | omega | (simp; done) | (simp; omega))).trans (by first | (go_simp; done) | (go_simp; exact set_same (u := .int .i64 0) (by go_simp; done))), (hb1.cell (p := ⟨n0 + 1, 0, none⟩) (by first | omega | (simp; done) | (simp; omega))).trans (by first | (go_simp; done) | (go_simp; exact set_same (u := .int .i64 0) (by go_simp; done))), (hb1.cell (p := ⟨n0 + 1, 1, none⟩) (by first | omega | (simp; done) | (simp; omega))).trans (by first | (go_simp; done) | (go_simp; exact set_same (u := .int .i64 0) (by go_simp; done)))⟩
  have q1_0 : n0 < v1.heap.size := by first | omega | (simp at *; omega)
  have q1_1 : n0 + 1 < v1.heap.size := by first | omega | (simp at *; omega)
  have HB1 := Lib.hid hB1_0
  have y1 := hB1_0.size
  clear hb1 hB1_0 g0_0 g0_1 g0_2 g0_3 q0_0 q0_1
  have HL := Lib.hid hl
  clear hl
  go_wp2_with fail
  refine (Since_H ka kc la lc _ (HS.out _ (by repeat (first | exact Below.refl _ _ | with_reducible exact HB1.out | (refine Below.alloc ?_ (by first | omega | (simp; omega) | simp) _) | (refine Below.setCell ?_ (by first | omega | (simp; omega) | simp) _) | refine Below.drew ?_)))).mono ?_
  rintro e v2 ⟨rfl, hb2⟩
  have hB2_0 : Below W0.heap.size W0 v2 := below_via (Lib.hid hb2) (by first | omega | (simp; done) | (simp; omega)) (by repeat (first | exact Below.refl _ _ | with_reducible exact HB1.out | (refine Below.alloc ?_ (by first | omega | (simp; omega) | simp) _) | (refine Below.setCell ?_ (by first | omega | (simp; omega) | simp) _) | refine Below.drew ?_))
  have hB2_1 : Below v1.heap.size v1 v2 := below_via (Lib.hid hb2) (by first | omega | (simp; done) | (simp; omega)) (by repeat (first | exact Below.refl _ _ | (refine Below.alloc ?_ (by first | omega | (simp; omega) | simp) _) | (refine Below.setCell ?_ (by first | omega | (simp; omega) | simp) _) | refine Below.drew ?_))
  have z2 := hb2.size
  (try simp at z2)
  obtain ⟨g2_0, g2_1, g2_2, g2_3⟩ : v2.cell? ⟨n0, 0, none⟩ = some (.slice ka 6 kc) ∧ v2.cell? ⟨n0, 1, none⟩ = some (.slice la 2 lc) ∧ v2.cell? ⟨n0 + 1, 0, none⟩ = some (.slice pa 6 pc) ∧ v2.cell? ⟨n0 + 1, 1, none⟩ = some (.slice qa 2 qc) :=
    ⟨(hb2.cell (p := ⟨n0, 0, none⟩) (by first | omega | (simp; done) | (simp; omega))).trans (by first | (go_simp; done) | (go_simp; exact set_same (u := .int .i64 0) (by go_simp; done))), (hb2.cell (p := ⟨n0, 1, none⟩) (by first | omega | (simp; done) | (simp; omega))).trans (by first | (go_simp; done) | (go_simp; exact set_same (u := .int .i64 0) (by go_simp; done))), (hb2.cell (p := ⟨n0 + 1, 0, none⟩) (by first | omega | (simp; done) | (simp; omega))).trans (by first | (go_simp; done) | (go_simp; exact set_same (u := .int .i64 0) (by go_simp; done))), (hb2.cell (p := ⟨n0 + 1, 1, none⟩) (by first | omega | (simp; done) | (simp; omega))).trans (by first | (go_simp; done) | (go_simp; exact set_same (u := .int .i64 0) (by go_simp; done)))⟩
  have q2_0 : n0 < v2.heap.size := by first | omega | (simp at *; omega)
  have q2_1 : n0 + 1 < v2.heap.size := by first | omega | (simp at *; omega)
  have HB2 := Lib.hid hB2_0
  have HC2 := Lib.hid hB2_1
  have y2 := hB2_0.size
  clear hb2 hB2_0 hB2_1 g1_0 g1_1 g1_2 g1_3 q1_0 q1_1
  go_wp2_with fail
  refine (Time_H ka kc la lc _ (HS.out _ (by repeat (first | exact Below.refl _ _ | with_reducible exact HB2.out | (refine Below.alloc ?_ (by first | omega | (simp; omega) | simp) _) | (refine Below.setCell ?_ (by first | omega | (simp; omega) | simp) _) | refine Below.drew ?_)))).mono ?_
  rintro e v3 ⟨rfl, hb3⟩
  have hB3_0 : Below W0.heap.size W0 v3 := below_via (Lib.hid hb3) (by first | omega | (simp; done) | (simp; omega)) (by repeat (first | exact Below.refl _ _ | with_reducible exact HB2.out | (refine Below.alloc ?_ (by first | omega | (simp; omega) | simp) _) | (refine Below.setCell ?_ (by first | omega | (simp; omega) | simp) _) | refine Below.drew ?_))
  have hB3_1 : Below v1.heap.size v1 v3 := below_via (Lib.hid hb3) (by first | omega | (simp; done) | (simp; omega)) (by repeat (first | exact Below.refl _ _ | with_reducible exact HC2.out | (refine Below.alloc ?_ (by first | omega | (simp; omega) | simp) _) | (refine Below.setCell ?_ (by first | omega | (simp; omega) | simp) _) | refine Below.drew ?_))
  have z3 := hb3.size
  (try simp at z3)
  obtain ⟨g3_0, g3_1, g3_2, g3_3⟩ : v3.cell? ⟨n0, 0, none⟩ = some (.slice ka 6 kc) ∧ v3.cell? ⟨n0, 1, none⟩ = some (.slice la 2 lc) ∧ v3.cell? ⟨n0 + 1, 0, none⟩ = some (.slice pa 6 pc) ∧ v3.cell? ⟨n0 + 1, 1, none⟩ = some (.slice qa 2 qc) :=
    ⟨(hb3.cell (p := ⟨n0, 0, none⟩) (by first | omega | (simp; done) | (simp; omega))).trans (by first | (go_simp; done) | (go_simp; exact set_same (u := .int .i64 0) (by go_simp; done))), (hb3.cell (p := ⟨n0, 1, none⟩) (by first | omega | (simp; done) | (simp; omega))).trans (by first | (go_simp; done) | (go_simp; exact set_same (u := .int .i64 0) (by go_simp; done))), (hb3.cell (p := ⟨n0 + 1, 0, none⟩) (by first | omega | (simp; done) | (simp; omega))).trans (by first | (go_simp; done) | (go_simp; exact set_same (u := .int .i64 0) (by go_simp; done))), (hb3.cell (p := ⟨n0 + 1, 1, none⟩) (by first | omega | (simp; done) | (simp; omega))).trans (by first | (go_simp; done) | (go_simp; exact set_same (u := .int .i64 0) (by go_simp; done)))⟩
  have q3_0 : n0 < v3.heap.size := by first | omega | (simp at *; omega)
  have q3_1 : n0 + 1 < v3.heap.size := by first | omega | (simp at *; omega)
  have HB3 := Lib.hid hB3_0
  have HC3 := Lib.hid hB3_1
  have y3 := hB3_0.size
  clear hb3 hB3_0 hB3_1 g2_0 g2_1 g2_2 g2_3 q2_0 q2_1
  go_wp2_with fail
  refine (Mixed_H ka kc la lc (some ⟨v3.heap.size + 1, 0, none⟩) 2 _ (HS.out _ (by repeat (first | exact Below.refl _ _ | with_reducible exact HB3.out | (refine Below.alloc ?_ (by first | omega | (simp; omega) | simp) _) | (refine Below.setCell ?_ (by first | omega | (simp; omega) | simp) _) | refine Below.drew ?_))) (ints2a _ _ _ _ (by simp))).mono ?_
  rintro e v4 ⟨⟨am, cm, rfl, hm⟩, hb4⟩
  have hB4_0 : Below W0.heap.size W0 v4 := below_via (Lib.hid hb4) (by first | omega | (simp; done) | (simp; omega)) (by repeat (first | exact Below.refl _ _ | with_reducible exact HB3.out | (refine Below.alloc ?_ (by first | omega | (simp; omega) | simp) _) | (refine Below.setCell ?_ (by first | omega | (simp; omega) | simp) _) | refine Below.drew ?_))
  have hB4_1 : Below v1.heap.size v1 v4 := below_via (Lib.hid hb4) (by first | omega | (simp; done) | (simp; omega)) (by repeat (first | exact Below.refl _ _ | with_reducible exact HC3.out | (refine Below.alloc ?_ (by first | omega | (simp; omega) | simp) _) | (refine Below.setCell ?_ (by first | omega | (simp; omega) | simp) _) | refine Below.drew ?_))
  have z4 := hb4.size
  (try simp at z4)
  obtain ⟨g4_0, g4_1, g4_2, g4_3, g4_4, g4_5⟩ : v4.cell? ⟨n0, 0, none⟩ = some (.slice ka 6 kc) ∧ v4.cell? ⟨n0, 1, none⟩ = some (.slice la 2 lc) ∧ v4.cell? ⟨n0 + 1, 0, none⟩ = some (.slice pa 6 pc) ∧ v4.cell? ⟨n0 + 1, 1, none⟩ = some (.slice qa 2 qc) ∧ v4.cell? ⟨v3.heap.size, 0, none⟩ = some (.int .i64 20) ∧ v4.cell? ⟨v3.heap.size, 1, none⟩ = some (.int .i64 99) :=
    ⟨(hb4.cell (p := ⟨n0, 0, none⟩) (by first | omega | (simp; done) | (simp; omega))).trans (by first | (go_simp; done) | (go_simp; exact set_same (u := .int .i64 0) (by go_simp; done))), (hb4.cell (p := ⟨n0, 1, none⟩) (by first | omega | (simp; done) | (simp; omega))).trans (by first | (go_simp; done) | (go_simp; exact set_same (u := .int .i64 0) (by go_simp; done))), (hb4.cell (p := ⟨n0 + 1, 0, none⟩) (by first | omega | (simp; done) | (simp; omega))).trans (by first | (go_simp; done) | (go_simp; exact set_same (u := .int .i64 0) (by go_simp; done))), (hb4.cell (p := ⟨n0 + 1, 1, none⟩) (by first | omega | (simp; done) | (simp; omega))).trans (by first | (go_simp; done) | (go_simp; exact set_same (u := .int .i64 0) (by go_simp; done))), (hb4.cell (p := ⟨v3.heap.size, 0, none⟩) (by first | omega | (simp; done) | (simp; omega))).trans (by first | (go_simp; done) | (go_simp; exact set_same (u := .int .i64 0) (by go_simp; done))), (hb4.cell (p := ⟨v3.heap.size, 1, none⟩) (by first | omega | (simp; done) | (simp; omega))).trans (by first | (go_simp; done) | (go_simp; exact set_same (u := .int .i64 0) (by go_simp; done)))⟩
  have q4_0 : n0 < v4.heap.size := by first | omega | (simp at *; omega)
  have q4_1 : n0 + 1 < v4.heap.size := by first | omega | (simp at *; omega)
  have q4_2 : v3.heap.size < v4.heap.size := by first | omega | (simp at *; omega)
  have HB4 := Lib.hid hB4_0
  have HC4 := Lib.hid hB4_1
  have y4 := hB4_0.size
  clear hb4 hB4_0 hB4_1 g3_0 g3_1 g3_2 g3_3 q3_0 q3_1
  have HM := Lib.hid hm
  clear hm
  go_wp2_with fail
  refine (Cheap_G pa pc qa qc _ (HT.out _ (by repeat (first | exact Below.refl _ _ | with_reducible exact HB4.out | (refine Below.alloc ?_ (by first | omega | (simp; omega) | simp) _) | (refine Below.setCell ?_ (by first | omega | (simp; omega) | simp) _) | refine Below.drew ?_)))).mono ?_
  rintro e v5 ⟨⟨q, rfl, rfl⟩, hb5⟩
  have hB5_0 : Below W0.heap.size W0 v5 := below_via (Lib.hid hb5) (by first | omega | (simp; done) | (simp; omega)) (by repeat (first | exact Below.refl _ _ | with_reducible exact HB4.out | (refine Below.alloc ?_ (by first | omega | (simp; omega) | simp) _) | (refine Below.setCell ?_ (by first | omega | (simp; omega) | simp) _) | refine Below.drew ?_))
  have hB5_1 : Below v1.heap.size v1 v5 := below_via (Lib.hid hb5) (by first | omega | (simp; done) | (simp; omega)) (by repeat (first | exact Below.refl _ _ | with_reducible exact HC4.out | (refine Below.alloc ?_ (by first | omega | (simp; omega) | simp) _) | (refine Below.setCell ?_ (by first | omega | (simp; omega) | simp) _) | refine Below.drew ?_))
  have hB5_2 : Below v4.heap.size v4 v5 := below_via (Lib.hid hb5) (by first | omega | (simp; done) | (simp; omega)) (by repeat (first | exact Below.refl _ _ | (refine Below.alloc ?_ (by first | omega | (simp; omega) | simp) _) | (refine Below.setCell ?_ (by first | omega | (simp; omega) | simp) _) | refine Below.drew ?_))
  have z5 := hb5.size
  (try simp at z5)
  obtain ⟨g5_0, g5_1, g5_2, g5_3, g5_4, g5_5⟩ : v5.cell? ⟨n0, 0, none⟩ = some (.slice ka 6 kc) ∧ v5.cell? ⟨n0, 1, none⟩ = some (.slice la 2 lc) ∧ v5.cell? ⟨n0 + 1, 0, none⟩ = some (.slice pa 6 pc) ∧ v5.cell? ⟨n0 + 1, 1, none⟩ = some (.slice qa 2 qc) ∧ v5.cell? ⟨v3.heap.size, 0, none⟩ = some (.int .i64 20) ∧ v5.cell? ⟨v3.heap.size, 1, none⟩ = some (.int .i64 99) :=
    ⟨(hb5.cell (p := ⟨n0, 0, none⟩) (by first | omega | (simp; done) | (simp; omega))).trans (by first | (go_simp; done) | (go_simp; exact set_same (u := .int .i64 0) (by go_simp; done))), (hb5.cell (p := ⟨n0, 1, none⟩) (by first | omega | (simp; done) | (simp; omega))).trans (by first | (go_simp; done) | (go_simp; exact set_same (u := .int .i64 0) (by go_simp; done))), (hb5.cell (p := ⟨n0 + 1, 0, none⟩) (by first | omega | (simp; done) | (simp; omega))).trans (by first | (go_simp; done) | (go_simp; exact set_same (u := .int .i64 0) (by go_simp; done))), (hb5.cell (p := ⟨n0 + 1, 1, none⟩) (by first | omega | (simp; done) | (simp; omega))).trans (by first | (go_simp; done) | (go_simp; exact set_same (u := .int .i64 0) (by go_simp; done))), (hb5.cell (p := ⟨v3.heap.size, 0, none⟩) (by first | omega | (simp; done) | (simp; omega))).trans (by first | (go_simp; done) | (go_simp; exact set_same (u := .int .i64 0) (by go_simp; done))), (hb5.cell (p := ⟨v3.heap.size, 1, none⟩) (by first | omega | (simp; done) | (simp; omega))).trans (by first | (go_simp; done) | (go_simp; exact set_same (u := .int .i64 0) (by go_simp; done)))⟩
  have q5_0 : n0 < v5.heap.size := by first | omega | (simp at *; omega)
  have q5_1 : n0 + 1 < v5.heap.size := by first | omega | (simp at *; omega)
  have q5_2 : v3.heap.size < v5.heap.size := by first | omega | (simp at *; omega)
  have HB5 := Lib.hid hB5_0
  have HC5 := Lib.hid hB5_1
  have HD5 := Lib.hid hB5_2
  have y5 := hB5_0.size
  clear hb5 hB5_0 hB5_1 hB5_2 g4_0 g4_1 g4_2 g4_3 g4_4 g4_5 q4_0 q4_1 q4_2
  go_wp2_with fail
  refine (Remedy_H ka kc la lc _ (HS.out _ (by repeat (first | exact Below.refl _ _ | with_reducible exact HB5.out | (refine Below.alloc ?_ (by first | omega | (simp; omega) | simp) _) | (refine Below.setCell ?_ (by first | omega | (simp; omega) | simp) _) | refine Below.drew ?_)))).mono ?_
  rintro e v6 ⟨⟨ar, cr, rfl, hr⟩, hb6⟩
  have hB6_0 : Below W0.heap.size W0 v6 := below_via (Lib.hid hb6) (by first | omega | (simp; done) | (simp; omega)) (by repeat (first | exact Below.refl _ _ | with_reducible exact HB5.out | (refine Below.alloc ?_ (by first | omega | (simp; omega) | simp) _) | (refine Below.setCell ?_ (by first | omega | (simp; omega) | simp) _) | refine Below.drew ?_))
  have hB6_1 : Below v1.heap.size v1 v6 := below_via (Lib.hid hb6) (by first | omega | (simp; done) | (simp; omega)) (by repeat (first | exact Below.refl _ _ | with_reducible exact HC5.out | (refine Below.alloc ?_ (by first | omega | (simp; omega) | simp) _) | (refine Below.setCell ?_ (by first | omega | (simp; omega) | simp) _) | refine Below.drew ?_))
  have hB6_2 : Below v4.heap.size v4 v6 := below_via (Lib.hid hb6) (by first | omega | (simp; done) | (simp; omega)) (by repeat (first | exact Below.refl _ _ | with_reducible exact HD5.out | (refine Below.alloc ?_ (by first | omega | (simp; omega) | simp) _) | (refine Below.setCell ?_ (by first | omega | (simp; omega) | simp) _) | refine Below.drew ?_))
  have z6 := hb6.size
  (try simp at z6)
  obtain ⟨g6_0, g6_1, g6_2, g6_3, g6_4, g6_5⟩ : v6.cell? ⟨n0, 0, none⟩ = some (.slice ka 6 kc) ∧ v6.cell? ⟨n0, 1, none⟩ = some (.slice la 2 lc) ∧ v6.cell? ⟨n0 + 1, 0, none⟩ = some (.slice pa 6 pc) ∧ v6.cell? ⟨n0 + 1, 1, none⟩ = some (.slice qa 2 qc) ∧ v6.cell? ⟨v3.heap.size, 0, none⟩ = some (.int .i64 20) ∧ v6.cell? ⟨v3.heap.size, 1, none⟩ = some (.int .i64 99) :=
    ⟨(hb6.cell (p := ⟨n0, 0, none⟩) (by first | omega | (simp; done) | (simp; omega))).trans (by first | (go_simp; done) | (go_simp; exact set_same (u := .int .i64 0) (by go_simp; done))), (hb6.cell (p := ⟨n0, 1, none⟩) (by first | omega | (simp; done) | (simp; omega))).trans (by first | (go_simp; done) | (go_simp; exact set_same (u := .int .i64 0) (by go_simp; done))), (hb6.cell (p := ⟨n0 + 1, 0, none⟩) (by first | omega | (simp; done) | (simp; omega))).trans (by first | (go_simp; done) | (go_simp; exact set_same (u := .int .i64 0) (by go_simp; done))), (hb6.cell (p := ⟨n0 + 1, 1, none⟩) (by first | omega | (simp; done) | (simp; omega))).trans (by first | (go_simp; done) | (go_simp; exact set_same (u := .int .i64 0) (by go_simp; done))), (hb6.cell (p := ⟨v3.heap.size, 0, none⟩) (by first | omega | (simp; done) | (simp; omega))).trans (by first | (go_simp; done) | (go_simp; exact set_same (u := .int .i64 0) (by go_simp; done))), (hb6.cell (p := ⟨v3.heap.size, 1, none⟩) (by first | omega | (simp; done) | (simp; omega))).trans (by first | (go_simp; done) | (go_simp; exact set_same (u := .int .i64 0) (by go_simp; done)))⟩
  have q6_0 : n0 < v6.heap.size := by first | omega | (simp at *; omega)
  have q6_1 : n0 + 1 < v6.heap.size := by first | omega | (simp at *; omega)
  have q6_2 : v3.heap.size < v6.heap.size := by first | omega | (simp at *; omega)
  have HB6 := Lib.hid hB6_0
  have HC6 := Lib.hid hB6_1
  have HD6 := Lib.hid hB6_2
  have y6 := hB6_0.size
  clear hb6 hB6_0 hB6_1 hB6_2 g5_0 g5_1 g5_2 g5_3 g5_4 g5_5 q5_0 q5_1 q5_2
  have HR := Lib.hid hr
  clear hr
  have HSI := Lib.hid (fun W (a : Option Addr) (c : Nat) (x : List Int) (ya : Option Addr) (yc : Nat) (hx : IntsAt W a 2 x) (hy : IntsAt W ya 2 x) => show Calls Try.prog 31 #[.slice a 2 c, .slice ya 2 yc] W fun e w' => e = .returned (.bool true) ∧ Below W.heap.size W w' from by
    have h := SameInts_any a 2 c ya 2 yc x x W hx hy
    rw [show sameB x x = true by simp [sameB]] at h
    exact h)
  go_wp2_with fail
  refine (HSI.out _ _ _ [2, 3] _ _ (HL.out.below (by repeat (first | exact Below.refl _ _ | with_reducible exact HC6.out | (refine Below.alloc ?_ (by first | omega | (simp; omega) | simp) _) | (refine Below.setCell ?_ (by first | omega | (simp; omega) | simp) _) | refine Below.drew ?_))) (ints2a _ _ _ _ rfl)).mono ?_
  rintro e v7 ⟨rfl, hb7⟩
  have hB7_0 : Below W0.heap.size W0 v7 := below_via (Lib.hid hb7) (by first | omega | (simp; done) | (simp; omega)) (by repeat (first | exact Below.refl _ _ | with_reducible exact HB6.out | (refine Below.alloc ?_ (by first | omega | (simp; omega) | simp) _) | (refine Below.setCell ?_ (by first | omega | (simp; omega) | simp) _) | refine Below.drew ?_))
  have hB7_1 : Below v1.heap.size v1 v7 := below_via (Lib.hid hb7) (by first | omega | (simp; done) | (simp; omega)) (by repeat (first | exact Below.refl _ _ | with_reducible exact HC6.out | (refine Below.alloc ?_ (by first | omega | (simp; omega) | simp) _) | (refine Below.setCell ?_ (by first | omega | (simp; omega) | simp) _) | refine Below.drew ?_))
  have hB7_2 : Below v4.heap.size v4 v7 := below_via (Lib.hid hb7) (by first | omega | (simp; done) | (simp; omega)) (by repeat (first | exact Below.refl _ _ | with_reducible exact HD6.out | (refine Below.alloc ?_ (by first | omega | (simp; omega) | simp) _) | (refine Below.setCell ?_ (by first | omega | (simp; omega) | simp) _) | refine Below.drew ?_))
  have hB7_3 : Below v6.heap.size v6 v7 := below_via (Lib.hid hb7) (by first | omega | (simp; done) | (simp; omega)) (by repeat (first | exact Below.refl _ _ | (refine Below.alloc ?_ (by first | omega | (simp; omega) | simp) _) | (refine Below.setCell ?_ (by first | omega | (simp; omega) | simp) _) | refine Below.drew ?_))
  have z7 := hb7.size
  (try simp at z7)
  obtain ⟨g7_0, g7_1, g7_2, g7_3, g7_4, g7_5⟩ : v7.cell? ⟨n0, 0, none⟩ = some (.slice ka 6 kc) ∧ v7.cell? ⟨n0, 1, none⟩ = some (.slice la 2 lc) ∧ v7.cell? ⟨n0 + 1, 0, none⟩ = some (.slice pa 6 pc) ∧ v7.cell? ⟨n0 + 1, 1, none⟩ = some (.slice qa 2 qc) ∧ v7.cell? ⟨v3.heap.size, 0, none⟩ = some (.int .i64 20) ∧ v7.cell? ⟨v3.heap.size, 1, none⟩ = some (.int .i64 99) :=
    ⟨(hb7.cell (p := ⟨n0, 0, none⟩) (by first | omega | (simp; done) | (simp; omega))).trans (by first | (go_simp; done) | (go_simp; exact set_same (u := .int .i64 0) (by go_simp; done))), (hb7.cell (p := ⟨n0, 1, none⟩) (by first | omega | (simp; done) | (simp; omega))).trans (by first | (go_simp; done) | (go_simp; exact set_same (u := .int .i64 0) (by go_simp; done))), (hb7.cell (p := ⟨n0 + 1, 0, none⟩) (by first | omega | (simp; done) | (simp; omega))).trans (by first | (go_simp; done) | (go_simp; exact set_same (u := .int .i64 0) (by go_simp; done))), (hb7.cell (p := ⟨n0 + 1, 1, none⟩) (by first | omega | (simp; done) | (simp; omega))).trans (by first | (go_simp; done) | (go_simp; exact set_same (u := .int .i64 0) (by go_simp; done))), (hb7.cell (p := ⟨v3.heap.size, 0, none⟩) (by first | omega | (simp; done) | (simp; omega))).trans (by first | (go_simp; done) | (go_simp; exact set_same (u := .int .i64 0) (by go_simp; done))), (hb7.cell (p := ⟨v3.heap.size, 1, none⟩) (by first | omega | (simp; done) | (simp; omega))).trans (by first | (go_simp; done) | (go_simp; exact set_same (u := .int .i64 0) (by go_simp; done)))⟩
  have q7_0 : n0 < v7.heap.size := by first | omega | (simp at *; omega)
  have q7_1 : n0 + 1 < v7.heap.size := by first | omega | (simp at *; omega)
  have q7_2 : v3.heap.size < v7.heap.size := by first | omega | (simp at *; omega)
  have HB7 := Lib.hid hB7_0
  have HC7 := Lib.hid hB7_1
  have HD7 := Lib.hid hB7_2
  have HF7 := Lib.hid hB7_3
  have y7 := hB7_0.size
  clear hb7 hB7_0 hB7_1 hB7_2 hB7_3 g6_0 g6_1 g6_2 g6_3 g6_4 g6_5 q6_0 q6_1 q6_2
  go_wp2_with fail
  refine (HSI.out _ _ _ [0, 1] _ _ (HM.out.below (by repeat (first | exact Below.refl _ _ | with_reducible exact HD7.out | (refine Below.alloc ?_ (by first | omega | (simp; omega) | simp) _) | (refine Below.setCell ?_ (by first | omega | (simp; omega) | simp) _) | refine Below.drew ?_))) (ints2a _ _ _ _ rfl)).mono ?_
  rintro e v8 ⟨rfl, hb8⟩
  have hB8_0 : Below W0.heap.size W0 v8 := below_via (Lib.hid hb8) (by first | omega | (simp; done) | (simp; omega)) (by repeat (first | exact Below.refl _ _ | with_reducible exact HB7.out | (refine Below.alloc ?_ (by first | omega | (simp; omega) | simp) _) | (refine Below.setCell ?_ (by first | omega | (simp; omega) | simp) _) | refine Below.drew ?_))
  have hB8_1 : Below v1.heap.size v1 v8 := below_via (Lib.hid hb8) (by first | omega | (simp; done) | (simp; omega)) (by repeat (first | exact Below.refl _ _ | with_reducible exact HC7.out | (refine Below.alloc ?_ (by first | omega | (simp; omega) | simp) _) | (refine Below.setCell ?_ (by first | omega | (simp; omega) | simp) _) | refine Below.drew ?_))
  have hB8_2 : Below v4.heap.size v4 v8 := below_via (Lib.hid hb8) (by first | omega | (simp; done) | (simp; omega)) (by repeat (first | exact Below.refl _ _ | with_reducible exact HD7.out | (refine Below.alloc ?_ (by first | omega | (simp; omega) | simp) _) | (refine Below.setCell ?_ (by first | omega | (simp; omega) | simp) _) | refine Below.drew ?_))
  have hB8_3 : Below v6.heap.size v6 v8 := below_via (Lib.hid hb8) (by first | omega | (simp; done) | (simp; omega)) (by repeat (first | exact Below.refl _ _ | with_reducible exact HF7.out | (refine Below.alloc ?_ (by first | omega | (simp; omega) | simp) _) | (refine Below.setCell ?_ (by first | omega | (simp; omega) | simp) _) | refine Below.drew ?_))
  have z8 := hb8.size
  (try simp at z8)
  obtain ⟨g8_0, g8_1, g8_2, g8_3, g8_4, g8_5⟩ : v8.cell? ⟨n0, 0, none⟩ = some (.slice ka 6 kc) ∧ v8.cell? ⟨n0, 1, none⟩ = some (.slice la 2 lc) ∧ v8.cell? ⟨n0 + 1, 0, none⟩ = some (.slice pa 6 pc) ∧ v8.cell? ⟨n0 + 1, 1, none⟩ = some (.slice qa 2 qc) ∧ v8.cell? ⟨v3.heap.size, 0, none⟩ = some (.int .i64 20) ∧ v8.cell? ⟨v3.heap.size, 1, none⟩ = some (.int .i64 99) :=
    ⟨(hb8.cell (p := ⟨n0, 0, none⟩) (by first | omega | (simp; done) | (simp; omega))).trans (by first | (go_simp; done) | (go_simp; exact set_same (u := .int .i64 0) (by go_simp; done))), (hb8.cell (p := ⟨n0, 1, none⟩) (by first | omega | (simp; done) | (simp; omega))).trans (by first | (go_simp; done) | (go_simp; exact set_same (u := .int .i64 0) (by go_simp; done))), (hb8.cell (p := ⟨n0 + 1, 0, none⟩) (by first | omega | (simp; done) | (simp; omega))).trans (by first | (go_simp; done) | (go_simp; exact set_same (u := .int .i64 0) (by go_simp; done))), (hb8.cell (p := ⟨n0 + 1, 1, none⟩) (by first | omega | (simp; done) | (simp; omega))).trans (by first | (go_simp; done) | (go_simp; exact set_same (u := .int .i64 0) (by go_simp; done))), (hb8.cell (p := ⟨v3.heap.size, 0, none⟩) (by first | omega | (simp; done) | (simp; omega))).trans (by first | (go_simp; done) | (go_simp; exact set_same (u := .int .i64 0) (by go_simp; done))), (hb8.cell (p := ⟨v3.heap.size, 1, none⟩) (by first | omega | (simp; done) | (simp; omega))).trans (by first | (go_simp; done) | (go_simp; exact set_same (u := .int .i64 0) (by go_simp; done)))⟩
  have q8_0 : n0 < v8.heap.size := by first | omega | (simp at *; omega)
  have q8_1 : n0 + 1 < v8.heap.size := by first | omega | (simp at *; omega)
  have q8_2 : v3.heap.size < v8.heap.size := by first | omega | (simp at *; omega)
  have HB8 := Lib.hid hB8_0
  have HC8 := Lib.hid hB8_1
  have HD8 := Lib.hid hB8_2
  have HF8 := Lib.hid hB8_3
  have y8 := hB8_0.size
  clear hb8 hB8_0 hB8_1 hB8_2 hB8_3 g7_0 g7_1 g7_2 g7_3 g7_4 g7_5 q7_0 q7_1 q7_2
  go_wp2_with fail
  refine (HSI.out _ _ _ [2, 5] _ _ (HR.out.below (by repeat (first | exact Below.refl _ _ | with_reducible exact HF8.out | (refine Below.alloc ?_ (by first | omega | (simp; omega) | simp) _) | (refine Below.setCell ?_ (by first | omega | (simp; omega) | simp) _) | refine Below.drew ?_))) (ints2a _ _ _ _ rfl)).mono ?_
  rintro e v9 ⟨rfl, hb9⟩
  have hB9_0 : Below W0.heap.size W0 v9 := below_via (Lib.hid hb9) (by first | omega | (simp; done) | (simp; omega)) (by repeat (first | exact Below.refl _ _ | with_reducible exact HB8.out | (refine Below.alloc ?_ (by first | omega | (simp; omega) | simp) _) | (refine Below.setCell ?_ (by first | omega | (simp; omega) | simp) _) | refine Below.drew ?_))
  have hB9_1 : Below v1.heap.size v1 v9 := below_via (Lib.hid hb9) (by first | omega | (simp; done) | (simp; omega)) (by repeat (first | exact Below.refl _ _ | with_reducible exact HC8.out | (refine Below.alloc ?_ (by first | omega | (simp; omega) | simp) _) | (refine Below.setCell ?_ (by first | omega | (simp; omega) | simp) _) | refine Below.drew ?_))
  have hB9_2 : Below v4.heap.size v4 v9 := below_via (Lib.hid hb9) (by first | omega | (simp; done) | (simp; omega)) (by repeat (first | exact Below.refl _ _ | with_reducible exact HD8.out | (refine Below.alloc ?_ (by first | omega | (simp; omega) | simp) _) | (refine Below.setCell ?_ (by first | omega | (simp; omega) | simp) _) | refine Below.drew ?_))
  have hB9_3 : Below v6.heap.size v6 v9 := below_via (Lib.hid hb9) (by first | omega | (simp; done) | (simp; omega)) (by repeat (first | exact Below.refl _ _ | with_reducible exact HF8.out | (refine Below.alloc ?_ (by first | omega | (simp; omega) | simp) _) | (refine Below.setCell ?_ (by first | omega | (simp; omega) | simp) _) | refine Below.drew ?_))
  have z9 := hb9.size
  (try simp at z9)
  have HB9 := Lib.hid hB9_0
  have HC9 := Lib.hid hB9_1
  have HD9 := Lib.hid hB9_2
  have HF9 := Lib.hid hB9_3
  have y9 := hB9_0.size
  clear hb9 hB9_0 hB9_1 hB9_2 hB9_3 g8_0 g8_1 g8_2 g8_3 g8_4 g8_5 q8_0 q8_1 q8_2
  go_wp2_with fail
  go_ret
  exact ⟨rfl, HBW.out.trans (Below.mono (by repeat (first | exact Below.refl _ _ | with_reducible exact HB9.out | (refine Below.alloc ?_ (by first | omega | (simp; omega) | simp) _) | (refine Below.setCell ?_ (by first | omega | (simp; omega) | simp) _) | refine Below.drew ?_)) HBW.out.size)⟩
end Go.Proofs.Ytedfdhpggghjeaa
