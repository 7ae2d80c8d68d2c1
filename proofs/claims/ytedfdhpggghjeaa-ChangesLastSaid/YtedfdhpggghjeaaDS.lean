/- The laws of changes: cheap; ChangesDearer. -/
import Derived.Test.YtedfdhpggghjeaaDP
import Derived.Test.YtedfdhpggghjeaaDQ
namespace Go.Proofs.Ytedfdhpggghjeaa
set_option linter.unusedVariables false
set_option linter.unusedSimpArgs false
open Go.RowKit Go.Shelf

theorem leastR_bd {h : CHouse} (ho : h.ok = true) (c now : Int) : 0 ≤ h.cost (h.leastR c now) ∧ h.cost (h.leastR c now) ≤ 1000 := by
  have h8 := (CHouse.ok_few ho).1
  have := costTo_bd (CHouse.ok_T ho) (h.leastR c now) h.things.length
  unfold CHouse.cost
  omega

set_option maxRecDepth 100000 in
set_option maxHeartbeats 16000000 in
theorem lawCheap_yes (h : CHouse) (ta : Option Addr) (tl tc : Nat) (ma : Option Addr) (ml mc : Nat) (ho : h.ok = true) (c now : Int) (hc : btw c 0 2 = true) (hm : btw now 0 99 = true) (w : World) (hp : HAt w ta tl tc ma ml mc h) :
    Calls Try.prog 49 #[.agg #[.slice ta tl tc, .slice ma ml mc], .int .i64 c, .int .i64 now] w fun e w' => e = .returned (.int .i64 (h.cost (h.leastR c now))) ∧ Below w.heap.size w w' := by
  have HH := Lib.hid (fun W (hb : Below w.heap.size w W) => Cheap_yes h ta tl tc ma ml mc ho c now hc hm W (hp.below hb))
  obtain ⟨hb0, hb1⟩ := leastR_bd ho c now
  clear hp
  generalize h.cost (h.leastR c now) = q at *
  go_enter Try.func49, Try.ntmps49
  go_wp2_with fail
  obtain ⟨W0, hW0, hB0, ⟨g0_0, g0_1⟩, hz0⟩ : ∃ W0, (w.alloc (.cells #[.slice ta tl tc, .slice ma ml mc] 25)) = W0 ∧ Below w.heap.size w W0 ∧ (W0.cell? ⟨w.heap.size, 0, none⟩ = some (.slice ta tl tc) ∧ W0.cell? ⟨w.heap.size, 1, none⟩ = some (.slice ma ml mc)) ∧ W0.heap.size = w.heap.size + 1 :=
    ⟨_, rfl, (by repeat (first | exact Below.refl _ _ | (refine Below.alloc ?_ (by first | omega | (simp; omega) | simp) _) | (refine Below.setCell ?_ (by first | omega | (simp; omega) | simp) _) | refine Below.drew ?_)), ⟨by go_simp, by go_simp⟩, by simp⟩
  rw [hW0]
  clear hW0
  have HBW := Lib.hid hB0
  have q0_0 : w.heap.size < W0.heap.size := by omega
  clear hB0 hz0
  go_wp2_with fail
  refine (HH.out _ (HBW.out.trans (Below.mono (by repeat (first | exact Below.refl _ _ | (refine Below.alloc ?_ (by first | omega | (simp; omega) | simp) _) | (refine Below.setCell ?_ (by first | omega | (simp; omega) | simp) _) | refine Below.drew ?_)) HBW.out.size))).mono ?_
  rintro e v1 ⟨⟨_, rfl, rfl⟩, hv1⟩
  have HV1 := Lib.hid (HBW.out.trans ((below_via (Lib.hid hv1) (by first | omega | (simp; done) | (simp; omega)) (by repeat (first | exact Below.refl _ _ | (refine Below.alloc ?_ (by first | omega | (simp; omega) | simp) _) | (refine Below.setCell ?_ (by first | omega | (simp; omega) | simp) _) | refine Below.drew ?_)) : Below W0.heap.size W0 v1).mono HBW.out.size))
  clear hv1 g0_0 g0_1 q0_0
  go_wp2_with fail
  go_ret
  exact ⟨rfl, HV1.out⟩
set_option maxRecDepth 100000 in
set_option maxHeartbeats 16000000 in
theorem ChangesDearer_any (h : CHouse) (ta : Option Addr) (tl tc : Nat) (ma : Option Addr) (ml mc : Nat) (xt xc xm : Int) (dc dm : Int) (w : World) (hp : HAt w ta tl tc ma ml mc h) :
    Calls Try.prog 9 #[.agg #[.slice ta tl tc, .slice ma ml mc], .agg #[.int .i64 xt, .int .i64 xc, .int .i64 xm], .agg #[.int .i64 dc, .int .i64 dm]] w fun e w' => e = .returned (.bool true) ∧ Below w.heap.size w w' := by
  have HWK := Lib.hid (fun W => works_any W)
  have HRD := Lib.hid (fun b (hb : h.ready = b) W (hw : Below w.heap.size w W) => ready_is h ta tl tc ma ml mc b hb W (hp.below hw))
  have HAK := Lib.hid (fun b (hb : h.askB xt xc xm = b) W (hw : Below w.heap.size w W) => isAsk_is h ta tl tc ma ml mc xt xc xm b hb W (hp.below hw))
  rcases hr : h.ready with - | -
  · have HR1 := Lib.hid (HRD.out false hr)
    clear hp HRD HAK
    go_enter Try.func9, Try.ntmps9
    go_wp2_with fail
    obtain ⟨W0, hW0, hB0, ⟨g0_0, g0_1, g0_2, g0_3, g0_4, g0_5, g0_6⟩, hz0⟩ : ∃ W0, (((w.alloc (.cells #[.slice ta tl tc, .slice ma ml mc] 25)).alloc (.cells #[.int .i64 xt, .int .i64 xc, .int .i64 xm] 27)).alloc (.cells #[.int .i64 dc, .int .i64 dm] 65)) = W0 ∧ Below w.heap.size w W0 ∧ (W0.cell? ⟨w.heap.size, 0, none⟩ = some (.slice ta tl tc) ∧ W0.cell? ⟨w.heap.size, 1, none⟩ = some (.slice ma ml mc) ∧ W0.cell? ⟨w.heap.size + 1, 0, none⟩ = some (.int .i64 xt) ∧ W0.cell? ⟨w.heap.size + 1, 1, none⟩ = some (.int .i64 xc) ∧ W0.cell? ⟨w.heap.size + 1, 2, none⟩ = some (.int .i64 xm) ∧ W0.cell? ⟨w.heap.size + 1 + 1, 0, none⟩ = some (.int .i64 dc) ∧ W0.cell? ⟨w.heap.size + 1 + 1, 1, none⟩ = some (.int .i64 dm)) ∧ W0.heap.size = w.heap.size + 1 + 1 + 1 :=
      ⟨_, rfl, (by repeat (first | exact Below.refl _ _ | (refine Below.alloc ?_ (by first | omega | (simp; omega) | simp) _) | (refine Below.setCell ?_ (by first | omega | (simp; omega) | simp) _) | refine Below.drew ?_)), ⟨by go_simp, by go_simp, by go_simp, by go_simp, by go_simp, by go_simp, by go_simp⟩, by simp⟩
    rw [hW0]
    clear hW0
    have HBW := Lib.hid hB0
    have q0_0 : w.heap.size < W0.heap.size := by omega
    have q0_1 : w.heap.size + 1 < W0.heap.size := by omega
    have q0_2 : w.heap.size + 1 + 1 < W0.heap.size := by omega
    clear hB0 hz0
    go_wp2_with fail
    refine (HR1.out _ (HBW.out.trans (Below.mono (by repeat (first | exact Below.refl _ _ | (refine Below.alloc ?_ (by first | omega | (simp; omega) | simp) _) | (refine Below.setCell ?_ (by first | omega | (simp; omega) | simp) _) | refine Below.drew ?_)) HBW.out.size))).mono ?_
    rintro e v1 ⟨rfl, hb1⟩
    have hB1_0 : Below W0.heap.size W0 v1 := below_via (Lib.hid hb1) (by first | omega | (simp; done) | (simp; omega)) (by repeat (first | exact Below.refl _ _ | (refine Below.alloc ?_ (by first | omega | (simp; omega) | simp) _) | (refine Below.setCell ?_ (by first | omega | (simp; omega) | simp) _) | refine Below.drew ?_))
    have z1 := hb1.size
    (try simp at z1)
    obtain ⟨g1_0, g1_1, g1_2, g1_3, g1_4, g1_5, g1_6⟩ : v1.cell? ⟨w.heap.size, 0, none⟩ = some (.slice ta tl tc) ∧ v1.cell? ⟨w.heap.size, 1, none⟩ = some (.slice ma ml mc) ∧ v1.cell? ⟨w.heap.size + 1, 0, none⟩ = some (.int .i64 xt) ∧ v1.cell? ⟨w.heap.size + 1, 1, none⟩ = some (.int .i64 xc) ∧ v1.cell? ⟨w.heap.size + 1, 2, none⟩ = some (.int .i64 xm) ∧ v1.cell? ⟨w.heap.size + 1 + 1, 0, none⟩ = some (.int .i64 dc) ∧ v1.cell? ⟨w.heap.size + 1 + 1, 1, none⟩ = some (.int .i64 dm) :=
      ⟨(hb1.cell (p := ⟨w.heap.size, 0, none⟩) (by first | omega | (simp; done) | (simp; omega))).trans (by first | (go_simp; done) | (go_simp; exact set_same (u := .int .i64 0) (by go_simp; done))), (hb1.cell (p := ⟨w.heap.size, 1, none⟩) (by first | omega | (simp; done) | (simp; omega))).trans (by first | (go_simp; done) | (go_simp; exact set_same (u := .int .i64 0) (by go_simp; done))), (hb1.cell (p := ⟨w.heap.size + 1, 0, none⟩) (by first | omega | (simp; done) | (simp; omega))).trans (by first | (go_simp; done) | (go_simp; exact set_same (u := .int .i64 0) (by go_simp; done))), (hb1.cell (p := ⟨w.heap.size + 1, 1, none⟩) (by first | omega | (simp; done) | (simp; omega))).trans (by first | (go_simp; done) | (go_simp; exact set_same (u := .int .i64 0) (by go_simp; done))), (hb1.cell (p := ⟨w.heap.size + 1, 2, none⟩) (by first | omega | (simp; done) | (simp; omega))).trans (by first | (go_simp; done) | (go_simp; exact set_same (u := .int .i64 0) (by go_simp; done))), (hb1.cell (p := ⟨w.heap.size + 1 + 1, 0, none⟩) (by first | omega | (simp; done) | (simp; omega))).trans (by first | (go_simp; done) | (go_simp; exact set_same (u := .int .i64 0) (by go_simp; done))), (hb1.cell (p := ⟨w.heap.size + 1 + 1, 1, none⟩) (by first | omega | (simp; done) | (simp; omega))).trans (by first | (go_simp; done) | (go_simp; exact set_same (u := .int .i64 0) (by go_simp; done)))⟩
    have q1_0 : w.heap.size < v1.heap.size := by first | omega | (simp at *; omega)
    have q1_1 : w.heap.size + 1 < v1.heap.size := by first | omega | (simp at *; omega)
    have q1_2 : w.heap.size + 1 + 1 < v1.heap.size := by first | omega | (simp at *; omega)
    have HB1 := Lib.hid hB1_0
    have y1 := hB1_0.size
    clear hb1 hB1_0 g0_0 g0_1 g0_2 g0_3 g0_4 g0_5 g0_6 q0_0 q0_1 q0_2
    go_wp2_with fail
    refine (HWK.out _).mono ?_
    rintro e v2 ⟨rfl, hb2⟩
    have hB2_0 : Below W0.heap.size W0 v2 := below_via (Lib.hid hb2) (by first | omega | (simp; done) | (simp; omega)) (by repeat (first | exact Below.refl _ _ | with_reducible exact HB1.out | (refine Below.alloc ?_ (by first | omega | (simp; omega) | simp) _) | (refine Below.setCell ?_ (by first | omega | (simp; omega) | simp) _) | refine Below.drew ?_))
    have z2 := hb2.size
    (try simp at z2)
    have HB2 := Lib.hid hB2_0
    have y2 := hB2_0.size
    clear hb2 hB2_0 g1_0 g1_1 g1_2 g1_3 g1_4 g1_5 g1_6 q1_0 q1_1 q1_2
    go_wp2_with fail
    go_ret
    exact ⟨rfl, HBW.out.trans (Below.mono (by repeat (first | exact Below.refl _ _ | with_reducible exact HB2.out | (refine Below.alloc ?_ (by first | omega | (simp; omega) | simp) _) | (refine Below.setCell ?_ (by first | omega | (simp; omega) | simp) _) | refine Below.drew ?_)) HBW.out.size)⟩
  · have HR1 := Lib.hid (HRD.out true hr)
    rcases ha : h.askB xt xc xm with - | -
    · have HA1 := Lib.hid (HAK.out false ha)
      clear hp HRD HAK
      go_enter Try.func9, Try.ntmps9
      go_wp2_with fail
      obtain ⟨W0, hW0, hB0, ⟨g0_0, g0_1, g0_2, g0_3, g0_4, g0_5, g0_6⟩, hz0⟩ : ∃ W0, (((w.alloc (.cells #[.slice ta tl tc, .slice ma ml mc] 25)).alloc (.cells #[.int .i64 xt, .int .i64 xc, .int .i64 xm] 27)).alloc (.cells #[.int .i64 dc, .int .i64 dm] 65)) = W0 ∧ Below w.heap.size w W0 ∧ (W0.cell? ⟨w.heap.size, 0, none⟩ = some (.slice ta tl tc) ∧ W0.cell? ⟨w.heap.size, 1, none⟩ = some (.slice ma ml mc) ∧ W0.cell? ⟨w.heap.size + 1, 0, none⟩ = some (.int .i64 xt) ∧ W0.cell? ⟨w.heap.size + 1, 1, none⟩ = some (.int .i64 xc) ∧ W0.cell? ⟨w.heap.size + 1, 2, none⟩ = some (.int .i64 xm) ∧ W0.cell? ⟨w.heap.size + 1 + 1, 0, none⟩ = some (.int .i64 dc) ∧ W0.cell? ⟨w.heap.size + 1 + 1, 1, none⟩ = some (.int .i64 dm)) ∧ W0.heap.size = w.heap.size + 1 + 1 + 1 :=
        ⟨_, rfl, (by repeat (first | exact Below.refl _ _ | (refine Below.alloc ?_ (by first | omega | (simp; omega) | simp) _) | (refine Below.setCell ?_ (by first | omega | (simp; omega) | simp) _) | refine Below.drew ?_)), ⟨by go_simp, by go_simp, by go_simp, by go_simp, by go_simp, by go_simp, by go_simp⟩, by simp⟩
      rw [hW0]
      clear hW0
      have HBW := Lib.hid hB0
      have q0_0 : w.heap.size < W0.heap.size := by omega
      have q0_1 : w.heap.size + 1 < W0.heap.size := by omega
      have q0_2 : w.heap.size + 1 + 1 < W0.heap.size := by omega
      clear hB0 hz0
      go_wp2_with fail
      refine (HR1.out _ (HBW.out.trans (Below.mono (by repeat (first | exact Below.refl _ _ | (refine Below.alloc ?_ (by first | omega | (simp; omega) | simp) _) | (refine Below.setCell ?_ (by first | omega | (simp; omega) | simp) _) | refine Below.drew ?_)) HBW.out.size))).mono ?_
      rintro e v1 ⟨rfl, hb1⟩
      have hB1_0 : Below W0.heap.size W0 v1 := below_via (Lib.hid hb1) (by first | omega | (simp; done) | (simp; omega)) (by repeat (first | exact Below.refl _ _ | (refine Below.alloc ?_ (by first | omega | (simp; omega) | simp) _) | (refine Below.setCell ?_ (by first | omega | (simp; omega) | simp) _) | refine Below.drew ?_))
      have z1 := hb1.size
      (try simp at z1)
      obtain ⟨g1_0, g1_1, g1_2, g1_3, g1_4, g1_5, g1_6⟩ : v1.cell? ⟨w.heap.size, 0, none⟩ = some (.slice ta tl tc) ∧ v1.cell? ⟨w.heap.size, 1, none⟩ = some (.slice ma ml mc) ∧ v1.cell? ⟨w.heap.size + 1, 0, none⟩ = some (.int .i64 xt) ∧ v1.cell? ⟨w.heap.size + 1, 1, none⟩ = some (.int .i64 xc) ∧ v1.cell? ⟨w.heap.size + 1, 2, none⟩ = some (.int .i64 xm) ∧ v1.cell? ⟨w.heap.size + 1 + 1, 0, none⟩ = some (.int .i64 dc) ∧ v1.cell? ⟨w.heap.size + 1 + 1, 1, none⟩ = some (.int .i64 dm) :=
        ⟨(hb1.cell (p := ⟨w.heap.size, 0, none⟩) (by first | omega | (simp; done) | (simp; omega))).trans (by first | (go_simp; done) | (go_simp; exact set_same (u := .int .i64 0) (by go_simp; done))), (hb1.cell (p := ⟨w.heap.size, 1, none⟩) (by first | omega | (simp; done) | (simp; omega))).trans (by first | (go_simp; done) | (go_simp; exact set_same (u := .int .i64 0) (by go_simp; done))), (hb1.cell (p := ⟨w.heap.size + 1, 0, none⟩) (by first | omega | (simp; done) | (simp; omega))).trans (by first | (go_simp; done) | (go_simp; exact set_same (u := .int .i64 0) (by go_simp; done))), (hb1.cell (p := ⟨w.heap.size + 1, 1, none⟩) (by first | omega | (simp; done) | (simp; omega))).trans (by first | (go_simp; done) | (go_simp; exact set_same (u := .int .i64 0) (by go_simp; done))), (hb1.cell (p := ⟨w.heap.size + 1, 2, none⟩) (by first | omega | (simp; done) | (simp; omega))).trans (by first | (go_simp; done) | (go_simp; exact set_same (u := .int .i64 0) (by go_simp; done))), (hb1.cell (p := ⟨w.heap.size + 1 + 1, 0, none⟩) (by first | omega | (simp; done) | (simp; omega))).trans (by first | (go_simp; done) | (go_simp; exact set_same (u := .int .i64 0) (by go_simp; done))), (hb1.cell (p := ⟨w.heap.size + 1 + 1, 1, none⟩) (by first | omega | (simp; done) | (simp; omega))).trans (by first | (go_simp; done) | (go_simp; exact set_same (u := .int .i64 0) (by go_simp; done)))⟩
      have q1_0 : w.heap.size < v1.heap.size := by first | omega | (simp at *; omega)
      have q1_1 : w.heap.size + 1 < v1.heap.size := by first | omega | (simp at *; omega)
      have q1_2 : w.heap.size + 1 + 1 < v1.heap.size := by first | omega | (simp at *; omega)
      have HB1 := Lib.hid hB1_0
      have y1 := hB1_0.size
      clear hb1 hB1_0 g0_0 g0_1 g0_2 g0_3 g0_4 g0_5 g0_6 q0_0 q0_1 q0_2
      go_wp2_with fail
      refine (HA1.out _ (HBW.out.trans (Below.mono (by repeat (first | exact Below.refl _ _ | with_reducible exact HB1.out | (refine Below.alloc ?_ (by first | omega | (simp; omega) | simp) _) | (refine Below.setCell ?_ (by first | omega | (simp; omega) | simp) _) | refine Below.drew ?_)) HBW.out.size))).mono ?_
      rintro e v2 ⟨rfl, hb2⟩
      have hB2_0 : Below W0.heap.size W0 v2 := below_via (Lib.hid hb2) (by first | omega | (simp; done) | (simp; omega)) (by repeat (first | exact Below.refl _ _ | with_reducible exact HB1.out | (refine Below.alloc ?_ (by first | omega | (simp; omega) | simp) _) | (refine Below.setCell ?_ (by first | omega | (simp; omega) | simp) _) | refine Below.drew ?_))
      have z2 := hb2.size
      (try simp at z2)
      obtain ⟨g2_0, g2_1, g2_2, g2_3, g2_4, g2_5, g2_6⟩ : v2.cell? ⟨w.heap.size, 0, none⟩ = some (.slice ta tl tc) ∧ v2.cell? ⟨w.heap.size, 1, none⟩ = some (.slice ma ml mc) ∧ v2.cell? ⟨w.heap.size + 1, 0, none⟩ = some (.int .i64 xt) ∧ v2.cell? ⟨w.heap.size + 1, 1, none⟩ = some (.int .i64 xc) ∧ v2.cell? ⟨w.heap.size + 1, 2, none⟩ = some (.int .i64 xm) ∧ v2.cell? ⟨w.heap.size + 1 + 1, 0, none⟩ = some (.int .i64 dc) ∧ v2.cell? ⟨w.heap.size + 1 + 1, 1, none⟩ = some (.int .i64 dm) :=
        ⟨(hb2.cell (p := ⟨w.heap.size, 0, none⟩) (by first | omega | (simp; done) | (simp; omega))).trans (by first | (go_simp; done) | (go_simp; exact set_same (u := .int .i64 0) (by go_simp; done))), (hb2.cell (p := ⟨w.heap.size, 1, none⟩) (by first | omega | (simp; done) | (simp; omega))).trans (by first | (go_simp; done) | (go_simp; exact set_same (u := .int .i64 0) (by go_simp; done))), (hb2.cell (p := ⟨w.heap.size + 1, 0, none⟩) (by first | omega | (simp; done) | (simp; omega))).trans (by first | (go_simp; done) | (go_simp; exact set_same (u := .int .i64 0) (by go_simp; done))), (hb2.cell (p := ⟨w.heap.size + 1, 1, none⟩) (by first | omega | (simp; done) | (simp; omega))).trans (by first | (go_simp; done) | (go_simp; exact set_same (u := .int .i64 0) (by go_simp; done))), (hb2.cell (p := ⟨w.heap.size + 1, 2, none⟩) (by first | omega | (simp; done) | (simp; omega))).trans (by first | (go_simp; done) | (go_simp; exact set_same (u := .int .i64 0) (by go_simp; done))), (hb2.cell (p := ⟨w.heap.size + 1 + 1, 0, none⟩) (by first | omega | (simp; done) | (simp; omega))).trans (by first | (go_simp; done) | (go_simp; exact set_same (u := .int .i64 0) (by go_simp; done))), (hb2.cell (p := ⟨w.heap.size + 1 + 1, 1, none⟩) (by first | omega | (simp; done) | (simp; omega))).trans (by first | (go_simp; done) | (go_simp; exact set_same (u := .int .i64 0) (by go_simp; done)))⟩
      have q2_0 : w.heap.size < v2.heap.size := by first | omega | (simp at *; omega)
      have q2_1 : w.heap.size + 1 < v2.heap.size := by first | omega | (simp at *; omega)
      have q2_2 : w.heap.size + 1 + 1 < v2.heap.size := by first | omega | (simp at *; omega)
      have HB2 := Lib.hid hB2_0
      have y2 := hB2_0.size
      clear hb2 hB2_0 g1_0 g1_1 g1_2 g1_3 g1_4 g1_5 g1_6 q1_0 q1_1 q1_2
      go_wp2_with fail
      refine (HWK.out _).mono ?_
      rintro e v3 ⟨rfl, hb3⟩
      have hB3_0 : Below W0.heap.size W0 v3 := below_via (Lib.hid hb3) (by first | omega | (simp; done) | (simp; omega)) (by repeat (first | exact Below.refl _ _ | with_reducible exact HB2.out | (refine Below.alloc ?_ (by first | omega | (simp; omega) | simp) _) | (refine Below.setCell ?_ (by first | omega | (simp; omega) | simp) _) | refine Below.drew ?_))
      have z3 := hb3.size
      (try simp at z3)
      have HB3 := Lib.hid hB3_0
      have y3 := hB3_0.size
      clear hb3 hB3_0 g2_0 g2_1 g2_2 g2_3 g2_4 g2_5 g2_6 q2_0 q2_1 q2_2
      go_wp2_with fail
      go_ret
      exact ⟨rfl, HBW.out.trans (Below.mono (by repeat (first | exact Below.refl _ _ | with_reducible exact HB3.out | (refine Below.alloc ?_ (by first | omega | (simp; omega) | simp) _) | (refine Below.setCell ?_ (by first | omega | (simp; omega) | simp) _) | refine Below.drew ?_)) HBW.out.size)⟩
    · have HA1 := Lib.hid (HAK.out true ha)
      have HW1 := Lib.hid (fun b (hb : btw dc 0 99 = b) W => Within_is dc 0 99 b hb W)
      have HW2 := Lib.hid (fun b (hb : btw dm 0 99 = b) W => Within_is dm 0 99 b hb W)
      rcases h1 : btw dc 0 99 with - | -
      · have HX1 := Lib.hid (HW1.out false h1)
        clear hp HRD HAK
        go_enter Try.func9, Try.ntmps9
        go_wp2_with fail
        obtain ⟨W0, hW0, hB0, ⟨g0_0, g0_1, g0_2, g0_3, g0_4, g0_5, g0_6⟩, hz0⟩ : ∃ W0, (((w.alloc (.cells #[.slice ta tl tc, .slice ma ml mc] 25)).alloc (.cells #[.int .i64 xt, .int .i64 xc, .int .i64 xm] 27)).alloc (.cells #[.int .i64 dc, .int .i64 dm] 65)) = W0 ∧ Below w.heap.size w W0 ∧ (W0.cell? ⟨w.heap.size, 0, none⟩ = some (.slice ta tl tc) ∧ W0.cell? ⟨w.heap.size, 1, none⟩ = some (.slice ma ml mc) ∧ W0.cell? ⟨w.heap.size + 1, 0, none⟩ = some (.int .i64 xt) ∧ W0.cell? ⟨w.heap.size + 1, 1, none⟩ = some (.int .i64 xc) ∧ W0.cell? ⟨w.heap.size + 1, 2, none⟩ = some (.int .i64 xm) ∧ W0.cell? ⟨w.heap.size + 1 + 1, 0, none⟩ = some (.int .i64 dc) ∧ W0.cell? ⟨w.heap.size + 1 + 1, 1, none⟩ = some (.int .i64 dm)) ∧ W0.heap.size = w.heap.size + 1 + 1 + 1 :=
          ⟨_, rfl, (by repeat (first | exact Below.refl _ _ | (refine Below.alloc ?_ (by first | omega | (simp; omega) | simp) _) | (refine Below.setCell ?_ (by first | omega | (simp; omega) | simp) _) | refine Below.drew ?_)), ⟨by go_simp, by go_simp, by go_simp, by go_simp, by go_simp, by go_simp, by go_simp⟩, by simp⟩
        rw [hW0]
        clear hW0
        have HBW := Lib.hid hB0
        have q0_0 : w.heap.size < W0.heap.size := by omega
        have q0_1 : w.heap.size + 1 < W0.heap.size := by omega
        have q0_2 : w.heap.size + 1 + 1 < W0.heap.size := by omega
        clear hB0 hz0
        go_wp2_with fail
        refine (HR1.out _ (HBW.out.trans (Below.mono (by repeat (first | exact Below.refl _ _ | (refine Below.alloc ?_ (by first | omega | (simp; omega) | simp) _) | (refine Below.setCell ?_ (by first | omega | (simp; omega) | simp) _) | refine Below.drew ?_)) HBW.out.size))).mono ?_
        rintro e v1 ⟨rfl, hb1⟩
        have hB1_0 : Below W0.heap.size W0 v1 := below_via (Lib.hid hb1) (by first | omega | (simp; done) | (simp; omega)) (by repeat (first | exact Below.refl _ _ | (refine Below.alloc ?_ (by first | omega | (simp; omega) | simp) _) | (refine Below.setCell ?_ (by first | omega | (simp; omega) | simp) _) | refine Below.drew ?_))
        have z1 := hb1.size
        (try simp at z1)
        obtain ⟨g1_0, g1_1, g1_2, g1_3, g1_4, g1_5, g1_6⟩ : v1.cell? ⟨w.heap.size, 0, none⟩ = some (.slice ta tl tc) ∧ v1.cell? ⟨w.heap.size, 1, none⟩ = some (.slice ma ml mc) ∧ v1.cell? ⟨w.heap.size + 1, 0, none⟩ = some (.int .i64 xt) ∧ v1.cell? ⟨w.heap.size + 1, 1, none⟩ = some (.int .i64 xc) ∧ v1.cell? ⟨w.heap.size + 1, 2, none⟩ = some (.int .i64 xm) ∧ v1.cell? ⟨w.heap.size + 1 + 1, 0, none⟩ = some (.int .i64 dc) ∧ v1.cell? ⟨w.heap.size + 1 + 1, 1, none⟩ = some (.int .i64 dm) :=
          ⟨(hb1.cell (p := ⟨w.heap.size, 0, none⟩) (by first | omega | (simp; done) | (simp; omega))).trans (by first | (go_simp; done) | (go_simp; exact set_same (u := .int .i64 0) (by go_simp; done))), (hb1.cell (p := ⟨w.heap.size, 1, none⟩) (by first | omega | (simp; done) | (simp; omega))).trans (by first | (go_simp; done) | (go_simp; exact set_same (u := .int .i64 0) (by go_simp; done))), (hb1.cell (p := ⟨w.heap.size + 1, 0, none⟩) (by first | omega | (simp; done) | (simp; omega))).trans (by first | (go_simp; done) | (go_simp; exact set_same (u := .int .i64 0) (by go_simp; done))), (hb1.cell (p := ⟨w.heap.size + 1, 1, none⟩) (by first | omega | (simp; done) | (simp; omega))).trans (by first | (go_simp; done) | (go_simp; exact set_same (u := .int .i64 0) (by go_simp; done))), (hb1.cell (p := ⟨w.heap.size + 1, 2, none⟩) (by first | omega | (simp; done) | (simp; omega))).trans (by first | (go_simp; done) | (go_simp; exact set_same (u := .int .i64 0) (by go_simp; done))), (hb1.cell (p := ⟨w.heap.size + 1 + 1, 0, none⟩) (by first | omega | (simp; done) | (simp; omega))).trans (by first | (go_simp; done) | (go_simp; exact set_same (u := .int .i64 0) (by go_simp; done))), (hb1.cell (p := ⟨w.heap.size + 1 + 1, 1, none⟩) (by first | omega | (simp; done) | (simp; omega))).trans (by first | (go_simp; done) | (go_simp; exact set_same (u := .int .i64 0) (by go_simp; done)))⟩
        have q1_0 : w.heap.size < v1.heap.size := by first | omega | (simp at *; omega)
        have q1_1 : w.heap.size + 1 < v1.heap.size := by first | omega | (simp at *; omega)
        have q1_2 : w.heap.size + 1 + 1 < v1.heap.size := by first | omega | (simp at *; omega)
        have HB1 := Lib.hid hB1_0
        have y1 := hB1_0.size
        clear hb1 hB1_0 g0_0 g0_1 g0_2 g0_3 g0_4 g0_5 g0_6 q0_0 q0_1 q0_2
        go_wp2_with fail
        refine (HA1.out _ (HBW.out.trans (Below.mono (by repeat (first | exact Below.refl _ _ | with_reducible exact HB1.out | (refine Below.alloc ?_ (by first | omega | (simp; omega) | simp) _) | (refine Below.setCell ?_ (by first | omega | (simp; omega) | simp) _) | refine Below.drew ?_)) HBW.out.size))).mono ?_
        rintro e v2 ⟨rfl, hb2⟩
        have hB2_0 : Below W0.heap.size W0 v2 := below_via (Lib.hid hb2) (by first | omega | (simp; done) | (simp; omega)) (by repeat (first | exact Below.refl _ _ | with_reducible exact HB1.out | (refine Below.alloc ?_ (by first | omega | (simp; omega) | simp) _) | (refine Below.setCell ?_ (by first | omega | (simp; omega) | simp) _) | refine Below.drew ?_))
        have z2 := hb2.size
        (try simp at z2)
        obtain ⟨g2_0, g2_1, g2_2, g2_3, g2_4, g2_5, g2_6⟩ : v2.cell? ⟨w.heap.size, 0, none⟩ = some (.slice ta tl tc) ∧ v2.cell? ⟨w.heap.size, 1, none⟩ = some (.slice ma ml mc) ∧ v2.cell? ⟨w.heap.size + 1, 0, none⟩ = some (.int .i64 xt) ∧ v2.cell? ⟨w.heap.size + 1, 1, none⟩ = some (.int .i64 xc) ∧ v2.cell? ⟨w.heap.size + 1, 2, none⟩ = some (.int .i64 xm) ∧ v2.cell? ⟨w.heap.size + 1 + 1, 0, none⟩ = some (.int .i64 dc) ∧ v2.cell? ⟨w.heap.size + 1 + 1, 1, none⟩ = some (.int .i64 dm) :=
          ⟨(hb2.cell (p := ⟨w.heap.size, 0, none⟩) (by first | omega | (simp; done) | (simp; omega))).trans (by first | (go_simp; done) | (go_simp; exact set_same (u := .int .i64 0) (by go_simp; done))), (hb2.cell (p := ⟨w.heap.size, 1, none⟩) (by first | omega | (simp; done) | (simp; omega))).trans (by first | (go_simp; done) | (go_simp; exact set_same (u := .int .i64 0) (by go_simp; done))), (hb2.cell (p := ⟨w.heap.size + 1, 0, none⟩) (by first | omega | (simp; done) | (simp; omega))).trans (by first | (go_simp; done) | (go_simp; exact set_same (u := .int .i64 0) (by go_simp; done))), (hb2.cell (p := ⟨w.heap.size + 1, 1, none⟩) (by first | omega | (simp; done) | (simp; omega))).trans (by first | (go_simp; done) | (go_simp; exact set_same (u := .int .i64 0) (by go_simp; done))), (hb2.cell (p := ⟨w.heap.size + 1, 2, none⟩) (by first | omega | (simp; done) | (simp; omega))).trans (by first | (go_simp; done) | (go_simp; exact set_same (u := .int .i64 0) (by go_simp; done))), (hb2.cell (p := ⟨w.heap.size + 1 + 1, 0, none⟩) (by first | omega | (simp; done) | (simp; omega))).trans (by first | (go_simp; done) | (go_simp; exact set_same (u := .int .i64 0) (by go_simp; done))), (hb2.cell (p := ⟨w.heap.size + 1 + 1, 1, none⟩) (by first | omega | (simp; done) | (simp; omega))).trans (by first | (go_simp; done) | (go_simp; exact set_same (u := .int .i64 0) (by go_simp; done)))⟩
        have q2_0 : w.heap.size < v2.heap.size := by first | omega | (simp at *; omega)
        have q2_1 : w.heap.size + 1 < v2.heap.size := by first | omega | (simp at *; omega)
        have q2_2 : w.heap.size + 1 + 1 < v2.heap.size := by first | omega | (simp at *; omega)
        have HB2 := Lib.hid hB2_0
        have y2 := hB2_0.size
        clear hb2 hB2_0 g1_0 g1_1 g1_2 g1_3 g1_4 g1_5 g1_6 q1_0 q1_1 q1_2
        go_wp2_with fail
        refine (HX1.out _).mono ?_
        rintro e v' ⟨rfl, rfl⟩
        go_wp2_with fail
        refine (HWK.out _).mono ?_
        rintro e v3 ⟨rfl, hb3⟩
        have hB3_0 : Below W0.heap.size W0 v3 := below_via (Lib.hid hb3) (by first | omega | (simp; done) | (simp; omega)) (by repeat (first | exact Below.refl _ _ | with_reducible exact HB2.out | (refine Below.alloc ?_ (by first | omega | (simp; omega) | simp) _) | (refine Below.setCell ?_ (by first | omega | (simp; omega) | simp) _) | refine Below.drew ?_))
        have z3 := hb3.size
        (try simp at z3)
        have HB3 := Lib.hid hB3_0
        have y3 := hB3_0.size
        clear hb3 hB3_0 g2_0 g2_1 g2_2 g2_3 g2_4 g2_5 g2_6 q2_0 q2_1 q2_2
        go_wp2_with fail
        go_ret
        exact ⟨rfl, HBW.out.trans (Below.mono (by repeat (first | exact Below.refl _ _ | with_reducible exact HB3.out | (refine Below.alloc ?_ (by first | omega | (simp; omega) | simp) _) | (refine Below.setCell ?_ (by first | omega | (simp; omega) | simp) _) | refine Below.drew ?_)) HBW.out.size)⟩
      · have HX1 := Lib.hid (HW1.out true h1)
        rcases h2 : btw dm 0 99 with - | -
        · have HX2 := Lib.hid (HW2.out false h2)
          clear hp HRD HAK
          go_enter Try.func9, Try.ntmps9
          go_wp2_with fail
          obtain ⟨W0, hW0, hB0, ⟨g0_0, g0_1, g0_2, g0_3, g0_4, g0_5, g0_6⟩, hz0⟩ : ∃ W0, (((w.alloc (.cells #[.slice ta tl tc, .slice ma ml mc] 25)).alloc (.cells #[.int .i64 xt, .int .i64 xc, .int .i64 xm] 27)).alloc (.cells #[.int .i64 dc, .int .i64 dm] 65)) = W0 ∧ Below w.heap.size w W0 ∧ (W0.cell? ⟨w.heap.size, 0, none⟩ = some (.slice ta tl tc) ∧ W0.cell? ⟨w.heap.size, 1, none⟩ = some (.slice ma ml mc) ∧ W0.cell? ⟨w.heap.size + 1, 0, none⟩ = some (.int .i64 xt) ∧ W0.cell? ⟨w.heap.size + 1, 1, none⟩ = some (.int .i64 xc) ∧ W0.cell? ⟨w.heap.size + 1, 2, none⟩ = some (.int .i64 xm) ∧ W0.cell? ⟨w.heap.size + 1 + 1, 0, none⟩ = some (.int .i64 dc) ∧ W0.cell? ⟨w.heap.size + 1 + 1, 1, none⟩ = some (.int .i64 dm)) ∧ W0.heap.size = w.heap.size + 1 + 1 + 1 :=
            ⟨_, rfl, (by repeat (first | exact Below.refl _ _ | (refine Below.alloc ?_ (by first | omega | (simp; omega) | simp) _) | (refine Below.setCell ?_ (by first | omega | (simp; omega) | simp) _) | refine Below.drew ?_)), ⟨by go_simp, by go_simp, by go_simp, by go_simp, by go_simp, by go_simp, by go_simp⟩, by simp⟩
          rw [hW0]
          clear hW0
          have HBW := Lib.hid hB0
          have q0_0 : w.heap.size < W0.heap.size := by omega
          have q0_1 : w.heap.size + 1 < W0.heap.size := by omega
          have q0_2 : w.heap.size + 1 + 1 < W0.heap.size := by omega
          clear hB0 hz0
          go_wp2_with fail
          refine (HR1.out _ (HBW.out.trans (Below.mono (by repeat (first | exact Below.refl _ _ | (refine Below.alloc ?_ (by first | omega | (simp; omega) | simp) _) | (refine Below.setCell ?_ (by first | omega | (simp; omega) | simp) _) | refine Below.drew ?_)) HBW.out.size))).mono ?_
          rintro e v1 ⟨rfl, hb1⟩
          have hB1_0 : Below W0.heap.size W0 v1 := below_via (Lib.hid hb1) (by first | omega | (simp; done) | (simp; omega)) (by repeat (first | exact Below.refl _ _ | (refine Below.alloc ?_ (by first | omega | (simp; omega) | simp) _) | (refine Below.setCell ?_ (by first | omega | (simp; omega) | simp) _) | refine Below.drew ?_))
          have z1 := hb1.size
          (try simp at z1)
          obtain ⟨g1_0, g1_1, g1_2, g1_3, g1_4, g1_5, g1_6⟩ : v1.cell? ⟨w.heap.size, 0, none⟩ = some (.slice ta tl tc) ∧ v1.cell? ⟨w.heap.size, 1, none⟩ = some (.slice ma ml mc) ∧ v1.cell? ⟨w.heap.size + 1, 0, none⟩ = some (.int .i64 xt) ∧ v1.cell? ⟨w.heap.size + 1, 1, none⟩ = some (.int .i64 xc) ∧ v1.cell? ⟨w.heap.size + 1, 2, none⟩ = some (.int .i64 xm) ∧ v1.cell? ⟨w.heap.size + 1 + 1, 0, none⟩ = some (.int .i64 dc) ∧ v1.cell? ⟨w.heap.size + 1 + 1, 1, none⟩ = some (.int .i64 dm) :=
            ⟨(hb1.cell (p := ⟨w.heap.size, 0, none⟩) (by first | omega | (simp; done) | (simp; omega))).trans (by first | (go_simp; done) | (go_simp; exact set_same (u := .int .i64 0) (by go_simp; done))), (hb1.cell (p := ⟨w.heap.size, 1, none⟩) (by first | omega | (simp; done) | (simp; omega))).trans (by first | (go_simp; done) | (go_simp; exact set_same (u := .int .i64 0) (by go_simp; done))), (hb1.cell (p := ⟨w.heap.size + 1, 0, none⟩) (by first | omega | (simp; done) | (simp; omega))).trans (by first | (go_simp; done) | (go_simp; exact set_same (u := .int .i64 0) (by go_simp; done))), (hb1.cell (p := ⟨w.heap.size + 1, 1, none⟩) (by first | omega | (simp; done) | (simp; omega))).trans (by first | (go_simp; done) | (go_simp; exact set_same (u := .int .i64 0) (by go_simp; done))), (hb1.cell (p := ⟨w.heap.size + 1, 2, none⟩) (by first | omega | (simp; done) | (simp; omega))).trans (by first | (go_simp; done) | (go_simp; exact set_same (u := .int .i64 0) (by go_simp; done))), (hb1.cell (p := ⟨w.heap.size + 1 + 1, 0, none⟩) (by first | omega | (simp; done) | (simp; omega))).trans (by first | (go_simp; done) | (go_simp; exact set_same (u := .int .i64 0) (by go_simp; done))), (hb1.cell (p := ⟨w.heap.size + 1 + 1, 1, none⟩) (by first | omega | (simp; done) | (simp; omega))).trans (by first | (go_simp; done) | (go_simp; exact set_same (u := .int .i64 0) (by go_simp; done)))⟩
          have q1_0 : w.heap.size < v1.heap.size := by first | omega | (simp at *; omega)
          have q1_1 : w.heap.size + 1 < v1.heap.size := by first | omega | (simp at *; omega)
          have q1_2 : w.heap.size + 1 + 1 < v1.heap.size := by first | omega | (simp at *; omega)
          have HB1 := Lib.hid hB1_0
          have y1 := hB1_0.size
          clear hb1 hB1_0 g0_0 g0_1 g0_2 g0_3 g0_4 g0_5 g0_6 q0_0 q0_1 q0_2
          go_wp2_with fail
          refine (HA1.out _ (HBW.out.trans (Below.mono (by repeat (first | exact Below.refl _ _ | with_reducible exact HB1.out | (refine Below.alloc ?_ (by first | omega | (simp; omega) | simp) _) | (refine Below.setCell ?_ (by first | omega | (simp; omega) | simp) _) | refine Below.drew ?_)) HBW.out.size))).mono ?_
          rintro e v2 ⟨rfl, hb2⟩
          have hB2_0 : Below W0.heap.size W0 v2 := below_via (Lib.hid hb2) (by first | omega | (simp; done) | (simp; omega)) (by repeat (first | exact Below.refl _ _ | with_reducible exact HB1.out | (refine Below.alloc ?_ (by first | omega | (simp; omega) | simp) _) | (refine Below.setCell ?_ (by first | omega | (simp; omega) | simp) _) | refine Below.drew ?_))
          have z2 := hb2.size
          (try simp at z2)
          obtain ⟨g2_0, g2_1, g2_2, g2_3, g2_4, g2_5, g2_6⟩ : v2.cell? ⟨w.heap.size, 0, none⟩ = some (.slice ta tl tc) ∧ v2.cell? ⟨w.heap.size, 1, none⟩ = some (.slice ma ml mc) ∧ v2.cell? ⟨w.heap.size + 1, 0, none⟩ = some (.int .i64 xt) ∧ v2.cell? ⟨w.heap.size + 1, 1, none⟩ = some (.int .i64 xc) ∧ v2.cell? ⟨w.heap.size + 1, 2, none⟩ = some (.int .i64 xm) ∧ v2.cell? ⟨w.heap.size + 1 + 1, 0, none⟩ = some (.int .i64 dc) ∧ v2.cell? ⟨w.heap.size + 1 + 1, 1, none⟩ = some (.int .i64 dm) :=
            ⟨(hb2.cell (p := ⟨w.heap.size, 0, none⟩) (by first | omega | (simp; done) | (simp; omega))).trans (by first | (go_simp; done) | (go_simp; exact set_same (u := .int .i64 0) (by go_simp; done))), (hb2.cell (p := ⟨w.heap.size, 1, none⟩) (by first | omega | (simp; done) | (simp; omega))).trans (by first | (go_simp; done) | (go_simp; exact set_same (u := .int .i64 0) (by go_simp; done))), (hb2.cell (p := ⟨w.heap.size + 1, 0, none⟩) (by first | omega | (simp; done) | (simp; omega))).trans (by first | (go_simp; done) | (go_simp; exact set_same (u := .int .i64 0) (by go_simp; done))), (hb2.cell (p := ⟨w.heap.size + 1, 1, none⟩) (by first | omega | (simp; done) | (simp; omega))).trans (by first | (go_simp; done) | (go_simp; exact set_same (u := .int .i64 0) (by go_simp; done))), (hb2.cell (p := ⟨w.heap.size + 1, 2, none⟩) (by first | omega | (simp; done) | (simp; omega))).trans (by first | (go_simp; done) | (go_simp; exact set_same (u := .int .i64 0) (by go_simp; done))), (hb2.cell (p := ⟨w.heap.size + 1 + 1, 0, none⟩) (by first | omega | (simp; done) | (simp; omega))).trans (by first | (go_simp; done) | (go_simp; exact set_same (u := .int .i64 0) (by go_simp; done))), (hb2.cell (p := ⟨w.heap.size + 1 + 1, 1, none⟩) (by first | omega | (simp; done) | (simp; omega))).trans (by first | (go_simp; done) | (go_simp; exact set_same (u := .int .i64 0) (by go_simp; done)))⟩
          have q2_0 : w.heap.size < v2.heap.size := by first | omega | (simp at *; omega)
          have q2_1 : w.heap.size + 1 < v2.heap.size := by first | omega | (simp at *; omega)
          have q2_2 : w.heap.size + 1 + 1 < v2.heap.size := by first | omega | (simp at *; omega)
          have HB2 := Lib.hid hB2_0
          have y2 := hB2_0.size
          clear hb2 hB2_0 g1_0 g1_1 g1_2 g1_3 g1_4 g1_5 g1_6 q1_0 q1_1 q1_2
          go_wp2_with fail
          refine (HX1.out _).mono ?_
          rintro e v' ⟨rfl, rfl⟩
          go_wp2_with fail
          refine (HX2.out _).mono ?_
          rintro e v' ⟨rfl, rfl⟩
          go_wp2_with fail
          refine (HWK.out _).mono ?_
          rintro e v3 ⟨rfl, hb3⟩
          have hB3_0 : Below W0.heap.size W0 v3 := below_via (Lib.hid hb3) (by first | omega | (simp; done) | (simp; omega)) (by repeat (first | exact Below.refl _ _ | with_reducible exact HB2.out | (refine Below.alloc ?_ (by first | omega | (simp; omega) | simp) _) | (refine Below.setCell ?_ (by first | omega | (simp; omega) | simp) _) | refine Below.drew ?_))
          have z3 := hb3.size
          (try simp at z3)
          have HB3 := Lib.hid hB3_0
          have y3 := hB3_0.size
          clear hb3 hB3_0 g2_0 g2_1 g2_2 g2_3 g2_4 g2_5 g2_6 q2_0 q2_1 q2_2
          go_wp2_with fail
          go_ret
          exact ⟨rfl, HBW.out.trans (Below.mono (by repeat (first | exact Below.refl _ _ | with_reducible exact HB3.out | (refine Below.alloc ?_ (by first | omega | (simp; omega) | simp) _) | (refine Below.setCell ?_ (by first | omega | (simp; omega) | simp) _) | refine Below.drew ?_)) HBW.out.size)⟩
        · have HX2 := Lib.hid (HW2.out true h2)
          obtain ⟨⟨k, rfl, hk⟩, hc, hm⟩ := ask_parts ha
          obtain ⟨ho, h8, hm6⟩ := ready_parts hr
          have htl := hp.1.1
          have hml := hp.2.1.1
          have HTC := Lib.hid hp.1.2.2
          have hd0 : 0 ≤ dc := by simp [btw] at h1; omega
          have hd9 : dc ≤ 99 := by simp [btw] at h1; omega
          have hxm : 0 ≤ xm ∧ xm ≤ 99 := by simpa [btw] using hm
          have hdm : 0 ≤ dm ∧ dm ≤ 99 := by simpa [btw] using h2
          have HCH := Lib.hid (fun mm (hmm : btw mm 0 99 = true) W (hw : Below w.heap.size w W) => lawCheap_yes h ta tl tc ma ml mc ho xc mm hc hmm W (hp.below hw))
          have HPR := Lib.hid (fun q W (hw : Below w.heap.size w W) => Priced_any h ta tl tc ma ml mc W (hp.below hw) (by omega) (by omega) k hk q)
          have HRO := Lib.hid (fun q b (hb : (h.priced k q).ready = b) W a ac na nc (hq : HAt W a tl ac na ml nc (h.priced k q)) => ready_is (h.priced k q) a tl ac na ml nc b hb W hq)
          have HCO := Lib.hid (fun q (hw : (h.priced k q).ok = true) W a ac na nc (hq : HAt W a tl ac na ml nc (h.priced k q)) => lawCheap_yes (h.priced k q) a tl ac na ml nc hw xc xm hc hm W hq)
          have HIM := Lib.hid (fun n b (hb : btw n 0 99 = b) W => refIsMinute_b n b hb W)
          have HPC := Lib.hid (fun (hw : (h.priced k (h.things[k].c + dc)).ok = true) => priced_cost ho k hk dc hd0 hw xc xm hxm.2)
          have HLC := Lib.hid (fun (hw : xm + dm ≤ 99) => later_cost ho xc (show xm ≤ xm + dm by omega) hw)
          have HOK := Lib.hid (fun q (hw : (h.priced k q).ready = true) => (ready_parts hw).1)
          have hcb := (CHouse.okT_thing (CHouse.ok_T ho) hk).2.2.1
          have HTK := Lib.hid (show k < tl by omega)
          have hk : k < h.things.length := hk
          have hbd := leastR_bd ho xc xm
          clear hp HRD HAK hr ha
          go_enter Try.func9, Try.ntmps9
          go_wp2_with fail
          obtain ⟨W0, hW0, hB0, ⟨g0_0, g0_1, g0_2, g0_3, g0_4, g0_5, g0_6⟩, hz0⟩ : ∃ W0, (((w.alloc (.cells #[.slice ta tl tc, .slice ma ml mc] 25)).alloc (.cells #[.int .i64 k, .int .i64 xc, .int .i64 xm] 27)).alloc (.cells #[.int .i64 dc, .int .i64 dm] 65)) = W0 ∧ Below w.heap.size w W0 ∧ (W0.cell? ⟨w.heap.size, 0, none⟩ = some (.slice ta tl tc) ∧ W0.cell? ⟨w.heap.size, 1, none⟩ = some (.slice ma ml mc) ∧ W0.cell? ⟨w.heap.size + 1, 0, none⟩ = some (.int .i64 k) ∧ W0.cell? ⟨w.heap.size + 1, 1, none⟩ = some (.int .i64 xc) ∧ W0.cell? ⟨w.heap.size + 1, 2, none⟩ = some (.int .i64 xm) ∧ W0.cell? ⟨w.heap.size + 1 + 1, 0, none⟩ = some (.int .i64 dc) ∧ W0.cell? ⟨w.heap.size + 1 + 1, 1, none⟩ = some (.int .i64 dm)) ∧ W0.heap.size = w.heap.size + 1 + 1 + 1 :=
            ⟨_, rfl, (by repeat (first | exact Below.refl _ _ | (refine Below.alloc ?_ (by first | omega | (simp; omega) | simp) _) | (refine Below.setCell ?_ (by first | omega | (simp; omega) | simp) _) | refine Below.drew ?_)), ⟨by go_simp, by go_simp, by go_simp, by go_simp, by go_simp, by go_simp, by go_simp⟩, by simp⟩
          rw [hW0]
          clear hW0
          have HBW := Lib.hid hB0
          have q0_0 : w.heap.size < W0.heap.size := by omega
          have q0_1 : w.heap.size + 1 < W0.heap.size := by omega
          have q0_2 : w.heap.size + 1 + 1 < W0.heap.size := by omega
          clear hB0 hz0
          go_wp2_with fail
          refine (HR1.out _ (HBW.out.trans (Below.mono (by repeat (first | exact Below.refl _ _ | (refine Below.alloc ?_ (by first | omega | (simp; omega) | simp) _) | (refine Below.setCell ?_ (by first | omega | (simp; omega) | simp) _) | refine Below.drew ?_)) HBW.out.size))).mono ?_
          rintro e v1 ⟨rfl, hb1⟩
          have hB1_0 : Below W0.heap.size W0 v1 := below_via (Lib.hid hb1) (by first | omega | (simp; done) | (simp; omega)) (by repeat (first | exact Below.refl _ _ | (refine Below.alloc ?_ (by first | omega | (simp; omega) | simp) _) | (refine Below.setCell ?_ (by first | omega | (simp; omega) | simp) _) | refine Below.drew ?_))
          have z1 := hb1.size
          (try simp at z1)
          obtain ⟨g1_0, g1_1, g1_2, g1_3, g1_4, g1_5, g1_6⟩ : v1.cell? ⟨w.heap.size, 0, none⟩ = some (.slice ta tl tc) ∧ v1.cell? ⟨w.heap.size, 1, none⟩ = some (.slice ma ml mc) ∧ v1.cell? ⟨w.heap.size + 1, 0, none⟩ = some (.int .i64 k) ∧ v1.cell? ⟨w.heap.size + 1, 1, none⟩ = some (.int .i64 xc) ∧ v1.cell? ⟨w.heap.size + 1, 2, none⟩ = some (.int .i64 xm) ∧ v1.cell? ⟨w.heap.size + 1 + 1, 0, none⟩ = some (.int .i64 dc) ∧ v1.cell? ⟨w.heap.size + 1 + 1, 1, none⟩ = some (.int .i64 dm) :=
            ⟨(hb1.cell (p := ⟨w.heap.size, 0, none⟩) (by first | omega | (simp; done) | (simp; omega))).trans (by first | (go_simp; done) | (go_simp; exact set_same (u := .int .i64 0) (by go_simp; done))), (hb1.cell (p := ⟨w.heap.size, 1, none⟩) (by first | omega | (simp; done) | (simp; omega))).trans (by first | (go_simp; done) | (go_simp; exact set_same (u := .int .i64 0) (by go_simp; done))), (hb1.cell (p := ⟨w.heap.size + 1, 0, none⟩) (by first | omega | (simp; done) | (simp; omega))).trans (by first | (go_simp; done) | (go_simp; exact set_same (u := .int .i64 0) (by go_simp; done))), (hb1.cell (p := ⟨w.heap.size + 1, 1, none⟩) (by first | omega | (simp; done) | (simp; omega))).trans (by first | (go_simp; done) | (go_simp; exact set_same (u := .int .i64 0) (by go_simp; done))), (hb1.cell (p := ⟨w.heap.size + 1, 2, none⟩) (by first | omega | (simp; done) | (simp; omega))).trans (by first | (go_simp; done) | (go_simp; exact set_same (u := .int .i64 0) (by go_simp; done))), (hb1.cell (p := ⟨w.heap.size + 1 + 1, 0, none⟩) (by first | omega | (simp; done) | (simp; omega))).trans (by first | (go_simp; done) | (go_simp; exact set_same (u := .int .i64 0) (by go_simp; done))), (hb1.cell (p := ⟨w.heap.size + 1 + 1, 1, none⟩) (by first | omega | (simp; done) | (simp; omega))).trans (by first | (go_simp; done) | (go_simp; exact set_same (u := .int .i64 0) (by go_simp; done)))⟩
          have q1_0 : w.heap.size < v1.heap.size := by first | omega | (simp at *; omega)
          have q1_1 : w.heap.size + 1 < v1.heap.size := by first | omega | (simp at *; omega)
          have q1_2 : w.heap.size + 1 + 1 < v1.heap.size := by first | omega | (simp at *; omega)
          have HB1 := Lib.hid hB1_0
          have y1 := hB1_0.size
          clear hb1 hB1_0 g0_0 g0_1 g0_2 g0_3 g0_4 g0_5 g0_6 q0_0 q0_1 q0_2
          go_wp2_with fail
          refine (HA1.out _ (HBW.out.trans (Below.mono (by repeat (first | exact Below.refl _ _ | with_reducible exact HB1.out | (refine Below.alloc ?_ (by first | omega | (simp; omega) | simp) _) | (refine Below.setCell ?_ (by first | omega | (simp; omega) | simp) _) | refine Below.drew ?_)) HBW.out.size))).mono ?_
          rintro e v2 ⟨rfl, hb2⟩
          have hB2_0 : Below W0.heap.size W0 v2 := below_via (Lib.hid hb2) (by first | omega | (simp; done) | (simp; omega)) (by repeat (first | exact Below.refl _ _ | with_reducible exact HB1.out | (refine Below.alloc ?_ (by first | omega | (simp; omega) | simp) _) | (refine Below.setCell ?_ (by first | omega | (simp; omega) | simp) _) | refine Below.drew ?_))
          have z2 := hb2.size
          (try simp at z2)
          obtain ⟨g2_0, g2_1, g2_2, g2_3, g2_4, g2_5, g2_6⟩ : v2.cell? ⟨w.heap.size, 0, none⟩ = some (.slice ta tl tc) ∧ v2.cell? ⟨w.heap.size, 1, none⟩ = some (.slice ma ml mc) ∧ v2.cell? ⟨w.heap.size + 1, 0, none⟩ = some (.int .i64 k) ∧ v2.cell? ⟨w.heap.size + 1, 1, none⟩ = some (.int .i64 xc) ∧ v2.cell? ⟨w.heap.size + 1, 2, none⟩ = some (.int .i64 xm) ∧ v2.cell? ⟨w.heap.size + 1 + 1, 0, none⟩ = some (.int .i64 dc) ∧ v2.cell? ⟨w.heap.size + 1 + 1, 1, none⟩ = some (.int .i64 dm) :=
            ⟨(hb2.cell (p := ⟨w.heap.size, 0, none⟩) (by first | omega | (simp; done) | (simp; omega))).trans (by first | (go_simp; done) | (go_simp; exact set_same (u := .int .i64 0) (by go_simp; done))), (hb2.cell (p := ⟨w.heap.size, 1, none⟩) (by first | omega | (simp; done) | (simp; omega))).trans (by first | (go_simp; done) | (go_simp; exact set_same (u := .int .i64 0) (by go_simp; done))), (hb2.cell (p := ⟨w.heap.size + 1, 0, none⟩) (by first | omega | (simp; done) | (simp; omega))).trans (by first | (go_simp; done) | (go_simp; exact set_same (u := .int .i64 0) (by go_simp; done))), (hb2.cell (p := ⟨w.heap.size + 1, 1, none⟩) (by first | omega | (simp; done) | (simp; omega))).trans (by first | (go_simp; done) | (go_simp; exact set_same (u := .int .i64 0) (by go_simp; done))), (hb2.cell (p := ⟨w.heap.size + 1, 2, none⟩) (by first | omega | (simp; done) | (simp; omega))).trans (by first | (go_simp; done) | (go_simp; exact set_same (u := .int .i64 0) (by go_simp; done))), (hb2.cell (p := ⟨w.heap.size + 1 + 1, 0, none⟩) (by first | omega | (simp; done) | (simp; omega))).trans (by first | (go_simp; done) | (go_simp; exact set_same (u := .int .i64 0) (by go_simp; done))), (hb2.cell (p := ⟨w.heap.size + 1 + 1, 1, none⟩) (by first | omega | (simp; done) | (simp; omega))).trans (by first | (go_simp; done) | (go_simp; exact set_same (u := .int .i64 0) (by go_simp; done)))⟩
          have q2_0 : w.heap.size < v2.heap.size := by first | omega | (simp at *; omega)
          have q2_1 : w.heap.size + 1 < v2.heap.size := by first | omega | (simp at *; omega)
          have q2_2 : w.heap.size + 1 + 1 < v2.heap.size := by first | omega | (simp at *; omega)
          have HB2 := Lib.hid hB2_0
          have y2 := hB2_0.size
          clear hb2 hB2_0 g1_0 g1_1 g1_2 g1_3 g1_4 g1_5 g1_6 q1_0 q1_1 q1_2
          go_wp2_with fail
          refine (HX1.out _).mono ?_
          rintro e v' ⟨rfl, rfl⟩
          go_wp2_with fail
          refine (HX2.out _).mono ?_
          rintro e v' ⟨rfl, rfl⟩
          
          go_wp2_with fail
          refine (HCH.out xm hm _ (HBW.out.trans (Below.mono (by repeat (first | exact Below.refl _ _ | with_reducible exact HB2.out | (refine Below.alloc ?_ (by first | omega | (simp; omega) | simp) _) | (refine Below.setCell ?_ (by first | omega | (simp; omega) | simp) _) | refine Below.drew ?_)) HBW.out.size))).mono ?_
          rintro e v3 ⟨rfl, hb3⟩
          have hB3_0 : Below W0.heap.size W0 v3 := below_via (Lib.hid hb3) (by first | omega | (simp; done) | (simp; omega)) (by repeat (first | exact Below.refl _ _ | with_reducible exact HB2.out | (refine Below.alloc ?_ (by first | omega | (simp; omega) | simp) _) | (refine Below.setCell ?_ (by first | omega | (simp; omega) | simp) _) | refine Below.drew ?_))
          have z3 := hb3.size
          (try simp at z3)
          obtain ⟨g3_0, g3_1, g3_2, g3_3, g3_4, g3_5, g3_6⟩ : v3.cell? ⟨w.heap.size, 0, none⟩ = some (.slice ta tl tc) ∧ v3.cell? ⟨w.heap.size, 1, none⟩ = some (.slice ma ml mc) ∧ v3.cell? ⟨w.heap.size + 1, 0, none⟩ = some (.int .i64 k) ∧ v3.cell? ⟨w.heap.size + 1, 1, none⟩ = some (.int .i64 xc) ∧ v3.cell? ⟨w.heap.size + 1, 2, none⟩ = some (.int .i64 xm) ∧ v3.cell? ⟨w.heap.size + 1 + 1, 0, none⟩ = some (.int .i64 dc) ∧ v3.cell? ⟨w.heap.size + 1 + 1, 1, none⟩ = some (.int .i64 dm) :=
            ⟨(hb3.cell (p := ⟨w.heap.size, 0, none⟩) (by first | omega | (simp; done) | (simp; omega))).trans (by first | (go_simp; done) | (go_simp; exact set_same (u := .int .i64 0) (by go_simp; done))), (hb3.cell (p := ⟨w.heap.size, 1, none⟩) (by first | omega | (simp; done) | (simp; omega))).trans (by first | (go_simp; done) | (go_simp; exact set_same (u := .int .i64 0) (by go_simp; done))), (hb3.cell (p := ⟨w.heap.size + 1, 0, none⟩) (by first | omega | (simp; done) | (simp; omega))).trans (by first | (go_simp; done) | (go_simp; exact set_same (u := .int .i64 0) (by go_simp; done))), (hb3.cell (p := ⟨w.heap.size + 1, 1, none⟩) (by first | omega | (simp; done) | (simp; omega))).trans (by first | (go_simp; done) | (go_simp; exact set_same (u := .int .i64 0) (by go_simp; done))), (hb3.cell (p := ⟨w.heap.size + 1, 2, none⟩) (by first | omega | (simp; done) | (simp; omega))).trans (by first | (go_simp; done) | (go_simp; exact set_same (u := .int .i64 0) (by go_simp; done))), (hb3.cell (p := ⟨w.heap.size + 1 + 1, 0, none⟩) (by first | omega | (simp; done) | (simp; omega))).trans (by first | (go_simp; done) | (go_simp; exact set_same (u := .int .i64 0) (by go_simp; done))), (hb3.cell (p := ⟨w.heap.size + 1 + 1, 1, none⟩) (by first | omega | (simp; done) | (simp; omega))).trans (by first | (go_simp; done) | (go_simp; exact set_same (u := .int .i64 0) (by go_simp; done)))⟩
          have q3_0 : w.heap.size < v3.heap.size := by first | omega | (simp at *; omega)
          have q3_1 : w.heap.size + 1 < v3.heap.size := by first | omega | (simp at *; omega)
          have q3_2 : w.heap.size + 1 + 1 < v3.heap.size := by first | omega | (simp at *; omega)
          have HB3 := Lib.hid hB3_0
          have y3 := hB3_0.size
          clear hb3 hB3_0 g2_0 g2_1 g2_2 g2_3 g2_4 g2_5 g2_6 q2_0 q2_1 q2_2
          obtain ⟨tb, tz, hta, htB, htcell⟩ := HTC.out (by have := HTK.out; omega)
          subst hta
          obtain ⟨-, -, d2, -⟩ := htcell k hk
          have c2 := ((HBW.out.trans (Below.mono HB3.out HBW.out.size)).cell (p := ⟨tb, tz + k * 4 + 2, none⟩) htB).trans d2
          have hkl : (k : Int) < (tl : Int) := by have := HTK.out; omega
          have hk0 : (0 : Int) ≤ (k : Int) := by omega
          have htW : tb < v3.heap.size := by have := (HBW.out.trans (Below.mono HB3.out HBW.out.size)).size; omega
          clear htcell d2
          generalize hcx : h.things[k].c = cx at *
          generalize hq0 : h.cost (h.leastR xc xm) = q0 at *
          clear hcx hq0
          have hwr : IntKind.i64.wrap (cx + dc) = cx + dc := IntWalk.i64_in _ ⟨by omega, by omega⟩
          have HPB := Lib.hid (fun (V : World) ga gac gm gmc (hq : HAt V ga tl gac gm ml gmc (h.priced k (cx + dc))) => show HAt (V.alloc (.cells #[.slice ga tl gac, .slice gm ml gmc] 25)) ga tl gac gm ml gmc (h.priced k (cx + dc)) from hq.below (by repeat (first | exact Below.refl _ _ | (refine Below.alloc ?_ (by first | omega | (simp; omega) | simp) _) | (refine Below.setCell ?_ (by first | omega | (simp; omega) | simp) _) | refine Below.drew ?_)))
          have HPS := Lib.hid (fun (V : World) ga gac gm gmc u0 u1 (hq : HAt V ga tl gac gm ml gmc (h.priced k (cx + dc))) (hf : Fresh (v3.alloc (.cells #[.slice none 0 0, .slice none 0 0] 25)).drew.heap.size ga tl gac gm ml gmc) => show HAt ((V.setCell ⟨v3.heap.size, 0, none⟩ u0).setCell ⟨v3.heap.size, 1, none⟩ u1) ga tl gac gm ml gmc (h.priced k (cx + dc)) from HAt.grown hq (gbx_set (gbx_set (gbx_refl V (some v3.heap.size)) 0 u0) 1 u1) hf (fun r e => by injection e with e; subst e; simp [World.drew]))
          have HPQ := Lib.hid (fun W hw => HPR.out (cx + dc) W hw)
          have HV4 : Below w.heap.size w v3 := (HBW.out.trans (Below.mono (by repeat (first | exact Below.refl _ _ | with_reducible exact HB3.out | (refine Below.alloc ?_ (by first | omega | (simp; omega) | simp) _) | (refine Below.setCell ?_ (by first | omega | (simp; omega) | simp) _) | refine Below.drew ?_)) HBW.out.size))
          have HX4 := Lib.hid (fun W (h : Below v3.heap.size v3 W ∧ ∀ b o, b < v3.heap.size → W.cell? ⟨b, o, none⟩ = v3.cell? ⟨b, o, none⟩) => bothM2 (W0 := v3) (HPQ.out W (HV4.trans (h.1.mono HV4.size))) h)
          clear HV4
          go_upto_region 6 with fail
          go_cut [8] (fun v8x wx => ∃ gb ga gac gm gmc, v8x = .pointer (some ⟨gb, 0, none⟩) ∧ (wx.cell? ⟨gb, 0, none⟩ = some (.slice ga tl gac) ∧ wx.cell? ⟨gb, 1, none⟩ = some (.slice gm ml gmc)) ∧ gb < wx.heap.size ∧ v3.heap.size ≤ gb ∧ Below v3.heap.size v3 wx ∧ HAt wx ga tl gac gm ml gmc (h.priced k (cx + dc)))
          case first =>
            go_region_held3 (fun w' => Below v3.heap.size v3 w' ∧ ∀ b o, b < v3.heap.size → w'.cell? ⟨b, o, none⟩ = v3.cell? ⟨b, o, none⟩) (first | with_reducible assumption | ((repeat (first | with_reducible refine bothS_drew ?_ | with_reducible refine bothS_alloc _ ?_ | with_reducible refine bothS_set _ _ (by first | omega | (simp; omega) | simp) ?_)); first | with_reducible assumption | with_reducible exact Hid.out (by assumption) | with_reducible exact ⟨Below.refl _ _, fun _ _ _ => rfl⟩)) (first
              | (go_at_call 53; with_reducible refine (HX4.out _ ?_).mono ?_; (first | with_reducible assumption | ((repeat (first | with_reducible refine bothS_drew ?_ | with_reducible refine bothS_alloc _ ?_ | with_reducible refine bothS_set _ _ (by first | omega | (simp; omega) | simp) ?_)); first | with_reducible assumption | with_reducible exact Hid.out (by assumption) | with_reducible exact ⟨Below.refl _ _, fun _ _ _ => rfl⟩)); rintro e w' ⟨⟨ga, gac, gm, gmc, rfl, hK2, hF2⟩, k, k1, k2, k3⟩; have HK' := Lib.hid k; (try simp at k3); (try have k6 := Nat.lt_of_succ_le k3); (try have k7 := Nat.lt_of_succ_lt k6))
              | fail "no arm")
            all_goals (go_wp2_with fail; go_meet)
            all_goals refine ⟨_, _, _, _, _, rfl, ?_, ?_, ?_, And.left (by assumption), (by first | with_reducible exact HPB.out _ _ _ _ _ hK2 | with_reducible exact HPS.out _ _ _ _ _ _ _ hK2 hF2)⟩
            all_goals first | (refine ⟨?_, ?_⟩ <;> (go_simp; done)) | (with_reducible refine set5 _ _ _ _ _ ?_ ?_ ?_ ?_ ?_ <;> (go_simp; done)) | skip
            all_goals first | omega | (simp; done) | (simp; omega) | skip
          case rest =>
          obtain ⟨gb4, ga, gac, gm, gmc, rfl, ⟨c4_0, c4_1⟩, hlt4, hge4, hb4, hO2⟩ := hcut
          obtain ⟨v4, rfl⟩ : ∃ v4 : World, v4 = wc := ⟨_, rfl⟩
          have hB4_0 : Below W0.heap.size W0 v4 := below_via (Lib.hid hb4) (by first | omega | (simp; done) | (simp; omega)) (by repeat (first | exact Below.refl _ _ | with_reducible exact HB3.out | (refine Below.alloc ?_ (by first | omega | (simp; omega) | simp) _) | (refine Below.setCell ?_ (by first | omega | (simp; omega) | simp) _) | refine Below.drew ?_))
          have z4 := hb4.size
          (try simp at z4)
          obtain ⟨g4_0, g4_1, g4_2, g4_3, g4_4, g4_5, g4_6⟩ : v4.cell? ⟨w.heap.size, 0, none⟩ = some (.slice (some ⟨tb, tz, none⟩) tl tc) ∧ v4.cell? ⟨w.heap.size, 1, none⟩ = some (.slice ma ml mc) ∧ v4.cell? ⟨w.heap.size + 1, 0, none⟩ = some (.int .i64 k) ∧ v4.cell? ⟨w.heap.size + 1, 1, none⟩ = some (.int .i64 xc) ∧ v4.cell? ⟨w.heap.size + 1, 2, none⟩ = some (.int .i64 xm) ∧ v4.cell? ⟨w.heap.size + 1 + 1, 0, none⟩ = some (.int .i64 dc) ∧ v4.cell? ⟨w.heap.size + 1 + 1, 1, none⟩ = some (.int .i64 dm) :=
            ⟨(hb4.cell (p := ⟨w.heap.size, 0, none⟩) (by first | omega | (simp; done) | (simp; omega))).trans (by first | (go_simp; done) | (go_simp; exact set_same (u := .int .i64 0) (by go_simp; done))), (hb4.cell (p := ⟨w.heap.size, 1, none⟩) (by first | omega | (simp; done) | (simp; omega))).trans (by first | (go_simp; done) | (go_simp; exact set_same (u := .int .i64 0) (by go_simp; done))), (hb4.cell (p := ⟨w.heap.size + 1, 0, none⟩) (by first | omega | (simp; done) | (simp; omega))).trans (by first | (go_simp; done) | (go_simp; exact set_same (u := .int .i64 0) (by go_simp; done))), (hb4.cell (p := ⟨w.heap.size + 1, 1, none⟩) (by first | omega | (simp; done) | (simp; omega))).trans (by first | (go_simp; done) | (go_simp; exact set_same (u := .int .i64 0) (by go_simp; done))), (hb4.cell (p := ⟨w.heap.size + 1, 2, none⟩) (by first | omega | (simp; done) | (simp; omega))).trans (by first | (go_simp; done) | (go_simp; exact set_same (u := .int .i64 0) (by go_simp; done))), (hb4.cell (p := ⟨w.heap.size + 1 + 1, 0, none⟩) (by first | omega | (simp; done) | (simp; omega))).trans (by first | (go_simp; done) | (go_simp; exact set_same (u := .int .i64 0) (by go_simp; done))), (hb4.cell (p := ⟨w.heap.size + 1 + 1, 1, none⟩) (by first | omega | (simp; done) | (simp; omega))).trans (by first | (go_simp; done) | (go_simp; exact set_same (u := .int .i64 0) (by go_simp; done)))⟩
          have q4_0 : w.heap.size < v4.heap.size := by first | omega | (simp at *; omega)
          have q4_1 : w.heap.size + 1 < v4.heap.size := by first | omega | (simp at *; omega)
          have q4_2 : w.heap.size + 1 + 1 < v4.heap.size := by first | omega | (simp at *; omega)
          have HB4 := Lib.hid hB4_0
          have y4 := hB4_0.size
          clear hb4 hB4_0 g3_0 g3_1 g3_2 g3_3 g3_4 g3_5 g3_6 q3_0 q3_1 q3_2
          have g4_7 := c4_0
          have g4_8 := c4_1
          have q4_3 : gb4 < v4.heap.size := hlt4
          clear c4_0 c4_1
          clear HX4
          have HAT := Lib.hid hO2
          clear hO2 c2
          have HRQ := Lib.hid (HRO.out (cx + dc))
          rcases hro : (h.priced k (cx + dc)).ready with - | -
          · have HR2 := Lib.hid (HRQ.out false hro)
            clear hro HRQ
            go_wp2_with fail
            refine (HR2.out _ ga gac gm gmc (HAT.out.below (by repeat (first | exact Below.refl _ _ | (refine Below.alloc ?_ (by first | omega | (simp; omega) | simp) _) | (refine Below.setCell ?_ (by first | omega | (simp; omega) | simp) _) | refine Below.drew ?_)))).mono ?_
            rintro e v5 ⟨rfl, hb5⟩
            have hB5_0 : Below W0.heap.size W0 v5 := below_via (Lib.hid hb5) (by first | omega | (simp; done) | (simp; omega)) (by repeat (first | exact Below.refl _ _ | with_reducible exact HB4.out | (refine Below.alloc ?_ (by first | omega | (simp; omega) | simp) _) | (refine Below.setCell ?_ (by first | omega | (simp; omega) | simp) _) | refine Below.drew ?_))
            have hB5_1 : Below v4.heap.size v4 v5 := below_via (Lib.hid hb5) (by first | omega | (simp; done) | (simp; omega)) (by repeat (first | exact Below.refl _ _ | (refine Below.alloc ?_ (by first | omega | (simp; omega) | simp) _) | (refine Below.setCell ?_ (by first | omega | (simp; omega) | simp) _) | refine Below.drew ?_))
            have z5 := hb5.size
            (try simp at z5)
            obtain ⟨g5_0, g5_1, g5_2, g5_3, g5_4, g5_5, g5_6, g5_7, g5_8⟩ : v5.cell? ⟨w.heap.size, 0, none⟩ = some (.slice (some ⟨tb, tz, none⟩) tl tc) ∧ v5.cell? ⟨w.heap.size, 1, none⟩ = some (.slice ma ml mc) ∧ v5.cell? ⟨w.heap.size + 1, 0, none⟩ = some (.int .i64 k) ∧ v5.cell? ⟨w.heap.size + 1, 1, none⟩ = some (.int .i64 xc) ∧ v5.cell? ⟨w.heap.size + 1, 2, none⟩ = some (.int .i64 xm) ∧ v5.cell? ⟨w.heap.size + 1 + 1, 0, none⟩ = some (.int .i64 dc) ∧ v5.cell? ⟨w.heap.size + 1 + 1, 1, none⟩ = some (.int .i64 dm) ∧ v5.cell? ⟨gb4, 0, none⟩ = some (.slice ga tl gac) ∧ v5.cell? ⟨gb4, 1, none⟩ = some (.slice gm ml gmc) :=
              ⟨(hb5.cell (p := ⟨w.heap.size, 0, none⟩) (by first | omega | (simp; done) | (simp; omega))).trans (by first | (go_simp; done) | (go_simp; exact set_same (u := .int .i64 0) (by go_simp; done))), (hb5.cell (p := ⟨w.heap.size, 1, none⟩) (by first | omega | (simp; done) | (simp; omega))).trans (by first | (go_simp; done) | (go_simp; exact set_same (u := .int .i64 0) (by go_simp; done))), (hb5.cell (p := ⟨w.heap.size + 1, 0, none⟩) (by first | omega | (simp; done) | (simp; omega))).trans (by first | (go_simp; done) | (go_simp; exact set_same (u := .int .i64 0) (by go_simp; done))), (hb5.cell (p := ⟨w.heap.size + 1, 1, none⟩) (by first | omega | (simp; done) | (simp; omega))).trans (by first | (go_simp; done) | (go_simp; exact set_same (u := .int .i64 0) (by go_simp; done))), (hb5.cell (p := ⟨w.heap.size + 1, 2, none⟩) (by first | omega | (simp; done) | (simp; omega))).trans (by first | (go_simp; done) | (go_simp; exact set_same (u := .int .i64 0) (by go_simp; done))), (hb5.cell (p := ⟨w.heap.size + 1 + 1, 0, none⟩) (by first | omega | (simp; done) | (simp; omega))).trans (by first | (go_simp; done) | (go_simp; exact set_same (u := .int .i64 0) (by go_simp; done))), (hb5.cell (p := ⟨w.heap.size + 1 + 1, 1, none⟩) (by first | omega | (simp; done) | (simp; omega))).trans (by first | (go_simp; done) | (go_simp; exact set_same (u := .int .i64 0) (by go_simp; done))), (hb5.cell (p := ⟨gb4, 0, none⟩) (by first | omega | (simp; done) | (simp; omega))).trans (by first | (go_simp; done) | (go_simp; exact set_same (u := .int .i64 0) (by go_simp; done))), (hb5.cell (p := ⟨gb4, 1, none⟩) (by first | omega | (simp; done) | (simp; omega))).trans (by first | (go_simp; done) | (go_simp; exact set_same (u := .int .i64 0) (by go_simp; done)))⟩
            have q5_0 : w.heap.size < v5.heap.size := by first | omega | (simp at *; omega)
            have q5_1 : w.heap.size + 1 < v5.heap.size := by first | omega | (simp at *; omega)
            have q5_2 : w.heap.size + 1 + 1 < v5.heap.size := by first | omega | (simp at *; omega)
            have q5_3 : gb4 < v5.heap.size := by first | omega | (simp at *; omega)
            have HB5 := Lib.hid hB5_0
            have HE5 := Lib.hid hB5_1
            have y5 := hB5_0.size
            clear hb5 hB5_0 hB5_1 g4_0 g4_1 g4_2 g4_3 g4_4 g4_5 g4_6 g4_7 g4_8 q4_0 q4_1 q4_2 q4_3
            by_cases hl : xm + dm ≤ 99
            · have hbt : btw (xm + dm) 0 99 = true := by simp [btw]; omega
              have hqq := HLC.out hl
              have HIM1 := Lib.hid (HIM.out (xm + dm) true hbt)
              have HCL := Lib.hid (HCH.out (xm + dm) hbt)
              have hwx : IntKind.i64.wrap (xm + dm) = xm + dm := IntWalk.i64_in _ ⟨by omega, by omega⟩
              clear hbt
              go_wp2_with fail
              refine (HIM1.out _).mono ?_
              rintro e v6 ⟨rfl, hb6⟩
              have hB6_0 : Below W0.heap.size W0 v6 := below_via (Lib.hid hb6) (by first | omega | (simp; done) | (simp; omega)) (by repeat (first | exact Below.refl _ _ | with_reducible exact HB5.out | (refine Below.alloc ?_ (by first | omega | (simp; omega) | simp) _) | (refine Below.setCell ?_ (by first | omega | (simp; omega) | simp) _) | refine Below.drew ?_))
              have hB6_1 : Below v4.heap.size v4 v6 := below_via (Lib.hid hb6) (by first | omega | (simp; done) | (simp; omega)) (by repeat (first | exact Below.refl _ _ | with_reducible exact HE5.out | (refine Below.alloc ?_ (by first | omega | (simp; omega) | simp) _) | (refine Below.setCell ?_ (by first | omega | (simp; omega) | simp) _) | refine Below.drew ?_))
              have z6 := hb6.size
              (try simp at z6)
              obtain ⟨g6_0, g6_1, g6_2, g6_3, g6_4, g6_5, g6_6, g6_7, g6_8⟩ : v6.cell? ⟨w.heap.size, 0, none⟩ = some (.slice (some ⟨tb, tz, none⟩) tl tc) ∧ v6.cell? ⟨w.heap.size, 1, none⟩ = some (.slice ma ml mc) ∧ v6.cell? ⟨w.heap.size + 1, 0, none⟩ = some (.int .i64 k) ∧ v6.cell? ⟨w.heap.size + 1, 1, none⟩ = some (.int .i64 xc) ∧ v6.cell? ⟨w.heap.size + 1, 2, none⟩ = some (.int .i64 xm) ∧ v6.cell? ⟨w.heap.size + 1 + 1, 0, none⟩ = some (.int .i64 dc) ∧ v6.cell? ⟨w.heap.size + 1 + 1, 1, none⟩ = some (.int .i64 dm) ∧ v6.cell? ⟨gb4, 0, none⟩ = some (.slice ga tl gac) ∧ v6.cell? ⟨gb4, 1, none⟩ = some (.slice gm ml gmc) :=
                ⟨(hb6.cell (p := ⟨w.heap.size, 0, none⟩) (by first | omega | (simp; done) | (simp; omega))).trans (by first | (go_simp; done) | (go_simp; exact set_same (u := .int .i64 0) (by go_simp; done))), (hb6.cell (p := ⟨w.heap.size, 1, none⟩) (by first | omega | (simp; done) | (simp; omega))).trans (by first | (go_simp; done) | (go_simp; exact set_same (u := .int .i64 0) (by go_simp; done))), (hb6.cell (p := ⟨w.heap.size + 1, 0, none⟩) (by first | omega | (simp; done) | (simp; omega))).trans (by first | (go_simp; done) | (go_simp; exact set_same (u := .int .i64 0) (by go_simp; done))), (hb6.cell (p := ⟨w.heap.size + 1, 1, none⟩) (by first | omega | (simp; done) | (simp; omega))).trans (by first | (go_simp; done) | (go_simp; exact set_same (u := .int .i64 0) (by go_simp; done))), (hb6.cell (p := ⟨w.heap.size + 1, 2, none⟩) (by first | omega | (simp; done) | (simp; omega))).trans (by first | (go_simp; done) | (go_simp; exact set_same (u := .int .i64 0) (by go_simp; done))), (hb6.cell (p := ⟨w.heap.size + 1 + 1, 0, none⟩) (by first | omega | (simp; done) | (simp; omega))).trans (by first | (go_simp; done) | (go_simp; exact set_same (u := .int .i64 0) (by go_simp; done))), (hb6.cell (p := ⟨w.heap.size + 1 + 1, 1, none⟩) (by first | omega | (simp; done) | (simp; omega))).trans (by first | (go_simp; done) | (go_simp; exact set_same (u := .int .i64 0) (by go_simp; done))), (hb6.cell (p := ⟨gb4, 0, none⟩) (by first | omega | (simp; done) | (simp; omega))).trans (by first | (go_simp; done) | (go_simp; exact set_same (u := .int .i64 0) (by go_simp; done))), (hb6.cell (p := ⟨gb4, 1, none⟩) (by first | omega | (simp; done) | (simp; omega))).trans (by first | (go_simp; done) | (go_simp; exact set_same (u := .int .i64 0) (by go_simp; done)))⟩
              have q6_0 : w.heap.size < v6.heap.size := by first | omega | (simp at *; omega)
              have q6_1 : w.heap.size + 1 < v6.heap.size := by first | omega | (simp at *; omega)
              have q6_2 : w.heap.size + 1 + 1 < v6.heap.size := by first | omega | (simp at *; omega)
              have q6_3 : gb4 < v6.heap.size := by first | omega | (simp at *; omega)
              have HB6 := Lib.hid hB6_0
              have HE6 := Lib.hid hB6_1
              have y6 := hB6_0.size
              clear hb6 hB6_0 hB6_1 g5_0 g5_1 g5_2 g5_3 g5_4 g5_5 g5_6 g5_7 g5_8 q5_0 q5_1 q5_2 q5_3
              go_wp2_with fail
              refine (HCL.out _ (HBW.out.trans (Below.mono (by repeat (first | exact Below.refl _ _ | with_reducible exact HB6.out | (refine Below.alloc ?_ (by first | omega | (simp; omega) | simp) _) | (refine Below.setCell ?_ (by first | omega | (simp; omega) | simp) _) | refine Below.drew ?_)) HBW.out.size))).mono ?_
              rintro e v7 ⟨rfl, hb7⟩
              have hB7_0 : Below W0.heap.size W0 v7 := below_via (Lib.hid hb7) (by first | omega | (simp; done) | (simp; omega)) (by repeat (first | exact Below.refl _ _ | with_reducible exact HB6.out | (refine Below.alloc ?_ (by first | omega | (simp; omega) | simp) _) | (refine Below.setCell ?_ (by first | omega | (simp; omega) | simp) _) | refine Below.drew ?_))
              have hB7_1 : Below v4.heap.size v4 v7 := below_via (Lib.hid hb7) (by first | omega | (simp; done) | (simp; omega)) (by repeat (first | exact Below.refl _ _ | with_reducible exact HE6.out | (refine Below.alloc ?_ (by first | omega | (simp; omega) | simp) _) | (refine Below.setCell ?_ (by first | omega | (simp; omega) | simp) _) | refine Below.drew ?_))
              have z7 := hb7.size
              (try simp at z7)
              obtain ⟨g7_0, g7_1, g7_2, g7_3, g7_4, g7_5, g7_6, g7_7, g7_8⟩ : v7.cell? ⟨w.heap.size, 0, none⟩ = some (.slice (some ⟨tb, tz, none⟩) tl tc) ∧ v7.cell? ⟨w.heap.size, 1, none⟩ = some (.slice ma ml mc) ∧ v7.cell? ⟨w.heap.size + 1, 0, none⟩ = some (.int .i64 k) ∧ v7.cell? ⟨w.heap.size + 1, 1, none⟩ = some (.int .i64 xc) ∧ v7.cell? ⟨w.heap.size + 1, 2, none⟩ = some (.int .i64 xm) ∧ v7.cell? ⟨w.heap.size + 1 + 1, 0, none⟩ = some (.int .i64 dc) ∧ v7.cell? ⟨w.heap.size + 1 + 1, 1, none⟩ = some (.int .i64 dm) ∧ v7.cell? ⟨gb4, 0, none⟩ = some (.slice ga tl gac) ∧ v7.cell? ⟨gb4, 1, none⟩ = some (.slice gm ml gmc) :=
                ⟨(hb7.cell (p := ⟨w.heap.size, 0, none⟩) (by first | omega | (simp; done) | (simp; omega))).trans (by first | (go_simp; done) | (go_simp; exact set_same (u := .int .i64 0) (by go_simp; done))), (hb7.cell (p := ⟨w.heap.size, 1, none⟩) (by first | omega | (simp; done) | (simp; omega))).trans (by first | (go_simp; done) | (go_simp; exact set_same (u := .int .i64 0) (by go_simp; done))), (hb7.cell (p := ⟨w.heap.size + 1, 0, none⟩) (by first | omega | (simp; done) | (simp; omega))).trans (by first | (go_simp; done) | (go_simp; exact set_same (u := .int .i64 0) (by go_simp; done))), (hb7.cell (p := ⟨w.heap.size + 1, 1, none⟩) (by first | omega | (simp; done) | (simp; omega))).trans (by first | (go_simp; done) | (go_simp; exact set_same (u := .int .i64 0) (by go_simp; done))), (hb7.cell (p := ⟨w.heap.size + 1, 2, none⟩) (by first | omega | (simp; done) | (simp; omega))).trans (by first | (go_simp; done) | (go_simp; exact set_same (u := .int .i64 0) (by go_simp; done))), (hb7.cell (p := ⟨w.heap.size + 1 + 1, 0, none⟩) (by first | omega | (simp; done) | (simp; omega))).trans (by first | (go_simp; done) | (go_simp; exact set_same (u := .int .i64 0) (by go_simp; done))), (hb7.cell (p := ⟨w.heap.size + 1 + 1, 1, none⟩) (by first | omega | (simp; done) | (simp; omega))).trans (by first | (go_simp; done) | (go_simp; exact set_same (u := .int .i64 0) (by go_simp; done))), (hb7.cell (p := ⟨gb4, 0, none⟩) (by first | omega | (simp; done) | (simp; omega))).trans (by first | (go_simp; done) | (go_simp; exact set_same (u := .int .i64 0) (by go_simp; done))), (hb7.cell (p := ⟨gb4, 1, none⟩) (by first | omega | (simp; done) | (simp; omega))).trans (by first | (go_simp; done) | (go_simp; exact set_same (u := .int .i64 0) (by go_simp; done)))⟩
              have q7_0 : w.heap.size < v7.heap.size := by first | omega | (simp at *; omega)
              have q7_1 : w.heap.size + 1 < v7.heap.size := by first | omega | (simp at *; omega)
              have q7_2 : w.heap.size + 1 + 1 < v7.heap.size := by first | omega | (simp at *; omega)
              have q7_3 : gb4 < v7.heap.size := by first | omega | (simp at *; omega)
              have HB7 := Lib.hid hB7_0
              have HE7 := Lib.hid hB7_1
              have y7 := hB7_0.size
              clear hb7 hB7_0 hB7_1 g6_0 g6_1 g6_2 g6_3 g6_4 g6_5 g6_6 g6_7 g6_8 q6_0 q6_1 q6_2 q6_3
              generalize h.cost (h.leastR xc (xm + dm)) = q2 at *
              go_wp2_with fail
              refine (HWK.out _).mono ?_
              rintro e v8 ⟨rfl, hb8⟩
              have hB8_0 : Below W0.heap.size W0 v8 := below_via (Lib.hid hb8) (by first | omega | (simp; done) | (simp; omega)) (by repeat (first | exact Below.refl _ _ | with_reducible exact HB7.out | (refine Below.alloc ?_ (by first | omega | (simp; omega) | simp) _) | (refine Below.setCell ?_ (by first | omega | (simp; omega) | simp) _) | refine Below.drew ?_))
              have hB8_1 : Below v4.heap.size v4 v8 := below_via (Lib.hid hb8) (by first | omega | (simp; done) | (simp; omega)) (by repeat (first | exact Below.refl _ _ | with_reducible exact HE7.out | (refine Below.alloc ?_ (by first | omega | (simp; omega) | simp) _) | (refine Below.setCell ?_ (by first | omega | (simp; omega) | simp) _) | refine Below.drew ?_))
              have z8 := hb8.size
              (try simp at z8)
              have HB8 := Lib.hid hB8_0
              have HE8 := Lib.hid hB8_1
              have y8 := hB8_0.size
              clear hb8 hB8_0 hB8_1 g7_0 g7_1 g7_2 g7_3 g7_4 g7_5 g7_6 g7_7 g7_8 q7_0 q7_1 q7_2 q7_3
              go_wp2_with fail
              go_ret
              exact ⟨rfl, HBW.out.trans (Below.mono (by repeat (first | exact Below.refl _ _ | with_reducible exact HB8.out | (refine Below.alloc ?_ (by first | omega | (simp; omega) | simp) _) | (refine Below.setCell ?_ (by first | omega | (simp; omega) | simp) _) | refine Below.drew ?_)) HBW.out.size)⟩
            · have hbt : btw (xm + dm) 0 99 = false := by simp [btw]; omega
              have HIM1 := Lib.hid (HIM.out (xm + dm) false hbt)
              have hwx : IntKind.i64.wrap (xm + dm) = xm + dm := IntWalk.i64_in _ ⟨by omega, by omega⟩
              clear hbt
              go_wp2_with fail
              refine (HIM1.out _).mono ?_
              rintro e v6 ⟨rfl, hb6⟩
              have hB6_0 : Below W0.heap.size W0 v6 := below_via (Lib.hid hb6) (by first | omega | (simp; done) | (simp; omega)) (by repeat (first | exact Below.refl _ _ | with_reducible exact HB5.out | (refine Below.alloc ?_ (by first | omega | (simp; omega) | simp) _) | (refine Below.setCell ?_ (by first | omega | (simp; omega) | simp) _) | refine Below.drew ?_))
              have hB6_1 : Below v4.heap.size v4 v6 := below_via (Lib.hid hb6) (by first | omega | (simp; done) | (simp; omega)) (by repeat (first | exact Below.refl _ _ | with_reducible exact HE5.out | (refine Below.alloc ?_ (by first | omega | (simp; omega) | simp) _) | (refine Below.setCell ?_ (by first | omega | (simp; omega) | simp) _) | refine Below.drew ?_))
              have z6 := hb6.size
              (try simp at z6)
              obtain ⟨g6_0, g6_1, g6_2, g6_3, g6_4, g6_5, g6_6, g6_7, g6_8⟩ : v6.cell? ⟨w.heap.size, 0, none⟩ = some (.slice (some ⟨tb, tz, none⟩) tl tc) ∧ v6.cell? ⟨w.heap.size, 1, none⟩ = some (.slice ma ml mc) ∧ v6.cell? ⟨w.heap.size + 1, 0, none⟩ = some (.int .i64 k) ∧ v6.cell? ⟨w.heap.size + 1, 1, none⟩ = some (.int .i64 xc) ∧ v6.cell? ⟨w.heap.size + 1, 2, none⟩ = some (.int .i64 xm) ∧ v6.cell? ⟨w.heap.size + 1 + 1, 0, none⟩ = some (.int .i64 dc) ∧ v6.cell? ⟨w.heap.size + 1 + 1, 1, none⟩ = some (.int .i64 dm) ∧ v6.cell? ⟨gb4, 0, none⟩ = some (.slice ga tl gac) ∧ v6.cell? ⟨gb4, 1, none⟩ = some (.slice gm ml gmc) :=
                ⟨(hb6.cell (p := ⟨w.heap.size, 0, none⟩) (by first | omega | (simp; done) | (simp; omega))).trans (by first | (go_simp; done) | (go_simp; exact set_same (u := .int .i64 0) (by go_simp; done))), (hb6.cell (p := ⟨w.heap.size, 1, none⟩) (by first | omega | (simp; done) | (simp; omega))).trans (by first | (go_simp; done) | (go_simp; exact set_same (u := .int .i64 0) (by go_simp; done))), (hb6.cell (p := ⟨w.heap.size + 1, 0, none⟩) (by first | omega | (simp; done) | (simp; omega))).trans (by first | (go_simp; done) | (go_simp; exact set_same (u := .int .i64 0) (by go_simp; done))), (hb6.cell (p := ⟨w.heap.size + 1, 1, none⟩) (by first | omega | (simp; done) | (simp; omega))).trans (by first | (go_simp; done) | (go_simp; exact set_same (u := .int .i64 0) (by go_simp; done))), (hb6.cell (p := ⟨w.heap.size + 1, 2, none⟩) (by first | omega | (simp; done) | (simp; omega))).trans (by first | (go_simp; done) | (go_simp; exact set_same (u := .int .i64 0) (by go_simp; done))), (hb6.cell (p := ⟨w.heap.size + 1 + 1, 0, none⟩) (by first | omega | (simp; done) | (simp; omega))).trans (by first | (go_simp; done) | (go_simp; exact set_same (u := .int .i64 0) (by go_simp; done))), (hb6.cell (p := ⟨w.heap.size + 1 + 1, 1, none⟩) (by first | omega | (simp; done) | (simp; omega))).trans (by first | (go_simp; done) | (go_simp; exact set_same (u := .int .i64 0) (by go_simp; done))), (hb6.cell (p := ⟨gb4, 0, none⟩) (by first | omega | (simp; done) | (simp; omega))).trans (by first | (go_simp; done) | (go_simp; exact set_same (u := .int .i64 0) (by go_simp; done))), (hb6.cell (p := ⟨gb4, 1, none⟩) (by first | omega | (simp; done) | (simp; omega))).trans (by first | (go_simp; done) | (go_simp; exact set_same (u := .int .i64 0) (by go_simp; done)))⟩
              have q6_0 : w.heap.size < v6.heap.size := by first | omega | (simp at *; omega)
              have q6_1 : w.heap.size + 1 < v6.heap.size := by first | omega | (simp at *; omega)
              have q6_2 : w.heap.size + 1 + 1 < v6.heap.size := by first | omega | (simp at *; omega)
              have q6_3 : gb4 < v6.heap.size := by first | omega | (simp at *; omega)
              have HB6 := Lib.hid hB6_0
              have HE6 := Lib.hid hB6_1
              have y6 := hB6_0.size
              clear hb6 hB6_0 hB6_1 g5_0 g5_1 g5_2 g5_3 g5_4 g5_5 g5_6 g5_7 g5_8 q5_0 q5_1 q5_2 q5_3
              go_wp2_with fail
              refine (HWK.out _).mono ?_
              rintro e v7 ⟨rfl, hb7⟩
              have hB7_0 : Below W0.heap.size W0 v7 := below_via (Lib.hid hb7) (by first | omega | (simp; done) | (simp; omega)) (by repeat (first | exact Below.refl _ _ | with_reducible exact HB6.out | (refine Below.alloc ?_ (by first | omega | (simp; omega) | simp) _) | (refine Below.setCell ?_ (by first | omega | (simp; omega) | simp) _) | refine Below.drew ?_))
              have hB7_1 : Below v4.heap.size v4 v7 := below_via (Lib.hid hb7) (by first | omega | (simp; done) | (simp; omega)) (by repeat (first | exact Below.refl _ _ | with_reducible exact HE6.out | (refine Below.alloc ?_ (by first | omega | (simp; omega) | simp) _) | (refine Below.setCell ?_ (by first | omega | (simp; omega) | simp) _) | refine Below.drew ?_))
              have z7 := hb7.size
              (try simp at z7)
              have HB7 := Lib.hid hB7_0
              have HE7 := Lib.hid hB7_1
              have y7 := hB7_0.size
              clear hb7 hB7_0 hB7_1 g6_0 g6_1 g6_2 g6_3 g6_4 g6_5 g6_6 g6_7 g6_8 q6_0 q6_1 q6_2 q6_3
              go_wp2_with fail
              go_ret
              exact ⟨rfl, HBW.out.trans (Below.mono (by repeat (first | exact Below.refl _ _ | with_reducible exact HB7.out | (refine Below.alloc ?_ (by first | omega | (simp; omega) | simp) _) | (refine Below.setCell ?_ (by first | omega | (simp; omega) | simp) _) | refine Below.drew ?_)) HBW.out.size)⟩
          · have HR2 := Lib.hid (HRQ.out true hro)
            have hwok := HOK.out _ hro
            have HC2 := Lib.hid (HCO.out (cx + dc) hwok)
            have hpc := HPC.out hwok
            clear hro HRQ hwok
            generalize (h.priced k (cx + dc)).cost ((h.priced k (cx + dc)).leastR xc xm) = q1 at *
            have hwq : IntKind.i64.wrap (q0 + dc) = q0 + dc := IntWalk.i64_in _ ⟨by omega, by omega⟩
            have hn1 : ¬ q1 < q0 := by omega
            have hn2 : ¬ q0 + dc < q1 := by omega
            clear hpc
            go_wp2_with fail
            refine (HR2.out _ ga gac gm gmc (HAT.out.below (by repeat (first | exact Below.refl _ _ | (refine Below.alloc ?_ (by first | omega | (simp; omega) | simp) _) | (refine Below.setCell ?_ (by first | omega | (simp; omega) | simp) _) | refine Below.drew ?_)))).mono ?_
            rintro e v5 ⟨rfl, hb5⟩
            have hB5_0 : Below W0.heap.size W0 v5 := below_via (Lib.hid hb5) (by first | omega | (simp; done) | (simp; omega)) (by repeat (first | exact Below.refl _ _ | with_reducible exact HB4.out | (refine Below.alloc ?_ (by first | omega | (simp; omega) | simp) _) | (refine Below.setCell ?_ (by first | omega | (simp; omega) | simp) _) | refine Below.drew ?_))
            have hB5_1 : Below v4.heap.size v4 v5 := below_via (Lib.hid hb5) (by first | omega | (simp; done) | (simp; omega)) (by repeat (first | exact Below.refl _ _ | (refine Below.alloc ?_ (by first | omega | (simp; omega) | simp) _) | (refine Below.setCell ?_ (by first | omega | (simp; omega) | simp) _) | refine Below.drew ?_))
            have z5 := hb5.size
            (try simp at z5)
            obtain ⟨g5_0, g5_1, g5_2, g5_3, g5_4, g5_5, g5_6, g5_7, g5_8⟩ : v5.cell? ⟨w.heap.size, 0, none⟩ = some (.slice (some ⟨tb, tz, none⟩) tl tc) ∧ v5.cell? ⟨w.heap.size, 1, none⟩ = some (.slice ma ml mc) ∧ v5.cell? ⟨w.heap.size + 1, 0, none⟩ = some (.int .i64 k) ∧ v5.cell? ⟨w.heap.size + 1, 1, none⟩ = some (.int .i64 xc) ∧ v5.cell? ⟨w.heap.size + 1, 2, none⟩ = some (.int .i64 xm) ∧ v5.cell? ⟨w.heap.size + 1 + 1, 0, none⟩ = some (.int .i64 dc) ∧ v5.cell? ⟨w.heap.size + 1 + 1, 1, none⟩ = some (.int .i64 dm) ∧ v5.cell? ⟨gb4, 0, none⟩ = some (.slice ga tl gac) ∧ v5.cell? ⟨gb4, 1, none⟩ = some (.slice gm ml gmc) :=
              ⟨(hb5.cell (p := ⟨w.heap.size, 0, none⟩) (by first | omega | (simp; done) | (simp; omega))).trans (by first | (go_simp; done) | (go_simp; exact set_same (u := .int .i64 0) (by go_simp; done))), (hb5.cell (p := ⟨w.heap.size, 1, none⟩) (by first | omega | (simp; done) | (simp; omega))).trans (by first | (go_simp; done) | (go_simp; exact set_same (u := .int .i64 0) (by go_simp; done))), (hb5.cell (p := ⟨w.heap.size + 1, 0, none⟩) (by first | omega | (simp; done) | (simp; omega))).trans (by first | (go_simp; done) | (go_simp; exact set_same (u := .int .i64 0) (by go_simp; done))), (hb5.cell (p := ⟨w.heap.size + 1, 1, none⟩) (by first | omega | (simp; done) | (simp; omega))).trans (by first | (go_simp; done) | (go_simp; exact set_same (u := .int .i64 0) (by go_simp; done))), (hb5.cell (p := ⟨w.heap.size + 1, 2, none⟩) (by first | omega | (simp; done) | (simp; omega))).trans (by first | (go_simp; done) | (go_simp; exact set_same (u := .int .i64 0) (by go_simp; done))), (hb5.cell (p := ⟨w.heap.size + 1 + 1, 0, none⟩) (by first | omega | (simp; done) | (simp; omega))).trans (by first | (go_simp; done) | (go_simp; exact set_same (u := .int .i64 0) (by go_simp; done))), (hb5.cell (p := ⟨w.heap.size + 1 + 1, 1, none⟩) (by first | omega | (simp; done) | (simp; omega))).trans (by first | (go_simp; done) | (go_simp; exact set_same (u := .int .i64 0) (by go_simp; done))), (hb5.cell (p := ⟨gb4, 0, none⟩) (by first | omega | (simp; done) | (simp; omega))).trans (by first | (go_simp; done) | (go_simp; exact set_same (u := .int .i64 0) (by go_simp; done))), (hb5.cell (p := ⟨gb4, 1, none⟩) (by first | omega | (simp; done) | (simp; omega))).trans (by first | (go_simp; done) | (go_simp; exact set_same (u := .int .i64 0) (by go_simp; done)))⟩
            have q5_0 : w.heap.size < v5.heap.size := by first | omega | (simp at *; omega)
            have q5_1 : w.heap.size + 1 < v5.heap.size := by first | omega | (simp at *; omega)
            have q5_2 : w.heap.size + 1 + 1 < v5.heap.size := by first | omega | (simp at *; omega)
            have q5_3 : gb4 < v5.heap.size := by first | omega | (simp at *; omega)
            have HB5 := Lib.hid hB5_0
            have HE5 := Lib.hid hB5_1
            have y5 := hB5_0.size
            clear hb5 hB5_0 hB5_1 g4_0 g4_1 g4_2 g4_3 g4_4 g4_5 g4_6 g4_7 g4_8 q4_0 q4_1 q4_2 q4_3
            go_wp2_with fail
            refine (HC2.out _ ga gac gm gmc (HAT.out.below (by repeat (first | exact Below.refl _ _ | with_reducible exact HE5.out | (refine Below.alloc ?_ (by first | omega | (simp; omega) | simp) _) | (refine Below.setCell ?_ (by first | omega | (simp; omega) | simp) _) | refine Below.drew ?_)))).mono ?_
            rintro e v6 ⟨rfl, hb6⟩
            have hB6_0 : Below W0.heap.size W0 v6 := below_via (Lib.hid hb6) (by first | omega | (simp; done) | (simp; omega)) (by repeat (first | exact Below.refl _ _ | with_reducible exact HB5.out | (refine Below.alloc ?_ (by first | omega | (simp; omega) | simp) _) | (refine Below.setCell ?_ (by first | omega | (simp; omega) | simp) _) | refine Below.drew ?_))
            have hB6_1 : Below v4.heap.size v4 v6 := below_via (Lib.hid hb6) (by first | omega | (simp; done) | (simp; omega)) (by repeat (first | exact Below.refl _ _ | with_reducible exact HE5.out | (refine Below.alloc ?_ (by first | omega | (simp; omega) | simp) _) | (refine Below.setCell ?_ (by first | omega | (simp; omega) | simp) _) | refine Below.drew ?_))
            have z6 := hb6.size
            (try simp at z6)
            obtain ⟨g6_0, g6_1, g6_2, g6_3, g6_4, g6_5, g6_6, g6_7, g6_8⟩ : v6.cell? ⟨w.heap.size, 0, none⟩ = some (.slice (some ⟨tb, tz, none⟩) tl tc) ∧ v6.cell? ⟨w.heap.size, 1, none⟩ = some (.slice ma ml mc) ∧ v6.cell? ⟨w.heap.size + 1, 0, none⟩ = some (.int .i64 k) ∧ v6.cell? ⟨w.heap.size + 1, 1, none⟩ = some (.int .i64 xc) ∧ v6.cell? ⟨w.heap.size + 1, 2, none⟩ = some (.int .i64 xm) ∧ v6.cell? ⟨w.heap.size + 1 + 1, 0, none⟩ = some (.int .i64 dc) ∧ v6.cell? ⟨w.heap.size + 1 + 1, 1, none⟩ = some (.int .i64 dm) ∧ v6.cell? ⟨gb4, 0, none⟩ = some (.slice ga tl gac) ∧ v6.cell? ⟨gb4, 1, none⟩ = some (.slice gm ml gmc) :=
              ⟨(hb6.cell (p := ⟨w.heap.size, 0, none⟩) (by first | omega | (simp; done) | (simp; omega))).trans (by first | (go_simp; done) | (go_simp; exact set_same (u := .int .i64 0) (by go_simp; done))), (hb6.cell (p := ⟨w.heap.size, 1, none⟩) (by first | omega | (simp; done) | (simp; omega))).trans (by first | (go_simp; done) | (go_simp; exact set_same (u := .int .i64 0) (by go_simp; done))), (hb6.cell (p := ⟨w.heap.size + 1, 0, none⟩) (by first | omega | (simp; done) | (simp; omega))).trans (by first | (go_simp; done) | (go_simp; exact set_same (u := .int .i64 0) (by go_simp; done))), (hb6.cell (p := ⟨w.heap.size + 1, 1, none⟩) (by first | omega | (simp; done) | (simp; omega))).trans (by first | (go_simp; done) | (go_simp; exact set_same (u := .int .i64 0) (by go_simp; done))), (hb6.cell (p := ⟨w.heap.size + 1, 2, none⟩) (by first | omega | (simp; done) | (simp; omega))).trans (by first | (go_simp; done) | (go_simp; exact set_same (u := .int .i64 0) (by go_simp; done))), (hb6.cell (p := ⟨w.heap.size + 1 + 1, 0, none⟩) (by first | omega | (simp; done) | (simp; omega))).trans (by first | (go_simp; done) | (go_simp; exact set_same (u := .int .i64 0) (by go_simp; done))), (hb6.cell (p := ⟨w.heap.size + 1 + 1, 1, none⟩) (by first | omega | (simp; done) | (simp; omega))).trans (by first | (go_simp; done) | (go_simp; exact set_same (u := .int .i64 0) (by go_simp; done))), (hb6.cell (p := ⟨gb4, 0, none⟩) (by first | omega | (simp; done) | (simp; omega))).trans (by first | (go_simp; done) | (go_simp; exact set_same (u := .int .i64 0) (by go_simp; done))), (hb6.cell (p := ⟨gb4, 1, none⟩) (by first | omega | (simp; done) | (simp; omega))).trans (by first | (go_simp; done) | (go_simp; exact set_same (u := .int .i64 0) (by go_simp; done)))⟩
            have q6_0 : w.heap.size < v6.heap.size := by first | omega | (simp at *; omega)
            have q6_1 : w.heap.size + 1 < v6.heap.size := by first | omega | (simp at *; omega)
            have q6_2 : w.heap.size + 1 + 1 < v6.heap.size := by first | omega | (simp at *; omega)
            have q6_3 : gb4 < v6.heap.size := by first | omega | (simp at *; omega)
            have HB6 := Lib.hid hB6_0
            have HE6 := Lib.hid hB6_1
            have y6 := hB6_0.size
            clear hb6 hB6_0 hB6_1 g5_0 g5_1 g5_2 g5_3 g5_4 g5_5 g5_6 g5_7 g5_8 q5_0 q5_1 q5_2 q5_3
            by_cases hl : xm + dm ≤ 99
            · have hbt : btw (xm + dm) 0 99 = true := by simp [btw]; omega
              have hqq := HLC.out hl
              have HIM1 := Lib.hid (HIM.out (xm + dm) true hbt)
              have HCL := Lib.hid (HCH.out (xm + dm) hbt)
              have hwx : IntKind.i64.wrap (xm + dm) = xm + dm := IntWalk.i64_in _ ⟨by omega, by omega⟩
              clear hbt
              go_wp2_with fail
              refine (HIM1.out _).mono ?_
              rintro e v7 ⟨rfl, hb7⟩
              have hB7_0 : Below W0.heap.size W0 v7 := below_via (Lib.hid hb7) (by first | omega | (simp; done) | (simp; omega)) (by repeat (first | exact Below.refl _ _ | with_reducible exact HB6.out | (refine Below.alloc ?_ (by first | omega | (simp; omega) | simp) _) | (refine Below.setCell ?_ (by first | omega | (simp; omega) | simp) _) | refine Below.drew ?_))
              have hB7_1 : Below v4.heap.size v4 v7 := below_via (Lib.hid hb7) (by first | omega | (simp; done) | (simp; omega)) (by repeat (first | exact Below.refl _ _ | with_reducible exact HE6.out | (refine Below.alloc ?_ (by first | omega | (simp; omega) | simp) _) | (refine Below.setCell ?_ (by first | omega | (simp; omega) | simp) _) | refine Below.drew ?_))
              have z7 := hb7.size
              (try simp at z7)
              obtain ⟨g7_0, g7_1, g7_2, g7_3, g7_4, g7_5, g7_6, g7_7, g7_8⟩ : v7.cell? ⟨w.heap.size, 0, none⟩ = some (.slice (some ⟨tb, tz, none⟩) tl tc) ∧ v7.cell? ⟨w.heap.size, 1, none⟩ = some (.slice ma ml mc) ∧ v7.cell? ⟨w.heap.size + 1, 0, none⟩ = some (.int .i64 k) ∧ v7.cell? ⟨w.heap.size + 1, 1, none⟩ = some (.int .i64 xc) ∧ v7.cell? ⟨w.heap.size + 1, 2, none⟩ = some (.int .i64 xm) ∧ v7.cell? ⟨w.heap.size + 1 + 1, 0, none⟩ = some (.int .i64 dc) ∧ v7.cell? ⟨w.heap.size + 1 + 1, 1, none⟩ = some (.int .i64 dm) ∧ v7.cell? ⟨gb4, 0, none⟩ = some (.slice ga tl gac) ∧ v7.cell? ⟨gb4, 1, none⟩ = some (.slice gm ml gmc) :=
                ⟨(hb7.cell (p := ⟨w.heap.size, 0, none⟩) (by first | omega | (simp; done) | (simp; omega))).trans (by first | (go_simp; done) | (go_simp; exact set_same (u := .int .i64 0) (by go_simp; done))), (hb7.cell (p := ⟨w.heap.size, 1, none⟩) (by first | omega | (simp; done) | (simp; omega))).trans (by first | (go_simp; done) | (go_simp; exact set_same (u := .int .i64 0) (by go_simp; done))), (hb7.cell (p := ⟨w.heap.size + 1, 0, none⟩) (by first | omega | (simp; done) | (simp; omega))).trans (by first | (go_simp; done) | (go_simp; exact set_same (u := .int .i64 0) (by go_simp; done))), (hb7.cell (p := ⟨w.heap.size + 1, 1, none⟩) (by first | omega | (simp; done) | (simp; omega))).trans (by first | (go_simp; done) | (go_simp; exact set_same (u := .int .i64 0) (by go_simp; done))), (hb7.cell (p := ⟨w.heap.size + 1, 2, none⟩) (by first | omega | (simp; done) | (simp; omega))).trans (by first | (go_simp; done) | (go_simp; exact set_same (u := .int .i64 0) (by go_simp; done))), (hb7.cell (p := ⟨w.heap.size + 1 + 1, 0, none⟩) (by first | omega | (simp; done) | (simp; omega))).trans (by first | (go_simp; done) | (go_simp; exact set_same (u := .int .i64 0) (by go_simp; done))), (hb7.cell (p := ⟨w.heap.size + 1 + 1, 1, none⟩) (by first | omega | (simp; done) | (simp; omega))).trans (by first | (go_simp; done) | (go_simp; exact set_same (u := .int .i64 0) (by go_simp; done))), (hb7.cell (p := ⟨gb4, 0, none⟩) (by first | omega | (simp; done) | (simp; omega))).trans (by first | (go_simp; done) | (go_simp; exact set_same (u := .int .i64 0) (by go_simp; done))), (hb7.cell (p := ⟨gb4, 1, none⟩) (by first | omega | (simp; done) | (simp; omega))).trans (by first | (go_simp; done) | (go_simp; exact set_same (u := .int .i64 0) (by go_simp; done)))⟩
              have q7_0 : w.heap.size < v7.heap.size := by first | omega | (simp at *; omega)
              have q7_1 : w.heap.size + 1 < v7.heap.size := by first | omega | (simp at *; omega)
              have q7_2 : w.heap.size + 1 + 1 < v7.heap.size := by first | omega | (simp at *; omega)
              have q7_3 : gb4 < v7.heap.size := by first | omega | (simp at *; omega)
              have HB7 := Lib.hid hB7_0
              have HE7 := Lib.hid hB7_1
              have y7 := hB7_0.size
              clear hb7 hB7_0 hB7_1 g6_0 g6_1 g6_2 g6_3 g6_4 g6_5 g6_6 g6_7 g6_8 q6_0 q6_1 q6_2 q6_3
              go_wp2_with fail
              refine (HCL.out _ (HBW.out.trans (Below.mono (by repeat (first | exact Below.refl _ _ | with_reducible exact HB7.out | (refine Below.alloc ?_ (by first | omega | (simp; omega) | simp) _) | (refine Below.setCell ?_ (by first | omega | (simp; omega) | simp) _) | refine Below.drew ?_)) HBW.out.size))).mono ?_
              rintro e v8 ⟨rfl, hb8⟩
              have hB8_0 : Below W0.heap.size W0 v8 := below_via (Lib.hid hb8) (by first | omega | (simp; done) | (simp; omega)) (by repeat (first | exact Below.refl _ _ | with_reducible exact HB7.out | (refine Below.alloc ?_ (by first | omega | (simp; omega) | simp) _) | (refine Below.setCell ?_ (by first | omega | (simp; omega) | simp) _) | refine Below.drew ?_))
              have hB8_1 : Below v4.heap.size v4 v8 := below_via (Lib.hid hb8) (by first | omega | (simp; done) | (simp; omega)) (by repeat (first | exact Below.refl _ _ | with_reducible exact HE7.out | (refine Below.alloc ?_ (by first | omega | (simp; omega) | simp) _) | (refine Below.setCell ?_ (by first | omega | (simp; omega) | simp) _) | refine Below.drew ?_))
              have z8 := hb8.size
              (try simp at z8)
              obtain ⟨g8_0, g8_1, g8_2, g8_3, g8_4, g8_5, g8_6, g8_7, g8_8⟩ : v8.cell? ⟨w.heap.size, 0, none⟩ = some (.slice (some ⟨tb, tz, none⟩) tl tc) ∧ v8.cell? ⟨w.heap.size, 1, none⟩ = some (.slice ma ml mc) ∧ v8.cell? ⟨w.heap.size + 1, 0, none⟩ = some (.int .i64 k) ∧ v8.cell? ⟨w.heap.size + 1, 1, none⟩ = some (.int .i64 xc) ∧ v8.cell? ⟨w.heap.size + 1, 2, none⟩ = some (.int .i64 xm) ∧ v8.cell? ⟨w.heap.size + 1 + 1, 0, none⟩ = some (.int .i64 dc) ∧ v8.cell? ⟨w.heap.size + 1 + 1, 1, none⟩ = some (.int .i64 dm) ∧ v8.cell? ⟨gb4, 0, none⟩ = some (.slice ga tl gac) ∧ v8.cell? ⟨gb4, 1, none⟩ = some (.slice gm ml gmc) :=
                ⟨(hb8.cell (p := ⟨w.heap.size, 0, none⟩) (by first | omega | (simp; done) | (simp; omega))).trans (by first | (go_simp; done) | (go_simp; exact set_same (u := .int .i64 0) (by go_simp; done))), (hb8.cell (p := ⟨w.heap.size, 1, none⟩) (by first | omega | (simp; done) | (simp; omega))).trans (by first | (go_simp; done) | (go_simp; exact set_same (u := .int .i64 0) (by go_simp; done))), (hb8.cell (p := ⟨w.heap.size + 1, 0, none⟩) (by first | omega | (simp; done) | (simp; omega))).trans (by first | (go_simp; done) | (go_simp; exact set_same (u := .int .i64 0) (by go_simp; done))), (hb8.cell (p := ⟨w.heap.size + 1, 1, none⟩) (by first | omega | (simp; done) | (simp; omega))).trans (by first | (go_simp; done) | (go_simp; exact set_same (u := .int .i64 0) (by go_simp; done))), (hb8.cell (p := ⟨w.heap.size + 1, 2, none⟩) (by first | omega | (simp; done) | (simp; omega))).trans (by first | (go_simp; done) | (go_simp; exact set_same (u := .int .i64 0) (by go_simp; done))), (hb8.cell (p := ⟨w.heap.size + 1 + 1, 0, none⟩) (by first | omega | (simp; done) | (simp; omega))).trans (by first | (go_simp; done) | (go_simp; exact set_same (u := .int .i64 0) (by go_simp; done))), (hb8.cell (p := ⟨w.heap.size + 1 + 1, 1, none⟩) (by first | omega | (simp; done) | (simp; omega))).trans (by first | (go_simp; done) | (go_simp; exact set_same (u := .int .i64 0) (by go_simp; done))), (hb8.cell (p := ⟨gb4, 0, none⟩) (by first | omega | (simp; done) | (simp; omega))).trans (by first | (go_simp; done) | (go_simp; exact set_same (u := .int .i64 0) (by go_simp; done))), (hb8.cell (p := ⟨gb4, 1, none⟩) (by first | omega | (simp; done) | (simp; omega))).trans (by first | (go_simp; done) | (go_simp; exact set_same (u := .int .i64 0) (by go_simp; done)))⟩
              have q8_0 : w.heap.size < v8.heap.size := by first | omega | (simp at *; omega)
              have q8_1 : w.heap.size + 1 < v8.heap.size := by first | omega | (simp at *; omega)
              have q8_2 : w.heap.size + 1 + 1 < v8.heap.size := by first | omega | (simp at *; omega)
              have q8_3 : gb4 < v8.heap.size := by first | omega | (simp at *; omega)
              have HB8 := Lib.hid hB8_0
              have HE8 := Lib.hid hB8_1
              have y8 := hB8_0.size
              clear hb8 hB8_0 hB8_1 g7_0 g7_1 g7_2 g7_3 g7_4 g7_5 g7_6 g7_7 g7_8 q7_0 q7_1 q7_2 q7_3
              generalize h.cost (h.leastR xc (xm + dm)) = q2 at *
              go_wp2_with fail
              refine (HWK.out _).mono ?_
              rintro e v9 ⟨rfl, hb9⟩
              have hB9_0 : Below W0.heap.size W0 v9 := below_via (Lib.hid hb9) (by first | omega | (simp; done) | (simp; omega)) (by repeat (first | exact Below.refl _ _ | with_reducible exact HB8.out | (refine Below.alloc ?_ (by first | omega | (simp; omega) | simp) _) | (refine Below.setCell ?_ (by first | omega | (simp; omega) | simp) _) | refine Below.drew ?_))
              have hB9_1 : Below v4.heap.size v4 v9 := below_via (Lib.hid hb9) (by first | omega | (simp; done) | (simp; omega)) (by repeat (first | exact Below.refl _ _ | with_reducible exact HE8.out | (refine Below.alloc ?_ (by first | omega | (simp; omega) | simp) _) | (refine Below.setCell ?_ (by first | omega | (simp; omega) | simp) _) | refine Below.drew ?_))
              have z9 := hb9.size
              (try simp at z9)
              have HB9 := Lib.hid hB9_0
              have HE9 := Lib.hid hB9_1
              have y9 := hB9_0.size
              clear hb9 hB9_0 hB9_1 g8_0 g8_1 g8_2 g8_3 g8_4 g8_5 g8_6 g8_7 g8_8 q8_0 q8_1 q8_2 q8_3
              go_wp2_with fail
              go_ret
              exact ⟨rfl, HBW.out.trans (Below.mono (by repeat (first | exact Below.refl _ _ | with_reducible exact HB9.out | (refine Below.alloc ?_ (by first | omega | (simp; omega) | simp) _) | (refine Below.setCell ?_ (by first | omega | (simp; omega) | simp) _) | refine Below.drew ?_)) HBW.out.size)⟩
            · have hbt : btw (xm + dm) 0 99 = false := by simp [btw]; omega
              have HIM1 := Lib.hid (HIM.out (xm + dm) false hbt)
              have hwx : IntKind.i64.wrap (xm + dm) = xm + dm := IntWalk.i64_in _ ⟨by omega, by omega⟩
              clear hbt
              go_wp2_with fail
              refine (HIM1.out _).mono ?_
              rintro e v7 ⟨rfl, hb7⟩
              have hB7_0 : Below W0.heap.size W0 v7 := below_via (Lib.hid hb7) (by first | omega | (simp; done) | (simp; omega)) (by repeat (first | exact Below.refl _ _ | with_reducible exact HB6.out | (refine Below.alloc ?_ (by first | omega | (simp; omega) | simp) _) | (refine Below.setCell ?_ (by first | omega | (simp; omega) | simp) _) | refine Below.drew ?_))
              have hB7_1 : Below v4.heap.size v4 v7 := below_via (Lib.hid hb7) (by first | omega | (simp; done) | (simp; omega)) (by repeat (first | exact Below.refl _ _ | with_reducible exact HE6.out | (refine Below.alloc ?_ (by first | omega | (simp; omega) | simp) _) | (refine Below.setCell ?_ (by first | omega | (simp; omega) | simp) _) | refine Below.drew ?_))
              have z7 := hb7.size
              (try simp at z7)
              obtain ⟨g7_0, g7_1, g7_2, g7_3, g7_4, g7_5, g7_6, g7_7, g7_8⟩ : v7.cell? ⟨w.heap.size, 0, none⟩ = some (.slice (some ⟨tb, tz, none⟩) tl tc) ∧ v7.cell? ⟨w.heap.size, 1, none⟩ = some (.slice ma ml mc) ∧ v7.cell? ⟨w.heap.size + 1, 0, none⟩ = some (.int .i64 k) ∧ v7.cell? ⟨w.heap.size + 1, 1, none⟩ = some (.int .i64 xc) ∧ v7.cell? ⟨w.heap.size + 1, 2, none⟩ = some (.int .i64 xm) ∧ v7.cell? ⟨w.heap.size + 1 + 1, 0, none⟩ = some (.int .i64 dc) ∧ v7.cell? ⟨w.heap.size + 1 + 1, 1, none⟩ = some (.int .i64 dm) ∧ v7.cell? ⟨gb4, 0, none⟩ = some (.slice ga tl gac) ∧ v7.cell? ⟨gb4, 1, none⟩ = some (.slice gm ml gmc) :=
                ⟨(hb7.cell (p := ⟨w.heap.size, 0, none⟩) (by first | omega | (simp; done) | (simp; omega))).trans (by first | (go_simp; done) | (go_simp; exact set_same (u := .int .i64 0) (by go_simp; done))), (hb7.cell (p := ⟨w.heap.size, 1, none⟩) (by first | omega | (simp; done) | (simp; omega))).trans (by first | (go_simp; done) | (go_simp; exact set_same (u := .int .i64 0) (by go_simp; done))), (hb7.cell (p := ⟨w.heap.size + 1, 0, none⟩) (by first | omega | (simp; done) | (simp; omega))).trans (by first | (go_simp; done) | (go_simp; exact set_same (u := .int .i64 0) (by go_simp; done))), (hb7.cell (p := ⟨w.heap.size + 1, 1, none⟩) (by first | omega | (simp; done) | (simp; omega))).trans (by first | (go_simp; done) | (go_simp; exact set_same (u := .int .i64 0) (by go_simp; done))), (hb7.cell (p := ⟨w.heap.size + 1, 2, none⟩) (by first | omega | (simp; done) | (simp; omega))).trans (by first | (go_simp; done) | (go_simp; exact set_same (u := .int .i64 0) (by go_simp; done))), (hb7.cell (p := ⟨w.heap.size + 1 + 1, 0, none⟩) (by first | omega | (simp; done) | (simp; omega))).trans (by first | (go_simp; done) | (go_simp; exact set_same (u := .int .i64 0) (by go_simp; done))), (hb7.cell (p := ⟨w.heap.size + 1 + 1, 1, none⟩) (by first | omega | (simp; done) | (simp; omega))).trans (by first | (go_simp; done) | (go_simp; exact set_same (u := .int .i64 0) (by go_simp; done))), (hb7.cell (p := ⟨gb4, 0, none⟩) (by first | omega | (simp; done) | (simp; omega))).trans (by first | (go_simp; done) | (go_simp; exact set_same (u := .int .i64 0) (by go_simp; done))), (hb7.cell (p := ⟨gb4, 1, none⟩) (by first | omega | (simp; done) | (simp; omega))).trans (by first | (go_simp; done) | (go_simp; exact set_same (u := .int .i64 0) (by go_simp; done)))⟩
              have q7_0 : w.heap.size < v7.heap.size := by first | omega | (simp at *; omega)
              have q7_1 : w.heap.size + 1 < v7.heap.size := by first | omega | (simp at *; omega)
              have q7_2 : w.heap.size + 1 + 1 < v7.heap.size := by first | omega | (simp at *; omega)
              have q7_3 : gb4 < v7.heap.size := by first | omega | (simp at *; omega)
              have HB7 := Lib.hid hB7_0
              have HE7 := Lib.hid hB7_1
              have y7 := hB7_0.size
              clear hb7 hB7_0 hB7_1 g6_0 g6_1 g6_2 g6_3 g6_4 g6_5 g6_6 g6_7 g6_8 q6_0 q6_1 q6_2 q6_3
              go_wp2_with fail
              refine (HWK.out _).mono ?_
              rintro e v8 ⟨rfl, hb8⟩
              have hB8_0 : Below W0.heap.size W0 v8 := below_via (Lib.hid hb8) (by first | omega | (simp; done) | (simp; omega)) (by repeat (first | exact Below.refl _ _ | with_reducible exact HB7.out | (refine Below.alloc ?_ (by first | omega | (simp; omega) | simp) _) | (refine Below.setCell ?_ (by first | omega | (simp; omega) | simp) _) | refine Below.drew ?_))
              have hB8_1 : Below v4.heap.size v4 v8 := below_via (Lib.hid hb8) (by first | omega | (simp; done) | (simp; omega)) (by repeat (first | exact Below.refl _ _ | with_reducible exact HE7.out | (refine Below.alloc ?_ (by first | omega | (simp; omega) | simp) _) | (refine Below.setCell ?_ (by first | omega | (simp; omega) | simp) _) | refine Below.drew ?_))
              have z8 := hb8.size
              (try simp at z8)
              have HB8 := Lib.hid hB8_0
              have HE8 := Lib.hid hB8_1
              have y8 := hB8_0.size
              clear hb8 hB8_0 hB8_1 g7_0 g7_1 g7_2 g7_3 g7_4 g7_5 g7_6 g7_7 g7_8 q7_0 q7_1 q7_2 q7_3
              go_wp2_with fail
              go_ret
              exact ⟨rfl, HBW.out.trans (Below.mono (by repeat (first | exact Below.refl _ _ | with_reducible exact HB8.out | (refine Below.alloc ?_ (by first | omega | (simp; omega) | simp) _) | (refine Below.setCell ?_ (by first | omega | (simp; omega) | simp) _) | refine Below.drew ?_)) HBW.out.size)⟩
end Go.Proofs.Ytedfdhpggghjeaa
