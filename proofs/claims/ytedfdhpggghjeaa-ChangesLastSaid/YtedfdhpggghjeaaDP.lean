/- The laws of changes: ChangesStays. -/
import Derived.Test.YtedfdhpggghjeaaDO
import Derived.Test.YtedfdhpggghjeaaDM
namespace Go.Proofs.Ytedfdhpggghjeaa
set_option linter.unusedVariables false
set_option linter.unusedSimpArgs false
open Go.RowKit Go.Shelf

theorem ask_parts {h : CHouse} {t c m : Int} (ha : h.askB t c m = true) : (∃ k : Nat, t = (k : Int) ∧ k < h.things.length) ∧ btw c 0 2 = true ∧ btw m 0 99 = true := by
  unfold CHouse.askB at ha
  simp only [Bool.and_eq_true] at ha
  refine ⟨⟨t.toNat, ?_⟩, ha.1.2, ha.2⟩
  have := ha.1.1
  simp [btw] at this
  omega
/-- A copy's marks and one more. -/
theorem marks_more {w : World} {n0 k : Nat} {na : Option Addr} {nc : Nat} {ms : List CMark} {m : CMark} (h : w.ownsRow n0 52 3 (.slice na (k + 1) nc) (k + 1) (ms.flatMap CMark.cells ++ [.int .i64 m.c, .int .i64 m.t, .int .i64 m.a])) : MarksAt w na (k + 1) (ms ++ [m]) ∧ k + 1 ≤ nc ∧ nc ≤ maxLen := by
  have h2 : w.ownsRow n0 52 3 (.slice na (k + 1) nc) (k + 1) ((ms ++ [m]).flatMap CMark.cells) := by
    rw [flat_snoc]; exact h
  obtain ⟨a, cap, e, hm, hc⟩ := marks_own h2
  injection e with e1 e2 e3
  subst e1 e3
  exact ⟨hm, hc⟩

set_option maxRecDepth 100000 in
set_option maxHeartbeats 16000000 in
theorem ChangesStays_any (h : CHouse) (ta : Option Addr) (tl tc : Nat) (ma : Option Addr) (ml mc : Nat) (xt xc xm : Int) (m : CMark) (w : World) (hp : HAt w ta tl tc ma ml mc h) :
    Calls Try.prog 6 #[.agg #[.slice ta tl tc, .slice ma ml mc], .agg #[.int .i64 xt, .int .i64 xc, .int .i64 xm], .agg #[.int .i64 m.c, .int .i64 m.t, .int .i64 m.a]] w fun e w' => e = .returned (.bool true) ∧ Below w.heap.size w w' := by
  have HWK := Lib.hid (fun W => works_any W)
  have HRD := Lib.hid (fun b (hb : h.ready = b) W (hw : Below w.heap.size w W) => ready_is h ta tl tc ma ml mc b hb W (hp.below hw))
  have HAK := Lib.hid (fun b (hb : h.askB xt xc xm = b) W (hw : Below w.heap.size w W) => isAsk_is h ta tl tc ma ml mc xt xc xm b hb W (hp.below hw))
  rcases hr : h.ready with - | -
  · have HR1 := Lib.hid (HRD.out false hr)
    clear hp HRD HAK
    go_enter Try.func6, Try.ntmps6
    go_wp2_with fail
    obtain ⟨W0, hW0, hB0, ⟨g0_0, g0_1, g0_2, g0_3, g0_4, g0_5, g0_6, g0_7⟩, hz0⟩ : ∃ W0, (((w.alloc (.cells #[.slice ta tl tc, .slice ma ml mc] 25)).alloc (.cells #[.int .i64 xt, .int .i64 xc, .int .i64 xm] 27)).alloc (.cells #[.int .i64 m.c, .int .i64 m.t, .int .i64 m.a] 52)) = W0 ∧ Below w.heap.size w W0 ∧ (W0.cell? ⟨w.heap.size, 0, none⟩ = some (.slice ta tl tc) ∧ W0.cell? ⟨w.heap.size, 1, none⟩ = some (.slice ma ml mc) ∧ W0.cell? ⟨w.heap.size + 1, 0, none⟩ = some (.int .i64 xt) ∧ W0.cell? ⟨w.heap.size + 1, 1, none⟩ = some (.int .i64 xc) ∧ W0.cell? ⟨w.heap.size + 1, 2, none⟩ = some (.int .i64 xm) ∧ W0.cell? ⟨w.heap.size + 1 + 1, 0, none⟩ = some (.int .i64 m.c) ∧ W0.cell? ⟨w.heap.size + 1 + 1, 1, none⟩ = some (.int .i64 m.t) ∧ W0.cell? ⟨w.heap.size + 1 + 1, 2, none⟩ = some (.int .i64 m.a)) ∧ W0.heap.size = w.heap.size + 1 + 1 + 1 :=
      ⟨_, rfl, (by repeat (first | exact Below.refl _ _ | (refine Below.alloc ?_ (by first | omega | (simp; omega) | simp) _) | (refine Below.setCell ?_ (by first | omega | (simp; omega) | simp) _) | refine Below.drew ?_)), ⟨by go_simp, by go_simp, by go_simp, by go_simp, by go_simp, by go_simp, by go_simp, by go_simp⟩, by simp⟩
    rw [hW0]
    clear hW0
    have HBW := Lib.hid hB0
    have q0_0 : w.heap.size < W0.heap.size := by omega
    have q0_1 : w.heap.size + 1 < W0.heap.size := by omega
    have q0_2 : w.heap.size + 1 + 1 < W0.heap.size := by omega
    clear hB0 hz0
    go_wp2_with fail
    refine (HR1.out _ (HBW.out.trans (Below.mono (by repeat (first | exact Below.refl _ _ | (refine Below.alloc ?_ (by first | omega | (simp; omega) | simp) _) | (refine Below.setCell ?_ (by first | omega | (simp; omega) | simp) _) | refine Below.drew ?_)) HBW.out.size))).mono ?_
    rintro e v1 ⟨rfl, hb1⟩
    have hB1_0 : Below W0.heap.size W0 v1 := below_via (Lib.hid hb1) (by first | omega | (simp; done) | (simp; omega)) (by repeat (first | exact Below.refl _ _ | (refine Below.alloc ?_ (by first | omega | (simp; omega) | simp) _) | (refine Below.setCell ?_ (by first | omega | (simp; omega) | simp) _) | refine Below.drew ?_))
    have z1 := hb1.size
    (try simp at z1)
    obtain ⟨g1_0, g1_1, g1_2, g1_3, g1_4, g1_5, g1_6, g1_7⟩ : v1.cell? ⟨w.heap.size, 0, none⟩ = some (.slice ta tl tc) ∧ v1.cell? ⟨w.heap.size, 1, none⟩ = some (.slice ma ml mc) ∧ v1.cell? ⟨w.heap.size + 1, 0, none⟩ = some (.int .i64 xt) ∧ v1.cell? ⟨w.heap.size + 1, 1, none⟩ = some (.int .i64 xc) ∧ v1.cell? ⟨w.heap.size + 1, 2, none⟩ = some (.int .i64 xm) ∧ v1.cell? ⟨w.heap.size + 1 + 1, 0, none⟩ = some (.int .i64 m.c) ∧ v1.cell? ⟨w.heap.size + 1 + 1, 1, none⟩ = some (.int .i64 m.t) ∧ v1.cell? ⟨w.heap.size + 1 + 1, 2, none⟩ = some (.int .i64 m.a) :=
      ⟨(hb1.cell (p := ⟨w.heap.size, 0, none⟩) (by first | omega | (simp; done) | (simp; omega))).trans (by first | (go_simp; done) | (go_simp; exact set_same (u := .int .i64 0) (by go_simp; done))), (hb1.cell (p := ⟨w.heap.size, 1, none⟩) (by first | omega | (simp; done) | (simp; omega))).trans (by first | (go_simp; done) | (go_simp; exact set_same (u := .int .i64 0) (by go_simp; done))), (hb1.cell (p := ⟨w.heap.size + 1, 0, none⟩) (by first | omega | (simp; done) | (simp; omega))).trans (by first | (go_simp; done) | (go_simp; exact set_same (u := .int .i64 0) (by go_simp; done))), (hb1.cell (p := ⟨w.heap.size + 1, 1, none⟩) (by first | omega | (simp; done) | (simp; omega))).trans (by first | (go_simp; done) | (go_simp; exact set_same (u := .int .i64 0) (by go_simp; done))), (hb1.cell (p := ⟨w.heap.size + 1, 2, none⟩) (by first | omega | (simp; done) | (simp; omega))).trans (by first | (go_simp; done) | (go_simp; exact set_same (u := .int .i64 0) (by go_simp; done))), (hb1.cell (p := ⟨w.heap.size + 1 + 1, 0, none⟩) (by first | omega | (simp; done) | (simp; omega))).trans (by first | (go_simp; done) | (go_simp; exact set_same (u := .int .i64 0) (by go_simp; done))), (hb1.cell (p := ⟨w.heap.size + 1 + 1, 1, none⟩) (by first | omega | (simp; done) | (simp; omega))).trans (by first | (go_simp; done) | (go_simp; exact set_same (u := .int .i64 0) (by go_simp; done))), (hb1.cell (p := ⟨w.heap.size + 1 + 1, 2, none⟩) (by first | omega | (simp; done) | (simp; omega))).trans (by first | (go_simp; done) | (go_simp; exact set_same (u := .int .i64 0) (by go_simp; done)))⟩
    have q1_0 : w.heap.size < v1.heap.size := by first | omega | (simp at *; omega)
    have q1_1 : w.heap.size + 1 < v1.heap.size := by first | omega | (simp at *; omega)
    have q1_2 : w.heap.size + 1 + 1 < v1.heap.size := by first | omega | (simp at *; omega)
    have HB1 := Lib.hid hB1_0
    have y1 := hB1_0.size
    clear hb1 hB1_0 g0_0 g0_1 g0_2 g0_3 g0_4 g0_5 g0_6 g0_7 q0_0 q0_1 q0_2
    go_wp2_with fail
    refine (HWK.out _).mono ?_
    rintro e v2 ⟨rfl, hb2⟩
    have hB2_0 : Below W0.heap.size W0 v2 := below_via (Lib.hid hb2) (by first | omega | (simp; done) | (simp; omega)) (by repeat (first | exact Below.refl _ _ | with_reducible exact HB1.out | (refine Below.alloc ?_ (by first | omega | (simp; omega) | simp) _) | (refine Below.setCell ?_ (by first | omega | (simp; omega) | simp) _) | refine Below.drew ?_))
    have z2 := hb2.size
    (try simp at z2)
    have HB2 := Lib.hid hB2_0
    have y2 := hB2_0.size
    clear hb2 hB2_0 g1_0 g1_1 g1_2 g1_3 g1_4 g1_5 g1_6 g1_7 q1_0 q1_1 q1_2
    go_wp2_with fail
    go_ret
    exact ⟨rfl, HBW.out.trans (Below.mono (by repeat (first | exact Below.refl _ _ | with_reducible exact HB2.out | (refine Below.alloc ?_ (by first | omega | (simp; omega) | simp) _) | (refine Below.setCell ?_ (by first | omega | (simp; omega) | simp) _) | refine Below.drew ?_)) HBW.out.size)⟩
  · have HR1 := Lib.hid (HRD.out true hr)
    rcases ha : h.askB xt xc xm with - | -
    · have HA1 := Lib.hid (HAK.out false ha)
      clear hp HRD HAK
      go_enter Try.func6, Try.ntmps6
      go_wp2_with fail
      obtain ⟨W0, hW0, hB0, ⟨g0_0, g0_1, g0_2, g0_3, g0_4, g0_5, g0_6, g0_7⟩, hz0⟩ : ∃ W0, (((w.alloc (.cells #[.slice ta tl tc, .slice ma ml mc] 25)).alloc (.cells #[.int .i64 xt, .int .i64 xc, .int .i64 xm] 27)).alloc (.cells #[.int .i64 m.c, .int .i64 m.t, .int .i64 m.a] 52)) = W0 ∧ Below w.heap.size w W0 ∧ (W0.cell? ⟨w.heap.size, 0, none⟩ = some (.slice ta tl tc) ∧ W0.cell? ⟨w.heap.size, 1, none⟩ = some (.slice ma ml mc) ∧ W0.cell? ⟨w.heap.size + 1, 0, none⟩ = some (.int .i64 xt) ∧ W0.cell? ⟨w.heap.size + 1, 1, none⟩ = some (.int .i64 xc) ∧ W0.cell? ⟨w.heap.size + 1, 2, none⟩ = some (.int .i64 xm) ∧ W0.cell? ⟨w.heap.size + 1 + 1, 0, none⟩ = some (.int .i64 m.c) ∧ W0.cell? ⟨w.heap.size + 1 + 1, 1, none⟩ = some (.int .i64 m.t) ∧ W0.cell? ⟨w.heap.size + 1 + 1, 2, none⟩ = some (.int .i64 m.a)) ∧ W0.heap.size = w.heap.size + 1 + 1 + 1 :=
        ⟨_, rfl, (by repeat (first | exact Below.refl _ _ | (refine Below.alloc ?_ (by first | omega | (simp; omega) | simp) _) | (refine Below.setCell ?_ (by first | omega | (simp; omega) | simp) _) | refine Below.drew ?_)), ⟨by go_simp, by go_simp, by go_simp, by go_simp, by go_simp, by go_simp, by go_simp, by go_simp⟩, by simp⟩
      rw [hW0]
      clear hW0
      have HBW := Lib.hid hB0
      have q0_0 : w.heap.size < W0.heap.size := by omega
      have q0_1 : w.heap.size + 1 < W0.heap.size := by omega
      have q0_2 : w.heap.size + 1 + 1 < W0.heap.size := by omega
      clear hB0 hz0
      go_wp2_with fail
      refine (HR1.out _ (HBW.out.trans (Below.mono (by repeat (first | exact Below.refl _ _ | (refine Below.alloc ?_ (by first | omega | (simp; omega) | simp) _) | (refine Below.setCell ?_ (by first | omega | (simp; omega) | simp) _) | refine Below.drew ?_)) HBW.out.size))).mono ?_
      rintro e v1 ⟨rfl, hb1⟩
      have hB1_0 : Below W0.heap.size W0 v1 := below_via (Lib.hid hb1) (by first | omega | (simp; done) | (simp; omega)) (by repeat (first | exact Below.refl _ _ | (refine Below.alloc ?_ (by first | omega | (simp; omega) | simp) _) | (refine Below.setCell ?_ (by first | omega | (simp; omega) | simp) _) | refine Below.drew ?_))
      have z1 := hb1.size
      (try simp at z1)
      obtain ⟨g1_0, g1_1, g1_2, g1_3, g1_4, g1_5, g1_6, g1_7⟩ : v1.cell? ⟨w.heap.size, 0, none⟩ = some (.slice ta tl tc) ∧ v1.cell? ⟨w.heap.size, 1, none⟩ = some (.slice ma ml mc) ∧ v1.cell? ⟨w.heap.size + 1, 0, none⟩ = some (.int .i64 xt) ∧ v1.cell? ⟨w.heap.size + 1, 1, none⟩ = some (.int .i64 xc) ∧ v1.cell? ⟨w.heap.size + 1, 2, none⟩ = some (.int .i64 xm) ∧ v1.cell? ⟨w.heap.size + 1 + 1, 0, none⟩ = some (.int .i64 m.c) ∧ v1.cell? ⟨w.heap.size + 1 + 1, 1, none⟩ = some (.int .i64 m.t) ∧ v1.cell? ⟨w.heap.size + 1 + 1, 2, none⟩ = some (.int .i64 m.a) :=
        ⟨(hb1.cell (p := ⟨w.heap.size, 0, none⟩) (by first | omega | (simp; done) | (simp; omega))).trans (by first | (go_simp; done) | (go_simp; exact set_same (u := .int .i64 0) (by go_simp; done))), (hb1.cell (p := ⟨w.heap.size, 1, none⟩) (by first | omega | (simp; done) | (simp; omega))).trans (by first | (go_simp; done) | (go_simp; exact set_same (u := .int .i64 0) (by go_simp; done))), (hb1.cell (p := ⟨w.heap.size + 1, 0, none⟩) (by first | omega | (simp; done) | (simp; omega))).trans (by first | (go_simp; done) | (go_simp; exact set_same (u := .int .i64 0) (by go_simp; done))), (hb1.cell (p := ⟨w.heap.size + 1, 1, none⟩) (by first | omega | (simp; done) | (simp; omega))).trans (by first | (go_simp; done) | (go_simp; exact set_same (u := .int .i64 0) (by go_simp; done))), (hb1.cell (p := ⟨w.heap.size + 1, 2, none⟩) (by first | omega | (simp; done) | (simp; omega))).trans (by first | (go_simp; done) | (go_simp; exact set_same (u := .int .i64 0) (by go_simp; done))), (hb1.cell (p := ⟨w.heap.size + 1 + 1, 0, none⟩) (by first | omega | (simp; done) | (simp; omega))).trans (by first | (go_simp; done) | (go_simp; exact set_same (u := .int .i64 0) (by go_simp; done))), (hb1.cell (p := ⟨w.heap.size + 1 + 1, 1, none⟩) (by first | omega | (simp; done) | (simp; omega))).trans (by first | (go_simp; done) | (go_simp; exact set_same (u := .int .i64 0) (by go_simp; done))), (hb1.cell (p := ⟨w.heap.size + 1 + 1, 2, none⟩) (by first | omega | (simp; done) | (simp; omega))).trans (by first | (go_simp; done) | (go_simp; exact set_same (u := .int .i64 0) (by go_simp; done)))⟩
      have q1_0 : w.heap.size < v1.heap.size := by first | omega | (simp at *; omega)
      have q1_1 : w.heap.size + 1 < v1.heap.size := by first | omega | (simp at *; omega)
      have q1_2 : w.heap.size + 1 + 1 < v1.heap.size := by first | omega | (simp at *; omega)
      have HB1 := Lib.hid hB1_0
      have y1 := hB1_0.size
      clear hb1 hB1_0 g0_0 g0_1 g0_2 g0_3 g0_4 g0_5 g0_6 g0_7 q0_0 q0_1 q0_2
      go_wp2_with fail
      refine (HA1.out _ (HBW.out.trans (Below.mono (by repeat (first | exact Below.refl _ _ | with_reducible exact HB1.out | (refine Below.alloc ?_ (by first | omega | (simp; omega) | simp) _) | (refine Below.setCell ?_ (by first | omega | (simp; omega) | simp) _) | refine Below.drew ?_)) HBW.out.size))).mono ?_
      rintro e v2 ⟨rfl, hb2⟩
      have hB2_0 : Below W0.heap.size W0 v2 := below_via (Lib.hid hb2) (by first | omega | (simp; done) | (simp; omega)) (by repeat (first | exact Below.refl _ _ | with_reducible exact HB1.out | (refine Below.alloc ?_ (by first | omega | (simp; omega) | simp) _) | (refine Below.setCell ?_ (by first | omega | (simp; omega) | simp) _) | refine Below.drew ?_))
      have z2 := hb2.size
      (try simp at z2)
      obtain ⟨g2_0, g2_1, g2_2, g2_3, g2_4, g2_5, g2_6, g2_7⟩ : v2.cell? ⟨w.heap.size, 0, none⟩ = some (.slice ta tl tc) ∧ v2.cell? ⟨w.heap.size, 1, none⟩ = some (.slice ma ml mc) ∧ v2.cell? ⟨w.heap.size + 1, 0, none⟩ = some (.int .i64 xt) ∧ v2.cell? ⟨w.heap.size + 1, 1, none⟩ = some (.int .i64 xc) ∧ v2.cell? ⟨w.heap.size + 1, 2, none⟩ = some (.int .i64 xm) ∧ v2.cell? ⟨w.heap.size + 1 + 1, 0, none⟩ = some (.int .i64 m.c) ∧ v2.cell? ⟨w.heap.size + 1 + 1, 1, none⟩ = some (.int .i64 m.t) ∧ v2.cell? ⟨w.heap.size + 1 + 1, 2, none⟩ = some (.int .i64 m.a) :=
        ⟨(hb2.cell (p := ⟨w.heap.size, 0, none⟩) (by first | omega | (simp; done) | (simp; omega))).trans (by first | (go_simp; done) | (go_simp; exact set_same (u := .int .i64 0) (by go_simp; done))), (hb2.cell (p := ⟨w.heap.size, 1, none⟩) (by first | omega | (simp; done) | (simp; omega))).trans (by first | (go_simp; done) | (go_simp; exact set_same (u := .int .i64 0) (by go_simp; done))), (hb2.cell (p := ⟨w.heap.size + 1, 0, none⟩) (by first | omega | (simp; done) | (simp; omega))).trans (by first | (go_simp; done) | (go_simp; exact set_same (u := .int .i64 0) (by go_simp; done))), (hb2.cell (p := ⟨w.heap.size + 1, 1, none⟩) (by first | omega | (simp; done) | (simp; omega))).trans (by first | (go_simp; done) | (go_simp; exact set_same (u := .int .i64 0) (by go_simp; done))), (hb2.cell (p := ⟨w.heap.size + 1, 2, none⟩) (by first | omega | (simp; done) | (simp; omega))).trans (by first | (go_simp; done) | (go_simp; exact set_same (u := .int .i64 0) (by go_simp; done))), (hb2.cell (p := ⟨w.heap.size + 1 + 1, 0, none⟩) (by first | omega | (simp; done) | (simp; omega))).trans (by first | (go_simp; done) | (go_simp; exact set_same (u := .int .i64 0) (by go_simp; done))), (hb2.cell (p := ⟨w.heap.size + 1 + 1, 1, none⟩) (by first | omega | (simp; done) | (simp; omega))).trans (by first | (go_simp; done) | (go_simp; exact set_same (u := .int .i64 0) (by go_simp; done))), (hb2.cell (p := ⟨w.heap.size + 1 + 1, 2, none⟩) (by first | omega | (simp; done) | (simp; omega))).trans (by first | (go_simp; done) | (go_simp; exact set_same (u := .int .i64 0) (by go_simp; done)))⟩
      have q2_0 : w.heap.size < v2.heap.size := by first | omega | (simp at *; omega)
      have q2_1 : w.heap.size + 1 < v2.heap.size := by first | omega | (simp at *; omega)
      have q2_2 : w.heap.size + 1 + 1 < v2.heap.size := by first | omega | (simp at *; omega)
      have HB2 := Lib.hid hB2_0
      have y2 := hB2_0.size
      clear hb2 hB2_0 g1_0 g1_1 g1_2 g1_3 g1_4 g1_5 g1_6 g1_7 q1_0 q1_1 q1_2
      go_wp2_with fail
      refine (HWK.out _).mono ?_
      rintro e v3 ⟨rfl, hb3⟩
      have hB3_0 : Below W0.heap.size W0 v3 := below_via (Lib.hid hb3) (by first | omega | (simp; done) | (simp; omega)) (by repeat (first | exact Below.refl _ _ | with_reducible exact HB2.out | (refine Below.alloc ?_ (by first | omega | (simp; omega) | simp) _) | (refine Below.setCell ?_ (by first | omega | (simp; omega) | simp) _) | refine Below.drew ?_))
      have z3 := hb3.size
      (try simp at z3)
      have HB3 := Lib.hid hB3_0
      have y3 := hB3_0.size
      clear hb3 hB3_0 g2_0 g2_1 g2_2 g2_3 g2_4 g2_5 g2_6 g2_7 q2_0 q2_1 q2_2
      go_wp2_with fail
      go_ret
      exact ⟨rfl, HBW.out.trans (Below.mono (by repeat (first | exact Below.refl _ _ | with_reducible exact HB3.out | (refine Below.alloc ?_ (by first | omega | (simp; omega) | simp) _) | (refine Below.setCell ?_ (by first | omega | (simp; omega) | simp) _) | refine Below.drew ?_)) HBW.out.size)⟩
    · have HA1 := Lib.hid (HAK.out true ha)
      obtain ⟨⟨k, rfl, hk⟩, hc, hm⟩ := ask_parts ha
      obtain ⟨ho, h8, hm6⟩ := ready_parts hr
      have hml := hp.2.1.1
      have htl := hp.1.1
      have HHS := Lib.hid (fun mm (hmm : btw mm 0 99 = true) W (hw : Below w.heap.size w W) => show Calls Try.prog 44 #[.agg #[.slice ta tl tc, .slice ma ml mc], .int .i64 k, .int .i64 xc, .int .i64 mm] W fun e w' => e = .returned (.tuple #[.bool (decide (h.since xc k ≤ mm)), .bool true]) ∧ Below W.heap.size W w' from lawHas_yes h ta tl tc ma ml mc ho k hk xc mm hc hmm W (hp.below hw))
      have HSI := Lib.hid (fun W (hw : Below w.heap.size w W) => lawSince_yes h ta tl tc ma ml mc ho k hk xc hc W (hp.below hw))
      have HCP := Lib.hid (fun W (hw : Below w.heap.size w W) => Copy_any h ta tl tc ma ml mc W (hp.below hw) (by omega) (by omega))
      have HRO := Lib.hid (fun b (hb : (h.with m).ready = b) W a ac na nc (hq : HAt W a tl ac na (ml + 1) nc (h.with m)) => ready_is (h.with m) a tl ac na (ml + 1) nc b hb W hq)
      have HSO := Lib.hid (fun (hw : (h.with m).ok = true) W a ac na nc (hq : HAt W a tl ac na (ml + 1) nc (h.with m)) => lawSince_yes (h.with m) a tl ac na (ml + 1) nc hw k hk xc hc W hq)
      have HLE := Lib.hid (fun (hw : (h.with m).ok = true) => with_less ho hw xc hk)
      have HNE := Lib.hid (fun (hw : (h.with m).ok = true) (hx : m.c ≠ xc) => with_other ho hw hx hk)
      have HMK := Lib.hid (fun (hw : (h.with m).ok = true) (hx : m.c = xc) (ht : m.t = (k : Int)) => show (h.with m).since xc k ≤ m.a from hx ▸ with_mark hw hk ht)
      have HOK := Lib.hid (fun (hw : (h.with m).ready = true) => (ready_parts hw).1)
      have hml1 : ml ≤ 1000 := by omega
      have HTL := Lib.hid htl
      clear hp HRD HAK hr ha htl hml hc
      generalize h.since xc k = s at *
      generalize hs2 : (h.with m).since xc k = s2 at *
      clear hs2
      go_enter Try.func6, Try.ntmps6
      go_wp2_with fail
      obtain ⟨W0, hW0, hB0, ⟨g0_0, g0_1, g0_2, g0_3, g0_4, g0_5, g0_6, g0_7⟩, hz0⟩ : ∃ W0, (((w.alloc (.cells #[.slice ta tl tc, .slice ma ml mc] 25)).alloc (.cells #[.int .i64 k, .int .i64 xc, .int .i64 xm] 27)).alloc (.cells #[.int .i64 m.c, .int .i64 m.t, .int .i64 m.a] 52)) = W0 ∧ Below w.heap.size w W0 ∧ (W0.cell? ⟨w.heap.size, 0, none⟩ = some (.slice ta tl tc) ∧ W0.cell? ⟨w.heap.size, 1, none⟩ = some (.slice ma ml mc) ∧ W0.cell? ⟨w.heap.size + 1, 0, none⟩ = some (.int .i64 k) ∧ W0.cell? ⟨w.heap.size + 1, 1, none⟩ = some (.int .i64 xc) ∧ W0.cell? ⟨w.heap.size + 1, 2, none⟩ = some (.int .i64 xm) ∧ W0.cell? ⟨w.heap.size + 1 + 1, 0, none⟩ = some (.int .i64 m.c) ∧ W0.cell? ⟨w.heap.size + 1 + 1, 1, none⟩ = some (.int .i64 m.t) ∧ W0.cell? ⟨w.heap.size + 1 + 1, 2, none⟩ = some (.int .i64 m.a)) ∧ W0.heap.size = w.heap.size + 1 + 1 + 1 :=
        ⟨_, rfl, (by repeat (first | exact Below.refl _ _ | (refine Below.alloc ?_ (by first | omega | (simp; omega) | simp) _) | (refine Below.setCell ?_ (by first | omega | (simp; omega) | simp) _) | refine Below.drew ?_)), ⟨by go_simp, by go_simp, by go_simp, by go_simp, by go_simp, by go_simp, by go_simp, by go_simp⟩, by simp⟩
      rw [hW0]
      clear hW0
      have HBW := Lib.hid hB0
      have q0_0 : w.heap.size < W0.heap.size := by omega
      have q0_1 : w.heap.size + 1 < W0.heap.size := by omega
      have q0_2 : w.heap.size + 1 + 1 < W0.heap.size := by omega
      clear hB0 hz0
      go_wp2_with fail
      refine (HR1.out _ (HBW.out.trans (Below.mono (by repeat (first | exact Below.refl _ _ | (refine Below.alloc ?_ (by first | omega | (simp; omega) | simp) _) | (refine Below.setCell ?_ (by first | omega | (simp; omega) | simp) _) | refine Below.drew ?_)) HBW.out.size))).mono ?_
      rintro e v1 ⟨rfl, hb1⟩
      have hB1_0 : Below W0.heap.size W0 v1 := below_via (Lib.hid hb1) (by first | omega | (simp; done) | (simp; omega)) (by repeat (first | exact Below.refl _ _ | (refine Below.alloc ?_ (by first | omega | (simp; omega) | simp) _) | (refine Below.setCell ?_ (by first | omega | (simp; omega) | simp) _) | refine Below.drew ?_))
      have z1 := hb1.size
      (try simp at z1)
      obtain ⟨g1_0, g1_1, g1_2, g1_3, g1_4, g1_5, g1_6, g1_7⟩ : v1.cell? ⟨w.heap.size, 0, none⟩ = some (.slice ta tl tc) ∧ v1.cell? ⟨w.heap.size, 1, none⟩ = some (.slice ma ml mc) ∧ v1.cell? ⟨w.heap.size + 1, 0, none⟩ = some (.int .i64 k) ∧ v1.cell? ⟨w.heap.size + 1, 1, none⟩ = some (.int .i64 xc) ∧ v1.cell? ⟨w.heap.size + 1, 2, none⟩ = some (.int .i64 xm) ∧ v1.cell? ⟨w.heap.size + 1 + 1, 0, none⟩ = some (.int .i64 m.c) ∧ v1.cell? ⟨w.heap.size + 1 + 1, 1, none⟩ = some (.int .i64 m.t) ∧ v1.cell? ⟨w.heap.size + 1 + 1, 2, none⟩ = some (.int .i64 m.a) :=
        ⟨(hb1.cell (p := ⟨w.heap.size, 0, none⟩) (by first | omega | (simp; done) | (simp; omega))).trans (by first | (go_simp; done) | (go_simp; exact set_same (u := .int .i64 0) (by go_simp; done))), (hb1.cell (p := ⟨w.heap.size, 1, none⟩) (by first | omega | (simp; done) | (simp; omega))).trans (by first | (go_simp; done) | (go_simp; exact set_same (u := .int .i64 0) (by go_simp; done))), (hb1.cell (p := ⟨w.heap.size + 1, 0, none⟩) (by first | omega | (simp; done) | (simp; omega))).trans (by first | (go_simp; done) | (go_simp; exact set_same (u := .int .i64 0) (by go_simp; done))), (hb1.cell (p := ⟨w.heap.size + 1, 1, none⟩) (by first | omega | (simp; done) | (simp; omega))).trans (by first | (go_simp; done) | (go_simp; exact set_same (u := .int .i64 0) (by go_simp; done))), (hb1.cell (p := ⟨w.heap.size + 1, 2, none⟩) (by first | omega | (simp; done) | (simp; omega))).trans (by first | (go_simp; done) | (go_simp; exact set_same (u := .int .i64 0) (by go_simp; done))), (hb1.cell (p := ⟨w.heap.size + 1 + 1, 0, none⟩) (by first | omega | (simp; done) | (simp; omega))).trans (by first | (go_simp; done) | (go_simp; exact set_same (u := .int .i64 0) (by go_simp; done))), (hb1.cell (p := ⟨w.heap.size + 1 + 1, 1, none⟩) (by first | omega | (simp; done) | (simp; omega))).trans (by first | (go_simp; done) | (go_simp; exact set_same (u := .int .i64 0) (by go_simp; done))), (hb1.cell (p := ⟨w.heap.size + 1 + 1, 2, none⟩) (by first | omega | (simp; done) | (simp; omega))).trans (by first | (go_simp; done) | (go_simp; exact set_same (u := .int .i64 0) (by go_simp; done)))⟩
      have q1_0 : w.heap.size < v1.heap.size := by first | omega | (simp at *; omega)
      have q1_1 : w.heap.size + 1 < v1.heap.size := by first | omega | (simp at *; omega)
      have q1_2 : w.heap.size + 1 + 1 < v1.heap.size := by first | omega | (simp at *; omega)
      have HB1 := Lib.hid hB1_0
      have y1 := hB1_0.size
      clear hb1 hB1_0 g0_0 g0_1 g0_2 g0_3 g0_4 g0_5 g0_6 g0_7 q0_0 q0_1 q0_2
      go_wp2_with fail
      refine (HA1.out _ (HBW.out.trans (Below.mono (by repeat (first | exact Below.refl _ _ | with_reducible exact HB1.out | (refine Below.alloc ?_ (by first | omega | (simp; omega) | simp) _) | (refine Below.setCell ?_ (by first | omega | (simp; omega) | simp) _) | refine Below.drew ?_)) HBW.out.size))).mono ?_
      rintro e v2 ⟨rfl, hb2⟩
      have hB2_0 : Below W0.heap.size W0 v2 := below_via (Lib.hid hb2) (by first | omega | (simp; done) | (simp; omega)) (by repeat (first | exact Below.refl _ _ | with_reducible exact HB1.out | (refine Below.alloc ?_ (by first | omega | (simp; omega) | simp) _) | (refine Below.setCell ?_ (by first | omega | (simp; omega) | simp) _) | refine Below.drew ?_))
      have z2 := hb2.size
      (try simp at z2)
      obtain ⟨g2_0, g2_1, g2_2, g2_3, g2_4, g2_5, g2_6, g2_7⟩ : v2.cell? ⟨w.heap.size, 0, none⟩ = some (.slice ta tl tc) ∧ v2.cell? ⟨w.heap.size, 1, none⟩ = some (.slice ma ml mc) ∧ v2.cell? ⟨w.heap.size + 1, 0, none⟩ = some (.int .i64 k) ∧ v2.cell? ⟨w.heap.size + 1, 1, none⟩ = some (.int .i64 xc) ∧ v2.cell? ⟨w.heap.size + 1, 2, none⟩ = some (.int .i64 xm) ∧ v2.cell? ⟨w.heap.size + 1 + 1, 0, none⟩ = some (.int .i64 m.c) ∧ v2.cell? ⟨w.heap.size + 1 + 1, 1, none⟩ = some (.int .i64 m.t) ∧ v2.cell? ⟨w.heap.size + 1 + 1, 2, none⟩ = some (.int .i64 m.a) :=
        ⟨(hb2.cell (p := ⟨w.heap.size, 0, none⟩) (by first | omega | (simp; done) | (simp; omega))).trans (by first | (go_simp; done) | (go_simp; exact set_same (u := .int .i64 0) (by go_simp; done))), (hb2.cell (p := ⟨w.heap.size, 1, none⟩) (by first | omega | (simp; done) | (simp; omega))).trans (by first | (go_simp; done) | (go_simp; exact set_same (u := .int .i64 0) (by go_simp; done))), (hb2.cell (p := ⟨w.heap.size + 1, 0, none⟩) (by first | omega | (simp; done) | (simp; omega))).trans (by first | (go_simp; done) | (go_simp; exact set_same (u := .int .i64 0) (by go_simp; done))), (hb2.cell (p := ⟨w.heap.size + 1, 1, none⟩) (by first | omega | (simp; done) | (simp; omega))).trans (by first | (go_simp; done) | (go_simp; exact set_same (u := .int .i64 0) (by go_simp; done))), (hb2.cell (p := ⟨w.heap.size + 1, 2, none⟩) (by first | omega | (simp; done) | (simp; omega))).trans (by first | (go_simp; done) | (go_simp; exact set_same (u := .int .i64 0) (by go_simp; done))), (hb2.cell (p := ⟨w.heap.size + 1 + 1, 0, none⟩) (by first | omega | (simp; done) | (simp; omega))).trans (by first | (go_simp; done) | (go_simp; exact set_same (u := .int .i64 0) (by go_simp; done))), (hb2.cell (p := ⟨w.heap.size + 1 + 1, 1, none⟩) (by first | omega | (simp; done) | (simp; omega))).trans (by first | (go_simp; done) | (go_simp; exact set_same (u := .int .i64 0) (by go_simp; done))), (hb2.cell (p := ⟨w.heap.size + 1 + 1, 2, none⟩) (by first | omega | (simp; done) | (simp; omega))).trans (by first | (go_simp; done) | (go_simp; exact set_same (u := .int .i64 0) (by go_simp; done)))⟩
      have q2_0 : w.heap.size < v2.heap.size := by first | omega | (simp at *; omega)
      have q2_1 : w.heap.size + 1 < v2.heap.size := by first | omega | (simp at *; omega)
      have q2_2 : w.heap.size + 1 + 1 < v2.heap.size := by first | omega | (simp at *; omega)
      have HB2 := Lib.hid hB2_0
      have y2 := hB2_0.size
      clear hb2 hB2_0 g1_0 g1_1 g1_2 g1_3 g1_4 g1_5 g1_6 g1_7 q1_0 q1_1 q1_2
      go_wp2_with fail
      refine (HHS.out xm hm _ (HBW.out.trans (Below.mono (by repeat (first | exact Below.refl _ _ | with_reducible exact HB2.out | (refine Below.alloc ?_ (by first | omega | (simp; omega) | simp) _) | (refine Below.setCell ?_ (by first | omega | (simp; omega) | simp) _) | refine Below.drew ?_)) HBW.out.size))).mono ?_
      rintro e v3 ⟨rfl, hb3⟩
      have hB3_0 : Below W0.heap.size W0 v3 := below_via (Lib.hid hb3) (by first | omega | (simp; done) | (simp; omega)) (by repeat (first | exact Below.refl _ _ | with_reducible exact HB2.out | (refine Below.alloc ?_ (by first | omega | (simp; omega) | simp) _) | (refine Below.setCell ?_ (by first | omega | (simp; omega) | simp) _) | refine Below.drew ?_))
      have z3 := hb3.size
      (try simp at z3)
      obtain ⟨g3_0, g3_1, g3_2, g3_3, g3_4, g3_5, g3_6, g3_7⟩ : v3.cell? ⟨w.heap.size, 0, none⟩ = some (.slice ta tl tc) ∧ v3.cell? ⟨w.heap.size, 1, none⟩ = some (.slice ma ml mc) ∧ v3.cell? ⟨w.heap.size + 1, 0, none⟩ = some (.int .i64 k) ∧ v3.cell? ⟨w.heap.size + 1, 1, none⟩ = some (.int .i64 xc) ∧ v3.cell? ⟨w.heap.size + 1, 2, none⟩ = some (.int .i64 xm) ∧ v3.cell? ⟨w.heap.size + 1 + 1, 0, none⟩ = some (.int .i64 m.c) ∧ v3.cell? ⟨w.heap.size + 1 + 1, 1, none⟩ = some (.int .i64 m.t) ∧ v3.cell? ⟨w.heap.size + 1 + 1, 2, none⟩ = some (.int .i64 m.a) :=
        ⟨(hb3.cell (p := ⟨w.heap.size, 0, none⟩) (by first | omega | (simp; done) | (simp; omega))).trans (by first | (go_simp; done) | (go_simp; exact set_same (u := .int .i64 0) (by go_simp; done))), (hb3.cell (p := ⟨w.heap.size, 1, none⟩) (by first | omega | (simp; done) | (simp; omega))).trans (by first | (go_simp; done) | (go_simp; exact set_same (u := .int .i64 0) (by go_simp; done))), (hb3.cell (p := ⟨w.heap.size + 1, 0, none⟩) (by first | omega | (simp; done) | (simp; omega))).trans (by first | (go_simp; done) | (go_simp; exact set_same (u := .int .i64 0) (by go_simp; done))), (hb3.cell (p := ⟨w.heap.size + 1, 1, none⟩) (by first | omega | (simp; done) | (simp; omega))).trans (by first | (go_simp; done) | (go_simp; exact set_same (u := .int .i64 0) (by go_simp; done))), (hb3.cell (p := ⟨w.heap.size + 1, 2, none⟩) (by first | omega | (simp; done) | (simp; omega))).trans (by first | (go_simp; done) | (go_simp; exact set_same (u := .int .i64 0) (by go_simp; done))), (hb3.cell (p := ⟨w.heap.size + 1 + 1, 0, none⟩) (by first | omega | (simp; done) | (simp; omega))).trans (by first | (go_simp; done) | (go_simp; exact set_same (u := .int .i64 0) (by go_simp; done))), (hb3.cell (p := ⟨w.heap.size + 1 + 1, 1, none⟩) (by first | omega | (simp; done) | (simp; omega))).trans (by first | (go_simp; done) | (go_simp; exact set_same (u := .int .i64 0) (by go_simp; done))), (hb3.cell (p := ⟨w.heap.size + 1 + 1, 2, none⟩) (by first | omega | (simp; done) | (simp; omega))).trans (by first | (go_simp; done) | (go_simp; exact set_same (u := .int .i64 0) (by go_simp; done)))⟩
      have q3_0 : w.heap.size < v3.heap.size := by first | omega | (simp at *; omega)
      have q3_1 : w.heap.size + 1 < v3.heap.size := by first | omega | (simp at *; omega)
      have q3_2 : w.heap.size + 1 + 1 < v3.heap.size := by first | omega | (simp at *; omega)
      have HB3 := Lib.hid hB3_0
      have y3 := hB3_0.size
      clear hb3 hB3_0 g2_0 g2_1 g2_2 g2_3 g2_4 g2_5 g2_6 g2_7 q2_0 q2_1 q2_2
      go_wp2_with fail
      refine (HSI.out _ (HBW.out.trans (Below.mono (by repeat (first | exact Below.refl _ _ | with_reducible exact HB3.out | (refine Below.alloc ?_ (by first | omega | (simp; omega) | simp) _) | (refine Below.setCell ?_ (by first | omega | (simp; omega) | simp) _) | refine Below.drew ?_)) HBW.out.size))).mono ?_
      rintro e v4 ⟨rfl, hb4⟩
      have hB4_0 : Below W0.heap.size W0 v4 := below_via (Lib.hid hb4) (by first | omega | (simp; done) | (simp; omega)) (by repeat (first | exact Below.refl _ _ | with_reducible exact HB3.out | (refine Below.alloc ?_ (by first | omega | (simp; omega) | simp) _) | (refine Below.setCell ?_ (by first | omega | (simp; omega) | simp) _) | refine Below.drew ?_))
      have z4 := hb4.size
      (try simp at z4)
      obtain ⟨g4_0, g4_1, g4_2, g4_3, g4_4, g4_5, g4_6, g4_7⟩ : v4.cell? ⟨w.heap.size, 0, none⟩ = some (.slice ta tl tc) ∧ v4.cell? ⟨w.heap.size, 1, none⟩ = some (.slice ma ml mc) ∧ v4.cell? ⟨w.heap.size + 1, 0, none⟩ = some (.int .i64 k) ∧ v4.cell? ⟨w.heap.size + 1, 1, none⟩ = some (.int .i64 xc) ∧ v4.cell? ⟨w.heap.size + 1, 2, none⟩ = some (.int .i64 xm) ∧ v4.cell? ⟨w.heap.size + 1 + 1, 0, none⟩ = some (.int .i64 m.c) ∧ v4.cell? ⟨w.heap.size + 1 + 1, 1, none⟩ = some (.int .i64 m.t) ∧ v4.cell? ⟨w.heap.size + 1 + 1, 2, none⟩ = some (.int .i64 m.a) :=
        ⟨(hb4.cell (p := ⟨w.heap.size, 0, none⟩) (by first | omega | (simp; done) | (simp; omega))).trans (by first | (go_simp; done) | (go_simp; exact set_same (u := .int .i64 0) (by go_simp; done))), (hb4.cell (p := ⟨w.heap.size, 1, none⟩) (by first | omega | (simp; done) | (simp; omega))).trans (by first | (go_simp; done) | (go_simp; exact set_same (u := .int .i64 0) (by go_simp; done))), (hb4.cell (p := ⟨w.heap.size + 1, 0, none⟩) (by first | omega | (simp; done) | (simp; omega))).trans (by first | (go_simp; done) | (go_simp; exact set_same (u := .int .i64 0) (by go_simp; done))), (hb4.cell (p := ⟨w.heap.size + 1, 1, none⟩) (by first | omega | (simp; done) | (simp; omega))).trans (by first | (go_simp; done) | (go_simp; exact set_same (u := .int .i64 0) (by go_simp; done))), (hb4.cell (p := ⟨w.heap.size + 1, 2, none⟩) (by first | omega | (simp; done) | (simp; omega))).trans (by first | (go_simp; done) | (go_simp; exact set_same (u := .int .i64 0) (by go_simp; done))), (hb4.cell (p := ⟨w.heap.size + 1 + 1, 0, none⟩) (by first | omega | (simp; done) | (simp; omega))).trans (by first | (go_simp; done) | (go_simp; exact set_same (u := .int .i64 0) (by go_simp; done))), (hb4.cell (p := ⟨w.heap.size + 1 + 1, 1, none⟩) (by first | omega | (simp; done) | (simp; omega))).trans (by first | (go_simp; done) | (go_simp; exact set_same (u := .int .i64 0) (by go_simp; done))), (hb4.cell (p := ⟨w.heap.size + 1 + 1, 2, none⟩) (by first | omega | (simp; done) | (simp; omega))).trans (by first | (go_simp; done) | (go_simp; exact set_same (u := .int .i64 0) (by go_simp; done)))⟩
      have q4_0 : w.heap.size < v4.heap.size := by first | omega | (simp at *; omega)
      have q4_1 : w.heap.size + 1 < v4.heap.size := by first | omega | (simp at *; omega)
      have q4_2 : w.heap.size + 1 + 1 < v4.heap.size := by first | omega | (simp at *; omega)
      have HB4 := Lib.hid hB4_0
      have y4 := hB4_0.size
      clear hb4 hB4_0 g3_0 g3_1 g3_2 g3_3 g3_4 g3_5 g3_6 g3_7 q3_0 q3_1 q3_2
      go_wp2_with fail
      have HCE := Lib.hid (show v4.cell? ⟨w.heap.size, 0, none⟩ = some (.slice ta tl tc) ∧ v4.cell? ⟨w.heap.size, 1, none⟩ = some (.slice ma ml mc) ∧ v4.cell? ⟨w.heap.size + 1, 0, none⟩ = some (.int .i64 k) ∧ v4.cell? ⟨w.heap.size + 1, 1, none⟩ = some (.int .i64 xc) ∧ v4.cell? ⟨w.heap.size + 1, 2, none⟩ = some (.int .i64 xm) ∧ v4.cell? ⟨w.heap.size + 1 + 1, 0, none⟩ = some (.int .i64 m.c) ∧ v4.cell? ⟨w.heap.size + 1 + 1, 1, none⟩ = some (.int .i64 m.t) ∧ v4.cell? ⟨w.heap.size + 1 + 1, 2, none⟩ = some (.int .i64 m.a) from ⟨g4_0, g4_1, g4_2, g4_3, g4_4, g4_5, g4_6, g4_7⟩)
      have hz4 : w.heap.size + 1 + 1 < v4.heap.size := q4_2
      have HBX := Lib.hid (by repeat (first | exact Below.refl _ _ | with_reducible exact HB4.out | (refine Below.alloc ?_ (by first | omega | (simp; omega) | simp) _) | (refine Below.setCell ?_ (by first | omega | (simp; omega) | simp) _) | refine Below.drew ?_))
      clear g4_0 g4_1 g4_2 g4_3 g4_4 g4_5 g4_6 g4_7 q4_0 q4_1 q4_2
      go_loopw [11] (fun i wr => ∃ j : Nat, j ≤ 12 ∧ i = .int .i64 (9 * (j : Int)) ∧ Below v4.heap.size v4 wr) (fun i _ => 108 - (intOf i).toNat)
      case atStart => exact ⟨0, by omega, rfl, Below.refl _ _⟩
      case round =>
        obtain ⟨j, hj, rfl, hB⟩ := hrel
        obtain ⟨W1, rfl⟩ : ∃ W1 : World, W1 = wr := ⟨_, rfl⟩
        have hzW := hB.size
        obtain ⟨p0, p1, p2, p3, p4, p5, p6, p7⟩ := HCE.out
        have HBW1 := Lib.hid (HBW.out.trans ((HBX.out.trans (hB.mono HBX.out.size)).mono HBW.out.size))
        have HB41 := Lib.hid hB
        have x0 := (hB.cell (p := ⟨w.heap.size, 0, none⟩) (by show w.heap.size < _; omega)).trans p0
        have x1 := (hB.cell (p := ⟨w.heap.size, 1, none⟩) (by show w.heap.size < _; omega)).trans p1
        have x2 := (hB.cell (p := ⟨w.heap.size + 1, 0, none⟩) (by show w.heap.size + 1 < _; omega)).trans p2
        have x3 := (hB.cell (p := ⟨w.heap.size + 1, 1, none⟩) (by show w.heap.size + 1 < _; omega)).trans p3
        have x4 := (hB.cell (p := ⟨w.heap.size + 1, 2, none⟩) (by show w.heap.size + 1 < _; omega)).trans p4
        have x5 := (hB.cell (p := ⟨w.heap.size + 1 + 1, 0, none⟩) (by show w.heap.size + 1 + 1 < _; omega)).trans p5
        have x6 := (hB.cell (p := ⟨w.heap.size + 1 + 1, 1, none⟩) (by show w.heap.size + 1 + 1 < _; omega)).trans p6
        have x7 := (hB.cell (p := ⟨w.heap.size + 1 + 1, 2, none⟩) (by show w.heap.size + 1 + 1 < _; omega)).trans p7
        clear hB p0 p1 p2 p3 p4 p5 p6 p7
        by_cases hlt : j < 12
        · have hj1 : 9 * (j : Int) ≤ 99 := by omega
          have hj0 : (0 : Int) ≤ 9 * (j : Int) := by omega
          have HH1 := Lib.hid (HHS.out (9 * (j : Int)) (by simp [btw]; omega))
          go_wp2_with fail
          refine (HH1.out _ HBW1.out).mono ?_
          rintro e u1 ⟨rfl, hu1⟩
          have HU1 := Lib.hid (HB41.out.trans (hu1.mono HB41.out.size))
          clear hu1 x0 x1 x2 x3 x4 x5 x6 x7
          go_wp2_with fail
          go_roundw
          case rel => exact ⟨j + 1, by omega, by go_num, HU1.out⟩
          case measure => simp [intOf]; omega
        · have hj12 : j = 12 := by omega
          subst hj12
          have hj1 : ¬ (9 * ((12 : Nat) : Int)) ≤ 99 := by omega
          clear hlt hj
          have hwW1 : w.heap.size + 1 + 1 < W1.heap.size := by omega
          go_wp2_with (first | (go_at_call 17; refine (HCP.out _ HBW1.out).mono ?_; rintro e u1 ⟨ga, gac, gm, gmc, rfl, hfa, hfm, hca, hcm, hu1⟩; have hz1 := hu1.size; have y0 := (hu1.cell (p := ⟨w.heap.size, 0, none⟩) (by show w.heap.size < _; omega)).trans x0; have y1 := (hu1.cell (p := ⟨w.heap.size, 1, none⟩) (by show w.heap.size < _; omega)).trans x1; have y2 := (hu1.cell (p := ⟨w.heap.size + 1, 0, none⟩) (by show w.heap.size + 1 < _; omega)).trans x2; have y3 := (hu1.cell (p := ⟨w.heap.size + 1, 1, none⟩) (by show w.heap.size + 1 < _; omega)).trans x3; have y4 := (hu1.cell (p := ⟨w.heap.size + 1, 2, none⟩) (by show w.heap.size + 1 < _; omega)).trans x4; have y5 := (hu1.cell (p := ⟨w.heap.size + 1 + 1, 0, none⟩) (by show w.heap.size + 1 + 1 < _; omega)).trans x5; have y6 := (hu1.cell (p := ⟨w.heap.size + 1 + 1, 1, none⟩) (by show w.heap.size + 1 + 1 < _; omega)).trans x6; have y7 := (hu1.cell (p := ⟨w.heap.size + 1 + 1, 2, none⟩) (by show w.heap.size + 1 + 1 < _; omega)).trans x7; have hwu : w.heap.size + 1 + 1 < u1.heap.size := (by omega); have HFA := Lib.hid hfa; have HFM := Lib.hid hfm; have HCM := Lib.hid hcm; have HU1 := Lib.hid hu1; clear hfa hfm hca hcm hu1 x0 x1 x2 x3 x4 x5 x6 x7) | (at_builtin; go_must (refine wpList_append_mark _ W1.heap.size ml gmc gm (h.marks.flatMap CMark.cells) m.c m.t m.a HCM.out ?_ hml1 rfl _ _ rfl rfl ⟨_, rfl, ?_, ?_, ?_⟩ ?_ ?_); go_must (· exact HFM.out.kept (grown_none (by repeat (first | exact Below.refl _ _ | (refine Below.alloc ?_ (by first | omega | (simp; omega) | simp) _) | (refine Below.setCell ?_ (by first | omega | (simp; omega) | simp) _) | refine Below.drew ?_))) (fun r e => by cases e)); go_must (focus (simp; done)); go_must (focus (simp; done)); go_must (focus (simp; done)); go_must (focus (first | omega | (simp; omega))); go_must (intro na nc wF row hoF hgF hrF hbF; have hX : Below u1.heap.size u1 ((u1.alloc (.cells #[.slice (some ga) tl gac, .slice (some gm) ml gmc] 25)).alloc (.cells #[.int .i64 m.c, .int .i64 m.t, .int .i64 m.a] 52)) := (by repeat (first | exact Below.refl _ _ | (refine Below.alloc ?_ (by first | omega | (simp; omega) | simp) _) | (refine Below.setCell ?_ (by first | omega | (simp; omega) | simp) _) | refine Below.drew ?_)); have z0 : wF.cell? ⟨w.heap.size, 0, none⟩ = some (.slice ta tl tc) := (hbF.cell (p := ⟨w.heap.size, 0, none⟩) (by show w.heap.size < _; omega)).trans ((hX.cell (p := ⟨w.heap.size, 0, none⟩) (by show w.heap.size < _; omega)).trans y0); have z1 : wF.cell? ⟨w.heap.size, 1, none⟩ = some (.slice ma ml mc) := (hbF.cell (p := ⟨w.heap.size, 1, none⟩) (by show w.heap.size < _; omega)).trans ((hX.cell (p := ⟨w.heap.size, 1, none⟩) (by show w.heap.size < _; omega)).trans y1); have z2 : wF.cell? ⟨w.heap.size + 1, 0, none⟩ = some (.int .i64 k) := (hbF.cell (p := ⟨w.heap.size + 1, 0, none⟩) (by show w.heap.size + 1 < _; omega)).trans ((hX.cell (p := ⟨w.heap.size + 1, 0, none⟩) (by show w.heap.size + 1 < _; omega)).trans y2); have z3 : wF.cell? ⟨w.heap.size + 1, 1, none⟩ = some (.int .i64 xc) := (hbF.cell (p := ⟨w.heap.size + 1, 1, none⟩) (by show w.heap.size + 1 < _; omega)).trans ((hX.cell (p := ⟨w.heap.size + 1, 1, none⟩) (by show w.heap.size + 1 < _; omega)).trans y3); have z4 : wF.cell? ⟨w.heap.size + 1, 2, none⟩ = some (.int .i64 xm) := (hbF.cell (p := ⟨w.heap.size + 1, 2, none⟩) (by show w.heap.size + 1 < _; omega)).trans ((hX.cell (p := ⟨w.heap.size + 1, 2, none⟩) (by show w.heap.size + 1 < _; omega)).trans y4); have z5 : wF.cell? ⟨w.heap.size + 1 + 1, 0, none⟩ = some (.int .i64 m.c) := (hbF.cell (p := ⟨w.heap.size + 1 + 1, 0, none⟩) (by show w.heap.size + 1 + 1 < _; omega)).trans ((hX.cell (p := ⟨w.heap.size + 1 + 1, 0, none⟩) (by show w.heap.size + 1 + 1 < _; omega)).trans y5); have z6 : wF.cell? ⟨w.heap.size + 1 + 1, 1, none⟩ = some (.int .i64 m.t) := (hbF.cell (p := ⟨w.heap.size + 1 + 1, 1, none⟩) (by show w.heap.size + 1 + 1 < _; omega)).trans ((hX.cell (p := ⟨w.heap.size + 1 + 1, 1, none⟩) (by show w.heap.size + 1 + 1 < _; omega)).trans y6); have z7 : wF.cell? ⟨w.heap.size + 1 + 1, 2, none⟩ = some (.int .i64 m.a) := (hbF.cell (p := ⟨w.heap.size + 1 + 1, 2, none⟩) (by show w.heap.size + 1 + 1 < _; omega)).trans ((hX.cell (p := ⟨w.heap.size + 1 + 1, 2, none⟩) (by show w.heap.size + 1 + 1 < _; omega)).trans y7); have hnr : some u1.heap.size ≠ row := (fun e => by obtain ⟨q1, q2⟩ := hrF _ e.symm; obtain ⟨g, q3, -, q4, -⟩ := HFM.out.cell q1; injection q3 with q3; rw [q2] at q3; injection q3 with q3; omega); have hXg : ((u1.alloc (.cells #[.slice (some ga) tl gac, .slice (some gm) ml gmc] 25)).alloc (.cells #[.int .i64 m.c, .int .i64 m.t, .int .i64 m.a] 52)).heap[u1.heap.size]? = some (.cells #[.slice (some ga) tl gac, .slice (some gm) ml gmc] 25 (0, 0)) := ((Below.heap_alloc _ _ _ (by simp)).trans (World.alloc_heap_new _ _)); have hwg := (hgF.block u1.heap.size (by simp; omega) hnr).trans hXg; have HAT := Lib.hid (fun u => with_house (m := m) u (by have := HTL.out; omega) (HFA.out.kept (grown_none hX) (fun r e => by cases e)) (HFM.out.kept (grown_none hX) (fun r e => by cases e)) hoF hgF hrF hwg); have f0 : wF.cell? ⟨u1.heap.size, 0, none⟩ = some (.slice (some ga) tl gac) := (cell_at hwg 0); have f1 : wF.cell? ⟨u1.heap.size, 1, none⟩ = some (.slice (some gm) ml gmc) := (cell_at hwg 1); have f2 : wF.frozen? ⟨u1.heap.size, 1, none⟩ = false := (by simp [World.frozen?, hwg]); have HBF := Lib.hid (HBW1.out.trans ((HU1.out.trans ((hX.mono HU1.out.size).trans hbF)).mono HBW1.out.size)); have hzF := hbF.size; (try simp at hzF); have hwF : w.heap.size + 1 + 1 < wF.heap.size := (by omega); have hwg2 : w.heap.size + 1 + 1 < u1.heap.size := hwu; clear hoF hgF hrF hbF hX hXg hnr hwg y0 y1 y2 y3 y4 y5 y6 y7)))
          obtain ⟨V, hV, ⟨v0, v1, v2, v3, v4, v5⟩, ⟨b0, b1⟩, hat, hbV, hzV⟩ : ∃ V, wF.setCell ⟨u1.heap.size, 1, none⟩ (.slice na (ml + 1) nc) = V ∧ (V.cell? ⟨w.heap.size + 1, 0, none⟩ = some (.int .i64 k) ∧ V.cell? ⟨w.heap.size + 1, 1, none⟩ = some (.int .i64 xc) ∧ V.cell? ⟨w.heap.size + 1, 2, none⟩ = some (.int .i64 xm) ∧ V.cell? ⟨w.heap.size + 1 + 1, 0, none⟩ = some (.int .i64 m.c) ∧ V.cell? ⟨w.heap.size + 1 + 1, 1, none⟩ = some (.int .i64 m.t) ∧ V.cell? ⟨w.heap.size + 1 + 1, 2, none⟩ = some (.int .i64 m.a)) ∧ (V.cell? ⟨u1.heap.size, 0, none⟩ = some (.slice (some ga) tl gac) ∧ V.cell? ⟨u1.heap.size, 1, none⟩ = some (.slice na (ml + 1) nc)) ∧ HAt V (some ga) tl gac na (ml + 1) nc (h.with m) ∧ Below w.heap.size w V ∧ V.heap.size = wF.heap.size := by
            have hgo : ∀ b i, b < u1.heap.size → (wF.setCell ⟨u1.heap.size, 1, none⟩ (.slice na (ml + 1) nc)).cell? ⟨b, i, none⟩ = wF.cell? ⟨b, i, none⟩ := fun b i hb => World.cell?_of_block (a := ⟨b, i, none⟩) (Below.heap_setCell wF _ _ b (by show b ≠ u1.heap.size; omega))
            exact ⟨_, rfl, ⟨(hgo _ _ (by omega)).trans z2, (hgo _ _ (by omega)).trans z3, (hgo _ _ (by omega)).trans z4, (hgo _ _ (by omega)).trans z5, (hgo _ _ (by omega)).trans z6, (hgo _ _ (by omega)).trans z7⟩, ⟨(set_cell' (by decide)).trans f0, set_cell f1⟩, HAT.out _, HBF.out.setCell (by show w.heap.size ≤ u1.heap.size; omega) _, by simp⟩
          rw [hV]
          have HATV := Lib.hid hat
          have HBV := Lib.hid hbV
          have hwV : w.heap.size + 1 + 1 < V.heap.size := by omega
          have hgV : u1.heap.size < V.heap.size := by omega
          clear hV hat hbV z0 z1 z2 z3 z4 z5 z6 z7 f0 f1 f2
          obtain ⟨gb, hgb⟩ : ∃ gb, gb = u1.heap.size := ⟨_, rfl⟩
          rw [← hgb] at b0 b1 hgV ⊢
          clear hgb
          rcases hro : (h.with m).ready with - | -
          · refine (HRO.out false hro _ _ _ _ _ HATV.out).mono ?_
            rintro e u2 ⟨rfl, hu2⟩
            have HW2 := Lib.hid (HBV.out.trans (hu2.mono HBV.out.size))
            clear hu2 v0 v1 v2 v3 v4 v5 b0 b1
            go_wp2_with fail
            refine (HWK.out _).mono ?_
            rintro e u3 ⟨rfl, hu3⟩
            have HU3 := Lib.hid (HW2.out.trans (hu3.mono HW2.out.size))
            clear hu3
            go_wp2_with fail
            go_ret
            exact ⟨rfl, HU3.out⟩
          · have hwok := HOK.out hro
            have HSW := Lib.hid (HSO.out hwok)
            have hle := HLE.out hwok
            have hne := HNE.out hwok
            have hmk := HMK.out hwok
            refine (HRO.out true hro _ _ _ _ _ HATV.out).mono ?_
            rintro e u2 ⟨rfl, hu2⟩
            have w0 := (hu2.cell (p := ⟨w.heap.size + 1, 0, none⟩) (by show w.heap.size + 1 < _; omega)).trans v0
            have w1 := (hu2.cell (p := ⟨w.heap.size + 1, 1, none⟩) (by show w.heap.size + 1 < _; omega)).trans v1
            have w2 := (hu2.cell (p := ⟨w.heap.size + 1, 2, none⟩) (by show w.heap.size + 1 < _; omega)).trans v2
            have w3 := (hu2.cell (p := ⟨w.heap.size + 1 + 1, 0, none⟩) (by show w.heap.size + 1 + 1 < _; omega)).trans v3
            have w4 := (hu2.cell (p := ⟨w.heap.size + 1 + 1, 1, none⟩) (by show w.heap.size + 1 + 1 < _; omega)).trans v4
            have w5 := (hu2.cell (p := ⟨w.heap.size + 1 + 1, 2, none⟩) (by show w.heap.size + 1 + 1 < _; omega)).trans v5
            have d0 := (hu2.cell (p := ⟨gb, 0, none⟩) hgV).trans b0
            have d1 := (hu2.cell (p := ⟨gb, 1, none⟩) hgV).trans b1
            have HA2 := Lib.hid (HATV.out.below hu2)
            have HW2 := Lib.hid (HBV.out.trans (hu2.mono HBV.out.size))
            have hz22 := hu2.size
            clear hu2 v0 v1 v2 v3 v4 v5 b0 b1
            go_wp2_with fail
            refine (HSW.out _ _ _ _ _ HA2.out).mono ?_
            rintro e u3 ⟨rfl, hu3⟩
            have v0 := (hu3.cell (p := ⟨w.heap.size + 1, 0, none⟩) (by show w.heap.size + 1 < _; omega)).trans w0
            have v1 := (hu3.cell (p := ⟨w.heap.size + 1, 1, none⟩) (by show w.heap.size + 1 < _; omega)).trans w1
            have v2 := (hu3.cell (p := ⟨w.heap.size + 1, 2, none⟩) (by show w.heap.size + 1 < _; omega)).trans w2
            have v3 := (hu3.cell (p := ⟨w.heap.size + 1 + 1, 0, none⟩) (by show w.heap.size + 1 + 1 < _; omega)).trans w3
            have v4 := (hu3.cell (p := ⟨w.heap.size + 1 + 1, 1, none⟩) (by show w.heap.size + 1 + 1 < _; omega)).trans w4
            have v5 := (hu3.cell (p := ⟨w.heap.size + 1 + 1, 2, none⟩) (by show w.heap.size + 1 + 1 < _; omega)).trans w5
            have HW3 := Lib.hid (HW2.out.trans (hu3.mono HW2.out.size))
            clear hu3 w0 w1 w2 w3 w4 w5 d0 d1 HSW
            by_cases hmc : m.c = xc
            · by_cases hmt : m.t = (k : Int)
              · have hka := hmk hmc hmt
                rw [hmc] at v3
                rw [hmt] at v4
                clear hne hmk
                go_wp2_with fail
                refine (HWK.out _).mono ?_
                rintro e u4 ⟨rfl, hu4⟩
                have HU4 := Lib.hid (HW3.out.trans (hu4.mono HW3.out.size))
                clear hu4
                go_wp2_with fail
                go_ret
                exact ⟨rfl, HU4.out⟩
              · rw [hmc] at v3
                clear hne hmk
                go_wp2_with fail
                refine (HWK.out _).mono ?_
                rintro e u4 ⟨rfl, hu4⟩
                have HU4 := Lib.hid (HW3.out.trans (hu4.mono HW3.out.size))
                clear hu4
                go_wp2_with fail
                go_ret
                exact ⟨rfl, HU4.out⟩
            · have hss := hne hmc
              subst hss
              clear hne hmk
              go_wp2_with fail
              refine (HWK.out _).mono ?_
              rintro e u4 ⟨rfl, hu4⟩
              have HU4 := Lib.hid (HW3.out.trans (hu4.mono HW3.out.size))
              clear hu4
              go_wp2_with fail
              go_ret
              exact ⟨rfl, HU4.out⟩
end Go.Proofs.Ytedfdhpggghjeaa
