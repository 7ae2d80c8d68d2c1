/- The laws of changes: ChangesFrom. -/
import Derived.Test.YtedfdhpggghjeaaDU
import Derived.Test.YtedfdhpggghjeaaDP
namespace Go.Proofs.Ytedfdhpggghjeaa
set_option linter.unusedVariables false
set_option linter.unusedSimpArgs false
open Go.RowKit Go.Shelf

/-- Whether one of the first marks is a thing's of a change at a minute. -/
def CHouse.wantTo (h : CHouse) (c t a : Int) (j : Nat) : Bool := (h.marks.take j).any fun m => decide (m.c = c) && decide (m.t = t) && decide (m.a = a)
theorem wantTo_next (h : CHouse) (c t a : Int) (j : Nat) (hj : j < h.marks.length) : h.wantTo c t a (j + 1) = (h.wantTo c t a j || (decide (h.marks[j].c = c) && decide (h.marks[j].t = t) && decide (h.marks[j].a = a))) := by
  unfold CHouse.wantTo
  rw [List.take_succ_eq_append_getElem hj, List.any_append]
  simp
/-- A thing has a change at once if what it is made of has it then, or a mark says so. -/
theorem has_at_once {h : CHouse} (ho : h.ok = true) (c : Int) {k : Nat} (hk : k < h.things.length) : h.hasB c k h.things[k].a = (h.wantTo c k h.things[k].a h.marks.length || (decide (h.things[k].o ≠ -1) && h.hasB c h.things[k].o.toNat h.things[k].a)) := by
  have hT := CHouse.ok_T ho
  have hl := ok_late ho k hk c
  have hw : h.wantTo c k h.things[k].a h.marks.length = true ↔ ∃ m ∈ h.marks, m.c = c ∧ m.t = (k : Int) ∧ m.a = h.things[k].a := by
    unfold CHouse.wantTo
    rw [List.take_length]
    simp [and_assoc]
  rw [Bool.eq_iff_iff]
  unfold CHouse.hasB
  rw [since_eq hT c hk]
  by_cases hm : h.made c h.things[k] = true
  · rw [if_pos hm]
    unfold CHouse.made at hm
    simp only [Bool.and_eq_true, decide_eq_true_eq] at hm
    simp [hm.1, hm.2]
  · rw [if_neg hm]
    have hm2 : (decide (h.things[k].o ≠ -1) && decide (h.since c h.things[k].o.toNat ≤ h.things[k].a)) = false := by
      unfold CHouse.made at hm
      simpa using hm
    rw [hm2, Bool.or_false, hw, decide_eq_true_eq]
    constructor
    · intro h1
      rcases firstA_mem h k c with ⟨-, e⟩ | ⟨m, hm, h2, h3, e⟩
      · have := (CHouse.okT_thing hT hk).2.1.2; omega
      · exact ⟨m, hm, h3, h2, by omega⟩
    · rintro ⟨m, hm, h2, h3, e⟩
      have := firstA_le hm h3 h2
      omega
theorem src_facts {h : CHouse} (ho : h.okT = true) {c : Int} {k : Nat} {m : Int} {i : Nat} (hs : Src h c k m i) : h.since c k ≤ m → ∃ hi : i < h.marks.length, h.marks[i].c = c ∧ h.marks[i].a ≤ m ∧ h.marks[i].t ≤ (k : Int) := by
  induction hs with
  | here hf hi ha =>
    intro _
    obtain ⟨-, _, e1, e2⟩ := firstTo_lt h _ c _ _ hf
    exact ⟨hi, e2, ha, by omega⟩
  | @up k j m i hk hf hj hs hu ih =>
    intro hsm
    obtain ⟨hi, e1, e2, e3⟩ := ih hs
    have hb := (CHouse.okT_thing ho hk).1
    have hmd : h.made c h.things[k] = true := by
      unfold CHouse.made
      rw [hj]
      simp [hs]
    rw [since_eq ho c hk, if_pos hmd] at hsm
    exact ⟨hi, e1, by omega, by omega⟩
theorem src_step {h : CHouse} (ho : h.okT = true) {c : Int} {u : Nat} {m : Int} {i : Nat} (hi : i < h.marks.length) (hs : Src h c u m i) (hsm : h.since c u ≤ m) : (h.marks[i].t = (u : Int) ∧ h.first u c = some i) ∨ (h.marks[i].t ≠ (u : Int) ∧ ∃ (hu : u < h.things.length) (j : Nat), h.things[u].o = (j : Int) ∧ j < u ∧ Src h c j h.things[u].a i ∧ h.since c j ≤ h.things[u].a) := by
  cases hs with
  | here hf _ ha =>
    obtain ⟨-, _, e1, -⟩ := firstTo_lt h _ c _ _ hf
    exact .inl ⟨e1, hf⟩
  | @up _ j _ _ hk hf hj hs hu =>
    have hb := (CHouse.okT_thing ho hk).1
    obtain ⟨_, _, _, e3⟩ := src_facts ho hu hs
    exact .inr ⟨by omega, hk, j, hj, by omega, hu, hs⟩
theorem src_own {h : CHouse} (ho : h.ok = true) {c : Int} {k : Nat} (hk : k < h.things.length) {i : Nat} (hi : i < h.marks.length) (hf : h.first k c = some i) (ha : h.marks[i].a ≤ h.since c k) : h.marks[i].a = h.since c k := by
  have hT := CHouse.ok_T ho
  obtain ⟨-, _, e1, -⟩ := firstTo_lt h _ c _ _ hf
  have hl := (mark_late ho (List.getElem_mem hi) hk e1).1
  rw [since_eq hT c hk] at ha ⊢
  by_cases hm : h.made c h.things[k] = true
  · rw [if_pos hm] at ha ⊢; omega
  · rw [if_neg hm]
    unfold CHouse.firstA
    rw [hf]
    simp only [List.getElem?_eq_getElem hi, Option.map_some, Option.getD_some]

set_option maxRecDepth 100000 in
set_option maxHeartbeats 16000000 in
theorem ChangesFrom_any (h : CHouse) (ta : Option Addr) (tl tc : Nat) (ma : Option Addr) (ml mc : Nat) (xt xc xm : Int) (w : World) (hp : HAt w ta tl tc ma ml mc h) :
    Calls Try.prog 7 #[.agg #[.slice ta tl tc, .slice ma ml mc], .agg #[.int .i64 xt, .int .i64 xc, .int .i64 xm]] w fun e w' => e = .returned (.bool true) ∧ Below w.heap.size w w' := by
  have HWK := Lib.hid (fun W => works_any W)
  have HRD := Lib.hid (fun b (hb : h.ready = b) W (hw : Below w.heap.size w W) => ready_is h ta tl tc ma ml mc b hb W (hp.below hw))
  have HAK := Lib.hid (fun b (hb : h.askB xt xc xm = b) W (hw : Below w.heap.size w W) => isAsk_is h ta tl tc ma ml mc xt xc xm b hb W (hp.below hw))
  rcases hr : h.ready with - | -
  · have HR1 := Lib.hid (HRD.out false hr)
    clear hp HRD HAK
    go_enter Try.func7, Try.ntmps7
    go_wp2_with fail
    obtain ⟨W0, hW0, hB0, ⟨g0_0, g0_1, g0_2, g0_3, g0_4⟩, hz0⟩ : ∃ W0, ((w.alloc (.cells #[.slice ta tl tc, .slice ma ml mc] 25)).alloc (.cells #[.int .i64 xt, .int .i64 xc, .int .i64 xm] 27)) = W0 ∧ Below w.heap.size w W0 ∧ (W0.cell? ⟨w.heap.size, 0, none⟩ = some (.slice ta tl tc) ∧ W0.cell? ⟨w.heap.size, 1, none⟩ = some (.slice ma ml mc) ∧ W0.cell? ⟨w.heap.size + 1, 0, none⟩ = some (.int .i64 xt) ∧ W0.cell? ⟨w.heap.size + 1, 1, none⟩ = some (.int .i64 xc) ∧ W0.cell? ⟨w.heap.size + 1, 2, none⟩ = some (.int .i64 xm)) ∧ W0.heap.size = w.heap.size + 1 + 1 :=
      ⟨_, rfl, (by repeat (first | exact Below.refl _ _ | (refine Below.alloc ?_ (by first | omega | (simp; omega) | simp) _) | (refine Below.setCell ?_ (by first | omega | (simp; omega) | simp) _) | refine Below.drew ?_)), ⟨by go_simp, by go_simp, by go_simp, by go_simp, by go_simp⟩, by simp⟩
    rw [hW0]
    clear hW0
    have HBW := Lib.hid hB0
    have q0_0 : w.heap.size < W0.heap.size := by omega
    have q0_1 : w.heap.size + 1 < W0.heap.size := by omega
    clear hB0 hz0
    go_wp2_with fail
    refine (HR1.out _ (HBW.out.trans (Below.mono (by repeat (first | exact Below.refl _ _ | (refine Below.alloc ?_ (by first | omega | (simp; omega) | simp) _) | (refine Below.setCell ?_ (by first | omega | (simp; omega) | simp) _) | refine Below.drew ?_)) HBW.out.size))).mono ?_
    rintro e v1 ⟨rfl, hb1⟩
    have hB1_0 : Below W0.heap.size W0 v1 := below_via (Lib.hid hb1) (by first | omega | (simp; done) | (simp; omega)) (by repeat (first | exact Below.refl _ _ | (refine Below.alloc ?_ (by first | omega | (simp; omega) | simp) _) | (refine Below.setCell ?_ (by first | omega | (simp; omega) | simp) _) | refine Below.drew ?_))
    have z1 := hb1.size
    (try simp at z1)
    obtain ⟨g1_0, g1_1, g1_2, g1_3, g1_4⟩ : v1.cell? ⟨w.heap.size, 0, none⟩ = some (.slice ta tl tc) ∧ v1.cell? ⟨w.heap.size, 1, none⟩ = some (.slice ma ml mc) ∧ v1.cell? ⟨w.heap.size + 1, 0, none⟩ = some (.int .i64 xt) ∧ v1.cell? ⟨w.heap.size + 1, 1, none⟩ = some (.int .i64 xc) ∧ v1.cell? ⟨w.heap.size + 1, 2, none⟩ = some (.int .i64 xm) :=
      ⟨(hb1.cell (p := ⟨w.heap.size, 0, none⟩) (by first | omega | (simp; done) | (simp; omega))).trans (by first | (go_simp; done) | (go_simp; exact set_same (u := .int .i64 0) (by go_simp; done))), (hb1.cell (p := ⟨w.heap.size, 1, none⟩) (by first | omega | (simp; done) | (simp; omega))).trans (by first | (go_simp; done) | (go_simp; exact set_same (u := .int .i64 0) (by go_simp; done))), (hb1.cell (p := ⟨w.heap.size + 1, 0, none⟩) (by first | omega | (simp; done) | (simp; omega))).trans (by first | (go_simp; done) | (go_simp; exact set_same (u := .int .i64 0) (by go_simp; done))), (hb1.cell (p := ⟨w.heap.size + 1, 1, none⟩) (by first | omega | (simp; done) | (simp; omega))).trans (by first | (go_simp; done) | (go_simp; exact set_same (u := .int .i64 0) (by go_simp; done))), (hb1.cell (p := ⟨w.heap.size + 1, 2, none⟩) (by first | omega | (simp; done) | (simp; omega))).trans (by first | (go_simp; done) | (go_simp; exact set_same (u := .int .i64 0) (by go_simp; done)))⟩
    have q1_0 : w.heap.size < v1.heap.size := by first | omega | (simp at *; omega)
    have q1_1 : w.heap.size + 1 < v1.heap.size := by first | omega | (simp at *; omega)
    have HB1 := Lib.hid hB1_0
    have y1 := hB1_0.size
    clear hb1 hB1_0 g0_0 g0_1 g0_2 g0_3 g0_4 q0_0 q0_1
    go_wp2_with fail
    refine (HWK.out _).mono ?_
    rintro e v2 ⟨rfl, hb2⟩
    have hB2_0 : Below W0.heap.size W0 v2 := below_via (Lib.hid hb2) (by first | omega | (simp; done) | (simp; omega)) (by repeat (first | exact Below.refl _ _ | with_reducible exact HB1.out | (refine Below.alloc ?_ (by first | omega | (simp; omega) | simp) _) | (refine Below.setCell ?_ (by first | omega | (simp; omega) | simp) _) | refine Below.drew ?_))
    have z2 := hb2.size
    (try simp at z2)
    have HB2 := Lib.hid hB2_0
    have y2 := hB2_0.size
    clear hb2 hB2_0 g1_0 g1_1 g1_2 g1_3 g1_4 q1_0 q1_1
    go_wp2_with fail
    go_ret
    exact ⟨rfl, HBW.out.trans (Below.mono (by repeat (first | exact Below.refl _ _ | with_reducible exact HB2.out | (refine Below.alloc ?_ (by first | omega | (simp; omega) | simp) _) | (refine Below.setCell ?_ (by first | omega | (simp; omega) | simp) _) | refine Below.drew ?_)) HBW.out.size)⟩
  · have HR1 := Lib.hid (HRD.out true hr)
    rcases ha : h.askB xt xc xm with - | -
    · have HA1 := Lib.hid (HAK.out false ha)
      clear hp HRD HAK
      go_enter Try.func7, Try.ntmps7
      go_wp2_with fail
      obtain ⟨W0, hW0, hB0, ⟨g0_0, g0_1, g0_2, g0_3, g0_4⟩, hz0⟩ : ∃ W0, ((w.alloc (.cells #[.slice ta tl tc, .slice ma ml mc] 25)).alloc (.cells #[.int .i64 xt, .int .i64 xc, .int .i64 xm] 27)) = W0 ∧ Below w.heap.size w W0 ∧ (W0.cell? ⟨w.heap.size, 0, none⟩ = some (.slice ta tl tc) ∧ W0.cell? ⟨w.heap.size, 1, none⟩ = some (.slice ma ml mc) ∧ W0.cell? ⟨w.heap.size + 1, 0, none⟩ = some (.int .i64 xt) ∧ W0.cell? ⟨w.heap.size + 1, 1, none⟩ = some (.int .i64 xc) ∧ W0.cell? ⟨w.heap.size + 1, 2, none⟩ = some (.int .i64 xm)) ∧ W0.heap.size = w.heap.size + 1 + 1 :=
        ⟨_, rfl, (by repeat (first | exact Below.refl _ _ | (refine Below.alloc ?_ (by first | omega | (simp; omega) | simp) _) | (refine Below.setCell ?_ (by first | omega | (simp; omega) | simp) _) | refine Below.drew ?_)), ⟨by go_simp, by go_simp, by go_simp, by go_simp, by go_simp⟩, by simp⟩
      rw [hW0]
      clear hW0
      have HBW := Lib.hid hB0
      have q0_0 : w.heap.size < W0.heap.size := by omega
      have q0_1 : w.heap.size + 1 < W0.heap.size := by omega
      clear hB0 hz0
      go_wp2_with fail
      refine (HR1.out _ (HBW.out.trans (Below.mono (by repeat (first | exact Below.refl _ _ | (refine Below.alloc ?_ (by first | omega | (simp; omega) | simp) _) | (refine Below.setCell ?_ (by first | omega | (simp; omega) | simp) _) | refine Below.drew ?_)) HBW.out.size))).mono ?_
      rintro e v1 ⟨rfl, hb1⟩
      have hB1_0 : Below W0.heap.size W0 v1 := below_via (Lib.hid hb1) (by first | omega | (simp; done) | (simp; omega)) (by repeat (first | exact Below.refl _ _ | (refine Below.alloc ?_ (by first | omega | (simp; omega) | simp) _) | (refine Below.setCell ?_ (by first | omega | (simp; omega) | simp) _) | refine Below.drew ?_))
      have z1 := hb1.size
      (try simp at z1)
      obtain ⟨g1_0, g1_1, g1_2, g1_3, g1_4⟩ : v1.cell? ⟨w.heap.size, 0, none⟩ = some (.slice ta tl tc) ∧ v1.cell? ⟨w.heap.size, 1, none⟩ = some (.slice ma ml mc) ∧ v1.cell? ⟨w.heap.size + 1, 0, none⟩ = some (.int .i64 xt) ∧ v1.cell? ⟨w.heap.size + 1, 1, none⟩ = some (.int .i64 xc) ∧ v1.cell? ⟨w.heap.size + 1, 2, none⟩ = some (.int .i64 xm) :=
        ⟨(hb1.cell (p := ⟨w.heap.size, 0, none⟩) (by first | omega | (simp; done) | (simp; omega))).trans (by first | (go_simp; done) | (go_simp; exact set_same (u := .int .i64 0) (by go_simp; done))), (hb1.cell (p := ⟨w.heap.size, 1, none⟩) (by first | omega | (simp; done) | (simp; omega))).trans (by first | (go_simp; done) | (go_simp; exact set_same (u := .int .i64 0) (by go_simp; done))), (hb1.cell (p := ⟨w.heap.size + 1, 0, none⟩) (by first | omega | (simp; done) | (simp; omega))).trans (by first | (go_simp; done) | (go_simp; exact set_same (u := .int .i64 0) (by go_simp; done))), (hb1.cell (p := ⟨w.heap.size + 1, 1, none⟩) (by first | omega | (simp; done) | (simp; omega))).trans (by first | (go_simp; done) | (go_simp; exact set_same (u := .int .i64 0) (by go_simp; done))), (hb1.cell (p := ⟨w.heap.size + 1, 2, none⟩) (by first | omega | (simp; done) | (simp; omega))).trans (by first | (go_simp; done) | (go_simp; exact set_same (u := .int .i64 0) (by go_simp; done)))⟩
      have q1_0 : w.heap.size < v1.heap.size := by first | omega | (simp at *; omega)
      have q1_1 : w.heap.size + 1 < v1.heap.size := by first | omega | (simp at *; omega)
      have HB1 := Lib.hid hB1_0
      have y1 := hB1_0.size
      clear hb1 hB1_0 g0_0 g0_1 g0_2 g0_3 g0_4 q0_0 q0_1
      go_wp2_with fail
      refine (HA1.out _ (HBW.out.trans (Below.mono (by repeat (first | exact Below.refl _ _ | with_reducible exact HB1.out | (refine Below.alloc ?_ (by first | omega | (simp; omega) | simp) _) | (refine Below.setCell ?_ (by first | omega | (simp; omega) | simp) _) | refine Below.drew ?_)) HBW.out.size))).mono ?_
      rintro e v2 ⟨rfl, hb2⟩
      have hB2_0 : Below W0.heap.size W0 v2 := below_via (Lib.hid hb2) (by first | omega | (simp; done) | (simp; omega)) (by repeat (first | exact Below.refl _ _ | with_reducible exact HB1.out | (refine Below.alloc ?_ (by first | omega | (simp; omega) | simp) _) | (refine Below.setCell ?_ (by first | omega | (simp; omega) | simp) _) | refine Below.drew ?_))
      have z2 := hb2.size
      (try simp at z2)
      obtain ⟨g2_0, g2_1, g2_2, g2_3, g2_4⟩ : v2.cell? ⟨w.heap.size, 0, none⟩ = some (.slice ta tl tc) ∧ v2.cell? ⟨w.heap.size, 1, none⟩ = some (.slice ma ml mc) ∧ v2.cell? ⟨w.heap.size + 1, 0, none⟩ = some (.int .i64 xt) ∧ v2.cell? ⟨w.heap.size + 1, 1, none⟩ = some (.int .i64 xc) ∧ v2.cell? ⟨w.heap.size + 1, 2, none⟩ = some (.int .i64 xm) :=
        ⟨(hb2.cell (p := ⟨w.heap.size, 0, none⟩) (by first | omega | (simp; done) | (simp; omega))).trans (by first | (go_simp; done) | (go_simp; exact set_same (u := .int .i64 0) (by go_simp; done))), (hb2.cell (p := ⟨w.heap.size, 1, none⟩) (by first | omega | (simp; done) | (simp; omega))).trans (by first | (go_simp; done) | (go_simp; exact set_same (u := .int .i64 0) (by go_simp; done))), (hb2.cell (p := ⟨w.heap.size + 1, 0, none⟩) (by first | omega | (simp; done) | (simp; omega))).trans (by first | (go_simp; done) | (go_simp; exact set_same (u := .int .i64 0) (by go_simp; done))), (hb2.cell (p := ⟨w.heap.size + 1, 1, none⟩) (by first | omega | (simp; done) | (simp; omega))).trans (by first | (go_simp; done) | (go_simp; exact set_same (u := .int .i64 0) (by go_simp; done))), (hb2.cell (p := ⟨w.heap.size + 1, 2, none⟩) (by first | omega | (simp; done) | (simp; omega))).trans (by first | (go_simp; done) | (go_simp; exact set_same (u := .int .i64 0) (by go_simp; done)))⟩
      have q2_0 : w.heap.size < v2.heap.size := by first | omega | (simp at *; omega)
      have q2_1 : w.heap.size + 1 < v2.heap.size := by first | omega | (simp at *; omega)
      have HB2 := Lib.hid hB2_0
      have y2 := hB2_0.size
      clear hb2 hB2_0 g1_0 g1_1 g1_2 g1_3 g1_4 q1_0 q1_1
      go_wp2_with fail
      refine (HWK.out _).mono ?_
      rintro e v3 ⟨rfl, hb3⟩
      have hB3_0 : Below W0.heap.size W0 v3 := below_via (Lib.hid hb3) (by first | omega | (simp; done) | (simp; omega)) (by repeat (first | exact Below.refl _ _ | with_reducible exact HB2.out | (refine Below.alloc ?_ (by first | omega | (simp; omega) | simp) _) | (refine Below.setCell ?_ (by first | omega | (simp; omega) | simp) _) | refine Below.drew ?_))
      have z3 := hb3.size
      (try simp at z3)
      have HB3 := Lib.hid hB3_0
      have y3 := hB3_0.size
      clear hb3 hB3_0 g2_0 g2_1 g2_2 g2_3 g2_4 q2_0 q2_1
      go_wp2_with fail
      go_ret
      exact ⟨rfl, HBW.out.trans (Below.mono (by repeat (first | exact Below.refl _ _ | with_reducible exact HB3.out | (refine Below.alloc ?_ (by first | omega | (simp; omega) | simp) _) | (refine Below.setCell ?_ (by first | omega | (simp; omega) | simp) _) | refine Below.drew ?_)) HBW.out.size)⟩
    · have HA1 := Lib.hid (HAK.out true ha)
      obtain ⟨⟨k, rfl, hk⟩, hc, -⟩ := ask_parts ha
      obtain ⟨ho, h8, hm6⟩ := ready_parts hr
      have hT := CHouse.ok_T ho
      have htl := hp.1.1
      have hml := hp.2.1.1
      have hak := (CHouse.okT_thing hT hk).2.1.2
      have hap := CHouse.at_pos hT k hk
      have hok := (CHouse.okT_thing hT hk).1
      have hba : btw h.things[k].a 0 99 = true := by simp [btw]; omega
      have HHS := Lib.hid (fun (j : Nat) (hj : j < h.things.length) (mm : Int) (hmm : btw mm 0 99 = true) W (hw : Below w.heap.size w W) => lawHas_yes h ta tl tc ma ml mc ho j hj xc mm hc hmm W (hp.below hw))
      have HSI := Lib.hid (fun W (hw : Below w.heap.size w W) => lawSince_yes h ta tl tc ma ml mc ho k hk xc hc W (hp.below hw))
      have HSO := Lib.hid (fun W (hw : Below w.heap.size w W) => Source_yes h ta tl tc ma ml mc ho k hk xc hc W (hp.below hw))
      have HBD := Lib.hid (since_bd ho xc hk)
      have HON := Lib.hid (has_at_once ho xc hk)
      have HWT := Lib.hid (fun j hj => wantTo_next h xc k h.things[k].a j hj)
      have HSF := Lib.hid (fun (m : Int) (i : Nat) (hs : Src h xc k m i) hsm => src_facts hT hs hsm)
      have HSS := Lib.hid (fun (u : Nat) (m : Int) (i : Nat) (hi : i < h.marks.length) (hs : Src h xc u m i) hsm => src_step hT hi hs hsm)
      have HSW := Lib.hid (fun (i : Nat) (hi : i < h.marks.length) (hf : h.first k xc = some i) hle => src_own ho hk hi hf hle)
      have HMC := Lib.hid hp.2.1.2.2
      have HML := Lib.hid hml
      have HTL := Lib.hid htl
      have HTC := Lib.hid hp.1.2.2
      obtain ⟨tb, tz, rfl, htB, htcell⟩ := HTC.out (by omega)
      obtain ⟨d0, d1, d2, d3⟩ := htcell k hk
      have HTX := Lib.hid htcell
      have hkt : (k : Int) < (tl : Int) := by omega
      have hk0 : (0 : Int) ≤ (k : Int) := by omega
      have hml6 : ml ≤ 6 := by omega
      have HUJ := Lib.hid (show ∀ j : Nat, h.things[k].o = (j : Int) → j < h.things.length from fun j e => by omega)
      clear hp HRD HAK hr ha htl hml htcell hak hap HTC
      generalize h.things[k] = x at *
      obtain ⟨xo, xa, xk, xp⟩ := x
      simp only at d0 d1 d2 d3 hba hok HON HWT HUJ
      have HBA := Lib.hid hba
      have HHB := Lib.hid (HHS.out k hk xa hba)
      generalize hbx : h.hasB xc k xa = bx at *
      clear hbx hba
      go_enter Try.func7, Try.ntmps7
      go_wp2_with fail
      obtain ⟨W0, hW0, hB0, ⟨g0_0, g0_1, g0_2, g0_3, g0_4⟩, hz0⟩ : ∃ W0, ((w.alloc (.cells #[.slice (some ⟨tb, tz, none⟩) tl tc, .slice ma ml mc] 25)).alloc (.cells #[.int .i64 k, .int .i64 xc, .int .i64 xm] 27)) = W0 ∧ Below w.heap.size w W0 ∧ (W0.cell? ⟨w.heap.size, 0, none⟩ = some (.slice (some ⟨tb, tz, none⟩) tl tc) ∧ W0.cell? ⟨w.heap.size, 1, none⟩ = some (.slice ma ml mc) ∧ W0.cell? ⟨w.heap.size + 1, 0, none⟩ = some (.int .i64 k) ∧ W0.cell? ⟨w.heap.size + 1, 1, none⟩ = some (.int .i64 xc) ∧ W0.cell? ⟨w.heap.size + 1, 2, none⟩ = some (.int .i64 xm)) ∧ W0.heap.size = w.heap.size + 1 + 1 :=
        ⟨_, rfl, (by repeat (first | exact Below.refl _ _ | (refine Below.alloc ?_ (by first | omega | (simp; omega) | simp) _) | (refine Below.setCell ?_ (by first | omega | (simp; omega) | simp) _) | refine Below.drew ?_)), ⟨by go_simp, by go_simp, by go_simp, by go_simp, by go_simp⟩, by simp⟩
      rw [hW0]
      clear hW0
      have HBW := Lib.hid hB0
      have q0_0 : w.heap.size < W0.heap.size := by omega
      have q0_1 : w.heap.size + 1 < W0.heap.size := by omega
      clear hB0 hz0
      have g0_5 : W0.cell? ⟨tb, tz + k * 4, none⟩ = some (.int .i64 xo) := (HBW.out.cell (p := ⟨tb, _, none⟩) htB).trans d0
      have g0_6 : W0.cell? ⟨tb, tz + k * 4 + 1, none⟩ = some (.int .i64 xa) := (HBW.out.cell (p := ⟨tb, _, none⟩) htB).trans d1
      have g0_7 : W0.cell? ⟨tb, tz + k * 4 + 2, none⟩ = some (.int .i64 xk) := (HBW.out.cell (p := ⟨tb, _, none⟩) htB).trans d2
      have g0_8 : W0.cell? ⟨tb, tz + k * 4 + 3, none⟩ = some (.int .i64 xp) := (HBW.out.cell (p := ⟨tb, _, none⟩) htB).trans d3
      have q0_2 : tb < W0.heap.size := Nat.lt_of_lt_of_le htB HBW.out.size
      go_wp2_with fail
      refine (HR1.out _ (HBW.out.trans (Below.mono (by repeat (first | exact Below.refl _ _ | (refine Below.alloc ?_ (by first | omega | (simp; omega) | simp) _) | (refine Below.setCell ?_ (by first | omega | (simp; omega) | simp) _) | refine Below.drew ?_)) HBW.out.size))).mono ?_
      rintro e v1 ⟨rfl, hb1⟩
      have hB1_0 : Below W0.heap.size W0 v1 := below_via (Lib.hid hb1) (by first | omega | (simp; done) | (simp; omega)) (by repeat (first | exact Below.refl _ _ | (refine Below.alloc ?_ (by first | omega | (simp; omega) | simp) _) | (refine Below.setCell ?_ (by first | omega | (simp; omega) | simp) _) | refine Below.drew ?_))
      have z1 := hb1.size
      (try simp at z1)
      obtain ⟨g1_0, g1_1, g1_2, g1_3, g1_4, g1_5, g1_6, g1_7, g1_8⟩ : v1.cell? ⟨w.heap.size, 0, none⟩ = some (.slice (some ⟨tb, tz, none⟩) tl tc) ∧ v1.cell? ⟨w.heap.size, 1, none⟩ = some (.slice ma ml mc) ∧ v1.cell? ⟨w.heap.size + 1, 0, none⟩ = some (.int .i64 k) ∧ v1.cell? ⟨w.heap.size + 1, 1, none⟩ = some (.int .i64 xc) ∧ v1.cell? ⟨w.heap.size + 1, 2, none⟩ = some (.int .i64 xm) ∧ v1.cell? ⟨tb, tz + k * 4, none⟩ = some (.int .i64 xo) ∧ v1.cell? ⟨tb, tz + k * 4 + 1, none⟩ = some (.int .i64 xa) ∧ v1.cell? ⟨tb, tz + k * 4 + 2, none⟩ = some (.int .i64 xk) ∧ v1.cell? ⟨tb, tz + k * 4 + 3, none⟩ = some (.int .i64 xp) :=
        ⟨(hb1.cell (p := ⟨w.heap.size, 0, none⟩) (by first | omega | (simp; done) | (simp; omega))).trans (by first | (go_simp; done) | (go_simp; exact set_same (u := .int .i64 0) (by go_simp; done))), (hb1.cell (p := ⟨w.heap.size, 1, none⟩) (by first | omega | (simp; done) | (simp; omega))).trans (by first | (go_simp; done) | (go_simp; exact set_same (u := .int .i64 0) (by go_simp; done))), (hb1.cell (p := ⟨w.heap.size + 1, 0, none⟩) (by first | omega | (simp; done) | (simp; omega))).trans (by first | (go_simp; done) | (go_simp; exact set_same (u := .int .i64 0) (by go_simp; done))), (hb1.cell (p := ⟨w.heap.size + 1, 1, none⟩) (by first | omega | (simp; done) | (simp; omega))).trans (by first | (go_simp; done) | (go_simp; exact set_same (u := .int .i64 0) (by go_simp; done))), (hb1.cell (p := ⟨w.heap.size + 1, 2, none⟩) (by first | omega | (simp; done) | (simp; omega))).trans (by first | (go_simp; done) | (go_simp; exact set_same (u := .int .i64 0) (by go_simp; done))), (hb1.cell (p := ⟨tb, tz + k * 4, none⟩) (by first | omega | (simp; done) | (simp; omega))).trans (by first | (go_simp; done) | (go_simp; exact set_same (u := .int .i64 0) (by go_simp; done))), (hb1.cell (p := ⟨tb, tz + k * 4 + 1, none⟩) (by first | omega | (simp; done) | (simp; omega))).trans (by first | (go_simp; done) | (go_simp; exact set_same (u := .int .i64 0) (by go_simp; done))), (hb1.cell (p := ⟨tb, tz + k * 4 + 2, none⟩) (by first | omega | (simp; done) | (simp; omega))).trans (by first | (go_simp; done) | (go_simp; exact set_same (u := .int .i64 0) (by go_simp; done))), (hb1.cell (p := ⟨tb, tz + k * 4 + 3, none⟩) (by first | omega | (simp; done) | (simp; omega))).trans (by first | (go_simp; done) | (go_simp; exact set_same (u := .int .i64 0) (by go_simp; done)))⟩
      have q1_0 : w.heap.size < v1.heap.size := by first | omega | (simp at *; omega)
      have q1_1 : w.heap.size + 1 < v1.heap.size := by first | omega | (simp at *; omega)
      have q1_2 : tb < v1.heap.size := by first | omega | (simp at *; omega)
      have HB1 := Lib.hid hB1_0
      have y1 := hB1_0.size
      clear hb1 hB1_0 g0_0 g0_1 g0_2 g0_3 g0_4 g0_5 g0_6 g0_7 g0_8 q0_0 q0_1 q0_2
      go_wp2_with fail
      refine (HA1.out _ (HBW.out.trans (Below.mono (by repeat (first | exact Below.refl _ _ | with_reducible exact HB1.out | (refine Below.alloc ?_ (by first | omega | (simp; omega) | simp) _) | (refine Below.setCell ?_ (by first | omega | (simp; omega) | simp) _) | refine Below.drew ?_)) HBW.out.size))).mono ?_
      rintro e v2 ⟨rfl, hb2⟩
      have hB2_0 : Below W0.heap.size W0 v2 := below_via (Lib.hid hb2) (by first | omega | (simp; done) | (simp; omega)) (by repeat (first | exact Below.refl _ _ | with_reducible exact HB1.out | (refine Below.alloc ?_ (by first | omega | (simp; omega) | simp) _) | (refine Below.setCell ?_ (by first | omega | (simp; omega) | simp) _) | refine Below.drew ?_))
      have z2 := hb2.size
      (try simp at z2)
      obtain ⟨g2_0, g2_1, g2_2, g2_3, g2_4, g2_5, g2_6, g2_7, g2_8⟩ : v2.cell? ⟨w.heap.size, 0, none⟩ = some (.slice (some ⟨tb, tz, none⟩) tl tc) ∧ v2.cell? ⟨w.heap.size, 1, none⟩ = some (.slice ma ml mc) ∧ v2.cell? ⟨w.heap.size + 1, 0, none⟩ = some (.int .i64 k) ∧ v2.cell? ⟨w.heap.size + 1, 1, none⟩ = some (.int .i64 xc) ∧ v2.cell? ⟨w.heap.size + 1, 2, none⟩ = some (.int .i64 xm) ∧ v2.cell? ⟨tb, tz + k * 4, none⟩ = some (.int .i64 xo) ∧ v2.cell? ⟨tb, tz + k * 4 + 1, none⟩ = some (.int .i64 xa) ∧ v2.cell? ⟨tb, tz + k * 4 + 2, none⟩ = some (.int .i64 xk) ∧ v2.cell? ⟨tb, tz + k * 4 + 3, none⟩ = some (.int .i64 xp) :=
        ⟨(hb2.cell (p := ⟨w.heap.size, 0, none⟩) (by first | omega | (simp; done) | (simp; omega))).trans (by first | (go_simp; done) | (go_simp; exact set_same (u := .int .i64 0) (by go_simp; done))), (hb2.cell (p := ⟨w.heap.size, 1, none⟩) (by first | omega | (simp; done) | (simp; omega))).trans (by first | (go_simp; done) | (go_simp; exact set_same (u := .int .i64 0) (by go_simp; done))), (hb2.cell (p := ⟨w.heap.size + 1, 0, none⟩) (by first | omega | (simp; done) | (simp; omega))).trans (by first | (go_simp; done) | (go_simp; exact set_same (u := .int .i64 0) (by go_simp; done))), (hb2.cell (p := ⟨w.heap.size + 1, 1, none⟩) (by first | omega | (simp; done) | (simp; omega))).trans (by first | (go_simp; done) | (go_simp; exact set_same (u := .int .i64 0) (by go_simp; done))), (hb2.cell (p := ⟨w.heap.size + 1, 2, none⟩) (by first | omega | (simp; done) | (simp; omega))).trans (by first | (go_simp; done) | (go_simp; exact set_same (u := .int .i64 0) (by go_simp; done))), (hb2.cell (p := ⟨tb, tz + k * 4, none⟩) (by first | omega | (simp; done) | (simp; omega))).trans (by first | (go_simp; done) | (go_simp; exact set_same (u := .int .i64 0) (by go_simp; done))), (hb2.cell (p := ⟨tb, tz + k * 4 + 1, none⟩) (by first | omega | (simp; done) | (simp; omega))).trans (by first | (go_simp; done) | (go_simp; exact set_same (u := .int .i64 0) (by go_simp; done))), (hb2.cell (p := ⟨tb, tz + k * 4 + 2, none⟩) (by first | omega | (simp; done) | (simp; omega))).trans (by first | (go_simp; done) | (go_simp; exact set_same (u := .int .i64 0) (by go_simp; done))), (hb2.cell (p := ⟨tb, tz + k * 4 + 3, none⟩) (by first | omega | (simp; done) | (simp; omega))).trans (by first | (go_simp; done) | (go_simp; exact set_same (u := .int .i64 0) (by go_simp; done)))⟩
      have q2_0 : w.heap.size < v2.heap.size := by first | omega | (simp at *; omega)
      have q2_1 : w.heap.size + 1 < v2.heap.size := by first | omega | (simp at *; omega)
      have q2_2 : tb < v2.heap.size := by first | omega | (simp at *; omega)
      have HB2 := Lib.hid hB2_0
      have y2 := hB2_0.size
      clear hb2 hB2_0 g1_0 g1_1 g1_2 g1_3 g1_4 g1_5 g1_6 g1_7 g1_8 q1_0 q1_1 q1_2
      go_upto_region 4 with fail
      obtain ⟨v3, hv3, hb3, ⟨g3_0, g3_1, g3_2, g3_3, g3_4, g3_5, g3_6, g3_7, g3_8, g3_9, g3_10, g3_11, g3_12⟩, q3_0, q3_1, q3_2, q3_3⟩ : ∃ v3, v2.alloc (.cells #[.int .i64 xo, .int .i64 xa, .int .i64 xk, .int .i64 xp] 59) = v3 ∧ Below v2.heap.size v2 v3 ∧ (v3.cell? ⟨w.heap.size, 0, none⟩ = some (.slice (some ⟨tb, tz, none⟩) tl tc) ∧ v3.cell? ⟨w.heap.size, 1, none⟩ = some (.slice ma ml mc) ∧ v3.cell? ⟨w.heap.size + 1, 0, none⟩ = some (.int .i64 k) ∧ v3.cell? ⟨w.heap.size + 1, 1, none⟩ = some (.int .i64 xc) ∧ v3.cell? ⟨w.heap.size + 1, 2, none⟩ = some (.int .i64 xm) ∧ v3.cell? ⟨tb, tz + k * 4, none⟩ = some (.int .i64 xo) ∧ v3.cell? ⟨tb, tz + k * 4 + 1, none⟩ = some (.int .i64 xa) ∧ v3.cell? ⟨tb, tz + k * 4 + 2, none⟩ = some (.int .i64 xk) ∧ v3.cell? ⟨tb, tz + k * 4 + 3, none⟩ = some (.int .i64 xp) ∧ v3.cell? ⟨v2.heap.size, 0, none⟩ = some (.int .i64 xo) ∧ v3.cell? ⟨v2.heap.size, 1, none⟩ = some (.int .i64 xa) ∧ v3.cell? ⟨v2.heap.size, 2, none⟩ = some (.int .i64 xk) ∧ v3.cell? ⟨v2.heap.size, 3, none⟩ = some (.int .i64 xp)) ∧ w.heap.size < v3.heap.size ∧ w.heap.size + 1 < v3.heap.size ∧ tb < v3.heap.size ∧ v2.heap.size < v3.heap.size := by
        refine ⟨_, rfl, (by repeat (first | exact Below.refl _ _ | (refine Below.alloc ?_ (by first | omega | (simp; omega) | simp) _) | (refine Below.setCell ?_ (by first | omega | (simp; omega) | simp) _) | refine Below.drew ?_)), ⟨?_, ?_, ?_, ?_, ?_, ?_, ?_, ?_, ?_, ?_, ?_, ?_, ?_⟩, ?_, ?_, ?_, ?_⟩
        all_goals first | (go_simp; done) | (simp; done) | (simp; omega)
      rw [hv3]
      have hB3_0 : Below W0.heap.size W0 v3 := Below.trans (by repeat (first | exact Below.refl _ _ | with_reducible exact HB2.out | (refine Below.alloc ?_ (by first | omega | (simp; omega) | simp) _) | (refine Below.setCell ?_ (by first | omega | (simp; omega) | simp) _) | refine Below.drew ?_)) (hb3.mono (Below.size (by repeat (first | exact Below.refl _ _ | with_reducible exact HB2.out | (refine Below.alloc ?_ (by first | omega | (simp; omega) | simp) _) | (refine Below.setCell ?_ (by first | omega | (simp; omega) | simp) _) | refine Below.drew ?_))))
      have HB3 := Lib.hid hB3_0
      have y3 := hB3_0.size
      clear hv3 hb3 hB3_0 g2_0 g2_1 g2_2 g2_3 g2_4 g2_5 g2_6 g2_7 g2_8 q2_0 q2_1 q2_2
      go_wp2_with fail
      have HCE := Lib.hid (show v3.cell? ⟨w.heap.size, 0, none⟩ = some (.slice (some ⟨tb, tz, none⟩) tl tc) ∧ v3.cell? ⟨w.heap.size, 1, none⟩ = some (.slice ma ml mc) ∧ v3.cell? ⟨w.heap.size + 1, 0, none⟩ = some (.int .i64 k) ∧ v3.cell? ⟨w.heap.size + 1, 1, none⟩ = some (.int .i64 xc) ∧ v3.cell? ⟨w.heap.size + 1, 2, none⟩ = some (.int .i64 xm) ∧ v3.cell? ⟨tb, tz + k * 4, none⟩ = some (.int .i64 xo) ∧ v3.cell? ⟨tb, tz + k * 4 + 1, none⟩ = some (.int .i64 xa) ∧ v3.cell? ⟨tb, tz + k * 4 + 2, none⟩ = some (.int .i64 xk) ∧ v3.cell? ⟨tb, tz + k * 4 + 3, none⟩ = some (.int .i64 xp) ∧ v3.cell? ⟨v2.heap.size, 0, none⟩ = some (.int .i64 xo) ∧ v3.cell? ⟨v2.heap.size, 1, none⟩ = some (.int .i64 xa) ∧ v3.cell? ⟨v2.heap.size, 2, none⟩ = some (.int .i64 xk) ∧ v3.cell? ⟨v2.heap.size, 3, none⟩ = some (.int .i64 xp) from ⟨g3_0, g3_1, g3_2, g3_3, g3_4, g3_5, g3_6, g3_7, g3_8, g3_9, g3_10, g3_11, g3_12⟩)
      have HQE := Lib.hid (show w.heap.size < v3.heap.size ∧ w.heap.size + 1 < v3.heap.size ∧ tb < v3.heap.size ∧ v2.heap.size < v3.heap.size from ⟨q3_0, q3_1, q3_2, q3_3⟩)
      have HBX := Lib.hid (show Below w.heap.size w v3 from (HBW.out.trans (Below.mono (by repeat (first | exact Below.refl _ _ | with_reducible exact HB3.out | (refine Below.alloc ?_ (by first | omega | (simp; omega) | simp) _) | (refine Below.setCell ?_ (by first | omega | (simp; omega) | simp) _) | refine Below.drew ?_)) HBW.out.size)))
      clear g3_0 g3_1 g3_2 g3_3 g3_4 g3_5 g3_6 g3_7 g3_8 g3_9 g3_10 g3_11 g3_12 q3_0 q3_1 q3_2 q3_3
      go_loopw [6, 7] (fun wn i wr => ∃ j : Nat, j ≤ ml ∧ i = .int .i64 j ∧ wn = .bool (h.wantTo xc k xa j) ∧ Below v3.heap.size v3 wr) (fun _ i _ => ml - (intOf i).toNat)
      case atStart => exact ⟨0, by omega, rfl, rfl, Below.refl _ _⟩
      case round =>
        obtain ⟨j, hj, rfl, rfl, hB⟩ := hrel
        obtain ⟨W1, rfl⟩ : ∃ W1 : World, W1 = wr := ⟨_, rfl⟩
        obtain ⟨p0, p1, p2, p3, p4, p5, p6, p7, p8, p9, p10, p11, p12⟩ := HCE.out
        obtain ⟨y0, y1, y2, y3⟩ := HQE.out
        have hzW := hB.size
        have HB1 := Lib.hid (HBX.out.trans (hB.mono HBX.out.size))
        have HB3 := Lib.hid hB
        have x0 := (hB.cell (p := ⟨w.heap.size, 0, none⟩) (by show w.heap.size < _; omega)).trans p0
        have x1 := (hB.cell (p := ⟨w.heap.size, 1, none⟩) (by show w.heap.size < _; omega)).trans p1
        have x2 := (hB.cell (p := ⟨w.heap.size + 1, 0, none⟩) (by show w.heap.size + 1 < _; omega)).trans p2
        have x3 := (hB.cell (p := ⟨w.heap.size + 1, 1, none⟩) (by show w.heap.size + 1 < _; omega)).trans p3
        have x4 := (hB.cell (p := ⟨w.heap.size + 1, 2, none⟩) (by show w.heap.size + 1 < _; omega)).trans p4
        have x5 := (hB.cell (p := ⟨tb, tz + k * 4, none⟩) (by show tb < _; omega)).trans p5
        have x6 := (hB.cell (p := ⟨tb, tz + k * 4 + 1, none⟩) (by show tb < _; omega)).trans p6
        have x7 := (hB.cell (p := ⟨tb, tz + k * 4 + 2, none⟩) (by show tb < _; omega)).trans p7
        have x8 := (hB.cell (p := ⟨tb, tz + k * 4 + 3, none⟩) (by show tb < _; omega)).trans p8
        have x9 := (hB.cell (p := ⟨v2.heap.size, 0, none⟩) (by show v2.heap.size < _; omega)).trans p9
        have x10 := (hB.cell (p := ⟨v2.heap.size, 1, none⟩) (by show v2.heap.size < _; omega)).trans p10
        have x11 := (hB.cell (p := ⟨v2.heap.size, 2, none⟩) (by show v2.heap.size < _; omega)).trans p11
        have x12 := (hB.cell (p := ⟨v2.heap.size, 3, none⟩) (by show v2.heap.size < _; omega)).trans p12
        have z0 : w.heap.size < W1.heap.size := by omega
        have z1 : w.heap.size + 1 < W1.heap.size := by omega
        have z2 : tb < W1.heap.size := by omega
        have z3 : v2.heap.size < W1.heap.size := by omega
        clear hB p0 p1 p2 p3 p4 p5 p6 p7 p8 p9 p10 p11 p12 y0 y1 y2 y3
        by_cases hlt : j < ml
        · have hj2 : j < h.marks.length := by rw [HML.out]; exact hlt
          obtain ⟨mb, mo, rfl, hmB, hmcell⟩ := HMC.out (by omega)
          obtain ⟨f0, f1, f2⟩ := hmcell j hj2
          have c0 := (HB1.out.cell (p := ⟨mb, mo + j * 3, none⟩) hmB).trans f0
          have c1 := (HB1.out.cell (p := ⟨mb, mo + j * 3 + 1, none⟩) hmB).trans f1
          have c2 := (HB1.out.cell (p := ⟨mb, mo + j * 3 + 2, none⟩) hmB).trans f2
          have hmW : mb < W1.heap.size := by have := HB1.out.size; omega
          have hjl : (j : Int) < (ml : Int) := by omega
          have hj0 : (0 : Int) ≤ (j : Int) := by omega
          have HN := Lib.hid (HWT.out j hj2)
          clear hmcell f0 f1 f2
          generalize h.marks[j] = mk at *
          obtain ⟨qc, qt, qa⟩ := mk
          simp only at c0 c1 c2 HN
          rcases hv : h.wantTo xc k xa j with - | -
          · by_cases e1 : qc = xc
            · subst e1
              by_cases e2 : qt = (k : Int)
              · subst e2
                by_cases e3 : qa = xa
                · subst e3
                  go_wp2_with fail
                  go_roundw
                  case rel => exact ⟨j + 1, by omega, by go_num, by rw [HN.out, hv]; simp, HB3.out.trans (by repeat (first | exact Below.refl _ _ | (refine Below.alloc ?_ (by first | omega | (simp; omega) | simp) _) | (refine Below.setCell ?_ (by first | omega | (simp; omega) | simp) _) | refine Below.drew ?_))⟩
                  case measure => simp [intOf]; omega
                · have e4 : (qa == xa) = false := by simp [e3]
                  go_wp2_with fail
                  go_roundw
                  case rel => exact ⟨j + 1, by omega, by go_num, by rw [HN.out, hv]; simp [e3], HB3.out.trans (by repeat (first | exact Below.refl _ _ | (refine Below.alloc ?_ (by first | omega | (simp; omega) | simp) _) | (refine Below.setCell ?_ (by first | omega | (simp; omega) | simp) _) | refine Below.drew ?_))⟩
                  case measure => simp [intOf]; omega
              · have e4 : (qt == (k : Int)) = false := by simp [e2]
                go_wp2_with fail
                go_roundw
                case rel => exact ⟨j + 1, by omega, by go_num, by rw [HN.out, hv]; simp [e2], HB3.out.trans (by repeat (first | exact Below.refl _ _ | (refine Below.alloc ?_ (by first | omega | (simp; omega) | simp) _) | (refine Below.setCell ?_ (by first | omega | (simp; omega) | simp) _) | refine Below.drew ?_))⟩
                case measure => simp [intOf]; omega
            · have e4 : (qc == xc) = false := by simp [e1]
              go_wp2_with fail
              go_roundw
              case rel => exact ⟨j + 1, by omega, by go_num, by rw [HN.out, hv]; simp [e1], HB3.out.trans (by repeat (first | exact Below.refl _ _ | (refine Below.alloc ?_ (by first | omega | (simp; omega) | simp) _) | (refine Below.setCell ?_ (by first | omega | (simp; omega) | simp) _) | refine Below.drew ?_))⟩
              case measure => simp [intOf]; omega
          · have hv2 : True := trivial
            go_wp2_with fail
            go_roundw
            case rel => exact ⟨j + 1, by omega, by go_num, by rw [HN.out, hv]; simp, HB3.out.trans (by repeat (first | exact Below.refl _ _ | (refine Below.alloc ?_ (by first | omega | (simp; omega) | simp) _) | (refine Below.setCell ?_ (by first | omega | (simp; omega) | simp) _) | refine Below.drew ?_))⟩
            case measure => simp [intOf]; omega
        · obtain rfl : ml = j := by omega
          go_upto_if 60 with fail
          go_cut [6] (fun v6 wx => v6 = .bool bx ∧ Below W1.heap.size W1 wx)
          case first =>
            by_cases he : xo = -1
            · subst he
              have hbe : bx = h.wantTo xc k xa h.marks.length := by rw [HON.out]; simp
              rw [HML.out] at hbe
              have HBE := Lib.hid hbe
              clear hbe
              go_wp2_with fail
              go_meet
              exact ⟨by rw [HBE.out], Below.refl _ _⟩
            · obtain ⟨j0, rfl⟩ : ∃ j0 : Nat, xo = (j0 : Int) := ⟨xo.toNat, by omega⟩
              have hn : ((j0 : Int) != -1) = true := by simp
              have hn0 : ¬ ((j0 : Int) = -1) := by omega
              have HHJ := Lib.hid (HHS.out j0 (HUJ.out j0 rfl) xa HBA.out)
              have hbe : bx = (h.wantTo xc k xa h.marks.length || h.hasB xc j0 xa) := by rw [HON.out]; simp
              rw [HML.out] at hbe
              generalize h.hasB xc j0 xa = up at *
              rcases hv : h.wantTo xc k xa ml with - | -
              · rw [hv, Bool.false_or] at hbe
                subst hbe
                clear hv
                go_wp2_with fail
                refine (HHJ.out _ HB1.out).mono ?_
                rintro e u1 ⟨rfl, hu1⟩
                have HU1 := Lib.hid hu1
                clear hu1
                go_wp2_with fail
                all_goals (go_meet; exact ⟨rfl, HU1.out⟩)
              · rw [hv, Bool.true_or] at hbe
                subst hbe
                clear hv
                go_wp2_with fail
                refine (HHJ.out _ HB1.out).mono ?_
                rintro e u1 ⟨rfl, hu1⟩
                have HU1 := Lib.hid hu1
                clear hu1
                go_wp2_with fail
                all_goals (go_meet; exact ⟨rfl, HU1.out⟩)
          case rest =>
          obtain ⟨rfl, hV⟩ := hcut
          obtain ⟨V0, rfl⟩ : ∃ V0 : World, V0 = wc := ⟨_, rfl⟩
          have hzV := hV.size
          have HBW := Lib.hid (HB1.out.trans (hV.mono HB1.out.size))
          have g10_0 := (hV.cell (p := ⟨w.heap.size, 0, none⟩) (by show w.heap.size < _; omega)).trans x0
          have g10_1 := (hV.cell (p := ⟨w.heap.size, 1, none⟩) (by show w.heap.size < _; omega)).trans x1
          have g10_2 := (hV.cell (p := ⟨w.heap.size + 1, 0, none⟩) (by show w.heap.size + 1 < _; omega)).trans x2
          have g10_3 := (hV.cell (p := ⟨w.heap.size + 1, 1, none⟩) (by show w.heap.size + 1 < _; omega)).trans x3
          have g10_4 := (hV.cell (p := ⟨w.heap.size + 1, 2, none⟩) (by show w.heap.size + 1 < _; omega)).trans x4
          have g10_5 := (hV.cell (p := ⟨tb, tz + k * 4, none⟩) (by show tb < _; omega)).trans x5
          have g10_6 := (hV.cell (p := ⟨tb, tz + k * 4 + 1, none⟩) (by show tb < _; omega)).trans x6
          have g10_7 := (hV.cell (p := ⟨tb, tz + k * 4 + 2, none⟩) (by show tb < _; omega)).trans x7
          have g10_8 := (hV.cell (p := ⟨tb, tz + k * 4 + 3, none⟩) (by show tb < _; omega)).trans x8
          have g10_9 := (hV.cell (p := ⟨v2.heap.size, 0, none⟩) (by show v2.heap.size < _; omega)).trans x9
          have g10_10 := (hV.cell (p := ⟨v2.heap.size, 1, none⟩) (by show v2.heap.size < _; omega)).trans x10
          have g10_11 := (hV.cell (p := ⟨v2.heap.size, 2, none⟩) (by show v2.heap.size < _; omega)).trans x11
          have g10_12 := (hV.cell (p := ⟨v2.heap.size, 3, none⟩) (by show v2.heap.size < _; omega)).trans x12
          have q10_0 : w.heap.size < V0.heap.size := by omega
          have q10_1 : w.heap.size + 1 < V0.heap.size := by omega
          have q10_2 : tb < V0.heap.size := by omega
          have q10_3 : v2.heap.size < V0.heap.size := by omega
          clear hV x0 x1 x2 x3 x4 x5 x6 x7 x8 x9 x10 x11 x12 z0 z1 z2 z3
          generalize hs0 : h.since xc k = s at *
          have HS0 := Lib.hid hs0
          clear hs0
          go_wp2_with fail
          refine (HHB.out _ (HBW.out.trans (Below.mono (by repeat (first | exact Below.refl _ _ | (refine Below.alloc ?_ (by first | omega | (simp; omega) | simp) _) | (refine Below.setCell ?_ (by first | omega | (simp; omega) | simp) _) | refine Below.drew ?_)) HBW.out.size))).mono ?_
          rintro e v11 ⟨rfl, hb11⟩
          have hB11_0 : Below V0.heap.size V0 v11 := below_via (Lib.hid hb11) (by first | omega | (simp; done) | (simp; omega)) (by repeat (first | exact Below.refl _ _ | (refine Below.alloc ?_ (by first | omega | (simp; omega) | simp) _) | (refine Below.setCell ?_ (by first | omega | (simp; omega) | simp) _) | refine Below.drew ?_))
          have z11 := hb11.size
          (try simp at z11)
          obtain ⟨g11_0, g11_1, g11_2, g11_3, g11_4, g11_5, g11_6, g11_7, g11_8, g11_9, g11_10, g11_11, g11_12⟩ : v11.cell? ⟨w.heap.size, 0, none⟩ = some (.slice (some ⟨tb, tz, none⟩) tl tc) ∧ v11.cell? ⟨w.heap.size, 1, none⟩ = some (.slice ma ml mc) ∧ v11.cell? ⟨w.heap.size + 1, 0, none⟩ = some (.int .i64 k) ∧ v11.cell? ⟨w.heap.size + 1, 1, none⟩ = some (.int .i64 xc) ∧ v11.cell? ⟨w.heap.size + 1, 2, none⟩ = some (.int .i64 xm) ∧ v11.cell? ⟨tb, tz + k * 4, none⟩ = some (.int .i64 xo) ∧ v11.cell? ⟨tb, tz + k * 4 + 1, none⟩ = some (.int .i64 xa) ∧ v11.cell? ⟨tb, tz + k * 4 + 2, none⟩ = some (.int .i64 xk) ∧ v11.cell? ⟨tb, tz + k * 4 + 3, none⟩ = some (.int .i64 xp) ∧ v11.cell? ⟨v2.heap.size, 0, none⟩ = some (.int .i64 xo) ∧ v11.cell? ⟨v2.heap.size, 1, none⟩ = some (.int .i64 xa) ∧ v11.cell? ⟨v2.heap.size, 2, none⟩ = some (.int .i64 xk) ∧ v11.cell? ⟨v2.heap.size, 3, none⟩ = some (.int .i64 xp) :=
            ⟨(hb11.cell (p := ⟨w.heap.size, 0, none⟩) (by first | omega | (simp; done) | (simp; omega))).trans (by first | (go_simp; done) | (go_simp; exact set_same (u := .int .i64 0) (by go_simp; done))), (hb11.cell (p := ⟨w.heap.size, 1, none⟩) (by first | omega | (simp; done) | (simp; omega))).trans (by first | (go_simp; done) | (go_simp; exact set_same (u := .int .i64 0) (by go_simp; done))), (hb11.cell (p := ⟨w.heap.size + 1, 0, none⟩) (by first | omega | (simp; done) | (simp; omega))).trans (by first | (go_simp; done) | (go_simp; exact set_same (u := .int .i64 0) (by go_simp; done))), (hb11.cell (p := ⟨w.heap.size + 1, 1, none⟩) (by first | omega | (simp; done) | (simp; omega))).trans (by first | (go_simp; done) | (go_simp; exact set_same (u := .int .i64 0) (by go_simp; done))), (hb11.cell (p := ⟨w.heap.size + 1, 2, none⟩) (by first | omega | (simp; done) | (simp; omega))).trans (by first | (go_simp; done) | (go_simp; exact set_same (u := .int .i64 0) (by go_simp; done))), (hb11.cell (p := ⟨tb, tz + k * 4, none⟩) (by first | omega | (simp; done) | (simp; omega))).trans (by first | (go_simp; done) | (go_simp; exact set_same (u := .int .i64 0) (by go_simp; done))), (hb11.cell (p := ⟨tb, tz + k * 4 + 1, none⟩) (by first | omega | (simp; done) | (simp; omega))).trans (by first | (go_simp; done) | (go_simp; exact set_same (u := .int .i64 0) (by go_simp; done))), (hb11.cell (p := ⟨tb, tz + k * 4 + 2, none⟩) (by first | omega | (simp; done) | (simp; omega))).trans (by first | (go_simp; done) | (go_simp; exact set_same (u := .int .i64 0) (by go_simp; done))), (hb11.cell (p := ⟨tb, tz + k * 4 + 3, none⟩) (by first | omega | (simp; done) | (simp; omega))).trans (by first | (go_simp; done) | (go_simp; exact set_same (u := .int .i64 0) (by go_simp; done))), (hb11.cell (p := ⟨v2.heap.size, 0, none⟩) (by first | omega | (simp; done) | (simp; omega))).trans (by first | (go_simp; done) | (go_simp; exact set_same (u := .int .i64 0) (by go_simp; done))), (hb11.cell (p := ⟨v2.heap.size, 1, none⟩) (by first | omega | (simp; done) | (simp; omega))).trans (by first | (go_simp; done) | (go_simp; exact set_same (u := .int .i64 0) (by go_simp; done))), (hb11.cell (p := ⟨v2.heap.size, 2, none⟩) (by first | omega | (simp; done) | (simp; omega))).trans (by first | (go_simp; done) | (go_simp; exact set_same (u := .int .i64 0) (by go_simp; done))), (hb11.cell (p := ⟨v2.heap.size, 3, none⟩) (by first | omega | (simp; done) | (simp; omega))).trans (by first | (go_simp; done) | (go_simp; exact set_same (u := .int .i64 0) (by go_simp; done)))⟩
          have q11_0 : w.heap.size < v11.heap.size := by first | omega | (simp at *; omega)
          have q11_1 : w.heap.size + 1 < v11.heap.size := by first | omega | (simp at *; omega)
          have q11_2 : tb < v11.heap.size := by first | omega | (simp at *; omega)
          have q11_3 : v2.heap.size < v11.heap.size := by first | omega | (simp at *; omega)
          have HG11 := Lib.hid hB11_0
          have y11 := hB11_0.size
          clear hb11 hB11_0 g10_0 g10_1 g10_2 g10_3 g10_4 g10_5 g10_6 g10_7 g10_8 g10_9 g10_10 g10_11 g10_12 q10_0 q10_1 q10_2 q10_3
          go_wp2_with fail
          refine (HSI.out _ (HBW.out.trans (Below.mono (by repeat (first | exact Below.refl _ _ | with_reducible exact HG11.out | (refine Below.alloc ?_ (by first | omega | (simp; omega) | simp) _) | (refine Below.setCell ?_ (by first | omega | (simp; omega) | simp) _) | refine Below.drew ?_)) HBW.out.size))).mono ?_
          rintro e v12 ⟨rfl, hb12⟩
          have hB12_0 : Below V0.heap.size V0 v12 := below_via (Lib.hid hb12) (by first | omega | (simp; done) | (simp; omega)) (by repeat (first | exact Below.refl _ _ | with_reducible exact HG11.out | (refine Below.alloc ?_ (by first | omega | (simp; omega) | simp) _) | (refine Below.setCell ?_ (by first | omega | (simp; omega) | simp) _) | refine Below.drew ?_))
          have z12 := hb12.size
          (try simp at z12)
          obtain ⟨g12_0, g12_1, g12_2, g12_3, g12_4, g12_5, g12_6, g12_7, g12_8, g12_9, g12_10, g12_11, g12_12⟩ : v12.cell? ⟨w.heap.size, 0, none⟩ = some (.slice (some ⟨tb, tz, none⟩) tl tc) ∧ v12.cell? ⟨w.heap.size, 1, none⟩ = some (.slice ma ml mc) ∧ v12.cell? ⟨w.heap.size + 1, 0, none⟩ = some (.int .i64 k) ∧ v12.cell? ⟨w.heap.size + 1, 1, none⟩ = some (.int .i64 xc) ∧ v12.cell? ⟨w.heap.size + 1, 2, none⟩ = some (.int .i64 xm) ∧ v12.cell? ⟨tb, tz + k * 4, none⟩ = some (.int .i64 xo) ∧ v12.cell? ⟨tb, tz + k * 4 + 1, none⟩ = some (.int .i64 xa) ∧ v12.cell? ⟨tb, tz + k * 4 + 2, none⟩ = some (.int .i64 xk) ∧ v12.cell? ⟨tb, tz + k * 4 + 3, none⟩ = some (.int .i64 xp) ∧ v12.cell? ⟨v2.heap.size, 0, none⟩ = some (.int .i64 xo) ∧ v12.cell? ⟨v2.heap.size, 1, none⟩ = some (.int .i64 xa) ∧ v12.cell? ⟨v2.heap.size, 2, none⟩ = some (.int .i64 xk) ∧ v12.cell? ⟨v2.heap.size, 3, none⟩ = some (.int .i64 xp) :=
            ⟨(hb12.cell (p := ⟨w.heap.size, 0, none⟩) (by first | omega | (simp; done) | (simp; omega))).trans (by first | (go_simp; done) | (go_simp; exact set_same (u := .int .i64 0) (by go_simp; done))), (hb12.cell (p := ⟨w.heap.size, 1, none⟩) (by first | omega | (simp; done) | (simp; omega))).trans (by first | (go_simp; done) | (go_simp; exact set_same (u := .int .i64 0) (by go_simp; done))), (hb12.cell (p := ⟨w.heap.size + 1, 0, none⟩) (by first | omega | (simp; done) | (simp; omega))).trans (by first | (go_simp; done) | (go_simp; exact set_same (u := .int .i64 0) (by go_simp; done))), (hb12.cell (p := ⟨w.heap.size + 1, 1, none⟩) (by first | omega | (simp; done) | (simp; omega))).trans (by first | (go_simp; done) | (go_simp; exact set_same (u := .int .i64 0) (by go_simp; done))), (hb12.cell (p := ⟨w.heap.size + 1, 2, none⟩) (by first | omega | (simp; done) | (simp; omega))).trans (by first | (go_simp; done) | (go_simp; exact set_same (u := .int .i64 0) (by go_simp; done))), (hb12.cell (p := ⟨tb, tz + k * 4, none⟩) (by first | omega | (simp; done) | (simp; omega))).trans (by first | (go_simp; done) | (go_simp; exact set_same (u := .int .i64 0) (by go_simp; done))), (hb12.cell (p := ⟨tb, tz + k * 4 + 1, none⟩) (by first | omega | (simp; done) | (simp; omega))).trans (by first | (go_simp; done) | (go_simp; exact set_same (u := .int .i64 0) (by go_simp; done))), (hb12.cell (p := ⟨tb, tz + k * 4 + 2, none⟩) (by first | omega | (simp; done) | (simp; omega))).trans (by first | (go_simp; done) | (go_simp; exact set_same (u := .int .i64 0) (by go_simp; done))), (hb12.cell (p := ⟨tb, tz + k * 4 + 3, none⟩) (by first | omega | (simp; done) | (simp; omega))).trans (by first | (go_simp; done) | (go_simp; exact set_same (u := .int .i64 0) (by go_simp; done))), (hb12.cell (p := ⟨v2.heap.size, 0, none⟩) (by first | omega | (simp; done) | (simp; omega))).trans (by first | (go_simp; done) | (go_simp; exact set_same (u := .int .i64 0) (by go_simp; done))), (hb12.cell (p := ⟨v2.heap.size, 1, none⟩) (by first | omega | (simp; done) | (simp; omega))).trans (by first | (go_simp; done) | (go_simp; exact set_same (u := .int .i64 0) (by go_simp; done))), (hb12.cell (p := ⟨v2.heap.size, 2, none⟩) (by first | omega | (simp; done) | (simp; omega))).trans (by first | (go_simp; done) | (go_simp; exact set_same (u := .int .i64 0) (by go_simp; done))), (hb12.cell (p := ⟨v2.heap.size, 3, none⟩) (by first | omega | (simp; done) | (simp; omega))).trans (by first | (go_simp; done) | (go_simp; exact set_same (u := .int .i64 0) (by go_simp; done)))⟩
          have q12_0 : w.heap.size < v12.heap.size := by first | omega | (simp at *; omega)
          have q12_1 : w.heap.size + 1 < v12.heap.size := by first | omega | (simp at *; omega)
          have q12_2 : tb < v12.heap.size := by first | omega | (simp at *; omega)
          have q12_3 : v2.heap.size < v12.heap.size := by first | omega | (simp at *; omega)
          have HG12 := Lib.hid hB12_0
          have y12 := hB12_0.size
          clear hb12 hB12_0 g11_0 g11_1 g11_2 g11_3 g11_4 g11_5 g11_6 g11_7 g11_8 g11_9 g11_10 g11_11 g11_12 q11_0 q11_1 q11_2 q11_3
          go_wp2_with fail
          refine (HSO.out _ (HBW.out.trans (Below.mono (by repeat (first | exact Below.refl _ _ | with_reducible exact HG12.out | (refine Below.alloc ?_ (by first | omega | (simp; omega) | simp) _) | (refine Below.setCell ?_ (by first | omega | (simp; omega) | simp) _) | refine Below.drew ?_)) HBW.out.size))).mono ?_
          rintro e v13 ⟨hso, hb13⟩
          have hB13_0 : Below V0.heap.size V0 v13 := below_via (Lib.hid hb13) (by first | omega | (simp; done) | (simp; omega)) (by repeat (first | exact Below.refl _ _ | with_reducible exact HG12.out | (refine Below.alloc ?_ (by first | omega | (simp; omega) | simp) _) | (refine Below.setCell ?_ (by first | omega | (simp; omega) | simp) _) | refine Below.drew ?_))
          have z13 := hb13.size
          (try simp at z13)
          obtain ⟨g13_0, g13_1, g13_2, g13_3, g13_4, g13_5, g13_6, g13_7, g13_8, g13_9, g13_10, g13_11, g13_12⟩ : v13.cell? ⟨w.heap.size, 0, none⟩ = some (.slice (some ⟨tb, tz, none⟩) tl tc) ∧ v13.cell? ⟨w.heap.size, 1, none⟩ = some (.slice ma ml mc) ∧ v13.cell? ⟨w.heap.size + 1, 0, none⟩ = some (.int .i64 k) ∧ v13.cell? ⟨w.heap.size + 1, 1, none⟩ = some (.int .i64 xc) ∧ v13.cell? ⟨w.heap.size + 1, 2, none⟩ = some (.int .i64 xm) ∧ v13.cell? ⟨tb, tz + k * 4, none⟩ = some (.int .i64 xo) ∧ v13.cell? ⟨tb, tz + k * 4 + 1, none⟩ = some (.int .i64 xa) ∧ v13.cell? ⟨tb, tz + k * 4 + 2, none⟩ = some (.int .i64 xk) ∧ v13.cell? ⟨tb, tz + k * 4 + 3, none⟩ = some (.int .i64 xp) ∧ v13.cell? ⟨v2.heap.size, 0, none⟩ = some (.int .i64 xo) ∧ v13.cell? ⟨v2.heap.size, 1, none⟩ = some (.int .i64 xa) ∧ v13.cell? ⟨v2.heap.size, 2, none⟩ = some (.int .i64 xk) ∧ v13.cell? ⟨v2.heap.size, 3, none⟩ = some (.int .i64 xp) :=
            ⟨(hb13.cell (p := ⟨w.heap.size, 0, none⟩) (by first | omega | (simp; done) | (simp; omega))).trans (by first | (go_simp; done) | (go_simp; exact set_same (u := .int .i64 0) (by go_simp; done))), (hb13.cell (p := ⟨w.heap.size, 1, none⟩) (by first | omega | (simp; done) | (simp; omega))).trans (by first | (go_simp; done) | (go_simp; exact set_same (u := .int .i64 0) (by go_simp; done))), (hb13.cell (p := ⟨w.heap.size + 1, 0, none⟩) (by first | omega | (simp; done) | (simp; omega))).trans (by first | (go_simp; done) | (go_simp; exact set_same (u := .int .i64 0) (by go_simp; done))), (hb13.cell (p := ⟨w.heap.size + 1, 1, none⟩) (by first | omega | (simp; done) | (simp; omega))).trans (by first | (go_simp; done) | (go_simp; exact set_same (u := .int .i64 0) (by go_simp; done))), (hb13.cell (p := ⟨w.heap.size + 1, 2, none⟩) (by first | omega | (simp; done) | (simp; omega))).trans (by first | (go_simp; done) | (go_simp; exact set_same (u := .int .i64 0) (by go_simp; done))), (hb13.cell (p := ⟨tb, tz + k * 4, none⟩) (by first | omega | (simp; done) | (simp; omega))).trans (by first | (go_simp; done) | (go_simp; exact set_same (u := .int .i64 0) (by go_simp; done))), (hb13.cell (p := ⟨tb, tz + k * 4 + 1, none⟩) (by first | omega | (simp; done) | (simp; omega))).trans (by first | (go_simp; done) | (go_simp; exact set_same (u := .int .i64 0) (by go_simp; done))), (hb13.cell (p := ⟨tb, tz + k * 4 + 2, none⟩) (by first | omega | (simp; done) | (simp; omega))).trans (by first | (go_simp; done) | (go_simp; exact set_same (u := .int .i64 0) (by go_simp; done))), (hb13.cell (p := ⟨tb, tz + k * 4 + 3, none⟩) (by first | omega | (simp; done) | (simp; omega))).trans (by first | (go_simp; done) | (go_simp; exact set_same (u := .int .i64 0) (by go_simp; done))), (hb13.cell (p := ⟨v2.heap.size, 0, none⟩) (by first | omega | (simp; done) | (simp; omega))).trans (by first | (go_simp; done) | (go_simp; exact set_same (u := .int .i64 0) (by go_simp; done))), (hb13.cell (p := ⟨v2.heap.size, 1, none⟩) (by first | omega | (simp; done) | (simp; omega))).trans (by first | (go_simp; done) | (go_simp; exact set_same (u := .int .i64 0) (by go_simp; done))), (hb13.cell (p := ⟨v2.heap.size, 2, none⟩) (by first | omega | (simp; done) | (simp; omega))).trans (by first | (go_simp; done) | (go_simp; exact set_same (u := .int .i64 0) (by go_simp; done))), (hb13.cell (p := ⟨v2.heap.size, 3, none⟩) (by first | omega | (simp; done) | (simp; omega))).trans (by first | (go_simp; done) | (go_simp; exact set_same (u := .int .i64 0) (by go_simp; done)))⟩
          have q13_0 : w.heap.size < v13.heap.size := by first | omega | (simp at *; omega)
          have q13_1 : w.heap.size + 1 < v13.heap.size := by first | omega | (simp at *; omega)
          have q13_2 : tb < v13.heap.size := by first | omega | (simp at *; omega)
          have q13_3 : v2.heap.size < v13.heap.size := by first | omega | (simp at *; omega)
          have HG13 := Lib.hid hB13_0
          have y13 := hB13_0.size
          clear hb13 hB13_0 g12_0 g12_1 g12_2 g12_3 g12_4 g12_5 g12_6 g12_7 g12_8 g12_9 g12_10 g12_11 g12_12 q12_0 q12_1 q12_2 q12_3
          rcases hso with ⟨hs, rfl⟩ | ⟨hs, i, hsrc, rfl⟩
          · subst hs
            go_wp2_with fail
            refine (HWK.out _).mono ?_
            rintro e v14 ⟨rfl, hb14⟩
            have hB14_0 : Below V0.heap.size V0 v14 := below_via (Lib.hid hb14) (by first | omega | (simp; done) | (simp; omega)) (by repeat (first | exact Below.refl _ _ | with_reducible exact HG13.out | (refine Below.alloc ?_ (by first | omega | (simp; omega) | simp) _) | (refine Below.setCell ?_ (by first | omega | (simp; omega) | simp) _) | refine Below.drew ?_))
            have z14 := hb14.size
            (try simp at z14)
            have HG14 := Lib.hid hB14_0
            have y14 := hB14_0.size
            clear hb14 hB14_0 g13_0 g13_1 g13_2 g13_3 g13_4 g13_5 g13_6 g13_7 g13_8 g13_9 g13_10 g13_11 g13_12 q13_0 q13_1 q13_2 q13_3
            go_wp2_with fail
            go_ret
            exact ⟨rfl, HBW.out.trans (Below.mono (by repeat (first | exact Below.refl _ _ | with_reducible exact HG14.out | (refine Below.alloc ?_ (by first | omega | (simp; omega) | simp) _) | (refine Below.setCell ?_ (by first | omega | (simp; omega) | simp) _) | refine Below.drew ?_)) HBW.out.size)⟩
          · obtain ⟨hi, hmc, hma, -⟩ := HSF.out _ _ hsrc (Int.le_refl _)
            have hs1 : s < 100 := by rcases HBD.out with q | q <;> omega
            have hbw13 := HBW.out.trans (Below.mono HG13.out HBW.out.size)
            obtain ⟨mb, mo, rfl, hmB, hmcell⟩ := HMC.out (by have := HML.out; omega)
            obtain ⟨f0, f1, f2⟩ := hmcell i hi
            have c0 := (hbw13.cell (p := ⟨mb, mo + i * 3, none⟩) hmB).trans f0
            have c1 := (hbw13.cell (p := ⟨mb, mo + i * 3 + 1, none⟩) hmB).trans f1
            have c2 := (hbw13.cell (p := ⟨mb, mo + i * 3 + 2, none⟩) hmB).trans f2
            have hmW : mb < v13.heap.size := by have := hbw13.size; omega
            have htW : tb < v13.heap.size := by have := hbw13.size; omega
            obtain ⟨mk, hmk⟩ : ∃ mk, h.marks[i] = mk := ⟨_, rfl⟩
            rw [hmk] at c0 c1 c2 hmc hma
            have HMK := Lib.hid hmk
            clear hmk hmcell f0 f1 f2 hbw13
            obtain ⟨qc, qt, qa⟩ := mk
            simp only at c0 c1 c2 hmc hma
            have hmc2 := hmc.symm
            clear hmc
            subst hmc2
            have hwl : IntKind.i64.wrap ((ml : Int) - 1) = (ml : Int) - 1 := IntWalk.i64_in _ ⟨by omega, by omega⟩
            have hna : ¬ s < qa := by omega
            have hil : (i : Int) < (ml : Int) := by have := HML.out; omega
            have hi0 : (0 : Int) ≤ (i : Int) := by omega
            have HWI := Lib.hid (fun W => Within_is (i : Int) 0 ((ml : Int) - 1) true (by simp [btw]; omega) W)
            go_upto_region 22 with fail
            go_cut [163] (fun v163 wx => v163 = .bool false ∧ Below v13.heap.size v13 wx)
            case first =>
              go_region_held3 (fun w' => Below v13.heap.size v13 w' ∧ ∀ b o, b < v13.heap.size → w'.cell? ⟨b, o, none⟩ = v13.cell? ⟨b, o, none⟩) (first | with_reducible assumption | ((repeat (first | with_reducible refine bothS_drew ?_ | with_reducible refine bothS_alloc _ ?_ | with_reducible refine bothS_set _ _ (by first | omega | (simp; omega) | simp) ?_)); first | with_reducible assumption | with_reducible exact Hid.out (by assumption) | with_reducible exact ⟨Below.refl _ _, fun _ _ _ => rfl⟩)) (first | (go_at_call 46; with_reducible refine (HWI.out _).mono ?_; rintro e w' ⟨rfl, rfl⟩) | fail "no arm")
              all_goals (go_wp2_with fail; go_meet; exact ⟨by first | rfl | simp [hna], And.left (by assumption)⟩)
            case rest =>
            obtain ⟨rfl, hV⟩ := hcut
            obtain ⟨V1, rfl⟩ : ∃ V1 : World, V1 = wc := ⟨_, rfl⟩
            have hzV1 := hV.size
            have r0 := (hV.cell (p := ⟨w.heap.size, 0, none⟩) (by show w.heap.size < _; omega)).trans g13_0
            have r1 := (hV.cell (p := ⟨w.heap.size, 1, none⟩) (by show w.heap.size < _; omega)).trans g13_1
            have r2 := (hV.cell (p := ⟨w.heap.size + 1, 0, none⟩) (by show w.heap.size + 1 < _; omega)).trans g13_2
            have r3 := (hV.cell (p := ⟨w.heap.size + 1, 1, none⟩) (by show w.heap.size + 1 < _; omega)).trans g13_3
            have r4 := (hV.cell (p := ⟨w.heap.size + 1, 2, none⟩) (by show w.heap.size + 1 < _; omega)).trans g13_4
            have r5 := (hV.cell (p := ⟨mb, mo + i * 3 + 1, none⟩) hmW).trans c1
            have r6 := (hV.cell (p := ⟨mb, mo + i * 3 + 2, none⟩) hmW).trans c2
            have HBV := Lib.hid (HBW.out.trans (Below.mono (HG13.out.trans (hV.mono HG13.out.size)) HBW.out.size))
            have hwV1 : w.heap.size + 1 < V1.heap.size := by omega
            have hmV1 : mb < V1.heap.size := by omega
            have htV1 : tb < V1.heap.size := by omega
            clear hV c0 c1 c2 g13_0 g13_1 g13_2 g13_3 g13_4 g13_5 g13_6 g13_7 g13_8 g13_9 g13_10 g13_11 g13_12 q13_0 q13_1 q13_2 q13_3
            have HRE := Lib.hid (show V1.cell? ⟨w.heap.size, 0, none⟩ = some (.slice (some ⟨tb, tz, none⟩) tl tc) ∧ V1.cell? ⟨w.heap.size, 1, none⟩ = some (.slice (some ⟨mb, mo, none⟩) ml mc) ∧ V1.cell? ⟨w.heap.size + 1, 0, none⟩ = some (.int .i64 k) ∧ V1.cell? ⟨w.heap.size + 1, 1, none⟩ = some (.int .i64 xc) ∧ V1.cell? ⟨w.heap.size + 1, 2, none⟩ = some (.int .i64 xm) ∧ V1.cell? ⟨mb, mo + i * 3 + 1, none⟩ = some (.int .i64 qt) ∧ V1.cell? ⟨mb, mo + i * 3 + 2, none⟩ = some (.int .i64 qa) from ⟨r0, r1, r2, r3, r4, r5, r6⟩)
            go_wp2_with fail
            clear r0 r1 r2 r3 r4 r5 r6
            go_loopw [17] (fun up wr => ∃ u : Nat, up = .int .i64 u ∧ u ≤ k ∧ (∃ m', Src h xc u m' i ∧ h.since xc u ≤ m' ∧ (u = k → m' = s)) ∧ Below V1.heap.size V1 wr) (fun up _ => (intOf up).toNat)
            case atStart => exact ⟨k, rfl, Nat.le_refl _, ⟨s, hsrc, by rw [HS0.out]; exact Int.le_refl _, fun _ => rfl⟩, Below.refl _ _⟩
            case round =>
              obtain ⟨u, rfl, huk, ⟨m', hsu, hsm, hum⟩, hB⟩ := hrel
              obtain ⟨W3, rfl⟩ : ∃ W3 : World, W3 = wr := ⟨_, rfl⟩
              obtain ⟨p0, p1, p2, p3, p4, p5, p6⟩ := HRE.out
              have hz3 := hB.size
              have HB4 := Lib.hid hB
              have HBX3 := Lib.hid (HBV.out.trans (hB.mono HBV.out.size))
              have r0 := (hB.cell (p := ⟨w.heap.size, 0, none⟩) (by show w.heap.size < _; omega)).trans p0
              have r1 := (hB.cell (p := ⟨w.heap.size, 1, none⟩) (by show w.heap.size < _; omega)).trans p1
              have r2 := (hB.cell (p := ⟨w.heap.size + 1, 0, none⟩) (by show w.heap.size + 1 < _; omega)).trans p2
              have r5 := (hB.cell (p := ⟨mb, mo + i * 3 + 1, none⟩) hmV1).trans p5
              have r6 := (hB.cell (p := ⟨mb, mo + i * 3 + 2, none⟩) hmV1).trans p6
              have hu0 : ((u : Int) != -1) = true := by simp
              have hu1 : ¬ ((u : Int) = -1) := by omega
              clear hB p0 p1 p2 p3 p4 p5 p6
              rcases HSS.out _ _ _ hi hsu hsm with ⟨et, ef⟩ | ⟨nt, hu, j, ej, hju, hsj, hsj2⟩
              · rw [HMK.out] at et
                simp only at et
                subst et
                have hno : ((u : Int) != (u : Int)) = false := by simp
                by_cases hk' : u = k
                · subst hk'
                  have ea := HSW.out _ hi ef (by rw [HMK.out]; exact hma)
                  rw [HMK.out] at ea
                  simp only at ea
                  subst ea
                  clear hum hsu hsm
                  go_wp2_with fail
                  refine (HWK.out _).mono ?_
                  rintro e u4 ⟨rfl, hu4⟩
                  have HU4 := Lib.hid (HBX3.out.trans (hu4.mono HBX3.out.size))
                  clear hu4
                  go_wp2_with fail
                  go_ret
                  exact ⟨rfl, HU4.out⟩
                · have e5 : ((u : Int) != (k : Int)) = true := by simp; omega
                  have e6 : ¬ ((u : Int) = (k : Int)) := by omega
                  clear hum hsu hsm
                  go_wp2_with fail
                  refine (HWK.out _).mono ?_
                  rintro e u4 ⟨rfl, hu4⟩
                  have HU4 := Lib.hid (HBX3.out.trans (hu4.mono HBX3.out.size))
                  clear hu4
                  go_wp2_with fail
                  go_ret
                  exact ⟨rfl, HU4.out⟩
              · rw [HMK.out] at nt
                simp only at nt
                have e5 : ((u : Int) != qt) = true := by simp; omega
                have e6 : ¬ ((u : Int) = qt) := by omega
                obtain ⟨b0, -, -, -⟩ := HTX.out u hu
                rw [ej] at b0
                have r7 := (HBX3.out.cell (p := ⟨tb, tz + u * 4, none⟩) htB).trans b0
                have hul : (u : Int) < (tl : Int) := by have := HTL.out; omega
                have hu00 : (0 : Int) ≤ (u : Int) := by omega
                have HSJ := Lib.hid hsj
                have HSK := Lib.hid hsj2
                clear hum hsu hsm hsj hsj2 ej b0
                go_wp2_with fail
                go_roundw
                case rel => exact ⟨j, rfl, by omega, ⟨_, HSJ.out, HSK.out, fun e => by omega⟩, HB4.out⟩
                case measure => simp [intOf]; omega
end Go.Proofs.Ytedfdhpggghjeaa
