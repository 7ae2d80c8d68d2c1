/- The laws of changes: ChangesAll. -/
import Derived.Test.YtedfdhpggghjeaaDK
import Derived.Test.YtedfdhpggghjeaaCV
namespace Go.Proofs.Ytedfdhpggghjeaa
set_option linter.unusedVariables false
set_option linter.unusedSimpArgs false
open Go.RowKit Go.Shelf

/-- An ascending list between two ends. -/
theorem rising_of {l : List Int} {lo hi : Int} (h1 : l.Pairwise fun a b => a < b) (h2 : ∀ y ∈ l, lo ≤ y ∧ y ≤ hi) : risingB l lo hi = true := by
  refine rising_yes fun k hk => ?_
  have e : ∀ j (hj : j < l.length), l.getD j 0 = l[j] := fun j hj => by rw [List.getD_eq_getElem?_getD, List.getElem?_eq_getElem hj]; rfl
  unfold goodAt
  rw [e k hk]
  have hb := h2 _ (List.getElem_mem hk)
  rw [Bool.and_eq_true]
  refine ⟨by simp [btw]; exact hb, ?_⟩
  rcases Nat.eq_zero_or_pos k with h0 | h0
  · simp [h0]
  · rw [e (k - 1) (by omega)]
    have := List.pairwise_iff_getElem.1 h1 (k - 1) k (by omega) hk (by omega)
    simp [this]
theorem having_rises (h : CHouse) (c : Int) : risingB (h.having c) 0 ((h.things.length : Int) - 1) = true :=
  rising_of (numsTo_rise _ _) (fun y hy => by have := (numsTo_mem _ _ _).1 hy; omega)
theorem lacks_rises (h : CHouse) (c : Int) : risingB (h.lacks c) 0 ((h.things.length : Int) - 1) = true :=
  rising_of ((numsTo_rise _ _).filter _) (fun y hy => by have := (numsTo_mem _ _ _).1 (List.mem_filter.1 hy).1; omega)
theorem having_in (h : CHouse) (c : Int) {k : Nat} (hk : k < h.things.length) : (h.having c).contains (k : Int) = h.hasB c k 99 := by
  rw [Bool.eq_iff_iff, List.contains_iff_mem]
  unfold CHouse.having
  rw [numsTo_mem]
  simp [hk]
theorem lacks_in {h : CHouse} (ho : h.okT = true) (c : Int) {k : Nat} (hk : k < h.things.length) : (h.lacks c).contains (k : Int) = (decide (h.things[k].p = 1) && !h.hasB c k 99) := by
  have ha := (CHouse.okT_thing ho hk).2.1.2
  rw [Bool.eq_iff_iff, List.contains_iff_mem]
  unfold CHouse.lacks CHouse.plates
  rw [List.mem_filter, numsTo_mem]
  simp [hk, CHouse.printB, ha]
theorem ready_parts {h : CHouse} (hr : h.ready = true) : h.ok = true ∧ h.things.length ≤ 8 ∧ h.marks.length ≤ 6 := by
  unfold CHouse.ready at hr
  rw [Bool.and_eq_true] at hr
  exact ⟨hr.2, CHouse.ok_few hr.2⟩

set_option maxRecDepth 100000 in
set_option maxHeartbeats 8000000 in
theorem ChangesAll_any (h : CHouse) (ta : Option Addr) (tl tc : Nat) (ma : Option Addr) (ml mc : Nat) (c : Int) (w : World) (hp : HAt w ta tl tc ma ml mc h) :
    Calls Try.prog 12 #[.agg #[.slice ta tl tc, .slice ma ml mc], .int .i64 c] w fun e w' => e = .returned (.bool true) ∧ Below w.heap.size w w' := by
  have HWK := Lib.hid (fun W => works_any W)
  have HRD := Lib.hid (fun b (hb : h.ready = b) W (hw : Below w.heap.size w W) => ready_is h ta tl tc ma ml mc b hb W (hp.below hw))
  rcases hr : h.ready with - | -
  · have HR1 := Lib.hid (HRD.out false hr)
    clear hp HRD
    go_enter Try.func12, Try.ntmps12
    go_wp2_with fail
    obtain ⟨W0, hW0, hB0, ⟨g0_0, g0_1⟩, hz0⟩ : ∃ W0, (w.alloc (.cells #[.slice ta tl tc, .slice ma ml mc] 25)) = W0 ∧ Below w.heap.size w W0 ∧ (W0.cell? ⟨w.heap.size, 0, none⟩ = some (.slice ta tl tc) ∧ W0.cell? ⟨w.heap.size, 1, none⟩ = some (.slice ma ml mc)) ∧ W0.heap.size = w.heap.size + 1 :=
      ⟨_, rfl, (by repeat (first | exact Below.refl _ _ | (refine Below.alloc ?_ (by first | omega | (simp; omega) | simp) _) | (refine Below.setCell ?_ (by first | omega | (simp; omega) | simp) _) | refine Below.drew ?_)), ⟨by go_simp, by go_simp⟩, by simp⟩
    rw [hW0]
    clear hW0
    have HBW := Lib.hid hB0
    have q0_0 : w.heap.size < W0.heap.size := by omega
    clear hB0 hz0
    go_wp2_with fail
    refine (HR1.out _ (HBW.out.trans (Below.mono (by repeat (first | exact Below.refl _ _ | (refine Below.alloc ?_ (by first | omega | (simp; omega) | simp) _) | (refine Below.setCell ?_ (by first | omega | (simp; omega) | simp) _) | refine Below.drew ?_)) HBW.out.size))).mono ?_
    rintro e v1 ⟨rfl, hb1⟩
    have hB1_0 : Below W0.heap.size W0 v1 := below_via (Lib.hid hb1) (by first | omega | (simp; done) | (simp; omega)) (by repeat (first | exact Below.refl _ _ | (refine Below.alloc ?_ (by first | omega | (simp; omega) | simp) _) | (refine Below.setCell ?_ (by first | omega | (simp; omega) | simp) _) | refine Below.drew ?_))
    have z1 := hb1.size
    (try simp at z1)
    obtain ⟨g1_0, g1_1⟩ : v1.cell? ⟨w.heap.size, 0, none⟩ = some (.slice ta tl tc) ∧ v1.cell? ⟨w.heap.size, 1, none⟩ = some (.slice ma ml mc) :=
      ⟨(hb1.cell (p := ⟨w.heap.size, 0, none⟩) (by first | omega | (simp; done) | (simp; omega))).trans (by first | (go_simp; done) | (go_simp; exact set_same (u := .int .i64 0) (by go_simp; done))), (hb1.cell (p := ⟨w.heap.size, 1, none⟩) (by first | omega | (simp; done) | (simp; omega))).trans (by first | (go_simp; done) | (go_simp; exact set_same (u := .int .i64 0) (by go_simp; done)))⟩
    have q1_0 : w.heap.size < v1.heap.size := by first | omega | (simp at *; omega)
    have HB1 := Lib.hid hB1_0
    have y1 := hB1_0.size
    clear hb1 hB1_0 g0_0 g0_1 q0_0
    go_wp2_with fail
    refine (HWK.out _).mono ?_
    rintro e v2 ⟨rfl, hb2⟩
    have hB2_0 : Below W0.heap.size W0 v2 := below_via (Lib.hid hb2) (by first | omega | (simp; done) | (simp; omega)) (by repeat (first | exact Below.refl _ _ | with_reducible exact HB1.out | (refine Below.alloc ?_ (by first | omega | (simp; omega) | simp) _) | (refine Below.setCell ?_ (by first | omega | (simp; omega) | simp) _) | refine Below.drew ?_))
    have z2 := hb2.size
    (try simp at z2)
    have HB2 := Lib.hid hB2_0
    have y2 := hB2_0.size
    clear hb2 hB2_0 g1_0 g1_1 q1_0
    go_wp2_with fail
    go_ret
    exact ⟨rfl, HBW.out.trans (Below.mono (by repeat (first | exact Below.refl _ _ | with_reducible exact HB2.out | (refine Below.alloc ?_ (by first | omega | (simp; omega) | simp) _) | (refine Below.setCell ?_ (by first | omega | (simp; omega) | simp) _) | refine Below.drew ?_)) HBW.out.size)⟩
  · have HR1 := Lib.hid (HRD.out true hr)
    rcases hc : btw c 0 2 with - | -
    · have HC1 := Lib.hid (refIsChange_b c false hc)
      clear hp HRD
      go_enter Try.func12, Try.ntmps12
      go_wp2_with fail
      obtain ⟨W0, hW0, hB0, ⟨g0_0, g0_1⟩, hz0⟩ : ∃ W0, (w.alloc (.cells #[.slice ta tl tc, .slice ma ml mc] 25)) = W0 ∧ Below w.heap.size w W0 ∧ (W0.cell? ⟨w.heap.size, 0, none⟩ = some (.slice ta tl tc) ∧ W0.cell? ⟨w.heap.size, 1, none⟩ = some (.slice ma ml mc)) ∧ W0.heap.size = w.heap.size + 1 :=
        ⟨_, rfl, (by repeat (first | exact Below.refl _ _ | (refine Below.alloc ?_ (by first | omega | (simp; omega) | simp) _) | (refine Below.setCell ?_ (by first | omega | (simp; omega) | simp) _) | refine Below.drew ?_)), ⟨by go_simp, by go_simp⟩, by simp⟩
      rw [hW0]
      clear hW0
      have HBW := Lib.hid hB0
      have q0_0 : w.heap.size < W0.heap.size := by omega
      clear hB0 hz0
      go_wp2_with fail
      refine (HR1.out _ (HBW.out.trans (Below.mono (by repeat (first | exact Below.refl _ _ | (refine Below.alloc ?_ (by first | omega | (simp; omega) | simp) _) | (refine Below.setCell ?_ (by first | omega | (simp; omega) | simp) _) | refine Below.drew ?_)) HBW.out.size))).mono ?_
      rintro e v1 ⟨rfl, hb1⟩
      have hB1_0 : Below W0.heap.size W0 v1 := below_via (Lib.hid hb1) (by first | omega | (simp; done) | (simp; omega)) (by repeat (first | exact Below.refl _ _ | (refine Below.alloc ?_ (by first | omega | (simp; omega) | simp) _) | (refine Below.setCell ?_ (by first | omega | (simp; omega) | simp) _) | refine Below.drew ?_))
      have z1 := hb1.size
      (try simp at z1)
      obtain ⟨g1_0, g1_1⟩ : v1.cell? ⟨w.heap.size, 0, none⟩ = some (.slice ta tl tc) ∧ v1.cell? ⟨w.heap.size, 1, none⟩ = some (.slice ma ml mc) :=
        ⟨(hb1.cell (p := ⟨w.heap.size, 0, none⟩) (by first | omega | (simp; done) | (simp; omega))).trans (by first | (go_simp; done) | (go_simp; exact set_same (u := .int .i64 0) (by go_simp; done))), (hb1.cell (p := ⟨w.heap.size, 1, none⟩) (by first | omega | (simp; done) | (simp; omega))).trans (by first | (go_simp; done) | (go_simp; exact set_same (u := .int .i64 0) (by go_simp; done)))⟩
      have q1_0 : w.heap.size < v1.heap.size := by first | omega | (simp at *; omega)
      have HB1 := Lib.hid hB1_0
      have y1 := hB1_0.size
      clear hb1 hB1_0 g0_0 g0_1 q0_0
      go_wp2_with fail
      refine (HC1.out _).mono ?_
      rintro e v2 ⟨rfl, hb2⟩
      have hB2_0 : Below W0.heap.size W0 v2 := below_via (Lib.hid hb2) (by first | omega | (simp; done) | (simp; omega)) (by repeat (first | exact Below.refl _ _ | with_reducible exact HB1.out | (refine Below.alloc ?_ (by first | omega | (simp; omega) | simp) _) | (refine Below.setCell ?_ (by first | omega | (simp; omega) | simp) _) | refine Below.drew ?_))
      have z2 := hb2.size
      (try simp at z2)
      obtain ⟨g2_0, g2_1⟩ : v2.cell? ⟨w.heap.size, 0, none⟩ = some (.slice ta tl tc) ∧ v2.cell? ⟨w.heap.size, 1, none⟩ = some (.slice ma ml mc) :=
        ⟨(hb2.cell (p := ⟨w.heap.size, 0, none⟩) (by first | omega | (simp; done) | (simp; omega))).trans (by first | (go_simp; done) | (go_simp; exact set_same (u := .int .i64 0) (by go_simp; done))), (hb2.cell (p := ⟨w.heap.size, 1, none⟩) (by first | omega | (simp; done) | (simp; omega))).trans (by first | (go_simp; done) | (go_simp; exact set_same (u := .int .i64 0) (by go_simp; done)))⟩
      have q2_0 : w.heap.size < v2.heap.size := by first | omega | (simp at *; omega)
      have HB2 := Lib.hid hB2_0
      have y2 := hB2_0.size
      clear hb2 hB2_0 g1_0 g1_1 q1_0
      go_wp2_with fail
      refine (HWK.out _).mono ?_
      rintro e v3 ⟨rfl, hb3⟩
      have hB3_0 : Below W0.heap.size W0 v3 := below_via (Lib.hid hb3) (by first | omega | (simp; done) | (simp; omega)) (by repeat (first | exact Below.refl _ _ | with_reducible exact HB2.out | (refine Below.alloc ?_ (by first | omega | (simp; omega) | simp) _) | (refine Below.setCell ?_ (by first | omega | (simp; omega) | simp) _) | refine Below.drew ?_))
      have z3 := hb3.size
      (try simp at z3)
      have HB3 := Lib.hid hB3_0
      have y3 := hB3_0.size
      clear hb3 hB3_0 g2_0 g2_1 q2_0
      go_wp2_with fail
      go_ret
      exact ⟨rfl, HBW.out.trans (Below.mono (by repeat (first | exact Below.refl _ _ | with_reducible exact HB3.out | (refine Below.alloc ?_ (by first | omega | (simp; omega) | simp) _) | (refine Below.setCell ?_ (by first | omega | (simp; omega) | simp) _) | refine Below.drew ?_)) HBW.out.size)⟩
    · have HC1 := Lib.hid (refIsChange_b c true hc)
      obtain ⟨ho, h8, -⟩ := ready_parts hr
      have htl := hp.1.1
      have htm := hp.1.2.1
      have HTC := Lib.hid hp.1.2.2
      have HAL := Lib.hid (fun W (hw : Below w.heap.size w W) => All_yes h ta tl tc ma ml mc ho c hc W (hp.below hw))
      have HLA := Lib.hid (fun W (hw : Below w.heap.size w W) => Lacks_yes h ta tl tc ma ml mc ho c hc W (hp.below hw))
      have HHS := Lib.hid (fun k (hk : k < h.things.length) W (hw : Below w.heap.size w W) => lawHas_yes h ta tl tc ma ml mc ho k hk c 99 hc (by decide) W (hp.below hw))
      have HR2 := Lib.hid (fun W a n (hx : IntsAt W a (h.having c).length (h.having c)) => show Calls Try.prog 55 #[.slice a (h.having c).length n, .int .i64 0, .int .i64 ((tl : Int) - 1)] W fun e w' => e = .returned (.bool true) ∧ Below W.heap.size W w' from by
        have := Rising_any a (h.having c).length n (h.having c) 0 ((tl : Int) - 1) W hx
        rw [← htl, having_rises] at this; rw [← htl]; exact this)
      have HR3 := Lib.hid (fun W a n (hx : IntsAt W a (h.lacks c).length (h.lacks c)) => show Calls Try.prog 55 #[.slice a (h.lacks c).length n, .int .i64 0, .int .i64 ((tl : Int) - 1)] W fun e w' => e = .returned (.bool true) ∧ Below W.heap.size W w' from by
        have := Rising_any a (h.lacks c).length n (h.lacks c) 0 ((tl : Int) - 1) W hx
        rw [← htl, lacks_rises] at this; rw [← htl]; exact this)
      have HI1 := Lib.hid (fun k (hk : k < h.things.length) b (hb : h.hasB c k 99 = b) W a n (hx : IntsAt W a (h.having c).length (h.having c)) => refIn_any a (h.having c).length n (h.having c) (k : Int) b ((having_in h c hk).trans hb) W hx)
      have HI2 := Lib.hid (fun k (hk : k < h.things.length) b (hb : (decide (h.things[k].p = 1) && !h.hasB c k 99) = b) W a n (hx : IntsAt W a (h.lacks c).length (h.lacks c)) => refIn_any a (h.lacks c).length n (h.lacks c) (k : Int) b ((lacks_in (CHouse.ok_T ho) c hk).trans hb) W hx)
      have HTL := Lib.hid htl
      have hmx : (tl : Int) ≤ 8 := by omega
      clear hp HRD hr htm
      generalize h.having c = X at *
      generalize h.lacks c = Y at *
      go_enter Try.func12, Try.ntmps12
      go_wp2_with fail
      obtain ⟨W0, hW0, hB0, ⟨g0_0, g0_1⟩, hz0⟩ : ∃ W0, (w.alloc (.cells #[.slice ta tl tc, .slice ma ml mc] 25)) = W0 ∧ Below w.heap.size w W0 ∧ (W0.cell? ⟨w.heap.size, 0, none⟩ = some (.slice ta tl tc) ∧ W0.cell? ⟨w.heap.size, 1, none⟩ = some (.slice ma ml mc)) ∧ W0.heap.size = w.heap.size + 1 :=
        ⟨_, rfl, (by repeat (first | exact Below.refl _ _ | (refine Below.alloc ?_ (by first | omega | (simp; omega) | simp) _) | (refine Below.setCell ?_ (by first | omega | (simp; omega) | simp) _) | refine Below.drew ?_)), ⟨by go_simp, by go_simp⟩, by simp⟩
      rw [hW0]
      clear hW0
      have HBW := Lib.hid hB0
      have q0_0 : w.heap.size < W0.heap.size := by omega
      clear hB0 hz0
      go_wp2_with fail
      refine (HR1.out _ (HBW.out.trans (Below.mono (by repeat (first | exact Below.refl _ _ | (refine Below.alloc ?_ (by first | omega | (simp; omega) | simp) _) | (refine Below.setCell ?_ (by first | omega | (simp; omega) | simp) _) | refine Below.drew ?_)) HBW.out.size))).mono ?_
      rintro e v1 ⟨rfl, hb1⟩
      have hB1_0 : Below W0.heap.size W0 v1 := below_via (Lib.hid hb1) (by first | omega | (simp; done) | (simp; omega)) (by repeat (first | exact Below.refl _ _ | (refine Below.alloc ?_ (by first | omega | (simp; omega) | simp) _) | (refine Below.setCell ?_ (by first | omega | (simp; omega) | simp) _) | refine Below.drew ?_))
      have z1 := hb1.size
      (try simp at z1)
      obtain ⟨g1_0, g1_1⟩ : v1.cell? ⟨w.heap.size, 0, none⟩ = some (.slice ta tl tc) ∧ v1.cell? ⟨w.heap.size, 1, none⟩ = some (.slice ma ml mc) :=
        ⟨(hb1.cell (p := ⟨w.heap.size, 0, none⟩) (by first | omega | (simp; done) | (simp; omega))).trans (by first | (go_simp; done) | (go_simp; exact set_same (u := .int .i64 0) (by go_simp; done))), (hb1.cell (p := ⟨w.heap.size, 1, none⟩) (by first | omega | (simp; done) | (simp; omega))).trans (by first | (go_simp; done) | (go_simp; exact set_same (u := .int .i64 0) (by go_simp; done)))⟩
      have q1_0 : w.heap.size < v1.heap.size := by first | omega | (simp at *; omega)
      have HB1 := Lib.hid hB1_0
      have y1 := hB1_0.size
      clear hb1 hB1_0 g0_0 g0_1 q0_0
      go_wp2_with fail
      refine (HC1.out _).mono ?_
      rintro e v2 ⟨rfl, hb2⟩
      have hB2_0 : Below W0.heap.size W0 v2 := below_via (Lib.hid hb2) (by first | omega | (simp; done) | (simp; omega)) (by repeat (first | exact Below.refl _ _ | with_reducible exact HB1.out | (refine Below.alloc ?_ (by first | omega | (simp; omega) | simp) _) | (refine Below.setCell ?_ (by first | omega | (simp; omega) | simp) _) | refine Below.drew ?_))
      have z2 := hb2.size
      (try simp at z2)
      obtain ⟨g2_0, g2_1⟩ : v2.cell? ⟨w.heap.size, 0, none⟩ = some (.slice ta tl tc) ∧ v2.cell? ⟨w.heap.size, 1, none⟩ = some (.slice ma ml mc) :=
        ⟨(hb2.cell (p := ⟨w.heap.size, 0, none⟩) (by first | omega | (simp; done) | (simp; omega))).trans (by first | (go_simp; done) | (go_simp; exact set_same (u := .int .i64 0) (by go_simp; done))), (hb2.cell (p := ⟨w.heap.size, 1, none⟩) (by first | omega | (simp; done) | (simp; omega))).trans (by first | (go_simp; done) | (go_simp; exact set_same (u := .int .i64 0) (by go_simp; done)))⟩
      have q2_0 : w.heap.size < v2.heap.size := by first | omega | (simp at *; omega)
      have HB2 := Lib.hid hB2_0
      have y2 := hB2_0.size
      clear hb2 hB2_0 g1_0 g1_1 q1_0
      go_wp2_with fail
      refine (HAL.out _ (HBW.out.trans (Below.mono (by repeat (first | exact Below.refl _ _ | with_reducible exact HB2.out | (refine Below.alloc ?_ (by first | omega | (simp; omega) | simp) _) | (refine Below.setCell ?_ (by first | omega | (simp; omega) | simp) _) | refine Below.drew ?_)) HBW.out.size))).mono ?_
      rintro e v3 ⟨⟨xa, xn, rfl, hx⟩, hb3⟩
      have hB3_0 : Below W0.heap.size W0 v3 := below_via (Lib.hid hb3) (by first | omega | (simp; done) | (simp; omega)) (by repeat (first | exact Below.refl _ _ | with_reducible exact HB2.out | (refine Below.alloc ?_ (by first | omega | (simp; omega) | simp) _) | (refine Below.setCell ?_ (by first | omega | (simp; omega) | simp) _) | refine Below.drew ?_))
      have z3 := hb3.size
      (try simp at z3)
      obtain ⟨g3_0, g3_1⟩ : v3.cell? ⟨w.heap.size, 0, none⟩ = some (.slice ta tl tc) ∧ v3.cell? ⟨w.heap.size, 1, none⟩ = some (.slice ma ml mc) :=
        ⟨(hb3.cell (p := ⟨w.heap.size, 0, none⟩) (by first | omega | (simp; done) | (simp; omega))).trans (by first | (go_simp; done) | (go_simp; exact set_same (u := .int .i64 0) (by go_simp; done))), (hb3.cell (p := ⟨w.heap.size, 1, none⟩) (by first | omega | (simp; done) | (simp; omega))).trans (by first | (go_simp; done) | (go_simp; exact set_same (u := .int .i64 0) (by go_simp; done)))⟩
      have q3_0 : w.heap.size < v3.heap.size := by first | omega | (simp at *; omega)
      have HB3 := Lib.hid hB3_0
      have y3 := hB3_0.size
      clear hb3 hB3_0 g2_0 g2_1 q2_0
      have HX := Lib.hid hx
      clear hx
      go_wp2_with fail
      refine (HLA.out _ (HBW.out.trans (Below.mono (by repeat (first | exact Below.refl _ _ | with_reducible exact HB3.out | (refine Below.alloc ?_ (by first | omega | (simp; omega) | simp) _) | (refine Below.setCell ?_ (by first | omega | (simp; omega) | simp) _) | refine Below.drew ?_)) HBW.out.size))).mono ?_
      rintro e v4 ⟨⟨ya, yn, rfl, hy⟩, hb4⟩
      have hB4_0 : Below W0.heap.size W0 v4 := below_via (Lib.hid hb4) (by first | omega | (simp; done) | (simp; omega)) (by repeat (first | exact Below.refl _ _ | with_reducible exact HB3.out | (refine Below.alloc ?_ (by first | omega | (simp; omega) | simp) _) | (refine Below.setCell ?_ (by first | omega | (simp; omega) | simp) _) | refine Below.drew ?_))
      have hB4_1 : Below v3.heap.size v3 v4 := below_via (Lib.hid hb4) (by first | omega | (simp; done) | (simp; omega)) (by repeat (first | exact Below.refl _ _ | (refine Below.alloc ?_ (by first | omega | (simp; omega) | simp) _) | (refine Below.setCell ?_ (by first | omega | (simp; omega) | simp) _) | refine Below.drew ?_))
      have z4 := hb4.size
      (try simp at z4)
      obtain ⟨g4_0, g4_1⟩ : v4.cell? ⟨w.heap.size, 0, none⟩ = some (.slice ta tl tc) ∧ v4.cell? ⟨w.heap.size, 1, none⟩ = some (.slice ma ml mc) :=
        ⟨(hb4.cell (p := ⟨w.heap.size, 0, none⟩) (by first | omega | (simp; done) | (simp; omega))).trans (by first | (go_simp; done) | (go_simp; exact set_same (u := .int .i64 0) (by go_simp; done))), (hb4.cell (p := ⟨w.heap.size, 1, none⟩) (by first | omega | (simp; done) | (simp; omega))).trans (by first | (go_simp; done) | (go_simp; exact set_same (u := .int .i64 0) (by go_simp; done)))⟩
      have q4_0 : w.heap.size < v4.heap.size := by first | omega | (simp at *; omega)
      have HB4 := Lib.hid hB4_0
      have HC4 := Lib.hid hB4_1
      have y4 := hB4_0.size
      clear hb4 hB4_0 hB4_1 g3_0 g3_1 q3_0
      have HY := Lib.hid hy
      clear hy
      go_wp2_with fail
      refine (HR2.out _ xa xn (HX.out.below (by repeat (first | exact Below.refl _ _ | with_reducible exact HC4.out | (refine Below.alloc ?_ (by first | omega | (simp; omega) | simp) _) | (refine Below.setCell ?_ (by first | omega | (simp; omega) | simp) _) | refine Below.drew ?_)))).mono ?_
      rintro e v5 ⟨rfl, hb5⟩
      have hB5_0 : Below W0.heap.size W0 v5 := below_via (Lib.hid hb5) (by first | omega | (simp; done) | (simp; omega)) (by repeat (first | exact Below.refl _ _ | with_reducible exact HB4.out | (refine Below.alloc ?_ (by first | omega | (simp; omega) | simp) _) | (refine Below.setCell ?_ (by first | omega | (simp; omega) | simp) _) | refine Below.drew ?_))
      have hB5_1 : Below v3.heap.size v3 v5 := below_via (Lib.hid hb5) (by first | omega | (simp; done) | (simp; omega)) (by repeat (first | exact Below.refl _ _ | with_reducible exact HC4.out | (refine Below.alloc ?_ (by first | omega | (simp; omega) | simp) _) | (refine Below.setCell ?_ (by first | omega | (simp; omega) | simp) _) | refine Below.drew ?_))
      have hB5_2 : Below v4.heap.size v4 v5 := below_via (Lib.hid hb5) (by first | omega | (simp; done) | (simp; omega)) (by repeat (first | exact Below.refl _ _ | (refine Below.alloc ?_ (by first | omega | (simp; omega) | simp) _) | (refine Below.setCell ?_ (by first | omega | (simp; omega) | simp) _) | refine Below.drew ?_))
      have z5 := hb5.size
      (try simp at z5)
      obtain ⟨g5_0, g5_1⟩ : v5.cell? ⟨w.heap.size, 0, none⟩ = some (.slice ta tl tc) ∧ v5.cell? ⟨w.heap.size, 1, none⟩ = some (.slice ma ml mc) :=
        ⟨(hb5.cell (p := ⟨w.heap.size, 0, none⟩) (by first | omega | (simp; done) | (simp; omega))).trans (by first | (go_simp; done) | (go_simp; exact set_same (u := .int .i64 0) (by go_simp; done))), (hb5.cell (p := ⟨w.heap.size, 1, none⟩) (by first | omega | (simp; done) | (simp; omega))).trans (by first | (go_simp; done) | (go_simp; exact set_same (u := .int .i64 0) (by go_simp; done)))⟩
      have q5_0 : w.heap.size < v5.heap.size := by first | omega | (simp at *; omega)
      have HB5 := Lib.hid hB5_0
      have HC5 := Lib.hid hB5_1
      have HD5 := Lib.hid hB5_2
      have y5 := hB5_0.size
      clear hb5 hB5_0 hB5_1 hB5_2 g4_0 g4_1 q4_0
      go_wp2_with fail
      refine (HR3.out _ ya yn (HY.out.below (by repeat (first | exact Below.refl _ _ | with_reducible exact HD5.out | (refine Below.alloc ?_ (by first | omega | (simp; omega) | simp) _) | (refine Below.setCell ?_ (by first | omega | (simp; omega) | simp) _) | refine Below.drew ?_)))).mono ?_
      rintro e v6 ⟨rfl, hb6⟩
      have hB6_0 : Below W0.heap.size W0 v6 := below_via (Lib.hid hb6) (by first | omega | (simp; done) | (simp; omega)) (by repeat (first | exact Below.refl _ _ | with_reducible exact HB5.out | (refine Below.alloc ?_ (by first | omega | (simp; omega) | simp) _) | (refine Below.setCell ?_ (by first | omega | (simp; omega) | simp) _) | refine Below.drew ?_))
      have hB6_1 : Below v3.heap.size v3 v6 := below_via (Lib.hid hb6) (by first | omega | (simp; done) | (simp; omega)) (by repeat (first | exact Below.refl _ _ | with_reducible exact HC5.out | (refine Below.alloc ?_ (by first | omega | (simp; omega) | simp) _) | (refine Below.setCell ?_ (by first | omega | (simp; omega) | simp) _) | refine Below.drew ?_))
      have hB6_2 : Below v4.heap.size v4 v6 := below_via (Lib.hid hb6) (by first | omega | (simp; done) | (simp; omega)) (by repeat (first | exact Below.refl _ _ | with_reducible exact HD5.out | (refine Below.alloc ?_ (by first | omega | (simp; omega) | simp) _) | (refine Below.setCell ?_ (by first | omega | (simp; omega) | simp) _) | refine Below.drew ?_))
      have z6 := hb6.size
      (try simp at z6)
      obtain ⟨g6_0, g6_1⟩ : v6.cell? ⟨w.heap.size, 0, none⟩ = some (.slice ta tl tc) ∧ v6.cell? ⟨w.heap.size, 1, none⟩ = some (.slice ma ml mc) :=
        ⟨(hb6.cell (p := ⟨w.heap.size, 0, none⟩) (by first | omega | (simp; done) | (simp; omega))).trans (by first | (go_simp; done) | (go_simp; exact set_same (u := .int .i64 0) (by go_simp; done))), (hb6.cell (p := ⟨w.heap.size, 1, none⟩) (by first | omega | (simp; done) | (simp; omega))).trans (by first | (go_simp; done) | (go_simp; exact set_same (u := .int .i64 0) (by go_simp; done)))⟩
      have q6_0 : w.heap.size < v6.heap.size := by first | omega | (simp at *; omega)
      have HB6 := Lib.hid hB6_0
      have HC6 := Lib.hid hB6_1
      have HD6 := Lib.hid hB6_2
      have y6 := hB6_0.size
      clear hb6 hB6_0 hB6_1 hB6_2 g5_0 g5_1 q5_0
      go_wp2_with fail
      have HCE6 := Lib.hid (And.intro g6_0 g6_1)
      have hz6 := q6_0
      have HBX := Lib.hid (by repeat (first | exact Below.refl _ _ | with_reducible exact HB6.out | (refine Below.alloc ?_ (by first | omega | (simp; omega) | simp) _) | (refine Below.setCell ?_ (by first | omega | (simp; omega) | simp) _) | refine Below.drew ?_))
      have HBX3 := Lib.hid (by repeat (first | exact Below.refl _ _ | with_reducible exact HC6.out | (refine Below.alloc ?_ (by first | omega | (simp; omega) | simp) _) | (refine Below.setCell ?_ (by first | omega | (simp; omega) | simp) _) | refine Below.drew ?_))
      have HBX4 := Lib.hid (by repeat (first | exact Below.refl _ _ | with_reducible exact HD6.out | (refine Below.alloc ?_ (by first | omega | (simp; omega) | simp) _) | (refine Below.setCell ?_ (by first | omega | (simp; omega) | simp) _) | refine Below.drew ?_))
      go_loopw [9] (fun i wr => ∃ k : Nat, k ≤ tl ∧ i = .int .i64 k ∧ Below v6.heap.size v6 wr) (fun i _ => tl - (intOf i).toNat)
      case atStart => exact ⟨0, by omega, rfl, Below.refl _ _⟩
      case round =>
        obtain ⟨k, hk, rfl, hB⟩ := hrel
        obtain ⟨W1, rfl⟩ : ∃ W1 : World, W1 = wr := ⟨_, rfl⟩
        have hzW := hB.size
        have x0 := (hB.cell (p := ⟨w.heap.size, 0, none⟩) hz6).trans HCE6.out.1
        have x1 := (hB.cell (p := ⟨w.heap.size, 1, none⟩) hz6).trans HCE6.out.2
        have hwW : w.heap.size < W1.heap.size := by omega
        have HBW1 := Lib.hid (HBX.out.trans (hB.mono HBX.out.size))
        have HB31 := Lib.hid (HBX3.out.trans (hB.mono HBX3.out.size))
        have HB41 := Lib.hid (HBX4.out.trans (hB.mono HBX4.out.size))
        have HB61 := Lib.hid hB
        have HBX1 := Lib.hid (HBW.out.trans (HBW1.out.mono HBW.out.size))
        clear hB g6_0 g6_1 q6_0
        by_cases hlt : k < tl
        · have hk2 : k < h.things.length := by rw [HTL.out]; exact hlt
          obtain ⟨tb, tz, rfl, htB, htcell⟩ := HTC.out (by omega)
          obtain ⟨-, -, -, d3⟩ := htcell k hk2
          have c3 := (HBX1.out.cell (p := ⟨tb, tz + k * 4 + 3, none⟩) htB).trans d3
          have hkl : (k : Int) < (tl : Int) := by omega
          have hk0 : (0 : Int) ≤ (k : Int) := by omega
          have htW : tb < W1.heap.size := by have := HBX1.out.size; omega
          have HH1 := Lib.hid (HHS.out k hk2)
          have HI1k := Lib.hid (HI1.out k hk2)
          have HI2k := Lib.hid (HI2.out k hk2)
          clear htcell d3
          generalize h.things[k].p = px at *
          generalize h.hasB c k 99 = bx at *
          rcases bx with - | -
          · by_cases hpx : px = 1
            · subst hpx
              have hpx : True := trivial
              have HJ1 := Lib.hid (HI1k.out false rfl)
              have HJ2 := Lib.hid (HI2k.out true (by simp [hpx]))
              clear HI1k HI2k
              go_wp2_with fail
              refine (HH1.out _ HBX1.out).mono ?_
              rintro e u1 ⟨rfl, hu1⟩
              have y0 := (hu1.cell (p := ⟨w.heap.size, 0, none⟩) hwW).trans x0
              have y1 := (hu1.cell (p := ⟨w.heap.size, 1, none⟩) hwW).trans x1
              have e3 := (hu1.cell (p := ⟨tb, tz + k * 4 + 3, none⟩) htW).trans c3
              have hz1 := hu1.size
              have HU1 := Lib.hid hu1
              clear hu1 x0 x1 c3
              go_wp2_with fail
              refine (HJ1.out _ xa xn (HX.out.below (HB31.out.trans (HU1.out.mono HB31.out.size)))).mono ?_
              rintro e u2 ⟨rfl, hu2⟩
              have HU2 := Lib.hid (HU1.out.trans (hu2.mono HU1.out.size))
              have f0 := (hu2.cell (p := ⟨w.heap.size, 0, none⟩) (by show w.heap.size < _; omega)).trans y0
              have f3 := (hu2.cell (p := ⟨tb, tz + k * 4 + 3, none⟩) (by show tb < _; omega)).trans e3
              have hz2 := hu2.size
              clear hu2 y0 y1 e3
              go_wp2_with fail
              refine (HJ2.out _ ya yn (HY.out.below (HB41.out.trans (HU2.out.mono HB41.out.size)))).mono ?_
              rintro e u3 ⟨rfl, hu3⟩
              have HU3 := Lib.hid (HU2.out.trans (hu3.mono HU2.out.size))
              have l0 := (hu3.cell (p := ⟨w.heap.size, 0, none⟩) (by show w.heap.size < _; omega)).trans f0
              have l3 := (hu3.cell (p := ⟨tb, tz + k * 4 + 3, none⟩) (by show tb < _; omega)).trans f3
              clear hu3 f0 f3
              go_wp2_with fail
              go_roundw
              case rel => exact ⟨k + 1, by omega, by go_num, HB61.out.trans (HU3.out.mono HB61.out.size)⟩
              case measure => simp [intOf]; omega
            · have hpz : (px == 1) = false := by simp [hpx]
              have HJ1 := Lib.hid (HI1k.out false rfl)
              have HJ2 := Lib.hid (HI2k.out false (by simp [hpx]))
              clear HI1k HI2k
              go_wp2_with fail
              refine (HH1.out _ HBX1.out).mono ?_
              rintro e u1 ⟨rfl, hu1⟩
              have y0 := (hu1.cell (p := ⟨w.heap.size, 0, none⟩) hwW).trans x0
              have y1 := (hu1.cell (p := ⟨w.heap.size, 1, none⟩) hwW).trans x1
              have e3 := (hu1.cell (p := ⟨tb, tz + k * 4 + 3, none⟩) htW).trans c3
              have hz1 := hu1.size
              have HU1 := Lib.hid hu1
              clear hu1 x0 x1 c3
              go_wp2_with fail
              refine (HJ1.out _ xa xn (HX.out.below (HB31.out.trans (HU1.out.mono HB31.out.size)))).mono ?_
              rintro e u2 ⟨rfl, hu2⟩
              have HU2 := Lib.hid (HU1.out.trans (hu2.mono HU1.out.size))
              have f0 := (hu2.cell (p := ⟨w.heap.size, 0, none⟩) (by show w.heap.size < _; omega)).trans y0
              have f3 := (hu2.cell (p := ⟨tb, tz + k * 4 + 3, none⟩) (by show tb < _; omega)).trans e3
              have hz2 := hu2.size
              clear hu2 y0 y1 e3
              go_wp2_with fail
              refine (HJ2.out _ ya yn (HY.out.below (HB41.out.trans (HU2.out.mono HB41.out.size)))).mono ?_
              rintro e u3 ⟨rfl, hu3⟩
              have HU3 := Lib.hid (HU2.out.trans (hu3.mono HU2.out.size))
              have l0 := (hu3.cell (p := ⟨w.heap.size, 0, none⟩) (by show w.heap.size < _; omega)).trans f0
              have l3 := (hu3.cell (p := ⟨tb, tz + k * 4 + 3, none⟩) (by show tb < _; omega)).trans f3
              clear hu3 f0 f3
              go_wp2_with fail
              go_roundw
              case rel => exact ⟨k + 1, by omega, by go_num, HB61.out.trans (HU3.out.mono HB61.out.size)⟩
              case measure => simp [intOf]; omega
          · have hpx : True := trivial
            have HJ1 := Lib.hid (HI1k.out true rfl)
            have HJ2 := Lib.hid (HI2k.out false (by simp))
            clear HI1k HI2k
            go_wp2_with fail
            refine (HH1.out _ HBX1.out).mono ?_
            rintro e u1 ⟨rfl, hu1⟩
            have y0 := (hu1.cell (p := ⟨w.heap.size, 0, none⟩) hwW).trans x0
            have y1 := (hu1.cell (p := ⟨w.heap.size, 1, none⟩) hwW).trans x1
            have e3 := (hu1.cell (p := ⟨tb, tz + k * 4 + 3, none⟩) htW).trans c3
            have hz1 := hu1.size
            have HU1 := Lib.hid hu1
            clear hu1 x0 x1 c3
            go_wp2_with fail
            refine (HJ1.out _ xa xn (HX.out.below (HB31.out.trans (HU1.out.mono HB31.out.size)))).mono ?_
            rintro e u2 ⟨rfl, hu2⟩
            have HU2 := Lib.hid (HU1.out.trans (hu2.mono HU1.out.size))
            have f0 := (hu2.cell (p := ⟨w.heap.size, 0, none⟩) (by show w.heap.size < _; omega)).trans y0
            have f3 := (hu2.cell (p := ⟨tb, tz + k * 4 + 3, none⟩) (by show tb < _; omega)).trans e3
            have hz2 := hu2.size
            clear hu2 y0 y1 e3
            go_wp2_with fail
            refine (HJ2.out _ ya yn (HY.out.below (HB41.out.trans (HU2.out.mono HB41.out.size)))).mono ?_
            rintro e u3 ⟨rfl, hu3⟩
            have HU3 := Lib.hid (HU2.out.trans (hu3.mono HU2.out.size))
            have l0 := (hu3.cell (p := ⟨w.heap.size, 0, none⟩) (by show w.heap.size < _; omega)).trans f0
            have l3 := (hu3.cell (p := ⟨tb, tz + k * 4 + 3, none⟩) (by show tb < _; omega)).trans f3
            clear hu3 f0 f3
            go_wp2_with fail
            go_roundw
            case rel => exact ⟨k + 1, by omega, by go_num, HB61.out.trans (HU3.out.mono HB61.out.size)⟩
            case measure => simp [intOf]; omega
        · obtain rfl : tl = k := by omega
          go_wp2_with fail
          refine (HWK.out _).mono ?_
          rintro e u1 ⟨rfl, hu1⟩
          have HU1 := Lib.hid (HBX1.out.trans (hu1.mono HBX1.out.size))
          clear hu1 x0 x1
          go_wp2_with fail
          go_ret
          exact ⟨rfl, HU1.out⟩
end Go.Proofs.Ytedfdhpggghjeaa
