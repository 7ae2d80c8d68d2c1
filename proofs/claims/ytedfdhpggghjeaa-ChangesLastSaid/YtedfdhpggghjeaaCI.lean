/- Package changes: valid, named, Check. -/
import Derived.Test.YtedfdhpggghjeaaCH
namespace Go.Proofs.Ytedfdhpggghjeaa
set_option linter.unusedVariables false
set_option linter.unusedSimpArgs false
open Go.RowKit Go.Shelf

set_option maxRecDepth 100000 in
set_option maxHeartbeats 8000000 in
theorem valid_any (h : CHouse) (ta : Option Addr) (tl tc : Nat) (ma : Option Addr) (ml mc : Nat) (w : World) (hp : HAt w ta tl tc ma ml mc h) :
    Calls Try.prog 85 #[.agg #[.slice ta tl tc, .slice ma ml mc]] w fun e w' => e = .returned (.bool h.ok) ∧ Below w.heap.size w w' := by
  have htl := hp.1.1
  have hml := hp.2.1.1
  have htm := hp.1.2.1
  have hmm := hp.2.1.2.1
  unfold maxLen at htm hmm
  have HVT := Lib.hid (fun k (hk : k < h.things.length) b (hb : h.thingB k = b) W (hw : Below w.heap.size w W) => show Calls Try.prog 101 #[.agg #[.slice ta tl tc, .slice ma ml mc], .int .i64 k] W fun e w' => e = .returned (.bool b) ∧ Below W.heap.size W w' from hb ▸ validThing_any h ta tl tc ma ml mc k hk W (hp.below hw))
  have HCM := Lib.hid (fun W (hw : Below w.heap.size w W) => ContainsMark_any h ta tl tc ma ml mc ma ml mc h.marks W (hp.below hw) (hp.2.1.below hw))
  have hok : h.ok = (decide (tl ≤ 8) && decide (ml ≤ 6) && (List.range tl).all h.thingB && h.marks.all h.markB) := by unfold CHouse.ok; rw [htl, hml]
  rw [hok]
  have HTL := Lib.hid htl
  clear hp hok hml
  by_cases h8 : tl ≤ 8
  rotate_left
  · have hg : (tl : Int) > 8 := by omega
    rw [decide_eq_false h8]
    clear HVT HCM h8
    go_enter Try.func85, Try.ntmps85
    go_wp2_with fail
    obtain ⟨W0, hW0, hB0, ⟨g0_0, g0_1⟩, hz0⟩ : ∃ W0, (w.alloc (.cells #[.slice ta tl tc, .slice ma ml mc] 75)) = W0 ∧ Below w.heap.size w W0 ∧ (W0.cell? ⟨w.heap.size, 0, none⟩ = some (.slice ta tl tc) ∧ W0.cell? ⟨w.heap.size, 1, none⟩ = some (.slice ma ml mc)) ∧ W0.heap.size = w.heap.size + 1 :=
      ⟨_, rfl, (by repeat (first | exact Below.refl _ _ | (refine Below.alloc ?_ (by first | omega | (simp; omega) | simp) _) | (refine Below.setCell ?_ (by first | omega | (simp; omega) | simp) _) | refine Below.drew ?_)), ⟨by go_simp, by go_simp⟩, by simp⟩
    rw [hW0]
    clear hW0
    have HBW := Lib.hid hB0
    have q0_0 : w.heap.size < W0.heap.size := by omega
    clear hB0 hz0
    go_wp2_with fail
    go_ret
    exact ⟨rfl, HBW.out.trans (Below.mono (by repeat (first | exact Below.refl _ _ | (refine Below.alloc ?_ (by first | omega | (simp; omega) | simp) _) | (refine Below.setCell ?_ (by first | omega | (simp; omega) | simp) _) | refine Below.drew ?_)) HBW.out.size)⟩
  by_cases h6 : ml ≤ 6
  rotate_left
  · have hg1 : ¬ (tl : Int) > 8 := by omega
    have hg : (ml : Int) > 6 := by omega
    rw [decide_eq_true h8, decide_eq_false h6]
    clear HVT HCM h8 h6
    go_enter Try.func85, Try.ntmps85
    go_wp2_with fail
    obtain ⟨W0, hW0, hB0, ⟨g0_0, g0_1⟩, hz0⟩ : ∃ W0, (w.alloc (.cells #[.slice ta tl tc, .slice ma ml mc] 75)) = W0 ∧ Below w.heap.size w W0 ∧ (W0.cell? ⟨w.heap.size, 0, none⟩ = some (.slice ta tl tc) ∧ W0.cell? ⟨w.heap.size, 1, none⟩ = some (.slice ma ml mc)) ∧ W0.heap.size = w.heap.size + 1 :=
      ⟨_, rfl, (by repeat (first | exact Below.refl _ _ | (refine Below.alloc ?_ (by first | omega | (simp; omega) | simp) _) | (refine Below.setCell ?_ (by first | omega | (simp; omega) | simp) _) | refine Below.drew ?_)), ⟨by go_simp, by go_simp⟩, by simp⟩
    rw [hW0]
    clear hW0
    have HBW := Lib.hid hB0
    have q0_0 : w.heap.size < W0.heap.size := by omega
    clear hB0 hz0
    go_wp2_with fail
    go_ret
    exact ⟨rfl, HBW.out.trans (Below.mono (by repeat (first | exact Below.refl _ _ | (refine Below.alloc ?_ (by first | omega | (simp; omega) | simp) _) | (refine Below.setCell ?_ (by first | omega | (simp; omega) | simp) _) | refine Below.drew ?_)) HBW.out.size)⟩
  have hg1 : ¬ (tl : Int) > 8 := by omega
  have hg : ¬ (ml : Int) > 6 := by omega
  rw [decide_eq_true h8, decide_eq_true h6, Bool.true_and, Bool.true_and]
  obtain ⟨M, hM⟩ : ∃ M, h.marks.all h.markB = M := ⟨_, rfl⟩
  rw [hM] at HCM
  rw [hM]
  have HNO := Lib.hid (fun k (hk : k < tl) (hb : h.thingB k = false) => show (List.range tl).all h.thingB = false from List.all_eq_false.2 ⟨k, List.mem_range.2 hk, by simp [hb]⟩)
  have HYES := Lib.hid (fun (ha : ∀ i, i < tl → h.thingB i = true) => show (List.range tl).all h.thingB = true from List.all_eq_true.2 fun i hi => ha i (List.mem_range.1 hi))
  obtain ⟨T, hT⟩ : ∃ T, (List.range tl).all h.thingB = T := ⟨_, rfl⟩
  rw [hT] at HNO HYES
  rw [hT]
  clear hM hT htl
  go_enter Try.func85, Try.ntmps85
  go_wp2_with fail
  obtain ⟨W0, hW0, hB0, ⟨g0_0, g0_1⟩, hz0⟩ : ∃ W0, (w.alloc (.cells #[.slice ta tl tc, .slice ma ml mc] 75)) = W0 ∧ Below w.heap.size w W0 ∧ (W0.cell? ⟨w.heap.size, 0, none⟩ = some (.slice ta tl tc) ∧ W0.cell? ⟨w.heap.size, 1, none⟩ = some (.slice ma ml mc)) ∧ W0.heap.size = w.heap.size + 1 :=
    ⟨_, rfl, (by repeat (first | exact Below.refl _ _ | (refine Below.alloc ?_ (by first | omega | (simp; omega) | simp) _) | (refine Below.setCell ?_ (by first | omega | (simp; omega) | simp) _) | refine Below.drew ?_)), ⟨by go_simp, by go_simp⟩, by simp⟩
  rw [hW0]
  clear hW0
  have HBW := Lib.hid hB0
  have q0_0 : w.heap.size < W0.heap.size := by omega
  clear hB0 hz0
  go_loopw [20] (fun i wr => ∃ k : Nat, k ≤ tl ∧ i = .int .i64 k ∧ (∀ i, i < k → h.thingB i = true) ∧ Below W0.heap.size W0 wr) (fun i _ => tl - (intOf i).toNat)
  case atStart => exact ⟨0, by omega, rfl, fun i h => by omega, Below.refl _ _⟩
  case round =>
    obtain ⟨k, hk, rfl, hall, hB⟩ := hrel
    obtain ⟨W1, rfl⟩ : ∃ W1 : World, W1 = wr := ⟨_, rfl⟩
    have HALL := Lib.hid hall
    have HB := Lib.hid hB
    have x0 := (hB.cell (p := ⟨w.heap.size, 0, none⟩) q0_0).trans g0_0
    have x1 := (hB.cell (p := ⟨w.heap.size, 1, none⟩) q0_0).trans g0_1
    have hbw := HBW.out.trans (hB.mono HBW.out.size)
    have HW1 := Lib.hid hbw
    clear hall hB hbw
    by_cases hlt : k < tl
    · have hk2 : k < h.things.length := by rw [HTL.out]; exact hlt
      have hkl : (k : Int) < (tl : Int) := by omega
      have hk0 : (0 : Int) ≤ (k : Int) := by omega
      rcases hv : h.thingB k with - | -
      · have HC := Lib.hid (HVT.out k hk2 false hv W1 HW1.out)
        have hTF : T = false := HNO.out k hlt hv
        subst hTF
        clear HNO HYES hv
        go_wp2_with fail
        refine HC.out.mono ?_
        rintro e w' ⟨rfl, hb2⟩
        go_wp2_with fail
        go_ret
        exact ⟨rfl, HW1.out.trans (hb2.mono HW1.out.size)⟩
      · have HC := Lib.hid (HVT.out k hk2 true hv W1 HW1.out)
        have HN := Lib.hid (show ∀ i, i < k + 1 → h.thingB i = true from fun i hik => by
          by_cases e : i = k
          · subst e; exact hv
          · exact HALL.out i (by omega))
        clear hv
        go_wp2_with fail
        refine HC.out.mono ?_
        rintro e w' ⟨rfl, hb2⟩
        go_wp2_with fail
        go_roundw
        case rel => exact ⟨k + 1, by omega, by go_num, HN.out, HB.out.trans (hb2.mono HB.out.size)⟩
        case measure => simp [intOf]; omega
    · obtain rfl : tl = k := by omega
      have hTT : T = true := HYES.out HALL.out
      subst hTT
      have HC := Lib.hid (HCM.out W1 HW1.out)
      clear HNO HYES HCM
      go_wp2_with fail
      refine HC.out.mono ?_
      rintro e w' ⟨rfl, hb2⟩
      go_wp2_with fail
      go_ret
      exact ⟨ret_bool (by simp), HW1.out.trans (hb2.mono HW1.out.size)⟩
/-- The error of a call that names something. -/
def CHouse.name (h : CHouse) (b : Bool) : Int := if h.ok then (if b then 0 else 1) else 70
set_option maxRecDepth 100000 in
set_option maxHeartbeats 8000000 in
theorem named_any (h : CHouse) (ta : Option Addr) (tl tc : Nat) (ma : Option Addr) (ml mc : Nat) (b : Bool) (w : World) (hp : HAt w ta tl tc ma ml mc h) :
    Calls Try.prog 58 #[.agg #[.slice ta tl tc, .slice ma ml mc], .bool b] w fun e w' => e = .returned (.int .i64 (h.name b)) ∧ Below w.heap.size w w' := by
  have HV := Lib.hid (fun W (hb : Below w.heap.size w W) => valid_any h ta tl tc ma ml mc W (hp.below hb))
  unfold CHouse.name
  clear hp
  rcases ho : h.ok with - | -
  · rw [ho] at HV
    go_enter Try.func58, Try.ntmps58
    go_wp2_with fail
    obtain ⟨W0, hW0, hB0, ⟨g0_0, g0_1⟩, hz0⟩ : ∃ W0, (w.alloc (.cells #[.slice ta tl tc, .slice ma ml mc] 75)) = W0 ∧ Below w.heap.size w W0 ∧ (W0.cell? ⟨w.heap.size, 0, none⟩ = some (.slice ta tl tc) ∧ W0.cell? ⟨w.heap.size, 1, none⟩ = some (.slice ma ml mc)) ∧ W0.heap.size = w.heap.size + 1 :=
      ⟨_, rfl, (by repeat (first | exact Below.refl _ _ | (refine Below.alloc ?_ (by first | omega | (simp; omega) | simp) _) | (refine Below.setCell ?_ (by first | omega | (simp; omega) | simp) _) | refine Below.drew ?_)), ⟨by go_simp, by go_simp⟩, by simp⟩
    rw [hW0]
    clear hW0
    have HBW := Lib.hid hB0
    have q0_0 : w.heap.size < W0.heap.size := by omega
    clear hB0 hz0
    go_wp2_with fail
    refine (HV.out _ (HBW.out.trans (Below.mono (by repeat (first | exact Below.refl _ _ | (refine Below.alloc ?_ (by first | omega | (simp; omega) | simp) _) | (refine Below.setCell ?_ (by first | omega | (simp; omega) | simp) _) | refine Below.drew ?_)) HBW.out.size))).mono ?_
    rintro e v1 ⟨rfl, hb1⟩
    have hB1_0 : Below W0.heap.size W0 v1 := below_via (Lib.hid hb1) (by first | omega | (simp; done) | (simp; omega)) (by repeat (first | exact Below.refl _ _ | (refine Below.alloc ?_ (by first | omega | (simp; omega) | simp) _) | (refine Below.setCell ?_ (by first | omega | (simp; omega) | simp) _) | refine Below.drew ?_))
    have z1 := hb1.size
    (try simp at z1)
    have HB1 := Lib.hid hB1_0
    have y1 := hB1_0.size
    clear hb1 hB1_0 g0_0 g0_1 q0_0
    go_wp2_with fail
    go_ret
    exact ⟨rfl, HBW.out.trans (Below.mono (by repeat (first | exact Below.refl _ _ | with_reducible exact HB1.out | (refine Below.alloc ?_ (by first | omega | (simp; omega) | simp) _) | (refine Below.setCell ?_ (by first | omega | (simp; omega) | simp) _) | refine Below.drew ?_)) HBW.out.size)⟩
  · rw [ho] at HV
    cases b
    · skip
      go_enter Try.func58, Try.ntmps58
      go_wp2_with fail
      obtain ⟨W0, hW0, hB0, ⟨g0_0, g0_1⟩, hz0⟩ : ∃ W0, (w.alloc (.cells #[.slice ta tl tc, .slice ma ml mc] 75)) = W0 ∧ Below w.heap.size w W0 ∧ (W0.cell? ⟨w.heap.size, 0, none⟩ = some (.slice ta tl tc) ∧ W0.cell? ⟨w.heap.size, 1, none⟩ = some (.slice ma ml mc)) ∧ W0.heap.size = w.heap.size + 1 :=
        ⟨_, rfl, (by repeat (first | exact Below.refl _ _ | (refine Below.alloc ?_ (by first | omega | (simp; omega) | simp) _) | (refine Below.setCell ?_ (by first | omega | (simp; omega) | simp) _) | refine Below.drew ?_)), ⟨by go_simp, by go_simp⟩, by simp⟩
      rw [hW0]
      clear hW0
      have HBW := Lib.hid hB0
      have q0_0 : w.heap.size < W0.heap.size := by omega
      clear hB0 hz0
      go_wp2_with fail
      refine (HV.out _ (HBW.out.trans (Below.mono (by repeat (first | exact Below.refl _ _ | (refine Below.alloc ?_ (by first | omega | (simp; omega) | simp) _) | (refine Below.setCell ?_ (by first | omega | (simp; omega) | simp) _) | refine Below.drew ?_)) HBW.out.size))).mono ?_
      rintro e v1 ⟨rfl, hb1⟩
      have hB1_0 : Below W0.heap.size W0 v1 := below_via (Lib.hid hb1) (by first | omega | (simp; done) | (simp; omega)) (by repeat (first | exact Below.refl _ _ | (refine Below.alloc ?_ (by first | omega | (simp; omega) | simp) _) | (refine Below.setCell ?_ (by first | omega | (simp; omega) | simp) _) | refine Below.drew ?_))
      have z1 := hb1.size
      (try simp at z1)
      have HB1 := Lib.hid hB1_0
      have y1 := hB1_0.size
      clear hb1 hB1_0 g0_0 g0_1 q0_0
      go_wp2_with fail
      go_ret
      exact ⟨rfl, HBW.out.trans (Below.mono (by repeat (first | exact Below.refl _ _ | with_reducible exact HB1.out | (refine Below.alloc ?_ (by first | omega | (simp; omega) | simp) _) | (refine Below.setCell ?_ (by first | omega | (simp; omega) | simp) _) | refine Below.drew ?_)) HBW.out.size)⟩
    · skip
      go_enter Try.func58, Try.ntmps58
      go_wp2_with fail
      obtain ⟨W0, hW0, hB0, ⟨g0_0, g0_1⟩, hz0⟩ : ∃ W0, (w.alloc (.cells #[.slice ta tl tc, .slice ma ml mc] 75)) = W0 ∧ Below w.heap.size w W0 ∧ (W0.cell? ⟨w.heap.size, 0, none⟩ = some (.slice ta tl tc) ∧ W0.cell? ⟨w.heap.size, 1, none⟩ = some (.slice ma ml mc)) ∧ W0.heap.size = w.heap.size + 1 :=
        ⟨_, rfl, (by repeat (first | exact Below.refl _ _ | (refine Below.alloc ?_ (by first | omega | (simp; omega) | simp) _) | (refine Below.setCell ?_ (by first | omega | (simp; omega) | simp) _) | refine Below.drew ?_)), ⟨by go_simp, by go_simp⟩, by simp⟩
      rw [hW0]
      clear hW0
      have HBW := Lib.hid hB0
      have q0_0 : w.heap.size < W0.heap.size := by omega
      clear hB0 hz0
      go_wp2_with fail
      refine (HV.out _ (HBW.out.trans (Below.mono (by repeat (first | exact Below.refl _ _ | (refine Below.alloc ?_ (by first | omega | (simp; omega) | simp) _) | (refine Below.setCell ?_ (by first | omega | (simp; omega) | simp) _) | refine Below.drew ?_)) HBW.out.size))).mono ?_
      rintro e v1 ⟨rfl, hb1⟩
      have hB1_0 : Below W0.heap.size W0 v1 := below_via (Lib.hid hb1) (by first | omega | (simp; done) | (simp; omega)) (by repeat (first | exact Below.refl _ _ | (refine Below.alloc ?_ (by first | omega | (simp; omega) | simp) _) | (refine Below.setCell ?_ (by first | omega | (simp; omega) | simp) _) | refine Below.drew ?_))
      have z1 := hb1.size
      (try simp at z1)
      have HB1 := Lib.hid hB1_0
      have y1 := hB1_0.size
      clear hb1 hB1_0 g0_0 g0_1 q0_0
      go_wp2_with fail
      go_ret
      exact ⟨rfl, HBW.out.trans (Below.mono (by repeat (first | exact Below.refl _ _ | with_reducible exact HB1.out | (refine Below.alloc ?_ (by first | omega | (simp; omega) | simp) _) | (refine Below.setCell ?_ (by first | omega | (simp; omega) | simp) _) | refine Below.drew ?_)) HBW.out.size)⟩
theorem named_is (h : CHouse) (ta : Option Addr) (tl tc : Nat) (ma : Option Addr) (ml mc : Nat) (b : Bool) (n : Int) (hn : h.name b = n) (w : World) (hp : HAt w ta tl tc ma ml mc h) :
    Calls Try.prog 58 #[.agg #[.slice ta tl tc, .slice ma ml mc], .bool b] w fun e w' => e = .returned (.int .i64 n) ∧ Below w.heap.size w w' := hn ▸ named_any h ta tl tc ma ml mc b w hp
set_option maxRecDepth 100000 in
set_option maxHeartbeats 8000000 in
theorem Check_any (h : CHouse) (ta : Option Addr) (tl tc : Nat) (ma : Option Addr) (ml mc : Nat) (w : World) (hp : HAt w ta tl tc ma ml mc h) :
    Calls Try.prog 20 #[.agg #[.slice ta tl tc, .slice ma ml mc]] w fun e w' => e = .returned (.int .i64 (h.name true)) ∧ Below w.heap.size w w' := by
  have HV := Lib.hid (fun W (hb : Below w.heap.size w W) => named_any h ta tl tc ma ml mc true W (hp.below hb))
  clear hp
  generalize h.name true = n at *
  go_enter Try.func20, Try.ntmps20
  go_wp2_with fail
  obtain ⟨W0, hW0, hB0, ⟨g0_0, g0_1⟩, hz0⟩ : ∃ W0, (w.alloc (.cells #[.slice ta tl tc, .slice ma ml mc] 25)) = W0 ∧ Below w.heap.size w W0 ∧ (W0.cell? ⟨w.heap.size, 0, none⟩ = some (.slice ta tl tc) ∧ W0.cell? ⟨w.heap.size, 1, none⟩ = some (.slice ma ml mc)) ∧ W0.heap.size = w.heap.size + 1 :=
    ⟨_, rfl, (by repeat (first | exact Below.refl _ _ | (refine Below.alloc ?_ (by first | omega | (simp; omega) | simp) _) | (refine Below.setCell ?_ (by first | omega | (simp; omega) | simp) _) | refine Below.drew ?_)), ⟨by go_simp, by go_simp⟩, by simp⟩
  rw [hW0]
  clear hW0
  have HBW := Lib.hid hB0
  have q0_0 : w.heap.size < W0.heap.size := by omega
  clear hB0 hz0
  go_wp2_with fail
  refine (HV.out _ (HBW.out.trans (Below.mono (by repeat (first | exact Below.refl _ _ | (refine Below.alloc ?_ (by first | omega | (simp; omega) | simp) _) | (refine Below.setCell ?_ (by first | omega | (simp; omega) | simp) _) | refine Below.drew ?_)) HBW.out.size))).mono ?_
  rintro e v1 ⟨rfl, hb1⟩
  have hB1_0 : Below W0.heap.size W0 v1 := below_via (Lib.hid hb1) (by first | omega | (simp; done) | (simp; omega)) (by repeat (first | exact Below.refl _ _ | (refine Below.alloc ?_ (by first | omega | (simp; omega) | simp) _) | (refine Below.setCell ?_ (by first | omega | (simp; omega) | simp) _) | refine Below.drew ?_))
  have z1 := hb1.size
  (try simp at z1)
  have HB1 := Lib.hid hB1_0
  have y1 := hB1_0.size
  clear hb1 hB1_0 g0_0 g0_1 q0_0
  go_wp2_with fail
  go_ret
  exact ⟨rfl, HBW.out.trans (Below.mono (by repeat (first | exact Below.refl _ _ | with_reducible exact HB1.out | (refine Below.alloc ?_ (by first | omega | (simp; omega) | simp) _) | (refine Below.setCell ?_ (by first | omega | (simp; omega) | simp) _) | refine Below.drew ?_)) HBW.out.size)⟩
end Go.Proofs.Ytedfdhpggghjeaa
