/- MetalAnalysis. -/
import Derived.Test.YtnlgchgpnfkjeaaPK
namespace Go.Proofs.Ytnlgchgpnfkjeaa
set_option linter.unusedVariables false
set_option linter.unusedSimpArgs false
open Go.RowKit

set_option maxRecDepth 100000 in
set_option maxHeartbeats 4000000 in
theorem analysis_no1 (s : Shop) (a : Option Addr) (len cap : Nat) (ta tb : Int) (w : World) (hp : PigsAt w a len s.pigs) (hr : s.ok = false) (h1 : false = true → truthB s ta tb = true) :
    Calls Try.prog 14 #[.agg #[.int .i64 s.P, .int .i64 s.tl, .int .i64 s.th, .int .i64 s.al, .int .i64 s.ah, .int .i64 s.room, .int .i64 s.xl, .int .i64 s.xh, .int .i64 s.yl, .int .i64 s.yh, .slice a len cap], .agg #[.int .i64 ta, .int .i64 tb]] w fun e w' => e = .returned (.bool true) ∧ Below w.heap.size w w' := by
  have HR := Lib.hid (fun w1 (hb : Below w.heap.size w w1) => ready_is s a len cap false hr w1 (hp.below hb))
  have HF := Lib.hid (fun w1 (hb : Below w.heap.size w w1) => Far_any s a len cap w1 (hp.below hb))
  have H1 := Lib.hid (fun (h : false = true) w1 => isTruth_is s a len cap ta tb true (h1 h) w1)
  have HW := Lib.hid (fun w1 => works_any w1)
  clear hp hr h1
  go_enter Try.func14, Try.ntmps14
  go_wp2_with fail
  refine (HF.out _ (by repeat (first | exact Below.refl _ _ | (refine Below.alloc ?_ (by first | omega | (simp; omega) | simp) _) | (refine Below.setCell ?_ (by first | omega | (simp; omega) | simp) _) | refine Below.drew ?_))).mono ?_
  rintro e w1 ⟨b, rfl, hb1⟩
  obtain ⟨hc1, hf1⟩ := bcell hb1
  have hz1 := hb1.size
  simp at hz1
  have hw1 := ((by repeat (first | exact Below.refl _ _ | (refine Below.alloc ?_ (by first | omega | (simp; omega) | simp) _) | (refine Below.setCell ?_ (by first | omega | (simp; omega) | simp) _) | refine Below.drew ?_)) : Below w.heap.size w _).trans (hb1.mono (by first | (simp; done) | (simp; omega) | omega))
  clear hb1
  have p1 : w.heap.size < w1.heap.size := by omega
  have r1 : w.heap.size + 1 < w1.heap.size := by omega
  cases b
  · go_wp2_with fail
    refine (HR.out _ hw1).mono ?_; rintro e w2 ⟨rfl, hb2⟩; obtain ⟨hc2, hf2⟩ := bcell hb2; have hz2 := hb2.size; (try simp at hz2); have hw2 := ((by repeat (first | assumption | exact Below.refl _ _ | (refine Below.alloc ?_ (by first | omega | (simp; omega) | simp) _) | (refine Below.setCell ?_ (by first | omega | (simp; omega) | simp) _) | refine Below.drew ?_)) : Below w.heap.size w _).trans (hb2.mono (by first | (simp; done) | (simp; omega) | omega)); clear hb2; have p2 : w.heap.size < w2.heap.size := (by omega); have r2 : w.heap.size + 1 < w2.heap.size := (by omega); go_wp2_with fail
    first
      | refine (HW.out _).mono ?_; rintro e w3 ⟨rfl, hb3⟩; obtain ⟨hc3, hf3⟩ := bcell hb3; have hz3 := hb3.size; (try simp at hz3); have hw3 := ((by repeat (first | assumption | exact Below.refl _ _ | (refine Below.alloc ?_ (by first | omega | (simp; omega) | simp) _) | (refine Below.setCell ?_ (by first | omega | (simp; omega) | simp) _) | refine Below.drew ?_)) : Below w.heap.size w _).trans (hb3.mono (by first | (simp; done) | (simp; omega) | omega)); clear hb3; have p3 : w.heap.size < w3.heap.size := (by omega); have r3 : w.heap.size + 1 < w3.heap.size := (by omega); go_wp2_with fail
      | (refine (H1.out (by trivial) _).mono ?_; rintro e w4 ⟨rfl, hb4⟩; obtain ⟨hc4, hf4⟩ := bcell hb4; have hz4 := hb4.size; (try simp at hz4); have hw4 := ((by repeat (first | assumption | exact Below.refl _ _ | (refine Below.alloc ?_ (by first | omega | (simp; omega) | simp) _) | (refine Below.setCell ?_ (by first | omega | (simp; omega) | simp) _) | refine Below.drew ?_)) : Below w.heap.size w _).trans (hb4.mono (by first | (simp; done) | (simp; omega) | omega)); clear hb4; have p4 : w.heap.size < w4.heap.size := (by omega); have r4 : w.heap.size + 1 < w4.heap.size := (by omega); go_wp2_with fail
         refine (HW.out _).mono ?_; rintro e w5 ⟨rfl, hb5⟩; obtain ⟨hc5, hf5⟩ := bcell hb5; have hz5 := hb5.size; (try simp at hz5); have hw5 := ((by repeat (first | assumption | exact Below.refl _ _ | (refine Below.alloc ?_ (by first | omega | (simp; omega) | simp) _) | (refine Below.setCell ?_ (by first | omega | (simp; omega) | simp) _) | refine Below.drew ?_)) : Below w.heap.size w _).trans (hb5.mono (by first | (simp; done) | (simp; omega) | omega)); clear hb5; have p5 : w.heap.size < w5.heap.size := (by omega); have r5 : w.heap.size + 1 < w5.heap.size := (by omega); go_wp2_with fail)
    go_ret
    exact ⟨rfl, (by repeat (first | assumption | exact Below.refl _ _ | (refine Below.alloc ?_ (by first | omega | (simp; omega) | simp) _) | (refine Below.setCell ?_ (by first | omega | (simp; omega) | simp) _) | refine Below.drew ?_))⟩
  · go_wp2_with fail
    refine (HW.out _).mono ?_; rintro e w3 ⟨rfl, hb3⟩; obtain ⟨hc3, hf3⟩ := bcell hb3; have hz3 := hb3.size; (try simp at hz3); have hw3 := ((by repeat (first | assumption | exact Below.refl _ _ | (refine Below.alloc ?_ (by first | omega | (simp; omega) | simp) _) | (refine Below.setCell ?_ (by first | omega | (simp; omega) | simp) _) | refine Below.drew ?_)) : Below w.heap.size w _).trans (hb3.mono (by first | (simp; done) | (simp; omega) | omega)); clear hb3; have p3 : w.heap.size < w3.heap.size := (by omega); have r3 : w.heap.size + 1 < w3.heap.size := (by omega); go_wp2_with fail
    go_ret
    exact ⟨rfl, (by repeat (first | assumption | exact Below.refl _ _ | (refine Below.alloc ?_ (by first | omega | (simp; omega) | simp) _) | (refine Below.setCell ?_ (by first | omega | (simp; omega) | simp) _) | refine Below.drew ?_))⟩
set_option maxRecDepth 100000 in
set_option maxHeartbeats 4000000 in
theorem analysis_no2 (s : Shop) (a : Option Addr) (len cap : Nat) (ta tb : Int) (w : World) (hp : PigsAt w a len s.pigs) (hr : s.ok = true) (h1 : true = true → truthB s ta tb = false) :
    Calls Try.prog 14 #[.agg #[.int .i64 s.P, .int .i64 s.tl, .int .i64 s.th, .int .i64 s.al, .int .i64 s.ah, .int .i64 s.room, .int .i64 s.xl, .int .i64 s.xh, .int .i64 s.yl, .int .i64 s.yh, .slice a len cap], .agg #[.int .i64 ta, .int .i64 tb]] w fun e w' => e = .returned (.bool true) ∧ Below w.heap.size w w' := by
  have HR := Lib.hid (fun w1 (hb : Below w.heap.size w w1) => ready_is s a len cap true hr w1 (hp.below hb))
  have HF := Lib.hid (fun w1 (hb : Below w.heap.size w w1) => Far_any s a len cap w1 (hp.below hb))
  have H1 := Lib.hid (fun (h : true = true) w1 => isTruth_is s a len cap ta tb false (h1 h) w1)
  have HW := Lib.hid (fun w1 => works_any w1)
  clear hp hr h1
  go_enter Try.func14, Try.ntmps14
  go_wp2_with fail
  refine (HF.out _ (by repeat (first | exact Below.refl _ _ | (refine Below.alloc ?_ (by first | omega | (simp; omega) | simp) _) | (refine Below.setCell ?_ (by first | omega | (simp; omega) | simp) _) | refine Below.drew ?_))).mono ?_
  rintro e w1 ⟨b, rfl, hb1⟩
  obtain ⟨hc1, hf1⟩ := bcell hb1
  have hz1 := hb1.size
  simp at hz1
  have hw1 := ((by repeat (first | exact Below.refl _ _ | (refine Below.alloc ?_ (by first | omega | (simp; omega) | simp) _) | (refine Below.setCell ?_ (by first | omega | (simp; omega) | simp) _) | refine Below.drew ?_)) : Below w.heap.size w _).trans (hb1.mono (by first | (simp; done) | (simp; omega) | omega))
  clear hb1
  have p1 : w.heap.size < w1.heap.size := by omega
  have r1 : w.heap.size + 1 < w1.heap.size := by omega
  cases b
  · go_wp2_with fail
    refine (HR.out _ hw1).mono ?_; rintro e w2 ⟨rfl, hb2⟩; obtain ⟨hc2, hf2⟩ := bcell hb2; have hz2 := hb2.size; (try simp at hz2); have hw2 := ((by repeat (first | assumption | exact Below.refl _ _ | (refine Below.alloc ?_ (by first | omega | (simp; omega) | simp) _) | (refine Below.setCell ?_ (by first | omega | (simp; omega) | simp) _) | refine Below.drew ?_)) : Below w.heap.size w _).trans (hb2.mono (by first | (simp; done) | (simp; omega) | omega)); clear hb2; have p2 : w.heap.size < w2.heap.size := (by omega); have r2 : w.heap.size + 1 < w2.heap.size := (by omega); go_wp2_with fail
    first
      | refine (HW.out _).mono ?_; rintro e w3 ⟨rfl, hb3⟩; obtain ⟨hc3, hf3⟩ := bcell hb3; have hz3 := hb3.size; (try simp at hz3); have hw3 := ((by repeat (first | assumption | exact Below.refl _ _ | (refine Below.alloc ?_ (by first | omega | (simp; omega) | simp) _) | (refine Below.setCell ?_ (by first | omega | (simp; omega) | simp) _) | refine Below.drew ?_)) : Below w.heap.size w _).trans (hb3.mono (by first | (simp; done) | (simp; omega) | omega)); clear hb3; have p3 : w.heap.size < w3.heap.size := (by omega); have r3 : w.heap.size + 1 < w3.heap.size := (by omega); go_wp2_with fail
      | (refine (H1.out (by trivial) _).mono ?_; rintro e w4 ⟨rfl, hb4⟩; obtain ⟨hc4, hf4⟩ := bcell hb4; have hz4 := hb4.size; (try simp at hz4); have hw4 := ((by repeat (first | assumption | exact Below.refl _ _ | (refine Below.alloc ?_ (by first | omega | (simp; omega) | simp) _) | (refine Below.setCell ?_ (by first | omega | (simp; omega) | simp) _) | refine Below.drew ?_)) : Below w.heap.size w _).trans (hb4.mono (by first | (simp; done) | (simp; omega) | omega)); clear hb4; have p4 : w.heap.size < w4.heap.size := (by omega); have r4 : w.heap.size + 1 < w4.heap.size := (by omega); go_wp2_with fail
         refine (HW.out _).mono ?_; rintro e w5 ⟨rfl, hb5⟩; obtain ⟨hc5, hf5⟩ := bcell hb5; have hz5 := hb5.size; (try simp at hz5); have hw5 := ((by repeat (first | assumption | exact Below.refl _ _ | (refine Below.alloc ?_ (by first | omega | (simp; omega) | simp) _) | (refine Below.setCell ?_ (by first | omega | (simp; omega) | simp) _) | refine Below.drew ?_)) : Below w.heap.size w _).trans (hb5.mono (by first | (simp; done) | (simp; omega) | omega)); clear hb5; have p5 : w.heap.size < w5.heap.size := (by omega); have r5 : w.heap.size + 1 < w5.heap.size := (by omega); go_wp2_with fail)
    go_ret
    exact ⟨rfl, (by repeat (first | assumption | exact Below.refl _ _ | (refine Below.alloc ?_ (by first | omega | (simp; omega) | simp) _) | (refine Below.setCell ?_ (by first | omega | (simp; omega) | simp) _) | refine Below.drew ?_))⟩
  · go_wp2_with fail
    refine (HW.out _).mono ?_; rintro e w3 ⟨rfl, hb3⟩; obtain ⟨hc3, hf3⟩ := bcell hb3; have hz3 := hb3.size; (try simp at hz3); have hw3 := ((by repeat (first | assumption | exact Below.refl _ _ | (refine Below.alloc ?_ (by first | omega | (simp; omega) | simp) _) | (refine Below.setCell ?_ (by first | omega | (simp; omega) | simp) _) | refine Below.drew ?_)) : Below w.heap.size w _).trans (hb3.mono (by first | (simp; done) | (simp; omega) | omega)); clear hb3; have p3 : w.heap.size < w3.heap.size := (by omega); have r3 : w.heap.size + 1 < w3.heap.size := (by omega); go_wp2_with fail
    go_ret
    exact ⟨rfl, (by repeat (first | assumption | exact Below.refl _ _ | (refine Below.alloc ?_ (by first | omega | (simp; omega) | simp) _) | (refine Below.setCell ?_ (by first | omega | (simp; omega) | simp) _) | refine Below.drew ?_))⟩

set_option maxRecDepth 100000 in
set_option maxHeartbeats 8000000 in
theorem analysis_all (s : Shop) (a : Option Addr) (len cap : Nat) (ta tb : Int) (w : World) (hp : PigsAt w a len s.pigs) (hr : s.ok = true) (ht : truthB s ta tb = true) (hkc : s.knownCode = 0) (hwc : s.worthOf.2 = 0) :
    Calls Try.prog 14 #[.agg #[.int .i64 s.P, .int .i64 s.tl, .int .i64 s.th, .int .i64 s.al, .int .i64 s.ah, .int .i64 s.room, .int .i64 s.xl, .int .i64 s.xh, .int .i64 s.yl, .int .i64 s.yh, .slice a len cap], .agg #[.int .i64 ta, .int .i64 tb]] w fun e w' => e = .returned (.bool true) ∧ Below w.heap.size w w' := by
  have HR := Lib.hid (fun w1 (hb : Below w.heap.size w w1) => ready_is s a len cap true hr w1 (hp.below hb))
  have HF := Lib.hid (fun w1 (hb : Below w.heap.size w w1) => Far_any s a len cap w1 (hp.below hb))
  have H1 := Lib.hid (fun w1 => isTruth_is s a len cap ta tb true ht w1)
  have HW := Lib.hid (fun w1 => works_any w1)
  have hl4 : len ≤ 4 := by have := Shop.ok_bd hr; have := hp.1; omega
  obtain ⟨lo, hi, hcells, hana⟩ := ana_ok hr ht
  obtain ⟨hin, hi1, hi2⟩ := truth_in ht
  have hno := narrow_ok s ta ta tb tb hi1 hi2 hr
  have H2 := Lib.hid (fun w1 (hb : Below w.heap.size w w1) => cheap_any s a len cap w1 (hp.below hb) hr)
  have H3 := Lib.hid (fun w1 (hb : Below w.heap.size w w1) => InTruth_any s a len cap ta tb w1 (hp.below hb) (by omega))
  have H4 := Lib.hid (fun a' cap' w1 (hp' : PigsAt w1 a' len s.pigs) => cheap_any (s.narrow ta ta tb tb) a' len cap' w1 hp' hno)
  have H5 := Lib.hid (fun w1 (hb : Below w.heap.size w w1) => Known_is s a len cap lo hi 0 w1 (hp.below hb) ⟨hcells, hkc⟩)
  have H6 := fun w1 (hb : Below w.heap.size w w1) => Worth_any s a len cap w1 (hp.below hb)
  rw [hwc] at H6
  replace H6 := Lib.hid H6
  rw [hkc, hwc] at hana
  obtain ⟨k1, k2, k3, k4, k5, k6, k7⟩ := hana
  generalize (s.narrow ta ta tb tb).costN 0 = m at *
  generalize s.costN 0 = n at *
  generalize s.worthOf.1 = wo at *
  dsimp only [Shop.narrow] at H4
  simp at k3 k4 k5 k6
  have hd : decide (n < 100000) = (0 == (0 : Int)) := by first | (simp; omega) | (rw [decide_eq_false (by omega)]; rfl) | (rw [decide_eq_true (by omega)]; rfl)
  have hd2 : m = 100000 ∨ (m == 100000) = false := by
    by_cases h : m = 100000
    · exact .inl h
    · exact .inr (by simpa using h)
  clear hp hr ht hkc hwc hcells hin hi1 hi2 hno k2
  simp at hd
  go_enter Try.func14, Try.ntmps14
  go_wp2_with fail
  refine (HF.out _ (by repeat (first | exact Below.refl _ _ | (refine Below.alloc ?_ (by first | omega | (simp; omega) | simp) _) | (refine Below.setCell ?_ (by first | omega | (simp; omega) | simp) _) | refine Below.drew ?_))).mono ?_
  rintro e w1 ⟨b, rfl, hb1⟩
  obtain ⟨hc1, hf1⟩ := bcell hb1
  have hz1 := hb1.size
  simp at hz1
  have hw1 := ((by repeat (first | exact Below.refl _ _ | (refine Below.alloc ?_ (by first | omega | (simp; omega) | simp) _) | (refine Below.setCell ?_ (by first | omega | (simp; omega) | simp) _) | refine Below.drew ?_)) : Below w.heap.size w _).trans (hb1.mono (by first | (simp; done) | (simp; omega) | omega))
  clear hb1
  have p1 : w.heap.size < w1.heap.size := by omega
  have r1 : w.heap.size + 1 < w1.heap.size := by omega
  cases b
  · go_wp2_with fail
    refine (HR.out _ hw1).mono ?_; rintro e w2 ⟨rfl, hb2⟩; obtain ⟨hc2, hf2⟩ := bcell hb2; have hz2 := hb2.size; (try simp at hz2); have hw2 := ((by repeat (first | assumption | exact Below.refl _ _ | (refine Below.alloc ?_ (by first | omega | (simp; omega) | simp) _) | (refine Below.setCell ?_ (by first | omega | (simp; omega) | simp) _) | refine Below.drew ?_)) : Below w.heap.size w _).trans (hb2.mono (by first | (simp; done) | (simp; omega) | omega)); clear hb2; have p2 : w.heap.size < w2.heap.size := (by omega); have r2 : w.heap.size + 1 < w2.heap.size := (by omega); go_wp2_with fail
    refine (H1.out _).mono ?_; rintro e w3 ⟨rfl, hb3⟩; obtain ⟨hc3, hf3⟩ := bcell hb3; have hz3 := hb3.size; (try simp at hz3); have hw3 := ((by repeat (first | assumption | exact Below.refl _ _ | (refine Below.alloc ?_ (by first | omega | (simp; omega) | simp) _) | (refine Below.setCell ?_ (by first | omega | (simp; omega) | simp) _) | refine Below.drew ?_)) : Below w.heap.size w _).trans (hb3.mono (by first | (simp; done) | (simp; omega) | omega)); clear hb3; have p3 : w.heap.size < w3.heap.size := (by omega); have r3 : w.heap.size + 1 < w3.heap.size := (by omega); go_wp2_with fail
    refine (H2.out _ hw3).mono ?_; rintro e w4 ⟨rfl, hb4⟩; obtain ⟨hc4, hf4⟩ := bcell hb4; have hz4 := hb4.size; (try simp at hz4); have hw4 := ((by repeat (first | assumption | exact Below.refl _ _ | (refine Below.alloc ?_ (by first | omega | (simp; omega) | simp) _) | (refine Below.setCell ?_ (by first | omega | (simp; omega) | simp) _) | refine Below.drew ?_)) : Below w.heap.size w _).trans (hb4.mono (by first | (simp; done) | (simp; omega) | omega)); clear hb4; have p4 : w.heap.size < w4.heap.size := (by omega); have r4 : w.heap.size + 1 < w4.heap.size := (by omega); go_wp2_with fail
    refine (H3.out _ hw4).mono ?_
    rintro e w5 ⟨a', cap', rfl, hP5, hb5⟩
    obtain ⟨hc5, hf5⟩ := bcell hb5
    have hz5 := hb5.size
    have hw5 := hw4.trans (hb5.mono hw4.size)
    have p5 : w.heap.size < w5.heap.size := by omega
    have r5 : w.heap.size + 1 < w5.heap.size := by omega
    have HP5 := Lib.hid hP5
    clear hb5 hP5
    go_wp2_with fail
    refine (H4.out _ _ _ HP5.out).mono ?_
    rintro e w6 ⟨rfl, hb6⟩
    obtain ⟨hc6, hf6⟩ := bcell hb6
    have hz6 := hb6.size
    have hw6 := hw5.trans (hb6.mono hw5.size)
    have p6 : w.heap.size < w6.heap.size := by omega
    have r6 : w.heap.size + 1 < w6.heap.size := by omega
    clear hb6
    go_wp2_with fail
    refine (H5.out _ hw6).mono ?_
    rintro e w7 ⟨rfl, hb7⟩
    obtain ⟨hc7, hf7⟩ := bcell hb7
    have hz7 := hb7.size
    have hw7 := hw6.trans (hb7.mono hw6.size)
    have p7 : w.heap.size < w7.heap.size := by omega
    have r7 : w.heap.size + 1 < w7.heap.size := by omega
    clear hb7
    go_wp2_with fail
    have hw7a : Below w.heap.size w (w7.alloc (.cells #[.int .i64 lo, .int .i64 hi] 23)) := hw7.alloc hw7.size _
    refine (H6.out _ hw7a).mono ?_
    rintro e w8 ⟨rfl, hb8⟩
    obtain ⟨hc8, hf8⟩ := bcell hb8
    have hz8 := hb8.size
    simp at hz8
    have hw8 := hw7a.trans (hb8.mono hw7a.size)
    have t0 : w8.cell? ⟨w7.heap.size, 0, none⟩ = some (.int .i64 lo) := (hc8 _ _ (by simp)).trans (by go_simp)
    have t1 : w8.cell? ⟨w7.heap.size, 1, none⟩ = some (.int .i64 hi) := (hc8 _ _ (by simp)).trans (by go_simp)
    clear hb8 hw7a hc1 hf1 hc2 hf2 hc3 hf3 hc4 hf4 hc5 hf5 hc6 hf6 hc7 hf7 hc8 hf8
    try (obtain ⟨k5a, k5b, k5c, k5d, k5e⟩ := k5)
    try (obtain ⟨k6a, rfl⟩ := k6)
    first
      | (have HWi := Lib.hid (fun w2 => Within_is m lo hi true (by simp [btw]; omega) w2)
         have hdm : (m == 100000) = false := by simp; omega
         clear hd2
         go_wp2_with fail
         refine (HWi.out _).mono ?_
         rintro e w9 ⟨rfl, rfl⟩
         go_wp2_with fail
         refine (HW.out _).mono ?_
         rintro e w10 ⟨rfl, hb10⟩
         have hw10 := hw8.trans (hb10.mono hw8.size)
         clear hb10
         go_wp2_with fail
         go_ret
         exact ⟨rfl, hw10⟩)
      | (go_wp2_with fail
         refine (HW.out _).mono ?_
         rintro e w10 ⟨rfl, hb10⟩
         have hw10 := hw8.trans (hb10.mono hw8.size)
         clear hb10
         go_wp2_with fail
         go_ret
         exact ⟨rfl, hw10⟩)
  · go_wp2_with fail
    refine (HW.out _).mono ?_; rintro e w3 ⟨rfl, hb3⟩; obtain ⟨hc3, hf3⟩ := bcell hb3; have hz3 := hb3.size; (try simp at hz3); have hw3 := ((by repeat (first | assumption | exact Below.refl _ _ | (refine Below.alloc ?_ (by first | omega | (simp; omega) | simp) _) | (refine Below.setCell ?_ (by first | omega | (simp; omega) | simp) _) | refine Below.drew ?_)) : Below w.heap.size w _).trans (hb3.mono (by first | (simp; done) | (simp; omega) | omega)); clear hb3; have p3 : w.heap.size < w3.heap.size := (by omega); have r3 : w.heap.size + 1 < w3.heap.size := (by omega); go_wp2_with fail
    go_ret
    exact ⟨rfl, (by repeat (first | assumption | exact Below.refl _ _ | (refine Below.alloc ?_ (by first | omega | (simp; omega) | simp) _) | (refine Below.setCell ?_ (by first | omega | (simp; omega) | simp) _) | refine Below.drew ?_))⟩
set_option maxRecDepth 100000 in
set_option maxHeartbeats 8000000 in
theorem analysis_cheap (s : Shop) (a : Option Addr) (len cap : Nat) (ta tb : Int) (w : World) (hp : PigsAt w a len s.pigs) (hr : s.ok = true) (ht : truthB s ta tb = true) (hkc : s.knownCode = 0) (hwc : s.worthOf.2 = 3) :
    Calls Try.prog 14 #[.agg #[.int .i64 s.P, .int .i64 s.tl, .int .i64 s.th, .int .i64 s.al, .int .i64 s.ah, .int .i64 s.room, .int .i64 s.xl, .int .i64 s.xh, .int .i64 s.yl, .int .i64 s.yh, .slice a len cap], .agg #[.int .i64 ta, .int .i64 tb]] w fun e w' => e = .returned (.bool true) ∧ Below w.heap.size w w' := by
  have HR := Lib.hid (fun w1 (hb : Below w.heap.size w w1) => ready_is s a len cap true hr w1 (hp.below hb))
  have HF := Lib.hid (fun w1 (hb : Below w.heap.size w w1) => Far_any s a len cap w1 (hp.below hb))
  have H1 := Lib.hid (fun w1 => isTruth_is s a len cap ta tb true ht w1)
  have HW := Lib.hid (fun w1 => works_any w1)
  have hl4 : len ≤ 4 := by have := Shop.ok_bd hr; have := hp.1; omega
  obtain ⟨lo, hi, hcells, hana⟩ := ana_ok hr ht
  obtain ⟨hin, hi1, hi2⟩ := truth_in ht
  have hno := narrow_ok s ta ta tb tb hi1 hi2 hr
  have H2 := Lib.hid (fun w1 (hb : Below w.heap.size w w1) => cheap_any s a len cap w1 (hp.below hb) hr)
  have H3 := Lib.hid (fun w1 (hb : Below w.heap.size w w1) => InTruth_any s a len cap ta tb w1 (hp.below hb) (by omega))
  have H4 := Lib.hid (fun a' cap' w1 (hp' : PigsAt w1 a' len s.pigs) => cheap_any (s.narrow ta ta tb tb) a' len cap' w1 hp' hno)
  have H5 := Lib.hid (fun w1 (hb : Below w.heap.size w w1) => Known_is s a len cap lo hi 0 w1 (hp.below hb) ⟨hcells, hkc⟩)
  have H6 := fun w1 (hb : Below w.heap.size w w1) => Worth_any s a len cap w1 (hp.below hb)
  rw [hwc] at H6
  replace H6 := Lib.hid H6
  rw [hkc, hwc] at hana
  obtain ⟨k1, k2, k3, k4, k5, k6, k7⟩ := hana
  generalize (s.narrow ta ta tb tb).costN 0 = m at *
  generalize s.costN 0 = n at *
  generalize s.worthOf.1 = wo at *
  dsimp only [Shop.narrow] at H4
  simp at k3 k4 k5 k6
  have hd : decide (n < 100000) = (3 == (0 : Int)) := by first | (simp; omega) | (rw [decide_eq_false (by omega)]; rfl) | (rw [decide_eq_true (by omega)]; rfl)
  have hd2 : m = 100000 ∨ (m == 100000) = false := by
    by_cases h : m = 100000
    · exact .inl h
    · exact .inr (by simpa using h)
  clear hp hr ht hkc hwc hcells hin hi1 hi2 hno k2
  simp at hd
  go_enter Try.func14, Try.ntmps14
  go_wp2_with fail
  refine (HF.out _ (by repeat (first | exact Below.refl _ _ | (refine Below.alloc ?_ (by first | omega | (simp; omega) | simp) _) | (refine Below.setCell ?_ (by first | omega | (simp; omega) | simp) _) | refine Below.drew ?_))).mono ?_
  rintro e w1 ⟨b, rfl, hb1⟩
  obtain ⟨hc1, hf1⟩ := bcell hb1
  have hz1 := hb1.size
  simp at hz1
  have hw1 := ((by repeat (first | exact Below.refl _ _ | (refine Below.alloc ?_ (by first | omega | (simp; omega) | simp) _) | (refine Below.setCell ?_ (by first | omega | (simp; omega) | simp) _) | refine Below.drew ?_)) : Below w.heap.size w _).trans (hb1.mono (by first | (simp; done) | (simp; omega) | omega))
  clear hb1
  have p1 : w.heap.size < w1.heap.size := by omega
  have r1 : w.heap.size + 1 < w1.heap.size := by omega
  cases b
  · go_wp2_with fail
    refine (HR.out _ hw1).mono ?_; rintro e w2 ⟨rfl, hb2⟩; obtain ⟨hc2, hf2⟩ := bcell hb2; have hz2 := hb2.size; (try simp at hz2); have hw2 := ((by repeat (first | assumption | exact Below.refl _ _ | (refine Below.alloc ?_ (by first | omega | (simp; omega) | simp) _) | (refine Below.setCell ?_ (by first | omega | (simp; omega) | simp) _) | refine Below.drew ?_)) : Below w.heap.size w _).trans (hb2.mono (by first | (simp; done) | (simp; omega) | omega)); clear hb2; have p2 : w.heap.size < w2.heap.size := (by omega); have r2 : w.heap.size + 1 < w2.heap.size := (by omega); go_wp2_with fail
    refine (H1.out _).mono ?_; rintro e w3 ⟨rfl, hb3⟩; obtain ⟨hc3, hf3⟩ := bcell hb3; have hz3 := hb3.size; (try simp at hz3); have hw3 := ((by repeat (first | assumption | exact Below.refl _ _ | (refine Below.alloc ?_ (by first | omega | (simp; omega) | simp) _) | (refine Below.setCell ?_ (by first | omega | (simp; omega) | simp) _) | refine Below.drew ?_)) : Below w.heap.size w _).trans (hb3.mono (by first | (simp; done) | (simp; omega) | omega)); clear hb3; have p3 : w.heap.size < w3.heap.size := (by omega); have r3 : w.heap.size + 1 < w3.heap.size := (by omega); go_wp2_with fail
    refine (H2.out _ hw3).mono ?_; rintro e w4 ⟨rfl, hb4⟩; obtain ⟨hc4, hf4⟩ := bcell hb4; have hz4 := hb4.size; (try simp at hz4); have hw4 := ((by repeat (first | assumption | exact Below.refl _ _ | (refine Below.alloc ?_ (by first | omega | (simp; omega) | simp) _) | (refine Below.setCell ?_ (by first | omega | (simp; omega) | simp) _) | refine Below.drew ?_)) : Below w.heap.size w _).trans (hb4.mono (by first | (simp; done) | (simp; omega) | omega)); clear hb4; have p4 : w.heap.size < w4.heap.size := (by omega); have r4 : w.heap.size + 1 < w4.heap.size := (by omega); go_wp2_with fail
    refine (H3.out _ hw4).mono ?_
    rintro e w5 ⟨a', cap', rfl, hP5, hb5⟩
    obtain ⟨hc5, hf5⟩ := bcell hb5
    have hz5 := hb5.size
    have hw5 := hw4.trans (hb5.mono hw4.size)
    have p5 : w.heap.size < w5.heap.size := by omega
    have r5 : w.heap.size + 1 < w5.heap.size := by omega
    have HP5 := Lib.hid hP5
    clear hb5 hP5
    go_wp2_with fail
    refine (H4.out _ _ _ HP5.out).mono ?_
    rintro e w6 ⟨rfl, hb6⟩
    obtain ⟨hc6, hf6⟩ := bcell hb6
    have hz6 := hb6.size
    have hw6 := hw5.trans (hb6.mono hw5.size)
    have p6 : w.heap.size < w6.heap.size := by omega
    have r6 : w.heap.size + 1 < w6.heap.size := by omega
    clear hb6
    go_wp2_with fail
    refine (H5.out _ hw6).mono ?_
    rintro e w7 ⟨rfl, hb7⟩
    obtain ⟨hc7, hf7⟩ := bcell hb7
    have hz7 := hb7.size
    have hw7 := hw6.trans (hb7.mono hw6.size)
    have p7 : w.heap.size < w7.heap.size := by omega
    have r7 : w.heap.size + 1 < w7.heap.size := by omega
    clear hb7
    go_wp2_with fail
    have hw7a : Below w.heap.size w (w7.alloc (.cells #[.int .i64 lo, .int .i64 hi] 23)) := hw7.alloc hw7.size _
    refine (H6.out _ hw7a).mono ?_
    rintro e w8 ⟨rfl, hb8⟩
    obtain ⟨hc8, hf8⟩ := bcell hb8
    have hz8 := hb8.size
    simp at hz8
    have hw8 := hw7a.trans (hb8.mono hw7a.size)
    have t0 : w8.cell? ⟨w7.heap.size, 0, none⟩ = some (.int .i64 lo) := (hc8 _ _ (by simp)).trans (by go_simp)
    have t1 : w8.cell? ⟨w7.heap.size, 1, none⟩ = some (.int .i64 hi) := (hc8 _ _ (by simp)).trans (by go_simp)
    clear hb8 hw7a hc1 hf1 hc2 hf2 hc3 hf3 hc4 hf4 hc5 hf5 hc6 hf6 hc7 hf7 hc8 hf8
    try (obtain ⟨k5a, k5b, k5c, k5d, k5e⟩ := k5)
    try (obtain ⟨k6a, rfl⟩ := k6)
    first
      | (have HWi := Lib.hid (fun w2 => Within_is m lo hi true (by simp [btw]; omega) w2)
         have hdm : (m == 100000) = false := by simp; omega
         clear hd2
         go_wp2_with fail
         refine (HWi.out _).mono ?_
         rintro e w9 ⟨rfl, rfl⟩
         go_wp2_with fail
         refine (HW.out _).mono ?_
         rintro e w10 ⟨rfl, hb10⟩
         have hw10 := hw8.trans (hb10.mono hw8.size)
         clear hb10
         go_wp2_with fail
         go_ret
         exact ⟨rfl, hw10⟩)
      | (go_wp2_with fail
         refine (HW.out _).mono ?_
         rintro e w10 ⟨rfl, hb10⟩
         have hw10 := hw8.trans (hb10.mono hw8.size)
         clear hb10
         go_wp2_with fail
         go_ret
         exact ⟨rfl, hw10⟩)
  · go_wp2_with fail
    refine (HW.out _).mono ?_; rintro e w3 ⟨rfl, hb3⟩; obtain ⟨hc3, hf3⟩ := bcell hb3; have hz3 := hb3.size; (try simp at hz3); have hw3 := ((by repeat (first | assumption | exact Below.refl _ _ | (refine Below.alloc ?_ (by first | omega | (simp; omega) | simp) _) | (refine Below.setCell ?_ (by first | omega | (simp; omega) | simp) _) | refine Below.drew ?_)) : Below w.heap.size w _).trans (hb3.mono (by first | (simp; done) | (simp; omega) | omega)); clear hb3; have p3 : w.heap.size < w3.heap.size := (by omega); have r3 : w.heap.size + 1 < w3.heap.size := (by omega); go_wp2_with fail
    go_ret
    exact ⟨rfl, (by repeat (first | assumption | exact Below.refl _ _ | (refine Below.alloc ?_ (by first | omega | (simp; omega) | simp) _) | (refine Below.setCell ?_ (by first | omega | (simp; omega) | simp) _) | refine Below.drew ?_))⟩
set_option maxRecDepth 100000 in
set_option maxHeartbeats 8000000 in
theorem analysis_none (s : Shop) (a : Option Addr) (len cap : Nat) (ta tb : Int) (w : World) (hp : PigsAt w a len s.pigs) (hr : s.ok = true) (ht : truthB s ta tb = true) (hkc : s.knownCode = 3) (hwc : s.worthOf.2 = 3) :
    Calls Try.prog 14 #[.agg #[.int .i64 s.P, .int .i64 s.tl, .int .i64 s.th, .int .i64 s.al, .int .i64 s.ah, .int .i64 s.room, .int .i64 s.xl, .int .i64 s.xh, .int .i64 s.yl, .int .i64 s.yh, .slice a len cap], .agg #[.int .i64 ta, .int .i64 tb]] w fun e w' => e = .returned (.bool true) ∧ Below w.heap.size w w' := by
  have HR := Lib.hid (fun w1 (hb : Below w.heap.size w w1) => ready_is s a len cap true hr w1 (hp.below hb))
  have HF := Lib.hid (fun w1 (hb : Below w.heap.size w w1) => Far_any s a len cap w1 (hp.below hb))
  have H1 := Lib.hid (fun w1 => isTruth_is s a len cap ta tb true ht w1)
  have HW := Lib.hid (fun w1 => works_any w1)
  have hl4 : len ≤ 4 := by have := Shop.ok_bd hr; have := hp.1; omega
  obtain ⟨lo, hi, hcells, hana⟩ := ana_ok hr ht
  obtain ⟨hin, hi1, hi2⟩ := truth_in ht
  have hno := narrow_ok s ta ta tb tb hi1 hi2 hr
  have H2 := Lib.hid (fun w1 (hb : Below w.heap.size w w1) => cheap_any s a len cap w1 (hp.below hb) hr)
  have H3 := Lib.hid (fun w1 (hb : Below w.heap.size w w1) => InTruth_any s a len cap ta tb w1 (hp.below hb) (by omega))
  have H4 := Lib.hid (fun a' cap' w1 (hp' : PigsAt w1 a' len s.pigs) => cheap_any (s.narrow ta ta tb tb) a' len cap' w1 hp' hno)
  have H5 := Lib.hid (fun w1 (hb : Below w.heap.size w w1) => Known_is s a len cap lo hi 3 w1 (hp.below hb) ⟨hcells, hkc⟩)
  have H6 := fun w1 (hb : Below w.heap.size w w1) => Worth_any s a len cap w1 (hp.below hb)
  rw [hwc] at H6
  replace H6 := Lib.hid H6
  rw [hkc, hwc] at hana
  obtain ⟨k1, k2, k3, k4, k5, k6, k7⟩ := hana
  generalize (s.narrow ta ta tb tb).costN 0 = m at *
  generalize s.costN 0 = n at *
  generalize s.worthOf.1 = wo at *
  dsimp only [Shop.narrow] at H4
  simp at k3 k4 k5 k6
  have hd : decide (n < 100000) = (3 == (0 : Int)) := by first | (simp; omega) | (rw [decide_eq_false (by omega)]; rfl) | (rw [decide_eq_true (by omega)]; rfl)
  have hd2 : m = 100000 ∨ (m == 100000) = false := by
    by_cases h : m = 100000
    · exact .inl h
    · exact .inr (by simpa using h)
  clear hp hr ht hkc hwc hcells hin hi1 hi2 hno k2
  simp at hd
  go_enter Try.func14, Try.ntmps14
  go_wp2_with fail
  refine (HF.out _ (by repeat (first | exact Below.refl _ _ | (refine Below.alloc ?_ (by first | omega | (simp; omega) | simp) _) | (refine Below.setCell ?_ (by first | omega | (simp; omega) | simp) _) | refine Below.drew ?_))).mono ?_
  rintro e w1 ⟨b, rfl, hb1⟩
  obtain ⟨hc1, hf1⟩ := bcell hb1
  have hz1 := hb1.size
  simp at hz1
  have hw1 := ((by repeat (first | exact Below.refl _ _ | (refine Below.alloc ?_ (by first | omega | (simp; omega) | simp) _) | (refine Below.setCell ?_ (by first | omega | (simp; omega) | simp) _) | refine Below.drew ?_)) : Below w.heap.size w _).trans (hb1.mono (by first | (simp; done) | (simp; omega) | omega))
  clear hb1
  have p1 : w.heap.size < w1.heap.size := by omega
  have r1 : w.heap.size + 1 < w1.heap.size := by omega
  cases b
  · go_wp2_with fail
    refine (HR.out _ hw1).mono ?_; rintro e w2 ⟨rfl, hb2⟩; obtain ⟨hc2, hf2⟩ := bcell hb2; have hz2 := hb2.size; (try simp at hz2); have hw2 := ((by repeat (first | assumption | exact Below.refl _ _ | (refine Below.alloc ?_ (by first | omega | (simp; omega) | simp) _) | (refine Below.setCell ?_ (by first | omega | (simp; omega) | simp) _) | refine Below.drew ?_)) : Below w.heap.size w _).trans (hb2.mono (by first | (simp; done) | (simp; omega) | omega)); clear hb2; have p2 : w.heap.size < w2.heap.size := (by omega); have r2 : w.heap.size + 1 < w2.heap.size := (by omega); go_wp2_with fail
    refine (H1.out _).mono ?_; rintro e w3 ⟨rfl, hb3⟩; obtain ⟨hc3, hf3⟩ := bcell hb3; have hz3 := hb3.size; (try simp at hz3); have hw3 := ((by repeat (first | assumption | exact Below.refl _ _ | (refine Below.alloc ?_ (by first | omega | (simp; omega) | simp) _) | (refine Below.setCell ?_ (by first | omega | (simp; omega) | simp) _) | refine Below.drew ?_)) : Below w.heap.size w _).trans (hb3.mono (by first | (simp; done) | (simp; omega) | omega)); clear hb3; have p3 : w.heap.size < w3.heap.size := (by omega); have r3 : w.heap.size + 1 < w3.heap.size := (by omega); go_wp2_with fail
    refine (H2.out _ hw3).mono ?_; rintro e w4 ⟨rfl, hb4⟩; obtain ⟨hc4, hf4⟩ := bcell hb4; have hz4 := hb4.size; (try simp at hz4); have hw4 := ((by repeat (first | assumption | exact Below.refl _ _ | (refine Below.alloc ?_ (by first | omega | (simp; omega) | simp) _) | (refine Below.setCell ?_ (by first | omega | (simp; omega) | simp) _) | refine Below.drew ?_)) : Below w.heap.size w _).trans (hb4.mono (by first | (simp; done) | (simp; omega) | omega)); clear hb4; have p4 : w.heap.size < w4.heap.size := (by omega); have r4 : w.heap.size + 1 < w4.heap.size := (by omega); go_wp2_with fail
    refine (H3.out _ hw4).mono ?_
    rintro e w5 ⟨a', cap', rfl, hP5, hb5⟩
    obtain ⟨hc5, hf5⟩ := bcell hb5
    have hz5 := hb5.size
    have hw5 := hw4.trans (hb5.mono hw4.size)
    have p5 : w.heap.size < w5.heap.size := by omega
    have r5 : w.heap.size + 1 < w5.heap.size := by omega
    have HP5 := Lib.hid hP5
    clear hb5 hP5
    go_wp2_with fail
    refine (H4.out _ _ _ HP5.out).mono ?_
    rintro e w6 ⟨rfl, hb6⟩
    obtain ⟨hc6, hf6⟩ := bcell hb6
    have hz6 := hb6.size
    have hw6 := hw5.trans (hb6.mono hw5.size)
    have p6 : w.heap.size < w6.heap.size := by omega
    have r6 : w.heap.size + 1 < w6.heap.size := by omega
    clear hb6
    go_wp2_with fail
    refine (H5.out _ hw6).mono ?_
    rintro e w7 ⟨rfl, hb7⟩
    obtain ⟨hc7, hf7⟩ := bcell hb7
    have hz7 := hb7.size
    have hw7 := hw6.trans (hb7.mono hw6.size)
    have p7 : w.heap.size < w7.heap.size := by omega
    have r7 : w.heap.size + 1 < w7.heap.size := by omega
    clear hb7
    go_wp2_with fail
    have hw7a : Below w.heap.size w (w7.alloc (.cells #[.int .i64 lo, .int .i64 hi] 23)) := hw7.alloc hw7.size _
    refine (H6.out _ hw7a).mono ?_
    rintro e w8 ⟨rfl, hb8⟩
    obtain ⟨hc8, hf8⟩ := bcell hb8
    have hz8 := hb8.size
    simp at hz8
    have hw8 := hw7a.trans (hb8.mono hw7a.size)
    have t0 : w8.cell? ⟨w7.heap.size, 0, none⟩ = some (.int .i64 lo) := (hc8 _ _ (by simp)).trans (by go_simp)
    have t1 : w8.cell? ⟨w7.heap.size, 1, none⟩ = some (.int .i64 hi) := (hc8 _ _ (by simp)).trans (by go_simp)
    clear hb8 hw7a hc1 hf1 hc2 hf2 hc3 hf3 hc4 hf4 hc5 hf5 hc6 hf6 hc7 hf7 hc8 hf8
    try (obtain ⟨k5a, k5b, k5c, k5d, k5e⟩ := k5)
    try (obtain ⟨k6a, rfl⟩ := k6)
    first
      | (have HWi := Lib.hid (fun w2 => Within_is m lo hi true (by simp [btw]; omega) w2)
         have hdm : (m == 100000) = false := by simp; omega
         clear hd2
         go_wp2_with fail
         refine (HWi.out _).mono ?_
         rintro e w9 ⟨rfl, rfl⟩
         go_wp2_with fail
         refine (HW.out _).mono ?_
         rintro e w10 ⟨rfl, hb10⟩
         have hw10 := hw8.trans (hb10.mono hw8.size)
         clear hb10
         go_wp2_with fail
         go_ret
         exact ⟨rfl, hw10⟩)
      | (go_wp2_with fail
         refine (HW.out _).mono ?_
         rintro e w10 ⟨rfl, hb10⟩
         have hw10 := hw8.trans (hb10.mono hw8.size)
         clear hb10
         go_wp2_with fail
         go_ret
         exact ⟨rfl, hw10⟩)
  · go_wp2_with fail
    refine (HW.out _).mono ?_; rintro e w3 ⟨rfl, hb3⟩; obtain ⟨hc3, hf3⟩ := bcell hb3; have hz3 := hb3.size; (try simp at hz3); have hw3 := ((by repeat (first | assumption | exact Below.refl _ _ | (refine Below.alloc ?_ (by first | omega | (simp; omega) | simp) _) | (refine Below.setCell ?_ (by first | omega | (simp; omega) | simp) _) | refine Below.drew ?_)) : Below w.heap.size w _).trans (hb3.mono (by first | (simp; done) | (simp; omega) | omega)); clear hb3; have p3 : w.heap.size < w3.heap.size := (by omega); have r3 : w.heap.size + 1 < w3.heap.size := (by omega); go_wp2_with fail
    go_ret
    exact ⟨rfl, (by repeat (first | assumption | exact Below.refl _ _ | (refine Below.alloc ?_ (by first | omega | (simp; omega) | simp) _) | (refine Below.setCell ?_ (by first | omega | (simp; omega) | simp) _) | refine Below.drew ?_))⟩
end Go.Proofs.Ytnlgchgpnfkjeaa
