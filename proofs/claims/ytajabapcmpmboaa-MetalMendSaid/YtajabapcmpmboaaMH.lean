/- MetalWider. -/
import Derived.Test.YtajabapcmpmboaaMG
namespace Go.Proofs.Ytajabapcmpmboaa
set_option linter.unusedVariables false
set_option linter.unusedSimpArgs false
open Go.RowKit

set_option maxHeartbeats 4000000 in
theorem wider_no1 (s : Shop) (a : Option Addr) (len cap : Nat) (b1 b2 c1 c2 : Int) (x : Option Addr) (xlen xcap : Nat) (ns : List Int) (w : World) (hp : PigsAt w a len s.pigs) (hx : IntsAt w x xlen ns) (hr : s.ok = false) (h1 : false = true → insideB s.xl s.xh b1 b2 = true) (h2 : false = true → true = true → insideB s.yl s.yh c1 c2 = true) :
    Calls Try.prog 9 #[.agg #[.int .i64 s.P, .int .i64 s.tl, .int .i64 s.th, .int .i64 s.al, .int .i64 s.ah, .int .i64 s.room, .int .i64 s.xl, .int .i64 s.xh, .int .i64 s.yl, .int .i64 s.yh, .slice a len cap], .agg #[.int .i64 b1, .int .i64 b2, .int .i64 c1, .int .i64 c2], .slice x xlen xcap] w fun e w' => e = .returned (.bool true) ∧ Below w.heap.size w w' := by
  have HR := Lib.hid (fun w1 (hb : Below w.heap.size w w1) => ready_is s a len cap false hr w1 (hp.below hb))
  have H1 := Lib.hid (fun (h : false = true) w1 => inside_is s.xl s.xh b1 b2 true (h1 h) w1)
  have H2 := Lib.hid (fun (h : false = true) (k : true = true) w1 => inside_is s.yl s.yh c1 c2 true (h2 h k) w1)
  have HW := Lib.hid (fun w1 => works_any w1)
  clear hp hr h1 h2 hx
  go_enter Try.func9, Try.ntmps9
  go_wp2_with fail
  refine (HR.out _ (by repeat (first | exact Below.refl _ _ | (refine Below.alloc ?_ (by first | omega | (simp; omega) | simp) _) | (refine Below.setCell ?_ (by first | omega | (simp; omega) | simp) _) | refine Below.drew ?_))).mono ?_; rintro e w1 ⟨rfl, hb1⟩; obtain ⟨hc1, hf1⟩ := bcell hb1; have hz1 := hb1.size; (try simp at hz1); have hw1 := ((by repeat (first | assumption | exact Below.refl _ _ | (refine Below.alloc ?_ (by first | omega | (simp; omega) | simp) _) | (refine Below.setCell ?_ (by first | omega | (simp; omega) | simp) _) | refine Below.drew ?_)) : Below w.heap.size w _).trans (hb1.mono (by first | (simp; done) | (simp; omega) | omega)); clear hb1; have p1 : w.heap.size < w1.heap.size := (by omega); have r1 : w.heap.size + 1 < w1.heap.size := (by omega); go_wp2_with fail
  first
    | refine (HW.out _).mono ?_; rintro e w2 ⟨rfl, hb2⟩; obtain ⟨hc2, hf2⟩ := bcell hb2; have hz2 := hb2.size; (try simp at hz2); have hw2 := ((by repeat (first | assumption | exact Below.refl _ _ | (refine Below.alloc ?_ (by first | omega | (simp; omega) | simp) _) | (refine Below.setCell ?_ (by first | omega | (simp; omega) | simp) _) | refine Below.drew ?_)) : Below w.heap.size w _).trans (hb2.mono (by first | (simp; done) | (simp; omega) | omega)); clear hb2; have p2 : w.heap.size < w2.heap.size := (by omega); have r2 : w.heap.size + 1 < w2.heap.size := (by omega); go_wp2_with fail
    | (refine (H1.out (by trivial) _).mono ?_; rintro e w3 ⟨rfl, hb3⟩; obtain ⟨hc3, hf3⟩ := bcell hb3; have hz3 := hb3.size; (try simp at hz3); have hw3 := ((by repeat (first | assumption | exact Below.refl _ _ | (refine Below.alloc ?_ (by first | omega | (simp; omega) | simp) _) | (refine Below.setCell ?_ (by first | omega | (simp; omega) | simp) _) | refine Below.drew ?_)) : Below w.heap.size w _).trans (hb3.mono (by first | (simp; done) | (simp; omega) | omega)); clear hb3; have p3 : w.heap.size < w3.heap.size := (by omega); have r3 : w.heap.size + 1 < w3.heap.size := (by omega); go_wp2_with fail
       first
         | refine (HW.out _).mono ?_; rintro e w4 ⟨rfl, hb4⟩; obtain ⟨hc4, hf4⟩ := bcell hb4; have hz4 := hb4.size; (try simp at hz4); have hw4 := ((by repeat (first | assumption | exact Below.refl _ _ | (refine Below.alloc ?_ (by first | omega | (simp; omega) | simp) _) | (refine Below.setCell ?_ (by first | omega | (simp; omega) | simp) _) | refine Below.drew ?_)) : Below w.heap.size w _).trans (hb4.mono (by first | (simp; done) | (simp; omega) | omega)); clear hb4; have p4 : w.heap.size < w4.heap.size := (by omega); have r4 : w.heap.size + 1 < w4.heap.size := (by omega); go_wp2_with fail
         | (refine (H2.out (by trivial) (by trivial) _).mono ?_; rintro e w5 ⟨rfl, hb5⟩; obtain ⟨hc5, hf5⟩ := bcell hb5; have hz5 := hb5.size; (try simp at hz5); have hw5 := ((by repeat (first | assumption | exact Below.refl _ _ | (refine Below.alloc ?_ (by first | omega | (simp; omega) | simp) _) | (refine Below.setCell ?_ (by first | omega | (simp; omega) | simp) _) | refine Below.drew ?_)) : Below w.heap.size w _).trans (hb5.mono (by first | (simp; done) | (simp; omega) | omega)); clear hb5; have p5 : w.heap.size < w5.heap.size := (by omega); have r5 : w.heap.size + 1 < w5.heap.size := (by omega); go_wp2_with fail
            refine (HW.out _).mono ?_; rintro e w6 ⟨rfl, hb6⟩; obtain ⟨hc6, hf6⟩ := bcell hb6; have hz6 := hb6.size; (try simp at hz6); have hw6 := ((by repeat (first | assumption | exact Below.refl _ _ | (refine Below.alloc ?_ (by first | omega | (simp; omega) | simp) _) | (refine Below.setCell ?_ (by first | omega | (simp; omega) | simp) _) | refine Below.drew ?_)) : Below w.heap.size w _).trans (hb6.mono (by first | (simp; done) | (simp; omega) | omega)); clear hb6; have p6 : w.heap.size < w6.heap.size := (by omega); have r6 : w.heap.size + 1 < w6.heap.size := (by omega); go_wp2_with fail))
  go_ret
  exact ⟨rfl, (by repeat (first | assumption | exact Below.refl _ _ | (refine Below.alloc ?_ (by first | omega | (simp; omega) | simp) _) | (refine Below.setCell ?_ (by first | omega | (simp; omega) | simp) _) | refine Below.drew ?_))⟩
set_option maxHeartbeats 4000000 in
theorem wider_no2 (s : Shop) (a : Option Addr) (len cap : Nat) (b1 b2 c1 c2 : Int) (x : Option Addr) (xlen xcap : Nat) (ns : List Int) (w : World) (hp : PigsAt w a len s.pigs) (hx : IntsAt w x xlen ns) (hr : s.ok = true) (h1 : true = true → insideB s.xl s.xh b1 b2 = false) (h2 : true = true → false = true → insideB s.yl s.yh c1 c2 = true) :
    Calls Try.prog 9 #[.agg #[.int .i64 s.P, .int .i64 s.tl, .int .i64 s.th, .int .i64 s.al, .int .i64 s.ah, .int .i64 s.room, .int .i64 s.xl, .int .i64 s.xh, .int .i64 s.yl, .int .i64 s.yh, .slice a len cap], .agg #[.int .i64 b1, .int .i64 b2, .int .i64 c1, .int .i64 c2], .slice x xlen xcap] w fun e w' => e = .returned (.bool true) ∧ Below w.heap.size w w' := by
  have HR := Lib.hid (fun w1 (hb : Below w.heap.size w w1) => ready_is s a len cap true hr w1 (hp.below hb))
  have H1 := Lib.hid (fun (h : true = true) w1 => inside_is s.xl s.xh b1 b2 false (h1 h) w1)
  have H2 := Lib.hid (fun (h : true = true) (k : false = true) w1 => inside_is s.yl s.yh c1 c2 true (h2 h k) w1)
  have HW := Lib.hid (fun w1 => works_any w1)
  clear hp hr h1 h2 hx
  go_enter Try.func9, Try.ntmps9
  go_wp2_with fail
  refine (HR.out _ (by repeat (first | exact Below.refl _ _ | (refine Below.alloc ?_ (by first | omega | (simp; omega) | simp) _) | (refine Below.setCell ?_ (by first | omega | (simp; omega) | simp) _) | refine Below.drew ?_))).mono ?_; rintro e w1 ⟨rfl, hb1⟩; obtain ⟨hc1, hf1⟩ := bcell hb1; have hz1 := hb1.size; (try simp at hz1); have hw1 := ((by repeat (first | assumption | exact Below.refl _ _ | (refine Below.alloc ?_ (by first | omega | (simp; omega) | simp) _) | (refine Below.setCell ?_ (by first | omega | (simp; omega) | simp) _) | refine Below.drew ?_)) : Below w.heap.size w _).trans (hb1.mono (by first | (simp; done) | (simp; omega) | omega)); clear hb1; have p1 : w.heap.size < w1.heap.size := (by omega); have r1 : w.heap.size + 1 < w1.heap.size := (by omega); go_wp2_with fail
  first
    | refine (HW.out _).mono ?_; rintro e w2 ⟨rfl, hb2⟩; obtain ⟨hc2, hf2⟩ := bcell hb2; have hz2 := hb2.size; (try simp at hz2); have hw2 := ((by repeat (first | assumption | exact Below.refl _ _ | (refine Below.alloc ?_ (by first | omega | (simp; omega) | simp) _) | (refine Below.setCell ?_ (by first | omega | (simp; omega) | simp) _) | refine Below.drew ?_)) : Below w.heap.size w _).trans (hb2.mono (by first | (simp; done) | (simp; omega) | omega)); clear hb2; have p2 : w.heap.size < w2.heap.size := (by omega); have r2 : w.heap.size + 1 < w2.heap.size := (by omega); go_wp2_with fail
    | (refine (H1.out (by trivial) _).mono ?_; rintro e w3 ⟨rfl, hb3⟩; obtain ⟨hc3, hf3⟩ := bcell hb3; have hz3 := hb3.size; (try simp at hz3); have hw3 := ((by repeat (first | assumption | exact Below.refl _ _ | (refine Below.alloc ?_ (by first | omega | (simp; omega) | simp) _) | (refine Below.setCell ?_ (by first | omega | (simp; omega) | simp) _) | refine Below.drew ?_)) : Below w.heap.size w _).trans (hb3.mono (by first | (simp; done) | (simp; omega) | omega)); clear hb3; have p3 : w.heap.size < w3.heap.size := (by omega); have r3 : w.heap.size + 1 < w3.heap.size := (by omega); go_wp2_with fail
       first
         | refine (HW.out _).mono ?_; rintro e w4 ⟨rfl, hb4⟩; obtain ⟨hc4, hf4⟩ := bcell hb4; have hz4 := hb4.size; (try simp at hz4); have hw4 := ((by repeat (first | assumption | exact Below.refl _ _ | (refine Below.alloc ?_ (by first | omega | (simp; omega) | simp) _) | (refine Below.setCell ?_ (by first | omega | (simp; omega) | simp) _) | refine Below.drew ?_)) : Below w.heap.size w _).trans (hb4.mono (by first | (simp; done) | (simp; omega) | omega)); clear hb4; have p4 : w.heap.size < w4.heap.size := (by omega); have r4 : w.heap.size + 1 < w4.heap.size := (by omega); go_wp2_with fail
         | (refine (H2.out (by trivial) (by trivial) _).mono ?_; rintro e w5 ⟨rfl, hb5⟩; obtain ⟨hc5, hf5⟩ := bcell hb5; have hz5 := hb5.size; (try simp at hz5); have hw5 := ((by repeat (first | assumption | exact Below.refl _ _ | (refine Below.alloc ?_ (by first | omega | (simp; omega) | simp) _) | (refine Below.setCell ?_ (by first | omega | (simp; omega) | simp) _) | refine Below.drew ?_)) : Below w.heap.size w _).trans (hb5.mono (by first | (simp; done) | (simp; omega) | omega)); clear hb5; have p5 : w.heap.size < w5.heap.size := (by omega); have r5 : w.heap.size + 1 < w5.heap.size := (by omega); go_wp2_with fail
            refine (HW.out _).mono ?_; rintro e w6 ⟨rfl, hb6⟩; obtain ⟨hc6, hf6⟩ := bcell hb6; have hz6 := hb6.size; (try simp at hz6); have hw6 := ((by repeat (first | assumption | exact Below.refl _ _ | (refine Below.alloc ?_ (by first | omega | (simp; omega) | simp) _) | (refine Below.setCell ?_ (by first | omega | (simp; omega) | simp) _) | refine Below.drew ?_)) : Below w.heap.size w _).trans (hb6.mono (by first | (simp; done) | (simp; omega) | omega)); clear hb6; have p6 : w.heap.size < w6.heap.size := (by omega); have r6 : w.heap.size + 1 < w6.heap.size := (by omega); go_wp2_with fail))
  go_ret
  exact ⟨rfl, (by repeat (first | assumption | exact Below.refl _ _ | (refine Below.alloc ?_ (by first | omega | (simp; omega) | simp) _) | (refine Below.setCell ?_ (by first | omega | (simp; omega) | simp) _) | refine Below.drew ?_))⟩
set_option maxHeartbeats 4000000 in
theorem wider_no3 (s : Shop) (a : Option Addr) (len cap : Nat) (b1 b2 c1 c2 : Int) (x : Option Addr) (xlen xcap : Nat) (ns : List Int) (w : World) (hp : PigsAt w a len s.pigs) (hx : IntsAt w x xlen ns) (hr : s.ok = true) (h1 : true = true → insideB s.xl s.xh b1 b2 = true) (h2 : true = true → true = true → insideB s.yl s.yh c1 c2 = false) :
    Calls Try.prog 9 #[.agg #[.int .i64 s.P, .int .i64 s.tl, .int .i64 s.th, .int .i64 s.al, .int .i64 s.ah, .int .i64 s.room, .int .i64 s.xl, .int .i64 s.xh, .int .i64 s.yl, .int .i64 s.yh, .slice a len cap], .agg #[.int .i64 b1, .int .i64 b2, .int .i64 c1, .int .i64 c2], .slice x xlen xcap] w fun e w' => e = .returned (.bool true) ∧ Below w.heap.size w w' := by
  have HR := Lib.hid (fun w1 (hb : Below w.heap.size w w1) => ready_is s a len cap true hr w1 (hp.below hb))
  have H1 := Lib.hid (fun (h : true = true) w1 => inside_is s.xl s.xh b1 b2 true (h1 h) w1)
  have H2 := Lib.hid (fun (h : true = true) (k : true = true) w1 => inside_is s.yl s.yh c1 c2 false (h2 h k) w1)
  have HW := Lib.hid (fun w1 => works_any w1)
  clear hp hr h1 h2 hx
  go_enter Try.func9, Try.ntmps9
  go_wp2_with fail
  refine (HR.out _ (by repeat (first | exact Below.refl _ _ | (refine Below.alloc ?_ (by first | omega | (simp; omega) | simp) _) | (refine Below.setCell ?_ (by first | omega | (simp; omega) | simp) _) | refine Below.drew ?_))).mono ?_; rintro e w1 ⟨rfl, hb1⟩; obtain ⟨hc1, hf1⟩ := bcell hb1; have hz1 := hb1.size; (try simp at hz1); have hw1 := ((by repeat (first | assumption | exact Below.refl _ _ | (refine Below.alloc ?_ (by first | omega | (simp; omega) | simp) _) | (refine Below.setCell ?_ (by first | omega | (simp; omega) | simp) _) | refine Below.drew ?_)) : Below w.heap.size w _).trans (hb1.mono (by first | (simp; done) | (simp; omega) | omega)); clear hb1; have p1 : w.heap.size < w1.heap.size := (by omega); have r1 : w.heap.size + 1 < w1.heap.size := (by omega); go_wp2_with fail
  first
    | refine (HW.out _).mono ?_; rintro e w2 ⟨rfl, hb2⟩; obtain ⟨hc2, hf2⟩ := bcell hb2; have hz2 := hb2.size; (try simp at hz2); have hw2 := ((by repeat (first | assumption | exact Below.refl _ _ | (refine Below.alloc ?_ (by first | omega | (simp; omega) | simp) _) | (refine Below.setCell ?_ (by first | omega | (simp; omega) | simp) _) | refine Below.drew ?_)) : Below w.heap.size w _).trans (hb2.mono (by first | (simp; done) | (simp; omega) | omega)); clear hb2; have p2 : w.heap.size < w2.heap.size := (by omega); have r2 : w.heap.size + 1 < w2.heap.size := (by omega); go_wp2_with fail
    | (refine (H1.out (by trivial) _).mono ?_; rintro e w3 ⟨rfl, hb3⟩; obtain ⟨hc3, hf3⟩ := bcell hb3; have hz3 := hb3.size; (try simp at hz3); have hw3 := ((by repeat (first | assumption | exact Below.refl _ _ | (refine Below.alloc ?_ (by first | omega | (simp; omega) | simp) _) | (refine Below.setCell ?_ (by first | omega | (simp; omega) | simp) _) | refine Below.drew ?_)) : Below w.heap.size w _).trans (hb3.mono (by first | (simp; done) | (simp; omega) | omega)); clear hb3; have p3 : w.heap.size < w3.heap.size := (by omega); have r3 : w.heap.size + 1 < w3.heap.size := (by omega); go_wp2_with fail
       first
         | refine (HW.out _).mono ?_; rintro e w4 ⟨rfl, hb4⟩; obtain ⟨hc4, hf4⟩ := bcell hb4; have hz4 := hb4.size; (try simp at hz4); have hw4 := ((by repeat (first | assumption | exact Below.refl _ _ | (refine Below.alloc ?_ (by first | omega | (simp; omega) | simp) _) | (refine Below.setCell ?_ (by first | omega | (simp; omega) | simp) _) | refine Below.drew ?_)) : Below w.heap.size w _).trans (hb4.mono (by first | (simp; done) | (simp; omega) | omega)); clear hb4; have p4 : w.heap.size < w4.heap.size := (by omega); have r4 : w.heap.size + 1 < w4.heap.size := (by omega); go_wp2_with fail
         | (refine (H2.out (by trivial) (by trivial) _).mono ?_; rintro e w5 ⟨rfl, hb5⟩; obtain ⟨hc5, hf5⟩ := bcell hb5; have hz5 := hb5.size; (try simp at hz5); have hw5 := ((by repeat (first | assumption | exact Below.refl _ _ | (refine Below.alloc ?_ (by first | omega | (simp; omega) | simp) _) | (refine Below.setCell ?_ (by first | omega | (simp; omega) | simp) _) | refine Below.drew ?_)) : Below w.heap.size w _).trans (hb5.mono (by first | (simp; done) | (simp; omega) | omega)); clear hb5; have p5 : w.heap.size < w5.heap.size := (by omega); have r5 : w.heap.size + 1 < w5.heap.size := (by omega); go_wp2_with fail
            refine (HW.out _).mono ?_; rintro e w6 ⟨rfl, hb6⟩; obtain ⟨hc6, hf6⟩ := bcell hb6; have hz6 := hb6.size; (try simp at hz6); have hw6 := ((by repeat (first | assumption | exact Below.refl _ _ | (refine Below.alloc ?_ (by first | omega | (simp; omega) | simp) _) | (refine Below.setCell ?_ (by first | omega | (simp; omega) | simp) _) | refine Below.drew ?_)) : Below w.heap.size w _).trans (hb6.mono (by first | (simp; done) | (simp; omega) | omega)); clear hb6; have p6 : w.heap.size < w6.heap.size := (by omega); have r6 : w.heap.size + 1 < w6.heap.size := (by omega); go_wp2_with fail))
  go_ret
  exact ⟨rfl, (by repeat (first | assumption | exact Below.refl _ _ | (refine Below.alloc ?_ (by first | omega | (simp; omega) | simp) _) | (refine Below.setCell ?_ (by first | omega | (simp; omega) | simp) _) | refine Below.drew ?_))⟩

set_option maxHeartbeats 4000000 in
theorem wider_no4 (s : Shop) (a : Option Addr) (len cap : Nat) (b1 b2 c1 c2 : Int) (x : Option Addr) (xlen xcap : Nat) (ns : List Int) (w : World) (hp : PigsAt w a len s.pigs) (hx : IntsAt w x xlen ns) (hr : s.ok = true) (h1 : insideB s.xl s.xh b1 b2 = true) (h2 : insideB s.yl s.yh c1 c2 = true) (ho : (s.wide b1 b2 c1 c2).ok = false) :
    Calls Try.prog 9 #[.agg #[.int .i64 s.P, .int .i64 s.tl, .int .i64 s.th, .int .i64 s.al, .int .i64 s.ah, .int .i64 s.room, .int .i64 s.xl, .int .i64 s.xh, .int .i64 s.yl, .int .i64 s.yh, .slice a len cap], .agg #[.int .i64 b1, .int .i64 b2, .int .i64 c1, .int .i64 c2], .slice x xlen xcap] w fun e w' => e = .returned (.bool true) ∧ Below w.heap.size w w' := by
  have HR := Lib.hid (fun w1 (hb : Below w.heap.size w w1) => ready_is s a len cap true hr w1 (hp.below hb))
  have H1 := Lib.hid (fun w1 => inside_is s.xl s.xh b1 b2 true h1 w1)
  have H2 := Lib.hid (fun w1 => inside_is s.yl s.yh c1 c2 true h2 w1)
  have hl4 : len ≤ 4 := by have := Shop.ok_bd hr; have := hp.1; omega
  have HC := Lib.hid (fun w1 (hb : Below w.heap.size w w1) => Copy_any s a len cap w1 (hp.below hb) (by omega))
  have HW := Lib.hid (fun w1 => works_any w1)
  have HK := Lib.hid (fun a' cap' w1 (hp' : PigsAt w1 a' len s.pigs) => ready_is (s.wide b1 b2 c1 c2) a' len cap' false ho w1 hp')
  have hm : len ≤ maxLen := hp.2.1
  clear hp hr h1 h2 hx ho
  unfold Shop.wide at HK
  dsimp only at HK
  go_enter Try.func9, Try.ntmps9
  go_wp2_with fail
  refine (HR.out _ (by repeat (first | exact Below.refl _ _ | (refine Below.alloc ?_ (by first | omega | (simp; omega) | simp) _) | (refine Below.setCell ?_ (by first | omega | (simp; omega) | simp) _) | refine Below.drew ?_))).mono ?_; rintro e w1 ⟨rfl, hb1⟩; obtain ⟨hc1, hf1⟩ := bcell hb1; have hz1 := hb1.size; (try simp at hz1); have hw1 := ((by repeat (first | assumption | exact Below.refl _ _ | (refine Below.alloc ?_ (by first | omega | (simp; omega) | simp) _) | (refine Below.setCell ?_ (by first | omega | (simp; omega) | simp) _) | refine Below.drew ?_)) : Below w.heap.size w _).trans (hb1.mono (by first | (simp; done) | (simp; omega) | omega)); clear hb1; have p1 : w.heap.size < w1.heap.size := (by omega); have r1 : w.heap.size + 1 < w1.heap.size := (by omega); go_wp2_with fail
  refine (H1.out _).mono ?_; rintro e w2 ⟨rfl, hb2⟩; obtain ⟨hc2, hf2⟩ := bcell hb2; have hz2 := hb2.size; (try simp at hz2); have hw2 := ((by repeat (first | assumption | exact Below.refl _ _ | (refine Below.alloc ?_ (by first | omega | (simp; omega) | simp) _) | (refine Below.setCell ?_ (by first | omega | (simp; omega) | simp) _) | refine Below.drew ?_)) : Below w.heap.size w _).trans (hb2.mono (by first | (simp; done) | (simp; omega) | omega)); clear hb2; have p2 : w.heap.size < w2.heap.size := (by omega); have r2 : w.heap.size + 1 < w2.heap.size := (by omega); go_wp2_with fail
  refine (H2.out _).mono ?_; rintro e w3 ⟨rfl, hb3⟩; obtain ⟨hc3, hf3⟩ := bcell hb3; have hz3 := hb3.size; (try simp at hz3); have hw3 := ((by repeat (first | assumption | exact Below.refl _ _ | (refine Below.alloc ?_ (by first | omega | (simp; omega) | simp) _) | (refine Below.setCell ?_ (by first | omega | (simp; omega) | simp) _) | refine Below.drew ?_)) : Below w.heap.size w _).trans (hb3.mono (by first | (simp; done) | (simp; omega) | omega)); clear hb3; have p3 : w.heap.size < w3.heap.size := (by omega); have r3 : w.heap.size + 1 < w3.heap.size := (by omega); go_wp2_with fail
  refine (HC.out _ hw3).mono ?_
  rintro e w4 ⟨hb4, a', cap', rfl, hown⟩
  obtain ⟨hc4, hf4⟩ := bcell hb4
  have hz4 := hb4.size
  have hw4 := hw3.trans (hb4.mono (by first | (simp; done) | (simp; omega) | omega))
  have hP4 := (pigs_own hown hm).1
  clear hb4 hown
  have p4 : w.heap.size < w4.heap.size := by omega
  have r4 : w.heap.size + 1 < w4.heap.size := by omega
  have HP4 := Lib.hid (fun w5 (hb : Below w4.heap.size w4 w5) => hP4.below hb)
  clear hP4
  go_wp2_with fail
  go_region
  have hq4 : w.heap.size < w4.heap.size + 1 := by omega
  have hr4 : w.heap.size + 1 < w4.heap.size + 1 := by omega
  have hB4 : Below w4.heap.size w4 (w4.alloc (.cells #[.int .i64 s.P, .int .i64 s.tl, .int .i64 s.th, .int .i64 s.al, .int .i64 s.ah, .int .i64 s.room, .int .i64 b1, .int .i64 b2, .int .i64 c1, .int .i64 c2, .slice a' len cap'] 28)).drew := (by repeat (first | exact Below.refl _ _ | (refine Below.alloc ?_ (by first | omega | (simp; omega) | simp) _) | (refine Below.setCell ?_ (by first | omega | (simp; omega) | simp) _) | refine Below.drew ?_))
  have hW4 := hw4.trans (hB4.mono (Nat.le_of_lt p4))
  go_wp2_with fail
  refine (HK.out _ _ _ (HP4.out _ hB4)).mono ?_
  rintro e w5 ⟨rfl, hb5⟩
  obtain ⟨hc5, hf5⟩ := bcell hb5
  have hz5 := hb5.size
  simp at hz5
  have hw5 := hW4.trans (hb5.mono hW4.size)
  have hB5 := hB4.trans (hb5.mono hB4.size)
  clear hb5
  have p5 : w.heap.size < w5.heap.size := by omega
  have s5 : w4.heap.size < w5.heap.size := by omega
  go_wp2_with fail
  refine (HW.out _).mono ?_
  rintro e w6 ⟨rfl, hb6⟩
  have hw6 := hw5.trans (hb6.mono hw5.size)
  clear hb6
  go_wp2_with fail
  go_ret
  exact ⟨rfl, hw6⟩

set_option maxHeartbeats 4000000 in
theorem wider_notAdd (s : Shop) (a : Option Addr) (len cap : Nat) (b1 b2 c1 c2 : Int) (x : Option Addr) (xlen xcap : Nat) (ns : List Int) (w : World) (hp : PigsAt w a len s.pigs) (hx : IntsAt w x xlen ns) (hr : s.ok = true) (h1 : insideB s.xl s.xh b1 b2 = true) (h2 : insideB s.yl s.yh c1 c2 = true) (ho : (s.wide b1 b2 c1 c2).ok = true) (hn : s.isAdd ns = false) :
    Calls Try.prog 9 #[.agg #[.int .i64 s.P, .int .i64 s.tl, .int .i64 s.th, .int .i64 s.al, .int .i64 s.ah, .int .i64 s.room, .int .i64 s.xl, .int .i64 s.xh, .int .i64 s.yl, .int .i64 s.yh, .slice a len cap], .agg #[.int .i64 b1, .int .i64 b2, .int .i64 c1, .int .i64 c2], .slice x xlen xcap] w fun e w' => e = .returned (.bool true) ∧ Below w.heap.size w w' := by
  have HR := Lib.hid (fun w1 (hb : Below w.heap.size w w1) => ready_is s a len cap true hr w1 (hp.below hb))
  have H1 := Lib.hid (fun w1 => inside_is s.xl s.xh b1 b2 true h1 w1)
  have H2 := Lib.hid (fun w1 => inside_is s.yl s.yh c1 c2 true h2 w1)
  have hl4 : len ≤ 4 := by have := Shop.ok_bd hr; have := hp.1; omega
  have HC := Lib.hid (fun w1 (hb : Below w.heap.size w w1) => Copy_any s a len cap w1 (hp.below hb) (by omega))
  have HW := Lib.hid (fun w1 => works_any w1)
  have HK := Lib.hid (fun a' cap' w1 (hp' : PigsAt w1 a' len s.pigs) => ready_is (s.wide b1 b2 c1 c2) a' len cap' true ho w1 hp')
  have HL := Lib.hid (fun a' cap' w1 (hb : Below w.heap.size w w1) (hp' : PigsAt w1 a' len s.pigs) => (wide_less s b1 b2 c1 c2 h1 h2 hr ho) ▸ less_any (s.wide b1 b2 c1 c2) s a' len cap' a len cap w1 hp' (hp.below hb) ho hr)
  have HA := Lib.hid (fun w1 (hb : Below w.heap.size w w1) => hn ▸ isAddition_law s a len cap x xlen xcap ns w1 (hp.below hb) (hx.below hb) hr)
  have hm : len ≤ maxLen := hp.2.1
  clear hp hr h1 h2 hx ho hn
  unfold Shop.wide at HK HL
  dsimp only at HK HL
  go_enter Try.func9, Try.ntmps9
  go_wp2_with fail
  refine (HR.out _ (by repeat (first | exact Below.refl _ _ | (refine Below.alloc ?_ (by first | omega | (simp; omega) | simp) _) | (refine Below.setCell ?_ (by first | omega | (simp; omega) | simp) _) | refine Below.drew ?_))).mono ?_; rintro e w1 ⟨rfl, hb1⟩; obtain ⟨hc1, hf1⟩ := bcell hb1; have hz1 := hb1.size; (try simp at hz1); have hw1 := ((by repeat (first | assumption | exact Below.refl _ _ | (refine Below.alloc ?_ (by first | omega | (simp; omega) | simp) _) | (refine Below.setCell ?_ (by first | omega | (simp; omega) | simp) _) | refine Below.drew ?_)) : Below w.heap.size w _).trans (hb1.mono (by first | (simp; done) | (simp; omega) | omega)); clear hb1; have p1 : w.heap.size < w1.heap.size := (by omega); have r1 : w.heap.size + 1 < w1.heap.size := (by omega); go_wp2_with fail
  refine (H1.out _).mono ?_; rintro e w2 ⟨rfl, hb2⟩; obtain ⟨hc2, hf2⟩ := bcell hb2; have hz2 := hb2.size; (try simp at hz2); have hw2 := ((by repeat (first | assumption | exact Below.refl _ _ | (refine Below.alloc ?_ (by first | omega | (simp; omega) | simp) _) | (refine Below.setCell ?_ (by first | omega | (simp; omega) | simp) _) | refine Below.drew ?_)) : Below w.heap.size w _).trans (hb2.mono (by first | (simp; done) | (simp; omega) | omega)); clear hb2; have p2 : w.heap.size < w2.heap.size := (by omega); have r2 : w.heap.size + 1 < w2.heap.size := (by omega); go_wp2_with fail
  refine (H2.out _).mono ?_; rintro e w3 ⟨rfl, hb3⟩; obtain ⟨hc3, hf3⟩ := bcell hb3; have hz3 := hb3.size; (try simp at hz3); have hw3 := ((by repeat (first | assumption | exact Below.refl _ _ | (refine Below.alloc ?_ (by first | omega | (simp; omega) | simp) _) | (refine Below.setCell ?_ (by first | omega | (simp; omega) | simp) _) | refine Below.drew ?_)) : Below w.heap.size w _).trans (hb3.mono (by first | (simp; done) | (simp; omega) | omega)); clear hb3; have p3 : w.heap.size < w3.heap.size := (by omega); have r3 : w.heap.size + 1 < w3.heap.size := (by omega); go_wp2_with fail
  refine (HC.out _ hw3).mono ?_
  rintro e w4 ⟨hb4, a', cap', rfl, hown⟩
  obtain ⟨hc4, hf4⟩ := bcell hb4
  have hz4 := hb4.size
  have hw4 := hw3.trans (hb4.mono (by first | (simp; done) | (simp; omega) | omega))
  have hP4 := (pigs_own hown hm).1
  clear hb4 hown
  have p4 : w.heap.size < w4.heap.size := by omega
  have r4 : w.heap.size + 1 < w4.heap.size := by omega
  have HP4 := Lib.hid (fun w5 (hb : Below w4.heap.size w4 w5) => hP4.below hb)
  clear hP4
  go_wp2_with fail
  go_region
  have hq4 : w.heap.size < w4.heap.size + 1 := by omega
  have hr4 : w.heap.size + 1 < w4.heap.size + 1 := by omega
  have hB4 : Below w4.heap.size w4 (w4.alloc (.cells #[.int .i64 s.P, .int .i64 s.tl, .int .i64 s.th, .int .i64 s.al, .int .i64 s.ah, .int .i64 s.room, .int .i64 b1, .int .i64 b2, .int .i64 c1, .int .i64 c2, .slice a' len cap'] 28)).drew := (by repeat (first | exact Below.refl _ _ | (refine Below.alloc ?_ (by first | omega | (simp; omega) | simp) _) | (refine Below.setCell ?_ (by first | omega | (simp; omega) | simp) _) | refine Below.drew ?_))
  have hW4 := hw4.trans (hB4.mono (Nat.le_of_lt p4))
  go_wp2_with fail
  refine (HK.out _ _ _ (HP4.out _ hB4)).mono ?_
  rintro e w5 ⟨rfl, hb5⟩
  obtain ⟨hc5, hf5⟩ := bcell hb5
  have hz5 := hb5.size
  simp at hz5
  have hw5 := hW4.trans (hb5.mono hW4.size)
  have hB5 := hB4.trans (hb5.mono hB4.size)
  clear hb5
  have p5 : w.heap.size < w5.heap.size := by omega
  have s5 : w4.heap.size < w5.heap.size := by omega
  go_wp2_with fail
  refine (HL.out _ _ _ hw5 (HP4.out _ hB5)).mono ?_
  rintro e w6 ⟨rfl, hb6⟩
  obtain ⟨hc6, hf6⟩ := bcell hb6
  have hw6 := hw5.trans (hb6.mono hw5.size)
  have hB6 := hB5.trans (hb6.mono hB5.size)
  have p6 : w.heap.size < w6.heap.size := Nat.lt_of_lt_of_le p5 hb6.size
  have s6 : w4.heap.size < w6.heap.size := Nat.lt_of_lt_of_le s5 hb6.size
  clear hb6
  go_wp2_with fail
  refine (HA.out _ hw6).mono ?_
  rintro e w7 ⟨rfl, hb7⟩
  obtain ⟨hc7, hf7⟩ := bcell hb7
  have hw7 := hw6.trans (hb7.mono hw6.size)
  have hB7 := hB6.trans (hb7.mono hB6.size)
  have p7 : w.heap.size < w7.heap.size := Nat.lt_of_lt_of_le p6 hb7.size
  have s7 : w4.heap.size < w7.heap.size := Nat.lt_of_lt_of_le s6 hb7.size
  clear hb7
  go_wp2_with fail
  refine (HW.out _).mono ?_
  rintro e w8 ⟨rfl, hb8⟩
  have hw8 := hw7.trans (hb8.mono hw7.size)
  clear hb8
  go_wp2_with fail
  go_ret
  exact ⟨rfl, hw8⟩

end Go.Proofs.Ytajabapcmpmboaa
