/- MG MH MI, joined. -/
import Derived.Test.YtajabapcmpmboaaMD
import Derived.Test.YtajabapcmpmboaaME
import Derived.Deep.RegionLaw
/- Wider limits: what the least and what is bad do. -/
namespace Go.Proofs.Ytajabapcmpmboaa
set_option linter.unusedVariables false
set_option linter.unusedSimpArgs false
open Go.RowKit

/-- The shop with other limits. -/
def Shop.wide (s : Shop) (a b c d : Int) : Shop := { s with xl := a, xh := b, yl := c, yh := d }
theorem allowLo_mono {p a b : Int} (hp : 0 ≤ p) (h : a ≤ b) : allowLo p a ≤ allowLo p b := by
  have := Int.mul_le_mul_of_nonneg_left h hp
  unfold allowLo; omega
theorem allowHi_mono {p a b : Int} (hp : 0 ≤ p) (h : a ≤ b) : allowHi p a ≤ allowHi p b := by
  have := Int.mul_le_mul_of_nonneg_left h hp
  unfold allowHi; omega
theorem wide_safe (s : Shop) (a b c d : Int) (h1 : insideB s.xl s.xh a b = true) (h2 : insideB s.yl s.yh c d = true) (x : List Int) (hP : 0 ≤ s.P + tot Pig.P s.pigs x) (h : s.safeOf x = 1) : (s.wide a b c d).safeOf x = 1 := by
  simp only [insideB, decide_eq_true_eq] at h1 h2
  rw [safeOf_verdict, verdict_1] at h ⊢
  simp only [Shop.wide]
  have k1 := allowLo_mono hP h1.1
  have k2 := allowHi_mono hP h1.2.2
  have k3 := allowLo_mono hP h2.1
  have k4 := allowHi_mono hP h2.2.2
  omega
theorem adds_P {s : Shop} (ho : s.ok = true) {x : List Int} (hx : x ∈ s.adds) : 0 ≤ s.P + tot Pig.P s.pigs x := by
  have h2 := (List.mem_filter.1 hx).1
  have hl := allL_len _ _ h2
  simp only [Shop.most, List.length_map] at hl
  have := tot_all Pig.P bd_pounds s.pigs x (Shop.few_all ho h2) rfl hl
  have hbd := Shop.ok_bd ho
  omega
theorem wide_less (s : Shop) (a b c d : Int) (h1 : insideB s.xl s.xh a b = true) (h2 : insideB s.yl s.yh c d = true) (ho : s.ok = true) (hok : (s.wide a b c d).ok = true) : lessB (s.wide a b c d) s = true := by
  have key : ∀ f, f = 0 ∨ f = 1 → (s.wide a b c d).costN f ≤ s.costN f := fun f hf =>
    costN_le f (fun x _ => Int.le_refl _) (fun x h => h) (fun x hx h => wide_safe s a b c d h1 h2 x (adds_P ho hx) h) (best_fair hok f hf)
  simp [lessB, key]
theorem filter_len {α : Type} (p q : α → Bool) (h : ∀ x, p x = true → q x = true) : ∀ l : List α, (l.filter p).length ≤ (l.filter q).length
  | [] => Nat.le_refl _
  | x :: l => by
    have ih := filter_len p q h l
    rcases hp : p x with - | -
    · rw [List.filter_cons_of_neg (by simp [hp])]
      rcases hq : q x with - | -
      · rw [List.filter_cons_of_neg (by simp [hq])]; exact ih
      · rw [List.filter_cons_of_pos hq]; simp; omega
    · rw [List.filter_cons_of_pos hp, List.filter_cons_of_pos (h x hp)]; simp; omega
theorem wide_keeps (s : Shop) (a b c d : Int) (h1 : insideB s.xl s.xh a b = true) (h2 : insideB s.yl s.yh c d = true) (P tl th al ah : Int) (hP : 0 ≤ P) (l : Int) (h : keepsB s P tl th al ah l = true) : keepsB (s.wide a b c d) P tl th al ah l = true := by
  simp only [insideB, decide_eq_true_eq] at h1 h2
  have k1 := Int.mul_le_mul_of_nonneg_left h1.1 hP
  have k2 := Int.mul_le_mul_of_nonneg_left h1.2.2 hP
  have k3 := Int.mul_le_mul_of_nonneg_left h2.1 hP
  have k4 := Int.mul_le_mul_of_nonneg_left h2.2.2 hP
  unfold keepsB at h ⊢
  simp only [Shop.wide]
  split at h
  · rw [if_pos (by assumption)]; have h := of_decide_eq_true h; exact decide_eq_true (by omega)
  · rw [if_neg (by assumption)]
    split at h
    · rw [if_pos (by assumption)]; have h := of_decide_eq_true h; exact decide_eq_true (by omega)
    · rw [if_neg (by assumption)]
      split at h
      · rw [if_pos (by assumption)]; have h := of_decide_eq_true h; exact decide_eq_true (by omega)
      · rw [if_neg (by assumption)]; have h := of_decide_eq_true h; exact decide_eq_true (by omega)
theorem wide_bad (s : Shop) (a b c d : Int) (h1 : insideB s.xl s.xh a b = true) (h2 : insideB s.yl s.yh c d = true) (ns : List Int) (hP : 0 ≤ s.P + tot Pig.P s.pigs ns) (L : List Int) :
    ((s.wide a b c d).bad ns L).length ≤ (s.bad ns L).length ∧ (s.bad ns L).length ≤ L.length ∧ ∀ l ∈ (s.wide a b c d).bad ns L, l ∈ s.bad ns L := by
  have key : ∀ l, (!keepsB (s.wide a b c d) (s.P + tot Pig.P s.pigs ns) (s.tl + tot Pig.t s.pigs ns) (s.th + tot Pig.t s.pigs ns) (s.al + tot Pig.a s.pigs ns) (s.ah + tot Pig.a s.pigs ns) l) = true → (!keepsB s (s.P + tot Pig.P s.pigs ns) (s.tl + tot Pig.t s.pigs ns) (s.th + tot Pig.t s.pigs ns) (s.al + tot Pig.a s.pigs ns) (s.ah + tot Pig.a s.pigs ns) l) = true := fun l hl => by
    rcases h : keepsB s (s.P + tot Pig.P s.pigs ns) (s.tl + tot Pig.t s.pigs ns) (s.th + tot Pig.t s.pigs ns) (s.al + tot Pig.a s.pigs ns) (s.ah + tot Pig.a s.pigs ns) l with - | -
    · rfl
    · rw [wide_keeps s a b c d h1 h2 _ _ _ _ _ hP l h] at hl; exact hl
  refine ⟨filter_len _ _ key L, List.length_filter_le _ _, fun l hl => ?_⟩
  have := List.mem_filter.1 hl
  exact List.mem_filter.2 ⟨this.1, key l this.2⟩
/-- A slice of numbers that a call has made. -/
theorem row_ints {w : World} {n0 n : Nat} {v : Value} {xs : List Int} (h : w.ownsRow n0 3 1 v n (xs.map (Value.int .i64))) (hn : n ≤ maxLen) : ∃ a cap, v = .slice a n cap ∧ IntsAt w a n xs := by
  have h' := h
  rcases h.2 with ⟨h0, h1⟩ | ⟨g, cap, cur, hv, _⟩
  · subst h0; subst h1
    exact ⟨none, 0, rfl, by have := h.1; simp at this; exact ⟨by simp [this], by decide, fun h => by omega⟩⟩
  · subst hv
    exact ⟨_, cap, rfl, ints_own h' hn⟩
end Go.Proofs.Ytajabapcmpmboaa

/- MetalWider. -/
namespace Go.Proofs.Ytajabapcmpmboaa
set_option linter.unusedVariables false
set_option linter.unusedSimpArgs false
open Go.RowKit

set_option maxHeartbeats 4000000 in
theorem wider_no1 (s : Shop) (a : Option Addr) (len cap : Nat) (b1 b2 c1 c2 : Int) (x : Option Addr) (xlen xcap : Nat) (ns : List Int) (w : World) (hp : PigsAt w a len s.pigs) (hx : IntsAt w x xlen ns) (hr : s.ok = false) (h1 : false = true → insideB s.xl s.xh b1 b2 = true) (h2 : false = true → true = true → insideB s.yl s.yh c1 c2 = true) :
    Calls Try.prog 9 #[.agg #[.int .i64 s.P, .int .i64 s.tl, .int .i64 s.th, .int .i64 s.al, .int .i64 s.ah, .int .i64 s.room, .int .i64 s.xl, .int .i64 s.xh, .int .i64 s.yl, .int .i64 s.yh, .slice a len cap], .agg #[.int .i64 b1, .int .i64 b2, .int .i64 c1, .int .i64 c2], .slice x xlen xcap] w fun e w' => e = .returned (.bool true) ∧ Below w.heap.size w w' := by
  have HR := Lib.hid (fun w1 (hb : Below w.heap.size w w1) => ready_is s a len cap false hr w1 (hp.below hb))
  have H1 := Lib.hid (fun (h : false = true) w1 => inside_is s.xl s.xh b1 b2 true (h1 h) w1)
  have H2 := Lib.hid (fun (h : false = true) (k : true = true) w1 => inside_is s.yl s.yh c1 c2 true (h2 h k) w1)
  have HW := Lib.hid (fun w1 => works_any w1)
  clear hp hr h1 h2 hx
  go_enter Try.func9, Try.ntmps9
  go_wp2_with fail
  refine (HR.out _ (by repeat (first | exact Below.refl _ _ | (refine Below.alloc ?_ (by first | omega | (simp; omega) | simp) _) | (refine Below.setCell ?_ (by first | omega | (simp; omega) | simp) _) | refine Below.drew ?_))).mono ?_; rintro e w1 ⟨rfl, hb1⟩; obtain ⟨hc1, hf1⟩ := bcell hb1; have hz1 := hb1.size; (try simp at hz1); have hw1 := ((by repeat (first | assumption | exact Below.refl _ _ | (refine Below.alloc ?_ (by first | omega | (simp; omega) | simp) _) | (refine Below.setCell ?_ (by first | omega | (simp; omega) | simp) _) | refine Below.drew ?_)) : Below w.heap.size w _).trans (hb1.mono (by first | (simp; done) | (simp; omega) | omega)); clear hb1; have p1 : w.heap.size < w1.heap.size := (by omega); have r1 : w.heap.size + 1 < w1.heap.size := (by omega); go_wp2_with fail
  first
    | refine (HW.out _).mono ?_; rintro e w2 ⟨rfl, hb2⟩; obtain ⟨hc2, hf2⟩ := bcell hb2; have hz2 := hb2.size; (try simp at hz2); have hw2 := ((by repeat (first | assumption | exact Below.refl _ _ | (refine Below.alloc ?_ (by first | omega | (simp; omega) | simp) _) | (refine Below.setCell ?_ (by first | omega | (simp; omega) | simp) _) | refine Below.drew ?_)) : Below w.heap.size w _).trans (hb2.mono (by first | (simp; done) | (simp; omega) | omega)); clear hb2; have p2 : w.heap.size < w2.heap.size := (by omega); have r2 : w.heap.size + 1 < w2.heap.size := (by omega); go_wp2_with fail
    | (refine (H1.out (by trivial) _).mono ?_; rintro e w3 ⟨rfl, hb3⟩; obtain ⟨hc3, hf3⟩ := bcell hb3; have hz3 := hb3.size; (try simp at hz3); have hw3 := ((by repeat (first | assumption | exact Below.refl _ _ | (refine Below.alloc ?_ (by first | omega | (simp; omega) | simp) _) | (refine Below.setCell ?_ (by first | omega | (simp; omega) | simp) _) | refine Below.drew ?_)) : Below w.heap.size w _).trans (hb3.mono (by first | (simp; done) | (simp; omega) | omega)); clear hb3; have p3 : w.heap.size < w3.heap.size := (by omega); have r3 : w.heap.size + 1 < w3.heap.size := (by omega); go_wp2_with fail
       first
         | refine (HW.out _).mono ?_; rintro e w4 ⟨rfl, hb4⟩; obtain ⟨hc4, hf4⟩ := bcell hb4; have hz4 := hb4.size; (try simp at hz4); have hw4 := ((by repeat (first | assumption | exact Below.refl _ _ | (refine Below.alloc ?_ (by first | omega | (simp; omega) | simp) _) | (refine Below.setCell ?_ (by first | omega | (simp; omega) | simp) _) | refine Below.drew ?_)) : Below w.heap.size w _).trans (hb4.mono (by first | (simp; done) | (simp; omega) | omega)); clear hb4; have p4 : w.heap.size < w4.heap.size := (by omega); have r4 : w.heap.size + 1 < w4.heap.size := (by omega); go_wp2_with fail
         | (refine (H2.out (by trivial) (by trivial) _).mono ?_; rintro e w5 ⟨rfl, hb5⟩; obtain ⟨hc5, hf5⟩ := bcell hb5; have hz5 := hb5.size; (try simp at hz5); have hw5 := ((by repeat (first | assumption | exact Below.refl _ _ | (refine Below.alloc ?_ (by first | omega | (simp; omega) | simp) _) | (refine Below.setCell ?_ (by first | omega | (simp; omega) | simp) _) | refine Below.drew ?_)) : Below w.heap.size w _).trans (hb5.mono (by first | (simp; done) | (simp; omega) | omega)); clear hb5; have p5 : w.heap.size < w5.heap.size := (by omega); have r5 : w.heap.size + 1 < w5.heap.size := (by omega); go_wp2_with fail
            refine (HW.out _).mono ?_; rintro e w6 ⟨rfl, hb6⟩; obtain ⟨hc6, hf6⟩ := bcell hb6; have hz6 := hb6.size; (try simp at hz6); have hw6 := ((by repeat (first | assumption | exact Below.refl _ _ | (refine Below.alloc ?_ (by first | omega | (simp; omega) | simp) _) | (refine Below.setCell ?_ (by first | omega | (simp; omega) | simp) _) | refine Below.drew ?_)) : Below w.heap.size w _).trans (hb6.mono (by first | (simp; done) | (simp; omega) | omega)); clear hb6; have p6 : w.heap.size < w6.heap.size := (by omega); have r6 : w.heap.size + 1 < w6.heap.size := (by omega); go_wp2_with fail))
  go_ret
  exact ⟨rfl, (by repeat (first | assumption | exact Below.refl _ _ | (refine Below.alloc ?_ (by first | omega | (simp; omega) | simp) _) | (refine Below.setCell ?_ (by first | omega | (simp; omega) | simp) _) | refine Below.drew ?_))⟩
set_option maxHeartbeats 4000000 in
theorem wider_no2 (s : Shop) (a : Option Addr) (len cap : Nat) (b1 b2 c1 c2 : Int) (x : Option Addr) (xlen xcap : Nat) (ns : List Int) (w : World) (hp : PigsAt w a len s.pigs) (hx : IntsAt w x xlen ns) (hr : s.ok = true) (h1 : true = true → insideB s.xl s.xh b1 b2 = false) (h2 : true = true → false = true → insideB s.yl s.yh c1 c2 = true) :
    Calls Try.prog 9 #[.agg #[.int .i64 s.P, .int .i64 s.tl, .int .i64 s.th, .int .i64 s.al, .int .i64 s.ah, .int .i64 s.room, .int .i64 s.xl, .int .i64 s.xh, .int .i64 s.yl, .int .i64 s.yh, .slice a len cap], .agg #[.int .i64 b1, .int .i64 b2, .int .i64 c1, .int .i64 c2], .slice x xlen xcap] w fun e w' => e = .returned (.bool true) ∧ Below w.heap.size w w' := by
  have HR := Lib.hid (fun w1 (hb : Below w.heap.size w w1) => ready_is s a len cap true hr w1 (hp.below hb))
  have H1 := Lib.hid (fun (h : true = true) w1 => inside_is s.xl s.xh b1 b2 false (h1 h) w1)
  have H2 := Lib.hid (fun (h : true = true) (k : false = true) w1 => inside_is s.yl s.yh c1 c2 true (h2 h k) w1)
  have HW := Lib.hid (fun w1 => works_any w1)
  clear hp hr h1 h2 hx
  go_enter Try.func9, Try.ntmps9
  go_wp2_with fail
  refine (HR.out _ (by repeat (first | exact Below.refl _ _ | (refine Below.alloc ?_ (by first | omega | (simp; omega) | simp) _) | (refine Below.setCell ?_ (by first | omega | (simp; omega) | simp) _) | refine Below.drew ?_))).mono ?_; rintro e w1 ⟨rfl, hb1⟩; obtain ⟨hc1, hf1⟩ := bcell hb1; have hz1 := hb1.size; (try simp at hz1); have hw1 := ((by repeat (first | assumption | exact Below.refl _ _ | (refine Below.alloc ?_ (by first | omega | (simp; omega) | simp) _) | (refine Below.setCell ?_ (by first | omega | (simp; omega) | simp) _) | refine Below.drew ?_)) : Below w.heap.size w _).trans (hb1.mono (by first | (simp; done) | (simp; omega) | omega)); clear hb1; have p1 : w.heap.size < w1.heap.size := (by omega); have r1 : w.heap.size + 1 < w1.heap.size := (by omega); go_wp2_with fail
  first
    | refine (HW.out _).mono ?_; rintro e w2 ⟨rfl, hb2⟩; obtain ⟨hc2, hf2⟩ := bcell hb2; have hz2 := hb2.size; (try simp at hz2); have hw2 := ((by repeat (first | assumption | exact Below.refl _ _ | (refine Below.alloc ?_ (by first | omega | (simp; omega) | simp) _) | (refine Below.setCell ?_ (by first | omega | (simp; omega) | simp) _) | refine Below.drew ?_)) : Below w.heap.size w _).trans (hb2.mono (by first | (simp; done) | (simp; omega) | omega)); clear hb2; have p2 : w.heap.size < w2.heap.size := (by omega); have r2 : w.heap.size + 1 < w2.heap.size := (by omega); go_wp2_with fail
    | (refine (H1.out (by trivial) _).mono ?_; rintro e w3 ⟨rfl, hb3⟩; obtain ⟨hc3, hf3⟩ := bcell hb3; have hz3 := hb3.size; (try simp at hz3); have hw3 := ((by repeat (first | assumption | exact Below.refl _ _ | (refine Below.alloc ?_ (by first | omega | (simp; omega) | simp) _) | (refine Below.setCell ?_ (by first | omega | (simp; omega) | simp) _) | refine Below.drew ?_)) : Below w.heap.size w _).trans (hb3.mono (by first | (simp; done) | (simp; omega) | omega)); clear hb3; have p3 : w.heap.size < w3.heap.size := (by omega); have r3 : w.heap.size + 1 < w3.heap.size := (by omega); go_wp2_with fail
       first
         | refine (HW.out _).mono ?_; rintro e w4 ⟨rfl, hb4⟩; obtain ⟨hc4, hf4⟩ := bcell hb4; have hz4 := hb4.size; (try simp at hz4); have hw4 := ((by repeat (first | assumption | exact Below.refl _ _ | (refine Below.alloc ?_ (by first | omega | (simp; omega) | simp) _) | (refine Below.setCell ?_ (by first | omega | (simp; omega) | simp) _) | refine Below.drew ?_)) : Below w.heap.size w _).trans (hb4.mono (by first | (simp; done) | (simp; omega) | omega)); clear hb4; have p4 : w.heap.size < w4.heap.size := (by omega); have r4 : w.heap.size + 1 < w4.heap.size := (by omega); go_wp2_with fail
         | (refine (H2.out (by trivial) (by trivial) _).mono ?_; rintro e w5 ⟨rfl, hb5⟩; obtain ⟨hc5, hf5⟩ := bcell hb5; have hz5 := hb5.size; (try simp at hz5); have hw5 := ((by repeat (first | assumption | exact Below.refl _ _ | (refine Below.alloc ?_ (by first | omega | (simp; omega) | simp) _) | (refine Below.setCell ?_ (by first | omega | (simp; omega) | simp) _) | refine Below.drew ?_)) : Below w.heap.size w _).trans (hb5.mono (by first | (simp; done) | (simp; omega) | omega)); clear hb5; have p5 : w.heap.size < w5.heap.size := (by omega); have r5 : w.heap.size + 1 < w5.heap.size := (by omega); go_wp2_with fail
            refine (HW.out _).mono ?_; rintro e w6 ⟨rfl, hb6⟩; obtain ⟨hc6, hf6⟩ := bcell hb6; have hz6 := hb6.size; (try simp at hz6); have hw6 := ((by repeat (first | assumption | exact Below.refl _ _ | (refine Below.alloc ?_ (by first | omega | (simp; omega) | simp) _) | (refine Below.setCell ?_ (by first | omega | (simp; omega) | simp) _) | refine Below.drew ?_)) : Below w.heap.size w _).trans (hb6.mono (by first | (simp; done) | (simp; omega) | omega)); clear hb6; have p6 : w.heap.size < w6.heap.size := (by omega); have r6 : w.heap.size + 1 < w6.heap.size := (by omega); go_wp2_with fail))
  go_ret
  exact ⟨rfl, (by repeat (first | assumption | exact Below.refl _ _ | (refine Below.alloc ?_ (by first | omega | (simp; omega) | simp) _) | (refine Below.setCell ?_ (by first | omega | (simp; omega) | simp) _) | refine Below.drew ?_))⟩
set_option maxHeartbeats 4000000 in
theorem wider_no3 (s : Shop) (a : Option Addr) (len cap : Nat) (b1 b2 c1 c2 : Int) (x : Option Addr) (xlen xcap : Nat) (ns : List Int) (w : World) (hp : PigsAt w a len s.pigs) (hx : IntsAt w x xlen ns) (hr : s.ok = true) (h1 : true = true → insideB s.xl s.xh b1 b2 = true) (h2 : true = true → true = true → insideB s.yl s.yh c1 c2 = false) :
    Calls Try.prog 9 #[.agg #[.int .i64 s.P, .int .i64 s.tl, .int .i64 s.th, .int .i64 s.al, .int .i64 s.ah, .int .i64 s.room, .int .i64 s.xl, .int .i64 s.xh, .int .i64 s.yl, .int .i64 s.yh, .slice a len cap], .agg #[.int .i64 b1, .int .i64 b2, .int .i64 c1, .int .i64 c2], .slice x xlen xcap] w fun e w' => e = .returned (.bool true) ∧ Below w.heap.size w w' := by
  have HR := Lib.hid (fun w1 (hb : Below w.heap.size w w1) => ready_is s a len cap true hr w1 (hp.below hb))
  have H1 := Lib.hid (fun (h : true = true) w1 => inside_is s.xl s.xh b1 b2 true (h1 h) w1)
  have H2 := Lib.hid (fun (h : true = true) (k : true = true) w1 => inside_is s.yl s.yh c1 c2 false (h2 h k) w1)
  have HW := Lib.hid (fun w1 => works_any w1)
  clear hp hr h1 h2 hx
  go_enter Try.func9, Try.ntmps9
  go_wp2_with fail
  refine (HR.out _ (by repeat (first | exact Below.refl _ _ | (refine Below.alloc ?_ (by first | omega | (simp; omega) | simp) _) | (refine Below.setCell ?_ (by first | omega | (simp; omega) | simp) _) | refine Below.drew ?_))).mono ?_; rintro e w1 ⟨rfl, hb1⟩; obtain ⟨hc1, hf1⟩ := bcell hb1; have hz1 := hb1.size; (try simp at hz1); have hw1 := ((by repeat (first | assumption | exact Below.refl _ _ | (refine Below.alloc ?_ (by first | omega | (simp; omega) | simp) _) | (refine Below.setCell ?_ (by first | omega | (simp; omega) | simp) _) | refine Below.drew ?_)) : Below w.heap.size w _).trans (hb1.mono (by first | (simp; done) | (simp; omega) | omega)); clear hb1; have p1 : w.heap.size < w1.heap.size := (by omega); have r1 : w.heap.size + 1 < w1.heap.size := (by omega); go_wp2_with fail
  first
    | refine (HW.out _).mono ?_; rintro e w2 ⟨rfl, hb2⟩; obtain ⟨hc2, hf2⟩ := bcell hb2; have hz2 := hb2.size; (try simp at hz2); have hw2 := ((by repeat (first | assumption | exact Below.refl _ _ | (refine Below.alloc ?_ (by first | omega | (simp; omega) | simp) _) | (refine Below.setCell ?_ (by first | omega | (simp; omega) | simp) _) | refine Below.drew ?_)) : Below w.heap.size w _).trans (hb2.mono (by first | (simp; done) | (simp; omega) | omega)); clear hb2; have p2 : w.heap.size < w2.heap.size := (by omega); have r2 : w.heap.size + 1 < w2.heap.size := (by omega); go_wp2_with fail
    | (refine (H1.out (by trivial) _).mono ?_; rintro e w3 ⟨rfl, hb3⟩; obtain ⟨hc3, hf3⟩ := bcell hb3; have hz3 := hb3.size; (try simp at hz3); have hw3 := ((by repeat (first | assumption | exact Below.refl _ _ | (refine Below.alloc ?_ (by first | omega | (simp; omega) | simp) _) | (refine Below.setCell ?_ (by first | omega | (simp; omega) | simp) _) | refine Below.drew ?_)) : Below w.heap.size w _).trans (hb3.mono (by first | (simp; done) | (simp; omega) | omega)); clear hb3; have p3 : w.heap.size < w3.heap.size := (by omega); have r3 : w.heap.size + 1 < w3.heap.size := (by omega); go_wp2_with fail
       first
         | refine (HW.out _).mono ?_; rintro e w4 ⟨rfl, hb4⟩; obtain ⟨hc4, hf4⟩ := bcell hb4; have hz4 := hb4.size; (try simp at hz4); have hw4 := ((by repeat (first | assumption | exact Below.refl _ _ | (refine Below.alloc ?_ (by first | omega | (simp; omega) | simp) _) | (refine Below.setCell ?_ (by first | omega | (simp; omega) | simp) _) | refine Below.drew ?_)) : Below w.heap.size w _).trans (hb4.mono (by first | (simp; done) | (simp; omega) | omega)); clear hb4; have p4 : w.heap.size < w4.heap.size := (by omega); have r4 : w.heap.size + 1 < w4.heap.size := (by omega); go_wp2_with fail
         | (refine (H2.out (by trivial) (by trivial) _).mono ?_; rintro e w5 ⟨rfl, hb5⟩; obtain ⟨hc5, hf5⟩ := bcell hb5; have hz5 := hb5.size; (try simp at hz5); have hw5 := ((by repeat (first | assumption | exact Below.refl _ _ | (refine Below.alloc ?_ (by first | omega | (simp; omega) | simp) _) | (refine Below.setCell ?_ (by first | omega | (simp; omega) | simp) _) | refine Below.drew ?_)) : Below w.heap.size w _).trans (hb5.mono (by first | (simp; done) | (simp; omega) | omega)); clear hb5; have p5 : w.heap.size < w5.heap.size := (by omega); have r5 : w.heap.size + 1 < w5.heap.size := (by omega); go_wp2_with fail
            refine (HW.out _).mono ?_; rintro e w6 ⟨rfl, hb6⟩; obtain ⟨hc6, hf6⟩ := bcell hb6; have hz6 := hb6.size; (try simp at hz6); have hw6 := ((by repeat (first | assumption | exact Below.refl _ _ | (refine Below.alloc ?_ (by first | omega | (simp; omega) | simp) _) | (refine Below.setCell ?_ (by first | omega | (simp; omega) | simp) _) | refine Below.drew ?_)) : Below w.heap.size w _).trans (hb6.mono (by first | (simp; done) | (simp; omega) | omega)); clear hb6; have p6 : w.heap.size < w6.heap.size := (by omega); have r6 : w.heap.size + 1 < w6.heap.size := (by omega); go_wp2_with fail))
  go_ret
  exact ⟨rfl, (by repeat (first | assumption | exact Below.refl _ _ | (refine Below.alloc ?_ (by first | omega | (simp; omega) | simp) _) | (refine Below.setCell ?_ (by first | omega | (simp; omega) | simp) _) | refine Below.drew ?_))⟩

set_option maxHeartbeats 4000000 in
theorem wider_no4 (s : Shop) (a : Option Addr) (len cap : Nat) (b1 b2 c1 c2 : Int) (x : Option Addr) (xlen xcap : Nat) (ns : List Int) (w : World) (hp : PigsAt w a len s.pigs) (hx : IntsAt w x xlen ns) (hr : s.ok = true) (h1 : insideB s.xl s.xh b1 b2 = true) (h2 : insideB s.yl s.yh c1 c2 = true) (ho : (s.wide b1 b2 c1 c2).ok = false) :
    Calls Try.prog 9 #[.agg #[.int .i64 s.P, .int .i64 s.tl, .int .i64 s.th, .int .i64 s.al, .int .i64 s.ah, .int .i64 s.room, .int .i64 s.xl, .int .i64 s.xh, .int .i64 s.yl, .int .i64 s.yh, .slice a len cap], .agg #[.int .i64 b1, .int .i64 b2, .int .i64 c1, .int .i64 c2], .slice x xlen xcap] w fun e w' => e = .returned (.bool true) ∧ Below w.heap.size w w' := by
  have HR := Lib.hid (fun w1 (hb : Below w.heap.size w w1) => ready_is s a len cap true hr w1 (hp.below hb))
  have H1 := Lib.hid (fun w1 => inside_is s.xl s.xh b1 b2 true h1 w1)
  have H2 := Lib.hid (fun w1 => inside_is s.yl s.yh c1 c2 true h2 w1)
  have hl4 : len ≤ 4 := by have := Shop.ok_bd hr; have := hp.1; omega
  have HC := Lib.hid (fun w1 (hb : Below w.heap.size w w1) => Copy_any s a len cap w1 (hp.below hb) (by omega))
  have HW := Lib.hid (fun w1 => works_any w1)
  have HK := Lib.hid (fun a' cap' w1 (hp' : PigsAt w1 a' len s.pigs) => ready_is (s.wide b1 b2 c1 c2) a' len cap' false ho w1 hp')
  have hm : len ≤ maxLen := hp.2.1
  clear hp hr h1 h2 hx ho
  unfold Shop.wide at HK
  dsimp only at HK
  go_enter Try.func9, Try.ntmps9
  go_wp2_with fail
  refine (HR.out _ (by repeat (first | exact Below.refl _ _ | (refine Below.alloc ?_ (by first | omega | (simp; omega) | simp) _) | (refine Below.setCell ?_ (by first | omega | (simp; omega) | simp) _) | refine Below.drew ?_))).mono ?_; rintro e w1 ⟨rfl, hb1⟩; obtain ⟨hc1, hf1⟩ := bcell hb1; have hz1 := hb1.size; (try simp at hz1); have hw1 := ((by repeat (first | assumption | exact Below.refl _ _ | (refine Below.alloc ?_ (by first | omega | (simp; omega) | simp) _) | (refine Below.setCell ?_ (by first | omega | (simp; omega) | simp) _) | refine Below.drew ?_)) : Below w.heap.size w _).trans (hb1.mono (by first | (simp; done) | (simp; omega) | omega)); clear hb1; have p1 : w.heap.size < w1.heap.size := (by omega); have r1 : w.heap.size + 1 < w1.heap.size := (by omega); go_wp2_with fail
  refine (H1.out _).mono ?_; rintro e w2 ⟨rfl, hb2⟩; obtain ⟨hc2, hf2⟩ := bcell hb2; have hz2 := hb2.size; (try simp at hz2); have hw2 := ((by repeat (first | assumption | exact Below.refl _ _ | (refine Below.alloc ?_ (by first | omega | (simp; omega) | simp) _) | (refine Below.setCell ?_ (by first | omega | (simp; omega) | simp) _) | refine Below.drew ?_)) : Below w.heap.size w _).trans (hb2.mono (by first | (simp; done) | (simp; omega) | omega)); clear hb2; have p2 : w.heap.size < w2.heap.size := (by omega); have r2 : w.heap.size + 1 < w2.heap.size := (by omega); go_wp2_with fail
  refine (H2.out _).mono ?_; rintro e w3 ⟨rfl, hb3⟩; obtain ⟨hc3, hf3⟩ := bcell hb3; have hz3 := hb3.size; (try simp at hz3); have hw3 := ((by repeat (first | assumption | exact Below.refl _ _ | (refine Below.alloc ?_ (by first | omega | (simp; omega) | simp) _) | (refine Below.setCell ?_ (by first | omega | (simp; omega) | simp) _) | refine Below.drew ?_)) : Below w.heap.size w _).trans (hb3.mono (by first | (simp; done) | (simp; omega) | omega)); clear hb3; have p3 : w.heap.size < w3.heap.size := (by omega); have r3 : w.heap.size + 1 < w3.heap.size := (by omega); go_wp2_with fail
  refine (HC.out _ hw3).mono ?_
  rintro e w4 ⟨hb4, a', cap', rfl, hown⟩
  obtain ⟨hc4, hf4⟩ := bcell hb4
  have hz4 := hb4.size
  have hw4 := hw3.trans (hb4.mono (by first | (simp; done) | (simp; omega) | omega))
  have hP4 := (pigs_own hown hm).1
  clear hb4 hown
  have p4 : w.heap.size < w4.heap.size := by omega
  have r4 : w.heap.size + 1 < w4.heap.size := by omega
  have HP4 := Lib.hid (fun w5 (hb : Below w4.heap.size w4 w5) => hP4.below hb)
  clear hP4
  go_wp2_with fail
  go_region
  have hq4 : w.heap.size < w4.heap.size + 1 := by omega
  have hr4 : w.heap.size + 1 < w4.heap.size + 1 := by omega
  have hB4 : Below w4.heap.size w4 (w4.alloc (.cells #[.int .i64 s.P, .int .i64 s.tl, .int .i64 s.th, .int .i64 s.al, .int .i64 s.ah, .int .i64 s.room, .int .i64 b1, .int .i64 b2, .int .i64 c1, .int .i64 c2, .slice a' len cap'] 28)).drew := (by repeat (first | exact Below.refl _ _ | (refine Below.alloc ?_ (by first | omega | (simp; omega) | simp) _) | (refine Below.setCell ?_ (by first | omega | (simp; omega) | simp) _) | refine Below.drew ?_))
  have hW4 := hw4.trans (hB4.mono (Nat.le_of_lt p4))
  go_wp2_with fail
  refine (HK.out _ _ _ (HP4.out _ hB4)).mono ?_
  rintro e w5 ⟨rfl, hb5⟩
  obtain ⟨hc5, hf5⟩ := bcell hb5
  have hz5 := hb5.size
  simp at hz5
  have hw5 := hW4.trans (hb5.mono hW4.size)
  have hB5 := hB4.trans (hb5.mono hB4.size)
  clear hb5
  have p5 : w.heap.size < w5.heap.size := by omega
  have s5 : w4.heap.size < w5.heap.size := by omega
  go_wp2_with fail
  refine (HW.out _).mono ?_
  rintro e w6 ⟨rfl, hb6⟩
  have hw6 := hw5.trans (hb6.mono hw5.size)
  clear hb6
  go_wp2_with fail
  go_ret
  exact ⟨rfl, hw6⟩

set_option maxHeartbeats 4000000 in
theorem wider_notAdd (s : Shop) (a : Option Addr) (len cap : Nat) (b1 b2 c1 c2 : Int) (x : Option Addr) (xlen xcap : Nat) (ns : List Int) (w : World) (hp : PigsAt w a len s.pigs) (hx : IntsAt w x xlen ns) (hr : s.ok = true) (h1 : insideB s.xl s.xh b1 b2 = true) (h2 : insideB s.yl s.yh c1 c2 = true) (ho : (s.wide b1 b2 c1 c2).ok = true) (hn : s.isAdd ns = false) :
    Calls Try.prog 9 #[.agg #[.int .i64 s.P, .int .i64 s.tl, .int .i64 s.th, .int .i64 s.al, .int .i64 s.ah, .int .i64 s.room, .int .i64 s.xl, .int .i64 s.xh, .int .i64 s.yl, .int .i64 s.yh, .slice a len cap], .agg #[.int .i64 b1, .int .i64 b2, .int .i64 c1, .int .i64 c2], .slice x xlen xcap] w fun e w' => e = .returned (.bool true) ∧ Below w.heap.size w w' := by
  have HR := Lib.hid (fun w1 (hb : Below w.heap.size w w1) => ready_is s a len cap true hr w1 (hp.below hb))
  have H1 := Lib.hid (fun w1 => inside_is s.xl s.xh b1 b2 true h1 w1)
  have H2 := Lib.hid (fun w1 => inside_is s.yl s.yh c1 c2 true h2 w1)
  have hl4 : len ≤ 4 := by have := Shop.ok_bd hr; have := hp.1; omega
  have HC := Lib.hid (fun w1 (hb : Below w.heap.size w w1) => Copy_any s a len cap w1 (hp.below hb) (by omega))
  have HW := Lib.hid (fun w1 => works_any w1)
  have HK := Lib.hid (fun a' cap' w1 (hp' : PigsAt w1 a' len s.pigs) => ready_is (s.wide b1 b2 c1 c2) a' len cap' true ho w1 hp')
  have HL := Lib.hid (fun a' cap' w1 (hb : Below w.heap.size w w1) (hp' : PigsAt w1 a' len s.pigs) => (wide_less s b1 b2 c1 c2 h1 h2 hr ho) ▸ less_any (s.wide b1 b2 c1 c2) s a' len cap' a len cap w1 hp' (hp.below hb) ho hr)
  have HA := Lib.hid (fun w1 (hb : Below w.heap.size w w1) => hn ▸ isAddition_law s a len cap x xlen xcap ns w1 (hp.below hb) (hx.below hb) hr)
  have hm : len ≤ maxLen := hp.2.1
  clear hp hr h1 h2 hx ho hn
  unfold Shop.wide at HK HL
  dsimp only at HK HL
  go_enter Try.func9, Try.ntmps9
  go_wp2_with fail
  refine (HR.out _ (by repeat (first | exact Below.refl _ _ | (refine Below.alloc ?_ (by first | omega | (simp; omega) | simp) _) | (refine Below.setCell ?_ (by first | omega | (simp; omega) | simp) _) | refine Below.drew ?_))).mono ?_; rintro e w1 ⟨rfl, hb1⟩; obtain ⟨hc1, hf1⟩ := bcell hb1; have hz1 := hb1.size; (try simp at hz1); have hw1 := ((by repeat (first | assumption | exact Below.refl _ _ | (refine Below.alloc ?_ (by first | omega | (simp; omega) | simp) _) | (refine Below.setCell ?_ (by first | omega | (simp; omega) | simp) _) | refine Below.drew ?_)) : Below w.heap.size w _).trans (hb1.mono (by first | (simp; done) | (simp; omega) | omega)); clear hb1; have p1 : w.heap.size < w1.heap.size := (by omega); have r1 : w.heap.size + 1 < w1.heap.size := (by omega); go_wp2_with fail
  refine (H1.out _).mono ?_; rintro e w2 ⟨rfl, hb2⟩; obtain ⟨hc2, hf2⟩ := bcell hb2; have hz2 := hb2.size; (try simp at hz2); have hw2 := ((by repeat (first | assumption | exact Below.refl _ _ | (refine Below.alloc ?_ (by first | omega | (simp; omega) | simp) _) | (refine Below.setCell ?_ (by first | omega | (simp; omega) | simp) _) | refine Below.drew ?_)) : Below w.heap.size w _).trans (hb2.mono (by first | (simp; done) | (simp; omega) | omega)); clear hb2; have p2 : w.heap.size < w2.heap.size := (by omega); have r2 : w.heap.size + 1 < w2.heap.size := (by omega); go_wp2_with fail
  refine (H2.out _).mono ?_; rintro e w3 ⟨rfl, hb3⟩; obtain ⟨hc3, hf3⟩ := bcell hb3; have hz3 := hb3.size; (try simp at hz3); have hw3 := ((by repeat (first | assumption | exact Below.refl _ _ | (refine Below.alloc ?_ (by first | omega | (simp; omega) | simp) _) | (refine Below.setCell ?_ (by first | omega | (simp; omega) | simp) _) | refine Below.drew ?_)) : Below w.heap.size w _).trans (hb3.mono (by first | (simp; done) | (simp; omega) | omega)); clear hb3; have p3 : w.heap.size < w3.heap.size := (by omega); have r3 : w.heap.size + 1 < w3.heap.size := (by omega); go_wp2_with fail
  refine (HC.out _ hw3).mono ?_
  rintro e w4 ⟨hb4, a', cap', rfl, hown⟩
  obtain ⟨hc4, hf4⟩ := bcell hb4
  have hz4 := hb4.size
  have hw4 := hw3.trans (hb4.mono (by first | (simp; done) | (simp; omega) | omega))
  have hP4 := (pigs_own hown hm).1
  clear hb4 hown
  have p4 : w.heap.size < w4.heap.size := by omega
  have r4 : w.heap.size + 1 < w4.heap.size := by omega
  have HP4 := Lib.hid (fun w5 (hb : Below w4.heap.size w4 w5) => hP4.below hb)
  clear hP4
  go_wp2_with fail
  go_region
  have hq4 : w.heap.size < w4.heap.size + 1 := by omega
  have hr4 : w.heap.size + 1 < w4.heap.size + 1 := by omega
  have hB4 : Below w4.heap.size w4 (w4.alloc (.cells #[.int .i64 s.P, .int .i64 s.tl, .int .i64 s.th, .int .i64 s.al, .int .i64 s.ah, .int .i64 s.room, .int .i64 b1, .int .i64 b2, .int .i64 c1, .int .i64 c2, .slice a' len cap'] 28)).drew := (by repeat (first | exact Below.refl _ _ | (refine Below.alloc ?_ (by first | omega | (simp; omega) | simp) _) | (refine Below.setCell ?_ (by first | omega | (simp; omega) | simp) _) | refine Below.drew ?_))
  have hW4 := hw4.trans (hB4.mono (Nat.le_of_lt p4))
  go_wp2_with fail
  refine (HK.out _ _ _ (HP4.out _ hB4)).mono ?_
  rintro e w5 ⟨rfl, hb5⟩
  obtain ⟨hc5, hf5⟩ := bcell hb5
  have hz5 := hb5.size
  simp at hz5
  have hw5 := hW4.trans (hb5.mono hW4.size)
  have hB5 := hB4.trans (hb5.mono hB4.size)
  clear hb5
  have p5 : w.heap.size < w5.heap.size := by omega
  have s5 : w4.heap.size < w5.heap.size := by omega
  go_wp2_with fail
  refine (HL.out _ _ _ hw5 (HP4.out _ hB5)).mono ?_
  rintro e w6 ⟨rfl, hb6⟩
  obtain ⟨hc6, hf6⟩ := bcell hb6
  have hw6 := hw5.trans (hb6.mono hw5.size)
  have hB6 := hB5.trans (hb6.mono hB5.size)
  have p6 : w.heap.size < w6.heap.size := Nat.lt_of_lt_of_le p5 hb6.size
  have s6 : w4.heap.size < w6.heap.size := Nat.lt_of_lt_of_le s5 hb6.size
  clear hb6
  go_wp2_with fail
  refine (HA.out _ hw6).mono ?_
  rintro e w7 ⟨rfl, hb7⟩
  obtain ⟨hc7, hf7⟩ := bcell hb7
  have hw7 := hw6.trans (hb7.mono hw6.size)
  have hB7 := hB6.trans (hb7.mono hB6.size)
  have p7 : w.heap.size < w7.heap.size := Nat.lt_of_lt_of_le p6 hb7.size
  have s7 : w4.heap.size < w7.heap.size := Nat.lt_of_lt_of_le s6 hb7.size
  clear hb7
  go_wp2_with fail
  refine (HW.out _).mono ?_
  rintro e w8 ⟨rfl, hb8⟩
  have hw8 := hw7.trans (hb8.mono hw7.size)
  clear hb8
  go_wp2_with fail
  go_ret
  exact ⟨rfl, hw8⟩

end Go.Proofs.Ytajabapcmpmboaa

/- MetalWider, where there is an addition. -/
namespace Go.Proofs.Ytajabapcmpmboaa
set_option linter.unusedVariables false
set_option linter.unusedSimpArgs false
open Go.RowKit

/-- Fails of an addition, in plain words. -/
theorem Fails_law (s : Shop) (a : Option Addr) (len cap : Nat) (x : Option Addr) (xlen xcap : Nat) (ns : List Int) (w : World) (hp : PigsAt w a len s.pigs) (hx : IntsAt w x xlen ns) (hv : s.code ns = 0) :
    Calls Try.prog 24 #[.agg #[.int .i64 s.P, .int .i64 s.tl, .int .i64 s.th, .int .i64 s.al, .int .i64 s.ah, .int .i64 s.room, .int .i64 s.xl, .int .i64 s.xh, .int .i64 s.yl, .int .i64 s.yh, .slice a len cap], .slice x xlen xcap] w fun e w' => ∃ fa fc, e = .returned (.tuple #[.slice fa (s.bad ns [1, 2, 3, 4]).length fc, .int .i64 0]) ∧ IntsAt w' fa (s.bad ns [1, 2, 3, 4]).length (s.bad ns [1, 2, 3, 4]) ∧ Below w.heap.size w w' := by
  refine (Fails_yes s a len cap x xlen xcap ns w hp hx hv).mono ?_
  rintro e w' ⟨v, rfl, hown, -, hb⟩
  have h4 : (s.bad ns [1, 2, 3, 4]).length ≤ 4 := List.length_filter_le _ _
  obtain ⟨fa, fc, rfl, hi⟩ := row_ints hown (by unfold maxLen; omega)
  exact ⟨fa, fc, rfl, hi, hb⟩
theorem In_is (xa : Option Addr) (xl xc : Nat) (x : List Int) (n : Int) (b : Bool) (h : decide (n ∈ x) = b) (w : World) (hx : IntsAt w xa xl x) :
    Calls Try.prog 55 #[.slice xa xl xc, .int .i64 n] w fun e w' => e = .returned (.bool b) ∧ Below w.heap.size w w' := h ▸ In_any xa xl xc x n w hx

set_option maxHeartbeats 16000000 in
theorem wider_yes (s : Shop) (a : Option Addr) (len cap : Nat) (b1 b2 c1 c2 : Int) (x : Option Addr) (xlen xcap : Nat) (ns : List Int) (w : World) (hp : PigsAt w a len s.pigs) (hx : IntsAt w x xlen ns) (hr : s.ok = true) (h1 : insideB s.xl s.xh b1 b2 = true) (h2 : insideB s.yl s.yh c1 c2 = true) (ho : (s.wide b1 b2 c1 c2).ok = true) (hn : s.isAdd ns = true) :
    Calls Try.prog 9 #[.agg #[.int .i64 s.P, .int .i64 s.tl, .int .i64 s.th, .int .i64 s.al, .int .i64 s.ah, .int .i64 s.room, .int .i64 s.xl, .int .i64 s.xh, .int .i64 s.yl, .int .i64 s.yh, .slice a len cap], .agg #[.int .i64 b1, .int .i64 b2, .int .i64 c1, .int .i64 c2], .slice x xlen xcap] w fun e w' => e = .returned (.bool true) ∧ Below w.heap.size w w' := by
  have HR := Lib.hid (fun w1 (hb : Below w.heap.size w w1) => ready_is s a len cap true hr w1 (hp.below hb))
  have H1 := Lib.hid (fun w1 => inside_is s.xl s.xh b1 b2 true h1 w1)
  have H2 := Lib.hid (fun w1 => inside_is s.yl s.yh c1 c2 true h2 w1)
  have hl4 : len ≤ 4 := by have := Shop.ok_bd hr; have := hp.1; omega
  have HC := Lib.hid (fun w1 (hb : Below w.heap.size w w1) => Copy_any s a len cap w1 (hp.below hb) (by omega))
  have HW := Lib.hid (fun w1 => works_any w1)
  have HK := Lib.hid (fun a' cap' w1 (hp' : PigsAt w1 a' len s.pigs) => ready_is (s.wide b1 b2 c1 c2) a' len cap' true ho w1 hp')
  have HL := Lib.hid (fun a' cap' w1 (hb : Below w.heap.size w w1) (hp' : PigsAt w1 a' len s.pigs) => (wide_less s b1 b2 c1 c2 h1 h2 hr ho) ▸ less_any (s.wide b1 b2 c1 c2) s a' len cap' a len cap w1 hp' (hp.below hb) ho hr)
  have HA := Lib.hid (fun w1 (hb : Below w.heap.size w w1) => hn ▸ isAddition_law s a len cap x xlen xcap ns w1 (hp.below hb) (hx.below hb) hr)
  have hxl : xlen ≤ 1000 := by have h := Shop.isAdd_len hn; have := hx.1; have := hp.1; omega
  have hcode : s.code ns = 0 := by simp [Shop.code, hr, hn]
  have hcode' : (s.wide b1 b2 c1 c2).code ns = 0 := by
    have e : (s.wide b1 b2 c1 c2).isAdd ns = s.isAdd ns := rfl
    simp [Shop.code, ho, e, hn]
  have HF := Lib.hid (fun x xcap w1 (hb : Below w.heap.size w w1) (hx : IntsAt w1 x xlen ns) => Fails_law s a len cap x xlen xcap ns w1 (hp.below hb) hx hcode)
  have HG := Lib.hid (fun a' cap' x xcap w1 (hp' : PigsAt w1 a' len s.pigs) (hx : IntsAt w1 x xlen ns) => Fails_law (s.wide b1 b2 c1 c2) a' len cap' x xlen xcap ns w1 hp' hx hcode')
  have HX := Lib.hid (fun w1 (hb : Below w.heap.size w w1) => hx.below hb)
  obtain ⟨hk1, hk2, hk3⟩ := wide_bad s b1 b2 c1 c2 h1 h2 ns (Shop.tot_P hr hn).1 [1, 2, 3, 4]
  have HM := Lib.hid hk3
  clear hcode hcode' hk3
  generalize (s.wide b1 b2 c1 c2).bad ns [1, 2, 3, 4] = ls at *
  generalize s.bad ns [1, 2, 3, 4] = ks at *
  have hk4 : ks.length ≤ 4 := hk2
  clear hk2
  have n1 : decide (ks.length < ls.length) = false := decide_eq_false (by omega)
  have n2 : decide ((4 : Int) < (ks.length : Int)) = false := decide_eq_false (by omega)
  have hm : len ≤ maxLen := hp.2.1
  clear hp hr h1 h2 hx ho hn
  unfold Shop.wide at HK HL HG
  dsimp only at HK HL HG
  go_enter Try.func9, Try.ntmps9
  go_wp2_with fail
  refine (HR.out _ (by repeat (first | exact Below.refl _ _ | (refine Below.alloc ?_ (by first | omega | (simp; omega) | simp) _) | (refine Below.setCell ?_ (by first | omega | (simp; omega) | simp) _) | refine Below.drew ?_))).mono ?_; rintro e w1 ⟨rfl, hb1⟩; obtain ⟨hc1, hf1⟩ := bcell hb1; have hz1 := hb1.size; (try simp at hz1); have hw1 := ((by repeat (first | assumption | exact Below.refl _ _ | (refine Below.alloc ?_ (by first | omega | (simp; omega) | simp) _) | (refine Below.setCell ?_ (by first | omega | (simp; omega) | simp) _) | refine Below.drew ?_)) : Below w.heap.size w _).trans (hb1.mono (by first | (simp; done) | (simp; omega) | omega)); clear hb1; have p1 : w.heap.size < w1.heap.size := (by omega); have r1 : w.heap.size + 1 < w1.heap.size := (by omega); go_wp2_with fail
  refine (H1.out _).mono ?_; rintro e w2 ⟨rfl, hb2⟩; obtain ⟨hc2, hf2⟩ := bcell hb2; have hz2 := hb2.size; (try simp at hz2); have hw2 := ((by repeat (first | assumption | exact Below.refl _ _ | (refine Below.alloc ?_ (by first | omega | (simp; omega) | simp) _) | (refine Below.setCell ?_ (by first | omega | (simp; omega) | simp) _) | refine Below.drew ?_)) : Below w.heap.size w _).trans (hb2.mono (by first | (simp; done) | (simp; omega) | omega)); clear hb2; have p2 : w.heap.size < w2.heap.size := (by omega); have r2 : w.heap.size + 1 < w2.heap.size := (by omega); go_wp2_with fail
  refine (H2.out _).mono ?_; rintro e w3 ⟨rfl, hb3⟩; obtain ⟨hc3, hf3⟩ := bcell hb3; have hz3 := hb3.size; (try simp at hz3); have hw3 := ((by repeat (first | assumption | exact Below.refl _ _ | (refine Below.alloc ?_ (by first | omega | (simp; omega) | simp) _) | (refine Below.setCell ?_ (by first | omega | (simp; omega) | simp) _) | refine Below.drew ?_)) : Below w.heap.size w _).trans (hb3.mono (by first | (simp; done) | (simp; omega) | omega)); clear hb3; have p3 : w.heap.size < w3.heap.size := (by omega); have r3 : w.heap.size + 1 < w3.heap.size := (by omega); go_wp2_with fail
  refine (HC.out _ hw3).mono ?_
  rintro e w4 ⟨hb4, a', cap', rfl, hown⟩
  obtain ⟨hc4, hf4⟩ := bcell hb4
  have hz4 := hb4.size
  have hw4 := hw3.trans (hb4.mono (by first | (simp; done) | (simp; omega) | omega))
  have hP4 := (pigs_own hown hm).1
  clear hb4 hown
  have p4 : w.heap.size < w4.heap.size := by omega
  have r4 : w.heap.size + 1 < w4.heap.size := by omega
  have HP4 := Lib.hid (fun w5 (hb : Below w4.heap.size w4 w5) => hP4.below hb)
  clear hP4
  go_wp2_with fail
  go_region
  have hq4 : w.heap.size < w4.heap.size + 1 := by omega
  have hr4 : w.heap.size + 1 < w4.heap.size + 1 := by omega
  have hB4 : Below w4.heap.size w4 (w4.alloc (.cells #[.int .i64 s.P, .int .i64 s.tl, .int .i64 s.th, .int .i64 s.al, .int .i64 s.ah, .int .i64 s.room, .int .i64 b1, .int .i64 b2, .int .i64 c1, .int .i64 c2, .slice a' len cap'] 28)).drew := (by repeat (first | exact Below.refl _ _ | (refine Below.alloc ?_ (by first | omega | (simp; omega) | simp) _) | (refine Below.setCell ?_ (by first | omega | (simp; omega) | simp) _) | refine Below.drew ?_))
  have hW4 := hw4.trans (hB4.mono (Nat.le_of_lt p4))
  go_wp2_with fail
  refine (HK.out _ _ _ (HP4.out _ hB4)).mono ?_
  rintro e w5 ⟨rfl, hb5⟩
  obtain ⟨hc5, hf5⟩ := bcell hb5
  have hz5 := hb5.size
  simp at hz5
  have hw5 := hW4.trans (hb5.mono hW4.size)
  have hB5 := hB4.trans (hb5.mono hB4.size)
  clear hb5
  have p5 : w.heap.size < w5.heap.size := by omega
  have s5 : w4.heap.size < w5.heap.size := by omega
  go_wp2_with fail
  refine (HL.out _ _ _ hw5 (HP4.out _ hB5)).mono ?_
  rintro e w6 ⟨rfl, hb6⟩
  obtain ⟨hc6, hf6⟩ := bcell hb6
  have hw6 := hw5.trans (hb6.mono hw5.size)
  have hB6 := hB5.trans (hb6.mono hB5.size)
  have p6 : w.heap.size < w6.heap.size := Nat.lt_of_lt_of_le p5 hb6.size
  have s6 : w4.heap.size < w6.heap.size := Nat.lt_of_lt_of_le s5 hb6.size
  clear hb6
  go_wp2_with fail
  refine (HA.out _ hw6).mono ?_
  rintro e w7 ⟨rfl, hb7⟩
  obtain ⟨hc7, hf7⟩ := bcell hb7
  have hw7 := hw6.trans (hb7.mono hw6.size)
  have hB7 := hB6.trans (hb7.mono hB6.size)
  have p7 : w.heap.size < w7.heap.size := Nat.lt_of_lt_of_le p6 hb7.size
  have s7 : w4.heap.size < w7.heap.size := Nat.lt_of_lt_of_le s6 hb7.size
  clear hb7
  go_wp2_with fail
  go_region_law (first
    | (with_reducible refine step_append_ints _ w7.heap.size w7.heap.size xlen xcap x ns rfl _ _ rfl ?_ ?_ ?_ ?_ hxl (Nat.le_refl _) ?_ ?_
       · rfl
       · rfl
       · exact (made_row (by simp) (by simp)).drew
       · exact HX.out _ (by repeat (first | assumption | exact Below.refl _ _ | (refine Below.alloc ?_ (by first | omega | (simp; omega) | simp) _) | (refine Below.setCell ?_ (by first | omega | (simp; omega) | simp) _) | refine Below.drew ?_))
       · simp
       intro g8 f8 w8 hx8 hb8
       have hq8 := ((by repeat (first | exact Below.refl _ _ | (refine Below.alloc ?_ (by first | omega | (simp; omega) | simp) _) | (refine Below.setCell ?_ (by first | omega | (simp; omega) | simp) _) | refine Below.drew ?_)) : Below w7.heap.size w7 _).trans hb8
       obtain ⟨hc8, hf8⟩ := bcell hq8
       have hw8 := hw7.trans (hq8.mono hw7.size)
       have hB8 := hB7.trans (hq8.mono hB7.size)
       have hx8' := Lib.hid hx8
       clear hx8 hb8)
    | (go_simp
       go_at_call 24
       refine (HF.out _ _ _ hw8 hx8'.out).mono ?_
       rintro e w9 ⟨fa9, fc9, rfl, hi9, hb9⟩
       have hq9 := hq8.trans (hb9.mono hq8.size)
       clear hc8 hf8
       obtain ⟨hc9, hf9⟩ := bcell hq9
       have hw9 := hw8.trans (hb9.mono hw8.size)
       have hB9 := hB8.trans (hb9.mono hB8.size)
       have p9 : w.heap.size < w9.heap.size := Nat.lt_of_lt_of_le p7 hq9.size
       have s9 : w4.heap.size < w9.heap.size := Nat.lt_of_lt_of_le s7 hq9.size
       have HI9 := Lib.hid hi9
       clear hb9 hi9))
  all_goals (
    go_wp2_with fail
    go_region_law (first
      | (with_reducible refine step_append_ints _ w9.heap.size w9.heap.size xlen xcap x ns rfl _ _ rfl ?_ ?_ ?_ ?_ hxl (Nat.le_refl _) ?_ ?_
         · rfl
         · rfl
         · exact (made_row (by simp) (by simp)).drew
         · exact HX.out _ (by repeat (first | assumption | exact Below.refl _ _ | (refine Below.alloc ?_ (by first | omega | (simp; omega) | simp) _) | (refine Below.setCell ?_ (by first | omega | (simp; omega) | simp) _) | refine Below.drew ?_))
         · simp
         intro g10 f10 w10 hx10 hb10
         have hq10 := ((by repeat (first | exact Below.refl _ _ | (refine Below.alloc ?_ (by first | omega | (simp; omega) | simp) _) | (refine Below.setCell ?_ (by first | omega | (simp; omega) | simp) _) | refine Below.drew ?_)) : Below w9.heap.size w9 _).trans hb10
         obtain ⟨hc10, hf10⟩ := bcell hq10
         have hw10 := hw9.trans (hq10.mono hw9.size)
         have hB10 := hB9.trans (hq10.mono hB9.size)
         have hx10' := Lib.hid hx10
         clear hx10 hb10)
      | (go_simp
         go_at_call 24
         refine (HG.out _ _ _ _ _ (HP4.out _ hB10) hx10'.out).mono ?_
         rintro e w11 ⟨fa11, fc11, rfl, hi11, hb11⟩
         have hq11 := hq10.trans (hb11.mono hq10.size)
         clear hc10 hf10
         obtain ⟨hc11, hf11⟩ := bcell hq11
         have hw11 := hw10.trans (hb11.mono hw10.size)
         have hB11 := hB10.trans (hb11.mono hB10.size)
         have p11 : w.heap.size < w11.heap.size := Nat.lt_of_lt_of_le p9 hq11.size
         have s11 : w4.heap.size < w11.heap.size := Nat.lt_of_lt_of_le s9 hq11.size
         have HI11 := Lib.hid hi11
         clear hb11 hi11))
    all_goals (
      go_wp2_with fail
      go_loopw [12] (fun i wr => ∃ k : Nat, k ≤ ls.length ∧ i = .int .i64 k ∧ Below w11.heap.size w11 wr) (fun i _ => ls.length - (intOf i).toNat)
      case atStart => exact ⟨0, Nat.zero_le _, rfl, Below.refl _ _⟩
      case round =>
        obtain ⟨k, hk, rfl, hB⟩ := hrel
        by_cases hlt : k < ls.length
        · obtain ⟨hl1, hl2, hl3⟩ := HI11.out
          obtain ⟨lb, lo, rfl, hlb, hlc⟩ := hl3 (by omega)
          have cl := (hB.cell (p := ⟨lb, _, none⟩) hlb).trans (hlc k hlt)
          have hkl : (k : Int) < (ls.length : Int) := by omega
          have hmem := Lib.hid (show decide (ls[k] ∈ ks) = true from decide_eq_true (HM.out _ (List.getElem_mem _)))
          clear hlc hl1 hl2 hl3
          generalize ls[k] = m at *
          have hkw := HI9.out.below (hq11.trans (hB.mono hq11.size))
          have HN := Lib.hid (In_is fa9 ks.length fc9 ks m true hmem.out _ hkw)
          clear hkw
          go_wp2_with fail
          refine HN.out.mono ?_
          rintro e w12 ⟨rfl, hb12⟩
          have hB12 := hB.trans (hb12.mono hB.size)
          clear hb12
          go_wp2_with fail
          go_roundw
          case rel =>
            exact ⟨k + 1, by omega, by go_num, hB12⟩
          case measure => simp [intOf]; omega
        · have hkl : ¬ (k : Int) < (ls.length : Int) := by omega
          have hwr := hw11.trans (hB.mono hw11.size)
          go_wp2_with fail
          refine (HW.out _).mono ?_
          rintro e w13 ⟨rfl, hb13⟩
          have hw13 := hwr.trans (hb13.mono hwr.size)
          clear hb13
          go_wp2_with fail
          go_ret
          exact ⟨rfl, hw13⟩))

end Go.Proofs.Ytajabapcmpmboaa
