/- MetalClearer. -/
import Derived.Test.YtajabapcmpmboaaMA
import Derived.Test.YtajabapcmpmboaaLC
namespace Go.Proofs.Ytajabapcmpmboaa
set_option linter.unusedVariables false
set_option linter.unusedSimpArgs false
open Go.RowKit

/-- The shop with narrower spans. -/
def Shop.narrow (s : Shop) (a b c d : Int) : Shop := { s with tl := a, th := b, al := c, ah := d }
/-- The answer of Safe, by the bounds alone. -/
def verdict (tl th al ah l1 l2 l3 l4 : Int) : Int :=
  if withinB tl th l1 l2 && withinB al ah l3 l4 then 1
  else if emptyB (maxI tl l1) (minI th l2) || emptyB (maxI al l3) (minI ah l4) then 2 else 3
theorem safeOf_verdict (s : Shop) (x : List Int) : s.safeOf x = verdict (s.tl + tot Pig.t s.pigs x) (s.th + tot Pig.t s.pigs x) (s.al + tot Pig.a s.pigs x) (s.ah + tot Pig.a s.pigs x)
    (allowLo (s.P + tot Pig.P s.pigs x) s.xl) (allowHi (s.P + tot Pig.P s.pigs x) s.xh) (allowLo (s.P + tot Pig.P s.pigs x) s.yl) (allowHi (s.P + tot Pig.P s.pigs x) s.yh) := rfl
theorem empty_common (a b c d : Int) : emptyB (maxI a c) (minI b d) = true ↔ (b < a ∨ b < c ∨ d < a ∨ d < c) := by
  unfold emptyB maxI minI
  rw [decide_eq_true_eq]
  rcases Int.lt_or_le c a with h1 | h1 <;> rcases Int.lt_or_le d b with h2 | h2
  · rw [if_neg (show ¬ a ≤ c by omega), if_neg (show ¬ b ≤ d by omega)]; constructor <;> intro h <;> omega
  · rw [if_neg (show ¬ a ≤ c by omega), if_pos h2]; constructor <;> intro h <;> omega
  · rw [if_pos h1, if_neg (show ¬ b ≤ d by omega)]; constructor <;> intro h <;> omega
  · rw [if_pos h1, if_pos h2]; constructor <;> intro h <;> omega
theorem verdict_1 (tl th al ah l1 l2 l3 l4 : Int) : verdict tl th al ah l1 l2 l3 l4 = 1 ↔ (l1 ≤ tl ∧ th ≤ l2) ∧ (l3 ≤ al ∧ ah ≤ l4) := by
  unfold verdict withinB
  split
  · rename_i h; simp at h; simpa using h
  · rename_i h
    simp at h
    split <;> simp <;> omega
theorem verdict_2 (tl th al ah l1 l2 l3 l4 : Int) : verdict tl th al ah l1 l2 l3 l4 = 2 ↔ ¬((l1 ≤ tl ∧ th ≤ l2) ∧ (l3 ≤ al ∧ ah ≤ l4)) ∧ ((th < tl ∨ th < l1 ∨ l2 < tl ∨ l2 < l1) ∨ (ah < al ∨ ah < l3 ∨ l4 < al ∨ l4 < l3)) := by
  rw [← empty_common, ← empty_common]
  unfold verdict withinB
  split
  · rename_i h; simp at h; simp [h]
  · rename_i h
    have h' : ¬((l1 ≤ tl ∧ th ≤ l2) ∧ (l3 ≤ al ∧ ah ≤ l4)) := by simpa using h
    split
    · rename_i k; simp at k; exact ⟨fun _ => ⟨h', k⟩, fun _ => rfl⟩
    · rename_i k
      constructor
      · intro e; simp at e
      · intro e; exact absurd (by simpa using e.2) k
theorem narrow_safe (s : Shop) (a b c d : Int) (h1 : insideB a b s.tl s.th = true) (h2 : insideB c d s.al s.ah = true) (x : List Int) :
    (s.safeOf x = 1 → (s.narrow a b c d).safeOf x = 1) ∧ (s.safeOf x = 2 → (s.narrow a b c d).safeOf x = 2) := by
  simp only [insideB, decide_eq_true_eq] at h1 h2
  rw [safeOf_verdict, safeOf_verdict, verdict_1, verdict_1, verdict_2, verdict_2]
  simp only [Shop.narrow]
  constructor
  · intro h; omega
  · intro h; omega
theorem narrow_ok (s : Shop) (a b c d : Int) (h1 : insideB a b s.tl s.th = true) (h2 : insideB c d s.al s.ah = true) (ho : s.ok = true) : (s.narrow a b c d).ok = true := by
  simp only [insideB, decide_eq_true_eq] at h1 h2
  simp only [Shop.ok, Shop.okH, potB, spanB, btw, Shop.narrow, Bool.and_eq_true, decide_eq_true_eq] at ho ⊢
  refine ⟨⟨⟨⟨⟨⟨⟨⟨⟨?_, ?_⟩, ?_⟩, ?_⟩, ?_⟩, ?_⟩, ?_⟩, ?_⟩, ?_⟩, ho.2⟩ <;> exact decide_eq_true (by omega)
theorem narrow_less (s : Shop) (a b c d : Int) (h1 : insideB a b s.tl s.th = true) (h2 : insideB c d s.al s.ah = true) (ho : s.ok = true) : lessB (s.narrow a b c d) s = true := by
  have key : ∀ f, f = 0 ∨ f = 1 → (s.narrow a b c d).costN f ≤ s.costN f := fun f hf =>
    costN_le f (fun x _ => Int.le_refl _) (fun x h => h) (fun x _ h => (narrow_safe s a b c d h1 h2 x).1 h) (best_fair (narrow_ok s a b c d h1 h2 ho) f hf)
  simp [lessB, key]

theorem ready_is (s : Shop) (a : Option Addr) (len cap : Nat) (v : Bool) (h : s.ok = v) (w : World) (hp : PigsAt w a len s.pigs) :
    Calls Try.prog 45 #[.agg #[.int .i64 s.P, .int .i64 s.tl, .int .i64 s.th, .int .i64 s.al, .int .i64 s.ah, .int .i64 s.room, .int .i64 s.xl, .int .i64 s.xh, .int .i64 s.yl, .int .i64 s.yh, .slice a len cap]] w fun e w' => e = .returned (.bool v) ∧ Below w.heap.size w w' := h ▸ ready_any s a len cap w hp

set_option maxHeartbeats 1000000 in
theorem clearer_no1 (s : Shop) (a : Option Addr) (len cap : Nat) (q b1 b2 c1 c2 : Int) (x : Option Addr) (xlen xcap : Nat) (w : World) (hp : PigsAt w a len s.pigs) (hr : s.ok = false) (h1 : false = true → insideB b1 b2 s.tl s.th = true) (h2 : false = true → true = true → insideB c1 c2 s.al s.ah = true) :
    Calls Try.prog 8 #[.agg #[.int .i64 s.P, .int .i64 s.tl, .int .i64 s.th, .int .i64 s.al, .int .i64 s.ah, .int .i64 s.room, .int .i64 s.xl, .int .i64 s.xh, .int .i64 s.yl, .int .i64 s.yh, .slice a len cap], .agg #[.int .i64 q, .int .i64 b1, .int .i64 b2, .int .i64 c1, .int .i64 c2], .slice x xlen xcap] w fun e w' => e = .returned (.bool true) ∧ Below w.heap.size w w' := by
  have HR := Lib.hid (fun w1 (hb : Below w.heap.size w w1) => ready_is s a len cap false hr w1 (hp.below hb))
  have H1 := Lib.hid (fun (h : false = true) w1 => inside_is b1 b2 s.tl s.th true (h1 h) w1)
  have H2 := Lib.hid (fun (h : false = true) (k : true = true) w1 => inside_is c1 c2 s.al s.ah true (h2 h k) w1)
  have HW := Lib.hid (fun w1 => works_any w1)
  clear hp hr h1 h2
  go_enter Try.func8, Try.ntmps8
  go_wp2_with fail
  refine (HR.out _ (by repeat (first | exact Below.refl _ _ | (refine Below.alloc ?_ (by first | omega | (simp; omega) | simp) _) | (refine Below.setCell ?_ (by first | omega | (simp; omega) | simp) _) | refine Below.drew ?_))).mono ?_; rintro e w1 ⟨rfl, hb1⟩; obtain ⟨hc1, hf1⟩ := bcell hb1; have hz1 := hb1.size; (try simp at hz1); have hw1 := ((by repeat (first | assumption | exact Below.refl _ _ | (refine Below.alloc ?_ (by first | omega | (simp; omega) | simp) _) | (refine Below.setCell ?_ (by first | omega | (simp; omega) | simp) _) | refine Below.drew ?_)) : Below w.heap.size w _).trans (hb1.mono (by first | (simp; done) | (simp; omega) | omega)); clear hb1; have p1 : w.heap.size < w1.heap.size := (by omega); have r1 : w.heap.size + 1 < w1.heap.size := (by omega); go_wp2_with fail
  first
    | refine (HW.out _).mono ?_; rintro e w2 ⟨rfl, hb2⟩; obtain ⟨hc2, hf2⟩ := bcell hb2; have hz2 := hb2.size; (try simp at hz2); have hw2 := ((by repeat (first | assumption | exact Below.refl _ _ | (refine Below.alloc ?_ (by first | omega | (simp; omega) | simp) _) | (refine Below.setCell ?_ (by first | omega | (simp; omega) | simp) _) | refine Below.drew ?_)) : Below w.heap.size w _).trans (hb2.mono (by first | (simp; done) | (simp; omega) | omega)); clear hb2; have p2 : w.heap.size < w2.heap.size := (by omega); have r2 : w.heap.size + 1 < w2.heap.size := (by omega); go_wp2_with fail
    | (refine (H1.out (by trivial) _).mono ?_; rintro e w3 ⟨rfl, hb3⟩; obtain ⟨hc3, hf3⟩ := bcell hb3; have hz3 := hb3.size; (try simp at hz3); have hw3 := ((by repeat (first | assumption | exact Below.refl _ _ | (refine Below.alloc ?_ (by first | omega | (simp; omega) | simp) _) | (refine Below.setCell ?_ (by first | omega | (simp; omega) | simp) _) | refine Below.drew ?_)) : Below w.heap.size w _).trans (hb3.mono (by first | (simp; done) | (simp; omega) | omega)); clear hb3; have p3 : w.heap.size < w3.heap.size := (by omega); have r3 : w.heap.size + 1 < w3.heap.size := (by omega); go_wp2_with fail
       first
         | refine (HW.out _).mono ?_; rintro e w4 ⟨rfl, hb4⟩; obtain ⟨hc4, hf4⟩ := bcell hb4; have hz4 := hb4.size; (try simp at hz4); have hw4 := ((by repeat (first | assumption | exact Below.refl _ _ | (refine Below.alloc ?_ (by first | omega | (simp; omega) | simp) _) | (refine Below.setCell ?_ (by first | omega | (simp; omega) | simp) _) | refine Below.drew ?_)) : Below w.heap.size w _).trans (hb4.mono (by first | (simp; done) | (simp; omega) | omega)); clear hb4; have p4 : w.heap.size < w4.heap.size := (by omega); have r4 : w.heap.size + 1 < w4.heap.size := (by omega); go_wp2_with fail
         | (refine (H2.out (by trivial) (by trivial) _).mono ?_; rintro e w5 ⟨rfl, hb5⟩; obtain ⟨hc5, hf5⟩ := bcell hb5; have hz5 := hb5.size; (try simp at hz5); have hw5 := ((by repeat (first | assumption | exact Below.refl _ _ | (refine Below.alloc ?_ (by first | omega | (simp; omega) | simp) _) | (refine Below.setCell ?_ (by first | omega | (simp; omega) | simp) _) | refine Below.drew ?_)) : Below w.heap.size w _).trans (hb5.mono (by first | (simp; done) | (simp; omega) | omega)); clear hb5; have p5 : w.heap.size < w5.heap.size := (by omega); have r5 : w.heap.size + 1 < w5.heap.size := (by omega); go_wp2_with fail
            refine (HW.out _).mono ?_; rintro e w6 ⟨rfl, hb6⟩; obtain ⟨hc6, hf6⟩ := bcell hb6; have hz6 := hb6.size; (try simp at hz6); have hw6 := ((by repeat (first | assumption | exact Below.refl _ _ | (refine Below.alloc ?_ (by first | omega | (simp; omega) | simp) _) | (refine Below.setCell ?_ (by first | omega | (simp; omega) | simp) _) | refine Below.drew ?_)) : Below w.heap.size w _).trans (hb6.mono (by first | (simp; done) | (simp; omega) | omega)); clear hb6; have p6 : w.heap.size < w6.heap.size := (by omega); have r6 : w.heap.size + 1 < w6.heap.size := (by omega); go_wp2_with fail))
  go_ret
  exact ⟨rfl, (by repeat (first | assumption | exact Below.refl _ _ | (refine Below.alloc ?_ (by first | omega | (simp; omega) | simp) _) | (refine Below.setCell ?_ (by first | omega | (simp; omega) | simp) _) | refine Below.drew ?_))⟩
set_option maxHeartbeats 1000000 in
theorem clearer_no2 (s : Shop) (a : Option Addr) (len cap : Nat) (q b1 b2 c1 c2 : Int) (x : Option Addr) (xlen xcap : Nat) (w : World) (hp : PigsAt w a len s.pigs) (hr : s.ok = true) (h1 : true = true → insideB b1 b2 s.tl s.th = false) (h2 : true = true → false = true → insideB c1 c2 s.al s.ah = true) :
    Calls Try.prog 8 #[.agg #[.int .i64 s.P, .int .i64 s.tl, .int .i64 s.th, .int .i64 s.al, .int .i64 s.ah, .int .i64 s.room, .int .i64 s.xl, .int .i64 s.xh, .int .i64 s.yl, .int .i64 s.yh, .slice a len cap], .agg #[.int .i64 q, .int .i64 b1, .int .i64 b2, .int .i64 c1, .int .i64 c2], .slice x xlen xcap] w fun e w' => e = .returned (.bool true) ∧ Below w.heap.size w w' := by
  have HR := Lib.hid (fun w1 (hb : Below w.heap.size w w1) => ready_is s a len cap true hr w1 (hp.below hb))
  have H1 := Lib.hid (fun (h : true = true) w1 => inside_is b1 b2 s.tl s.th false (h1 h) w1)
  have H2 := Lib.hid (fun (h : true = true) (k : false = true) w1 => inside_is c1 c2 s.al s.ah true (h2 h k) w1)
  have HW := Lib.hid (fun w1 => works_any w1)
  clear hp hr h1 h2
  go_enter Try.func8, Try.ntmps8
  go_wp2_with fail
  refine (HR.out _ (by repeat (first | exact Below.refl _ _ | (refine Below.alloc ?_ (by first | omega | (simp; omega) | simp) _) | (refine Below.setCell ?_ (by first | omega | (simp; omega) | simp) _) | refine Below.drew ?_))).mono ?_; rintro e w1 ⟨rfl, hb1⟩; obtain ⟨hc1, hf1⟩ := bcell hb1; have hz1 := hb1.size; (try simp at hz1); have hw1 := ((by repeat (first | assumption | exact Below.refl _ _ | (refine Below.alloc ?_ (by first | omega | (simp; omega) | simp) _) | (refine Below.setCell ?_ (by first | omega | (simp; omega) | simp) _) | refine Below.drew ?_)) : Below w.heap.size w _).trans (hb1.mono (by first | (simp; done) | (simp; omega) | omega)); clear hb1; have p1 : w.heap.size < w1.heap.size := (by omega); have r1 : w.heap.size + 1 < w1.heap.size := (by omega); go_wp2_with fail
  first
    | refine (HW.out _).mono ?_; rintro e w2 ⟨rfl, hb2⟩; obtain ⟨hc2, hf2⟩ := bcell hb2; have hz2 := hb2.size; (try simp at hz2); have hw2 := ((by repeat (first | assumption | exact Below.refl _ _ | (refine Below.alloc ?_ (by first | omega | (simp; omega) | simp) _) | (refine Below.setCell ?_ (by first | omega | (simp; omega) | simp) _) | refine Below.drew ?_)) : Below w.heap.size w _).trans (hb2.mono (by first | (simp; done) | (simp; omega) | omega)); clear hb2; have p2 : w.heap.size < w2.heap.size := (by omega); have r2 : w.heap.size + 1 < w2.heap.size := (by omega); go_wp2_with fail
    | (refine (H1.out (by trivial) _).mono ?_; rintro e w3 ⟨rfl, hb3⟩; obtain ⟨hc3, hf3⟩ := bcell hb3; have hz3 := hb3.size; (try simp at hz3); have hw3 := ((by repeat (first | assumption | exact Below.refl _ _ | (refine Below.alloc ?_ (by first | omega | (simp; omega) | simp) _) | (refine Below.setCell ?_ (by first | omega | (simp; omega) | simp) _) | refine Below.drew ?_)) : Below w.heap.size w _).trans (hb3.mono (by first | (simp; done) | (simp; omega) | omega)); clear hb3; have p3 : w.heap.size < w3.heap.size := (by omega); have r3 : w.heap.size + 1 < w3.heap.size := (by omega); go_wp2_with fail
       first
         | refine (HW.out _).mono ?_; rintro e w4 ⟨rfl, hb4⟩; obtain ⟨hc4, hf4⟩ := bcell hb4; have hz4 := hb4.size; (try simp at hz4); have hw4 := ((by repeat (first | assumption | exact Below.refl _ _ | (refine Below.alloc ?_ (by first | omega | (simp; omega) | simp) _) | (refine Below.setCell ?_ (by first | omega | (simp; omega) | simp) _) | refine Below.drew ?_)) : Below w.heap.size w _).trans (hb4.mono (by first | (simp; done) | (simp; omega) | omega)); clear hb4; have p4 : w.heap.size < w4.heap.size := (by omega); have r4 : w.heap.size + 1 < w4.heap.size := (by omega); go_wp2_with fail
         | (refine (H2.out (by trivial) (by trivial) _).mono ?_; rintro e w5 ⟨rfl, hb5⟩; obtain ⟨hc5, hf5⟩ := bcell hb5; have hz5 := hb5.size; (try simp at hz5); have hw5 := ((by repeat (first | assumption | exact Below.refl _ _ | (refine Below.alloc ?_ (by first | omega | (simp; omega) | simp) _) | (refine Below.setCell ?_ (by first | omega | (simp; omega) | simp) _) | refine Below.drew ?_)) : Below w.heap.size w _).trans (hb5.mono (by first | (simp; done) | (simp; omega) | omega)); clear hb5; have p5 : w.heap.size < w5.heap.size := (by omega); have r5 : w.heap.size + 1 < w5.heap.size := (by omega); go_wp2_with fail
            refine (HW.out _).mono ?_; rintro e w6 ⟨rfl, hb6⟩; obtain ⟨hc6, hf6⟩ := bcell hb6; have hz6 := hb6.size; (try simp at hz6); have hw6 := ((by repeat (first | assumption | exact Below.refl _ _ | (refine Below.alloc ?_ (by first | omega | (simp; omega) | simp) _) | (refine Below.setCell ?_ (by first | omega | (simp; omega) | simp) _) | refine Below.drew ?_)) : Below w.heap.size w _).trans (hb6.mono (by first | (simp; done) | (simp; omega) | omega)); clear hb6; have p6 : w.heap.size < w6.heap.size := (by omega); have r6 : w.heap.size + 1 < w6.heap.size := (by omega); go_wp2_with fail))
  go_ret
  exact ⟨rfl, (by repeat (first | assumption | exact Below.refl _ _ | (refine Below.alloc ?_ (by first | omega | (simp; omega) | simp) _) | (refine Below.setCell ?_ (by first | omega | (simp; omega) | simp) _) | refine Below.drew ?_))⟩
set_option maxHeartbeats 1000000 in
theorem clearer_no3 (s : Shop) (a : Option Addr) (len cap : Nat) (q b1 b2 c1 c2 : Int) (x : Option Addr) (xlen xcap : Nat) (w : World) (hp : PigsAt w a len s.pigs) (hr : s.ok = true) (h1 : true = true → insideB b1 b2 s.tl s.th = true) (h2 : true = true → true = true → insideB c1 c2 s.al s.ah = false) :
    Calls Try.prog 8 #[.agg #[.int .i64 s.P, .int .i64 s.tl, .int .i64 s.th, .int .i64 s.al, .int .i64 s.ah, .int .i64 s.room, .int .i64 s.xl, .int .i64 s.xh, .int .i64 s.yl, .int .i64 s.yh, .slice a len cap], .agg #[.int .i64 q, .int .i64 b1, .int .i64 b2, .int .i64 c1, .int .i64 c2], .slice x xlen xcap] w fun e w' => e = .returned (.bool true) ∧ Below w.heap.size w w' := by
  have HR := Lib.hid (fun w1 (hb : Below w.heap.size w w1) => ready_is s a len cap true hr w1 (hp.below hb))
  have H1 := Lib.hid (fun (h : true = true) w1 => inside_is b1 b2 s.tl s.th true (h1 h) w1)
  have H2 := Lib.hid (fun (h : true = true) (k : true = true) w1 => inside_is c1 c2 s.al s.ah false (h2 h k) w1)
  have HW := Lib.hid (fun w1 => works_any w1)
  clear hp hr h1 h2
  go_enter Try.func8, Try.ntmps8
  go_wp2_with fail
  refine (HR.out _ (by repeat (first | exact Below.refl _ _ | (refine Below.alloc ?_ (by first | omega | (simp; omega) | simp) _) | (refine Below.setCell ?_ (by first | omega | (simp; omega) | simp) _) | refine Below.drew ?_))).mono ?_; rintro e w1 ⟨rfl, hb1⟩; obtain ⟨hc1, hf1⟩ := bcell hb1; have hz1 := hb1.size; (try simp at hz1); have hw1 := ((by repeat (first | assumption | exact Below.refl _ _ | (refine Below.alloc ?_ (by first | omega | (simp; omega) | simp) _) | (refine Below.setCell ?_ (by first | omega | (simp; omega) | simp) _) | refine Below.drew ?_)) : Below w.heap.size w _).trans (hb1.mono (by first | (simp; done) | (simp; omega) | omega)); clear hb1; have p1 : w.heap.size < w1.heap.size := (by omega); have r1 : w.heap.size + 1 < w1.heap.size := (by omega); go_wp2_with fail
  first
    | refine (HW.out _).mono ?_; rintro e w2 ⟨rfl, hb2⟩; obtain ⟨hc2, hf2⟩ := bcell hb2; have hz2 := hb2.size; (try simp at hz2); have hw2 := ((by repeat (first | assumption | exact Below.refl _ _ | (refine Below.alloc ?_ (by first | omega | (simp; omega) | simp) _) | (refine Below.setCell ?_ (by first | omega | (simp; omega) | simp) _) | refine Below.drew ?_)) : Below w.heap.size w _).trans (hb2.mono (by first | (simp; done) | (simp; omega) | omega)); clear hb2; have p2 : w.heap.size < w2.heap.size := (by omega); have r2 : w.heap.size + 1 < w2.heap.size := (by omega); go_wp2_with fail
    | (refine (H1.out (by trivial) _).mono ?_; rintro e w3 ⟨rfl, hb3⟩; obtain ⟨hc3, hf3⟩ := bcell hb3; have hz3 := hb3.size; (try simp at hz3); have hw3 := ((by repeat (first | assumption | exact Below.refl _ _ | (refine Below.alloc ?_ (by first | omega | (simp; omega) | simp) _) | (refine Below.setCell ?_ (by first | omega | (simp; omega) | simp) _) | refine Below.drew ?_)) : Below w.heap.size w _).trans (hb3.mono (by first | (simp; done) | (simp; omega) | omega)); clear hb3; have p3 : w.heap.size < w3.heap.size := (by omega); have r3 : w.heap.size + 1 < w3.heap.size := (by omega); go_wp2_with fail
       first
         | refine (HW.out _).mono ?_; rintro e w4 ⟨rfl, hb4⟩; obtain ⟨hc4, hf4⟩ := bcell hb4; have hz4 := hb4.size; (try simp at hz4); have hw4 := ((by repeat (first | assumption | exact Below.refl _ _ | (refine Below.alloc ?_ (by first | omega | (simp; omega) | simp) _) | (refine Below.setCell ?_ (by first | omega | (simp; omega) | simp) _) | refine Below.drew ?_)) : Below w.heap.size w _).trans (hb4.mono (by first | (simp; done) | (simp; omega) | omega)); clear hb4; have p4 : w.heap.size < w4.heap.size := (by omega); have r4 : w.heap.size + 1 < w4.heap.size := (by omega); go_wp2_with fail
         | (refine (H2.out (by trivial) (by trivial) _).mono ?_; rintro e w5 ⟨rfl, hb5⟩; obtain ⟨hc5, hf5⟩ := bcell hb5; have hz5 := hb5.size; (try simp at hz5); have hw5 := ((by repeat (first | assumption | exact Below.refl _ _ | (refine Below.alloc ?_ (by first | omega | (simp; omega) | simp) _) | (refine Below.setCell ?_ (by first | omega | (simp; omega) | simp) _) | refine Below.drew ?_)) : Below w.heap.size w _).trans (hb5.mono (by first | (simp; done) | (simp; omega) | omega)); clear hb5; have p5 : w.heap.size < w5.heap.size := (by omega); have r5 : w.heap.size + 1 < w5.heap.size := (by omega); go_wp2_with fail
            refine (HW.out _).mono ?_; rintro e w6 ⟨rfl, hb6⟩; obtain ⟨hc6, hf6⟩ := bcell hb6; have hz6 := hb6.size; (try simp at hz6); have hw6 := ((by repeat (first | assumption | exact Below.refl _ _ | (refine Below.alloc ?_ (by first | omega | (simp; omega) | simp) _) | (refine Below.setCell ?_ (by first | omega | (simp; omega) | simp) _) | refine Below.drew ?_)) : Below w.heap.size w _).trans (hb6.mono (by first | (simp; done) | (simp; omega) | omega)); clear hb6; have p6 : w.heap.size < w6.heap.size := (by omega); have r6 : w.heap.size + 1 < w6.heap.size := (by omega); go_wp2_with fail))
  go_ret
  exact ⟨rfl, (by repeat (first | assumption | exact Below.refl _ _ | (refine Below.alloc ?_ (by first | omega | (simp; omega) | simp) _) | (refine Below.setCell ?_ (by first | omega | (simp; omega) | simp) _) | refine Below.drew ?_))⟩

set_option maxHeartbeats 2000000 in
theorem clearer_notAdd (s : Shop) (a : Option Addr) (len cap : Nat) (q b1 b2 c1 c2 : Int) (x : Option Addr) (xlen xcap : Nat) (ns : List Int) (w : World) (hp : PigsAt w a len s.pigs) (hx : IntsAt w x xlen ns) (hr : s.ok = true) (h1 : insideB b1 b2 s.tl s.th = true) (h2 : insideB c1 c2 s.al s.ah = true) (hn : s.isAdd ns = false) :
    Calls Try.prog 8 #[.agg #[.int .i64 s.P, .int .i64 s.tl, .int .i64 s.th, .int .i64 s.al, .int .i64 s.ah, .int .i64 s.room, .int .i64 s.xl, .int .i64 s.xh, .int .i64 s.yl, .int .i64 s.yh, .slice a len cap], .agg #[.int .i64 q, .int .i64 b1, .int .i64 b2, .int .i64 c1, .int .i64 c2], .slice x xlen xcap] w fun e w' => e = .returned (.bool true) ∧ Below w.heap.size w w' := by
  have HR := Lib.hid (fun w1 (hb : Below w.heap.size w w1) => ready_is s a len cap true hr w1 (hp.below hb))
  have H1 := Lib.hid (fun w1 => inside_is b1 b2 s.tl s.th true h1 w1)
  have H2 := Lib.hid (fun w1 => inside_is c1 c2 s.al s.ah true h2 w1)
  have hl4 : len ≤ 4 := by have := Shop.ok_bd hr; have := hp.1; omega
  have HC := Lib.hid (fun w1 (hb : Below w.heap.size w w1) => Copy_any s a len cap w1 (hp.below hb) (by omega))
  have HW := Lib.hid (fun w1 => works_any w1)
  have HL := Lib.hid (fun a' cap' w1 (hb : Below w.heap.size w w1) (hp' : PigsAt w1 a' len s.pigs) => (narrow_less s b1 b2 c1 c2 h1 h2 hr) ▸ less_any (s.narrow b1 b2 c1 c2) s a' len cap' a len cap w1 hp' (hp.below hb) (narrow_ok s b1 b2 c1 c2 h1 h2 hr) hr)
  have HA := Lib.hid (fun w1 (hb : Below w.heap.size w w1) => hn ▸ isAddition_law s a len cap x xlen xcap ns w1 (hp.below hb) (hx.below hb) hr)
  have hm : len ≤ maxLen := hp.2.1
  clear hp hr h1 h2 hx hn
  unfold Shop.narrow at HL
  dsimp only at HL
  go_enter Try.func8, Try.ntmps8
  go_wp2_with fail
  refine (HR.out _ (by repeat (first | exact Below.refl _ _ | (refine Below.alloc ?_ (by first | omega | (simp; omega) | simp) _) | (refine Below.setCell ?_ (by first | omega | (simp; omega) | simp) _) | refine Below.drew ?_))).mono ?_; rintro e w1 ⟨rfl, hb1⟩; obtain ⟨hc1, hf1⟩ := bcell hb1; have hz1 := hb1.size; (try simp at hz1); have hw1 := ((by repeat (first | assumption | exact Below.refl _ _ | (refine Below.alloc ?_ (by first | omega | (simp; omega) | simp) _) | (refine Below.setCell ?_ (by first | omega | (simp; omega) | simp) _) | refine Below.drew ?_)) : Below w.heap.size w _).trans (hb1.mono (by first | (simp; done) | (simp; omega) | omega)); clear hb1; have p1 : w.heap.size < w1.heap.size := (by omega); have r1 : w.heap.size + 1 < w1.heap.size := (by omega); go_wp2_with fail
  refine (H1.out _).mono ?_; rintro e w2 ⟨rfl, hb2⟩; obtain ⟨hc2, hf2⟩ := bcell hb2; have hz2 := hb2.size; (try simp at hz2); have hw2 := ((by repeat (first | assumption | exact Below.refl _ _ | (refine Below.alloc ?_ (by first | omega | (simp; omega) | simp) _) | (refine Below.setCell ?_ (by first | omega | (simp; omega) | simp) _) | refine Below.drew ?_)) : Below w.heap.size w _).trans (hb2.mono (by first | (simp; done) | (simp; omega) | omega)); clear hb2; have p2 : w.heap.size < w2.heap.size := (by omega); have r2 : w.heap.size + 1 < w2.heap.size := (by omega); go_wp2_with fail
  refine (H2.out _).mono ?_; rintro e w3 ⟨rfl, hb3⟩; obtain ⟨hc3, hf3⟩ := bcell hb3; have hz3 := hb3.size; (try simp at hz3); have hw3 := ((by repeat (first | assumption | exact Below.refl _ _ | (refine Below.alloc ?_ (by first | omega | (simp; omega) | simp) _) | (refine Below.setCell ?_ (by first | omega | (simp; omega) | simp) _) | refine Below.drew ?_)) : Below w.heap.size w _).trans (hb3.mono (by first | (simp; done) | (simp; omega) | omega)); clear hb3; have p3 : w.heap.size < w3.heap.size := (by omega); have r3 : w.heap.size + 1 < w3.heap.size := (by omega); go_wp2_with fail
  refine (HC.out _ hw3).mono ?_
  rintro e w4 ⟨hb4, a', cap', rfl, hown⟩
  obtain ⟨hc4, hf4⟩ := bcell hb4
  have hz4 := hb4.size
  have hw4 := hw3.trans (hb4.mono (by first | (simp; done) | (simp; omega) | omega))
  have hP4 := (pigs_own hown hm).1
  clear hb4 hown
  have p4 : w.heap.size < w4.heap.size := by omega
  have r4 : w.heap.size + 1 < w4.heap.size := by omega
  have HP4 := Lib.hid (fun w5 (hb : Below w4.heap.size w4 w5) => hP4.below hb)
  clear hP4
  go_wp2_with fail
  go_region
  have hq4 : w.heap.size < w4.heap.size + 1 := by omega
  have hr4 : w.heap.size + 1 < w4.heap.size + 1 := by omega
  have hB4 : Below w4.heap.size w4 (w4.alloc (.cells #[.int .i64 s.P, .int .i64 b1, .int .i64 b2, .int .i64 c1, .int .i64 c2, .int .i64 s.room, .int .i64 s.xl, .int .i64 s.xh, .int .i64 s.yl, .int .i64 s.yh, .slice a' len cap'] 28)).drew := (by repeat (first | exact Below.refl _ _ | (refine Below.alloc ?_ (by first | omega | (simp; omega) | simp) _) | (refine Below.setCell ?_ (by first | omega | (simp; omega) | simp) _) | refine Below.drew ?_))
  have hW4 := hw4.trans (hB4.mono (Nat.le_of_lt p4))
  go_wp2_with fail
  refine (HL.out _ _ _ hW4 (HP4.out _ hB4)).mono ?_
  rintro e w5 ⟨rfl, hb5⟩
  obtain ⟨hc5, hf5⟩ := bcell hb5
  have hz5 := hb5.size
  simp at hz5
  have hw5 := hW4.trans (hb5.mono hW4.size)
  have hB5 := hB4.trans (hb5.mono hB4.size)
  clear hb5
  have p5 : w.heap.size < w5.heap.size := by omega
  have s5 : w4.heap.size < w5.heap.size := by omega
  go_wp2_with fail
  refine (HA.out _ hw5).mono ?_
  rintro e w6 ⟨rfl, hb6⟩
  have hw6 := hw5.trans (hb6.mono hw5.size)
  clear hb6
  go_wp2_with fail
  refine (HW.out _).mono ?_
  rintro e w7 ⟨rfl, hb7⟩
  have hw7 := hw6.trans (hb7.mono hw6.size)
  clear hb7
  go_wp2_with fail
  go_ret
  exact ⟨rfl, hw7⟩
set_option maxHeartbeats 4000000 in
theorem clearer_yes (s : Shop) (a : Option Addr) (len cap : Nat) (q b1 b2 c1 c2 : Int) (x : Option Addr) (xlen xcap : Nat) (ns : List Int) (w : World) (hp : PigsAt w a len s.pigs) (hx : IntsAt w x xlen ns) (hr : s.ok = true) (h1 : insideB b1 b2 s.tl s.th = true) (h2 : insideB c1 c2 s.al s.ah = true) (hn : s.isAdd ns = true) :
    Calls Try.prog 8 #[.agg #[.int .i64 s.P, .int .i64 s.tl, .int .i64 s.th, .int .i64 s.al, .int .i64 s.ah, .int .i64 s.room, .int .i64 s.xl, .int .i64 s.xh, .int .i64 s.yl, .int .i64 s.yh, .slice a len cap], .agg #[.int .i64 q, .int .i64 b1, .int .i64 b2, .int .i64 c1, .int .i64 c2], .slice x xlen xcap] w fun e w' => e = .returned (.bool true) ∧ Below w.heap.size w w' := by
  have HR := Lib.hid (fun w1 (hb : Below w.heap.size w w1) => ready_is s a len cap true hr w1 (hp.below hb))
  have H1 := Lib.hid (fun w1 => inside_is b1 b2 s.tl s.th true h1 w1)
  have H2 := Lib.hid (fun w1 => inside_is c1 c2 s.al s.ah true h2 w1)
  have hl4 : len ≤ 4 := by have := Shop.ok_bd hr; have := hp.1; omega
  have HC := Lib.hid (fun w1 (hb : Below w.heap.size w w1) => Copy_any s a len cap w1 (hp.below hb) (by omega))
  have HW := Lib.hid (fun w1 => works_any w1)
  have HL := Lib.hid (fun a' cap' w1 (hb : Below w.heap.size w w1) (hp' : PigsAt w1 a' len s.pigs) => (narrow_less s b1 b2 c1 c2 h1 h2 hr) ▸ less_any (s.narrow b1 b2 c1 c2) s a' len cap' a len cap w1 hp' (hp.below hb) (narrow_ok s b1 b2 c1 c2 h1 h2 hr) hr)
  have HA := Lib.hid (fun w1 (hb : Below w.heap.size w w1) => hn ▸ isAddition_law s a len cap x xlen xcap ns w1 (hp.below hb) (hx.below hb) hr)
  have hxl : xlen ≤ 1000 := by have h := Shop.isAdd_len hn; have := hx.1; have := hp.1; omega
  have HS := Lib.hid (fun w1 (hb : Below w.heap.size w w1) => safe_law s a len cap x xlen xcap ns w1 (hp.below hb) (hx.below hb) (by simp [Shop.code, hr, hn]) hxl)
  have HO := Lib.hid (fun a' cap' w1 (hb : Below w.heap.size w w1) (hp' : PigsAt w1 a' len s.pigs) => safe_law (s.narrow b1 b2 c1 c2) a' len cap' x xlen xcap ns w1 hp' (hx.below hb) (by
    have e : (s.narrow b1 b2 c1 c2).isAdd ns = s.isAdd ns := rfl
    simp [Shop.code, narrow_ok s b1 b2 c1 c2 h1 h2 hr, e, hn]) hxl)
  have HV := Lib.hid (show s.safeOf ns = 3 ∨ s.safeOf ns ≠ 3 ∧ (s.narrow b1 b2 c1 c2).safeOf ns = s.safeOf ns by
    have hb := safeOf_in s ns
    simp [btw] at hb
    obtain ⟨k1, k2⟩ := narrow_safe s b1 b2 c1 c2 h1 h2 ns
    omega)
  generalize (s.narrow b1 b2 c1 c2).safeOf ns = ov at *
  generalize s.safeOf ns = sv at *
  have hm : len ≤ maxLen := hp.2.1
  clear hp hr h1 h2 hx hn
  unfold Shop.narrow at HL HO
  dsimp only at HL HO
  go_enter Try.func8, Try.ntmps8
  go_wp2_with fail
  refine (HR.out _ (by repeat (first | exact Below.refl _ _ | (refine Below.alloc ?_ (by first | omega | (simp; omega) | simp) _) | (refine Below.setCell ?_ (by first | omega | (simp; omega) | simp) _) | refine Below.drew ?_))).mono ?_; rintro e w1 ⟨rfl, hb1⟩; obtain ⟨hc1, hf1⟩ := bcell hb1; have hz1 := hb1.size; (try simp at hz1); have hw1 := ((by repeat (first | assumption | exact Below.refl _ _ | (refine Below.alloc ?_ (by first | omega | (simp; omega) | simp) _) | (refine Below.setCell ?_ (by first | omega | (simp; omega) | simp) _) | refine Below.drew ?_)) : Below w.heap.size w _).trans (hb1.mono (by first | (simp; done) | (simp; omega) | omega)); clear hb1; have p1 : w.heap.size < w1.heap.size := (by omega); have r1 : w.heap.size + 1 < w1.heap.size := (by omega); go_wp2_with fail
  refine (H1.out _).mono ?_; rintro e w2 ⟨rfl, hb2⟩; obtain ⟨hc2, hf2⟩ := bcell hb2; have hz2 := hb2.size; (try simp at hz2); have hw2 := ((by repeat (first | assumption | exact Below.refl _ _ | (refine Below.alloc ?_ (by first | omega | (simp; omega) | simp) _) | (refine Below.setCell ?_ (by first | omega | (simp; omega) | simp) _) | refine Below.drew ?_)) : Below w.heap.size w _).trans (hb2.mono (by first | (simp; done) | (simp; omega) | omega)); clear hb2; have p2 : w.heap.size < w2.heap.size := (by omega); have r2 : w.heap.size + 1 < w2.heap.size := (by omega); go_wp2_with fail
  refine (H2.out _).mono ?_; rintro e w3 ⟨rfl, hb3⟩; obtain ⟨hc3, hf3⟩ := bcell hb3; have hz3 := hb3.size; (try simp at hz3); have hw3 := ((by repeat (first | assumption | exact Below.refl _ _ | (refine Below.alloc ?_ (by first | omega | (simp; omega) | simp) _) | (refine Below.setCell ?_ (by first | omega | (simp; omega) | simp) _) | refine Below.drew ?_)) : Below w.heap.size w _).trans (hb3.mono (by first | (simp; done) | (simp; omega) | omega)); clear hb3; have p3 : w.heap.size < w3.heap.size := (by omega); have r3 : w.heap.size + 1 < w3.heap.size := (by omega); go_wp2_with fail
  refine (HC.out _ hw3).mono ?_
  rintro e w4 ⟨hb4, a', cap', rfl, hown⟩
  obtain ⟨hc4, hf4⟩ := bcell hb4
  have hz4 := hb4.size
  have hw4 := hw3.trans (hb4.mono (by first | (simp; done) | (simp; omega) | omega))
  have hP4 := (pigs_own hown hm).1
  clear hb4 hown
  have p4 : w.heap.size < w4.heap.size := by omega
  have r4 : w.heap.size + 1 < w4.heap.size := by omega
  have HP4 := Lib.hid (fun w5 (hb : Below w4.heap.size w4 w5) => hP4.below hb)
  clear hP4
  go_wp2_with fail
  go_region
  have hq4 : w.heap.size < w4.heap.size + 1 := by omega
  have hr4 : w.heap.size + 1 < w4.heap.size + 1 := by omega
  have hB4 : Below w4.heap.size w4 (w4.alloc (.cells #[.int .i64 s.P, .int .i64 b1, .int .i64 b2, .int .i64 c1, .int .i64 c2, .int .i64 s.room, .int .i64 s.xl, .int .i64 s.xh, .int .i64 s.yl, .int .i64 s.yh, .slice a' len cap'] 28)).drew := (by repeat (first | exact Below.refl _ _ | (refine Below.alloc ?_ (by first | omega | (simp; omega) | simp) _) | (refine Below.setCell ?_ (by first | omega | (simp; omega) | simp) _) | refine Below.drew ?_))
  have hW4 := hw4.trans (hB4.mono (Nat.le_of_lt p4))
  go_wp2_with fail
  refine (HL.out _ _ _ hW4 (HP4.out _ hB4)).mono ?_
  rintro e w5 ⟨rfl, hb5⟩
  obtain ⟨hc5, hf5⟩ := bcell hb5
  have hz5 := hb5.size
  simp at hz5
  have hw5 := hW4.trans (hb5.mono hW4.size)
  have hB5 := hB4.trans (hb5.mono hB4.size)
  clear hb5
  have p5 : w.heap.size < w5.heap.size := by omega
  have s5 : w4.heap.size < w5.heap.size := by omega
  go_wp2_with fail
  refine (HA.out _ hw5).mono ?_
  rintro e w6 ⟨rfl, hb6⟩
  obtain ⟨hc6, hf6⟩ := bcell hb6
  have hw6 := hw5.trans (hb6.mono hw5.size)
  have hB6 := hB5.trans (hb6.mono hB5.size)
  have p6 : w.heap.size < w6.heap.size := Nat.lt_of_lt_of_le p5 hb6.size
  have s6 : w4.heap.size < w6.heap.size := Nat.lt_of_lt_of_le s5 hb6.size
  clear hb6
  go_wp2_with fail
  refine (HS.out _ hw6).mono ?_
  rintro e w7 ⟨rfl, hb7⟩
  obtain ⟨hc7, hf7⟩ := bcell hb7
  have hw7 := hw6.trans (hb7.mono hw6.size)
  have hB7 := hB6.trans (hb7.mono hB6.size)
  have s7 : w4.heap.size < w7.heap.size := Nat.lt_of_lt_of_le s6 hb7.size
  clear hb7
  go_wp2_with fail
  refine (HO.out _ _ _ hw7 (HP4.out _ hB7)).mono ?_
  rintro e w8 ⟨rfl, hb8⟩
  have hw8 := hw7.trans (hb8.mono hw7.size)
  clear hb8
  rcases HV.out with rfl | ⟨hne, rfl⟩
  all_goals (
    go_wp2_with fail
    refine (HW.out _).mono ?_
    rintro e w9 ⟨rfl, hb9⟩
    have hw9 := hw8.trans (hb9.mono hw8.size)
    clear hb9
    go_wp2_with fail
    go_ret
    exact ⟨rfl, hw9⟩)

theorem clearer_any (s : Shop) (a : Option Addr) (len cap : Nat) (q b1 b2 c1 c2 : Int) (x : Option Addr) (xlen xcap : Nat) (ns : List Int) (w : World) (hp : PigsAt w a len s.pigs) (hx : IntsAt w x xlen ns) :
    Calls Try.prog 8 #[.agg #[.int .i64 s.P, .int .i64 s.tl, .int .i64 s.th, .int .i64 s.al, .int .i64 s.ah, .int .i64 s.room, .int .i64 s.xl, .int .i64 s.xh, .int .i64 s.yl, .int .i64 s.yh, .slice a len cap], .agg #[.int .i64 q, .int .i64 b1, .int .i64 b2, .int .i64 c1, .int .i64 c2], .slice x xlen xcap] w fun e w' => e = .returned (.bool true) ∧ Below w.heap.size w w' := by
  rcases hr : s.ok with - | -
  · exact clearer_no1 s a len cap q b1 b2 c1 c2 x xlen xcap w hp hr (fun h => by cases h) (fun h => by cases h)
  rcases h1 : insideB b1 b2 s.tl s.th with - | -
  · exact clearer_no2 s a len cap q b1 b2 c1 c2 x xlen xcap w hp hr (fun _ => h1) (fun _ h => by cases h)
  rcases h2 : insideB c1 c2 s.al s.ah with - | -
  · exact clearer_no3 s a len cap q b1 b2 c1 c2 x xlen xcap w hp hr (fun _ => h1) (fun _ _ => h2)
  rcases hn : s.isAdd ns with - | -
  · exact clearer_notAdd s a len cap q b1 b2 c1 c2 x xlen xcap ns w hp hx hr h1 h2 hn
  · exact clearer_yes s a len cap q b1 b2 c1 c2 x xlen xcap ns w hp hx hr h1 h2 hn
end Go.Proofs.Ytajabapcmpmboaa
