/- PD PE, joined. -/
import Derived.Test.YtajabapcmpmboaaPB
import Derived.Test.YtajabapcmpmboaaMG
/- MetalEach: each truth. -/
namespace Go.Proofs.Ytajabapcmpmboaa
set_option linter.unusedVariables false
set_option linter.unusedSimpArgs false
open Go.RowKit

theorem rising_4 (p : Int → Bool) : risingB ([1, 2, 3, 4].filter p) 1 4 = true := by
  simp only [List.filter]
  cases p 1 <;> cases p 2 <;> cases p 3 <;> cases p 4 <;> rfl
theorem keepsB_all (s : Shop) (P tl th al ah : Int) : (∀ l ∈ [1, 2, 3, 4], keepsB s P tl th al ah l = true) ↔ safeI s P tl th al ah = 1 := by
  rw [safeI_1]
  simp only [List.mem_cons, List.not_mem_nil, or_false, forall_eq_or_imp, forall_eq, keepsB]
  simp only [if_true, show (2 : Int) ≠ 1 by decide, show (3 : Int) ≠ 1 by decide, show (3 : Int) ≠ 2 by decide, show (4 : Int) ≠ 1 by decide, show (4 : Int) ≠ 2 by decide, show (4 : Int) ≠ 3 by decide, if_false, decide_eq_true_eq]
  unfold allowLo allowHi
  generalize P * s.xl = a
  generalize P * s.xh = b
  generalize P * s.yl = c
  generalize P * s.yh = d
  constructor
  · rintro ⟨h1, h2, h3, h4⟩; omega
  · rintro ⟨⟨h1, h2⟩, h3, h4⟩; omega
theorem bad_nil (s : Shop) (ns : List Int) : (s.bad ns [1, 2, 3, 4]).length = 0 ↔ s.safeOf ns = 1 := by
  rw [List.length_eq_zero_iff]
  unfold Shop.bad Shop.safeOf
  rw [← keepsB_all, List.filter_eq_nil_iff]
  simp
/-- Whether the first k limits are kept. -/
def allTo (s : Shop) (P a b : Int) (k : Nat) : Bool := (List.range k).all fun j => keepsR s ((j : Int) + 1) P a b
theorem allTo_succ (s : Shop) (P a b : Int) (k : Nat) : allTo s P a b (k + 1) = (allTo s P a b k && keepsR s ((k : Int) + 1) P a b) := by
  simp [allTo, List.range_succ, List.all_append]
theorem allTo_4 (s : Shop) (P a b : Int) : allTo s P a b 4 = true ↔ (P * s.xl ≤ 1000 * a ∧ 1000 * a ≤ P * s.xh) ∧ (P * s.yl ≤ 1000 * b ∧ 1000 * b ≤ P * s.yh) := by
  have e : allTo s P a b 4 = (keepsR s 1 P a b && keepsR s 2 P a b && keepsR s 3 P a b && keepsR s 4 P a b) := by
    simp [allTo, List.range_succ, Bool.and_assoc]
  rw [e]
  simp only [keepsR, Bool.and_eq_true]
  simp only [if_true, show (2 : Int) ≠ 1 by decide, show (3 : Int) ≠ 1 by decide, show (3 : Int) ≠ 2 by decide, show (4 : Int) ≠ 1 by decide, show (4 : Int) ≠ 2 by decide, show (4 : Int) ≠ 3 by decide, if_false, decide_eq_true_eq]
  constructor
  · rintro ⟨⟨⟨h1, h2⟩, h3⟩, h4⟩; exact ⟨⟨h1, h2⟩, h3, h4⟩
  · rintro ⟨⟨h1, h2⟩, h3, h4⟩; exact ⟨⟨⟨h1, h2⟩, h3⟩, h4⟩
/-- What Safe says of each truth. -/
theorem each_all (s : Shop) (ns : List Int) (a b : Int) (ha : s.tl + tot Pig.t s.pigs ns ≤ a ∧ a ≤ s.th + tot Pig.t s.pigs ns) (hb : s.al + tot Pig.a s.pigs ns ≤ b ∧ b ≤ s.ah + tot Pig.a s.pigs ns) :
    (s.safeOf ns = 1 ∧ allTo s (s.P + tot Pig.P s.pigs ns) a b 4 = true) ∨ (s.safeOf ns = 2 ∧ allTo s (s.P + tot Pig.P s.pigs ns) a b 4 = false) ∨ s.safeOf ns = 3 := by
  have h3 := safeOf_in s ns
  simp only [btw, decide_eq_true_eq] at h3
  rcases (by omega : s.safeOf ns = 1 ∨ s.safeOf ns = 2 ∨ s.safeOf ns = 3) with h | h | h
  · refine .inl ⟨h, ?_⟩
    rw [allTo_4]
    rw [safeOf_verdict, verdict_1] at h
    unfold allowLo allowHi at h
    generalize (s.P + tot Pig.P s.pigs ns) * s.xl = e1 at *
    generalize (s.P + tot Pig.P s.pigs ns) * s.xh = e2 at *
    generalize (s.P + tot Pig.P s.pigs ns) * s.yl = e3 at *
    generalize (s.P + tot Pig.P s.pigs ns) * s.yh = e4 at *
    omega
  · refine .inr (.inl ⟨h, ?_⟩)
    rw [safeOf_verdict, verdict_2] at h
    rcases hc : allTo s (s.P + tot Pig.P s.pigs ns) a b 4 with - | -
    · rfl
    · exfalso
      rw [allTo_4] at hc
      unfold allowLo allowHi at h
      generalize (s.P + tot Pig.P s.pigs ns) * s.xl = e1 at *
      generalize (s.P + tot Pig.P s.pigs ns) * s.xh = e2 at *
      generalize (s.P + tot Pig.P s.pigs ns) * s.yl = e3 at *
      generalize (s.P + tot Pig.P s.pigs ns) * s.yh = e4 at *
      omega
  · exact .inr (.inr h)
/-- A limit that is not kept in some truth is in Fails. -/
theorem each_bad (s : Shop) (ns : List Int) (a b : Int) (ha : s.tl + tot Pig.t s.pigs ns ≤ a ∧ a ≤ s.th + tot Pig.t s.pigs ns) (hb : s.al + tot Pig.a s.pigs ns ≤ b ∧ b ≤ s.ah + tot Pig.a s.pigs ns)
    (l : Int) (hl : 1 ≤ l ∧ l ≤ 4) (hk : keepsR s l (s.P + tot Pig.P s.pigs ns) a b = false) : l ∈ s.bad ns [1, 2, 3, 4] := by
  have hm : l ∈ [1, 2, 3, 4] := by
    have : l = 1 ∨ l = 2 ∨ l = 3 ∨ l = 4 := by omega
    simpa using this
  refine List.mem_filter.2 ⟨hm, ?_⟩
  rcases hB : keepsB s (s.P + tot Pig.P s.pigs ns) (s.tl + tot Pig.t s.pigs ns) (s.th + tot Pig.t s.pigs ns) (s.al + tot Pig.a s.pigs ns) (s.ah + tot Pig.a s.pigs ns) l with - | -
  · rfl
  · exfalso
    unfold keepsB at hB
    unfold keepsR at hk
    generalize (s.P + tot Pig.P s.pigs ns) * s.xl = e1 at *
    generalize (s.P + tot Pig.P s.pigs ns) * s.xh = e2 at *
    generalize (s.P + tot Pig.P s.pigs ns) * s.yl = e3 at *
    generalize (s.P + tot Pig.P s.pigs ns) * s.yh = e4 at *
    split at hB
    · rw [if_pos (by assumption)] at hk; have h1 := of_decide_eq_true hB; have h2 := of_decide_eq_false hk; omega
    · rw [if_neg (by assumption)] at hk
      split at hB
      · rw [if_pos (by assumption)] at hk; have h1 := of_decide_eq_true hB; have h2 := of_decide_eq_false hk; omega
      · rw [if_neg (by assumption)] at hk
        split at hB
        · rw [if_pos (by assumption)] at hk; have h1 := of_decide_eq_true hB; have h2 := of_decide_eq_false hk; omega
        · rw [if_neg (by assumption)] at hk; have h1 := of_decide_eq_true hB; have h2 := of_decide_eq_false hk; omega
end Go.Proofs.Ytajabapcmpmboaa

/- MetalEach. -/
namespace Go.Proofs.Ytajabapcmpmboaa
set_option linter.unusedVariables false
set_option linter.unusedSimpArgs false
open Go.RowKit

theorem refKeeps_is (s : Shop) (a : Option Addr) (len cap : Nat) (l P t x : Int) (hl : 1 ≤ l ∧ l ≤ 4) (b : Bool) (h : keepsR s l P t x = b) (w : World) (hP : 0 ≤ P ∧ P ≤ 2000) (hL : ((0 ≤ s.xl ∧ s.xl ≤ 1000) ∧ (0 ≤ s.xh ∧ s.xh ≤ 1000)) ∧ ((0 ≤ s.yl ∧ s.yl ≤ 1000) ∧ (0 ≤ s.yh ∧ s.yh ≤ 1000))) (f1 : Fair t) (f2 : Fair x) :
    Calls Try.prog 54 #[.agg #[.int .i64 s.P, .int .i64 s.tl, .int .i64 s.th, .int .i64 s.al, .int .i64 s.ah, .int .i64 s.room, .int .i64 s.xl, .int .i64 s.xh, .int .i64 s.yl, .int .i64 s.yh, .slice a len cap], .int .i64 l, .int .i64 P, .int .i64 t, .int .i64 x] w fun e w' => e = .returned (.bool b) ∧ Below w.heap.size w w' := by
  subst h
  have : l = 1 ∨ l = 2 ∨ l = 3 ∨ l = 4 := by omega
  rcases this with rfl | rfl | rfl | rfl
  · exact refKeeps_1 s a len cap P t x w hP hL.1.1 f1
  · exact refKeeps_2 s a len cap P t x w hP hL.1.2 f1
  · exact refKeeps_3 s a len cap P t x w hP hL.2.1 f2
  · exact refKeeps_4 s a len cap P t x w hP hL.2.2 f2

def truthB (s : Shop) (t a : Int) : Bool := btw t s.tl s.th && btw a s.al s.ah
set_option maxRecDepth 100000 in
set_option maxHeartbeats 400000 in
theorem isTruth_any (s : Shop) (a : Option Addr) (len cap : Nat) (t x : Int) (w : World) :
    Calls Try.prog 47 #[.agg #[.int .i64 s.P, .int .i64 s.tl, .int .i64 s.th, .int .i64 s.al, .int .i64 s.ah, .int .i64 s.room, .int .i64 s.xl, .int .i64 s.xh, .int .i64 s.yl, .int .i64 s.yh, .slice a len cap], .agg #[.int .i64 t, .int .i64 x]] w fun e w' => e = .returned (.bool (truthB s t x)) ∧ Below w.heap.size w w' := by
  rcases h1 : btw t s.tl s.th with - | -
  · have H1 := Lib.hid (fun w1 => Within_is t s.tl s.th _ h1 w1)
    have HE := Lib.hid (show truthB s t x = false by simp [truthB, h1])
    clear h1
    go_enter Try.func47, Try.ntmps47
    go_wp2_with fail
    refine (H1.out _).mono ?_
    rintro e w1 ⟨rfl, rfl⟩
    go_wp2_with fail
    go_ret
    exact ⟨ret_bool HE.out.symm, (by repeat (first | exact Below.refl _ _ | (refine Below.alloc ?_ (by first | omega | (simp; omega) | simp) _) | (refine Below.setCell ?_ (by first | omega | (simp; omega) | simp) _) | refine Below.drew ?_))⟩
  · have H1 := Lib.hid (fun w1 => Within_is t s.tl s.th _ h1 w1)
    have H2 := Lib.hid (fun w1 => Within_any x s.al s.ah w1)
    have HE := Lib.hid (show truthB s t x = btw x s.al s.ah by simp [truthB, h1])
    clear h1
    generalize btw x s.al s.ah = b at *
    go_enter Try.func47, Try.ntmps47
    go_wp2_with fail
    refine (H1.out _).mono ?_
    rintro e w1 ⟨rfl, rfl⟩
    go_wp2_with fail
    refine (H2.out _).mono ?_
    rintro e w1 ⟨rfl, rfl⟩
    go_wp2_with fail
    all_goals (go_ret; exact ⟨ret_bool HE.out.symm, (by repeat (first | exact Below.refl _ _ | (refine Below.alloc ?_ (by first | omega | (simp; omega) | simp) _) | (refine Below.setCell ?_ (by first | omega | (simp; omega) | simp) _) | refine Below.drew ?_))⟩)
theorem isTruth_is (s : Shop) (a : Option Addr) (len cap : Nat) (t x : Int) (b : Bool) (h : truthB s t x = b) (w : World) :
    Calls Try.prog 47 #[.agg #[.int .i64 s.P, .int .i64 s.tl, .int .i64 s.th, .int .i64 s.al, .int .i64 s.ah, .int .i64 s.room, .int .i64 s.xl, .int .i64 s.xh, .int .i64 s.yl, .int .i64 s.yh, .slice a len cap], .agg #[.int .i64 t, .int .i64 x]] w fun e w' => e = .returned (.bool b) ∧ Below w.heap.size w w' := h ▸ isTruth_any s a len cap t x w

theorem bothS2 {P : Program} {f : FuncId} {args : Array Value} {W0 w1 : World} {R : Ending → World → Prop} (h : Calls P f args w1 fun e w' => R e w' ∧ Below w1.heap.size w1 w')
    (h1 : Below W0.heap.size W0 w1 ∧ ∀ b o, b < W0.heap.size → w1.cell? ⟨b, o, none⟩ = W0.cell? ⟨b, o, none⟩) :
    Calls P f args w1 fun e w' => R e w' ∧ (Below W0.heap.size W0 w' ∧ ∀ b o, b < W0.heap.size → w'.cell? ⟨b, o, none⟩ = W0.cell? ⟨b, o, none⟩) ∧
      (∀ b o, b < w1.heap.size → w'.cell? ⟨b, o, none⟩ = w1.cell? ⟨b, o, none⟩) ∧ (∀ b o, b < w1.heap.size → w'.frozen? ⟨b, o, none⟩ = w1.frozen? ⟨b, o, none⟩) ∧ w1.heap.size ≤ w'.heap.size :=
  h.mono fun e w' ⟨he, hb⟩ => ⟨he, bothS_step h1 (hb.mono h1.1.size), fun b o hbo => hb.cell (p := ⟨b, o, none⟩) hbo, fun b o hbo => hb.frozen (p := ⟨b, o, none⟩) hbo, hb.size⟩

set_option maxRecDepth 100000 in
set_option maxHeartbeats 1000000 in
theorem each_no1 (s : Shop) (a : Option Addr) (len cap : Nat) (x : Option Addr) (xlen xcap : Nat) (ns : List Int) (ta tb : Int) (w : World) (hp : PigsAt w a len s.pigs) (hx : IntsAt w x xlen ns) (hr : s.ok = false) (h1 : false = true → s.isAdd ns = true) (h2 : false = true → true = true → truthB s ta tb = true) :
    Calls Try.prog 6 #[.agg #[.int .i64 s.P, .int .i64 s.tl, .int .i64 s.th, .int .i64 s.al, .int .i64 s.ah, .int .i64 s.room, .int .i64 s.xl, .int .i64 s.xh, .int .i64 s.yl, .int .i64 s.yh, .slice a len cap], .slice x xlen xcap, .agg #[.int .i64 ta, .int .i64 tb]] w fun e w' => e = .returned (.bool true) ∧ Below w.heap.size w w' := by
  have HR := Lib.hid (fun w1 (hb : Below w.heap.size w w1) => ready_is s a len cap false hr w1 (hp.below hb))
  have H1 := Lib.hid (fun (h : false = true) w1 (hb : Below w.heap.size w w1) => (h1 h) ▸ isAddition_law s a len cap x xlen xcap ns w1 (hp.below hb) (hx.below hb) (hr.trans h))
  have H2 := Lib.hid (fun (h : false = true) (k : true = true) w1 => isTruth_is s a len cap ta tb true (h2 h k) w1)
  have HW := Lib.hid (fun w1 => works_any w1)
  clear hp hr h1 h2 hx
  go_enter Try.func6, Try.ntmps6
  go_wp2_with fail
  refine (HR.out _ (by repeat (first | exact Below.refl _ _ | (refine Below.alloc ?_ (by first | omega | (simp; omega) | simp) _) | (refine Below.setCell ?_ (by first | omega | (simp; omega) | simp) _) | refine Below.drew ?_))).mono ?_; rintro e w1 ⟨rfl, hb1⟩; obtain ⟨hc1, hf1⟩ := bcell hb1; have hz1 := hb1.size; (try simp at hz1); have hw1 := ((by repeat (first | assumption | exact Below.refl _ _ | (refine Below.alloc ?_ (by first | omega | (simp; omega) | simp) _) | (refine Below.setCell ?_ (by first | omega | (simp; omega) | simp) _) | refine Below.drew ?_)) : Below w.heap.size w _).trans (hb1.mono (by first | (simp; done) | (simp; omega) | omega)); clear hb1; have p1 : w.heap.size < w1.heap.size := (by omega); have r1 : w.heap.size + 1 < w1.heap.size := (by omega); go_wp2_with fail
  first
    | refine (HW.out _).mono ?_; rintro e w2 ⟨rfl, hb2⟩; obtain ⟨hc2, hf2⟩ := bcell hb2; have hz2 := hb2.size; (try simp at hz2); have hw2 := ((by repeat (first | assumption | exact Below.refl _ _ | (refine Below.alloc ?_ (by first | omega | (simp; omega) | simp) _) | (refine Below.setCell ?_ (by first | omega | (simp; omega) | simp) _) | refine Below.drew ?_)) : Below w.heap.size w _).trans (hb2.mono (by first | (simp; done) | (simp; omega) | omega)); clear hb2; have p2 : w.heap.size < w2.heap.size := (by omega); have r2 : w.heap.size + 1 < w2.heap.size := (by omega); go_wp2_with fail
    | (refine (H1.out (by trivial) _ hw1).mono ?_; rintro e w3 ⟨rfl, hb3⟩; obtain ⟨hc3, hf3⟩ := bcell hb3; have hz3 := hb3.size; (try simp at hz3); have hw3 := ((by repeat (first | assumption | exact Below.refl _ _ | (refine Below.alloc ?_ (by first | omega | (simp; omega) | simp) _) | (refine Below.setCell ?_ (by first | omega | (simp; omega) | simp) _) | refine Below.drew ?_)) : Below w.heap.size w _).trans (hb3.mono (by first | (simp; done) | (simp; omega) | omega)); clear hb3; have p3 : w.heap.size < w3.heap.size := (by omega); have r3 : w.heap.size + 1 < w3.heap.size := (by omega); go_wp2_with fail
       first
         | refine (HW.out _).mono ?_; rintro e w4 ⟨rfl, hb4⟩; obtain ⟨hc4, hf4⟩ := bcell hb4; have hz4 := hb4.size; (try simp at hz4); have hw4 := ((by repeat (first | assumption | exact Below.refl _ _ | (refine Below.alloc ?_ (by first | omega | (simp; omega) | simp) _) | (refine Below.setCell ?_ (by first | omega | (simp; omega) | simp) _) | refine Below.drew ?_)) : Below w.heap.size w _).trans (hb4.mono (by first | (simp; done) | (simp; omega) | omega)); clear hb4; have p4 : w.heap.size < w4.heap.size := (by omega); have r4 : w.heap.size + 1 < w4.heap.size := (by omega); go_wp2_with fail
         | (refine (H2.out (by trivial) (by trivial) _).mono ?_; rintro e w5 ⟨rfl, hb5⟩; obtain ⟨hc5, hf5⟩ := bcell hb5; have hz5 := hb5.size; (try simp at hz5); have hw5 := ((by repeat (first | assumption | exact Below.refl _ _ | (refine Below.alloc ?_ (by first | omega | (simp; omega) | simp) _) | (refine Below.setCell ?_ (by first | omega | (simp; omega) | simp) _) | refine Below.drew ?_)) : Below w.heap.size w _).trans (hb5.mono (by first | (simp; done) | (simp; omega) | omega)); clear hb5; have p5 : w.heap.size < w5.heap.size := (by omega); have r5 : w.heap.size + 1 < w5.heap.size := (by omega); go_wp2_with fail
            refine (HW.out _).mono ?_; rintro e w6 ⟨rfl, hb6⟩; obtain ⟨hc6, hf6⟩ := bcell hb6; have hz6 := hb6.size; (try simp at hz6); have hw6 := ((by repeat (first | assumption | exact Below.refl _ _ | (refine Below.alloc ?_ (by first | omega | (simp; omega) | simp) _) | (refine Below.setCell ?_ (by first | omega | (simp; omega) | simp) _) | refine Below.drew ?_)) : Below w.heap.size w _).trans (hb6.mono (by first | (simp; done) | (simp; omega) | omega)); clear hb6; have p6 : w.heap.size < w6.heap.size := (by omega); have r6 : w.heap.size + 1 < w6.heap.size := (by omega); go_wp2_with fail))
  go_ret
  exact ⟨rfl, (by repeat (first | assumption | exact Below.refl _ _ | (refine Below.alloc ?_ (by first | omega | (simp; omega) | simp) _) | (refine Below.setCell ?_ (by first | omega | (simp; omega) | simp) _) | refine Below.drew ?_))⟩
set_option maxRecDepth 100000 in
set_option maxHeartbeats 1000000 in
theorem each_no2 (s : Shop) (a : Option Addr) (len cap : Nat) (x : Option Addr) (xlen xcap : Nat) (ns : List Int) (ta tb : Int) (w : World) (hp : PigsAt w a len s.pigs) (hx : IntsAt w x xlen ns) (hr : s.ok = true) (h1 : true = true → s.isAdd ns = false) (h2 : true = true → false = true → truthB s ta tb = true) :
    Calls Try.prog 6 #[.agg #[.int .i64 s.P, .int .i64 s.tl, .int .i64 s.th, .int .i64 s.al, .int .i64 s.ah, .int .i64 s.room, .int .i64 s.xl, .int .i64 s.xh, .int .i64 s.yl, .int .i64 s.yh, .slice a len cap], .slice x xlen xcap, .agg #[.int .i64 ta, .int .i64 tb]] w fun e w' => e = .returned (.bool true) ∧ Below w.heap.size w w' := by
  have HR := Lib.hid (fun w1 (hb : Below w.heap.size w w1) => ready_is s a len cap true hr w1 (hp.below hb))
  have H1 := Lib.hid (fun (h : true = true) w1 (hb : Below w.heap.size w w1) => (h1 h) ▸ isAddition_law s a len cap x xlen xcap ns w1 (hp.below hb) (hx.below hb) (hr.trans h))
  have H2 := Lib.hid (fun (h : true = true) (k : false = true) w1 => isTruth_is s a len cap ta tb true (h2 h k) w1)
  have HW := Lib.hid (fun w1 => works_any w1)
  clear hp hr h1 h2 hx
  go_enter Try.func6, Try.ntmps6
  go_wp2_with fail
  refine (HR.out _ (by repeat (first | exact Below.refl _ _ | (refine Below.alloc ?_ (by first | omega | (simp; omega) | simp) _) | (refine Below.setCell ?_ (by first | omega | (simp; omega) | simp) _) | refine Below.drew ?_))).mono ?_; rintro e w1 ⟨rfl, hb1⟩; obtain ⟨hc1, hf1⟩ := bcell hb1; have hz1 := hb1.size; (try simp at hz1); have hw1 := ((by repeat (first | assumption | exact Below.refl _ _ | (refine Below.alloc ?_ (by first | omega | (simp; omega) | simp) _) | (refine Below.setCell ?_ (by first | omega | (simp; omega) | simp) _) | refine Below.drew ?_)) : Below w.heap.size w _).trans (hb1.mono (by first | (simp; done) | (simp; omega) | omega)); clear hb1; have p1 : w.heap.size < w1.heap.size := (by omega); have r1 : w.heap.size + 1 < w1.heap.size := (by omega); go_wp2_with fail
  first
    | refine (HW.out _).mono ?_; rintro e w2 ⟨rfl, hb2⟩; obtain ⟨hc2, hf2⟩ := bcell hb2; have hz2 := hb2.size; (try simp at hz2); have hw2 := ((by repeat (first | assumption | exact Below.refl _ _ | (refine Below.alloc ?_ (by first | omega | (simp; omega) | simp) _) | (refine Below.setCell ?_ (by first | omega | (simp; omega) | simp) _) | refine Below.drew ?_)) : Below w.heap.size w _).trans (hb2.mono (by first | (simp; done) | (simp; omega) | omega)); clear hb2; have p2 : w.heap.size < w2.heap.size := (by omega); have r2 : w.heap.size + 1 < w2.heap.size := (by omega); go_wp2_with fail
    | (refine (H1.out (by trivial) _ hw1).mono ?_; rintro e w3 ⟨rfl, hb3⟩; obtain ⟨hc3, hf3⟩ := bcell hb3; have hz3 := hb3.size; (try simp at hz3); have hw3 := ((by repeat (first | assumption | exact Below.refl _ _ | (refine Below.alloc ?_ (by first | omega | (simp; omega) | simp) _) | (refine Below.setCell ?_ (by first | omega | (simp; omega) | simp) _) | refine Below.drew ?_)) : Below w.heap.size w _).trans (hb3.mono (by first | (simp; done) | (simp; omega) | omega)); clear hb3; have p3 : w.heap.size < w3.heap.size := (by omega); have r3 : w.heap.size + 1 < w3.heap.size := (by omega); go_wp2_with fail
       first
         | refine (HW.out _).mono ?_; rintro e w4 ⟨rfl, hb4⟩; obtain ⟨hc4, hf4⟩ := bcell hb4; have hz4 := hb4.size; (try simp at hz4); have hw4 := ((by repeat (first | assumption | exact Below.refl _ _ | (refine Below.alloc ?_ (by first | omega | (simp; omega) | simp) _) | (refine Below.setCell ?_ (by first | omega | (simp; omega) | simp) _) | refine Below.drew ?_)) : Below w.heap.size w _).trans (hb4.mono (by first | (simp; done) | (simp; omega) | omega)); clear hb4; have p4 : w.heap.size < w4.heap.size := (by omega); have r4 : w.heap.size + 1 < w4.heap.size := (by omega); go_wp2_with fail
         | (refine (H2.out (by trivial) (by trivial) _).mono ?_; rintro e w5 ⟨rfl, hb5⟩; obtain ⟨hc5, hf5⟩ := bcell hb5; have hz5 := hb5.size; (try simp at hz5); have hw5 := ((by repeat (first | assumption | exact Below.refl _ _ | (refine Below.alloc ?_ (by first | omega | (simp; omega) | simp) _) | (refine Below.setCell ?_ (by first | omega | (simp; omega) | simp) _) | refine Below.drew ?_)) : Below w.heap.size w _).trans (hb5.mono (by first | (simp; done) | (simp; omega) | omega)); clear hb5; have p5 : w.heap.size < w5.heap.size := (by omega); have r5 : w.heap.size + 1 < w5.heap.size := (by omega); go_wp2_with fail
            refine (HW.out _).mono ?_; rintro e w6 ⟨rfl, hb6⟩; obtain ⟨hc6, hf6⟩ := bcell hb6; have hz6 := hb6.size; (try simp at hz6); have hw6 := ((by repeat (first | assumption | exact Below.refl _ _ | (refine Below.alloc ?_ (by first | omega | (simp; omega) | simp) _) | (refine Below.setCell ?_ (by first | omega | (simp; omega) | simp) _) | refine Below.drew ?_)) : Below w.heap.size w _).trans (hb6.mono (by first | (simp; done) | (simp; omega) | omega)); clear hb6; have p6 : w.heap.size < w6.heap.size := (by omega); have r6 : w.heap.size + 1 < w6.heap.size := (by omega); go_wp2_with fail))
  go_ret
  exact ⟨rfl, (by repeat (first | assumption | exact Below.refl _ _ | (refine Below.alloc ?_ (by first | omega | (simp; omega) | simp) _) | (refine Below.setCell ?_ (by first | omega | (simp; omega) | simp) _) | refine Below.drew ?_))⟩
set_option maxRecDepth 100000 in
set_option maxHeartbeats 1000000 in
theorem each_no3 (s : Shop) (a : Option Addr) (len cap : Nat) (x : Option Addr) (xlen xcap : Nat) (ns : List Int) (ta tb : Int) (w : World) (hp : PigsAt w a len s.pigs) (hx : IntsAt w x xlen ns) (hr : s.ok = true) (h1 : true = true → s.isAdd ns = true) (h2 : true = true → true = true → truthB s ta tb = false) :
    Calls Try.prog 6 #[.agg #[.int .i64 s.P, .int .i64 s.tl, .int .i64 s.th, .int .i64 s.al, .int .i64 s.ah, .int .i64 s.room, .int .i64 s.xl, .int .i64 s.xh, .int .i64 s.yl, .int .i64 s.yh, .slice a len cap], .slice x xlen xcap, .agg #[.int .i64 ta, .int .i64 tb]] w fun e w' => e = .returned (.bool true) ∧ Below w.heap.size w w' := by
  have HR := Lib.hid (fun w1 (hb : Below w.heap.size w w1) => ready_is s a len cap true hr w1 (hp.below hb))
  have H1 := Lib.hid (fun (h : true = true) w1 (hb : Below w.heap.size w w1) => (h1 h) ▸ isAddition_law s a len cap x xlen xcap ns w1 (hp.below hb) (hx.below hb) (hr.trans h))
  have H2 := Lib.hid (fun (h : true = true) (k : true = true) w1 => isTruth_is s a len cap ta tb false (h2 h k) w1)
  have HW := Lib.hid (fun w1 => works_any w1)
  clear hp hr h1 h2 hx
  go_enter Try.func6, Try.ntmps6
  go_wp2_with fail
  refine (HR.out _ (by repeat (first | exact Below.refl _ _ | (refine Below.alloc ?_ (by first | omega | (simp; omega) | simp) _) | (refine Below.setCell ?_ (by first | omega | (simp; omega) | simp) _) | refine Below.drew ?_))).mono ?_; rintro e w1 ⟨rfl, hb1⟩; obtain ⟨hc1, hf1⟩ := bcell hb1; have hz1 := hb1.size; (try simp at hz1); have hw1 := ((by repeat (first | assumption | exact Below.refl _ _ | (refine Below.alloc ?_ (by first | omega | (simp; omega) | simp) _) | (refine Below.setCell ?_ (by first | omega | (simp; omega) | simp) _) | refine Below.drew ?_)) : Below w.heap.size w _).trans (hb1.mono (by first | (simp; done) | (simp; omega) | omega)); clear hb1; have p1 : w.heap.size < w1.heap.size := (by omega); have r1 : w.heap.size + 1 < w1.heap.size := (by omega); go_wp2_with fail
  first
    | refine (HW.out _).mono ?_; rintro e w2 ⟨rfl, hb2⟩; obtain ⟨hc2, hf2⟩ := bcell hb2; have hz2 := hb2.size; (try simp at hz2); have hw2 := ((by repeat (first | assumption | exact Below.refl _ _ | (refine Below.alloc ?_ (by first | omega | (simp; omega) | simp) _) | (refine Below.setCell ?_ (by first | omega | (simp; omega) | simp) _) | refine Below.drew ?_)) : Below w.heap.size w _).trans (hb2.mono (by first | (simp; done) | (simp; omega) | omega)); clear hb2; have p2 : w.heap.size < w2.heap.size := (by omega); have r2 : w.heap.size + 1 < w2.heap.size := (by omega); go_wp2_with fail
    | (refine (H1.out (by trivial) _ hw1).mono ?_; rintro e w3 ⟨rfl, hb3⟩; obtain ⟨hc3, hf3⟩ := bcell hb3; have hz3 := hb3.size; (try simp at hz3); have hw3 := ((by repeat (first | assumption | exact Below.refl _ _ | (refine Below.alloc ?_ (by first | omega | (simp; omega) | simp) _) | (refine Below.setCell ?_ (by first | omega | (simp; omega) | simp) _) | refine Below.drew ?_)) : Below w.heap.size w _).trans (hb3.mono (by first | (simp; done) | (simp; omega) | omega)); clear hb3; have p3 : w.heap.size < w3.heap.size := (by omega); have r3 : w.heap.size + 1 < w3.heap.size := (by omega); go_wp2_with fail
       first
         | refine (HW.out _).mono ?_; rintro e w4 ⟨rfl, hb4⟩; obtain ⟨hc4, hf4⟩ := bcell hb4; have hz4 := hb4.size; (try simp at hz4); have hw4 := ((by repeat (first | assumption | exact Below.refl _ _ | (refine Below.alloc ?_ (by first | omega | (simp; omega) | simp) _) | (refine Below.setCell ?_ (by first | omega | (simp; omega) | simp) _) | refine Below.drew ?_)) : Below w.heap.size w _).trans (hb4.mono (by first | (simp; done) | (simp; omega) | omega)); clear hb4; have p4 : w.heap.size < w4.heap.size := (by omega); have r4 : w.heap.size + 1 < w4.heap.size := (by omega); go_wp2_with fail
         | (refine (H2.out (by trivial) (by trivial) _).mono ?_; rintro e w5 ⟨rfl, hb5⟩; obtain ⟨hc5, hf5⟩ := bcell hb5; have hz5 := hb5.size; (try simp at hz5); have hw5 := ((by repeat (first | assumption | exact Below.refl _ _ | (refine Below.alloc ?_ (by first | omega | (simp; omega) | simp) _) | (refine Below.setCell ?_ (by first | omega | (simp; omega) | simp) _) | refine Below.drew ?_)) : Below w.heap.size w _).trans (hb5.mono (by first | (simp; done) | (simp; omega) | omega)); clear hb5; have p5 : w.heap.size < w5.heap.size := (by omega); have r5 : w.heap.size + 1 < w5.heap.size := (by omega); go_wp2_with fail
            refine (HW.out _).mono ?_; rintro e w6 ⟨rfl, hb6⟩; obtain ⟨hc6, hf6⟩ := bcell hb6; have hz6 := hb6.size; (try simp at hz6); have hw6 := ((by repeat (first | assumption | exact Below.refl _ _ | (refine Below.alloc ?_ (by first | omega | (simp; omega) | simp) _) | (refine Below.setCell ?_ (by first | omega | (simp; omega) | simp) _) | refine Below.drew ?_)) : Below w.heap.size w _).trans (hb6.mono (by first | (simp; done) | (simp; omega) | omega)); clear hb6; have p6 : w.heap.size < w6.heap.size := (by omega); have r6 : w.heap.size + 1 < w6.heap.size := (by omega); go_wp2_with fail))
  go_ret
  exact ⟨rfl, (by repeat (first | assumption | exact Below.refl _ _ | (refine Below.alloc ?_ (by first | omega | (simp; omega) | simp) _) | (refine Below.setCell ?_ (by first | omega | (simp; omega) | simp) _) | refine Below.drew ?_))⟩
end Go.Proofs.Ytajabapcmpmboaa
