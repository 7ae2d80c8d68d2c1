/- The laws' helpers. -/
import Derived.Test.YtojmimfjnnibdaaLE
import Derived.Test.YtojmimfjnnibdaaRG
import Derived.Test.YtojmimfjnnibdaaRJ
namespace Go.Proofs.Ytojmimfjnnibdaa
set_option linter.unusedVariables false
set_option linter.unusedSimpArgs false
open Go.RowKit

theorem ret_ib {a b : Int} {x y : Bool} (h : a = b) (k : x = y) : Ending.returned (.tuple #[.int .i64 a, .bool x]) = .returned (.tuple #[.int .i64 b, .bool y]) := by rw [h, k]

set_option maxHeartbeats 1000000 in
theorem ready_any (s : Shop) (a : Option Addr) (len cap : Nat) (w : World) (hp : PigsAt w a len s.pigs) :
    Calls Try.prog 45 #[.agg #[.int .i64 s.P, .int .i64 s.tl, .int .i64 s.th, .int .i64 s.al, .int .i64 s.ah, .int .i64 s.room, .int .i64 s.xl, .int .i64 s.xh, .int .i64 s.yl, .int .i64 s.yh, .slice a len cap]] w fun e w' => e = .returned (.bool s.ok) ∧ Below w.heap.size w w' := by
  rcases Nat.lt_or_ge 40 len with h40 | h40
  · have HH := Lib.hid (fun w1 => Huge_any s a len cap w1)
    have HN := Lib.hid (show s.ok = false by
      rcases h : s.ok with - | -
      · rfl
      · have := Shop.ok_bd h; have := hp.1; omega)
    have hd : decide (40 < len) = true := by simpa using h40
    rw [hd] at HH
    clear hp h40 hd
    go_enter Try.func45, Try.ntmps45
    go_wp2_with fail
    refine (HH.out _).mono ?_
    rintro e w1 ⟨rfl, hb1⟩
    have HB := Lib.hid (((by repeat (first | exact Below.refl _ _ | (refine Below.alloc ?_ (by first | omega | (simp; omega) | simp) _) | (refine Below.setCell ?_ (by first | omega | (simp; omega) | simp) _) | refine Below.drew ?_)) : Below w.heap.size w _).trans (hb1.mono (by simp)))
    clear hb1
    go_wp2_with fail
    go_ret
    exact ⟨ret_bool HN.out.symm, HB.out⟩
  · have HH := Lib.hid (fun w1 => Huge_any s a len cap w1)
    have hd : decide (40 < len) = false := by simpa using h40
    rw [hd] at HH
    rcases ho : s.ok with - | -
    · have HC := Lib.hid (fun w1 (hb : Below w.heap.size w w1) => refCheck_is s a len cap 10 (by simp [Shop.chk, ho]) w1 (hp.below hb))
      clear hp h40 hd ho
      go_enter Try.func45, Try.ntmps45
      go_wp2_with fail
      refine (HH.out _).mono ?_
      rintro e w1 ⟨rfl, hb1⟩
      obtain ⟨hc1, hf1⟩ := bcell hb1
      have hz1 := hb1.size
      simp at hz1
      have hbw := (((by repeat (first | exact Below.refl _ _ | (refine Below.alloc ?_ (by first | omega | (simp; omega) | simp) _) | (refine Below.setCell ?_ (by first | omega | (simp; omega) | simp) _) | refine Below.drew ?_)) : Below w.heap.size w _).trans (hb1.mono (by simp)))
      clear hb1
      have q2 : w.heap.size < w1.heap.size := by omega
      go_wp2_with fail
      refine (HC.out _ hbw).mono ?_
      rintro e w2 ⟨rfl, hb2⟩
      have HB := Lib.hid (hbw.trans (hb2.mono hbw.size))
      clear hb2 hbw
      go_wp2_with fail
      go_ret
      exact ⟨rfl, HB.out⟩
    · have HC := Lib.hid (fun w1 (hb : Below w.heap.size w w1) => refCheck_is s a len cap 0 (by simp [Shop.chk, ho]) w1 (hp.below hb))
      clear hp h40 hd ho
      go_enter Try.func45, Try.ntmps45
      go_wp2_with fail
      refine (HH.out _).mono ?_
      rintro e w1 ⟨rfl, hb1⟩
      obtain ⟨hc1, hf1⟩ := bcell hb1
      have hz1 := hb1.size
      simp at hz1
      have hbw := (((by repeat (first | exact Below.refl _ _ | (refine Below.alloc ?_ (by first | omega | (simp; omega) | simp) _) | (refine Below.setCell ?_ (by first | omega | (simp; omega) | simp) _) | refine Below.drew ?_)) : Below w.heap.size w _).trans (hb1.mono (by simp)))
      clear hb1
      have q2 : w.heap.size < w1.heap.size := by omega
      go_wp2_with fail
      refine (HC.out _ hbw).mono ?_
      rintro e w2 ⟨rfl, hb2⟩
      have HB := Lib.hid (hbw.trans (hb2.mono hbw.size))
      clear hb2 hbw
      go_wp2_with fail
      go_ret
      exact ⟨rfl, HB.out⟩

def insideB (a b c d : Int) : Bool := decide (c ≤ a ∧ a ≤ b ∧ b ≤ d)
set_option maxHeartbeats 400000 in
theorem inside_any (a b c d : Int) (w : World) :
    Calls Try.prog 60 #[.agg #[.int .i64 a, .int .i64 b], .agg #[.int .i64 c, .int .i64 d]] w fun e w' => e = .returned (.bool (insideB a b c d)) ∧ Below w.heap.size w w' := by
  by_cases h1 : c ≤ a
  · by_cases h2 : a ≤ b
    · by_cases h3 : b ≤ d
      · have HE := Lib.hid (show insideB a b c d = true by simp [insideB, h1, h2, h3])
        go_enter Try.func60, Try.ntmps60
        go_wp2
        go_ret
        exact ⟨ret_bool HE.out.symm, (by repeat (first | exact Below.refl _ _ | (refine Below.alloc ?_ (by first | omega | (simp; omega) | simp) _) | (refine Below.setCell ?_ (by first | omega | (simp; omega) | simp) _) | refine Below.drew ?_))⟩
      · have HE := Lib.hid (show insideB a b c d = false by simp [insideB, h1, h2, h3])
        go_enter Try.func60, Try.ntmps60
        go_wp2
        go_ret
        exact ⟨ret_bool HE.out.symm, (by repeat (first | exact Below.refl _ _ | (refine Below.alloc ?_ (by first | omega | (simp; omega) | simp) _) | (refine Below.setCell ?_ (by first | omega | (simp; omega) | simp) _) | refine Below.drew ?_))⟩
    · have HE := Lib.hid (show insideB a b c d = false by simp [insideB, h2])
      go_enter Try.func60, Try.ntmps60
      go_wp2
      go_ret
      exact ⟨ret_bool HE.out.symm, (by repeat (first | exact Below.refl _ _ | (refine Below.alloc ?_ (by first | omega | (simp; omega) | simp) _) | (refine Below.setCell ?_ (by first | omega | (simp; omega) | simp) _) | refine Below.drew ?_))⟩
  · have HE := Lib.hid (show insideB a b c d = false by simp [insideB, h1])
    go_enter Try.func60, Try.ntmps60
    go_wp2
    go_ret
    exact ⟨ret_bool HE.out.symm, (by repeat (first | exact Below.refl _ _ | (refine Below.alloc ?_ (by first | omega | (simp; omega) | simp) _) | (refine Below.setCell ?_ (by first | omega | (simp; omega) | simp) _) | refine Below.drew ?_))⟩
theorem inside_is (a b c d : Int) (x : Bool) (h : insideB a b c d = x) (w : World) :
    Calls Try.prog 60 #[.agg #[.int .i64 a, .int .i64 b], .agg #[.int .i64 c, .int .i64 d]] w fun e w' => e = .returned (.bool x) ∧ Below w.heap.size w w' := h ▸ inside_any a b c d w

/-- What the cheapest safe addition costs, or the least tin of one; far more if there is none. -/
def Shop.costN (s : Shop) (f : Nat) : Int := match s.best f with
  | none => 100000
  | some (_, m) => m
theorem tin_fair {s : Shop} {y : List Int} {m : Int} (ho : s.ok = true) (h : s.best 1 = some (y, m)) : 0 ≤ m ∧ m ≤ 2000 := by
  obtain ⟨h1, rfl⟩ := best_mem _ _ _ h
  have h2 := (List.mem_filter.1 h1).1
  have hl := allL_len _ _ h2
  simp only [Shop.most, List.length_map] at hl
  have := tot_all Pig.t bd_tin s.pigs y (Shop.few_all ho h2) rfl hl
  have hbd := Shop.ok_bd ho
  simp only [askF, if_true]
  simp
  omega

set_option maxHeartbeats 1000000 in
theorem cheap_any (s : Shop) (a : Option Addr) (len cap : Nat) (w : World) (hp : PigsAt w a len s.pigs) (ho : s.ok = true) :
    Calls Try.prog 56 #[.agg #[.int .i64 s.P, .int .i64 s.tl, .int .i64 s.th, .int .i64 s.al, .int .i64 s.ah, .int .i64 s.room, .int .i64 s.xl, .int .i64 s.xh, .int .i64 s.yl, .int .i64 s.yh, .slice a len cap]] w fun e w' => e = .returned (.tuple #[.int .i64 (s.costN 0), .bool true]) ∧ Below w.heap.size w w' := by
  rcases hb : s.best 0 with - | ⟨y, m⟩
  · have HL := fun w1 (hb1 : Below w.heap.size w w1) => Cheap_any s a len cap w1 (hp.below hb1)
    rw [show s.least 0 = (0, 3) by simp [Shop.least, ho, hb]] at HL
    replace HL := Lib.hid HL
    have HE := Lib.hid (show s.costN 0 = 100000 by simp [Shop.costN, hb])
    clear hp hb ho
    go_enter Try.func56, Try.ntmps56
    go_wp2_with fail
    refine (HL.out _ (by repeat (first | exact Below.refl _ _ | (refine Below.alloc ?_ (by first | omega | (simp; omega) | simp) _) | (refine Below.setCell ?_ (by first | omega | (simp; omega) | simp) _) | refine Below.drew ?_))).mono ?_
    rintro e w1 ⟨rfl, hb1⟩
    have HB := Lib.hid (((by repeat (first | exact Below.refl _ _ | (refine Below.alloc ?_ (by first | omega | (simp; omega) | simp) _) | (refine Below.setCell ?_ (by first | omega | (simp; omega) | simp) _) | refine Below.drew ?_)) : Below w.heap.size w _).trans (hb1.mono (by simp)))
    clear hb1
    go_wp2_with fail
    go_ret2
    exact ⟨ret_ib HE.out.symm rfl, HB.out⟩
  · have HL := fun w1 (hb1 : Below w.heap.size w w1) => Cheap_any s a len cap w1 (hp.below hb1)
    rw [show s.least 0 = (m, 0) by simp [Shop.least, ho, hb]] at HL
    replace HL := Lib.hid HL
    have HE := Lib.hid (show s.costN 0 = m by simp [Shop.costN, hb])
    obtain ⟨f1, f2⟩ := cheap_fair ho hb
    clear hp hb ho
    go_enter Try.func56, Try.ntmps56
    go_wp2_with fail
    refine (HL.out _ (by repeat (first | exact Below.refl _ _ | (refine Below.alloc ?_ (by first | omega | (simp; omega) | simp) _) | (refine Below.setCell ?_ (by first | omega | (simp; omega) | simp) _) | refine Below.drew ?_))).mono ?_
    rintro e w1 ⟨rfl, hb1⟩
    have HB := Lib.hid (((by repeat (first | exact Below.refl _ _ | (refine Below.alloc ?_ (by first | omega | (simp; omega) | simp) _) | (refine Below.setCell ?_ (by first | omega | (simp; omega) | simp) _) | refine Below.drew ?_)) : Below w.heap.size w _).trans (hb1.mono (by simp)))
    clear hb1
    go_wp2_with fail
    go_ret2
    exact ⟨ret_ib HE.out.symm (by simp; omega), HB.out⟩
set_option maxHeartbeats 1000000 in
theorem tin_any (s : Shop) (a : Option Addr) (len cap : Nat) (w : World) (hp : PigsAt w a len s.pigs) (ho : s.ok = true) :
    Calls Try.prog 57 #[.agg #[.int .i64 s.P, .int .i64 s.tl, .int .i64 s.th, .int .i64 s.al, .int .i64 s.ah, .int .i64 s.room, .int .i64 s.xl, .int .i64 s.xh, .int .i64 s.yl, .int .i64 s.yh, .slice a len cap]] w fun e w' => e = .returned (.tuple #[.int .i64 (s.costN 1), .bool true]) ∧ Below w.heap.size w w' := by
  rcases hb : s.best 1 with - | ⟨y, m⟩
  · have HL := fun w1 (hb1 : Below w.heap.size w w1) => Tin_any s a len cap w1 (hp.below hb1)
    rw [show s.least 1 = (0, 3) by simp [Shop.least, ho, hb]] at HL
    replace HL := Lib.hid HL
    have HE := Lib.hid (show s.costN 1 = 100000 by simp [Shop.costN, hb])
    clear hp hb ho
    go_enter Try.func57, Try.ntmps57
    go_wp2_with fail
    refine (HL.out _ (by repeat (first | exact Below.refl _ _ | (refine Below.alloc ?_ (by first | omega | (simp; omega) | simp) _) | (refine Below.setCell ?_ (by first | omega | (simp; omega) | simp) _) | refine Below.drew ?_))).mono ?_
    rintro e w1 ⟨rfl, hb1⟩
    have HB := Lib.hid (((by repeat (first | exact Below.refl _ _ | (refine Below.alloc ?_ (by first | omega | (simp; omega) | simp) _) | (refine Below.setCell ?_ (by first | omega | (simp; omega) | simp) _) | refine Below.drew ?_)) : Below w.heap.size w _).trans (hb1.mono (by simp)))
    clear hb1
    go_wp2_with fail
    go_ret2
    exact ⟨ret_ib HE.out.symm rfl, HB.out⟩
  · have HL := fun w1 (hb1 : Below w.heap.size w w1) => Tin_any s a len cap w1 (hp.below hb1)
    rw [show s.least 1 = (m, 0) by simp [Shop.least, ho, hb]] at HL
    replace HL := Lib.hid HL
    have HE := Lib.hid (show s.costN 1 = m by simp [Shop.costN, hb])
    obtain ⟨f1, f2⟩ := tin_fair ho hb
    clear hp hb ho
    go_enter Try.func57, Try.ntmps57
    go_wp2_with fail
    refine (HL.out _ (by repeat (first | exact Below.refl _ _ | (refine Below.alloc ?_ (by first | omega | (simp; omega) | simp) _) | (refine Below.setCell ?_ (by first | omega | (simp; omega) | simp) _) | refine Below.drew ?_))).mono ?_
    rintro e w1 ⟨rfl, hb1⟩
    have HB := Lib.hid (((by repeat (first | exact Below.refl _ _ | (refine Below.alloc ?_ (by first | omega | (simp; omega) | simp) _) | (refine Below.setCell ?_ (by first | omega | (simp; omega) | simp) _) | refine Below.drew ?_)) : Below w.heap.size w _).trans (hb1.mono (by simp)))
    clear hb1
    go_wp2_with fail
    go_ret2
    exact ⟨ret_ib HE.out.symm (by simp; omega), HB.out⟩

set_option maxHeartbeats 1000000 in
theorem isAddition_law (s : Shop) (a : Option Addr) (len cap : Nat) (x : Option Addr) (xlen xcap : Nat) (ns : List Int) (w : World) (hp : PigsAt w a len s.pigs) (hx : IntsAt w x xlen ns) (ho : s.ok = true) :
    Calls Try.prog 46 #[.agg #[.int .i64 s.P, .int .i64 s.tl, .int .i64 s.th, .int .i64 s.al, .int .i64 s.ah, .int .i64 s.room, .int .i64 s.xl, .int .i64 s.xh, .int .i64 s.yl, .int .i64 s.yh, .slice a len cap], .slice x xlen xcap] w fun e w' => e = .returned (.bool (s.isAdd ns)) ∧ Below w.heap.size w w' := by
  have hl4 : len ≤ 4 := by have := Shop.ok_bd ho; have := hp.1; omega
  have hxl := hx.1
  have hxm := hx.2.1
  unfold maxLen at hxm
  have HI := Lib.hid (fun w1 (hb : Below w.heap.size w w1) => refIsAddition_any s a len cap x xlen xcap ns w1 (hp.below hb) (hx.below hb) ho)
  rcases Nat.lt_or_ge 40 xlen with h40 | h40
  · have HN := Lib.hid (show s.isAdd ns = false by
      have : ns.length ≠ s.pigs.length := by have := hp.1; omega
      simp [Shop.isAdd, this])
    have h41 : ¬ (xlen : Int) ≤ 40 := by omega
    clear hp hx hxl
    go_enter Try.func46, Try.ntmps46
    go_wp2_with fail
    go_ret
    exact ⟨ret_bool HN.out.symm, (by repeat (first | exact Below.refl _ _ | (refine Below.alloc ?_ (by first | omega | (simp; omega) | simp) _) | (refine Below.setCell ?_ (by first | omega | (simp; omega) | simp) _) | refine Below.drew ?_))⟩
  · have h41 : (xlen : Int) ≤ 40 := by omega
    clear hp hx hxl
    go_enter Try.func46, Try.ntmps46
    go_wp2_with fail
    refine (HI.out _ (by repeat (first | exact Below.refl _ _ | (refine Below.alloc ?_ (by first | omega | (simp; omega) | simp) _) | (refine Below.setCell ?_ (by first | omega | (simp; omega) | simp) _) | refine Below.drew ?_))).mono ?_
    rintro e w1 ⟨rfl, hb1⟩
    have HB := Lib.hid (((by repeat (first | exact Below.refl _ _ | (refine Below.alloc ?_ (by first | omega | (simp; omega) | simp) _) | (refine Below.setCell ?_ (by first | omega | (simp; omega) | simp) _) | refine Below.drew ?_)) : Below w.heap.size w _).trans (hb1.mono (by simp)))
    clear hb1
    go_wp2_with fail
    go_ret
    exact ⟨rfl, HB.out⟩

/-- less(o, s): the cheapest safe addition and the least tin of one of o. -/
def lessB (o s : Shop) : Bool := decide (o.costN 0 ≤ s.costN 0) && decide (o.costN 1 ≤ s.costN 1)
set_option maxHeartbeats 1000000 in
theorem less_any (o s : Shop) (a : Option Addr) (len cap : Nat) (b : Option Addr) (blen bcap : Nat) (w : World) (hp : PigsAt w a len o.pigs) (hq : PigsAt w b blen s.pigs) (ho : o.ok = true) (hs : s.ok = true) :
    Calls Try.prog 61 #[.agg #[.int .i64 o.P, .int .i64 o.tl, .int .i64 o.th, .int .i64 o.al, .int .i64 o.ah, .int .i64 o.room, .int .i64 o.xl, .int .i64 o.xh, .int .i64 o.yl, .int .i64 o.yh, .slice a len cap], .agg #[.int .i64 s.P, .int .i64 s.tl, .int .i64 s.th, .int .i64 s.al, .int .i64 s.ah, .int .i64 s.room, .int .i64 s.xl, .int .i64 s.xh, .int .i64 s.yl, .int .i64 s.yh, .slice b blen bcap]] w fun e w' => e = .returned (.bool (lessB o s)) ∧ Below w.heap.size w w' := by
  have H1 := Lib.hid (fun w1 (h : Below w.heap.size w w1) => cheap_any o a len cap w1 (hp.below h) ho)
  have H2 := Lib.hid (fun w1 (h : Below w.heap.size w w1) => cheap_any s b blen bcap w1 (hq.below h) hs)
  have H3 := Lib.hid (fun w1 (h : Below w.heap.size w w1) => tin_any o a len cap w1 (hp.below h) ho)
  have H4 := Lib.hid (fun w1 (h : Below w.heap.size w w1) => tin_any s b blen bcap w1 (hq.below h) hs)
  have HE := Lib.hid (show lessB o s = (decide (o.costN 0 ≤ s.costN 0) && decide (o.costN 1 ≤ s.costN 1)) from rfl)
  generalize o.costN 0 = c1 at *
  generalize s.costN 0 = c2 at *
  generalize o.costN 1 = c3 at *
  generalize s.costN 1 = c4 at *
  clear hp hq ho hs
  go_enter Try.func61, Try.ntmps61
  go_wp2_with fail
  refine (H1.out _ (by repeat (first | exact Below.refl _ _ | (refine Below.alloc ?_ (by first | omega | (simp; omega) | simp) _) | (refine Below.setCell ?_ (by first | omega | (simp; omega) | simp) _) | refine Below.drew ?_))).mono ?_
  rintro e w1 ⟨rfl, hb1⟩
  obtain ⟨hc1, hf1⟩ := bcell hb1
  have hz1 := hb1.size
  simp at hz1
  have hw1 := (((by repeat (first | exact Below.refl _ _ | (refine Below.alloc ?_ (by first | omega | (simp; omega) | simp) _) | (refine Below.setCell ?_ (by first | omega | (simp; omega) | simp) _) | refine Below.drew ?_)) : Below w.heap.size w _).trans (hb1.mono (by first | (simp; done) | (simp; omega) | omega)))
  clear hb1
  have p1 : w.heap.size < w1.heap.size := by omega
  have r1 : w.heap.size + 1 < w1.heap.size := by omega
  go_wp2_with fail
  refine (H2.out _ hw1).mono ?_
  rintro e w2 ⟨rfl, hb2⟩
  obtain ⟨hc2, hf2⟩ := bcell hb2
  have hz2 := hb2.size
  have hw2 := (hw1.trans (hb2.mono hw1.size))
  clear hb2
  have p2 : w.heap.size < w2.heap.size := by omega
  have r2 : w.heap.size + 1 < w2.heap.size := by omega
  go_wp2_with fail
  refine (H3.out _ hw2).mono ?_
  rintro e w3 ⟨rfl, hb3⟩
  obtain ⟨hc3, hf3⟩ := bcell hb3
  have hz3 := hb3.size
  have hw3 := (hw2.trans (hb3.mono hw2.size))
  clear hb3
  have p3 : w.heap.size < w3.heap.size := by omega
  have r3 : w.heap.size + 1 < w3.heap.size := by omega
  go_wp2_with fail
  refine (H4.out _ hw3).mono ?_
  rintro e w4 ⟨rfl, hb4⟩
  obtain ⟨hc4, hf4⟩ := bcell hb4
  have hz4 := hb4.size
  have hw4 := (hw3.trans (hb4.mono hw3.size))
  clear hb4
  have p4 : w.heap.size < w4.heap.size := by omega
  have r4 : w.heap.size + 1 < w4.heap.size := by omega
  go_wp2_with fail
  all_goals (go_ret; refine ⟨ret_bool ?_, hw4⟩; have hE := HE.out; clear HE H1 H2 H3 H4; rw [hE]; (first | (simp [*]; done) | (simp; omega)))
end Go.Proofs.Ytojmimfjnnibdaa
