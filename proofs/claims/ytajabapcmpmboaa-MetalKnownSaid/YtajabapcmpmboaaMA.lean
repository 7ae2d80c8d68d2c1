/- MA MB, joined. -/
import Derived.Test.YtajabapcmpmboaaLC
import Derived.Test.YtajabapcmpmboaaRE
import Derived.Test.YtajabapcmpmboaaRJ
import Derived.Test.YtajabapcmpmboaaLA
import Derived.Deep.RegionLaw
/- The laws' helpers. -/
namespace Go.Proofs.Ytajabapcmpmboaa
set_option linter.unusedVariables false
set_option linter.unusedSimpArgs false
open Go.RowKit

theorem ret_ib {a b : Int} {x y : Bool} (h : a = b) (k : x = y) : Ending.returned (.tuple #[.int .i64 a, .bool x]) = .returned (.tuple #[.int .i64 b, .bool y]) := by rw [h, k]

set_option maxHeartbeats 1000000 in
theorem ready_any (s : Shop) (a : Option Addr) (len cap : Nat) (w : World) (hp : PigsAt w a len s.pigs) :
    Calls Try.prog 45 #[.agg #[.int .i64 s.P, .int .i64 s.tl, .int .i64 s.th, .int .i64 s.al, .int .i64 s.ah, .int .i64 s.room, .int .i64 s.xl, .int .i64 s.xh, .int .i64 s.yl, .int .i64 s.yh, .slice a len cap]] w fun e w' => e = .returned (.bool s.ok) ∧ Below w.heap.size w w' := by
  rcases Nat.lt_or_ge 40 len with h40 | h40
  · have HH := Lib.hid (fun w1 => Huge_any s a len cap w1)
    have HN := Lib.hid (show s.ok = false by
      rcases h : s.ok with - | -
      · rfl
      · have := Shop.ok_bd h; have := hp.1; omega)
    have hd : decide (40 < len) = true := by simpa using h40
    rw [hd] at HH
    clear hp h40 hd
    go_enter Try.func45, Try.ntmps45
    go_wp2_with fail
    refine (HH.out _).mono ?_
    rintro e w1 ⟨rfl, hb1⟩
    have HB := Lib.hid (((by repeat (first | exact Below.refl _ _ | (refine Below.alloc ?_ (by first | omega | (simp; omega) | simp) _) | (refine Below.setCell ?_ (by first | omega | (simp; omega) | simp) _) | refine Below.drew ?_)) : Below w.heap.size w _).trans (hb1.mono (by simp)))
    clear hb1
    go_wp2_with fail
    go_ret
    exact ⟨ret_bool HN.out.symm, HB.out⟩
  · have HH := Lib.hid (fun w1 => Huge_any s a len cap w1)
    have hd : decide (40 < len) = false := by simpa using h40
    rw [hd] at HH
    rcases ho : s.ok with - | -
    · have HC := Lib.hid (fun w1 (hb : Below w.heap.size w w1) => refCheck_is s a len cap 10 (by simp [Shop.chk, ho]) w1 (hp.below hb))
      clear hp h40 hd ho
      go_enter Try.func45, Try.ntmps45
      go_wp2_with fail
      refine (HH.out _).mono ?_
      rintro e w1 ⟨rfl, hb1⟩
      obtain ⟨hc1, hf1⟩ := bcell hb1
      have hz1 := hb1.size
      simp at hz1
      have hbw := (((by repeat (first | exact Below.refl _ _ | (refine Below.alloc ?_ (by first | omega | (simp; omega) | simp) _) | (refine Below.setCell ?_ (by first | omega | (simp; omega) | simp) _) | refine Below.drew ?_)) : Below w.heap.size w _).trans (hb1.mono (by simp)))
      clear hb1
      have q2 : w.heap.size < w1.heap.size := by omega
      go_wp2_with fail
      refine (HC.out _ hbw).mono ?_
      rintro e w2 ⟨rfl, hb2⟩
      have HB := Lib.hid (hbw.trans (hb2.mono hbw.size))
      clear hb2 hbw
      go_wp2_with fail
      go_ret
      exact ⟨rfl, HB.out⟩
    · have HC := Lib.hid (fun w1 (hb : Below w.heap.size w w1) => refCheck_is s a len cap 0 (by simp [Shop.chk, ho]) w1 (hp.below hb))
      clear hp h40 hd ho
      go_enter Try.func45, Try.ntmps45
      go_wp2_with fail
      refine (HH.out _).mono ?_
      rintro e w1 ⟨rfl, hb1⟩
      obtain ⟨hc1, hf1⟩ := bcell hb1
      have hz1 := hb1.size
      simp at hz1
      have hbw := (((by repeat (first | exact Below.refl _ _ | (refine Below.alloc ?_ (by first | omega | (simp; omega) | simp) _) | (refine Below.setCell ?_ (by first | omega | (simp; omega) | simp) _) | refine Below.drew ?_)) : Below w.heap.size w _).trans (hb1.mono (by simp)))
      clear hb1
      have q2 : w.heap.size < w1.heap.size := by omega
      go_wp2_with fail
      refine (HC.out _ hbw).mono ?_
      rintro e w2 ⟨rfl, hb2⟩
      have HB := Lib.hid (hbw.trans (hb2.mono hbw.size))
      clear hb2 hbw
      go_wp2_with fail
      go_ret
      exact ⟨rfl, HB.out⟩

def insideB (a b c d : Int) : Bool := decide (c ≤ a ∧ a ≤ b ∧ b ≤ d)
set_option maxHeartbeats 400000 in
theorem inside_any (a b c d : Int) (w : World) :
    Calls Try.prog 60 #[.agg #[.int .i64 a, .int .i64 b], .agg #[.int .i64 c, .int .i64 d]] w fun e w' => e = .returned (.bool (insideB a b c d)) ∧ Below w.heap.size w w' := by
  by_cases h1 : c ≤ a
  · by_cases h2 : a ≤ b
    · by_cases h3 : b ≤ d
      · have HE := Lib.hid (show insideB a b c d = true by simp [insideB, h1, h2, h3])
        go_enter Try.func60, Try.ntmps60
        go_wp2
        go_ret
        exact ⟨ret_bool HE.out.symm, (by repeat (first | exact Below.refl _ _ | (refine Below.alloc ?_ (by first | omega | (simp; omega) | simp) _) | (refine Below.setCell ?_ (by first | omega | (simp; omega) | simp) _) | refine Below.drew ?_))⟩
      · have HE := Lib.hid (show insideB a b c d = false by simp [insideB, h1, h2, h3])
        go_enter Try.func60, Try.ntmps60
        go_wp2
        go_ret
        exact ⟨ret_bool HE.out.symm, (by repeat (first | exact Below.refl _ _ | (refine Below.alloc ?_ (by first | omega | (simp; omega) | simp) _) | (refine Below.setCell ?_ (by first | omega | (simp; omega) | simp) _) | refine Below.drew ?_))⟩
    · have HE := Lib.hid (show insideB a b c d = false by simp [insideB, h2])
      go_enter Try.func60, Try.ntmps60
      go_wp2
      go_ret
      exact ⟨ret_bool HE.out.symm, (by repeat (first | exact Below.refl _ _ | (refine Below.alloc ?_ (by first | omega | (simp; omega) | simp) _) | (refine Below.setCell ?_ (by first | omega | (simp; omega) | simp) _) | refine Below.drew ?_))⟩
  · have HE := Lib.hid (show insideB a b c d = false by simp [insideB, h1])
    go_enter Try.func60, Try.ntmps60
    go_wp2
    go_ret
    exact ⟨ret_bool HE.out.symm, (by repeat (first | exact Below.refl _ _ | (refine Below.alloc ?_ (by first | omega | (simp; omega) | simp) _) | (refine Below.setCell ?_ (by first | omega | (simp; omega) | simp) _) | refine Below.drew ?_))⟩
theorem inside_is (a b c d : Int) (x : Bool) (h : insideB a b c d = x) (w : World) :
    Calls Try.prog 60 #[.agg #[.int .i64 a, .int .i64 b], .agg #[.int .i64 c, .int .i64 d]] w fun e w' => e = .returned (.bool x) ∧ Below w.heap.size w w' := h ▸ inside_any a b c d w

/-- What the cheapest safe addition costs, or the least tin of one; far more if there is none. -/
def Shop.costN (s : Shop) (f : Nat) : Int := match s.best f with
  | none => 100000
  | some (_, m) => m
theorem tin_fair {s : Shop} {y : List Int} {m : Int} (ho : s.ok = true) (h : s.best 1 = some (y, m)) : 0 ≤ m ∧ m ≤ 2000 := by
  obtain ⟨h1, rfl⟩ := best_mem _ _ _ h
  have h2 := (List.mem_filter.1 h1).1
  have hl := allL_len _ _ h2
  simp only [Shop.most, List.length_map] at hl
  have := tot_all Pig.t bd_tin s.pigs y (Shop.few_all ho h2) rfl hl
  have hbd := Shop.ok_bd ho
  simp only [askF, if_true]
  simp
  omega

set_option maxHeartbeats 1000000 in
theorem cheap_any (s : Shop) (a : Option Addr) (len cap : Nat) (w : World) (hp : PigsAt w a len s.pigs) (ho : s.ok = true) :
    Calls Try.prog 56 #[.agg #[.int .i64 s.P, .int .i64 s.tl, .int .i64 s.th, .int .i64 s.al, .int .i64 s.ah, .int .i64 s.room, .int .i64 s.xl, .int .i64 s.xh, .int .i64 s.yl, .int .i64 s.yh, .slice a len cap]] w fun e w' => e = .returned (.tuple #[.int .i64 (s.costN 0), .bool true]) ∧ Below w.heap.size w w' := by
  rcases hb : s.best 0 with - | ⟨y, m⟩
  · have HL := fun w1 (hb1 : Below w.heap.size w w1) => Cheap_any s a len cap w1 (hp.below hb1)
    rw [show s.least 0 = (0, 3) by simp [Shop.least, ho, hb]] at HL
    replace HL := Lib.hid HL
    have HE := Lib.hid (show s.costN 0 = 100000 by simp [Shop.costN, hb])
    clear hp hb ho
    go_enter Try.func56, Try.ntmps56
    go_wp2_with fail
    refine (HL.out _ (by repeat (first | exact Below.refl _ _ | (refine Below.alloc ?_ (by first | omega | (simp; omega) | simp) _) | (refine Below.setCell ?_ (by first | omega | (simp; omega) | simp) _) | refine Below.drew ?_))).mono ?_
    rintro e w1 ⟨rfl, hb1⟩
    have HB := Lib.hid (((by repeat (first | exact Below.refl _ _ | (refine Below.alloc ?_ (by first | omega | (simp; omega) | simp) _) | (refine Below.setCell ?_ (by first | omega | (simp; omega) | simp) _) | refine Below.drew ?_)) : Below w.heap.size w _).trans (hb1.mono (by simp)))
    clear hb1
    go_wp2_with fail
    go_ret2
    exact ⟨ret_ib HE.out.symm rfl, HB.out⟩
  · have HL := fun w1 (hb1 : Below w.heap.size w w1) => Cheap_any s a len cap w1 (hp.below hb1)
    rw [show s.least 0 = (m, 0) by simp [Shop.least, ho, hb]] at HL
    replace HL := Lib.hid HL
    have HE := Lib.hid (show s.costN 0 = m by simp [Shop.costN, hb])
    obtain ⟨f1, f2⟩ := cheap_fair ho hb
    clear hp hb ho
    go_enter Try.func56, Try.ntmps56
    go_wp2_with fail
    refine (HL.out _ (by repeat (first | exact Below.refl _ _ | (refine Below.alloc ?_ (by first | omega | (simp; omega) | simp) _) | (refine Below.setCell ?_ (by first | omega | (simp; omega) | simp) _) | refine Below.drew ?_))).mono ?_
    rintro e w1 ⟨rfl, hb1⟩
    have HB := Lib.hid (((by repeat (first | exact Below.refl _ _ | (refine Below.alloc ?_ (by first | omega | (simp; omega) | simp) _) | (refine Below.setCell ?_ (by first | omega | (simp; omega) | simp) _) | refine Below.drew ?_)) : Below w.heap.size w _).trans (hb1.mono (by simp)))
    clear hb1
    go_wp2_with fail
    go_ret2
    exact ⟨ret_ib HE.out.symm (by simp; omega), HB.out⟩
set_option maxHeartbeats 1000000 in
theorem tin_any (s : Shop) (a : Option Addr) (len cap : Nat) (w : World) (hp : PigsAt w a len s.pigs) (ho : s.ok = true) :
    Calls Try.prog 57 #[.agg #[.int .i64 s.P, .int .i64 s.tl, .int .i64 s.th, .int .i64 s.al, .int .i64 s.ah, .int .i64 s.room, .int .i64 s.xl, .int .i64 s.xh, .int .i64 s.yl, .int .i64 s.yh, .slice a len cap]] w fun e w' => e = .returned (.tuple #[.int .i64 (s.costN 1), .bool true]) ∧ Below w.heap.size w w' := by
  rcases hb : s.best 1 with - | ⟨y, m⟩
  · have HL := fun w1 (hb1 : Below w.heap.size w w1) => Tin_any s a len cap w1 (hp.below hb1)
    rw [show s.least 1 = (0, 3) by simp [Shop.least, ho, hb]] at HL
    replace HL := Lib.hid HL
    have HE := Lib.hid (show s.costN 1 = 100000 by simp [Shop.costN, hb])
    clear hp hb ho
    go_enter Try.func57, Try.ntmps57
    go_wp2_with fail
    refine (HL.out _ (by repeat (first | exact Below.refl _ _ | (refine Below.alloc ?_ (by first | omega | (simp; omega) | simp) _) | (refine Below.setCell ?_ (by first | omega | (simp; omega) | simp) _) | refine Below.drew ?_))).mono ?_
    rintro e w1 ⟨rfl, hb1⟩
    have HB := Lib.hid (((by repeat (first | exact Below.refl _ _ | (refine Below.alloc ?_ (by first | omega | (simp; omega) | simp) _) | (refine Below.setCell ?_ (by first | omega | (simp; omega) | simp) _) | refine Below.drew ?_)) : Below w.heap.size w _).trans (hb1.mono (by simp)))
    clear hb1
    go_wp2_with fail
    go_ret2
    exact ⟨ret_ib HE.out.symm rfl, HB.out⟩
  · have HL := fun w1 (hb1 : Below w.heap.size w w1) => Tin_any s a len cap w1 (hp.below hb1)
    rw [show s.least 1 = (m, 0) by simp [Shop.least, ho, hb]] at HL
    replace HL := Lib.hid HL
    have HE := Lib.hid (show s.costN 1 = m by simp [Shop.costN, hb])
    obtain ⟨f1, f2⟩ := tin_fair ho hb
    clear hp hb ho
    go_enter Try.func57, Try.ntmps57
    go_wp2_with fail
    refine (HL.out _ (by repeat (first | exact Below.refl _ _ | (refine Below.alloc ?_ (by first | omega | (simp; omega) | simp) _) | (refine Below.setCell ?_ (by first | omega | (simp; omega) | simp) _) | refine Below.drew ?_))).mono ?_
    rintro e w1 ⟨rfl, hb1⟩
    have HB := Lib.hid (((by repeat (first | exact Below.refl _ _ | (refine Below.alloc ?_ (by first | omega | (simp; omega) | simp) _) | (refine Below.setCell ?_ (by first | omega | (simp; omega) | simp) _) | refine Below.drew ?_)) : Below w.heap.size w _).trans (hb1.mono (by simp)))
    clear hb1
    go_wp2_with fail
    go_ret2
    exact ⟨ret_ib HE.out.symm (by simp; omega), HB.out⟩

set_option maxHeartbeats 1000000 in
theorem isAddition_law (s : Shop) (a : Option Addr) (len cap : Nat) (x : Option Addr) (xlen xcap : Nat) (ns : List Int) (w : World) (hp : PigsAt w a len s.pigs) (hx : IntsAt w x xlen ns) (ho : s.ok = true) :
    Calls Try.prog 46 #[.agg #[.int .i64 s.P, .int .i64 s.tl, .int .i64 s.th, .int .i64 s.al, .int .i64 s.ah, .int .i64 s.room, .int .i64 s.xl, .int .i64 s.xh, .int .i64 s.yl, .int .i64 s.yh, .slice a len cap], .slice x xlen xcap] w fun e w' => e = .returned (.bool (s.isAdd ns)) ∧ Below w.heap.size w w' := by
  have hl4 : len ≤ 4 := by have := Shop.ok_bd ho; have := hp.1; omega
  have hxl := hx.1
  have hxm := hx.2.1
  unfold maxLen at hxm
  have HI := Lib.hid (fun w1 (hb : Below w.heap.size w w1) => refIsAddition_any s a len cap x xlen xcap ns w1 (hp.below hb) (hx.below hb) ho)
  rcases Nat.lt_or_ge 40 xlen with h40 | h40
  · have HN := Lib.hid (show s.isAdd ns = false by
      have : ns.length ≠ s.pigs.length := by have := hp.1; omega
      simp [Shop.isAdd, this])
    have h41 : ¬ (xlen : Int) ≤ 40 := by omega
    clear hp hx hxl
    go_enter Try.func46, Try.ntmps46
    go_wp2_with fail
    go_ret
    exact ⟨ret_bool HN.out.symm, (by repeat (first | exact Below.refl _ _ | (refine Below.alloc ?_ (by first | omega | (simp; omega) | simp) _) | (refine Below.setCell ?_ (by first | omega | (simp; omega) | simp) _) | refine Below.drew ?_))⟩
  · have h41 : (xlen : Int) ≤ 40 := by omega
    clear hp hx hxl
    go_enter Try.func46, Try.ntmps46
    go_wp2_with fail
    refine (HI.out _ (by repeat (first | exact Below.refl _ _ | (refine Below.alloc ?_ (by first | omega | (simp; omega) | simp) _) | (refine Below.setCell ?_ (by first | omega | (simp; omega) | simp) _) | refine Below.drew ?_))).mono ?_
    rintro e w1 ⟨rfl, hb1⟩
    have HB := Lib.hid (((by repeat (first | exact Below.refl _ _ | (refine Below.alloc ?_ (by first | omega | (simp; omega) | simp) _) | (refine Below.setCell ?_ (by first | omega | (simp; omega) | simp) _) | refine Below.drew ?_)) : Below w.heap.size w _).trans (hb1.mono (by simp)))
    clear hb1
    go_wp2_with fail
    go_ret
    exact ⟨rfl, HB.out⟩

/-- less(o, s): the cheapest safe addition and the least tin of one of o. -/
def lessB (o s : Shop) : Bool := decide (o.costN 0 ≤ s.costN 0) && decide (o.costN 1 ≤ s.costN 1)
set_option maxHeartbeats 1000000 in
theorem less_any (o s : Shop) (a : Option Addr) (len cap : Nat) (b : Option Addr) (blen bcap : Nat) (w : World) (hp : PigsAt w a len o.pigs) (hq : PigsAt w b blen s.pigs) (ho : o.ok = true) (hs : s.ok = true) :
    Calls Try.prog 61 #[.agg #[.int .i64 o.P, .int .i64 o.tl, .int .i64 o.th, .int .i64 o.al, .int .i64 o.ah, .int .i64 o.room, .int .i64 o.xl, .int .i64 o.xh, .int .i64 o.yl, .int .i64 o.yh, .slice a len cap], .agg #[.int .i64 s.P, .int .i64 s.tl, .int .i64 s.th, .int .i64 s.al, .int .i64 s.ah, .int .i64 s.room, .int .i64 s.xl, .int .i64 s.xh, .int .i64 s.yl, .int .i64 s.yh, .slice b blen bcap]] w fun e w' => e = .returned (.bool (lessB o s)) ∧ Below w.heap.size w w' := by
  have H1 := Lib.hid (fun w1 (h : Below w.heap.size w w1) => cheap_any o a len cap w1 (hp.below h) ho)
  have H2 := Lib.hid (fun w1 (h : Below w.heap.size w w1) => cheap_any s b blen bcap w1 (hq.below h) hs)
  have H3 := Lib.hid (fun w1 (h : Below w.heap.size w w1) => tin_any o a len cap w1 (hp.below h) ho)
  have H4 := Lib.hid (fun w1 (h : Below w.heap.size w w1) => tin_any s b blen bcap w1 (hq.below h) hs)
  have HE := Lib.hid (show lessB o s = (decide (o.costN 0 ≤ s.costN 0) && decide (o.costN 1 ≤ s.costN 1)) from rfl)
  generalize o.costN 0 = c1 at *
  generalize s.costN 0 = c2 at *
  generalize o.costN 1 = c3 at *
  generalize s.costN 1 = c4 at *
  clear hp hq ho hs
  go_enter Try.func61, Try.ntmps61
  go_wp2_with fail
  refine (H1.out _ (by repeat (first | exact Below.refl _ _ | (refine Below.alloc ?_ (by first | omega | (simp; omega) | simp) _) | (refine Below.setCell ?_ (by first | omega | (simp; omega) | simp) _) | refine Below.drew ?_))).mono ?_
  rintro e w1 ⟨rfl, hb1⟩
  obtain ⟨hc1, hf1⟩ := bcell hb1
  have hz1 := hb1.size
  simp at hz1
  have hw1 := (((by repeat (first | exact Below.refl _ _ | (refine Below.alloc ?_ (by first | omega | (simp; omega) | simp) _) | (refine Below.setCell ?_ (by first | omega | (simp; omega) | simp) _) | refine Below.drew ?_)) : Below w.heap.size w _).trans (hb1.mono (by first | (simp; done) | (simp; omega) | omega)))
  clear hb1
  have p1 : w.heap.size < w1.heap.size := by omega
  have r1 : w.heap.size + 1 < w1.heap.size := by omega
  go_wp2_with fail
  refine (H2.out _ hw1).mono ?_
  rintro e w2 ⟨rfl, hb2⟩
  obtain ⟨hc2, hf2⟩ := bcell hb2
  have hz2 := hb2.size
  have hw2 := (hw1.trans (hb2.mono hw1.size))
  clear hb2
  have p2 : w.heap.size < w2.heap.size := by omega
  have r2 : w.heap.size + 1 < w2.heap.size := by omega
  go_wp2_with fail
  refine (H3.out _ hw2).mono ?_
  rintro e w3 ⟨rfl, hb3⟩
  obtain ⟨hc3, hf3⟩ := bcell hb3
  have hz3 := hb3.size
  have hw3 := (hw2.trans (hb3.mono hw2.size))
  clear hb3
  have p3 : w.heap.size < w3.heap.size := by omega
  have r3 : w.heap.size + 1 < w3.heap.size := by omega
  go_wp2_with fail
  refine (H4.out _ hw3).mono ?_
  rintro e w4 ⟨rfl, hb4⟩
  obtain ⟨hc4, hf4⟩ := bcell hb4
  have hz4 := hb4.size
  have hw4 := (hw3.trans (hb4.mono hw3.size))
  clear hb4
  have p4 : w.heap.size < w4.heap.size := by omega
  have r4 : w.heap.size + 1 < w4.heap.size := by omega
  go_wp2_with fail
  all_goals (go_ret; refine ⟨ret_bool ?_, hw4⟩; have hE := HE.out; clear HE H1 H2 H3 H4; rw [hE]; (first | (simp [*]; done) | (simp; omega)))
end Go.Proofs.Ytajabapcmpmboaa

/- The laws' safe; what is least, in plain words. -/
namespace Go.Proofs.Ytajabapcmpmboaa
set_option linter.unusedVariables false
set_option linter.unusedSimpArgs false
open Go.RowKit

/-- What the walk for the least keeps. -/
def BestSpec (s : Shop) (f : List Int → Int) (l : List (List Int)) (o : Option (List Int × Int)) : Prop :=
  (o = none ∧ ∀ x ∈ l, s.safeOf x ≠ 1) ∨ ∃ y m, o = some (y, m) ∧ y ∈ l ∧ s.safeOf y = 1 ∧ m = f y ∧ ∀ x ∈ l, s.safeOf x = 1 → m ≤ f x
theorem best_spec (s : Shop) (f : List Int → Int) (l : List (List Int)) : BestSpec s f l (bestOf s f l) := by
  have key : ∀ (r pre : List (List Int)) (o : Option (List Int × Int)), BestSpec s f pre o → BestSpec s f (pre ++ r) (r.foldl (stepBest s f) o) := by
    intro r
    induction r with
    | nil => intro pre o h; simpa using h
    | cons x r ih =>
      intro pre o h
      rw [List.foldl_cons, show pre ++ x :: r = (pre ++ [x]) ++ r by simp]
      refine ih _ _ ?_
      unfold stepBest
      by_cases hx : s.safeOf x = 1
      · rw [if_pos hx]
        rcases h with ⟨rfl, hn⟩ | ⟨y, m, rfl, hy, hs, rfl, hm⟩
        · refine .inr ⟨x, f x, rfl, by simp, hx, rfl, fun z hz hz1 => ?_⟩
          rcases List.mem_append.1 hz with hz | hz
          · exact absurd hz1 (hn z hz)
          · rw [List.mem_singleton.1 hz]; exact Int.le_refl _
        · simp only
          split
          · rename_i hlt
            refine .inr ⟨x, f x, rfl, by simp, hx, rfl, fun z hz hz1 => ?_⟩
            rcases List.mem_append.1 hz with hz | hz
            · exact Int.le_trans (Int.le_of_lt hlt) (hm z hz hz1)
            · rw [List.mem_singleton.1 hz]; exact Int.le_refl _
          · rename_i hlt
            refine .inr ⟨y, f y, rfl, List.mem_append_left _ hy, hs, rfl, fun z hz hz1 => ?_⟩
            rcases List.mem_append.1 hz with hz | hz
            · exact hm z hz hz1
            · rw [List.mem_singleton.1 hz]; exact Int.not_lt.1 hlt
      · rw [if_neg hx]
        rcases h with ⟨rfl, hn⟩ | ⟨y, m, rfl, hy, hs, rfl, hm⟩
        · refine .inl ⟨rfl, fun z hz => ?_⟩
          rcases List.mem_append.1 hz with hz | hz
          · exact hn z hz
          · rw [List.mem_singleton.1 hz]; exact hx
        · refine .inr ⟨y, f y, rfl, List.mem_append_left _ hy, hs, rfl, fun z hz hz1 => ?_⟩
          rcases List.mem_append.1 hz with hz | hz
          · exact hm z hz hz1
          · rw [List.mem_singleton.1 hz] at hz1; exact absurd hz1 hx
  exact key l [] none (.inl ⟨rfl, fun _ h => by cases h⟩)
/-- More is safe at no greater price: what it costs is not greater. -/
theorem costN_le {o s : Shop} (f : Nat) (hf : ∀ x ∈ s.adds, askF f o x ≤ askF f s x) (ha : ∀ x ∈ s.adds, x ∈ o.adds) (hs : ∀ x ∈ s.adds, s.safeOf x = 1 → o.safeOf x = 1) (hb : ∀ y m, o.best f = some (y, m) → m ≤ 100000) : o.costN f ≤ s.costN f := by
  have h1 := best_spec o (askF f o) o.adds
  have h2 := best_spec s (askF f s) s.adds
  unfold Shop.costN
  change BestSpec _ _ _ (o.best f) at h1
  change BestSpec _ _ _ (s.best f) at h2
  rcases h2 with ⟨e2, hn⟩ | ⟨y, m, e2, hy, hs1, rfl, hm⟩
  · rw [e2]
    rcases h1 with ⟨e1, _⟩ | ⟨y, m, e1, _⟩
    · rw [e1]; exact Int.le_refl _
    · rw [e1]; exact hb y m e1
  · rw [e2]
    rcases h1 with ⟨e1, hn⟩ | ⟨z, n, e1, hz, hs2, rfl, hm2⟩
    · exact absurd (hs y hy hs1) (hn y (ha y hy))
    · rw [e1]; exact Int.le_trans (hm2 y (ha y hy) (hs y hy hs1)) (hf y hy)
theorem best_fair {s : Shop} (ho : s.ok = true) (f : Nat) (hf : f = 0 ∨ f = 1) : ∀ y m, s.best f = some (y, m) → m ≤ 100000 := by
  intro y m h
  rcases hf with rfl | rfl
  · have := cheap_fair ho h; omega
  · have := tin_fair ho h; omega

theorem run_append_ints (w : World) (t ty : TypeId) (ht : t = 29) (n0 b xlen xcap : Nat) (xa : Option Addr) (xs : List Int)
    (hrow : w.ownsRow n0 3 1 (.slice (some ⟨b, 0, none⟩) 0 0) 0 []) (hx : IntsAt w xa xlen xs) (hl : xlen ≤ 1000) (hn : n0 ≤ b) (hnw : n0 ≤ w.heap.size) :
    ∃ g cap' w3, (Builtin.append_ #[t, t] ty #[.slice (some ⟨b, 0, none⟩) 0 0, .slice xa xlen xcap]).run Try.prog w = .ok (.slice (some ⟨g, 0, none⟩) xlen cap') w3 ∧ IntsAt w3 (some ⟨g, 0, none⟩) xlen xs ∧ Below n0 w w3 := by
  subst ht
  obtain ⟨i0, hi, hy0, hy1, hy2⟩ := info_parts Try.info3
  obtain ⟨hxl, hxm, hxc⟩ := hx
  rcases Nat.eq_zero_or_pos xlen with h0 | h0
  · subst h0
    have hxs : xs = [] := List.length_eq_zero_iff.1 hxl
    subst hxs
    have hsrc : Src Try.prog i0.size 29 (.slice xa 0 xcap) 0 [] w := by
      cases xa with
      | none => exact Src.ofNil w Try.underlying29 xcap
      | some xa => exact Src.ofSlice w Try.underlying29 xa 0 xcap [] (by simp) (by simp) (by simp)
    exact ⟨b, 0, w, run_append_room_src (P := Try.prog) w 29 29 ty 3 i0 Try.underlying29 hi b 0 0 0 (.slice xa 0 xcap) 0 [] hsrc (by omega) (by simp) (by simp), ⟨rfl, by decide, fun h => by omega⟩, Below.refl _ _⟩
  · obtain ⟨pb, po, rfl, hpb, hat⟩ := hxc h0
    obtain ⟨v', w3, hr, hown, hgrow, _, hat'⟩ := run_append_own_at (P := Try.prog) w n0 29 ty 3 i0 (.int .i64 0) 1 8 Try.underlying29 hi hy0 hy1 hy2 rfl (by decide) _ 0 [] hrow ⟨pb, po, none⟩ xlen xcap (xs.map (Value.int .i64)) (by simp [hxl]) (by
      intro j u hj
      have hjx : j < xs.length := by have := (List.getElem?_eq_some_iff.1 hj).1; simpa using this
      rw [Addr.add_lit]
      refine (hat j hjx).trans ?_
      rw [← hj]; simp [hjx]) (by intro u hu; obtain ⟨y, _, rfl⟩ := List.mem_map.1 hu; rfl) (by unfold maxLen; omega) (by omega) hnw
    rw [Nat.zero_add, List.nil_append] at hown
    obtain ⟨g, c, rfl, hg⟩ := ownsRow_pos hown h0
    exact ⟨g, c, w3, hr, ints_own hown hxm, (Below.refl n0 w).grown hgrow hnw (by intro k hk; simp [Value.ownBlock] at hk; omega)⟩
theorem step_append_ints {ops : Array Oper} {o : Oper} {a : Act} {K : Act → World → Prop} {Q : Exit → Act → World → Prop} {E : Prop} (w : World) (n0 b xlen xcap : Nat) (xa : Option Addr) (xs : List Int) (hgd : o.guard = none) (s x : Operand)
    (ho : o.op = .call { callee := .builtin .append, args := #[s, x], argTypes := #[29, 29] }) (hs : a.eval s = .slice (some ⟨b, 0, none⟩) 0 0) (hxv : a.eval x = .slice xa xlen xcap)
    (hrow : w.ownsRow n0 3 1 (.slice (some ⟨b, 0, none⟩) 0 0) 0 []) (hx : IntsAt w xa xlen xs) (hl : xlen ≤ 1000) (hn : n0 ≤ b) (hnw : n0 ≤ w.heap.size)
    (h : ∀ g cap' w3, IntsAt w3 (some ⟨g, 0, none⟩) xlen xs → Below n0 w w3 → K (a.put o.dst (.slice (some ⟨g, 0, none⟩) xlen cap')) w3) : if Region.wanted o (yielded ops a.tmps) = true then Oper.wp Try.prog o a w K Q else E := by
  obtain ⟨g, c, w3, hr, hi, hb⟩ := run_append_ints w 29 o.type rfl n0 b xlen xcap xa xs hrow hx hl hn hnw
  rw [if_pos (by simp [Region.wanted, hgd])]
  unfold Oper.wp execOp
  simp only [ho, resolve, invoke, builtin, Sem.run_bind, Sem.run_pure, Result.andThen_ok, List.map_toArray, List.map_cons, List.map_nil, hs, hxv, hr]
  exact h g c w3 hi hb
theorem wpList_append_ints {ops : Array Oper} {rest : List Oper} {o : Oper} {a : Act} {Q : Exit → Act → World → Prop} (w : World) (n0 b xlen xcap : Nat) (xa : Option Addr) (xs : List Int) (hgd : o.guard = none) (s x : Operand)
    (ho : o.op = .call { callee := .builtin .append, args := #[s, x], argTypes := #[29, 29] }) (hs : a.eval s = .slice (some ⟨b, 0, none⟩) 0 0) (hxv : a.eval x = .slice xa xlen xcap)
    (hrow : w.ownsRow n0 3 1 (.slice (some ⟨b, 0, none⟩) 0 0) 0 []) (hx : IntsAt w xa xlen xs) (hl : xlen ≤ 1000) (hn : n0 ≤ b) (hnw : n0 ≤ w.heap.size)
    (h : ∀ g cap' w3, IntsAt w3 (some ⟨g, 0, none⟩) xlen xs → Below n0 w w3 → wpList Try.prog ops Q rest (a.put o.dst (.slice (some ⟨g, 0, none⟩) xlen cap')) w3) : wpList Try.prog ops Q (o :: rest) a w := by
  obtain ⟨g, c, w3, hr, hi, hb⟩ := run_append_ints w 29 o.type rfl n0 b xlen xcap xa xs hrow hx hl hn hnw
  exact wpList_append_run w hgd s x 29 ho _ _ _ _ hs hxv hr (h g c w3 hi hb)

theorem safeOf_in (s : Shop) (x : List Int) : btw (s.safeOf x) 1 3 = true := by
  unfold Shop.safeOf safeI
  split
  · rfl
  · split <;> rfl

set_option maxHeartbeats 1000000 in
theorem safe_law (s : Shop) (a : Option Addr) (len cap : Nat) (x : Option Addr) (xlen xcap : Nat) (ns : List Int) (w : World) (hp : PigsAt w a len s.pigs) (hx : IntsAt w x xlen ns) (hv : s.code ns = 0) (hl : xlen ≤ 1000) :
    Calls Try.prog 48 #[.agg #[.int .i64 s.P, .int .i64 s.tl, .int .i64 s.th, .int .i64 s.al, .int .i64 s.ah, .int .i64 s.room, .int .i64 s.xl, .int .i64 s.xh, .int .i64 s.yl, .int .i64 s.yh, .slice a len cap], .slice x xlen xcap] w fun e w' => e = .returned (.tuple #[.int .i64 (s.safeOf ns), .bool true]) ∧ Below w.heap.size w w' := by
  have HS := Lib.hid (fun x xcap w1 (hb : Below w.heap.size w w1) (hx : IntsAt w1 x xlen ns) => Safe_yes s a len cap x xlen xcap ns w1 (hp.below hb) hx hv)
  have HB := Lib.hid (fun w1 => Within_any (s.safeOf ns) 1 3 w1)
  rw [safeOf_in] at HB
  generalize s.safeOf ns = sv at *
  have HX := Lib.hid (fun w1 (hb : Below w.heap.size w w1) => hx.below hb)
  clear hp hx hv
  go_enter Try.func48, Try.ntmps48
  go_wp2_with fail
  have hmx : Try.prog.follows .mixedOrders = true := by kernel_rfl
  go_region_law (first
    | (go_simp
       go_at_call 22
       refine (HS.out _ _ _ (by first | exact HB3.out | exact HB3.out.drew) HX3.out).mono ?_
       rintro e w4 ⟨rfl, hb4⟩
       have HB4 := Lib.hid (HB3.out.trans (hb4.mono HB3.out.size))
       clear hb4 hc3)
    | (with_reducible refine step_append_ints _ (w.heap.size + 1) (w.heap.size + 1) xlen xcap x ns rfl _ _ rfl ?_ ?_ ?_ ?_ hl (Nat.le_refl _) ?_ ?_
       · rfl
       · rfl
       · exact (made_row (by simp) (by simp)).drew
       · exact HX.out _ (by repeat (first | exact Below.refl _ _ | (refine Below.alloc ?_ (by first | omega | (simp; omega) | simp) _) | (refine Below.setCell ?_ (by first | omega | (simp; omega) | simp) _) | refine Below.drew ?_))
       · simp
       intro g c w3 hx3 hb3
       have HB3 := Lib.hid (((by repeat (first | exact Below.refl _ _ | (refine Below.alloc ?_ (by first | omega | (simp; omega) | simp) _) | (refine Below.setCell ?_ (by first | omega | (simp; omega) | simp) _) | refine Below.drew ?_)) : Below w.heap.size w _).trans (hb3.mono (Nat.le_succ _)))
       have hc3 := fun (i : Nat) => hb3.cell (p := ⟨w.heap.size, i, none⟩) (Nat.lt_succ_self _)
       have HX3 := Lib.hid hx3
       clear hx3 hb3))
  all_goals (go_wp2_with fail; refine (HB.out _).mono ?_; rintro e w5 ⟨rfl, rfl⟩; go_wp2_with fail; go_ret2; exact ⟨rfl, HB4.out⟩)
end Go.Proofs.Ytajabapcmpmboaa
