/- Far. -/
import Derived.Test.YtnlgchgpnfkjeaaMC
namespace Go.Proofs.Ytnlgchgpnfkjeaa
set_option linter.unusedVariables false
set_option linter.unusedSimpArgs false
open Go.RowKit

def SomeBool (w : World) (e : Ending) (w' : World) : Prop := ∃ b : Bool, e = .returned (.bool b) ∧ Below w.heap.size w w'
set_option maxRecDepth 100000 in
set_option maxHeartbeats 2000000 in
theorem Far_any (s : Shop) (a : Option Addr) (len cap : Nat) (w : World) (hp : PigsAt w a len s.pigs) :
    Calls Try.prog 38 #[.agg #[.int .i64 s.P, .int .i64 s.tl, .int .i64 s.th, .int .i64 s.al, .int .i64 s.ah, .int .i64 s.room, .int .i64 s.xl, .int .i64 s.xh, .int .i64 s.yl, .int .i64 s.yh, .slice a len cap]] w (SomeBool w) := by
  rcases Nat.lt_or_ge 40 len with h40 | h40
  · have HH := fun w1 => Huge_any s a len cap w1
    rw [show decide (40 < len) = true by simpa using h40] at HH
    replace HH := Lib.hid HH
    clear hp h40
    go_enter Try.func38, Try.ntmps38
    go_wp2_with fail
    refine (HH.out _).mono ?_; rintro e w1 ⟨rfl, hb1⟩; obtain ⟨hc1, hf1⟩ := bcell hb1; have hz1 := hb1.size; (try simp at hz1); have hw1 := ((by repeat (first | assumption | exact Below.refl _ _ | (refine Below.alloc ?_ (by first | omega | (simp; omega) | simp) _) | (refine Below.setCell ?_ (by first | omega | (simp; omega) | simp) _) | refine Below.drew ?_)) : Below w.heap.size w _).trans (hb1.mono (by first | (simp; done) | (simp; omega) | omega)); clear hb1; have p1 : w.heap.size < w1.heap.size := (by omega); go_wp2_with fail
    go_ret
    exact ⟨_, rfl, hw1⟩
  · have HH := fun w1 => Huge_any s a len cap w1
    rw [show decide (40 < len) = false by simpa using h40] at HH
    replace HH := Lib.hid HH
    rcases ho : s.ok with - | -
    · have HC := Lib.hid (fun w1 (hb : Below w.heap.size w w1) => refCheck_is s a len cap 10 (by simp [Shop.chk, ho]) w1 (hp.below hb))
      clear hp h40 ho
      go_enter Try.func38, Try.ntmps38
      go_wp2_with fail
      refine (HH.out _).mono ?_; rintro e w1 ⟨rfl, hb1⟩; obtain ⟨hc1, hf1⟩ := bcell hb1; have hz1 := hb1.size; (try simp at hz1); have hw1 := ((by repeat (first | assumption | exact Below.refl _ _ | (refine Below.alloc ?_ (by first | omega | (simp; omega) | simp) _) | (refine Below.setCell ?_ (by first | omega | (simp; omega) | simp) _) | refine Below.drew ?_)) : Below w.heap.size w _).trans (hb1.mono (by first | (simp; done) | (simp; omega) | omega)); clear hb1; have p1 : w.heap.size < w1.heap.size := (by omega); go_wp2_with fail
      refine (HC.out _ hw1).mono ?_; rintro e w2 ⟨rfl, hb2⟩; obtain ⟨hc2, hf2⟩ := bcell hb2; have hz2 := hb2.size; (try simp at hz2); have hw2 := ((by repeat (first | assumption | exact Below.refl _ _ | (refine Below.alloc ?_ (by first | omega | (simp; omega) | simp) _) | (refine Below.setCell ?_ (by first | omega | (simp; omega) | simp) _) | refine Below.drew ?_)) : Below w.heap.size w _).trans (hb2.mono (by first | (simp; done) | (simp; omega) | omega)); clear hb2; have p2 : w.heap.size < w2.heap.size := (by omega); go_wp2_with fail
      go_ret
      exact ⟨_, rfl, hw2⟩
    · have HC := Lib.hid (fun w1 (hb : Below w.heap.size w w1) => refCheck_is s a len cap 0 (by simp [Shop.chk, ho]) w1 (hp.below hb))
      have HP := Lib.hid (fun w1 (hb : Below w.heap.size w w1) => hp.below hb)
      have hbd := Shop.ok_bd ho
      have hl4 : len ≤ 4 := by have := hp.1; omega
      have k1 : 0 ≤ s.tl ∧ s.tl ≤ s.th ∧ s.th ≤ 400 := by omega
      have k2 : 0 ≤ s.al ∧ s.al ≤ s.ah ∧ s.ah ≤ 400 := by omega
      have HM := Lib.hid (fun (k : Nat) (h : k < s.pigs.length) => (Pig.ok_bd (Shop.ok_pig ho k h)))
      clear hp h40 hbd ho
      obtain ⟨k1a, k1b, k1c⟩ := k1
      obtain ⟨k2a, k2b, k2c⟩ := k2
      go_enter Try.func38, Try.ntmps38
      go_wp2_with fail
      refine (HH.out _).mono ?_
      rintro e w1 ⟨rfl, hb1⟩
      obtain ⟨hc1, hf1⟩ := bcell hb1
      have hz1 := hb1.size
      simp at hz1
      have hw1 := ((by repeat (first | exact Below.refl _ _ | (refine Below.alloc ?_ (by first | omega | (simp; omega) | simp) _) | (refine Below.setCell ?_ (by first | omega | (simp; omega) | simp) _) | refine Below.drew ?_)) : Below w.heap.size w _).trans (hb1.mono (by simp))
      clear hb1
      have p1 : w.heap.size < w1.heap.size := by omega
      go_wp2_with fail
      refine (HC.out _ hw1).mono ?_
      rintro e w2 ⟨rfl, hb2⟩
      obtain ⟨hc2, hf2⟩ := bcell hb2
      have hz2 := hb2.size
      have hw2 := hw1.trans (hb2.mono hw1.size)
      clear hb2
      have p2 : w.heap.size < w2.heap.size := by omega
      go_wp2_with fail
      go_loop [3, 4] (fun n i => ∃ (k : Nat) (m : Int), k ≤ len ∧ i = .int .i64 k ∧ n = .int .i64 m) (fun _ i => len - (intOf i).toNat)
      case atStart => exact ⟨0, _, Nat.zero_le _, rfl, rfl⟩
      case round =>
        obtain ⟨k, m, hk, rfl, rfl⟩ := hrel
        by_cases hlt : k < len
        · obtain ⟨hl, hm, hc⟩ := HP.out _ hw2
          obtain ⟨b, o, rfl, hb, hat⟩ := hc (by omega)
          have hk2 : k < s.pigs.length := by omega
          have c4 := (hat k hk2).2.2.2.2
          have hq := HM.out k hk2
          generalize s.pigs[k] = q at *
          clear hat hc
          have q1 := hq.2.2.2.2.2.2.2.1
          have q2 := hq.2.2.2.2.2.2.2.2
          clear hq hl hm
          have hlt2 : (k : Int) < (len : Int) := by omega
          go_wp2_with fail
          go_round
          case rel => exact ⟨k + 1, _, by omega, by go_num, rfl⟩
          case measure => simp [intOf]; omega
        · have hlt2 : ¬ (k : Int) < (len : Int) := by omega
          go_wp2_with fail
          go_ret
          exact ⟨_, rfl, hw2⟩
end Go.Proofs.Ytnlgchgpnfkjeaa
