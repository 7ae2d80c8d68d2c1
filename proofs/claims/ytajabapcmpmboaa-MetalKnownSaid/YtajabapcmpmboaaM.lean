/- Mix. -/
import Derived.Test.YtajabapcmpmboaaG
namespace Go.Proofs.Ytajabapcmpmboaa
set_option linter.unusedVariables false
set_option linter.unusedSimpArgs false
open Go.RowKit

theorem Check_is (s : Shop) (a : Option Addr) (len cap : Nat) (v : Int) (h : (if s.ok then 0 else 10 : Int) = v) (w : World) (hp : PigsAt w a len s.pigs) :
    Calls Try.prog 20 #[.agg #[.int .i64 s.P, .int .i64 s.tl, .int .i64 s.th, .int .i64 s.al, .int .i64 s.ah, .int .i64 s.room, .int .i64 s.xl, .int .i64 s.xh, .int .i64 s.yl, .int .i64 s.yh, .slice a len cap]] w fun e w' => e = .returned (.int .i64 v) ∧ Below w.heap.size w w' := h ▸ Check_any s a len cap w hp
def Shop.mixCode (s : Shop) (P tl th al ah : Int) : Int := if s.ok then (if potB P tl th al ah && decide (s.P + P ≤ s.room) then 0 else 1) else 10

set_option maxHeartbeats 1000000 in
theorem Mix_bad (s : Shop) (a : Option Addr) (len cap : Nat) (P tl th al ah : Int) (w : World) (hp : PigsAt w a len s.pigs) (hok : s.ok = false) :
    Calls Try.prog 43 #[.agg #[.int .i64 s.P, .int .i64 s.tl, .int .i64 s.th, .int .i64 s.al, .int .i64 s.ah, .int .i64 s.room, .int .i64 s.xl, .int .i64 s.xh, .int .i64 s.yl, .int .i64 s.yh, .slice a len cap], .agg #[.int .i64 P, .int .i64 tl, .int .i64 th, .int .i64 al, .int .i64 ah]] w fun e w' => e = .returned (.tuple #[.agg #[.int .i64 0, .int .i64 0, .int .i64 0, .int .i64 0, .int .i64 0], .int .i64 10]) ∧ Below w.heap.size w w' := by
  have HC := Lib.hid (fun w1 (hb : Below w.heap.size w w1) => Check_is s a len cap 10 (by simp [hok]) w1 (hp.below hb))
  clear hp hok
  go_enter Try.func43, Try.ntmps43
  go_wp2_with fail
  refine (HC.out _ (by repeat (first | exact Below.refl _ _ | (refine Below.alloc ?_ (by first | omega | (simp; omega) | simp) _) | (refine Below.setCell ?_ (by first | omega | (simp; omega) | simp) _) | refine Below.drew ?_))).mono ?_
  rintro e w1 ⟨rfl, hb1⟩
  obtain ⟨hc1, hf1⟩ := bcell hb1
  have hz1 := hb1.size
  simp at hz1
  have HB := Lib.hid hb1
  clear hb1
  have q1 : w.heap.size + 1 + 1 < w1.heap.size := by omega
  have q2 : w.heap.size + 1 < w1.heap.size := by omega
  have q3 : w.heap.size < w1.heap.size := by omega
  go_wp2_with fail
  refine bodyPost_ret (v := .tuple #[.agg #[.int .i64 0, .int .i64 0, .int .i64 0, .int .i64 0, .int .i64 0], .int .i64 10]) (by simp [results, Try.results43, go_sem , hc1, hf1, q1, q2]) rfl ⟨rfl, ?_⟩
  exact (by repeat (first | exact Below.refl _ _ | (refine Below.alloc ?_ (by first | omega | (simp; omega) | simp) _) | (refine Below.setCell ?_ (by first | omega | (simp; omega) | simp) _) | refine Below.drew ?_ | (refine below_via (by assumption) (by first | omega | (simp; omega) | simp) ?_)))

set_option maxHeartbeats 2000000 in
theorem Mix_ok (s : Shop) (a : Option Addr) (len cap : Nat) (P tl th al ah : Int) (w : World) (hp : PigsAt w a len s.pigs) (hok : s.ok = true) (v : Int) (hv : s.mixCode P tl th al ah = v) :
    Calls Try.prog 43 #[.agg #[.int .i64 s.P, .int .i64 s.tl, .int .i64 s.th, .int .i64 s.al, .int .i64 s.ah, .int .i64 s.room, .int .i64 s.xl, .int .i64 s.xh, .int .i64 s.yl, .int .i64 s.yh, .slice a len cap], .agg #[.int .i64 P, .int .i64 tl, .int .i64 th, .int .i64 al, .int .i64 ah]] w fun e w' => e = .returned (.tuple #[.agg (if v = 0 then #[.int .i64 (s.P + P), .int .i64 (s.tl + tl), .int .i64 (s.th + th), .int .i64 (s.al + al), .int .i64 (s.ah + ah)] else #[.int .i64 0, .int .i64 0, .int .i64 0, .int .i64 0, .int .i64 0]), .int .i64 v]) ∧ Below w.heap.size w w' := by
  have HC := Lib.hid (fun w1 (hb : Below w.heap.size w w1) => Check_is s a len cap 0 (by simp [hok]) w1 (hp.below hb))
  have hbd := Shop.ok_bd hok
  obtain ⟨⟨q1, q2⟩, ⟨q3, q4⟩, ⟨q5, q6⟩, q7, ⟨q8, q9⟩, -⟩ := hbd
  clear hp
  rcases hpot : potB P tl th al ah with - | -
  · obtain rfl : v = 1 := by rw [← hv]; simp [Shop.mixCode, hok, hpot]
    clear hv hok
    simp only [show ¬ ((1 : Int) = 0) from by decide, if_false]
    go_enter Try.func43, Try.ntmps43
    go_wp2_with fail
    refine (HC.out _ (by repeat (first | exact Below.refl _ _ | (refine Below.alloc ?_ (by first | omega | (simp; omega) | simp) _) | (refine Below.setCell ?_ (by first | omega | (simp; omega) | simp) _) | refine Below.drew ?_))).mono ?_
    rintro e w1 ⟨rfl, hb1⟩
    obtain ⟨hc1, hf1⟩ := bcell hb1
    have hz1 := hb1.size
    simp at hz1
    have HB := Lib.hid hb1
    clear hb1
    have z1 : w.heap.size + 1 + 1 < w1.heap.size := by omega
    have z2 : w.heap.size + 1 < w1.heap.size := by omega
    have z3 : w.heap.size < w1.heap.size := by omega
    go_wp2_with (go_at_call 92; with_reducible refine (validPot_is _ _ _ _ _ _ hpot _).mono ?_; rintro e w2 ⟨rfl, hb2⟩; obtain ⟨hc2, hf2⟩ := bcell hb2; have hz2 := hb2.size; have HB2 := Lib.hid hb2; clear hb2; have z4 : w.heap.size + 1 + 1 < w2.heap.size := (by omega); have z5 : w.heap.size + 1 < w2.heap.size := (by omega); have z6 : w.heap.size < w2.heap.size := (by omega))
    refine bodyPost_ret (v := .tuple #[.agg #[.int .i64 0, .int .i64 0, .int .i64 0, .int .i64 0, .int .i64 0], .int .i64 1]) (by simp [results, Try.results43, go_sem , *]) rfl ⟨rfl, ?_⟩
    exact (by repeat (first | exact Below.refl _ _ | (refine Below.alloc ?_ (by first | omega | (simp; omega) | simp) _) | (refine Below.setCell ?_ (by first | omega | (simp; omega) | simp) _) | refine Below.drew ?_ | (refine below_via (by assumption) (by first | omega | (simp; omega) | simp) ?_)))
  · have hb := hpot
    simp only [potB, btw, spanB, Bool.and_eq_true, decide_eq_true_eq] at hb
    obtain ⟨⟨⟨⟨b1, b2⟩, ⟨b3, b4, b5⟩⟩, ⟨b6, b7, b8⟩⟩, b9⟩ := hb
    rcases Int.lt_or_le s.room (s.P + P) with hr | hr
    · obtain rfl : v = 1 := by rw [← hv]; simp [Shop.mixCode, hok, hpot]; omega
      clear hv hok
      simp only [show ¬ ((1 : Int) = 0) from by decide, if_false]
      go_enter Try.func43, Try.ntmps43
      go_wp2_with fail
      refine (HC.out _ (by repeat (first | exact Below.refl _ _ | (refine Below.alloc ?_ (by first | omega | (simp; omega) | simp) _) | (refine Below.setCell ?_ (by first | omega | (simp; omega) | simp) _) | refine Below.drew ?_))).mono ?_
      rintro e w1 ⟨rfl, hb1⟩
      obtain ⟨hc1, hf1⟩ := bcell hb1
      have hz1 := hb1.size
      simp at hz1
      have HB := Lib.hid hb1
      clear hb1
      have z1 : w.heap.size + 1 + 1 < w1.heap.size := by omega
      have z2 : w.heap.size + 1 < w1.heap.size := by omega
      have z3 : w.heap.size < w1.heap.size := by omega
      go_wp2_with (go_at_call 92; with_reducible refine (validPot_is _ _ _ _ _ _ hpot _).mono ?_; rintro e w2 ⟨rfl, hb2⟩; obtain ⟨hc2, hf2⟩ := bcell hb2; have hz2 := hb2.size; have HB2 := Lib.hid hb2; clear hb2; have z4 : w.heap.size + 1 + 1 < w2.heap.size := (by omega); have z5 : w.heap.size + 1 < w2.heap.size := (by omega); have z6 : w.heap.size < w2.heap.size := (by omega))
      refine bodyPost_ret (v := .tuple #[.agg #[.int .i64 0, .int .i64 0, .int .i64 0, .int .i64 0, .int .i64 0], .int .i64 1]) (by simp [results, Try.results43, go_sem , *]) rfl ⟨rfl, ?_⟩
      exact (by repeat (first | exact Below.refl _ _ | (refine Below.alloc ?_ (by first | omega | (simp; omega) | simp) _) | (refine Below.setCell ?_ (by first | omega | (simp; omega) | simp) _) | refine Below.drew ?_ | (refine below_via (by assumption) (by first | omega | (simp; omega) | simp) ?_)))
    · obtain rfl : v = 0 := by rw [← hv]; simp [Shop.mixCode, hok, hpot]; omega
      clear hv hok
      simp only [if_true]
      go_enter Try.func43, Try.ntmps43
      go_wp2_with fail
      refine (HC.out _ (by repeat (first | exact Below.refl _ _ | (refine Below.alloc ?_ (by first | omega | (simp; omega) | simp) _) | (refine Below.setCell ?_ (by first | omega | (simp; omega) | simp) _) | refine Below.drew ?_))).mono ?_
      rintro e w1 ⟨rfl, hb1⟩
      obtain ⟨hc1, hf1⟩ := bcell hb1
      have hz1 := hb1.size
      simp at hz1
      have HB := Lib.hid hb1
      clear hb1
      have z1 : w.heap.size + 1 + 1 < w1.heap.size := by omega
      have z2 : w.heap.size + 1 < w1.heap.size := by omega
      have z3 : w.heap.size < w1.heap.size := by omega
      go_wp2_with (go_at_call 92; with_reducible refine (validPot_is _ _ _ _ _ _ hpot _).mono ?_; rintro e w2 ⟨rfl, hb2⟩; obtain ⟨hc2, hf2⟩ := bcell hb2; have hz2 := hb2.size; have HB2 := Lib.hid hb2; clear hb2; have z4 : w.heap.size + 1 + 1 < w2.heap.size := (by omega); have z5 : w.heap.size + 1 < w2.heap.size := (by omega); have z6 : w.heap.size < w2.heap.size := (by omega))
      refine bodyPost_ret (v := .tuple #[.agg #[.int .i64 (s.P + P), .int .i64 (s.tl + tl), .int .i64 (s.th + th), .int .i64 (s.al + al), .int .i64 (s.ah + ah)], .int .i64 0]) (by simp [results, Try.results43, go_sem , *]) rfl ⟨rfl, ?_⟩
      exact (by repeat (first | exact Below.refl _ _ | (refine Below.alloc ?_ (by first | omega | (simp; omega) | simp) _) | (refine Below.setCell ?_ (by first | omega | (simp; omega) | simp) _) | refine Below.drew ?_ | (refine below_via (by assumption) (by first | omega | (simp; omega) | simp) ?_)))
end Go.Proofs.Ytajabapcmpmboaa
