/- What the reference asks of a list ahead of all else; its After. -/
import Derived.Test.YtojmimfjnnibdaaRF
import Derived.Test.YtojmimfjnnibdaaG
namespace Go.Proofs.Ytojmimfjnnibdaa
set_option linter.unusedVariables false
set_option linter.unusedSimpArgs false
open Go.RowKit

theorem refCheck_is (s : Shop) (a : Option Addr) (len cap : Nat) (v : Int) (h : s.chk = v) (w : World) (hp : PigsAt w a len s.pigs) :
    Calls Try.prog 21 #[.agg #[.int .i64 s.P, .int .i64 s.tl, .int .i64 s.th, .int .i64 s.al, .int .i64 s.ah, .int .i64 s.room, .int .i64 s.xl, .int .i64 s.xh, .int .i64 s.yl, .int .i64 s.yh, .slice a len cap]] w fun e w' => e = .returned (.int .i64 v) ∧ Below w.heap.size w w' := h ▸ refCheck_any s a len cap w hp

theorem ask_is (s : Shop) (a : Option Addr) (len cap : Nat) (b : Bool) (w : World) (hp : PigsAt w a len s.pigs) (ho : s.ok = true) (v : Int) (hv : (if b then 0 else 1 : Int) = v) :
    Calls Try.prog 98 #[.agg #[.int .i64 s.P, .int .i64 s.tl, .int .i64 s.th, .int .i64 s.al, .int .i64 s.ah, .int .i64 s.room, .int .i64 s.xl, .int .i64 s.xh, .int .i64 s.yl, .int .i64 s.yh, .slice a len cap], .bool b] w fun e w' => e = .returned (.int .i64 v) ∧ Below w.heap.size w w' := by
  have HC := Lib.hid (fun w1 (hb : Below w.heap.size w w1) => refCheck_is s a len cap 0 (by simp [Shop.chk, ho]) w1 (hp.below hb))
  clear hp ho
  cases b <;> simp at hv <;> subst hv
  all_goals go_enter Try.func98, Try.ntmps98
  all_goals go_wp2_with fail
  all_goals refine (HC.out _ (by repeat (first | exact Below.refl _ _ | (refine Below.alloc ?_ (by first | omega | (simp; omega) | simp) _) | (refine Below.setCell ?_ (by first | omega | (simp; omega) | simp) _) | refine Below.drew ?_))).mono ?_
  all_goals rintro e w1 ⟨rfl, hb1⟩
  all_goals have HB := Lib.hid hb1
  all_goals clear hb1
  all_goals go_wp2_with fail
  all_goals go_ret
  all_goals exact ⟨rfl, (by repeat (first | exact Below.refl _ _ | (refine Below.alloc ?_ (by first | omega | (simp; omega) | simp) _) | (refine Below.setCell ?_ (by first | omega | (simp; omega) | simp) _) | refine Below.drew ?_ | (refine below_via (by assumption) (by first | omega | (simp; omega) | simp) ?_)))⟩

theorem refIsAddition_is (s : Shop) (a : Option Addr) (len cap : Nat) (x : Option Addr) (xlen xcap : Nat) (ns : List Int) (w : World) (hp : PigsAt w a len s.pigs) (hx : IntsAt w x xlen ns) (hok : s.ok = true) (b : Bool) (h : s.isAdd ns = b) :
    Calls Try.prog 93 #[.agg #[.int .i64 s.P, .int .i64 s.tl, .int .i64 s.th, .int .i64 s.al, .int .i64 s.ah, .int .i64 s.room, .int .i64 s.xl, .int .i64 s.xh, .int .i64 s.yl, .int .i64 s.yh, .slice a len cap], .slice x xlen xcap] w fun e w' => e = .returned (.bool b) ∧ Below w.heap.size w w' := h ▸ refIsAddition_any s a len cap x xlen xcap ns w hp hx hok

set_option maxHeartbeats 1000000 in
theorem open_any (s : Shop) (a : Option Addr) (len cap : Nat) (x : Option Addr) (xlen xcap : Nat) (ns : List Int) (w : World) (hp : PigsAt w a len s.pigs) (hx : IntsAt w x xlen ns) (v : Int) (hv : s.code ns = v) :
    Calls Try.prog 70 #[.agg #[.int .i64 s.P, .int .i64 s.tl, .int .i64 s.th, .int .i64 s.al, .int .i64 s.ah, .int .i64 s.room, .int .i64 s.xl, .int .i64 s.xh, .int .i64 s.yl, .int .i64 s.yh, .slice a len cap], .slice x xlen xcap] w fun e w' => e = .returned (.int .i64 v) ∧ Below w.heap.size w w' := by
  rcases ho : s.ok with - | -
  · obtain rfl : v = 10 := by rw [← hv]; simp [Shop.code, ho]
    have HC := Lib.hid (fun w1 (hb : Below w.heap.size w w1) => refCheck_is s a len cap 10 (by simp [Shop.chk, ho]) w1 (hp.below hb))
    clear hp hx hv
    go_enter Try.func70, Try.ntmps70
    go_wp2_with fail
    refine (HC.out _ (by repeat (first | exact Below.refl _ _ | (refine Below.alloc ?_ (by first | omega | (simp; omega) | simp) _) | (refine Below.setCell ?_ (by first | omega | (simp; omega) | simp) _) | refine Below.drew ?_))).mono ?_
    rintro e w1 ⟨rfl, hb1⟩
    have HB := Lib.hid hb1
    clear hb1
    go_wp2_with fail
    go_ret
    exact ⟨rfl, (by repeat (first | exact Below.refl _ _ | (refine Below.alloc ?_ (by first | omega | (simp; omega) | simp) _) | (refine Below.setCell ?_ (by first | omega | (simp; omega) | simp) _) | refine Below.drew ?_ | (refine below_via (by assumption) (by first | omega | (simp; omega) | simp) ?_)))⟩
  · have HC := Lib.hid (fun w1 (hb : Below w.heap.size w w1) => refCheck_is s a len cap 0 (by simp [Shop.chk, ho]) w1 (hp.below hb))
    have hv' : (if s.isAdd ns then 0 else 1 : Int) = v := by rw [← hv]; simp [Shop.code, ho]
    have HI := Lib.hid (fun b (hb' : s.isAdd ns = b) w1 (hb : Below w.heap.size w w1) => refIsAddition_is s a len cap x xlen xcap ns w1 (hp.below hb) (hx.below hb) ho b hb')
    have HK := Lib.hid (fun w1 (hb : Below w.heap.size w w1) => ask_is s a len cap (s.isAdd ns) w1 (hp.below hb) ho v hv')
    clear hp hx hv hv' ho
    generalize hia : s.isAdd ns = ia at *
    have HIA := Lib.hid hia
    clear hia
    go_enter Try.func70, Try.ntmps70
    go_wp2_with fail
    refine (HC.out _ (by repeat (first | exact Below.refl _ _ | (refine Below.alloc ?_ (by first | omega | (simp; omega) | simp) _) | (refine Below.setCell ?_ (by first | omega | (simp; omega) | simp) _) | refine Below.drew ?_))).mono ?_
    rintro e w1 ⟨rfl, hb1⟩
    obtain ⟨hc1, hf1⟩ := bcell hb1
    have hz1 := hb1.size
    simp at hz1
    have q1 : w.heap.size < w1.heap.size := by omega
    have hbw : Below w.heap.size w w1 := ((by repeat (first | exact Below.refl _ _ | (refine Below.alloc ?_ (by first | omega | (simp; omega) | simp) _) | (refine Below.setCell ?_ (by first | omega | (simp; omega) | simp) _) | refine Below.drew ?_)) : Below w.heap.size w _).trans (hb1.mono (by simp))
    clear hb1
    have HI1 := Lib.hid (held2 hbw (HI.out ia (by first | exact HIA.out | rfl)))
    have HK1 := Lib.hid (held2 hbw HK.out)
    go_wp2_with fail
    go_region_held3 (fun w' => Below w1.heap.size w1 w' ∧ ∀ b o, b < w1.heap.size → w'.cell? ⟨b, o, none⟩ = w1.cell? ⟨b, o, none⟩) (first | with_reducible assumption | exact ⟨(Below.refl _ _).drew, fun _ _ _ => rfl⟩)
      (first | (go_at_call 93; with_reducible refine (HI1.out _ ?_).mono ?_; (first | with_reducible assumption | exact ⟨(Below.refl _ _).drew, fun _ _ _ => rfl⟩); rintro e w' ⟨rfl, k⟩) | (go_at_call 98; with_reducible refine (HK1.out _ ?_).mono ?_; (first | with_reducible assumption | exact ⟨(Below.refl _ _).drew, fun _ _ _ => rfl⟩); rintro e w' ⟨rfl, k⟩))
    have hh := ‹Below w1.heap.size w1 _ ∧ _›
    go_wp2_with fail
    go_ret
    exact ⟨rfl, hbw.trans (Below.mono hh.1 hbw.size)⟩
end Go.Proofs.Ytojmimfjnnibdaa
