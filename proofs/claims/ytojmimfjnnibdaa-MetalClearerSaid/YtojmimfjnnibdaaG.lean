/- After, Safe and Mix. -/
import Derived.Test.YtojmimfjnnibdaaF
namespace Go.Proofs.Ytojmimfjnnibdaa
set_option linter.unusedVariables false
set_option linter.unusedSimpArgs false
open Go.RowKit

/-- What is asked of a list ahead of all else. -/
def Shop.code (s : Shop) (ns : List Int) : Int := if s.ok then (if s.isAdd ns then 0 else 1) else 10
theorem Shop.code_no {s : Shop} {ns : List Int} (h : s.code ns ≠ 0) : s.code ns = 1 ∨ s.code ns = 10 := by
  unfold Shop.code at *; split at h <;> (try split at h) <;> simp_all
theorem Shop.code_yes {s : Shop} {ns : List Int} (h : s.code ns = 0) : s.ok = true ∧ s.isAdd ns = true := by
  unfold Shop.code at *; split at h <;> (try split at h) <;> simp_all
theorem Shop.isAdd_len {s : Shop} {ns : List Int} (h : s.isAdd ns = true) : ns.length = s.pigs.length ∧ s.fewB ns = true := by
  simp [Shop.isAdd] at h; exact h.1

set_option maxHeartbeats 1000000 in
theorem After_no (s : Shop) (a : Option Addr) (len cap : Nat) (x : Option Addr) (xlen xcap : Nat) (ns : List Int) (w : World) (hp : PigsAt w a len s.pigs) (hx : IntsAt w x xlen ns) (v : Int) (hv : s.code ns = v) (hno : v ≠ 0) :
    Calls Try.prog 18 #[.agg #[.int .i64 s.P, .int .i64 s.tl, .int .i64 s.th, .int .i64 s.al, .int .i64 s.ah, .int .i64 s.room, .int .i64 s.xl, .int .i64 s.xh, .int .i64 s.yl, .int .i64 s.yh, .slice a len cap], .slice x xlen xcap] w fun e w' => e = .returned (.tuple #[.agg #[.int .i64 0, .int .i64 0, .int .i64 0, .int .i64 0, .int .i64 0], .int .i64 v]) ∧ Below w.heap.size w w' := by
  have HT := Lib.hid (fun w1 (hb : Below w.heap.size w w1) => asked_any s a len cap x xlen xcap ns w1 (hp.below hb) (hx.below hb) v hv)
  have e1 : (v == 0) = false := by simpa using hno
  have e2 : (v != 0) = true := by simpa using hno
  clear hp hx hv hno
  go_enter Try.func18, Try.ntmps18
  go_wp2_with fail
  refine (HT.out _ (by repeat (first | exact Below.refl _ _ | (refine Below.alloc ?_ (by first | omega | (simp; omega) | simp) _) | (refine Below.setCell ?_ (by first | omega | (simp; omega) | simp) _) | refine Below.drew ?_))).mono ?_
  rintro e w1 ⟨rfl, hb1⟩
  obtain ⟨hc1, hf1⟩ := bcell hb1
  have hz1 := hb1.size
  simp at hz1
  have HB := Lib.hid hb1
  clear hb1
  have q1 : w.heap.size + 1 < w1.heap.size := by omega
  have q2 : w.heap.size < w1.heap.size := by omega
  go_wp2_with fail
  refine bodyPost_ret (v := .tuple #[.agg #[.int .i64 0, .int .i64 0, .int .i64 0, .int .i64 0, .int .i64 0], .int .i64 v]) (by simp [results, Try.results18, go_sem , hc1, hf1, q1, q2]) rfl ⟨rfl, ?_⟩
  exact (by repeat (first | exact Below.refl _ _ | (refine Below.alloc ?_ (by first | omega | (simp; omega) | simp) _) | (refine Below.setCell ?_ (by first | omega | (simp; omega) | simp) _) | refine Below.drew ?_ | (refine below_via (by assumption) (by first | omega | (simp; omega) | simp) ?_)))

set_option maxHeartbeats 1000000 in
theorem After_yes (s : Shop) (a : Option Addr) (len cap : Nat) (x : Option Addr) (xlen xcap : Nat) (ns : List Int) (w : World) (hp : PigsAt w a len s.pigs) (hx : IntsAt w x xlen ns) (hv : s.code ns = 0) :
    Calls Try.prog 18 #[.agg #[.int .i64 s.P, .int .i64 s.tl, .int .i64 s.th, .int .i64 s.al, .int .i64 s.ah, .int .i64 s.room, .int .i64 s.xl, .int .i64 s.xh, .int .i64 s.yl, .int .i64 s.yh, .slice a len cap], .slice x xlen xcap] w fun e w' => e = .returned (.tuple #[.agg (potCells s ns), .int .i64 0]) ∧ Below w.heap.size w w' := by
  obtain ⟨ho, hadd⟩ := Shop.code_yes hv
  obtain ⟨hl, hfew⟩ := Shop.isAdd_len hadd
  obtain rfl : len = xlen := by rw [← hp.1, ← hx.1, hl]
  have HT := Lib.hid (fun w1 (hb : Below w.heap.size w w1) => asked_any s a len cap x len xcap ns w1 (hp.below hb) (hx.below hb) 0 hv)
  have HA := fun w1 (hb : Below w.heap.size w w1) => after_any s a len cap x xcap ns w1 (hp.below hb) (hx.below hb) ho hfew
  unfold potCells at HA
  replace HA := Lib.hid HA
  clear hp hx hv ho hadd hl hfew
  generalize hn1 : s.P + tot Pig.P s.pigs ns = n1 at *
  generalize hn2 : s.tl + tot Pig.t s.pigs ns = n2 at *
  generalize hn3 : s.th + tot Pig.t s.pigs ns = n3 at *
  generalize hn4 : s.al + tot Pig.a s.pigs ns = n4 at *
  generalize hn5 : s.ah + tot Pig.a s.pigs ns = n5 at *
  have HR := Lib.hid (show potCells s ns = #[.int .i64 n1, .int .i64 n2, .int .i64 n3, .int .i64 n4, .int .i64 n5] by rw [← hn1, ← hn2, ← hn3, ← hn4, ← hn5]; rfl)
  clear hn1 hn2 hn3 hn4 hn5
  go_enter Try.func18, Try.ntmps18
  go_wp2_with fail
  refine (HT.out _ (by repeat (first | exact Below.refl _ _ | (refine Below.alloc ?_ (by first | omega | (simp; omega) | simp) _) | (refine Below.setCell ?_ (by first | omega | (simp; omega) | simp) _) | refine Below.drew ?_))).mono ?_
  rintro e w1 ⟨rfl, hb1⟩
  obtain ⟨hc1, hf1⟩ := bcell hb1
  have hz1 := hb1.size
  simp at hz1
  have HB := Lib.hid hb1
  have hbw : Below w.heap.size w w1 := ((by repeat (first | exact Below.refl _ _ | (refine Below.alloc ?_ (by first | omega | (simp; omega) | simp) _) | (refine Below.setCell ?_ (by first | omega | (simp; omega) | simp) _) | refine Below.drew ?_)) : Below w.heap.size w _).trans (hb1.mono (by simp; omega))
  clear hb1
  have q1 : w.heap.size + 1 < w1.heap.size := by omega
  have q2 : w.heap.size < w1.heap.size := by omega
  have q3 : w.heap.size + 1 + 1 < w1.heap.size := by omega
  go_wp2_with fail
  refine (HA.out _ hbw).mono ?_
  rintro e w2 ⟨rfl, hb2⟩
  obtain ⟨hc2, hf2⟩ := bcell hb2
  have hz2 := hb2.size
  have HB2 := Lib.hid hb2
  clear hb2
  have q4 : w.heap.size + 1 < w2.heap.size := by omega
  have q5 : w.heap.size < w2.heap.size := by omega
  go_wp2_with fail
  refine bodyPost_ret (v := .tuple #[.agg #[.int .i64 n1, .int .i64 n2, .int .i64 n3, .int .i64 n4, .int .i64 n5], .int .i64 0]) (by simp [results, Try.results18, go_sem, hc2, hf2, hc1, hf1, q1, q2, q4, q5]) rfl ⟨by rw [HR.out], ?_⟩
  exact (by repeat (first | exact Below.refl _ _ | (refine Below.alloc ?_ (by first | omega | (simp; omega) | simp) _) | (refine Below.setCell ?_ (by first | omega | (simp; omega) | simp) _) | refine Below.drew ?_ | (refine below_via (by assumption) (by first | omega | (simp; omega) | simp) ?_)))
end Go.Proofs.Ytojmimfjnnibdaa
