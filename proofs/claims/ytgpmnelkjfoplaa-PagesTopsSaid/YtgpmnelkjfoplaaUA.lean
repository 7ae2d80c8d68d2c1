/- Pages: what the gaps of two tops are, both ways. -/
import Derived.Test.YtgpmnelkjfoplaaZY
import Derived.Test.YtgpmnelkjfoplaaYN
namespace Go.Proofs.Ytgpmnelkjfoplaa
set_option linter.unusedVariables false
set_option linter.unusedSimpArgs false
open Go.RowKit

theorem stripC_swap : ∀ X Y : List Int, stripC Y X = ((stripC X Y).2, (stripC X Y).1)
  | [], [] => rfl
  | [], y :: ys => rfl
  | x :: xs, [] => rfl
  | x :: xs, y :: ys => by
    unfold stripC
    by_cases h : x = y
    · rw [if_pos h, if_pos h.symm]; exact stripC_swap xs ys
    · rw [if_neg h, if_neg (fun e => h e.symm)]
theorem stripC_same : ∀ X : List Int, stripC X X = ([], [])
  | [] => rfl
  | x :: xs => by unfold stripC; rw [if_pos rfl]; exact stripC_same xs
theorem count_twice {xs : List Int} {n : Int} {k l : Nat} (hkl : k < l) (hl : l < xs.length) (h1 : xs[k] = n) (h2 : xs[l] = n) : 2 ≤ xs.count n := by
  have e : xs.count n = (xs.take l).count n + (xs.drop l).count n := by rw [← List.count_append, List.take_append_drop]
  have p1 : 0 < (xs.take l).count n := List.count_pos_iff.2 (List.mem_take_iff_getElem.2 ⟨k, by omega, h1⟩)
  have p2 : 0 < (xs.drop l).count n := List.count_pos_iff.2 (by
    rw [List.drop_eq_getElem_cons hl, h2]; exact List.mem_cons_self)
  omega
theorem at_one {f : PFrame} (ho : f.ok = true) {n : Int} {ci di k l : Nat} (h1 : f.at n ci k) (h2 : f.at n di l) : ci = di ∧ k = l := by
  obtain rfl := at_col ho h1 h2
  refine ⟨rfl, ?_⟩
  obtain ⟨a1, a2, a3⟩ := h1
  obtain ⟨b1, b2, b3⟩ := h2
  have hc := (once_le f.flat).1 (PFrame.ok_flat ho).2.1 n
  have hd := cnt_flat f.cols ci a1 n
  unfold PFrame.flat at hc
  rcases Nat.lt_trichotomy k l with h | h | h
  · have := count_twice h b2 a3 b3; omega
  · exact h
  · have := count_twice h a2 b3 a3; omega
theorem sumG_le {g h : Int → Int} : ∀ {xs : List Int}, (∀ x, g x ≤ h x) → sumG g xs ≤ sumG h xs
  | [], _ => Int.le_refl _
  | x :: xs, hh => by
    have h1 := hh x
    have h2 := sumG_le (xs := xs) hh
    simp only [sumG]; omega
theorem meet_swap (lo hi : Int) : meetR (-hi) (-lo) = meetR lo hi := by
  unfold meetR
  by_cases h : lo = 0 ∧ hi = 0
  · rw [if_pos h, if_pos (by omega)]
  · rw [if_neg h, if_neg (by omega)]
    by_cases h2 : lo ≤ 0 ∧ 0 ≤ hi
    · rw [if_pos h2, if_pos (by omega)]
    · rw [if_neg h2, if_neg (by omega)]
/-- The gaps of two pieces, both ways. -/
theorem tops_are {f : PFrame} (ho : f.ok = true) {one other : Int} (h0 : 0 ≤ one) (hn : one < (f.pieces.length : Int)) (h1 : 0 ≤ other) (hn1 : other < (f.pieces.length : Int)) :
    ∃ L H : Int, -1000 ≤ L ∧ L ≤ H ∧ H ≤ 1000 ∧
      (∀ e, GapPost2 f one other e → e = .returned (.tuple #[.agg #[.int .i64 L, .int .i64 H], .int .i64 0])) ∧
      (∀ e, GapPost2 f other one e → e = .returned (.tuple #[.agg #[.int .i64 (-H), .int .i64 (-L)], .int .i64 0])) ∧
      (∀ e, GapPost2 f one one e → e = .returned (.tuple #[.agg #[.int .i64 0, .int .i64 0], .int .i64 0])) ∧
      (∀ e, MeetsPost f one other e → e = .returned (.tuple #[.int .i64 (meetR L H), .int .i64 0])) ∧
      (∀ e, MeetsPost f other one e → e = .returned (.tuple #[.int .i64 (meetR L H), .int .i64 0])) := by
  obtain ⟨ci, a, ha⟩ := at_some ho h0 hn
  obtain ⟨di, b, hb⟩ := at_some ho h1 hn1
  have s := stripC_swap (f.ahead ci a) (f.ahead di b)
  have hsub := strip_sub (f.ahead ci a) (f.ahead di b)
  have l1 := (ahead_in ho ha).2
  have l2 := (ahead_in ho hb).2
  have eL : f.gapLo (f.ahead di b) (f.ahead ci a) = - f.gapHi (f.ahead ci a) (f.ahead di b) := by
    unfold PFrame.gapLo PFrame.gapHi; rw [s]; simp only; omega
  have eH : f.gapHi (f.ahead di b) (f.ahead ci a) = - f.gapLo (f.ahead ci a) (f.ahead di b) := by
    unfold PFrame.gapLo PFrame.gapHi; rw [s]; simp only; omega
  have p1 := PFrame.loS_bd ho (stripC (f.ahead ci a) (f.ahead di b)).1 (by omega)
  have p2 := PFrame.loS_bd ho (stripC (f.ahead ci a) (f.ahead di b)).2 (by omega)
  have p3 := PFrame.hiS_bd ho (stripC (f.ahead ci a) (f.ahead di b)).1 (by omega)
  have p4 := PFrame.hiS_bd ho (stripC (f.ahead ci a) (f.ahead di b)).2 (by omega)
  have p5 : f.loS (stripC (f.ahead ci a) (f.ahead di b)).1 ≤ f.hiS (stripC (f.ahead ci a) (f.ahead di b)).1 := sumG_le (PFrame.lo_hi ho)
  have p6 : f.loS (stripC (f.ahead ci a) (f.ahead di b)).2 ≤ f.hiS (stripC (f.ahead ci a) (f.ahead di b)).2 := sumG_le (PFrame.lo_hi ho)
  refine ⟨f.gapLo (f.ahead ci a) (f.ahead di b), f.gapHi (f.ahead ci a) (f.ahead di b), by unfold PFrame.gapLo; omega, by unfold PFrame.gapLo PFrame.gapHi; omega, by unfold PFrame.gapHi; omega, ?_, ?_, ?_, ?_, ?_⟩
  · rintro e ⟨c', a', d', b', q1, q2, rfl⟩
    obtain ⟨rfl, rfl⟩ := at_one ho ha q1
    obtain ⟨rfl, rfl⟩ := at_one ho hb q2
    rfl
  · rintro e ⟨c', a', d', b', q1, q2, rfl⟩
    obtain ⟨rfl, rfl⟩ := at_one ho hb q1
    obtain ⟨rfl, rfl⟩ := at_one ho ha q2
    rw [eL, eH]
  · rintro e ⟨c', a', d', b', q1, q2, rfl⟩
    obtain ⟨rfl, rfl⟩ := at_one ho ha q1
    obtain ⟨rfl, rfl⟩ := at_one ho ha q2
    unfold PFrame.gapLo PFrame.gapHi
    rw [stripC_same]; rfl
  · rintro e ⟨c', a', d', b', q1, q2, rfl⟩
    obtain ⟨rfl, rfl⟩ := at_one ho ha q1
    obtain ⟨rfl, rfl⟩ := at_one ho hb q2
    rfl
  · rintro e ⟨c', a', d', b', q1, q2, rfl⟩
    obtain ⟨rfl, rfl⟩ := at_one ho hb q1
    obtain ⟨rfl, rfl⟩ := at_one ho ha q2
    rw [eL, eH, meet_swap]
end Go.Proofs.Ytgpmnelkjfoplaa
