/- Whether a pot is within a limit; the numbers of the limits, one by one; Fails. -/
import Derived.Test.YtojmimfjnnibdaaN
import Derived.RangeFuncNested
import Derived.RangeFuncBound
import Derived.RangeFuncCalls
import Derived.RangeFuncLeaves
import Derived.RangeFuncBox
import Derived.Shelf.Abstract
import Derived.Shelf.RegionOpen
import Derived.OwnWalkIn
import Derived.TacticsInMore
import Derived.LoopNIn
import Derived.LoopIn
import Derived.Maps.AppendAt
namespace Go.Proofs.Ytojmimfjnnibdaa
set_option linter.unusedVariables false
set_option linter.unusedSimpArgs false
open Go.RowKit Go.Shelf

attribute [local go_sem] Oper.semAt_some

/-- Whether a pot is within a limit in each truth. -/
def keepsB (s : Shop) (P tl th al ah : Int) (limit : Int) : Bool :=
  if limit = 1 then decide (P * s.xl ≤ 1000 * tl) else if limit = 2 then decide (1000 * th ≤ P * s.xh) else if limit = 3 then decide (P * s.yl ≤ 1000 * al) else decide (1000 * ah ≤ P * s.yh)

set_option maxHeartbeats 400000 in
theorem keeps_1 (s : Shop) (a : Option Addr) (len cap : Nat) (P tl th al ah : Int) (w : World) (hP : 0 ≤ P ∧ P ≤ 2000) (hx : 0 ≤ s.xl ∧ s.xl ≤ 1000) (hv : Fair tl) :
    Calls Try.prog 77 #[.agg #[.int .i64 s.P, .int .i64 s.tl, .int .i64 s.th, .int .i64 s.al, .int .i64 s.ah, .int .i64 s.room, .int .i64 s.xl, .int .i64 s.xh, .int .i64 s.yl, .int .i64 s.yh, .slice a len cap], .agg #[.int .i64 P, .int .i64 tl, .int .i64 th, .int .i64 al, .int .i64 ah], .int .i64 1] w fun e w' => e = .returned (.bool (keepsB s P tl th al ah 1)) ∧ Below w.heap.size w w' := by
  obtain ⟨m1, m2⟩ := bd_mul P s.xl hP hx
  obtain ⟨v1, v2⟩ := hv
  go_enter Try.func77, Try.ntmps77
  go_wp2
  go_ret
  exact ⟨ret_bool (by simp [keepsB]), (by repeat (first | exact Below.refl _ _ | (refine Below.alloc ?_ (by first | omega | (simp; omega) | simp) _) | (refine Below.setCell ?_ (by first | omega | (simp; omega) | simp) _) | refine Below.drew ?_))⟩
set_option maxHeartbeats 400000 in
theorem keeps_2 (s : Shop) (a : Option Addr) (len cap : Nat) (P tl th al ah : Int) (w : World) (hP : 0 ≤ P ∧ P ≤ 2000) (hx : 0 ≤ s.xh ∧ s.xh ≤ 1000) (hv : Fair th) :
    Calls Try.prog 77 #[.agg #[.int .i64 s.P, .int .i64 s.tl, .int .i64 s.th, .int .i64 s.al, .int .i64 s.ah, .int .i64 s.room, .int .i64 s.xl, .int .i64 s.xh, .int .i64 s.yl, .int .i64 s.yh, .slice a len cap], .agg #[.int .i64 P, .int .i64 tl, .int .i64 th, .int .i64 al, .int .i64 ah], .int .i64 2] w fun e w' => e = .returned (.bool (keepsB s P tl th al ah 2)) ∧ Below w.heap.size w w' := by
  obtain ⟨m1, m2⟩ := bd_mul P s.xh hP hx
  obtain ⟨v1, v2⟩ := hv
  go_enter Try.func77, Try.ntmps77
  go_wp2
  go_ret
  exact ⟨ret_bool (by simp [keepsB]), (by repeat (first | exact Below.refl _ _ | (refine Below.alloc ?_ (by first | omega | (simp; omega) | simp) _) | (refine Below.setCell ?_ (by first | omega | (simp; omega) | simp) _) | refine Below.drew ?_))⟩
set_option maxHeartbeats 400000 in
theorem keeps_3 (s : Shop) (a : Option Addr) (len cap : Nat) (P tl th al ah : Int) (w : World) (hP : 0 ≤ P ∧ P ≤ 2000) (hx : 0 ≤ s.yl ∧ s.yl ≤ 1000) (hv : Fair al) :
    Calls Try.prog 77 #[.agg #[.int .i64 s.P, .int .i64 s.tl, .int .i64 s.th, .int .i64 s.al, .int .i64 s.ah, .int .i64 s.room, .int .i64 s.xl, .int .i64 s.xh, .int .i64 s.yl, .int .i64 s.yh, .slice a len cap], .agg #[.int .i64 P, .int .i64 tl, .int .i64 th, .int .i64 al, .int .i64 ah], .int .i64 3] w fun e w' => e = .returned (.bool (keepsB s P tl th al ah 3)) ∧ Below w.heap.size w w' := by
  obtain ⟨m1, m2⟩ := bd_mul P s.yl hP hx
  obtain ⟨v1, v2⟩ := hv
  go_enter Try.func77, Try.ntmps77
  go_wp2
  go_ret
  exact ⟨ret_bool (by simp [keepsB]), (by repeat (first | exact Below.refl _ _ | (refine Below.alloc ?_ (by first | omega | (simp; omega) | simp) _) | (refine Below.setCell ?_ (by first | omega | (simp; omega) | simp) _) | refine Below.drew ?_))⟩
set_option maxHeartbeats 400000 in
theorem keeps_4 (s : Shop) (a : Option Addr) (len cap : Nat) (P tl th al ah : Int) (w : World) (hP : 0 ≤ P ∧ P ≤ 2000) (hx : 0 ≤ s.yh ∧ s.yh ≤ 1000) (hv : Fair ah) :
    Calls Try.prog 77 #[.agg #[.int .i64 s.P, .int .i64 s.tl, .int .i64 s.th, .int .i64 s.al, .int .i64 s.ah, .int .i64 s.room, .int .i64 s.xl, .int .i64 s.xh, .int .i64 s.yl, .int .i64 s.yh, .slice a len cap], .agg #[.int .i64 P, .int .i64 tl, .int .i64 th, .int .i64 al, .int .i64 ah], .int .i64 4] w fun e w' => e = .returned (.bool (keepsB s P tl th al ah 4)) ∧ Below w.heap.size w w' := by
  obtain ⟨m1, m2⟩ := bd_mul P s.yh hP hx
  obtain ⟨v1, v2⟩ := hv
  go_enter Try.func77, Try.ntmps77
  go_wp2
  go_ret
  exact ⟨ret_bool (by simp [keepsB]), (by repeat (first | exact Below.refl _ _ | (refine Below.alloc ?_ (by first | omega | (simp; omega) | simp) _) | (refine Below.setCell ?_ (by first | omega | (simp; omega) | simp) _) | refine Below.drew ?_))⟩

set_option maxHeartbeats 1000000 in
/-- The numbers from 1 to 4, for every loop body. -/
theorem limits1_in (F : Fence) (n : Nat) (h6 : F.fn 105) (hro : F.round = none) (hn : 1 ≤ n) (l : Nat) (K : World → World → Prop) (J Jx : List Int → World → Prop)
    (hY : ∀ pre x W, J pre W → pre.length < 4 → YieldAt F (n - 1) Try.prog l #[.int .i64 x] W fun e W' =>
      (e = .returned (.bool true) ∧ J (pre ++ [x]) W' ∧ K W W') ∨ (e = .returned (.bool false) ∧ Jx (pre ++ [x]) W'))
    (W : World) (h0 : J [] W) :
    CallsIn F n Try.prog 105 #[.func (.yield l) #[] #[]] W fun e W' => (∃ v, e = .returned v) ∧
      ((∃ ys, ys = [1, 2, 3, 4] ∧ J ys W') ∨ (∃ pre, pre <+: [1, 2, 3, 4] ∧ Jx pre W')) := by
  refine callsIn_of_wp Try.func105 rfl h6 ?_ hro
  simp only [Try.ntmps105, List.size_toArray, List.length_cons, List.length_nil, Nat.reduceAdd, Nat.reduceSub, Array.replicate_succ, Array.replicate_zero, List.push_toArray, List.append_toArray, List.nil_append, List.cons_append]
  gi_wp2
  gi_loopw [2] (fun i wr => ∃ k : Nat, k ≤ 4 ∧ i = .int .i64 ((k : Int) + 1) ∧ J ([1, 2, 3, 4].take k) wr) (fun i _ => 5 - (intOf i).toNat)
  case atStart => exact ⟨0, by omega, rfl, h0⟩
  case round =>
    obtain ⟨k, hk, rfl, hJ⟩ := hrel
    by_cases hlt : k < 4
    · obtain ⟨fn, tmps, assign, body, hy, hR⟩ := hY _ ((k : Int) + 1) wr hJ (by simp; omega)
      have hnext : ([1, 2, 3, 4] : List Int).take k ++ [(k : Int) + 1] = [1, 2, 3, 4].take (k + 1) := by
        match k, hlt with
        | 0, _ => rfl
        | 1, _ => rfl
        | 2, _ => rfl
        | 3, _ => rfl
      have HN := Lib.hid hnext; clear hnext
      gi_wp2
      refine hR.mono ?_
      rintro e W3 (⟨rfl, hJ3, hk3⟩ | ⟨rfl, hJx3⟩)
      · gi_wp2
        go_roundw
        case rel => exact ⟨k + 1, by omega, by go_num, HN.out ▸ hJ3⟩
        case measure => simp [intOf]; omega
      · gi_wp2
        refine bodyPost_ret (results_none rfl _ _ _) rfl ?_
        exact ⟨⟨_, rfl⟩, .inr ⟨_, HN.out ▸ List.take_prefix _ _, hJx3⟩⟩
    · have hk' : k = 4 := by omega
      subst hk'
      gi_wp2
      go_end0
      exact ⟨⟨_, rfl⟩, .inl ⟨_, rfl, hJ⟩⟩

theorem limits_stops (F : Fence) (n : Nat) (h6 : F.fn 105) (hro : F.round = none) (hn : 1 ≤ n) (K : World → World → Prop) (w : World) :
    SeqStopsK F n Try.prog 105 #[] (fun x : Int => #[Value.int .i64 x]) K (fun ys => ys = [1, 2, 3, 4]) (fun pre => pre <+: [1, 2, 3, 4]) 4 w := fun l J Jx W _ _ _ hY h0 =>
  limits1_in F n h6 hro hn l K J Jx hY W h0
theorem limits_in (F : Fence) (n : Nat) (h6 : F.fn 76) (hro : F.round = none) (w : World) :
    CallsIn F n Try.prog 76 #[] w fun e w' => e = .returned (.func (.func 105) #[] #[]) ∧ w = w' := by
  refine callsIn_of_wp Try.func76 rfl h6 ?_ hro
  simp only [Try.ntmps76, List.size_toArray, List.length_cons, List.length_nil, Nat.reduceAdd, Nat.reduceSub, Array.replicate_succ, Array.replicate_zero, List.push_toArray, List.append_toArray, List.nil_append, List.cons_append]
  gi_wp2
  go_ret
  exact ⟨rfl, rfl⟩
end Go.Proofs.Ytojmimfjnnibdaa
