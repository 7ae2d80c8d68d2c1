/- Package flongs: share: all shares that begin so, one behind the other. -/
import Derived.Test.YtigeiaiohdemiaaFJ
namespace Go.Proofs.Ytigeiaiohdemiaa
set_option linter.unusedVariables false
set_option linter.unusedSimpArgs false
open Go.RowKit Go.Shelf

attribute [local go_sem] Oper.semAt_some

theorem Try.info3 : (Try.prog.info? 3).map (fun i => (i.zero, i.size, i.bytes)) = some (some (.int .i64 0), 1, 8) := by kernel_rfl

/-- What a walk of share ends with. -/
def SharePost (J : List (List Int) → World → Prop) (N n0 b c k cap : Nat) (x cur : List Int) (new pre : List (List Int)) (w : World) (e : Ending) (w' : World) : Prop :=
  e = .returned (.bool true) ∧ J (pre ++ new) w' ∧ RowI w' n0 b k cap x ∧ HoldsI w' c cur ∧ KeepsBut N b c w w'

/-- append of one number, where there is room. -/
theorem step_append_fit {ops : Array Oper} {o : Oper} {a : Act} {K : Act → World → Prop} {Q : Exit → Act → World → Prop} {E : Prop} (w : World) (n0 b k cap g : Nat) (xs : List Int) (n : Int) (hgd : o.guard = none) (s x : Operand)
    (ho : o.op = .call { callee := .builtin .append, args := #[s, x], argTypes := #[24, 24] }) (hs : a.eval s = .slice (some ⟨b, 0, none⟩) k cap) (hxv : a.eval x = .slice (some ⟨g, 0, none⟩) 1 1)
    (hrow : RowI w n0 b k cap xs) (hc : w.cell? ⟨g, 0, none⟩ = some (.int .i64 n)) (hk : k + 1 ≤ cap)
    (h : ∀ w', RowI w' n0 b (k + 1) cap (xs ++ [n]) → w.grownBy w' (some b) → K (a.put o.dst (.slice (some ⟨b, 0, none⟩) (k + 1) cap)) w') : if Region.wanted o (yielded ops a.tmps) = true then Oper.wp Try.prog o a w K Q else E := by
  obtain ⟨i0, hi, hy0, hy1, hy2⟩ := info_parts Try.info3
  have hw : Region.wanted o (yielded ops a.tmps) = true := by simp [Region.wanted, hgd]
  rw [if_pos hw]
  obtain ⟨w', hrun, r1, r2⟩ := run_append_fits (P := Try.prog) w n0 24 o.type 3 i0 1 Try.underlying24 hi hy1 b k cap _ hrow ⟨g, 0, none⟩ 1 1 [.int .i64 n] rfl (by
    intro j u hj
    match j, hj with
    | 0, hj => simp at hj; subst hj; simpa [Addr.add] using hc) (by simp [Value.oneCell']) hk
  unfold Oper.wp
  simp [execOp, ho, resolve, invoke, builtin, hs, hxv, hrun, Result.andThen]
  exact h w' (by simpa [RowI] using r1) r2

set_option maxRecDepth 100000 in
set_option maxHeartbeats 4000000 in
theorem share_end (s : FShop) (ma : Option Addr) (ml mc : Nat) (wa : Option Addr) (wl wc : Nat) (na : Option Addr) (nl nc : Nat) (l N n0 b c ncap : Nat) (ca : Option Addr) (hca : nl = 0 ∨ ca = some ⟨c, 0, none⟩) (hnb : N ≤ n0) (hml : ml ≤ 5) (hnl : nl ≤ 3) (J : List (List Int) → World → Prop)
    (hJ : ∀ pre W W' row, J pre W → W.grownBy W' row → (row = none ∨ row = some b ∨ row = some c) → J pre W')
    (hY : ∀ pre x W, J pre W → RowI W n0 b ml ml x → c < W.heap.size → x ∈ s.justs → YieldAt Fence.wide 12 Try.prog l #[.slice (some ⟨b, 0, none⟩) ml ml] W fun e W' => e = .returned (.bool true) ∧ J (pre ++ [x]) W' ∧ KeepsUp N W W')
    (x cur : List Int) (pre : List (List Int)) (W : World) (hcl : cur.length = nl) (hJp : J pre W) (hrow : RowI W n0 b ml ml x) (hc : HoldsI W c cur) (hNc : N ≤ c) (hin : ∀ y ∈ justsF [] cur x, y ∈ s.justs) :
    Calls Try.prog 105 #[.agg #[.slice ma ml mc, .slice wa wl wc, .slice na nl nc, .int .i64 s.fresh], .slice (some ⟨b, 0, none⟩) ml ml, .slice ca nl ncap, .func (.yield l) #[] #[]] W fun e W' => SharePost J N n0 b c ml ml x cur (justsF [] cur x) pre W e W' := by
  have hbn : N ≤ b := Nat.le_trans hnb hrow.parts.1
  obtain ⟨bb, hbb⟩ : ∃ bb, (cur.any fun n => decide (0 < n)) = bb := ⟨_, rfl⟩
  have HC := Lib.hid (fun w1 (hb : Below W.heap.size W w1) => ContainsFunc_is ca nl ncap cur w1 (by
    have := (hc.below hb).ints (by unfold maxLen; omega)
    rw [hcl] at this
    rcases hca with h0 | rfl
    · exact ⟨hcl, by unfold maxLen; omega, fun h => by omega⟩
    · exact this) (by omega) bb hbb)
  have hB1 : Below W.heap.size W (W.alloc (.cells #[.slice ma ml mc, .slice wa wl wc, .slice na nl nc, .int .i64 s.fresh] 77)) := (by repeat (first | exact Below.refl _ _ | (refine Below.alloc ?_ (by first | omega | (simp; omega) | simp) _) | (refine Below.setCell ?_ (by first | omega | (simp; omega) | simp) _) | refine Below.drew ?_))
  have hJ1 := hJ _ _ _ _ hJp (grown_none hB1) (.inl rfl)
  have hrow1 : RowI (W.alloc (.cells #[.slice ma ml mc, .slice wa wl wc, .slice na nl nc, .int .i64 s.fresh] 77)) n0 b ml ml x := hrow.block (hB1.block _ hrow.lt)
  have hc1 : HoldsI (W.alloc (.cells #[.slice ma ml mc, .slice wa wl wc, .slice na nl nc, .int .i64 s.fresh] 77)) c cur := hc.below hB1
  have e1 : ((ml : Int) == (ml : Int)) = true := by simp
  cases bb
  · have hjf : justsF [] cur x = [x] := by simp [justsF, hbb]
    obtain ⟨fn, tmps, assign, body, hy, hR⟩ := yield_deep (F := Fence.wide) rfl 11 (hY _ x _ hJ1 hrow1 hc1.1 (hin x (by rw [hjf]; simp)))
    have HR := Lib.hid hR
    have HJF := Lib.hid hjf
    have HROW := Lib.hid hrow1
    have HCC := Lib.hid hc1
    have HB1 := Lib.hid hB1
    clear hR hjf hrow1 hc1 hB1 hJ1 hrow hc hJp hbb hin hY hJ
    refine (callsIn_wide (n := 12)).1 ?_
    refine callsIn_of_wp Try.func105 rfl trivial ?_ rfl
    simp only [Try.ntmps105, List.size_toArray, List.length_cons, List.length_nil, Nat.reduceAdd, Nat.reduceSub, Array.replicate_succ, Array.replicate_zero, List.push_toArray, List.append_toArray, List.nil_append, List.cons_append]
    gi_wp2_with (refine ⟨trivial, ?_⟩; gi_at_call 109; refine (callsIn_wide.2 (HC.out _ (by repeat (first | exact Below.refl _ _ | (refine Below.alloc ?_ (by first | omega | (simp; omega) | simp) _) | (refine Below.setCell ?_ (by first | omega | (simp; omega) | simp) _) | refine Below.drew ?_)))).mono ?_; rintro e w2 ⟨rfl, rfl⟩)
    refine HR.out.mono ?_
    rintro e w3 ⟨rfl, hJ3, hk3⟩
    gi_wp2
    refine bodyPost_ret (v := .bool true) (by simp [results, Try.results105, go_sem]) rfl ⟨rfl, by rw [HJF.out]; exact hJ3, HROW.out.block (hk3.2 _ hbn HROW.out.lt), HCC.out.block hk3.1 (hk3.2 _ hNc HCC.out.1), (KeepsBut.below HB1.out).trans hk3.but⟩
  · have hjf : justsF [] cur x = [] := by simp [justsF, hbb]
    have HJF := Lib.hid hjf
    have HROW := Lib.hid hrow1
    have HCC := Lib.hid hc1
    have HB1 := Lib.hid hB1
    have HJ1 := Lib.hid hJ1
    clear hjf hrow1 hc1 hB1 hrow hc hJp hbb hin hY hJ1 hJ
    refine (callsIn_wide (n := 12)).1 ?_
    refine callsIn_of_wp Try.func105 rfl trivial ?_ rfl
    simp only [Try.ntmps105, List.size_toArray, List.length_cons, List.length_nil, Nat.reduceAdd, Nat.reduceSub, Array.replicate_succ, Array.replicate_zero, List.push_toArray, List.append_toArray, List.nil_append, List.cons_append]
    gi_wp2_with (refine ⟨trivial, ?_⟩; gi_at_call 109; refine (callsIn_wide.2 (HC.out _ (by repeat (first | exact Below.refl _ _ | (refine Below.alloc ?_ (by first | omega | (simp; omega) | simp) _) | (refine Below.setCell ?_ (by first | omega | (simp; omega) | simp) _) | refine Below.drew ?_)))).mono ?_; rintro e w2 ⟨rfl, rfl⟩)
    refine ⟨fun _ h => (by cases h), ?_⟩
    gi_wp2
    refine bodyPost_ret (v := .bool true) (by simp [results, Try.results105, go_sem]) rfl ⟨rfl, by rw [HJF.out]; simpa using HJ1.out, HROW.out, HCC.out, KeepsBut.below HB1.out⟩
end Go.Proofs.Ytigeiaiohdemiaa
