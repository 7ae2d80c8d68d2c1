/- Package changes: rows that are collected. -/
import Derived.Test.YtedfdhpggghjeaaCI
import Derived.Deep.AppendSrc
import Derived.Maps.AppendAt
namespace Go.Proofs.Ytedfdhpggghjeaa
set_option linter.unusedVariables false
set_option linter.unusedSimpArgs false
open Go.RowKit Go.Shelf

theorem Try.info3 : (Try.prog.info? 3).map (fun i => (i.zero, i.size, i.bytes)) = some (some (.int .i64 0), 1, 8) := by kernel_rfl
theorem wpList_append_run {P : Program} (w : World) {ops : Array Oper} {rest : List Oper} {o : Oper} {a : Act} {Q : Exit → Act → World → Prop} (hgd : o.guard = none) (s x : Operand) (t : TypeId)
    (ho : o.op = .call { callee := .builtin .append, args := #[s, x], argTypes := #[t, t] }) (v1 v2 r : Value) (w' : World) (hs : a.eval s = v1) (hx : a.eval x = v2)
    (hr : (Builtin.append_ #[t, t] o.type #[v1, v2]).run P w = .ok r w') (h : wpList P ops Q rest (a.put o.dst r) w') : wpList P ops Q (o :: rest) a w := by
  refine wpList_plain hgd fun K hK => ?_
  unfold Oper.wp execOp
  simp only [ho, resolve, invoke, builtin, Sem.run_bind, Sem.run_pure, Result.andThen_ok, List.map_toArray, List.map_cons, List.map_nil, hs, hx, hr]
  exact hK _ _ h
/-- append of one number, to a row that the call has made. -/
theorem wpList_append_int {ops : Array Oper} {rest : List Oper} {o : Oper} {a : Act} {Q : Exit → Act → World → Prop} (w : World) (n0 k : Nat) (v : Value) (cs : List Value) (n : Int) (hgd : o.guard = none) (s x : Operand)
    (ho : o.op = .call { callee := .builtin .append, args := #[s, x], argTypes := #[39, 39] }) (hs : a.eval s = v) (hxv : ∃ p, a.eval x = .slice (some ⟨p, 0, none⟩) 1 1 ∧ w.cell? ⟨p, 0, none⟩ = some (.int .i64 n))
    (hrow : w.ownsRow n0 3 1 v k cs) (hl : k ≤ 1000) (hnw : n0 ≤ w.heap.size)
    (h : ∀ v' w', w'.ownsRow n0 3 1 v' (k + 1) (cs ++ [.int .i64 n]) → w.grownBy w' v.ownBlock → (∀ g, v'.ownBlock = some g → v.ownBlock = some g ∨ w.heap.size ≤ g) → wpList Try.prog ops Q rest (a.put o.dst v') w') : wpList Try.prog ops Q (o :: rest) a w := by
  obtain ⟨p, hxv, h0⟩ := hxv
  obtain ⟨i0, hi0, hy0, hy1, hy2⟩ := info_parts Try.info3
  obtain ⟨v', w3, hr, hown, hgrow, hnew, hn2⟩ := run_append_own_at (P := Try.prog) w n0 39 o.type 3 i0 _ 1 8 Try.underlying39 hi0 hy0 hy1 hy2 rfl (by decide) _ k _ hrow ⟨p, 0, none⟩ 1 1 [.int .i64 n] rfl (by
    intro j x hj
    match j, hj with
    | 0, hj => cases hj; rw [Addr.add_lit]; exact h0
    | j + 1, hj => simp at hj) (by intro x hx; simp at hx; subst hx; rfl) (by unfold maxLen; omega) (by omega) hnw
  exact wpList_append_run w hgd s x 39 ho _ _ _ _ hs hxv hr (h v' w3 hown hgrow (fun g hg => by
    rcases hn2 with e | e
    · exact .inl (e ▸ hg)
    · rw [e] at hg; injection hg with hg; exact .inr (by omega)))
theorem own_low {w : World} {n0 len sz : Nat} {e : TypeId} {v : Value} {xs : List Value} (h : w.ownsRow n0 e sz v len xs) : ∀ r, v.ownBlock = some r → n0 ≤ r := by
  intro r hr
  rcases h.2 with ⟨rfl, _⟩ | ⟨g, c, cur, rfl, h1, _⟩
  · simp [Value.ownBlock] at hr
  · simp [Value.ownBlock] at hr; omega
theorem own_base2 {w : World} {n0 n1 len sz : Nat} {e : TypeId} {v : Value} {xs : List Value} (h : w.ownsRow n0 e sz v len xs) (hn : n1 ≤ n0) : w.ownsRow n1 e sz v len xs := by
  refine ⟨h.1, ?_⟩
  rcases h.2 with h2 | ⟨g, cap, cur, h2, h3, h4⟩
  · exact .inl h2
  · exact .inr ⟨g, cap, cur, h2, by omega, h4⟩
theorem gb_up2 {W X Y : World} {R : Option Nat} (hb : Below W.heap.size W X) (h : X.grownBy Y R) : W.grownBy Y R :=
  ⟨h.os.trans hb.os, h.tape.trans hb.tape, h.output.trans hb.output, Nat.le_trans hb.size h.size, fun k hk hne => (h.block k (Nat.lt_of_lt_of_le hk hb.size) hne).trans (hb.block k hk)⟩
theorem ownsRow_pos {w : World} {n0 k n : Nat} {e : TypeId} {v : Value} {xs : List Value} (h : w.ownsRow n0 e k v n xs) (hn : 0 < n) : ∃ g cap, v = .slice (some ⟨g, 0, none⟩) n cap ∧ n0 ≤ g := by
  rcases h.2 with ⟨_, h⟩ | ⟨g, cap, cur, h, hg, _⟩
  · omega
  · exact ⟨g, cap, h, hg⟩
theorem own_cap {w : World} {n0 k cap size : Nat} {e : TypeId} {ga : Option Addr} {cs : List Value} (h : w.ownsRow n0 e size (.slice ga k cap) k cs) : k ≤ cap ∧ cap ≤ maxLen := by
  rcases h.2 with ⟨e1, h0⟩ | ⟨g, c, cur, e1, h1, h2, h3, h4, -⟩
  · injection e1 with _ _ e3
    subst e3 h0
    exact ⟨Nat.le_refl _, by unfold maxLen; omega⟩
  · injection e1 with _ _ e3
    subst e3
    exact ⟨h3, h4⟩
theorem own_lt {w : World} {n0 len sz : Nat} {e : TypeId} {v : Value} {xs : List Value} (h : w.ownsRow n0 e sz v len xs) : ∀ r, v.ownBlock = some r → r < w.heap.size := by
  intro r hr
  rcases h.2 with ⟨rfl, _⟩ | ⟨g, c, cur, rfl, _, h2, _⟩
  · simp [Value.ownBlock] at hr
  · simp [Value.ownBlock] at hr; rw [← hr]; exact (Array.getElem?_eq_some_iff.1 h2).1
end Go.Proofs.Ytedfdhpggghjeaa
