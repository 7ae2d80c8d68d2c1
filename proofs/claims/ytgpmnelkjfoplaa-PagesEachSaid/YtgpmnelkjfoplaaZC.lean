/- Package pages: append of a span; what rooms gives. -/
import Derived.Test.YtgpmnelkjfoplaaZB
namespace Go.Proofs.Ytgpmnelkjfoplaa
set_option linter.unusedVariables false
set_option linter.unusedSimpArgs false
open Go.RowKit

theorem Try.info32 : (Try.prog.info? 32).map (fun i => (i.zero, i.size, i.bytes)) = some (some (.agg #[.int .i64 0, .int .i64 0]), 2, 16) := by kernel_rfl
theorem own_low {w : World} {n0 len sz : Nat} {e : TypeId} {v : Value} {xs : List Value} (h : w.ownsRow n0 e sz v len xs) : ∀ r, v.ownBlock = some r → n0 ≤ r := by
  intro r hr
  rcases h.2 with ⟨rfl, _⟩ | ⟨g, c, cur, rfl, h1, _⟩
  · simp [Value.ownBlock] at hr
  · simp [Value.ownBlock] at hr; omega
/-- append of one span, to a row that the call has made. -/
theorem wpList_append_span {ops : Array Oper} {rest : List Oper} {o : Oper} {a : Act} {Q : Exit → Act → World → Prop} (w : World) (n0 k : Nat) (v : Value) (cs : List Value) (lo hi : Int) (hgd : o.guard = none) (s x : Operand)
    (ho : o.op = .call { callee := .builtin .append, args := #[s, x], argTypes := #[135, 135] }) (hs : a.eval s = v) (hxv : ∃ p, a.eval x = .slice (some ⟨p, 0, none⟩) 1 1 ∧ w.cell? ⟨p, 0, none⟩ = some (.int .i64 lo) ∧ w.cell? ⟨p, 1, none⟩ = some (.int .i64 hi))
    (hrow : w.ownsRow n0 32 2 v k cs) (hl : k ≤ 1000) (hnw : n0 ≤ w.heap.size)
    (h : ∀ v' w', w'.ownsRow n0 32 2 v' (k + 1) (cs ++ [.int .i64 lo, .int .i64 hi]) → Below n0 w w' → wpList Try.prog ops Q rest (a.put o.dst v') w') : wpList Try.prog ops Q (o :: rest) a w := by
  obtain ⟨p, hxv, h0, h1⟩ := hxv
  obtain ⟨i0, hi0, hy0, hy1, hy2⟩ := info_parts Try.info32
  obtain ⟨v', w3, hr, hown, hgrow, _, _⟩ := run_append_own_at (P := Try.prog) w n0 135 o.type 32 i0 _ 2 16 Try.underlying135 hi0 hy0 hy1 hy2 rfl (by decide) _ k _ hrow ⟨p, 0, none⟩ 1 1 [.int .i64 lo, .int .i64 hi] rfl (by
    intro j x hj
    match j, hj with
    | 0, hj => cases hj; rw [Addr.add_lit]; exact h0
    | 1, hj => cases hj; rw [Addr.add_lit]; exact h1
    | j + 2, hj => simp at hj) (by intro x hx; simp at hx; rcases hx with rfl | rfl <;> rfl) (by unfold maxLen; omega) (by omega) hnw
  exact wpList_append_run w hgd s x 135 ho _ _ _ _ hs hxv hr (h v' w3 hown (grown_low hgrow hnw (own_low hrow)))

def roomCells (f : PFrame) (c n : Nat) : List Value := ((f.cols.take n).map fun x => [Value.int .i64 (f.roomLo (keepC c x)), Value.int .i64 (f.roomHi (keepC c x))]).flatten
theorem roomCells_snoc (f : PFrame) (c n : Nat) (h : n < f.cols.length) : roomCells f c (n + 1) = roomCells f c n ++ [.int .i64 (f.roomLo (keepC c f.cols[n])), .int .i64 (f.roomHi (keepC c f.cols[n]))] := by
  unfold roomCells
  rw [List.take_succ_eq_append_getElem h, List.map_append, List.flatten_append]
  simp

end Go.Proofs.Ytgpmnelkjfoplaa
