/- FlongsMore: the walk where a mould is added. Written by tools/gen_hr.py long. -/
import Derived.Test.YtigeiaiohdemiaaHR
import Derived.Test.YtigeiaiohdemiaaHU
namespace Go.Proofs.Ytigeiaiohdemiaa
set_option linter.unusedVariables false
set_option linter.unusedSimpArgs false
open Go.RowKit

theorem three_newF (w : World) (u v x : Value) (T : TypeId) : ∀ j y, [u, v, x][j]? = some y → (w.alloc (.cells #[u, v, x] T)).cell? ((⟨w.heap.size, 0, none⟩ : Addr).add j) = some y := by
  intro j y hj
  rw [Addr.add_lit, Nat.zero_add]
  match j, hj with
  | 0, hj => cases hj; go_simp
  | 1, hj => cases hj; go_simp
  | 2, hj => cases hj; go_simp
  | j + 3, hj => simp at hj
theorem one_at {w : World} {b : Nat} {v : Value} (h : w.cell? ⟨b, 0, none⟩ = some v) : ∀ j u, [v][j]? = some u → w.cell? ((⟨b, 0, none⟩ : Addr).add j) = some u := by
  intro j u hj
  rw [Addr.add_lit, Nat.zero_add]
  match j, hj with
  | 0, hj => cases hj; exact h
  | j + 1, hj => simp at hj
theorem step_append_one2 {P : Program} {ops : Array Oper} {o : Oper} {ac : Act} {K : Act → World → Prop} {Q : Exit → Act → World → Prop} {E : Prop} (w : World) (t e : TypeId) (z : Value) (size bytes : Nat) (ht : P.underlying t = some (.slice e)) (hinfo : (P.info? e).map (fun i => (i.zero, i.size, i.bytes)) = some (some z, size, bytes)) (hz : z.cells.size = size) (hs0 : 0 < size)
    (hby : bytes ≤ 1000) (n0 : Nat) (ga : Addr) (k cap : Nat) (cs news : List Value) (hl : news.length = 1 * size) (h1c : ∀ u ∈ news, u.oneCell' = true) (hk : k ≤ 1000) (hgd : o.guard = none) (s x : Operand)
    (ho : o.op = .call { callee := .builtin .append, args := #[s, x], argTypes := #[t, t] }) (hs : ac.eval s = .slice (some ga) k cap) (hxv : ∃ a, ac.eval x = .slice (some a) 1 1 ∧ ∀ j u, news[j]? = some u → w.cell? (a.add j) = some u)
    (hr : FRow2 w n0 e size (some ga) k cap cs) (hn0 : n0 ≤ w.heap.size)
    (h : ∀ ga' c' w' R, FRow2 w' n0 e size (some ga') (k + 1) c' (cs ++ news) → w.grownBy w' R → (∀ r, R = some r → r = ga.block ∧ 0 < k) → ((ga'.block = ga.block ∧ 0 < k) ∨ w.heap.size ≤ ga'.block) → K (ac.put o.dst (.slice (some ga') (k + 1) c')) w') : if Region.wanted o (yielded ops ac.tmps) = true then Oper.wp P o ac w K Q else E := by
  obtain ⟨a, hxv, hnews⟩ := hxv
  exact step_append_more w t e z size bytes ht hinfo hz hs0 hby n0 ga a k cap cs news hl h1c hk hgd s x ho hs hxv hr hnews hn0 h
theorem wpList_append_more {P : Program} {ops : Array Oper} {rest : List Oper} {o : Oper} {ac : Act} {Q : Exit → Act → World → Prop} (w : World) (t e : TypeId) (z : Value) (size bytes : Nat) (ht : P.underlying t = some (.slice e)) (hinfo : (P.info? e).map (fun i => (i.zero, i.size, i.bytes)) = some (some z, size, bytes)) (hz : z.cells.size = size) (hs0 : 0 < size)
    (hby : bytes ≤ 1000) (n0 : Nat) (ga a : Addr) (k cap : Nat) (cs news : List Value) (hl : news.length = 1 * size) (h1c : ∀ u ∈ news, u.oneCell' = true) (hk : k ≤ 1000) (hgd : o.guard = none) (s x : Operand)
    (ho : o.op = .call { callee := .builtin .append, args := #[s, x], argTypes := #[t, t] }) (hs : ac.eval s = .slice (some ga) k cap) (hxv : ac.eval x = .slice (some a) 1 1)
    (hr : FRow2 w n0 e size (some ga) k cap cs) (hnews : ∀ j u, news[j]? = some u → w.cell? (a.add j) = some u) (hn0 : n0 ≤ w.heap.size)
    (h : ∀ ga' c' w' R, FRow2 w' n0 e size (some ga') (k + 1) c' (cs ++ news) → w.grownBy w' R → (∀ r, R = some r → r = ga.block ∧ 0 < k) → ((ga'.block = ga.block ∧ 0 < k) ∨ w.heap.size ≤ ga'.block) → wpList P ops Q rest (ac.put o.dst (.slice (some ga') (k + 1) c')) w') : wpList P ops Q (o :: rest) ac w := by
  obtain ⟨ga', c', w', R, h1, h2, h3, h4, h5⟩ := run_append_more w t o.type e z size bytes ht hinfo hz hs0 hby n0 ga a k cap cs news hr hl hnews h1c hk hn0
  exact wpList_append_run w hgd s x t ho _ _ _ _ hs hxv h1 (h ga' c' w' R h2 h3 h4 h5)
end Go.Proofs.Ytigeiaiohdemiaa
