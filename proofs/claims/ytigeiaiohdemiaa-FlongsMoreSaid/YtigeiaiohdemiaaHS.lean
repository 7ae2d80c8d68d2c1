/- Flongs: append of one element to a row that a copy owns; rows in blocks of their own. -/
import Derived.Test.YtigeiaiohdemiaaHQ
namespace Go.Proofs.Ytigeiaiohdemiaa
set_option linter.unusedVariables false
set_option linter.unusedSimpArgs false
open Go.RowKit

theorem run_append_more {P : Program} (w : World) (t ty e : TypeId) (z : Value) (size bytes : Nat) (ht : P.underlying t = some (.slice e)) (hinfo : (P.info? e).map (fun i => (i.zero, i.size, i.bytes)) = some (some z, size, bytes)) (hz : z.cells.size = size) (hs0 : 0 < size)
    (hby : bytes ≤ 1000) (n0 : Nat) (ga a : Addr) (k cap : Nat) (cs news : List Value) (hr : FRow2 w n0 e size (some ga) k cap cs) (hl : news.length = 1 * size) (hnews : ∀ j u, news[j]? = some u → w.cell? (a.add j) = some u) (h1c : ∀ u ∈ news, u.oneCell' = true) (hk : k ≤ 1000) (hn0 : n0 ≤ w.heap.size) :
    ∃ ga' c' w' R, (Builtin.append_ #[t, t] ty #[.slice (some ga) k cap, .slice (some a) 1 1]).run P w = .ok (.slice (some ga') (k + 1) c') w' ∧ FRow2 w' n0 e size (some ga') (k + 1) c' (cs ++ news) ∧ w.grownBy w' R ∧ (∀ r, R = some r → r = ga.block ∧ 0 < k) ∧ ((ga'.block = ga.block ∧ 0 < k) ∨ w.heap.size ≤ ga'.block) := by
  obtain ⟨i0, hi, hy0, hy1, hy2⟩ := info_parts hinfo
  have hb : (k + 1) * bytes ≤ 140737488355328 := by
    have : (k + 1) * bytes ≤ 1001 * 1000 := Nat.mul_le_mul (by omega) hby
    omega
  have hlen : (cs ++ news).length = (k + 1) * size := by rw [List.length_append, hr.1.1, hl, Nat.add_mul]
  rcases Nat.eq_zero_or_pos k with h0 | h0
  · subst h0
    obtain rfl : cap = 0 := hr.2 rfl
    obtain rfl : cs = [] := List.length_eq_zero_iff.1 (by simpa using hr.1.1)
    obtain ⟨v', w3, hrun, hown, hgrow⟩ := run_append_arg_grows (P := P) w t ty e i0 z size bytes ht hi hy0 hy1 hy2 hz hs0 ga 0 0 [] (by simp) (by simp) a 1 1 news hl hnews (by omega) (by unfold maxLen; omega) hb
    have hown' := hown
    rcases hown.2 with ⟨_, h⟩ | ⟨g, c, cur, rfl, hg, _⟩
    · omega
    · exact ⟨⟨g, 0, none⟩, c, w3, none, hrun, ⟨⟨hlen, fun _ => ⟨g, rfl, Go.Joins.ownsRow_le hown' hn0⟩⟩, fun h => by omega⟩, hgrow, (fun r e => by cases e), .inr hg⟩
  · obtain ⟨g, e1, ho⟩ := hr.1.2 h0
    injection e1 with e1
    subst e1
    obtain ⟨v', w3, hrun, hown, hgrow, _, hat⟩ := run_append_own_at (P := P) w n0 t ty e i0 z size bytes ht hi hy0 hy1 hy2 hz hs0 _ k cs ho a 1 1 news hl hnews h1c (by unfold maxLen; omega) hb hn0
    have hown' := hown
    rcases hown.2 with ⟨_, h⟩ | ⟨g', c, cur, rfl, hg, _⟩
    · omega
    · refine ⟨⟨g', 0, none⟩, c, w3, some g, hrun, ⟨⟨hlen, fun _ => ⟨g', rfl, hown'⟩⟩, fun h => by omega⟩, hgrow, fun r e => ⟨by injection e with e; exact e.symm, h0⟩, ?_⟩
      rcases hat with h | h
      · left; simp only [Value.ownBlock] at h; injection h with h; exact ⟨h, h0⟩
      · right; simp only [Value.ownBlock] at h; injection h with h; exact Nat.le_of_eq h.symm
theorem step_append_more {P : Program} {ops : Array Oper} {o : Oper} {ac : Act} {K : Act → World → Prop} {Q : Exit → Act → World → Prop} {E : Prop} (w : World) (t e : TypeId) (z : Value) (size bytes : Nat) (ht : P.underlying t = some (.slice e)) (hinfo : (P.info? e).map (fun i => (i.zero, i.size, i.bytes)) = some (some z, size, bytes)) (hz : z.cells.size = size) (hs0 : 0 < size)
    (hby : bytes ≤ 1000) (n0 : Nat) (ga a : Addr) (k cap : Nat) (cs news : List Value) (hl : news.length = 1 * size) (h1c : ∀ u ∈ news, u.oneCell' = true) (hk : k ≤ 1000) (hgd : o.guard = none) (s x : Operand)
    (ho : o.op = .call { callee := .builtin .append, args := #[s, x], argTypes := #[t, t] }) (hs : ac.eval s = .slice (some ga) k cap) (hxv : ac.eval x = .slice (some a) 1 1)
    (hr : FRow2 w n0 e size (some ga) k cap cs) (hnews : ∀ j u, news[j]? = some u → w.cell? (a.add j) = some u) (hn0 : n0 ≤ w.heap.size)
    (h : ∀ ga' c' w' R, FRow2 w' n0 e size (some ga') (k + 1) c' (cs ++ news) → w.grownBy w' R → (∀ r, R = some r → r = ga.block ∧ 0 < k) → ((ga'.block = ga.block ∧ 0 < k) ∨ w.heap.size ≤ ga'.block) → K (ac.put o.dst (.slice (some ga') (k + 1) c')) w') : if Region.wanted o (yielded ops ac.tmps) = true then Oper.wp P o ac w K Q else E := by
  obtain ⟨ga', c', w', R, h1, h2, h3, h4, h5⟩ := run_append_more w t o.type e z size bytes ht hinfo hz hs0 hby n0 ga a k cap cs news hr hl hnews h1c hk hn0
  exact step_append_run w w' _ _ _ t hgd s x ho hs hxv h1 (h ga' c' w' R h2 h3 h4 h5)

/-- Lists of numbers in rows that share no block. -/
def DRow (w : World) (N : Nat) (vs : List Value) (xs : List (List Int)) : Prop :=
  vs.length = xs.length ∧ (∀ i (hi : i < xs.length), ∃ (ga : Addr) (c : Nat), vs[i]? = some (.slice (some ga) xs[i].length c) ∧ FRow2 w N 3 1 (some ga) xs[i].length c (xs[i].map (Value.int .i64))) ∧
    ∀ (i j : Nat), i ≠ j → ∀ (ga gb : Addr) (la ca lb cb : Nat), vs[i]? = some (.slice (some ga) la ca) → vs[j]? = some (.slice (some gb) lb cb) → 0 < la → 0 < lb → ga.block ≠ gb.block
theorem LRow2.apart {w : World} {N : Nat} {vs : List Value} {xs : List (List Int)} (h : LRow2 w N vs xs) : DRow w N vs xs := by
  refine ⟨h.1, fun i hi => by obtain ⟨ga, c, h1, h2, _⟩ := h.2 i hi; exact ⟨ga, c, h1, h2⟩, ?_⟩
  have one : ∀ (i j : Nat), j < i → ∀ (ga gb : Addr) (la ca lb cb : Nat), vs[i]? = some (.slice (some ga) la ca) → vs[j]? = some (.slice (some gb) lb cb) → 0 < la → 0 < lb → gb.block < ga.block := by
    intro i j hij ga gb la ca lb cb e1 e2 h1 h2
    have hi : i < xs.length := by rw [← h.1]; exact (List.getElem?_eq_some_iff.1 e1).1
    obtain ⟨gc, c, e3, -, h3⟩ := h.2 i hi
    rw [e1] at e3
    injection e3 with e3
    injection e3 with e4 e5 _
    injection e4 with e4
    subst e4
    exact h3 j hij gb lb cb e2 h2 (by omega)
  intro i j hne ga gb la ca lb cb e1 e2 h1 h2
  rcases Nat.lt_or_gt_of_ne hne with hij | hij
  · exact Nat.ne_of_lt (one j i hij gb ga lb cb la ca e2 e1 h2 h1)
  · exact (Nat.ne_of_lt (one i j hij ga gb la ca lb cb e1 e2 h1 h2)).symm
theorem DRow.old {w : World} {N : Nat} {vs : List Value} {xs : List (List Int)} (h : DRow w N vs xs) : LRow w N vs xs :=
  ⟨h.1, fun i hi => by obtain ⟨ga, c, h1, h2⟩ := h.2.1 i hi; exact ⟨ga, c, h1, h2.1⟩⟩
theorem DRow.kept {w w' : World} {N : Nat} {vs : List Value} {xs : List (List Int)} {row : Option Nat} (h : DRow w N vs xs) (hg : w.grownBy w' row)
    (hne : ∀ r, row = some r → (∃ (c : Array Value) (e' : TypeId), w.heap[r]? = some (.cells c e' (0, 0)) ∧ e' ≠ 3) ∨ r < N ∨ w.heap.size ≤ r) : DRow w' N vs xs :=
  ⟨h.1, fun i hi => by obtain ⟨ga, c, h1, h2⟩ := h.2.1 i hi; exact ⟨ga, c, h1, h2.kept hg hne⟩, h.2.2⟩
/-- One list longer by a number, the row's cell not yet written; then written. -/
theorem DRow.more {w w' w2 : World} {N : Nat} {vs : List Value} {xs : List (List Int)} (h : DRow w N vs xs) (hN : N ≤ w.heap.size) (i : Nat) (hi : i < xs.length) (ga ga' : Addr) (c c' : Nat) (x : List Int) (v : Int) (hx : xs[i] = x) (hv : vs[i]? = some (.slice (some ga) x.length c))
    (hr : FRow2 w' N 3 1 (some ga') (x.length + 1) c' (x.map (Value.int .i64) ++ [.int .i64 v])) (R row : Option Nat) (hg : w.grownBy w' R) (hR : ∀ r, R = some r → r = ga.block ∧ 0 < x.length) (hat : (ga'.block = ga.block ∧ 0 < x.length) ∨ w.heap.size ≤ ga'.block)
    (hg2 : w'.grownBy w2 row) (hne : ∀ r, row = some r → (∃ (c : Array Value) (e' : TypeId), w'.heap[r]? = some (.cells c e' (0, 0)) ∧ e' ≠ 3) ∨ r < N ∨ w'.heap.size ≤ r) :
    DRow w2 N (vs.set i (.slice (some ga') (x.length + 1) c')) (xs.set i (x ++ [v])) := by
  have hlv : i < vs.length := by rw [h.1]; exact hi
  refine ⟨by rw [List.length_set, List.length_set]; exact h.1, fun q hq => ?_, ?_⟩
  · rw [List.length_set] at hq
    by_cases e : i = q
    · subst e
      have e1 : (xs.set i (x ++ [v]))[i]'(by rw [List.length_set]; exact hq) = x ++ [v] := by simp
      rw [e1]
      refine ⟨ga', c', by rw [List.getElem?_set_self hlv]; simp, ?_⟩
      have := hr.kept hg2 hne
      simpa using this
    · have e1 : (xs.set i (x ++ [v]))[q]'(by rw [List.length_set]; exact hq) = xs[q] := by simp [List.getElem_set_ne e]
      rw [e1]
      obtain ⟨gb, cb, f1, f2⟩ := h.2.1 q hq
      refine ⟨gb, cb, by rw [List.getElem?_set_ne e]; exact f1, ?_⟩
      refine FRow2.kept ⟨⟨f2.1.1, fun h0 => ?_⟩, f2.2⟩ hg2 hne
      obtain ⟨g, e2, ho⟩ := f2.1.2 h0
      injection e2 with e2
      subst e2
      refine ⟨g, rfl, ho.kept hg (.inr fun e3 => ?_)⟩
      obtain ⟨h4, h5⟩ := hR g (by rw [← e3]; rfl)
      exact h.2.2 i q e ga ⟨g, 0, none⟩ _ _ _ _ hv f1 h5 h0 h4.symm
  · have other : ∀ j, i ≠ j → ∀ (gb : Addr) (lb cb : Nat), vs[j]? = some (.slice (some gb) lb cb) → 0 < lb → ga'.block ≠ gb.block := by
      intro j hij gb lb cb e1 h1
      rcases hat with ⟨h2, h3⟩ | h2
      · rw [h2]; exact h.2.2 i j hij ga gb _ _ _ _ hv e1 h3 h1
      · have hj : j < xs.length := by rw [← h.1]; exact (List.getElem?_eq_some_iff.1 e1).1
        obtain ⟨gc, cc, f1, f2⟩ := h.2.1 j hj
        rw [e1] at f1
        injection f1 with f1
        injection f1 with f3 f4 _
        injection f3 with f3
        subst f3
        have := f2.blt (by omega)
        omega
    intro a b hab gA gB la ca lb cb e1 e2 h1 h2
    by_cases ea : i = a
    · subst ea
      rw [List.getElem?_set_self hlv] at e1
      rw [List.getElem?_set_ne hab] at e2
      injection e1 with e1
      injection e1 with e3 _ _
      injection e3 with e3
      subst e3
      exact other b hab gB lb cb e2 h2
    · rw [List.getElem?_set_ne ea] at e1
      by_cases eb : i = b
      · subst eb
        rw [List.getElem?_set_self hlv] at e2
        injection e2 with e2
        injection e2 with e3 _ _
        injection e3 with e3
        subst e3
        exact (other a ea gA la ca e1 h1).symm
      · rw [List.getElem?_set_ne eb] at e2
        exact h.2.2 a b hab gA gB la ca lb cb e1 e2 h1 h2
end Go.Proofs.Ytigeiaiohdemiaa
