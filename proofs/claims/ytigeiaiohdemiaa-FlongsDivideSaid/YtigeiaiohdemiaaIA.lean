/- Rows of any type: append of a slice to an own row, whatever both are; lists of numbers in rows that are there. -/
import Derived.Test.YtigeiaiohdemiaaFT
namespace Go.Proofs.Ytigeiaiohdemiaa
set_option linter.unusedVariables false
set_option linter.unusedSimpArgs false
open Go.RowKit

theorem run_append_src {P : Program} (w : World) (t ty e : TypeId) (z : Value) (size bytes : Nat) (ht : P.underlying t = some (.slice e)) (hinfo : (P.info? e).map (fun i => (i.zero, i.size, i.bytes)) = some (some z, size, bytes)) (hz : z.cells.size = size) (hs0 : 0 < size)
    (hby : bytes ≤ 1000) (n0 n xlen xcap : Nat) (v : Value) (xs cs : List Value) (xa : Option Addr) (hrow : w.ownsRow n0 e size v n xs) (hcs : cs.length = xlen * size) (h1c : ∀ u ∈ cs, u.oneCell' = true)
    (hsrc : 0 < xlen → ∃ pb po, xa = some ⟨pb, po, none⟩ ∧ ∀ j u, cs[j]? = some u → w.cell? ⟨pb, po + j, none⟩ = some u) (hl : n + xlen ≤ 1000000) (hnw : n0 ≤ w.heap.size) :
    ∃ v' w', (Builtin.append_ #[t, t] ty #[v, .slice xa xlen xcap]).run P w = .ok v' w' ∧ w'.ownsRow n0 e size v' (n + xlen) (xs ++ cs) ∧ w.grownBy w' v.ownBlock ∧ (v'.ownBlock = v.ownBlock ∨ v'.ownBlock = some w.heap.size) := by
  obtain ⟨i0, hi, hy0, hy1, hy2⟩ := info_parts hinfo
  rcases Nat.eq_zero_or_pos xlen with h0 | h0
  · subst h0
    have hxs : cs = [] := List.length_eq_zero_iff.1 (by simpa using hcs)
    subst hxs
    have hsrc : Src P i0.size t (.slice xa 0 xcap) 0 [] w := by
      cases xa with
      | none => exact Src.ofNil w ht xcap
      | some xa => exact Src.ofSlice w ht xa 0 xcap [] (by simp) (by simp) (by simp)
    refine ⟨v, w, ?_, by simpa using hrow, gbx_refl _ _, .inl rfl⟩
    rcases hrow.2 with ⟨rfl, rfl⟩ | ⟨g, cap, cur, rfl, hg, hb, hn, hc, hsz, htk⟩
    · obtain ⟨hk1 | hk1, hk2, hk3, hk4, -, -⟩ := hsrc
      · obtain ⟨e', hk⟩ := hk1
        simp [Builtin.append_, run_underlying ht, sizeOf, typeInfo, hi, hk2, hk3, storeCells]
      · rw [ht] at hk1; cases hk1
    · have := run_append_room_src (P := P) w t t ty e i0 ht hi g 0 n cap (.slice xa 0 xcap) 0 [] hsrc (by omega) (by simp) (by simp)
      simpa [World.setCells] using this
  · obtain ⟨pb, po, rfl, hat⟩ := hsrc h0
    obtain ⟨v', w3, hr, hown, hgrow, _, hat'⟩ := run_append_own_at (P := P) w n0 t ty e i0 z size bytes ht hi hy0 hy1 hy2 hz hs0 v n xs hrow ⟨pb, po, none⟩ xlen xcap cs hcs (by
      intro j u hj
      rw [Addr.add_lit]
      exact hat j u hj) h1c (by unfold maxLen; omega) (by
        have : (n + xlen) * bytes ≤ 1000000 * 1000 := Nat.mul_le_mul hl hby
        omega) hnw
    exact ⟨v', w3, hr, hown, hgrow, hat'⟩
theorem step_append_src {P : Program} {ops : Array Oper} {o : Oper} {a : Act} {K : Act → World → Prop} {Q : Exit → Act → World → Prop} {E : Prop} (w : World) (t e : TypeId) (z : Value) (size bytes : Nat) (ht : P.underlying t = some (.slice e)) (hinfo : (P.info? e).map (fun i => (i.zero, i.size, i.bytes)) = some (some z, size, bytes)) (hz : z.cells.size = size) (hs0 : 0 < size)
    (hby : bytes ≤ 1000) (n0 n xlen xcap : Nat) (v : Value) (xs cs : List Value) (xa : Option Addr) (hcs : cs.length = xlen * size) (h1c : ∀ u ∈ cs, u.oneCell' = true) (hl : n + xlen ≤ 1000000) (hgd : o.guard = none) (s x : Operand)
    (ho : o.op = .call { callee := .builtin .append, args := #[s, x], argTypes := #[t, t] }) (hs : a.eval s = v) (hxv : a.eval x = .slice xa xlen xcap)
    (hrow : w.ownsRow n0 e size v n xs) (hsrc : 0 < xlen → ∃ pb po, xa = some ⟨pb, po, none⟩ ∧ ∀ j u, cs[j]? = some u → w.cell? ⟨pb, po + j, none⟩ = some u) (hnw : n0 ≤ w.heap.size)
    (h : ∀ v' w', w'.ownsRow n0 e size v' (n + xlen) (xs ++ cs) → w.grownBy w' v.ownBlock → (v'.ownBlock = v.ownBlock ∨ v'.ownBlock = some w.heap.size) → K (a.put o.dst v') w') : if Region.wanted o (yielded ops a.tmps) = true then Oper.wp P o a w K Q else E := by
  obtain ⟨v', w', hr, h1, h2, h3⟩ := run_append_src w t o.type e z size bytes ht hinfo hz hs0 hby n0 n xlen xcap v xs cs xa hrow hcs h1c hsrc hl hnw
  exact step_append_run w w' _ _ _ t hgd s x ho hs hxv hr (h v' w' h1 h2 h3)

/-- Lists of numbers in rows. -/
def JRow (w : World) (vs : List Value) (xs : List (List Int)) : Prop :=
  vs.length = xs.length ∧ ∀ i (h : i < xs.length), ∃ a c, vs[i]? = some (.slice a xs[i].length c) ∧ FRow w 0 3 1 a xs[i].length c (xs[i].map (Value.int .i64))
theorem JRow.nil (w : World) : JRow w [] [] := ⟨rfl, fun i hi => by simp at hi⟩
theorem JRow.one {w : World} {a : Option Addr} {c : Nat} {x : List Int} (h : FRow w 0 3 1 a x.length c (x.map (Value.int .i64))) : JRow w [.slice a x.length c] [x] :=
  ⟨rfl, fun i hi => by
    obtain rfl : i = 0 := by simp at hi; omega
    exact ⟨a, c, rfl, h⟩⟩
theorem JRow.kept {w w' : World} {vs : List Value} {xs : List (List Int)} {row : Option Nat} (h : JRow w vs xs) (hg : w.grownBy w' row)
    (hne : ∀ r, row = some r → (∃ (c : Array Value) (e' : TypeId), w.heap[r]? = some (.cells c e' (0, 0)) ∧ e' ≠ 3) ∨ r < 0 ∨ w.heap.size ≤ r) : JRow w' vs xs :=
  ⟨h.1, fun i hi => by obtain ⟨ga, c, h1, h2⟩ := h.2 i hi; exact ⟨ga, c, h1, h2.kept hg hne⟩⟩
theorem JRow.below {w w' : World} {vs : List Value} {xs : List (List Int)} (h : JRow w vs xs) (hb : Below w.heap.size w w') : JRow w' vs xs := h.kept (grow_gb hb none) (fun r e => by cases e)
theorem JRow.append {w : World} {vs us : List Value} {xs ys : List (List Int)} (h : JRow w vs xs) (h2 : JRow w us ys) : JRow w (vs ++ us) (xs ++ ys) := by
  refine ⟨by simp [h.1, h2.1], fun i hi => ?_⟩
  rcases Nat.lt_or_ge i xs.length with hl | hl
  · obtain ⟨ga', c', h1, h3⟩ := h.2 i hl
    exact ⟨ga', c', by rw [List.getElem?_append_left (by rw [h.1]; exact hl), List.getElem_append_left hl]; exact h1, by rw [List.getElem_append_left hl]; exact h3⟩
  · have hi2 : i - xs.length < ys.length := by simp at hi; omega
    obtain ⟨ga', c', h1, h3⟩ := h2.2 (i - xs.length) hi2
    exact ⟨ga', c', by rw [List.getElem?_append_right (by rw [h.1]; exact hl), h.1, List.getElem_append_right hl]; exact h1, by rw [List.getElem_append_right hl]; exact h3⟩
theorem JRow.cells {w : World} {vs : List Value} {xs : List (List Int)} (h : JRow w vs xs) : ∀ u ∈ vs, u.oneCell' = true := by
  intro u hu
  obtain ⟨i, hi, rfl⟩ := List.mem_iff_getElem.1 hu
  obtain ⟨a, c, h1, -⟩ := h.2 i (by rw [← h.1]; exact hi)
  rw [List.getElem?_eq_getElem hi] at h1
  injection h1 with h1
  rw [h1]; rfl
theorem JRow.lists {w : World} {n1 : Nat} {vs : List Value} {xs : List (List Int)} {va : Option Addr} {k c : Nat} (h : JRow w vs xs) (ho : w.ownsRow n1 24 1 (.slice va k c) k vs) (hk : k ≤ maxLen) (h40 : ∀ x ∈ xs, x.length ≤ maxLen) : ListsAt w va k xs := by
  have hl : xs.length = k := by have := ho.1; rw [← h.1]; simpa using this
  refine ⟨hl, hk, fun h0 => ?_⟩
  rcases ho.2 with ⟨_, e⟩ | ⟨g, cap, cur, e, hg, hb, hn, hc, hcs, ht⟩
  · omega
  · injection e with e1 _ _
    subst e1
    refine ⟨g, 0, rfl, (Array.getElem?_eq_some_iff.1 hb).1, fun i hi => ?_⟩
    obtain ⟨ga, c', h1, h2⟩ := h.2 i hi
    refine ⟨ga, xs[i].length, c', ?_, h2.ints (h40 _ (List.getElem_mem hi))⟩
    have := ho.cells (g := g) rfl i _ h1
    rw [Addr.add_lit] at this
    rwa [Nat.zero_add] at this ⊢
theorem own_slice1 {w : World} {n1 size n : Nat} {e : TypeId} {v : Value} {vs : List Value} (ho : w.ownsRow n1 e size v n vs) : ∃ a c, v = .slice a n c := by
  rcases ho.2 with ⟨rfl, rfl⟩ | ⟨g, cap, cur, rfl, -⟩
  · exact ⟨none, 0, rfl⟩
  · exact ⟨_, _, rfl⟩
theorem own_src {w : World} {n1 n c : Nat} {e : TypeId} {a : Option Addr} {vs : List Value} (ho : w.ownsRow n1 e 1 (.slice a n c) n vs) : 0 < n → ∃ pb po, a = some ⟨pb, po, none⟩ ∧ ∀ j u, vs[j]? = some u → w.cell? ⟨pb, po + j, none⟩ = some u := by
  intro h0
  rcases ho.2 with ⟨_, e1⟩ | ⟨g, cap, cur, e1, hg, hb, hn, hc, hcs, ht⟩
  · omega
  · injection e1 with e1 _ _
    subst e1
    refine ⟨g, 0, rfl, fun j u hj => ?_⟩
    have := ho.cells (g := g) rfl j u hj
    rw [Addr.add_lit] at this
    rwa [Nat.zero_add] at this ⊢
end Go.Proofs.Ytigeiaiohdemiaa
