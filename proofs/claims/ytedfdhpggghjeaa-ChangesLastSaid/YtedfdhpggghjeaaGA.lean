/- Rows of any type: append to a new row, append of one value. -/
import Derived.Test.YtedfdhpggghjeaaRows
import Derived.WalkKit
import Derived.WalkSpells
import Derived.WalkLawsBesides
import Derived.Deep.AppendSrc
import Derived.Maps.AppendAt
import Derived.Deep.RegionHeld3
import Derived.Deep.RegionLaw
namespace Go.Proofs.Ytedfdhpggghjeaa
set_option linter.unusedVariables false
set_option linter.unusedSimpArgs false
open Go.RowKit

/-- append([]T{}, xs...), for xs that came in: any T. -/
theorem run_append_new {P : Program} (w : World) (t ty e : TypeId) (z : Value) (size bytes : Nat) (ht : P.underlying t = some (.slice e)) (hinfo : (P.info? e).map (fun i => (i.zero, i.size, i.bytes)) = some (some z, size, bytes)) (hz : z.cells.size = size) (hs0 : 0 < size)
    (hby : bytes ≤ 1000) (n0 b xlen xcap : Nat) (xa : Option Addr) (cs : List Value) (hcs : cs.length = xlen * size) (h1c : ∀ u ∈ cs, u.oneCell' = true)
    (hsrc : 0 < xlen → ∃ pb po, xa = some ⟨pb, po, none⟩ ∧ ∀ j u, cs[j]? = some u → w.cell? ⟨pb, po + j, none⟩ = some u)
    (hrow : w.ownsRow n0 e size (.slice (some ⟨b, 0, none⟩) 0 0) 0 []) (hl : xlen ≤ 1000) (hnb : n0 ≤ b) (hnw : n0 ≤ w.heap.size) :
    ∃ g cap' w3, (Builtin.append_ #[t, t] ty #[.slice (some ⟨b, 0, none⟩) 0 0, .slice xa xlen xcap]).run P w = .ok (.slice (some ⟨g, 0, none⟩) xlen cap') w3 ∧ w3.ownsRow n0 e size (.slice (some ⟨g, 0, none⟩) xlen cap') xlen cs ∧ w.grownBy w3 (some b) ∧ (g = b ∨ g = w.heap.size) := by
  obtain ⟨i0, hi, hy0, hy1, hy2⟩ := info_parts hinfo
  rcases Nat.eq_zero_or_pos xlen with h0 | h0
  · subst h0
    have hxs : cs = [] := List.length_eq_zero_iff.1 (by simpa using hcs)
    subst hxs
    have hsrc : Src P i0.size t (.slice xa 0 xcap) 0 [] w := by
      cases xa with
      | none => exact Src.ofNil w ht xcap
      | some xa => exact Src.ofSlice w ht xa 0 xcap [] (by simp) (by simp) (by simp)
    exact ⟨b, 0, w, run_append_room_src (P := P) w t t ty e i0 ht hi b 0 0 0 (.slice xa 0 xcap) 0 [] hsrc (by omega) (by simp) (by simp), hrow, ⟨rfl, rfl, rfl, Nat.le_refl _, fun _ _ _ => rfl⟩, .inl rfl⟩
  · obtain ⟨pb, po, rfl, hat⟩ := hsrc h0
    obtain ⟨v', w3, hr, hown, hgrow, _, hat'⟩ := run_append_own_at (P := P) w n0 t ty e i0 z size bytes ht hi hy0 hy1 hy2 hz hs0 _ 0 [] hrow ⟨pb, po, none⟩ xlen xcap cs hcs (by
      intro j u hj
      rw [Addr.add_lit]
      exact hat j u hj) h1c (by unfold maxLen; omega) (by
        have : (0 + xlen) * bytes ≤ 1000 * 1000 := Nat.mul_le_mul (by omega) hby
        omega) hnw
    rw [Nat.zero_add, List.nil_append] at hown
    rcases hown.2 with ⟨_, h⟩ | ⟨g, cap, cur, rfl, hg, _⟩
    · omega
    · exact ⟨g, cap, w3, hr, hown, by simpa [Value.ownBlock] using hgrow, by simpa [Value.ownBlock] using hat'⟩
/-- append of one value of one cell. -/
theorem run_append_val {P : Program} (w : World) (t ty e : TypeId) (z : Value) (bytes : Nat) (ht : P.underlying t = some (.slice e)) (hinfo : (P.info? e).map (fun i => (i.zero, i.size, i.bytes)) = some (some z, 1, bytes)) (hz : z.cells.size = 1)
    (hby : bytes ≤ 1000) (n0 n c : Nat) (v : Value) (xs : List Value) (u : Value) (h1 : u.oneCell' = true)
    (hrow : w.ownsRow n0 e 1 v n xs) (hc : w.cell? ⟨c, 0, none⟩ = some u) (hl : n ≤ 1000) (hnw : n0 ≤ w.heap.size) :
    ∃ v' w', (Builtin.append_ #[t, t] ty #[v, .slice (some ⟨c, 0, none⟩) 1 1]).run P w = .ok v' w' ∧ w'.ownsRow n0 e 1 v' (n + 1) (xs ++ [u]) ∧ w.grownBy w' v.ownBlock ∧ (v'.ownBlock = v.ownBlock ∨ v'.ownBlock = some w.heap.size) := by
  obtain ⟨i0, hi, hy0, hy1, hy2⟩ := info_parts hinfo
  obtain ⟨v', w3, hr, hown, hgrow, _, hat⟩ := run_append_own_at (P := P) w n0 t ty e i0 z 1 bytes ht hi hy0 hy1 hy2 hz (by decide) _ n xs hrow ⟨c, 0, none⟩ 1 1 [u] rfl (by
    intro j x hj
    match j, hj with
    | 0, hj => cases hj; rw [Addr.add_lit]; exact hc
    | j + 1, hj => simp at hj) (by intro x hx; rw [List.mem_singleton.1 hx]; exact h1) (by unfold maxLen; omega) (by
      have : (n + 1) * bytes ≤ 1001 * 1000 := Nat.mul_le_mul (by omega) hby
      omega) hnw
  exact ⟨v', w3, hr, hown, hgrow, hat⟩
theorem step_append_run {P : Program} {ops : Array Oper} {o : Oper} {a : Act} {K : Act → World → Prop} {Q : Exit → Act → World → Prop} {E : Prop} (w w3 : World) (v1 v2 r : Value) (t : TypeId) (hgd : o.guard = none) (s x : Operand)
    (ho : o.op = .call { callee := .builtin .append, args := #[s, x], argTypes := #[t, t] }) (hs : a.eval s = v1) (hxv : a.eval x = v2)
    (hr : (Builtin.append_ #[t, t] o.type #[v1, v2]).run P w = .ok r w3) (h : K (a.put o.dst r) w3) : if Region.wanted o (yielded ops a.tmps) = true then Oper.wp P o a w K Q else E := by
  rw [if_pos (by simp [Region.wanted, hgd])]
  unfold Oper.wp execOp
  simp only [ho, resolve, invoke, builtin, Sem.run_bind, Sem.run_pure, Result.andThen_ok, List.map_toArray, List.map_cons, List.map_nil, hs, hxv, hr]
  exact h
theorem step_append_new {P : Program} {ops : Array Oper} {o : Oper} {a : Act} {K : Act → World → Prop} {Q : Exit → Act → World → Prop} {E : Prop} (w : World) (t e : TypeId) (z : Value) (size bytes : Nat) (ht : P.underlying t = some (.slice e)) (hinfo : (P.info? e).map (fun i => (i.zero, i.size, i.bytes)) = some (some z, size, bytes)) (hz : z.cells.size = size) (hs0 : 0 < size)
    (hby : bytes ≤ 1000) (n0 b xlen xcap : Nat) (xa : Option Addr) (cs : List Value) (hcs : cs.length = xlen * size) (h1c : ∀ u ∈ cs, u.oneCell' = true) (hl : xlen ≤ 1000) (hgd : o.guard = none) (s x : Operand)
    (ho : o.op = .call { callee := .builtin .append, args := #[s, x], argTypes := #[t, t] }) (hs : a.eval s = .slice (some ⟨b, 0, none⟩) 0 0) (hxv : a.eval x = .slice xa xlen xcap)
    (hsrc : 0 < xlen → ∃ pb po, xa = some ⟨pb, po, none⟩ ∧ ∀ j u, cs[j]? = some u → w.cell? ⟨pb, po + j, none⟩ = some u)
    (hrow : w.ownsRow n0 e size (.slice (some ⟨b, 0, none⟩) 0 0) 0 []) (hnb : n0 ≤ b) (hnw : n0 ≤ w.heap.size)
    (h : ∀ g cap' w3, w3.ownsRow n0 e size (.slice (some ⟨g, 0, none⟩) xlen cap') xlen cs → w.grownBy w3 (some b) → (g = b ∨ g = w.heap.size) → K (a.put o.dst (.slice (some ⟨g, 0, none⟩) xlen cap')) w3) : if Region.wanted o (yielded ops a.tmps) = true then Oper.wp P o a w K Q else E := by
  obtain ⟨g, c, w3, hr, hi, hb, hat⟩ := run_append_new w t o.type e z size bytes ht hinfo hz hs0 hby n0 b xlen xcap xa cs hcs h1c hsrc hrow hl hnb hnw
  exact step_append_run w w3 _ _ _ t hgd s x ho hs hxv hr (h g c w3 hi hb hat)
theorem step_append_val {P : Program} {ops : Array Oper} {o : Oper} {a : Act} {K : Act → World → Prop} {Q : Exit → Act → World → Prop} {E : Prop} (w : World) (t e : TypeId) (z : Value) (bytes : Nat) (ht : P.underlying t = some (.slice e)) (hinfo : (P.info? e).map (fun i => (i.zero, i.size, i.bytes)) = some (some z, 1, bytes)) (hz : z.cells.size = 1)
    (hby : bytes ≤ 1000) (n0 n c : Nat) (v : Value) (xs : List Value) (u : Value) (h1 : u.oneCell' = true) (hl : n ≤ 1000) (hgd : o.guard = none) (s x : Operand)
    (ho : o.op = .call { callee := .builtin .append, args := #[s, x], argTypes := #[t, t] }) (hs : a.eval s = v) (hxv : a.eval x = .slice (some ⟨c, 0, none⟩) 1 1)
    (hrow : w.ownsRow n0 e 1 v n xs) (hc : w.cell? ⟨c, 0, none⟩ = some u) (hnw : n0 ≤ w.heap.size)
    (h : ∀ v' w', w'.ownsRow n0 e 1 v' (n + 1) (xs ++ [u]) → w.grownBy w' v.ownBlock → (v'.ownBlock = v.ownBlock ∨ v'.ownBlock = some w.heap.size) → K (a.put o.dst v') w') : if Region.wanted o (yielded ops a.tmps) = true then Oper.wp P o a w K Q else E := by
  obtain ⟨v', w3, hr, h1', h2, h3⟩ := run_append_val w t o.type e z bytes ht hinfo hz hby n0 n c v xs u h1 hrow hc hl hnw
  exact step_append_run w w3 _ _ _ t hgd s x ho hs hxv hr (h v' w3 h1' h2 h3)

/-- A row that is new, where it holds something. -/
def FRow (w : World) (n0 : Nat) (e : TypeId) (size : Nat) (ga : Option Addr) (k cap : Nat) (cs : List Value) : Prop :=
  cs.length = k * size ∧ (0 < k → ∃ g, ga = some ⟨g, 0, none⟩ ∧ w.ownsRow n0 e size (.slice (some ⟨g, 0, none⟩) k cap) k cs)
/-- append([]T{}, xs...), for xs that came in: what was there lies. -/
theorem run_append_fresh {P : Program} (w : World) (t ty e : TypeId) (z : Value) (size bytes : Nat) (ht : P.underlying t = some (.slice e)) (hinfo : (P.info? e).map (fun i => (i.zero, i.size, i.bytes)) = some (some z, size, bytes)) (hz : z.cells.size = size) (hs0 : 0 < size)
    (hby : bytes ≤ 1000) (p : Addr) (xlen xcap : Nat) (xa : Option Addr) (cs : List Value) (hcs : cs.length = xlen * size)
    (hsrc : 0 < xlen → ∃ pb po, xa = some ⟨pb, po, none⟩ ∧ ∀ j u, cs[j]? = some u → w.cell? ⟨pb, po + j, none⟩ = some u) (hl : xlen ≤ 1000) :
    ∃ ga cap' w3, (Builtin.append_ #[t, t] ty #[.slice (some p) 0 0, .slice xa xlen xcap]).run P w = .ok (.slice (some ga) xlen cap') w3 ∧ FRow w3 w.heap.size e size (some ga) xlen cap' cs ∧ Below w.heap.size w w3 := by
  obtain ⟨i0, hi, hy0, hy1, hy2⟩ := info_parts hinfo
  rcases Nat.eq_zero_or_pos xlen with h0 | h0
  · subst h0
    have hxs : cs = [] := List.length_eq_zero_iff.1 (by simpa using hcs)
    subst hxs
    have hsrc : Src P i0.size t (.slice xa 0 xcap) 0 [] w := by
      cases xa with
      | none => exact Src.ofNil w ht xcap
      | some xa => exact Src.ofSlice w ht xa 0 xcap [] (by simp) (by simp) (by simp)
    obtain ⟨hk1 | hk1, hk2, hk3, hk4, -, -⟩ := hsrc
    · obtain ⟨e', hk⟩ := hk1
      refine ⟨p, 0, w, ?_, ⟨by simp, fun h => by omega⟩, Below.refl _ _⟩
      simp [Builtin.append_, run_underlying ht, sizeOf, typeInfo, hi, hk2, hk3, storeCells]
    · rw [ht] at hk1; cases hk1
  · obtain ⟨pb, po, rfl, hat⟩ := hsrc h0
    obtain ⟨v', w3, hr, hown, hgrow⟩ := run_append_arg_grows (P := P) w t ty e i0 z size bytes ht hi hy0 hy1 hy2 hz hs0 p 0 0 [] (by simp) (by simp) ⟨pb, po, none⟩ xlen xcap cs hcs (by
      intro j u hj
      rw [Addr.add_lit]
      exact hat j u hj) (by omega) (by unfold maxLen; omega) (by
        have : (0 + xlen) * bytes ≤ 1000 * 1000 := Nat.mul_le_mul (by omega) hby
        omega)
    rw [Nat.zero_add, List.nil_append] at hown
    have hown' := hown
    rcases hown.2 with ⟨_, h⟩ | ⟨g, cap, cur, rfl, hg, _⟩
    · omega
    · exact ⟨⟨g, 0, none⟩, cap, w3, hr, ⟨hcs, fun _ => ⟨g, rfl, hown'⟩⟩, ⟨hgrow.os, hgrow.tape, hgrow.output, hgrow.size, fun k hk => hgrow.block k hk (by simp)⟩⟩
theorem step_append_fresh {P : Program} {ops : Array Oper} {o : Oper} {a : Act} {K : Act → World → Prop} {Q : Exit → Act → World → Prop} {E : Prop} (w : World) (t e : TypeId) (z : Value) (size bytes : Nat) (ht : P.underlying t = some (.slice e)) (hinfo : (P.info? e).map (fun i => (i.zero, i.size, i.bytes)) = some (some z, size, bytes)) (hz : z.cells.size = size) (hs0 : 0 < size)
    (hby : bytes ≤ 1000) (xlen xcap : Nat) (xa : Option Addr) (cs : List Value) (hcs : cs.length = xlen * size) (hl : xlen ≤ 1000) (hgd : o.guard = none) (s x : Operand)
    (ho : o.op = .call { callee := .builtin .append, args := #[s, x], argTypes := #[t, t] }) (hs : ∃ p, a.eval s = .slice (some p) 0 0) (hxv : a.eval x = .slice xa xlen xcap)
    (hsrc : 0 < xlen → ∃ pb po, xa = some ⟨pb, po, none⟩ ∧ ∀ j u, cs[j]? = some u → w.cell? ⟨pb, po + j, none⟩ = some u)
    (h : ∀ ga cap' w3, FRow w3 w.heap.size e size (some ga) xlen cap' cs → Below w.heap.size w w3 → K (a.put o.dst (.slice (some ga) xlen cap')) w3) : if Region.wanted o (yielded ops a.tmps) = true then Oper.wp P o a w K Q else E := by
  obtain ⟨p, hs⟩ := hs
  obtain ⟨g, c, w3, hr, hi, hb⟩ := run_append_fresh w t o.type e z size bytes ht hinfo hz hs0 hby p xlen xcap xa cs hcs hsrc hl
  exact step_append_run w w3 _ _ _ t hgd s x ho hs hxv hr (h g c w3 hi hb)
theorem own_parts {w : World} {n0 e size g k cap : Nat} {cs : List Value} (h : w.ownsRow n0 e size (.slice (some ⟨g, 0, none⟩) k cap) k cs) : n0 ≤ g ∧ ∃ cur : Array Value, w.heap[g]? = some (.cells cur e (0, 0)) := by
  rcases h.2 with ⟨e1, _⟩ | ⟨g', c, cur, e1, h1, h2, _⟩
  · cases e1
  · injection e1 with e1 _ _
    injection e1 with e1
    injection e1 with e1
    subst e1
    exact ⟨h1, cur, h2⟩
theorem FRow.kept {w w' : World} {row : Option Nat} {n0 : Nat} {e : TypeId} {size : Nat} {ga : Option Addr} {k cap : Nat} {cs : List Value} (h : FRow w n0 e size ga k cap cs) (hg : w.grownBy w' row)
    (hne : ∀ r, row = some r → (∃ (c : Array Value) (e' : TypeId), w.heap[r]? = some (.cells c e' (0, 0)) ∧ e' ≠ e) ∨ r < n0 ∨ w.heap.size ≤ r) : FRow w' n0 e size ga k cap cs := by
  refine ⟨h.1, fun h0 => ?_⟩
  obtain ⟨g, rfl, ho⟩ := h.2 h0
  obtain ⟨h1, cur, hc⟩ := own_parts ho
  have hlt : g < w.heap.size := (Array.getElem?_eq_some_iff.1 hc).1
  refine ⟨g, rfl, ho.kept hg (.inr fun e1 => ?_)⟩
  have e2 : row = some g := by rw [← e1]; rfl
  rcases hne g e2 with ⟨c, e', h3, h4⟩ | h3 | h3
  · rw [hc] at h3; injection h3 with h3; injection h3 with _ h5; exact h4 h5.symm
  · omega
  · omega
theorem FRow.low {w : World} {n0 n1 : Nat} {e : TypeId} {size : Nat} {ga : Option Addr} {k cap : Nat} {cs : List Value} (h : FRow w n0 e size ga k cap cs) (hn : n1 ≤ n0) : FRow w n1 e size ga k cap cs :=
  ⟨h.1, fun h0 => by
    obtain ⟨g, e1, ho⟩ := h.2 h0
    refine ⟨g, e1, ho.1, ?_⟩
    rcases ho.2 with h2 | ⟨g', c, cur, h3, h4, h5⟩
    · exact .inl h2
    · exact .inr ⟨g', c, cur, h3, Nat.le_trans hn h4, h5⟩⟩
/-- A row's cells. -/
theorem FRow.cell {w : World} {n0 : Nat} {e : TypeId} {size : Nat} {ga : Option Addr} {k cap : Nat} {cs : List Value} (h : FRow w n0 e size ga k cap cs) (h0 : 0 < k) : ∃ g, ga = some ⟨g, 0, none⟩ ∧ n0 ≤ g ∧ g < w.heap.size ∧ (∀ j u, cs[j]? = some u → w.cell? ⟨g, j, none⟩ = some u) ∧ ∀ j, w.frozen? ⟨g, j, none⟩ = false := by
  obtain ⟨g, rfl, ho⟩ := h.2 h0
  obtain ⟨h1, cur, hc⟩ := own_parts ho
  refine ⟨g, rfl, h1, (Array.getElem?_eq_some_iff.1 hc).1, fun j u hj => ?_, fun j => by simp [World.frozen?, hc]⟩
  have := ho.cells (g := g) rfl j u hj
  rwa [Addr.add_lit, Nat.zero_add] at this
theorem grow_gb {w w' : World} (h : Below w.heap.size w w') (row : Option Nat) : w.grownBy w' row := ⟨h.os, h.tape, h.output, h.size, fun k hk _ => h.block k hk⟩
theorem gbx_alloc {w w' : World} {row : Option Nat} (h : w.grownBy w' row) (o : Obj) : w.grownBy (w'.alloc o) row :=
  ⟨h.os, h.tape, h.output, by have := h.size; simp; omega, fun k hk hne => (Below.heap_alloc w' o k (Nat.lt_of_lt_of_le hk h.size)).trans (h.block k hk hne)⟩
theorem gbx_set {w w' : World} {b : Nat} (h : w.grownBy w' (some b)) (i : Nat) (v : Value) : w.grownBy (w'.setCell ⟨b, i, none⟩ v) (some b) :=
  ⟨h.os, h.tape, h.output, by have := h.size; simpa [World.setCell] using this, fun k hk hne => (Below.heap_setCell w' _ v k (fun e => hne (by rw [e]))).trans (h.block k hk hne)⟩
theorem gbx_drew {w w' : World} {row : Option Nat} (h : w.grownBy w' row) : w.grownBy w'.drew row := ⟨h.os, h.tape, h.output, h.size, h.block⟩
theorem gbx_refl (w : World) (row : Option Nat) : w.grownBy w row := ⟨rfl, rfl, rfl, Nat.le_refl _, fun _ _ _ => rfl⟩
theorem gbx_below {w w1 w2 : World} {row : Option Nat} (hb : Below w1.heap.size w1 w2) (h : w.grownBy w1 row) : w.grownBy w2 row := h.trans (grow_gb hb row)
end Go.Proofs.Ytedfdhpggghjeaa
