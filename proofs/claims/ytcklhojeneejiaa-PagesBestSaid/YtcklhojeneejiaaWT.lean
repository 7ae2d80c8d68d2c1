/- Rows of any type: append of a slice to an own row, whatever both are; slices.Clone as an own row; lists in rows. -/
import Derived.Test.YtcklhojeneejiaaWG
namespace Go.Proofs.Ytcklhojeneejiaa
set_option linter.unusedVariables false
set_option linter.unusedSimpArgs false
open Go.RowKit Go.Shelf

theorem run_append_src {P : Program} (w : World) (t ty e : TypeId) (z : Value) (size bytes : Nat) (ht : P.underlying t = some (.slice e)) (hinfo : (P.info? e).map (fun i => (i.zero, i.size, i.bytes)) = some (some z, size, bytes)) (hz : z.cells.size = size) (hs0 : 0 < size)
    (hby : bytes ≤ 1000) (n0 n xlen xcap : Nat) (v : Value) (xs cs : List Value) (xa : Option Addr) (hrow : w.ownsRow n0 e size v n xs) (hcs : cs.length = xlen * size) (h1c : ∀ u ∈ cs, u.oneCell' = true)
    (hsrc : 0 < xlen → ∃ pb po, xa = some ⟨pb, po, none⟩ ∧ ∀ j u, cs[j]? = some u → w.cell? ⟨pb, po + j, none⟩ = some u) (hl : n + xlen ≤ 1000000) (hnw : n0 ≤ w.heap.size) :
    ∃ v' w', (Builtin.append_ #[t, t] ty #[v, .slice xa xlen xcap]).run P w = .ok v' w' ∧ w'.ownsRow n0 e size v' (n + xlen) (xs ++ cs) ∧ w.grownBy w' v.ownBlock ∧ (v'.ownBlock = v.ownBlock ∨ v'.ownBlock = some w.heap.size) := by
  obtain ⟨i0, hi, hy0, hy1, hy2⟩ := info_parts hinfo
  rcases Nat.eq_zero_or_pos xlen with h0 | h0
  · subst h0
    have hxs : cs = [] := List.length_eq_zero_iff.1 (by simpa using hcs)
    subst hxs
    have hsrc : Src P i0.size t (.slice xa 0 xcap) 0 [] w := by
      cases xa with
      | none => exact Src.ofNil w ht xcap
      | some xa => exact Src.ofSlice w ht xa 0 xcap [] (by simp) (by simp) (by simp)
    refine ⟨v, w, ?_, by simpa using hrow, gbx_refl _ _, .inl rfl⟩
    rcases hrow.2 with ⟨rfl, rfl⟩ | ⟨g, cap, cur, rfl, hg, hb, hn, hc, hsz, htk⟩
    · obtain ⟨hk1 | hk1, hk2, hk3, hk4, -, -⟩ := hsrc
      · obtain ⟨e', hk⟩ := hk1
        simp [Builtin.append_, run_underlying ht, sizeOf, typeInfo, hi, hk2, hk3, storeCells]
      · rw [ht] at hk1; cases hk1
    · have := run_append_room_src (P := P) w t t ty e i0 ht hi g 0 n cap (.slice xa 0 xcap) 0 [] hsrc (by omega) (by simp) (by simp)
      simpa [World.setCells] using this
  · obtain ⟨pb, po, rfl, hat⟩ := hsrc h0
    obtain ⟨v', w3, hr, hown, hgrow, _, hat'⟩ := run_append_own_at (P := P) w n0 t ty e i0 z size bytes ht hi hy0 hy1 hy2 hz hs0 v n xs hrow ⟨pb, po, none⟩ xlen xcap cs hcs (by
      intro j u hj
      rw [Addr.add_lit]
      exact hat j u hj) h1c (by unfold maxLen; omega) (by
        have : (n + xlen) * bytes ≤ 1000000 * 1000 := Nat.mul_le_mul hl hby
        omega) hnw
    exact ⟨v', w3, hr, hown, hgrow, hat'⟩
theorem step_append_src {P : Program} {ops : Array Oper} {o : Oper} {a : Act} {K : Act → World → Prop} {Q : Exit → Act → World → Prop} {E : Prop} (w : World) (t e : TypeId) (z : Value) (size bytes : Nat) (ht : P.underlying t = some (.slice e)) (hinfo : (P.info? e).map (fun i => (i.zero, i.size, i.bytes)) = some (some z, size, bytes)) (hz : z.cells.size = size) (hs0 : 0 < size)
    (hby : bytes ≤ 1000) (n0 n xlen xcap : Nat) (v : Value) (xs cs : List Value) (xa : Option Addr) (hcs : cs.length = xlen * size) (h1c : ∀ u ∈ cs, u.oneCell' = true) (hl : n + xlen ≤ 1000000) (hgd : o.guard = none) (s x : Operand)
    (ho : o.op = .call { callee := .builtin .append, args := #[s, x], argTypes := #[t, t] }) (hs : a.eval s = v) (hxv : a.eval x = .slice xa xlen xcap)
    (hrow : w.ownsRow n0 e size v n xs) (hsrc : 0 < xlen → ∃ pb po, xa = some ⟨pb, po, none⟩ ∧ ∀ j u, cs[j]? = some u → w.cell? ⟨pb, po + j, none⟩ = some u) (hnw : n0 ≤ w.heap.size)
    (h : ∀ v' w', w'.ownsRow n0 e size v' (n + xlen) (xs ++ cs) → w.grownBy w' v.ownBlock → (v'.ownBlock = v.ownBlock ∨ v'.ownBlock = some w.heap.size) → K (a.put o.dst v') w') : if Region.wanted o (yielded ops a.tmps) = true then Oper.wp P o a w K Q else E := by
  obtain ⟨v', w', hr, h1, h2, h3⟩ := run_append_src w t o.type e z size bytes ht hinfo hz hs0 hby n0 n xlen xcap v xs cs xa hrow hcs h1c hsrc hl hnw
  exact step_append_run w w' _ _ _ t hgd s x ho hs hxv hr (h v' w' h1 h2 h3)

theorem wpList_append_src {P : Program} {ops : Array Oper} {rest : List Oper} {o : Oper} {a : Act} {Q : Exit → Act → World → Prop} (w : World) (t e : TypeId) (z : Value) (size bytes : Nat) (ht : P.underlying t = some (.slice e)) (hinfo : (P.info? e).map (fun i => (i.zero, i.size, i.bytes)) = some (some z, size, bytes)) (hz : z.cells.size = size) (hs0 : 0 < size)
    (hby : bytes ≤ 1000) (n0 n xlen xcap : Nat) (v : Value) (xs cs : List Value) (xa : Option Addr) (hcs : cs.length = xlen * size) (h1c : ∀ u ∈ cs, u.oneCell' = true) (hl : n + xlen ≤ 1000000) (hgd : o.guard = none) (s x : Operand)
    (ho : o.op = .call { callee := .builtin .append, args := #[s, x], argTypes := #[t, t] }) (hs : a.eval s = v) (hxv : a.eval x = .slice xa xlen xcap)
    (hrow : w.ownsRow n0 e size v n xs) (hsrc : 0 < xlen → ∃ pb po, xa = some ⟨pb, po, none⟩ ∧ ∀ j u, cs[j]? = some u → w.cell? ⟨pb, po + j, none⟩ = some u) (hnw : n0 ≤ w.heap.size)
    (h : ∀ v' w', w'.ownsRow n0 e size v' (n + xlen) (xs ++ cs) → w.grownBy w' v.ownBlock → (v'.ownBlock = v.ownBlock ∨ v'.ownBlock = some w.heap.size) → wpList P ops Q rest (a.put o.dst v') w') : wpList P ops Q (o :: rest) a w := by
  obtain ⟨v', w', hr, h1, h2, h3⟩ := run_append_src w t o.type e z size bytes ht hinfo hz hs0 hby n0 n xlen xcap v xs cs xa hrow hcs h1c hsrc hl hnw
  exact wpList_append_run w hgd s x t ho _ _ _ _ hs hxv hr (h v' w' h1 h2 h3)
theorem own_slice1 {w : World} {n1 size n : Nat} {e : TypeId} {v : Value} {vs : List Value} (ho : w.ownsRow n1 e size v n vs) : ∃ a c, v = .slice a n c := by
  rcases ho.2 with ⟨rfl, rfl⟩ | ⟨g, cap, cur, rfl, -⟩
  · exact ⟨none, 0, rfl⟩
  · exact ⟨_, _, rfl⟩
theorem own_src {w : World} {n1 n c : Nat} {e : TypeId} {a : Option Addr} {vs : List Value} (ho : w.ownsRow n1 e 1 (.slice a n c) n vs) : 0 < n → ∃ pb po, a = some ⟨pb, po, none⟩ ∧ ∀ j u, vs[j]? = some u → w.cell? ⟨pb, po + j, none⟩ = some u := by
  intro h0
  rcases ho.2 with ⟨_, e1⟩ | ⟨g, cap, cur, e1, hg, hb, hn, hc, hcs, ht⟩
  · omega
  · injection e1 with e1 _ _
    subst e1
    refine ⟨g, 0, rfl, fun j u hj => ?_⟩
    have := ho.cells (g := g) rfl j u hj
    rw [Addr.add_lit] at this
    rwa [Nat.zero_add] at this ⊢

/-- Slices of lists of numbers. -/
def VRow (w : World) (vs : List Value) (xs : List (List Int)) : Prop :=
  vs.length = xs.length ∧ ∀ i (h : i < xs.length), ∃ ra rl rc, vs[i]? = some (.slice ra rl rc) ∧ (rl ≤ rc ∧ rc ≤ maxLen) ∧ IntsAt w ra rl xs[i]
theorem VRow.nil (w : World) : VRow w [] [] := ⟨rfl, fun i hi => by simp at hi⟩
theorem VRow.below {w w' : World} {vs : List Value} {xs : List (List Int)} (h : VRow w vs xs) (hb : Below w.heap.size w w') : VRow w' vs xs :=
  ⟨h.1, fun i hi => by obtain ⟨ra, rl, rc, h1, h2, h3⟩ := h.2 i hi; exact ⟨ra, rl, rc, h1, h2, h3.below hb⟩⟩
theorem VRow.cells {w : World} {vs : List Value} {xs : List (List Int)} (h : VRow w vs xs) : ∀ u ∈ vs, u.oneCell' = true := by
  intro u hu
  obtain ⟨i, hi, rfl⟩ := List.mem_iff_getElem.1 hu
  obtain ⟨a, l, c, h1, -⟩ := h.2 i (by rw [← h.1]; exact hi)
  rw [List.getElem?_eq_getElem hi] at h1
  injection h1 with h1
  rw [h1]; rfl
theorem VRow.lists {w : World} {n1 : Nat} {vs : List Value} {xs : List (List Int)} {va : Option Addr} {k c : Nat} (h : VRow w vs xs) (ho : w.ownsRow n1 27 1 (.slice va k c) k vs) (hk : k ≤ maxLen) : ListsAt w va k xs := by
  have hl : xs.length = k := by have := ho.1; rw [← h.1]; simpa using this
  refine ⟨hl, hk, fun h0 => ?_⟩
  rcases ho.2 with ⟨_, e⟩ | ⟨g, cap, cur, e, hg, hb, hn, hc, hcs, ht⟩
  · omega
  · injection e with e1 _ _
    subst e1
    refine ⟨g, 0, rfl, (Array.getElem?_eq_some_iff.1 hb).1, fun i hi => ?_⟩
    obtain ⟨ra, rl, rc, h1, h2, h3⟩ := h.2 i hi
    refine ⟨ra, rl, rc, ?_, h2, h3⟩
    have := ho.cells (g := g) rfl i _ h1
    rw [Addr.add_lit] at this
    rwa [Nat.zero_add] at this ⊢
theorem VRow.set {w : World} {vs : List Value} {xs : List (List Int)} (h : VRow w vs xs) (i : Nat) (ra : Option Addr) (rl rc : Nat) (x : List Int) (hc : rl ≤ rc ∧ rc ≤ maxLen) (hx : IntsAt w ra rl x) : VRow w (vs.set i (.slice ra rl rc)) (xs.set i x) := by
  refine ⟨by simp [h.1], fun q hq => ?_⟩
  have hq' : q < xs.length := by simpa using hq
  by_cases e : i = q
  · subst e
    refine ⟨ra, rl, rc, by rw [List.getElem?_set_self (by rw [h.1]; exact hq')], hc, ?_⟩
    rw [List.getElem_set_self]; exact hx
  · obtain ⟨sa, sl, sc, f1, f2, f3⟩ := h.2 q hq'
    refine ⟨sa, sl, sc, by rw [List.getElem?_set_ne e]; exact f1, f2, ?_⟩
    rw [List.getElem_set_ne e]; exact f3
/-- What a slice of lists reads, as values. -/
theorem lists_vals {w : World} {a : Option Addr} {len : Nat} {xs : List (List Int)} (h : ListsAt w a len xs) : ∃ vs, VRow w vs xs ∧ (0 < len → ∃ pb po, a = some ⟨pb, po, none⟩ ∧ pb < w.heap.size ∧ ∀ j u, vs[j]? = some u → w.cell? ⟨pb, po + j, none⟩ = some u) := by
  obtain ⟨h1, h2, h3⟩ := h
  rcases Nat.eq_zero_or_pos len with h0 | h0
  · subst h0
    have : xs = [] := List.length_eq_zero_iff.1 h1
    subst this
    exact ⟨[], VRow.nil w, fun h => absurd h (by omega)⟩
  · obtain ⟨b, o, rfl, hb, hc⟩ := h3 h0
    have hv : ∀ i : Fin xs.length, ∃ v, w.cell? ⟨b, o + i.1, none⟩ = some v ∧ ∃ ra rl rc, v = .slice ra rl rc ∧ (rl ≤ rc ∧ rc ≤ maxLen) ∧ IntsAt w ra rl xs[i.1] := fun i => by
      obtain ⟨ra, rl, rc, k1, k2, k3⟩ := hc i.1 i.2
      exact ⟨_, k1, ra, rl, rc, rfl, k2, k3⟩
    refine ⟨List.ofFn fun i => (hv i).choose, ⟨by simp, fun i hi => ?_⟩, fun _ => ⟨b, o, rfl, hb, fun j u hj => ?_⟩⟩
    · obtain ⟨ra, rl, rc, k1, k2, k3⟩ := (hv ⟨i, hi⟩).choose_spec.2
      refine ⟨ra, rl, rc, ?_, k2, k3⟩
      rw [List.getElem?_ofFn, dif_pos hi, k1]
    · rw [List.getElem?_ofFn] at hj
      split at hj
      · rename_i hi
        injection hj with hj
        rw [← hj]
        exact (hv ⟨j, hi⟩).choose_spec.1
      · cases hj
theorem own_zero {w : World} {n0 : Nat} {e : TypeId} {size : Nat} : w.ownsRow n0 e size (.slice none 0 0) 0 [] := World.ownsRow_nil _ _ _ _
set_option maxRecDepth 100000 in
set_option maxHeartbeats 1000000 in
theorem CloneP_own (xa : Option Addr) (xl xc : Nat) (x : List Piece) (w : World) (hx : PiecesAt w xa xl x) (h100 : xl ≤ 1000) :
    Calls Try.prog 110 #[.slice xa xl xc] w fun e w' => ∃ v, e = .returned v ∧ w'.ownsRow w.heap.size 43 3 v xl (x.flatMap Piece.cells) ∧ Below w.heap.size w w' := by
  cases xa with
  | none =>
    have hx0 : xl = 0 := by
      rcases Nat.eq_zero_or_pos xl with h | h
      · exact h
      · obtain ⟨b, o, e, _⟩ := hx.2.2 h; cases e
    subst hx0
    have hx1 : x = [] := List.length_eq_zero_iff.1 hx.1
    subst hx1
    have hn : ∀ wx, (binOp .eql 23 (.slice none 0 xc) (.slice none 0 0)).run Try.prog wx = .ok (.bool true) wx := fun wx => Lib.run_eql_slice_nil wx _ _ _ _ _ _ _ Try.underlying23
    go_enter Try.func110, Try.ntmps110
    go_wp2_with fail
    go_ret
    exact ⟨_, rfl, own_zero, (by repeat (first | exact Below.refl _ _ | (refine Below.alloc ?_ (by first | omega | (simp; omega) | simp) _) | (refine Below.setCell ?_ (by first | omega | (simp; omega) | simp) _) | refine Below.drew ?_))⟩
  | some p =>
    have hn : ∀ wx, (binOp .eql 23 (.slice (some p) xl xc) (.slice none 0 0)).run Try.prog wx = .ok (.bool false) wx := fun wx => Lib.run_eql_slice_nil wx _ _ _ _ _ _ _ Try.underlying23
    have HX := Lib.hid (fun W (hb : Below w.heap.size w W) => pieces_src (hx.below hb))
    have hcs : (x.flatMap Piece.cells).length = xl * 3 := by rw [cells3_len, hx.1]
    have h1c : ∀ u ∈ x.flatMap Piece.cells, u.oneCell' = true := by
      intro u hu
      obtain ⟨p, -, hp⟩ := List.mem_flatMap.1 hu
      simp [Piece.cells] at hp
      rcases hp with rfl | rfl | rfl <;> rfl
    clear hx
    go_enter Try.func110, Try.ntmps110
    go_wp2_with (at_builtin; refine wpList_append_src _ 23 43 (.agg #[.int .i64 0, .int .i64 0, .int .i64 0]) 3 24 Try.underlying23 Try.info43 rfl (by decide) (by decide) w.heap.size 0 xl xc _ [] (x.flatMap Piece.cells) (some p) hcs h1c (by omega) rfl _ _ rfl rfl rfl (made_row rfl (Nat.le_refl _)) (fun h => by obtain ⟨pb, po, e, _, h2⟩ := HX.out (w.alloc (.cells #[] 43)) (by repeat (first | exact Below.refl _ _ | (refine Below.alloc ?_ (by first | omega | (simp; omega) | simp) _) | (refine Below.setCell ?_ (by first | omega | (simp; omega) | simp) _) | refine Below.drew ?_)) h; exact ⟨pb, po, e, h2⟩) (by simp) ?_; intro v' w' hown hgr hblk)
    go_ret
    refine ⟨_, rfl, by simpa using hown, ?_⟩
    exact (((Below.refl _ w).alloc (Nat.le_refl _) _).trans (grown_low hgr (by simp) (own_low (made_row (e := 43) (k := 3) rfl (Nat.le_refl _)))))
set_option maxRecDepth 100000 in
set_option maxHeartbeats 1000000 in
theorem CloneL_own (xa : Option Addr) (xl xc : Nat) (vs : List Value) (w : World) (hl : vs.length = xl) (h1c : ∀ u ∈ vs, u.oneCell' = true) (hsrc : 0 < xl → ∃ pb po, xa = some ⟨pb, po, none⟩ ∧ pb < w.heap.size ∧ ∀ j u, vs[j]? = some u → w.cell? ⟨pb, po + j, none⟩ = some u) (h100 : xl ≤ 1000) :
    Calls Try.prog 111 #[.slice xa xl xc] w fun e w' => ∃ v, e = .returned v ∧ w'.ownsRow w.heap.size 27 1 v xl vs ∧ Below w.heap.size w w' := by
  cases xa with
  | none =>
    have hx0 : xl = 0 := by
      rcases Nat.eq_zero_or_pos xl with h | h
      · exact h
      · obtain ⟨b, o, e, _⟩ := hsrc h; cases e
    subst hx0
    have hx1 : vs = [] := List.length_eq_zero_iff.1 hl
    subst hx1
    have hn : ∀ wx, (binOp .eql 24 (.slice none 0 xc) (.slice none 0 0)).run Try.prog wx = .ok (.bool true) wx := fun wx => Lib.run_eql_slice_nil wx _ _ _ _ _ _ _ Try.underlying24
    go_enter Try.func111, Try.ntmps111
    go_wp2_with fail
    go_ret
    exact ⟨_, rfl, own_zero, (by repeat (first | exact Below.refl _ _ | (refine Below.alloc ?_ (by first | omega | (simp; omega) | simp) _) | (refine Below.setCell ?_ (by first | omega | (simp; omega) | simp) _) | refine Below.drew ?_))⟩
  | some p =>
    have hn : ∀ wx, (binOp .eql 24 (.slice (some p) xl xc) (.slice none 0 0)).run Try.prog wx = .ok (.bool false) wx := fun wx => Lib.run_eql_slice_nil wx _ _ _ _ _ _ _ Try.underlying24
    have HX := Lib.hid hsrc
    have hcs : vs.length = xl * 1 := by omega
    clear hsrc
    go_enter Try.func111, Try.ntmps111
    go_wp2_with (at_builtin; refine wpList_append_src _ 24 27 (.slice none 0 0) 1 24 Try.underlying24 Try.info27 rfl (by decide) (by decide) w.heap.size 0 xl xc _ [] vs (some p) hcs h1c (by omega) rfl _ _ rfl rfl rfl (made_row rfl (Nat.le_refl _)) (fun h => by obtain ⟨pb, po, e, hlt, h2⟩ := HX.out h; exact ⟨pb, po, e, fun j u hj => (((by repeat (first | exact Below.refl _ _ | (refine Below.alloc ?_ (by first | omega | (simp; omega) | simp) _) | (refine Below.setCell ?_ (by first | omega | (simp; omega) | simp) _) | refine Below.drew ?_)) : Below w.heap.size w _).cell (p := ⟨pb, po + j, none⟩) hlt).trans (h2 j u hj)⟩) (by simp) ?_; intro v' w' hown hgr hblk)
    go_ret
    refine ⟨_, rfl, by simpa using hown, ?_⟩
    exact (((Below.refl _ w).alloc (Nat.le_refl _) _).trans (grown_low hgr (by simp) (own_low (made_row (e := 27) (k := 1) rfl (Nat.le_refl _)))))
theorem Clone_own (xa : Option Addr) (xl xc : Nat) (x : List Int) (w : World) (hx : IntsAt w xa xl x) (h100 : xl ≤ 1000) :
    Calls Try.prog 90 #[.slice xa xl xc] w fun e w' => ∃ v, e = .returned v ∧ w'.ownsRow w.heap.size 3 1 v xl (x.map (Value.int .i64)) ∧ Below w.heap.size w w' := by
  have hxl := hx.1
  refine (Clone_any xa xl xc x w hx h100).mono ?_
  rintro e w' ⟨ca, cc, rfl, h, hb⟩
  refine ⟨_, rfl, ?_, hb⟩
  rcases h with ⟨rfl, rfl, rfl⟩ | ⟨g, rfl, h⟩
  · have : x = [] := List.length_eq_zero_iff.1 hxl
    subst this
    exact own_zero
  · exact h
end Go.Proofs.Ytcklhojeneejiaa
