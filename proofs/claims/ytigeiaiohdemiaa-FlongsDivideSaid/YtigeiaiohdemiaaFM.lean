/- Package flongs: copies of lists; the walk of all shares that are just enough. -/
import Derived.Test.YtigeiaiohdemiaaFL
import Derived.Deep.AppendSrc
import Derived.Maps.AppendAt
namespace Go.Proofs.Ytigeiaiohdemiaa
set_option linter.unusedVariables false
set_option linter.unusedSimpArgs false
open Go.RowKit Go.Shelf

theorem made_row {w : World} {b n0 k : Nat} {e : TypeId} (hb : b = w.heap.size) (h0 : n0 ≤ w.heap.size) : (w.alloc (.cells #[] e)).ownsRow n0 e k (.slice (some ⟨b, 0, none⟩) 0 0) 0 [] := by
  subst hb; exact World.ownsRow_made w #[] 0 h0 (by decide) (by simp)
theorem wpList_append_run {P : Program} (w : World) {ops : Array Oper} {rest : List Oper} {o : Oper} {a : Act} {Q : Exit → Act → World → Prop} (hgd : o.guard = none) (s x : Operand) (t : TypeId)
    (ho : o.op = .call { callee := .builtin .append, args := #[s, x], argTypes := #[t, t] }) (v1 v2 r : Value) (w' : World) (hs : a.eval s = v1) (hx : a.eval x = v2)
    (hr : (Builtin.append_ #[t, t] o.type #[v1, v2]).run P w = .ok r w') (h : wpList P ops Q rest (a.put o.dst r) w') : wpList P ops Q (o :: rest) a w := by
  refine wpList_plain hgd fun K hK => ?_
  unfold Oper.wp execOp
  simp only [ho, resolve, invoke, builtin, Sem.run_bind, Sem.run_pure, Result.andThen_ok, List.map_toArray, List.map_cons, List.map_nil, hs, hx, hr]
  exact hK _ _ h
theorem ownsRow_pos {w : World} {n0 k n : Nat} {e : TypeId} {v : Value} {xs : List Value} (h : w.ownsRow n0 e k v n xs) (hn : 0 < n) : ∃ g cap, v = .slice (some ⟨g, 0, none⟩) n cap ∧ n0 ≤ g := by
  rcases h.2 with ⟨_, h⟩ | ⟨g, cap, cur, h, hg, _⟩
  · omega
  · exact ⟨g, cap, h, hg⟩

/-- append([]int{}, xs...), for xs that came in. -/
theorem run_append_row (w : World) (t ty : TypeId) (ht : t = 24) (n0 b xlen xcap : Nat) (xa : Option Addr) (xs : List Int)
    (hrow : RowI w n0 b 0 0 []) (hx : IntsAt w xa xlen xs) (hl : xlen ≤ 1000) (hnw : n0 ≤ w.heap.size) :
    ∃ g cap' w3, (Builtin.append_ #[t, t] ty #[.slice (some ⟨b, 0, none⟩) 0 0, .slice xa xlen xcap]).run Try.prog w = .ok (.slice (some ⟨g, 0, none⟩) xlen cap') w3 ∧ RowI w3 n0 g xlen cap' xs ∧ Below n0 w w3 := by
  subst ht
  obtain ⟨i0, hi, hy0, hy1, hy2⟩ := info_parts Try.info3
  obtain ⟨hxl, hxm, hxc⟩ := hx
  rcases Nat.eq_zero_or_pos xlen with h0 | h0
  · subst h0
    have hxs : xs = [] := List.length_eq_zero_iff.1 hxl
    subst hxs
    have hsrc : Src Try.prog i0.size 24 (.slice xa 0 xcap) 0 [] w := by
      cases xa with
      | none => exact Src.ofNil w Try.underlying24 xcap
      | some xa => exact Src.ofSlice w Try.underlying24 xa 0 xcap [] (by simp) (by simp) (by simp)
    exact ⟨b, 0, w, run_append_room_src (P := Try.prog) w 24 24 ty 3 i0 Try.underlying24 hi b 0 0 0 (.slice xa 0 xcap) 0 [] hsrc (by omega) (by simp) (by simp), hrow, Below.refl _ _⟩
  · obtain ⟨pb, po, rfl, hpb, hat⟩ := hxc h0
    obtain ⟨v', w3, hr, hown, hgrow, _, hat'⟩ := run_append_own_at (P := Try.prog) w n0 24 ty 3 i0 (.int .i64 0) 1 8 Try.underlying24 hi hy0 hy1 hy2 rfl (by decide) _ 0 _ hrow ⟨pb, po, none⟩ xlen xcap (xs.map (Value.int .i64)) (by simp [hxl]) (by
      intro j u hj
      have hjx : j < xs.length := by have := (List.getElem?_eq_some_iff.1 hj).1; simpa using this
      rw [Addr.add_lit]
      refine (hat j hjx).trans ?_
      rw [← hj]; simp [hjx]) (by intro u hu; obtain ⟨y, _, rfl⟩ := List.mem_map.1 hu; rfl) (by unfold maxLen; omega) (by omega) hnw
    rw [Nat.zero_add] at hown
    obtain ⟨g, c, rfl, hg⟩ := ownsRow_pos hown h0
    exact ⟨g, c, w3, hr, by simpa [RowI] using hown, (Below.refl n0 w).grown hgrow hnw (by intro k hk; have := hrow.parts.1; simp [Value.ownBlock] at hk; omega)⟩
theorem step_append_row {ops : Array Oper} {o : Oper} {a : Act} {K : Act → World → Prop} {Q : Exit → Act → World → Prop} {E : Prop} (w : World) (n0 b xlen xcap : Nat) (xa : Option Addr) (xs : List Int) (hgd : o.guard = none) (s x : Operand)
    (ho : o.op = .call { callee := .builtin .append, args := #[s, x], argTypes := #[24, 24] }) (hs : a.eval s = .slice (some ⟨b, 0, none⟩) 0 0) (hxv : a.eval x = .slice xa xlen xcap)
    (hrow : RowI w n0 b 0 0 []) (hx : IntsAt w xa xlen xs) (hl : xlen ≤ 1000) (hnw : n0 ≤ w.heap.size)
    (h : ∀ g cap' w3, RowI w3 n0 g xlen cap' xs → Below n0 w w3 → K (a.put o.dst (.slice (some ⟨g, 0, none⟩) xlen cap')) w3) : if Region.wanted o (yielded ops a.tmps) = true then Oper.wp Try.prog o a w K Q else E := by
  obtain ⟨g, c, w3, hr, hi, hb⟩ := run_append_row w 24 o.type rfl n0 b xlen xcap xa xs hrow hx hl hnw
  rw [if_pos (by simp [Region.wanted, hgd])]
  unfold Oper.wp execOp
  simp only [ho, resolve, invoke, builtin, Sem.run_bind, Sem.run_pure, Result.andThen_ok, List.map_toArray, List.map_cons, List.map_nil, hs, hxv, hr]
  exact h g c w3 hi hb
theorem wpList_append_row {ops : Array Oper} {rest : List Oper} {o : Oper} {a : Act} {Q : Exit → Act → World → Prop} (w : World) (n0 b xlen xcap : Nat) (xa : Option Addr) (xs : List Int) (hgd : o.guard = none) (s x : Operand)
    (ho : o.op = .call { callee := .builtin .append, args := #[s, x], argTypes := #[24, 24] }) (hs : a.eval s = .slice (some ⟨b, 0, none⟩) 0 0) (hxv : a.eval x = .slice xa xlen xcap)
    (hrow : RowI w n0 b 0 0 []) (hx : IntsAt w xa xlen xs) (hl : xlen ≤ 1000) (hnw : n0 ≤ w.heap.size)
    (h : ∀ g cap' w3, RowI w3 n0 g xlen cap' xs → Below n0 w w3 → wpList Try.prog ops Q rest (a.put o.dst (.slice (some ⟨g, 0, none⟩) xlen cap')) w3) : wpList Try.prog ops Q (o :: rest) a w := by
  obtain ⟨g, c, w3, hr, hi, hb⟩ := run_append_row w 24 o.type rfl n0 b xlen xcap xa xs hrow hx hl hnw
  exact wpList_append_run w hgd s x 24 ho _ _ _ _ hs hxv hr (h g c w3 hi hb)

set_option maxHeartbeats 1000000 in
theorem Clone_some (p : Addr) (xl xc : Nat) (x : List Int) (w : World) (hx : IntsAt w (some p) xl x) (h100 : xl ≤ 1000) :
    Calls Try.prog 103 #[.slice (some p) xl xc] w fun e w' => ∃ g cc, e = .returned (.slice (some ⟨g, 0, none⟩) xl cc) ∧ RowI w' w.heap.size g xl cc x ∧ Below w.heap.size w w' := by
  have hn : ∀ wx, (binOp .eql 24 (.slice (some p) xl xc) (.slice none 0 0)).run Try.prog wx = .ok (.bool false) wx := fun wx => Lib.run_eql_slice_nil wx _ _ _ _ _ _ _ Try.underlying24
  have HX := Lib.hid (fun w1 (hb : Below w.heap.size w w1) => hx.below hb)
  clear hx
  go_enter Try.func103, Try.ntmps103
  go_wp2_with (at_builtin; refine wpList_append_row _ w.heap.size w.heap.size xl xc (some p) x rfl _ _ rfl rfl rfl (made_row rfl (Nat.le_refl _)) (HX.out _ (by repeat (first | exact Below.refl _ _ | (refine Below.alloc ?_ (by first | omega | (simp; omega) | simp) _) | (refine Below.setCell ?_ (by first | omega | (simp; omega) | simp) _) | refine Below.drew ?_))) h100 (by simp) ?_; intro g c3 w3 hr3 hb3)
  go_ret
  exact ⟨g, c3, rfl, hr3, ((Below.refl _ w).alloc (Nat.le_refl _) _).trans hb3⟩
/-- What slices.Clone ends with. -/
def ClonePost (xl : Nat) (x : List Int) (w : World) (e : Ending) (w' : World) : Prop :=
  ∃ (ca : Option Addr) (cc : Nat), e = .returned (.slice ca xl cc) ∧ ((ca = none ∧ xl = 0 ∧ cc = 0) ∨ ∃ g, ca = some ⟨g, 0, none⟩ ∧ RowI w' w.heap.size g xl cc x) ∧ Below w.heap.size w w'
set_option maxHeartbeats 1000000 in
theorem Clone_any (xa : Option Addr) (xl xc : Nat) (x : List Int) (w : World) (hx : IntsAt w xa xl x) (h100 : xl ≤ 1000) :
    Calls Try.prog 103 #[.slice xa xl xc] w fun e w' => ClonePost xl x w e w' := by
  cases xa with
  | none =>
    have hx0 : xl = 0 := by
      rcases Nat.eq_zero_or_pos xl with h | h
      · exact h
      · obtain ⟨b, o, e, _⟩ := hx.2.2 h; cases e
    subst hx0
    have hn : ∀ wx, (binOp .eql 24 (.slice none 0 xc) (.slice none 0 0)).run Try.prog wx = .ok (.bool true) wx := fun wx => Lib.run_eql_slice_nil wx _ _ _ _ _ _ _ Try.underlying24
    go_enter Try.func103, Try.ntmps103
    go_wp2_with fail
    go_ret
    exact ⟨none, 0, rfl, .inl ⟨rfl, rfl, rfl⟩, (by repeat (first | exact Below.refl _ _ | (refine Below.alloc ?_ (by first | omega | (simp; omega) | simp) _) | (refine Below.setCell ?_ (by first | omega | (simp; omega) | simp) _) | refine Below.drew ?_))⟩
  | some p =>
    refine (Clone_some p xl xc x w hx h100).mono ?_
    rintro e w' ⟨g, cc, rfl, hr, hb⟩
    exact ⟨_, cc, rfl, .inr ⟨g, rfl, hr⟩, hb⟩
end Go.Proofs.Ytigeiaiohdemiaa
