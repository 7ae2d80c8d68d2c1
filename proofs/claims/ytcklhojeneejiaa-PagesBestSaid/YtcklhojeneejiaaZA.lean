/- Package pages: rows of numbers that calls have made; slices.Clone at numbers. -/
import Derived.Test.YtcklhojeneejiaaYY
import Derived.Deep.AppendSrc
import Derived.Maps.AppendAt
namespace Go.Proofs.Ytcklhojeneejiaa
set_option linter.unusedVariables false
set_option linter.unusedSimpArgs false
open Go.RowKit

theorem Try.info3 : (Try.prog.info? 3).map (fun i => (i.zero, i.size, i.bytes)) = some (some (.int .i64 0), 1, 8) := by kernel_rfl

/-- A block of numbers. -/
def HoldsI (w : World) (b : Nat) (x : List Int) : Prop := b < w.heap.size ∧ (∀ i (h : i < x.length), w.cell? ⟨b, i, none⟩ = some (.int .i64 x[i])) ∧ ∀ i, w.frozen? ⟨b, i, none⟩ = false
theorem HoldsI.block {w w' : World} {b : Nat} {x : List Int} (h : HoldsI w b x) (hs : w.heap.size ≤ w'.heap.size) (e : w'.heap[b]? = w.heap[b]?) : HoldsI w' b x :=
  ⟨Nat.lt_of_lt_of_le h.1 hs, fun i hi => (World.cell?_of_block (w := w) (a := ⟨b, i, none⟩) e).trans (h.2.1 i hi), fun i => (World.frozen?_of_block (w := w) (a := ⟨b, i, none⟩) e).trans (h.2.2 i)⟩
theorem HoldsI.other {w w' : World} {b : Nat} {x : List Int} {row : Option Nat} (h : HoldsI w b x) (hg : w.grownBy w' row) (hne : some b ≠ row) : HoldsI w' b x :=
  h.block hg.size (hg.block b h.1 hne)
theorem HoldsI.below {w w' : World} {b : Nat} {x : List Int} (h : HoldsI w b x) (hb : Below w.heap.size w w') : HoldsI w' b x := h.block hb.size (hb.block b h.1)
theorem HoldsI.ints {w : World} {b : Nat} {x : List Int} (h : HoldsI w b x) (hm : x.length ≤ maxLen) : IntsAt w (some ⟨b, 0, none⟩) x.length x :=
  ⟨rfl, hm, fun _ => ⟨b, 0, rfl, h.1, fun i hi => by rw [Nat.zero_add]; exact h.2.1 i hi⟩⟩

/-- The numbers of a row that calls have made. -/
def RowI (w : World) (n0 b k cap : Nat) (x : List Int) : Prop := w.ownsRow n0 3 1 (.slice (some ⟨b, 0, none⟩) k cap) k (x.map (Value.int .i64))
theorem RowI.len {w : World} {n0 b k cap : Nat} {x : List Int} (h : RowI w n0 b k cap x) : x.length = k := by have := h.1; simpa using this
theorem RowI.parts {w : World} {n0 b k cap : Nat} {x : List Int} (h : RowI w n0 b k cap x) : n0 ≤ b ∧ k ≤ cap ∧ cap ≤ maxLen ∧ ∃ cur : Array Value, w.heap[b]? = some (.cells cur 3 (0, 0)) ∧ cur.size = cap ∧ cur.toList.take k = x.map (Value.int .i64) := by
  rcases h.2 with ⟨e, _⟩ | ⟨g, c, cur, e, h1, h2, h3, h4, h5, h6⟩
  · cases e
  · injection e with e1 _ e3
    injection e1 with e1
    injection e1 with e1
    subst e1 e3
    exact ⟨h1, h3, h4, cur, h2, by simpa using h5, by simpa [h.len] using h6⟩
theorem RowI.of {w : World} {n0 b k cap : Nat} {x : List Int} (h0 : n0 ≤ b) (hk : k ≤ cap) (hm : cap ≤ maxLen) (hx : x.length = k) (cur : Array Value) (hc : w.heap[b]? = some (.cells cur 3 (0, 0))) (hz : cur.size = cap) (ht : cur.toList.take k = x.map (Value.int .i64)) : RowI w n0 b k cap x :=
  ⟨by simpa using hx, .inr ⟨b, cap, cur, rfl, h0, hc, hk, hm, by simpa using hz, by simpa [hx] using ht⟩⟩
theorem RowI.lt {w : World} {n0 b k cap : Nat} {x : List Int} (h : RowI w n0 b k cap x) : b < w.heap.size := by
  obtain ⟨_, _, _, cur, hc, _⟩ := h.parts
  exact (Array.getElem?_eq_some_iff.1 hc).1
theorem RowI.block {w w' : World} {n0 b k cap : Nat} {x : List Int} (h : RowI w n0 b k cap x) (e : w'.heap[b]? = w.heap[b]?) : RowI w' n0 b k cap x := by
  obtain ⟨h1, h2, h3, cur, hc, h4, h5⟩ := h.parts
  exact RowI.of h1 h2 h3 h.len cur (e.trans hc) h4 h5
theorem RowI.back {w : World} {n0 b k cap : Nat} {x : List Int} {n : Int} (h : RowI w n0 b (k + 1) cap (x ++ [n])) : RowI w n0 b k cap x := by
  have hl := h.len
  simp only [List.length_append, List.length_cons, List.length_nil] at hl
  obtain ⟨h1, h2, h3, cur, hc, h4, h5⟩ := h.parts
  refine RowI.of h1 (by omega) h3 (by omega) cur hc h4 ?_
  have e : cur.toList.take k = (cur.toList.take (k + 1)).take k := by rw [List.take_take, Nat.min_eq_left (Nat.le_succ k)]
  rw [e, h5, List.map_append, List.take_left' (by simp; omega)]
theorem RowI.holds {w : World} {n0 b k cap : Nat} {x : List Int} (h : RowI w n0 b k cap x) : HoldsI w b x := by
  obtain ⟨h1, h2, h3, cur, hc, h4, h5⟩ := h.parts
  refine ⟨h.lt, fun i hi => ?_, fun i => by simp [World.frozen?, hc]⟩
  have e : (cur.toList.take k)[i]? = (x.map (Value.int .i64))[i]? := by rw [h5]
  have hk : i < k := by rw [← h.len]; exact hi
  rw [List.getElem?_take, if_pos hk] at e
  simp only [World.cell?, hc]
  simpa [hi] using e
theorem RowI.ints {w : World} {n0 b k cap : Nat} {x : List Int} (h : RowI w n0 b k cap x) : IntsAt w (some ⟨b, 0, none⟩) k x := by
  have h3 := h.parts.2.2.1
  have h2 := h.parts.2.1
  have := h.holds.ints (by rw [h.len]; omega)
  rwa [h.len] at this

theorem RowI.below {w w' : World} {n0 b k cap : Nat} {x : List Int} (h : RowI w n0 b k cap x) (hb : Below w.heap.size w w') : RowI w' n0 b k cap x := h.block (hb.block _ h.lt)
theorem made_row {w : World} {b n0 k : Nat} {e : TypeId} (hb : b = w.heap.size) (h0 : n0 ≤ w.heap.size) : (w.alloc (.cells #[] e)).ownsRow n0 e k (.slice (some ⟨b, 0, none⟩) 0 0) 0 [] := by
  subst hb; exact World.ownsRow_made w #[] 0 h0 (by decide) (by simp)
theorem wpList_append_run {P : Program} (w : World) {ops : Array Oper} {rest : List Oper} {o : Oper} {a : Act} {Q : Exit → Act → World → Prop} (hgd : o.guard = none) (s x : Operand) (t : TypeId)
    (ho : o.op = .call { callee := .builtin .append, args := #[s, x], argTypes := #[t, t] }) (v1 v2 r : Value) (w' : World) (hs : a.eval s = v1) (hx : a.eval x = v2)
    (hr : (Builtin.append_ #[t, t] o.type #[v1, v2]).run P w = .ok r w') (h : wpList P ops Q rest (a.put o.dst r) w') : wpList P ops Q (o :: rest) a w := by
  refine wpList_plain hgd fun K hK => ?_
  unfold Oper.wp execOp
  simp only [ho, resolve, invoke, builtin, Sem.run_bind, Sem.run_pure, Result.andThen_ok, List.map_toArray, List.map_cons, List.map_nil, hs, hx, hr]
  exact hK _ _ h
theorem ownsRow_pos {w : World} {n0 k n : Nat} {e : TypeId} {v : Value} {xs : List Value} (h : w.ownsRow n0 e k v n xs) (hn : 0 < n) : ∃ g cap, v = .slice (some ⟨g, 0, none⟩) n cap ∧ n0 ≤ g := by
  rcases h.2 with ⟨_, h⟩ | ⟨g, cap, cur, h, hg, _⟩
  · omega
  · exact ⟨g, cap, h, hg⟩

/-- append([]int{}, xs...), for xs that came in. -/
theorem run_append_row (w : World) (t ty : TypeId) (ht : t = 27) (n0 b xlen xcap : Nat) (xa : Option Addr) (xs : List Int)
    (hrow : RowI w n0 b 0 0 []) (hx : IntsAt w xa xlen xs) (hl : xlen ≤ 1000) (hnw : n0 ≤ w.heap.size) :
    ∃ g cap' w3, (Builtin.append_ #[t, t] ty #[.slice (some ⟨b, 0, none⟩) 0 0, .slice xa xlen xcap]).run Try.prog w = .ok (.slice (some ⟨g, 0, none⟩) xlen cap') w3 ∧ RowI w3 n0 g xlen cap' xs ∧ Below n0 w w3 := by
  subst ht
  obtain ⟨i0, hi, hy0, hy1, hy2⟩ := info_parts Try.info3
  obtain ⟨hxl, hxm, hxc⟩ := hx
  rcases Nat.eq_zero_or_pos xlen with h0 | h0
  · subst h0
    have hxs : xs = [] := List.length_eq_zero_iff.1 hxl
    subst hxs
    have hsrc : Src Try.prog i0.size 27 (.slice xa 0 xcap) 0 [] w := by
      cases xa with
      | none => exact Src.ofNil w Try.underlying27 xcap
      | some xa => exact Src.ofSlice w Try.underlying27 xa 0 xcap [] (by simp) (by simp) (by simp)
    exact ⟨b, 0, w, run_append_room_src (P := Try.prog) w 27 27 ty 3 i0 Try.underlying27 hi b 0 0 0 (.slice xa 0 xcap) 0 [] hsrc (by omega) (by simp) (by simp), hrow, Below.refl _ _⟩
  · obtain ⟨pb, po, rfl, hpb, hat⟩ := hxc h0
    obtain ⟨v', w3, hr, hown, hgrow, _, hat'⟩ := run_append_own_at (P := Try.prog) w n0 27 ty 3 i0 (.int .i64 0) 1 8 Try.underlying27 hi hy0 hy1 hy2 rfl (by decide) _ 0 _ hrow ⟨pb, po, none⟩ xlen xcap (xs.map (Value.int .i64)) (by simp [hxl]) (by
      intro j u hj
      have hjx : j < xs.length := by have := (List.getElem?_eq_some_iff.1 hj).1; simpa using this
      rw [Addr.add_lit]
      refine (hat j hjx).trans ?_
      rw [← hj]; simp [hjx]) (by intro u hu; obtain ⟨y, _, rfl⟩ := List.mem_map.1 hu; rfl) (by unfold maxLen; omega) (by omega) hnw
    rw [Nat.zero_add] at hown
    obtain ⟨g, c, rfl, hg⟩ := ownsRow_pos hown h0
    exact ⟨g, c, w3, hr, by simpa [RowI] using hown, (Below.refl n0 w).grown hgrow hnw (by intro k hk; have := hrow.parts.1; simp [Value.ownBlock] at hk; omega)⟩
theorem step_append_row {ops : Array Oper} {o : Oper} {a : Act} {K : Act → World → Prop} {Q : Exit → Act → World → Prop} {E : Prop} (w : World) (n0 b xlen xcap : Nat) (xa : Option Addr) (xs : List Int) (hgd : o.guard = none) (s x : Operand)
    (ho : o.op = .call { callee := .builtin .append, args := #[s, x], argTypes := #[27, 27] }) (hs : a.eval s = .slice (some ⟨b, 0, none⟩) 0 0) (hxv : a.eval x = .slice xa xlen xcap)
    (hrow : RowI w n0 b 0 0 []) (hx : IntsAt w xa xlen xs) (hl : xlen ≤ 1000) (hnw : n0 ≤ w.heap.size)
    (h : ∀ g cap' w3, RowI w3 n0 g xlen cap' xs → Below n0 w w3 → K (a.put o.dst (.slice (some ⟨g, 0, none⟩) xlen cap')) w3) : if Region.wanted o (yielded ops a.tmps) = true then Oper.wp Try.prog o a w K Q else E := by
  obtain ⟨g, c, w3, hr, hi, hb⟩ := run_append_row w 27 o.type rfl n0 b xlen xcap xa xs hrow hx hl hnw
  rw [if_pos (by simp [Region.wanted, hgd])]
  unfold Oper.wp execOp
  simp only [ho, resolve, invoke, builtin, Sem.run_bind, Sem.run_pure, Result.andThen_ok, List.map_toArray, List.map_cons, List.map_nil, hs, hxv, hr]
  exact h g c w3 hi hb
theorem wpList_append_row {ops : Array Oper} {rest : List Oper} {o : Oper} {a : Act} {Q : Exit → Act → World → Prop} (w : World) (n0 b xlen xcap : Nat) (xa : Option Addr) (xs : List Int) (hgd : o.guard = none) (s x : Operand)
    (ho : o.op = .call { callee := .builtin .append, args := #[s, x], argTypes := #[27, 27] }) (hs : a.eval s = .slice (some ⟨b, 0, none⟩) 0 0) (hxv : a.eval x = .slice xa xlen xcap)
    (hrow : RowI w n0 b 0 0 []) (hx : IntsAt w xa xlen xs) (hl : xlen ≤ 1000) (hnw : n0 ≤ w.heap.size)
    (h : ∀ g cap' w3, RowI w3 n0 g xlen cap' xs → Below n0 w w3 → wpList Try.prog ops Q rest (a.put o.dst (.slice (some ⟨g, 0, none⟩) xlen cap')) w3) : wpList Try.prog ops Q (o :: rest) a w := by
  obtain ⟨g, c, w3, hr, hi, hb⟩ := run_append_row w 27 o.type rfl n0 b xlen xcap xa xs hrow hx hl hnw
  exact wpList_append_run w hgd s x 27 ho _ _ _ _ hs hxv hr (h g c w3 hi hb)

set_option maxHeartbeats 1000000 in
theorem Clone_some (p : Addr) (xl xc : Nat) (x : List Int) (w : World) (hx : IntsAt w (some p) xl x) (h100 : xl ≤ 1000) :
    Calls Try.prog 90 #[.slice (some p) xl xc] w fun e w' => ∃ g cc, e = .returned (.slice (some ⟨g, 0, none⟩) xl cc) ∧ RowI w' w.heap.size g xl cc x ∧ Below w.heap.size w w' := by
  have hn : ∀ wx, (binOp .eql 27 (.slice (some p) xl xc) (.slice none 0 0)).run Try.prog wx = .ok (.bool false) wx := fun wx => Lib.run_eql_slice_nil wx _ _ _ _ _ _ _ Try.underlying27
  have HX := Lib.hid (fun w1 (hb : Below w.heap.size w w1) => hx.below hb)
  clear hx
  go_enter Try.func90, Try.ntmps90
  go_wp2_with (at_builtin; refine wpList_append_row _ w.heap.size w.heap.size xl xc (some p) x rfl _ _ rfl rfl rfl (made_row rfl (Nat.le_refl _)) (HX.out _ (by repeat (first | exact Below.refl _ _ | (refine Below.alloc ?_ (by first | omega | (simp; omega) | simp) _) | (refine Below.setCell ?_ (by first | omega | (simp; omega) | simp) _) | refine Below.drew ?_))) h100 (by simp) ?_; intro g c3 w3 hr3 hb3)
  go_ret
  exact ⟨g, c3, rfl, hr3, ((Below.refl _ w).alloc (Nat.le_refl _) _).trans hb3⟩
/-- What slices.Clone ends with. -/
def ClonePost (xl : Nat) (x : List Int) (w : World) (e : Ending) (w' : World) : Prop :=
  ∃ (ca : Option Addr) (cc : Nat), e = .returned (.slice ca xl cc) ∧ ((ca = none ∧ xl = 0 ∧ cc = 0) ∨ ∃ g, ca = some ⟨g, 0, none⟩ ∧ RowI w' w.heap.size g xl cc x) ∧ Below w.heap.size w w'
set_option maxHeartbeats 1000000 in
theorem Clone_any (xa : Option Addr) (xl xc : Nat) (x : List Int) (w : World) (hx : IntsAt w xa xl x) (h100 : xl ≤ 1000) :
    Calls Try.prog 90 #[.slice xa xl xc] w fun e w' => ClonePost xl x w e w' := by
  cases xa with
  | none =>
    have hx0 : xl = 0 := by
      rcases Nat.eq_zero_or_pos xl with h | h
      · exact h
      · obtain ⟨b, o, e, _⟩ := hx.2.2 h; cases e
    subst hx0
    have hn : ∀ wx, (binOp .eql 27 (.slice none 0 xc) (.slice none 0 0)).run Try.prog wx = .ok (.bool true) wx := fun wx => Lib.run_eql_slice_nil wx _ _ _ _ _ _ _ Try.underlying27
    go_enter Try.func90, Try.ntmps90
    go_wp2_with fail
    go_ret
    exact ⟨none, 0, rfl, .inl ⟨rfl, rfl, rfl⟩, (by repeat (first | exact Below.refl _ _ | (refine Below.alloc ?_ (by first | omega | (simp; omega) | simp) _) | (refine Below.setCell ?_ (by first | omega | (simp; omega) | simp) _) | refine Below.drew ?_))⟩
  | some p =>
    refine (Clone_some p xl xc x w hx h100).mono ?_
    rintro e w' ⟨g, cc, rfl, hr, hb⟩
    exact ⟨_, cc, rfl, .inr ⟨g, rfl, hr⟩, hb⟩
end Go.Proofs.Ytcklhojeneejiaa
