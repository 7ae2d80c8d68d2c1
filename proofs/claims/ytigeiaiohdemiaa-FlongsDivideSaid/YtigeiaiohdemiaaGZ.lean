/- Flongs: rows that a copy owns, written; the laws' cast. -/
import Derived.Test.YtigeiaiohdemiaaGW
namespace Go.Proofs.Ytigeiaiohdemiaa
set_option linter.unusedVariables false
set_option linter.unusedSimpArgs false
open Go.RowKit

theorem cells3_set : ∀ (L : List Mould) (i : Nat) (_ : i < L.length) (m : Mould), (L.set i m).flatMap Mould.cells = (((L.flatMap Mould.cells).set (i * 3) (.int .i64 m.p)).set (i * 3 + 1) (.int .i64 m.u)).set (i * 3 + 2) (.int .i64 m.b)
  | [], i, h, _ => by simp at h
  | a :: L, 0, _, m => by simp [Mould.cells, List.flatMap_cons]
  | a :: L, i + 1, h, m => by
    have ih := cells3_set L i (by simpa using h) m
    rw [List.set_cons_succ, List.flatMap_cons, List.flatMap_cons, ih]
    have e : ∀ (t : Nat), (i + 1) * 3 + t = (i * 3 + t) + 3 := fun t => by omega
    rw [e 1, e 2, show (i + 1) * 3 = i * 3 + 3 by omega]
    rfl
theorem own_set {w : World} {n0 e size g k cap : Nat} {cs : List Value} (h : w.ownsRow n0 e size (.slice (some ⟨g, 0, none⟩) k cap) k cs) (j : Nat) (v : Value) :
    (w.setCell ⟨g, j, none⟩ v).ownsRow n0 e size (.slice (some ⟨g, 0, none⟩) k cap) k (cs.set j v) := by
  rcases h.2 with ⟨e1, _⟩ | ⟨g', c, cur, e1, h1, h2, h3, h4, h5, h6⟩
  · cases e1
  · injection e1 with e1 e2 e3
    injection e1 with e1
    injection e1 with e1
    subst e1 e3
    refine ⟨by rw [List.length_set]; exact h.1, .inr ⟨g, cap, cur.setIfInBounds j v, rfl, h1, heap_setCell_same _ _ _ _ _ _ h2, h3, h4, by simpa using h5, ?_⟩⟩
    rw [Array.toList_setIfInBounds, List.take_set, h6]
theorem FRow.set {w : World} {n0 : Nat} {e : TypeId} {size : Nat} {ga : Addr} {k cap : Nat} {cs : List Value} (h : FRow w n0 e size (some ga) k cap cs) (j : Nat) (v : Value) :
    FRow (w.setCell ⟨ga.block, j, none⟩ v) n0 e size (some ga) k cap (cs.set j v) := by
  refine ⟨by rw [List.length_set]; exact h.1, fun h0 => ?_⟩
  obtain ⟨g, e1, ho⟩ := h.2 h0
  injection e1 with e1
  subst e1
  exact ⟨g, rfl, own_set ho j v⟩

/-- What a copy owns. -/
def CopyRow (s : FShop) (n0 ml wl nl : Nat) (gm : Addr) (cm : Nat) (va : Option Addr) (vc : Nat) (gw : Addr) (cw : Nat) (vs : List Value) (N1 : Nat) (w : World) : Prop :=
  FRow w n0 48 3 (some gm) ml cm (s.moulds.flatMap Mould.cells) ∧ FRow w n0 3 1 (some gw) nl cw (s.wants.map (Value.int .i64)) ∧ (0 < nl → gw.block < N1) ∧
    w.ownsRow n0 24 1 (.slice va wl vc) wl vs ∧ LRow w N1 vs s.worlds ∧ n0 ≤ N1
theorem CopyRow.below {s : FShop} {n0 ml wl nl : Nat} {gm : Addr} {cm : Nat} {va : Option Addr} {vc : Nat} {gw : Addr} {cw : Nat} {vs : List Value} {N1 : Nat} {w w' : World} (h : CopyRow s n0 ml wl nl gm cm va vc gw cw vs N1 w) (hb : Below w.heap.size w w') : CopyRow s n0 ml wl nl gm cm va vc gw cw vs N1 w' := by
  obtain ⟨h1, h2, h3, h4, h5, h6⟩ := h
  exact ⟨h1.kept (grown_none hb) (fun r e => by cases e), h2.kept (grown_none hb) (fun r e => by cases e), h3, h4.kept (grown_none hb) (Classical.em _), h5.kept (grown_none hb) (fun r e => by cases e), h6⟩
theorem CopyRow.out {s : FShop} {n0 ml wl nl : Nat} {gm : Addr} {cm : Nat} {va : Option Addr} {vc : Nat} {gw : Addr} {cw : Nat} {vs : List Value} {N1 : Nat} {w w' : World} {r : Nat} (h : CopyRow s n0 ml wl nl gm cm va vc gw cw vs N1 w) (hg : w.grownBy w' (some r)) (hr : r < n0) : CopyRow s n0 ml wl nl gm cm va vc gw cw vs N1 w' := by
  obtain ⟨h1, h2, h3, h4, h5, h6⟩ := h
  exact ⟨h1.kept hg (fun r' e => by injection e with e; exact .inr (.inl (by omega))), h2.kept hg (fun r' e => by injection e with e; exact .inr (.inl (by omega))), h3, h4.kept hg (.inr (own_ge h4 hr)), h5.kept hg (fun r' e => by injection e with e; exact .inr (.inl (by omega))), h6⟩
theorem CopyRow.at {s : FShop} {n0 ml wl nl : Nat} {gm : Addr} {cm : Nat} {va : Option Addr} {vc : Nat} {gw : Addr} {cw : Nat} {vs : List Value} {N1 : Nat} {w : World} (h : CopyRow s n0 ml wl nl gm cm va vc gw cw vs N1 w) (hm : ml ≤ 40) (hw : wl ≤ 40) (hn : nl ≤ 40) (hx : ∀ x ∈ s.worlds, x.length ≤ 40) : FAt w (some gm) ml cm va wl vc (some gw) nl cw s := by
  obtain ⟨h1, h2, h3, h4, h5, h6⟩ := h
  exact ⟨h1.moulds (by unfold maxLen; omega), h5.lists h4 (by unfold maxLen; omega) (fun x hx' => by have := hx x hx'; unfold maxLen; omega), h2.ints (by unfold maxLen; omega)⟩
theorem CopyRow.setMould {s : FShop} {n0 ml wl nl : Nat} {gm : Addr} {cm : Nat} {va : Option Addr} {vc : Nat} {gw : Addr} {cw : Nat} {vs : List Value} {N1 : Nat} {w : World} (h : CopyRow s n0 ml wl nl gm cm va vc gw cw vs N1 w) (i : Nat) (hi : i < s.moulds.length) (hml : s.moulds.length = ml) (m : Mould) :
    CopyRow { s with moulds := s.moulds.set i m } n0 ml wl nl gm cm va vc gw cw vs N1 (((w.setCell ⟨gm.block, i * 3, none⟩ (.int .i64 m.p)).setCell ⟨gm.block, i * 3 + 1, none⟩ (.int .i64 m.u)).setCell ⟨gm.block, i * 3 + 2, none⟩ (.int .i64 m.b)) := by
  obtain ⟨h1, h2, h3, h4, h5, h6⟩ := h
  obtain ⟨g, e1, ho⟩ := h1.2 (by omega)
  injection e1 with e1
  obtain ⟨hg0, cur, hc⟩ := own_parts ho
  have hg : w.grownBy (((w.setCell ⟨gm.block, i * 3, none⟩ (.int .i64 m.p)).setCell ⟨gm.block, i * 3 + 1, none⟩ (.int .i64 m.u)).setCell ⟨gm.block, i * 3 + 2, none⟩ (.int .i64 m.b)) (some gm.block) := gbx_set (gbx_set (gbx_set (gbx_refl _ _) _ _) _ _) _ _
  have hne : ∀ {e : TypeId}, 48 ≠ e → ∀ r, some gm.block = some r → (∃ (c : Array Value) (e' : TypeId), w.heap[r]? = some (.cells c e' (0, 0)) ∧ e' ≠ e) ∨ r < n0 ∨ w.heap.size ≤ r := fun he r hr => by
    injection hr with hr; subst hr; subst e1; exact .inl ⟨cur, _, hc, he⟩
  have hne2 : ∀ {e : TypeId}, 48 ≠ e → ∀ r, some gm.block = some r → (∃ (c : Array Value) (e' : TypeId), w.heap[r]? = some (.cells c e' (0, 0)) ∧ e' ≠ e) ∨ r < N1 ∨ w.heap.size ≤ r := fun he r hr => by
    injection hr with hr; subst hr; subst e1; exact .inl ⟨cur, _, hc, he⟩
  refine ⟨?_, h2.kept hg (hne (by decide)), h3, h4.kept hg (.inr fun e => ?_), h5.kept hg (hne2 (by decide)), h6⟩
  · rw [cells3_set _ _ hi]
    exact ((h1.set _ _).set _ _).set _ _
  · subst e1
    exact own_ne h4 ⟨cur, hc⟩ (by decide) e.symm
theorem CopyRow.setWant {s : FShop} {n0 ml wl nl : Nat} {gm : Addr} {cm : Nat} {va : Option Addr} {vc : Nat} {gw : Addr} {cw : Nat} {vs : List Value} {N1 : Nat} {w : World} (h : CopyRow s n0 ml wl nl gm cm va vc gw cw vs N1 w) (i : Nat) (hi : i < nl) (v : Int) :
    CopyRow { s with wants := s.wants.set i v } n0 ml wl nl gm cm va vc gw cw vs N1 (w.setCell ⟨gw.block, i, none⟩ (.int .i64 v)) := by
  obtain ⟨h1, h2, h3, h4, h5, h6⟩ := h
  obtain ⟨g, e1, ho⟩ := h2.2 (by omega)
  injection e1 with e1
  obtain ⟨hg0, cur, hc⟩ := own_parts ho
  have hlt := h3 (by omega)
  have hg : w.grownBy (w.setCell ⟨gw.block, i, none⟩ (.int .i64 v)) (some gw.block) := gbx_set (gbx_refl _ _) _ _
  refine ⟨h1.kept hg (fun r hr => ?_), ?_, h3, h4.kept hg (.inr fun e => ?_), h5.kept hg (fun r hr => ?_), h6⟩
  · injection hr with hr; subst hr; subst e1; exact .inl ⟨cur, _, hc, by decide⟩
  · rw [List.map_set]
    exact h2.set _ _
  · subst e1
    exact own_ne h4 ⟨cur, hc⟩ (by decide) e.symm
  · injection hr with hr; subst hr; exact .inr (.inl hlt)

def CopyOf (s : FShop) (ml wl nl : Nat) (w : World) (e : Ending) (w' : World) : Prop :=
  ∃ (gm : Addr) (cm : Nat) (va : Option Addr) (vc : Nat) (gw : Addr) (cw : Nat) (vs : List Value) (N1 : Nat), e = .returned (.agg #[.slice (some gm) ml cm, .slice va wl vc, .slice (some gw) nl cw, .int .i64 s.fresh]) ∧ CopyRow s w.heap.size ml wl nl gm cm va vc gw cw vs N1 w' ∧ Below w.heap.size w w'
theorem Copy_of (s : FShop) (ma : Option Addr) (ml mc : Nat) (wa : Option Addr) (wl wc : Nat) (na : Option Addr) (nl nc : Nat) (w : World) (hp : FAt w ma ml mc wa wl wc na nl nc s) (hh : s.huge = false) :
    Calls Try.prog 32 #[.agg #[.slice ma ml mc, .slice wa wl wc, .slice na nl nc, .int .i64 s.fresh]] w fun e w' => CopyOf s ml wl nl w e w' := by
  obtain ⟨h1, h2, h3, h4⟩ := huge_bd hh
  have e1 := hp.1.1
  have e2 := hp.2.1.1
  have e3 := hp.2.2.1
  refine (Copy_any s ma ml mc wa wl wc na nl nc w hp (by omega) (by omega) (by omega) (fun x hx => by have := h4 x hx; omega)).mono ?_
  rintro e w' ⟨gm, cm, va, vc, gw, cw, vs, N1, he, hM, hW, hlt, hO, hL, hN, hB⟩
  exact ⟨gm, cm, va, vc, gw, cw, vs, N1, he, ⟨hM, hW, hlt, hO, hL, hN⟩, hB⟩

/-- A mould that was cast once more, or that failed then. -/
def Mould.cast (m : Mould) (b : Int) : Mould := if b = 1 then { m with b := 1 } else { m with u := m.u + 1 }
def FShop.cast (s : FShop) (i : Nat) (b : Int) : FShop := { s with moulds := s.moulds.set i ((s.moulds[i]?.getD ⟨0, 0, 0⟩).cast b) }
end Go.Proofs.Ytigeiaiohdemiaa
