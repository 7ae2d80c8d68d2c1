/- Package flongref03: Copy. -/
import Derived.Test.YtcklhojeneejiaaZQ
import Derived.Deep.RegionLaw
namespace Go.Proofs.Ytcklhojeneejiaa
set_option linter.unusedVariables false
set_option linter.unusedSimpArgs false
open Go.RowKit Go.Shelf

theorem Try.info80 : (Try.prog.info? 80).map (fun i => (i.zero, i.size, i.bytes)) = some (some (.agg #[.int .i64 0, .int .i64 0]), 2, 16) := by kernel_rfl
theorem Try.info27 : (Try.prog.info? 27).map (fun i => (i.zero, i.size, i.bytes)) = some (some (.slice none 0 0), 1, 24) := by kernel_rfl
def Strip.cells (m : Strip) : List Value := [.int .i64 m.t, .int .i64 m.m]
theorem cells2_len (L : List Strip) : (L.flatMap Strip.cells).length = L.length * 2 := by
  induction L with
  | nil => rfl
  | cons a L ih => rw [List.flatMap_cons, List.length_append, ih, List.length_cons]; simp [Strip.cells]; omega
theorem cells2_get : ∀ (L : List Strip) (i : Nat) (h : i < L.length) (t : Nat), t < 2 → (L.flatMap Strip.cells)[i * 2 + t]? = (L[i]).cells[t]?
  | [], i, h, _, _ => by simp at h
  | m :: L, i, h, t, ht => by
    rw [List.flatMap_cons]
    cases i with
    | zero => rw [List.getElem?_append_left (by simp [Strip.cells]; omega)]; simp
    | succ i =>
      rw [List.getElem?_append_right (by simp [Strip.cells]; omega)]
      have e : (i + 1) * 2 + t - (Strip.cells m).length = i * 2 + t := by simp [Strip.cells]; omega
      rw [e, cells2_get L i (by simpa using h) t ht]
      rfl
theorem strips_src {w : World} {a : Option Addr} {len : Nat} {ps : List Strip} (h : StripsAt w a len ps) : 0 < len → ∃ pb po, a = some ⟨pb, po, none⟩ ∧ pb < w.heap.size ∧ ∀ j u, (ps.flatMap Strip.cells)[j]? = some u → w.cell? ⟨pb, po + j, none⟩ = some u := by
  obtain ⟨h1, h2, h3⟩ := h
  intro hl
  obtain ⟨b, o, ha, hb, hc⟩ := h3 hl
  refine ⟨b, o, ha, hb, fun j u hj => ?_⟩
  have hlt : j < (ps.flatMap Strip.cells).length := (List.getElem?_eq_some_iff.1 hj).1
  rw [cells2_len] at hlt
  have hi : j / 2 < ps.length := by omega
  obtain ⟨c0, c1⟩ := hc (j / 2) hi
  have hj3 : j = j / 2 * 2 + j % 2 := by omega
  have hm := cells2_get ps (j / 2) hi (j % 2) (Nat.mod_lt _ (by omega))
  rw [← hj3, hj] at hm
  have : j % 2 = 0 ∨ j % 2 = 1 := by omega
  rcases this with e | e <;> rw [e] at hm <;> simp [Strip.cells] at hm <;> subst hm
  · rw [show o + j = o + j / 2 * 2 by omega]; exact c0
  · rw [show o + j = o + j / 2 * 2 + 1 by omega]; exact c1
theorem FRow.strips {w : World} {n0 : Nat} {ga : Option Addr} {k cap : Nat} {ps : List Strip} (h : FRow w n0 80 2 ga k cap (ps.flatMap Strip.cells)) (hm : k ≤ maxLen) : StripsAt w ga k ps := by
  have hl : ps.length = k := by have := h.1; rw [cells2_len] at this; omega
  refine ⟨hl, hm, fun h0 => ?_⟩
  obtain ⟨g, rfl, -, hg, hc, -⟩ := h.cell h0
  refine ⟨g, 0, rfl, hg, fun i hi => ?_⟩
  have e := fun t ht => hc (i * 2 + t) _ (by rw [cells2_get ps i hi t ht]; exact List.getElem?_eq_getElem (by simpa [Strip.cells] using ht))
  refine ⟨?_, ?_⟩
  · simpa [Strip.cells] using e 0 (by omega)
  · simpa [Strip.cells] using e 1 (by omega)
theorem ints_src {w : World} {a : Option Addr} {len : Nat} {xs : List Int} (h : IntsAt w a len xs) : 0 < len → ∃ pb po, a = some ⟨pb, po, none⟩ ∧ pb < w.heap.size ∧ ∀ j u, (xs.map (Value.int .i64))[j]? = some u → w.cell? ⟨pb, po + j, none⟩ = some u := by
  intro hl
  obtain ⟨b, o, ha, hb, hc⟩ := h.2.2 hl
  refine ⟨b, o, ha, hb, fun j u hj => ?_⟩
  have hj' : j < xs.length := by have := (List.getElem?_eq_some_iff.1 hj).1; simpa using this
  rw [hc j hj', ← hj]; simp [hj']
theorem FRow.ints {w : World} {n0 : Nat} {ga : Option Addr} {k cap : Nat} {xs : List Int} (h : FRow w n0 3 1 ga k cap (xs.map (Value.int .i64))) (hm : k ≤ maxLen) : IntsAt w ga k xs := by
  have hl : xs.length = k := by have := h.1; simpa using this
  refine ⟨hl, hm, fun h0 => ?_⟩
  obtain ⟨g, rfl, -, hg, hc, -⟩ := h.cell h0
  exact ⟨g, 0, rfl, hg, fun i hi => by rw [Nat.zero_add]; exact hc i _ (by simp [hi])⟩
theorem ints_src2 {w : World} {a : Option Addr} {len : Nat} {xs : List Int} (h : IntsAt w a len xs) (h0 : 0 < len) : ∃ pb po, a = some ⟨pb, po, none⟩ ∧ ∀ j u, (xs.map (Value.int .i64))[j]? = some u → w.cell? ⟨pb, po + j, none⟩ = some u := by
  obtain ⟨pb, po, e1, -, e2⟩ := ints_src h h0
  exact ⟨pb, po, e1, e2⟩
theorem own_slice2 {w : World} {n0 len sz : Nat} {e : TypeId} {v : Value} {xs : List Value} (h : w.ownsRow n0 e sz v len xs) : ∃ a c, v = .slice a len c := by
  rcases h.2 with ⟨rfl, h0⟩ | ⟨g, c, cur, rfl, _⟩
  · subst h0; exact ⟨_, _, rfl⟩
  · exact ⟨_, _, rfl⟩
theorem grown_none {w w' : World} (h : Below w.heap.size w w') : w.grownBy w' none := grow_gb h none
theorem own_base2 {w : World} {n0 n1 len sz : Nat} {e : TypeId} {v : Value} {xs : List Value} (h : w.ownsRow n0 e sz v len xs) (hn : n1 ≤ n0) : w.ownsRow n1 e sz v len xs := by
  refine ⟨h.1, ?_⟩
  rcases h.2 with h2 | ⟨g, cap, cur, h2, h3, h4⟩
  · exact .inl h2
  · exact .inr ⟨g, cap, cur, h2, by omega, h4⟩
/-- What is known of a new row's capacity: an empty one has no room. -/
def CapOk (len c : Nat) : Prop := (len ≤ c ∧ c ≤ maxLen) ∧ (len = 0 → c = 0)
theorem run_append_freshC {P : Program} (w : World) (t ty e : TypeId) (z : Value) (size bytes : Nat) (ht : P.underlying t = some (.slice e)) (hinfo : (P.info? e).map (fun i => (i.zero, i.size, i.bytes)) = some (some z, size, bytes)) (hz : z.cells.size = size) (hs0 : 0 < size)
    (hby : bytes ≤ 1000) (p : Addr) (xlen xcap : Nat) (xa : Option Addr) (cs : List Value) (hcs : cs.length = xlen * size)
    (hsrc : 0 < xlen → ∃ pb po, xa = some ⟨pb, po, none⟩ ∧ ∀ j u, cs[j]? = some u → w.cell? ⟨pb, po + j, none⟩ = some u) (hl : xlen ≤ 1000) :
    ∃ ga cap' w3, (Builtin.append_ #[t, t] ty #[.slice (some p) 0 0, .slice xa xlen xcap]).run P w = .ok (.slice (some ga) xlen cap') w3 ∧ FRow w3 w.heap.size e size (some ga) xlen cap' cs ∧ CapOk xlen cap' ∧ Below w.heap.size w w3 := by
  obtain ⟨i0, hi, hy0, hy1, hy2⟩ := info_parts hinfo
  rcases Nat.eq_zero_or_pos xlen with h0 | h0
  · subst h0
    have hxs : cs = [] := List.length_eq_zero_iff.1 (by simpa using hcs)
    subst hxs
    have hsrc : Src P i0.size t (.slice xa 0 xcap) 0 [] w := by
      cases xa with
      | none => exact Src.ofNil w ht xcap
      | some xa => exact Src.ofSlice w ht xa 0 xcap [] (by simp) (by simp) (by simp)
    obtain ⟨hk1 | hk1, hk2, hk3, hk4, -, -⟩ := hsrc
    · obtain ⟨e', hk⟩ := hk1
      refine ⟨p, 0, w, ?_, ⟨by simp, fun h => by omega⟩, ⟨⟨Nat.le_refl _, by unfold maxLen; omega⟩, fun _ => rfl⟩, Below.refl _ _⟩
      simp [Builtin.append_, run_underlying ht, sizeOf, typeInfo, hi, hk2, hk3, storeCells]
    · rw [ht] at hk1; cases hk1
  · obtain ⟨pb, po, rfl, hat⟩ := hsrc h0
    obtain ⟨v', w3, hr, hown, hgrow⟩ := run_append_arg_grows (P := P) w t ty e i0 z size bytes ht hi hy0 hy1 hy2 hz hs0 p 0 0 [] (by simp) (by simp) ⟨pb, po, none⟩ xlen xcap cs hcs (by
      intro j u hj
      rw [Addr.add_lit]
      exact hat j u hj) (by omega) (by unfold maxLen; omega) (by
        have : (0 + xlen) * bytes ≤ 1000 * 1000 := Nat.mul_le_mul (by omega) hby
        omega)
    rw [Nat.zero_add, List.nil_append] at hown
    have hown' := hown
    rcases hown.2 with ⟨_, h⟩ | ⟨g, cap, cur, rfl, hg, _, hcap1, hcap2, _⟩
    · omega
    · exact ⟨⟨g, 0, none⟩, cap, w3, hr, ⟨hcs, fun _ => ⟨g, rfl, hown'⟩⟩, ⟨⟨hcap1, hcap2⟩, fun e => by omega⟩, ⟨hgrow.os, hgrow.tape, hgrow.output, hgrow.size, fun k hk => hgrow.block k hk (by simp)⟩⟩
theorem step_append_freshC {P : Program} {ops : Array Oper} {o : Oper} {a : Act} {K : Act → World → Prop} {Q : Exit → Act → World → Prop} {E : Prop} (w : World) (t e : TypeId) (z : Value) (size bytes : Nat) (ht : P.underlying t = some (.slice e)) (hinfo : (P.info? e).map (fun i => (i.zero, i.size, i.bytes)) = some (some z, size, bytes)) (hz : z.cells.size = size) (hs0 : 0 < size)
    (hby : bytes ≤ 1000) (xlen xcap : Nat) (xa : Option Addr) (cs : List Value) (hcs : cs.length = xlen * size) (hl : xlen ≤ 1000) (hgd : o.guard = none) (s x : Operand)
    (ho : o.op = .call { callee := .builtin .append, args := #[s, x], argTypes := #[t, t] }) (hs : ∃ p, a.eval s = .slice (some p) 0 0) (hxv : a.eval x = .slice xa xlen xcap)
    (hsrc : 0 < xlen → ∃ pb po, xa = some ⟨pb, po, none⟩ ∧ ∀ j u, cs[j]? = some u → w.cell? ⟨pb, po + j, none⟩ = some u)
    (h : ∀ ga cap' w3, FRow w3 w.heap.size e size (some ga) xlen cap' cs → CapOk xlen cap' → Below w.heap.size w w3 → K (a.put o.dst (.slice (some ga) xlen cap')) w3) : if Region.wanted o (yielded ops a.tmps) = true then Oper.wp P o a w K Q else E := by
  obtain ⟨p, hs⟩ := hs
  obtain ⟨g, c, w3, hr, hi, hcap, hb⟩ := run_append_freshC w t o.type e z size bytes ht hinfo hz hs0 hby p xlen xcap xa cs hcs hsrc hl
  exact step_append_run w w3 _ _ _ t hgd s x ho hs hxv hr (h g c w3 hi hcap hb)
/-- Lists of numbers in new rows. -/
def LRow (w : World) (n0 : Nat) (vs : List Value) (xs : List (List Int)) : Prop :=
  vs.length = xs.length ∧ ∀ i (h : i < xs.length), ∃ ga c, vs[i]? = some (.slice (some ga) xs[i].length c) ∧ CapOk xs[i].length c ∧ FRow w n0 3 1 (some ga) xs[i].length c (xs[i].map (Value.int .i64))
theorem LRow.kept {w w' : World} {n0 : Nat} {vs : List Value} {xs : List (List Int)} {row : Option Nat} (h : LRow w n0 vs xs) (hg : w.grownBy w' row)
    (hne : ∀ r, row = some r → (∃ (c : Array Value) (e' : TypeId), w.heap[r]? = some (.cells c e' (0, 0)) ∧ e' ≠ 3) ∨ r < n0 ∨ w.heap.size ≤ r) : LRow w' n0 vs xs :=
  ⟨h.1, fun i hi => by obtain ⟨ga, c, h1, h3, h2⟩ := h.2 i hi; exact ⟨ga, c, h1, h3, h2.kept hg hne⟩⟩
theorem LRow.snoc {w : World} {n0 : Nat} {vs : List Value} {xs : List (List Int)} (h : LRow w n0 vs xs) (ga : Addr) (x : List Int) (c : Nat) (hcap : CapOk x.length c) (hx : FRow w n0 3 1 (some ga) x.length c (x.map (Value.int .i64))) : LRow w n0 (vs ++ [.slice (some ga) x.length c]) (xs ++ [x]) := by
  refine ⟨by simp [h.1], fun i hi => ?_⟩
  rcases Nat.lt_or_ge i xs.length with hl | hl
  · obtain ⟨ga', c', h1, h3, h2⟩ := h.2 i hl
    exact ⟨ga', c', by rw [List.getElem?_append_left (by rw [h.1]; exact hl), List.getElem_append_left hl]; exact h1, by rw [List.getElem_append_left hl]; exact h3, by rw [List.getElem_append_left hl]; exact h2⟩
  · have e : i = xs.length := by simp at hi; omega
    subst e
    exact ⟨ga, c, by rw [List.getElem?_append_right (by rw [h.1]; exact Nat.le_refl _), h.1]; simp, by simpa using hcap, by simpa using hx⟩
theorem LRow.lists {w : World} {n0 n1 : Nat} {vs : List Value} {xs : List (List Int)} {va : Option Addr} {k c : Nat} (h : LRow w n0 vs xs) (ho : w.ownsRow n1 27 1 (.slice va k c) k vs) (hk : k ≤ maxLen) (h40 : ∀ x ∈ xs, x.length ≤ maxLen) : ListsAt w va k xs := by
  have hl : xs.length = k := by have := ho.1; rw [← h.1]; simpa using this
  refine ⟨hl, hk, fun h0 => ?_⟩
  rcases ho.2 with ⟨_, e⟩ | ⟨g, cap, cur, e, hg, hb, hn, hc, hcs, ht⟩
  · omega
  · injection e with e1 _ _
    subst e1
    refine ⟨g, 0, rfl, (Array.getElem?_eq_some_iff.1 hb).1, fun i hi => ?_⟩
    obtain ⟨ga, c', h1, h3, h2⟩ := h.2 i hi
    refine ⟨some ga, xs[i].length, c', ?_, h3.1, h2.ints (h40 _ (List.getElem_mem hi))⟩
    have := ho.cells (g := g) rfl i _ h1
    rw [Addr.add_lit] at this
    rwa [Nat.zero_add] at this ⊢

/-- A block of cells of a type. -/
def IsC (w : World) (b : Nat) (T : TypeId) : Prop := ∃ c : Array Value, w.heap[b]? = some (.cells c T (0, 0))
theorem IsC.lt {w : World} {b : Nat} {T : TypeId} (h : IsC w b T) : b < w.heap.size := (Array.getElem?_eq_some_iff.1 h.choose_spec).1
theorem IsC.new (w : World) (c : Array Value) (T : TypeId) : IsC (w.alloc (.cells c T)) w.heap.size T := ⟨c, World.alloc_heap_new _ _⟩
theorem IsC.new' {w : World} {c : Array Value} {T : TypeId} {b : Nat} (hb : b = w.heap.size) : IsC (w.alloc (.cells c T)) b T := by subst hb; exact IsC.new _ _ _
theorem IsC.below {w w' : World} {b : Nat} {T : TypeId} (hb : Below w.heap.size w w') (h : IsC w b T) : IsC w' b T := ⟨h.choose, (hb.block _ h.lt).trans h.choose_spec⟩
theorem IsC.alloc {w : World} {b : Nat} {T : TypeId} (o : Obj) (h : IsC w b T) : IsC (w.alloc o) b T := h.below (by repeat (first | exact Below.refl _ _ | (refine Below.alloc ?_ (by first | omega | (simp; omega) | simp) _) | (refine Below.setCell ?_ (by first | omega | (simp; omega) | simp) _) | refine Below.drew ?_))
theorem IsC.drew {w : World} {b : Nat} {T : TypeId} (h : IsC w b T) : IsC w.drew b T := h
theorem IsC.set {w : World} {b i : Nat} {T : TypeId} (v : Value) (h : IsC w b T) : IsC (w.setCell ⟨b, i, none⟩ v) b T := by
  obtain ⟨c, hc⟩ := h
  obtain ⟨hlt, hk⟩ := Array.getElem?_eq_some_iff.1 hc
  refine ⟨c.setIfInBounds i v, ?_⟩
  show (w.heap.modify b _)[b]? = _
  rw [Array.getElem?_eq_getElem (by rw [Array.size_modify]; exact hlt), Array.getElem_modify_self, hk]
  rfl
theorem IsC.other {w w' : World} {b : Nat} {T : TypeId} {row : Option Nat} (hg : w.grownBy w' row) (hne : some b ≠ row) (h : IsC w b T) : IsC w' b T := ⟨h.choose, (hg.block _ h.lt hne).trans h.choose_spec⟩
theorem FRow.blt {w : World} {n0 : Nat} {e : TypeId} {size : Nat} {ga : Addr} {k cap : Nat} {cs : List Value} (h : FRow w n0 e size (some ga) k cap cs) (h0 : 0 < k) : ga.block < w.heap.size := by
  obtain ⟨g, e1, -, hg, -⟩ := h.cell h0
  injection e1 with e1
  subst e1
  exact hg
theorem LRow.nil (w : World) (n0 : Nat) : LRow w n0 [] [] := ⟨rfl, fun i hi => by simp at hi⟩
theorem name2e (w : World) (cs : Array Value) (T : TypeId) (ds : Array Value) (U : TypeId) :
    ∃ W0, (w.alloc (.cells cs T)).alloc (.cells ds U) = W0 ∧ Below w.heap.size w W0 ∧ (∀ i, W0.cell? ⟨w.heap.size, i, none⟩ = cs[i]?) ∧ (∀ i, W0.cell? ⟨w.heap.size + 1, i, none⟩ = ds[i]?) ∧
      (∀ i, W0.frozen? ⟨w.heap.size, i, none⟩ = false) ∧ (∀ i, W0.frozen? ⟨w.heap.size + 1, i, none⟩ = false) ∧ W0.heap.size = w.heap.size + 1 + 1 :=
  ⟨_, rfl, (by repeat (first | exact Below.refl _ _ | (refine Below.alloc ?_ (by first | omega | (simp; omega) | simp) _) | (refine Below.setCell ?_ (by first | omega | (simp; omega) | simp) _) | refine Below.drew ?_)), fun i => by go_simp, fun i => by go_simp, fun i => by go_simp, fun i => by go_simp, by simp⟩
theorem bothS_below {W0 W wA : World} (h : Below W0.heap.size W0 W ∧ ∀ b o, b < W0.heap.size → W.cell? ⟨b, o, none⟩ = W0.cell? ⟨b, o, none⟩) (hb : Below W.heap.size W wA) : Below W0.heap.size W0 wA ∧ ∀ b o, b < W0.heap.size → wA.cell? ⟨b, o, none⟩ = W0.cell? ⟨b, o, none⟩ :=
  ⟨h.1.trans (hb.mono h.1.size), fun b o hbo => (h.1.trans (hb.mono h.1.size)).cell (p := ⟨b, o, none⟩) hbo⟩
def CopyPost (f : PFrame) (sl pl cl : Nat) (w : World) (e : Ending) (w' : World) : Prop :=
  ∃ (gs : Addr) (gsc : Nat) (gp : Addr) (gpc : Nat) (va : Option Addr) (vc : Nat) (vs : List Value) (N1 : Nat), e = .returned (.agg #[.int .i64 f.len, .int .i64 f.slack, .slice (some gs) sl gsc, .slice (some gp) pl gpc, .slice va cl vc]) ∧
    FRow w' w.heap.size 80 2 (some gs) sl gsc (f.strips.flatMap Strip.cells) ∧ FRow w' w.heap.size 43 3 (some gp) pl gpc (f.pieces.flatMap Piece.cells) ∧
    w'.ownsRow w.heap.size 27 1 (.slice va cl vc) cl vs ∧ LRow w' N1 vs f.cols ∧ (w.heap.size ≤ N1 ∧ CapOk pl gpc) ∧ Below w.heap.size w w'
/-- What the box of a copy holds, some lists having come. -/
def CopyBox (f : PFrame) (sl pl : Nat) (n0 gb k : Nat) (gs : Addr) (gsc : Nat) (gp : Addr) (gpc : Nat) (v : Value) (vs : List Value) (N1 : Nat) (w : World) : Prop :=
  (w.cell? ⟨gb, 0, none⟩ = some (.int .i64 f.len) ∧ w.cell? ⟨gb, 1, none⟩ = some (.int .i64 f.slack) ∧ w.cell? ⟨gb, 2, none⟩ = some (.slice (some gs) sl gsc) ∧ w.cell? ⟨gb, 3, none⟩ = some (.slice (some gp) pl gpc) ∧ w.cell? ⟨gb, 4, none⟩ = some v) ∧ (∀ i, w.frozen? ⟨gb, i, none⟩ = false) ∧
    IsC w gb 26 ∧
    FRow w n0 80 2 (some gs) sl gsc (f.strips.flatMap Strip.cells) ∧ FRow w n0 43 3 (some gp) pl gpc (f.pieces.flatMap Piece.cells) ∧ w.ownsRow n0 27 1 v k vs ∧ LRow w N1 vs (f.cols.take k)
theorem set5 {w : World} {b : Nat} {u0 u1 u2 u3 u4 : Value} (v0 v1 v2 v3 v4 : Value) (h0 : w.cell? ⟨b, 0, none⟩ = some u0) (h1 : w.cell? ⟨b, 1, none⟩ = some u1) (h2 : w.cell? ⟨b, 2, none⟩ = some u2) (h3 : w.cell? ⟨b, 3, none⟩ = some u3) (h4 : w.cell? ⟨b, 4, none⟩ = some u4) :
    (((((w.setCell ⟨b, 0, none⟩ v0).setCell ⟨b, 1, none⟩ v1).setCell ⟨b, 2, none⟩ v2).setCell ⟨b, 3, none⟩ v3).setCell ⟨b, 4, none⟩ v4).cell? ⟨b, 0, none⟩ = some v0 ∧ (((((w.setCell ⟨b, 0, none⟩ v0).setCell ⟨b, 1, none⟩ v1).setCell ⟨b, 2, none⟩ v2).setCell ⟨b, 3, none⟩ v3).setCell ⟨b, 4, none⟩ v4).cell? ⟨b, 1, none⟩ = some v1 ∧ (((((w.setCell ⟨b, 0, none⟩ v0).setCell ⟨b, 1, none⟩ v1).setCell ⟨b, 2, none⟩ v2).setCell ⟨b, 3, none⟩ v3).setCell ⟨b, 4, none⟩ v4).cell? ⟨b, 2, none⟩ = some v2 ∧ (((((w.setCell ⟨b, 0, none⟩ v0).setCell ⟨b, 1, none⟩ v1).setCell ⟨b, 2, none⟩ v2).setCell ⟨b, 3, none⟩ v3).setCell ⟨b, 4, none⟩ v4).cell? ⟨b, 3, none⟩ = some v3 ∧ (((((w.setCell ⟨b, 0, none⟩ v0).setCell ⟨b, 1, none⟩ v1).setCell ⟨b, 2, none⟩ v2).setCell ⟨b, 3, none⟩ v3).setCell ⟨b, 4, none⟩ v4).cell? ⟨b, 4, none⟩ = some v4 := by
  refine ⟨?_, ?_, ?_, ?_, ?_⟩
  · exact (set_cell' (by decide)).trans ((set_cell' (by decide)).trans ((set_cell' (by decide)).trans ((set_cell' (by decide)).trans (set_cell (h0)))))
  · exact (set_cell' (by decide)).trans ((set_cell' (by decide)).trans ((set_cell' (by decide)).trans (set_cell ((set_cell' (by decide)).trans (h1)))))
  · exact (set_cell' (by decide)).trans ((set_cell' (by decide)).trans (set_cell ((set_cell' (by decide)).trans ((set_cell' (by decide)).trans (h2)))))
  · exact (set_cell' (by decide)).trans (set_cell ((set_cell' (by decide)).trans ((set_cell' (by decide)).trans ((set_cell' (by decide)).trans (h3)))))
  · exact set_cell ((set_cell' (by decide)).trans ((set_cell' (by decide)).trans ((set_cell' (by decide)).trans ((set_cell' (by decide)).trans (h4)))))
theorem copybox_first {f : PFrame} {sl pl n0 nA nB gb gsc gpc : Nat} {gs gp : Addr} {wA wB Wf : World}
    (hcells : Wf.cell? ⟨gb, 0, none⟩ = some (.int .i64 f.len) ∧ Wf.cell? ⟨gb, 1, none⟩ = some (.int .i64 f.slack) ∧ Wf.cell? ⟨gb, 2, none⟩ = some (.slice (some gs) sl gsc) ∧ Wf.cell? ⟨gb, 3, none⟩ = some (.slice (some gp) pl gpc) ∧ Wf.cell? ⟨gb, 4, none⟩ = some (.slice none 0 0)) (hfr : ∀ i, Wf.frozen? ⟨gb, i, none⟩ = false) (hi : IsC Wf gb 26)
    (hA : FRow wA nA 80 2 (some gs) sl gsc (f.strips.flatMap Strip.cells)) (hgA : wA.grownBy Wf (some gb)) (hAo : gb < nA ∨ wA.heap.size ≤ gb) (hAn : n0 ≤ nA)
    (hB : FRow wB nB 43 3 (some gp) pl gpc (f.pieces.flatMap Piece.cells)) (hgB : wB.grownBy Wf (some gb)) (hBo : gb < nB ∨ wB.heap.size ≤ gb) (hBn : n0 ≤ nB) :
    CopyBox f sl pl n0 gb 0 gs gsc gp gpc (.slice none 0 0) [] Wf.heap.size Wf :=
  ⟨hcells, hfr, hi, (hA.kept hgA fun r e => by injection e with e; subst e; exact .inr hAo).low hAn, (hB.kept hgB fun r e => by injection e with e; subst e; exact .inr hBo).low hBn, World.ownsRow_nil _ _ _ _, LRow.nil _ _⟩

theorem ne_of_type {w : World} {n0 n k cap g b : Nat} {e T : TypeId} {cs : List Value} (h : w.ownsRow n0 e n (.slice (some ⟨g, 0, none⟩) k cap) k cs) (hb : IsC w b T) (hT : T ≠ e) : g ≠ b := by
  obtain ⟨_, cur, hc⟩ := own_parts h
  obtain ⟨c, hc'⟩ := hb
  intro e1
  subst e1
  rw [hc] at hc'
  injection hc' with hc'
  injection hc' with _ h2
  exact hT h2.symm
theorem own_ne {w : World} {n0 n k b : Nat} {e T : TypeId} {v : Value} {cs : List Value} (h : w.ownsRow n0 e n v k cs) (hb : IsC w b T) (hT : T ≠ e) : some b ≠ v.ownBlock := by
  rcases h.2 with ⟨rfl, _⟩ | ⟨g, cap, cur, rfl, h1, h2, _⟩
  · simp [Value.ownBlock]
  · intro e1
    simp [Value.ownBlock] at e1
    obtain ⟨c, hc'⟩ := hb
    rw [e1, h2] at hc'
    injection hc' with hc'
    injection hc' with _ h3
    exact hT h3.symm
theorem own_isC {w : World} {n0 n k : Nat} {e : TypeId} {v : Value} {cs : List Value} (h : w.ownsRow n0 e n v k cs) : ∀ r, v.ownBlock = some r → ∃ (c : Array Value), w.heap[r]? = some (.cells c e (0, 0)) := by
  intro r hr
  rcases h.2 with ⟨rfl, _⟩ | ⟨g, cap, cur, rfl, h1, h2, _⟩
  · simp [Value.ownBlock] at hr
  · simp [Value.ownBlock] at hr; subst hr; exact ⟨cur, h2⟩
theorem copybox_next {f : PFrame} {sl pl n0 nA gb k gsc gpc N1 rl c : Nat} {gs gp ga : Addr} {v v' : Value} {vs : List Value} {x : List Int} {wr wA wP wB : World} (hb : CopyBox f sl pl n0 gb k gs gsc gp gpc v vs N1 wr) (hk : k < f.cols.length) (hx : f.cols[k] = x) (hrl : x.length = rl) (hN : N1 ≤ wr.heap.size)
    (hA : FRow wA nA 3 1 (some ga) rl c (x.map (Value.int .i64))) (hcap : CapOk rl c) (hnA : wr.heap.size ≤ nA) (hP : Below wr.heap.size wr wP) (hAP : Below wA.heap.size wA wP) (hg : wP.grownBy wB v.ownBlock) (ho : wB.ownsRow n0 27 1 v' (k + 1) (vs ++ [.slice (some ga) rl c])) :
    CopyBox f sl pl n0 gb (k + 1) gs gsc gp gpc v' (vs ++ [.slice (some ga) rl c]) N1 (wB.setCell ⟨gb, 4, none⟩ v') := by
  obtain ⟨⟨c0, c1, c2, c3, c4⟩, hf, hi, hM, hW, hO, hL⟩ := hb
  have hgb := hi.lt
  have hne := own_ne hO hi (by decide)
  have e : wB.heap[gb]? = wr.heap[gb]? := (hg.block gb (Nat.lt_of_lt_of_le hgb hP.size) hne).trans (hP.block gb hgb)
  have hc : ∀ i, wB.cell? ⟨gb, i, none⟩ = wr.cell? ⟨gb, i, none⟩ := fun i => World.cell?_of_block (w := wr) (a := ⟨gb, i, none⟩) e
  have o : ∀ {j : Nat}, 4 ≠ j → (wB.setCell ⟨gb, 4, none⟩ v').cell? ⟨gb, j, none⟩ = wB.cell? ⟨gb, j, none⟩ := fun h => set_cell' h
  have hiB : IsC wB gb 26 := ⟨hi.choose, e.trans hi.choose_spec⟩
  have hOP := hO.kept (grown_none hP) (Classical.em _)
  have hR : ∀ r, v.ownBlock = some r → ∃ (c : Array Value) (e' : TypeId), wP.heap[r]? = some (.cells c e' (0, 0)) ∧ e' = 27 := fun r hr => by
    obtain ⟨c, hc⟩ := own_isC hOP r hr
    exact ⟨c, _, hc, rfl⟩
  have hset : wB.grownBy (wB.setCell ⟨gb, 4, none⟩ v') (some gb) := gbx_set (gbx_refl _ _) _ _
  have hsT : ∀ {e : TypeId}, e ≠ 26 → ∀ r, (some gb : Option Nat) = some r → (∃ (c : Array Value) (e' : TypeId), wB.heap[r]? = some (.cells c e' (0, 0)) ∧ e' ≠ e) := fun he r er => by
    injection er with er; subst er
    exact ⟨hiB.choose, _, hiB.choose_spec, fun h => he h.symm⟩
  have hrT : ∀ {e : TypeId}, e ≠ 27 → ∀ r, v.ownBlock = some r → (∃ (c : Array Value) (e' : TypeId), wP.heap[r]? = some (.cells c e' (0, 0)) ∧ e' ≠ e) := fun he r hr => by
    obtain ⟨c, e', h1, h2⟩ := hR r hr
    exact ⟨c, e', h1, by rw [h2]; exact fun h => he h.symm⟩
  refine ⟨⟨?_, ?_, ?_, ?_, ?_⟩, fun i => ?_, hiB.set _, ?_, ?_, ?_, ?_⟩
  · rw [o (by decide), hc]; exact c0
  · rw [o (by decide), hc]; exact c1
  · rw [o (by decide), hc]; exact c2
  · rw [o (by decide), hc]; exact c3
  · exact set_cell (by rw [hc]; exact c4)
  · rw [World.frozen?_setCell, World.frozen?_of_block (w := wr) (a := ⟨gb, i, none⟩) e]; exact hf i
  · exact ((hM.kept (grown_none hP) (fun r e => by cases e)).kept hg (fun r hr => .inl (hrT (by decide) r hr))).kept hset (fun r hr => .inl (hsT (by decide) r hr))
  · exact ((hW.kept (grown_none hP) (fun r e => by cases e)).kept hg (fun r hr => .inl (hrT (by decide) r hr))).kept hset (fun r hr => .inl (hsT (by decide) r hr))
  · exact ho.kept hset (.inr (fun e => own_ne ho hiB (by decide) e.symm))
  · rw [List.take_succ_eq_append_getElem hk, hx]
    have h1 := ((hL.kept (grown_none hP) (fun r e => by cases e)).kept hg (fun r hr => .inl (hrT (by decide) r hr))).kept hset (fun r hr => .inl (hsT (by decide) r hr))
    have h2 := (((hA.kept (grown_none hAP) (fun r e => by cases e)).kept hg (fun r hr => .inl (hrT (by decide) r hr))).kept hset (fun r hr => .inl (hsT (by decide) r hr))).low (n1 := N1) (by omega)
    subst hrl
    exact h1.snoc ga x c hcap h2
theorem own_span {w : World} {n0 k n : Nat} {e : TypeId} {v : Value} {xs : List Value} (h : w.ownsRow n0 e k v n xs) : ∀ r, v.ownBlock = some r → n0 ≤ r ∧ r < w.heap.size := by
  intro r hr
  rcases h.2 with ⟨rfl, _⟩ | ⟨g, cap, cur, rfl, hg, hh, _⟩
  · simp [Value.ownBlock] at hr
  · simp [Value.ownBlock] at hr
    subst hr
    exact ⟨hg, (Array.getElem?_eq_some_iff.1 hh).1⟩
theorem copy_below {W0 wr wP wB : World} {gb : Nat} {v u : Value} (hB : Below W0.heap.size W0 wr) (hP : Below wr.heap.size wr wP) (hg : wP.grownBy wB v.ownBlock) (hR : ∀ r, v.ownBlock = some r → W0.heap.size ≤ r) (hgb : W0.heap.size ≤ gb) : Below W0.heap.size W0 (wB.setCell ⟨gb, 4, none⟩ u) :=
  ((hB.trans (hP.mono hB.size)).grown hg (Nat.le_trans hB.size hP.size) hR).setCell hgb _
theorem boxT_below {W0 W wA : World} {gb : Nat} {R : Option Nat} (h : W0.heap.size ≤ W.heap.size ∧ ∀ b o, b < W0.heap.size → ¬ b = gb → ¬ some b = R → W.cell? ⟨b, o, none⟩ = W0.cell? ⟨b, o, none⟩) (hb : Below W.heap.size W wA) :
    W0.heap.size ≤ wA.heap.size ∧ ∀ b o, b < W0.heap.size → ¬ b = gb → ¬ some b = R → wA.cell? ⟨b, o, none⟩ = W0.cell? ⟨b, o, none⟩ :=
  ⟨Nat.le_trans h.1 hb.size, fun b o hbo h1 h2 => (hb.cell (p := ⟨b, o, none⟩) (Nat.lt_of_lt_of_le hbo h.1)).trans (h.2 b o hbo h1 h2)⟩
theorem boxT_grown {W0 W wA : World} {gb : Nat} {R row : Option Nat} (h : W0.heap.size ≤ W.heap.size ∧ ∀ b o, b < W0.heap.size → ¬ b = gb → ¬ some b = R → W.cell? ⟨b, o, none⟩ = W0.cell? ⟨b, o, none⟩) (hg : W.grownBy wA row) (hr : row = R ∨ row = some gb) :
    W0.heap.size ≤ wA.heap.size ∧ ∀ b o, b < W0.heap.size → ¬ b = gb → ¬ some b = R → wA.cell? ⟨b, o, none⟩ = W0.cell? ⟨b, o, none⟩ :=
  ⟨Nat.le_trans h.1 hg.size, fun b o hbo h1 h2 => (World.cell?_of_block (w := W) (a := ⟨b, o, none⟩) (hg.block b (Nat.lt_of_lt_of_le hbo h.1) (by rcases hr with rfl | rfl; exact h2; intro e; injection e with e; exact h1 e))).trans (h.2 b o hbo h1 h2)⟩

set_option maxRecDepth 100000 in
set_option maxHeartbeats 8000000 in
theorem Copy_any (f : PFrame) (sa : Option Addr) (sl sc : Nat) (pa : Option Addr) (pl pc : Nat) (ca : Option Addr) (cl cc : Nat) (w : World) (hp : PAt w sa sl sc pa pl pc ca cl cc f) (hm1 : sl ≤ 1000) (hw1 : cl ≤ 1000) (hn1 : pl ≤ 1000) (hx1 : ∀ x ∈ f.cols, x.length ≤ 1000) :
    Calls Try.prog 19 #[.agg #[.int .i64 f.len, .int .i64 f.slack, .slice sa sl sc, .slice pa pl pc, .slice ca cl cc]] w fun e w' => CopyPost f sl pl cl w e w' := by
  have HMS := Lib.hid (fun W (hb : Below w.heap.size w W) => strips_src (hp.1.below hb))
  have HNS := Lib.hid (fun W (hb : Below w.heap.size w W) => pieces_src (hp.2.1.below hb))
  have HML := Lib.hid hp.1.1
  have HNL := Lib.hid hp.2.1.1
  have HWL := Lib.hid hp.2.2.1
  have HWC := Lib.hid hp.2.2.2.2
  have HX1 := Lib.hid hx1
  have hmc : (f.strips.flatMap Strip.cells).length = sl * 2 := by rw [cells2_len, HML.out]
  have hnc : (f.pieces.flatMap Piece.cells).length = pl * 3 := by rw [cells3_len, HNL.out]
  generalize hmcs : f.strips.flatMap Strip.cells = mcs at *
  generalize hncs : f.pieces.flatMap Piece.cells = ncs at *
  clear hp hx1
  go_enter Try.func19, Try.ntmps19
  go_wp2_with fail
  obtain ⟨W0, hW0, hB0, hr0, hg0, hrf, hgf, hz0⟩ := name2e w #[.int .i64 f.len, .int .i64 f.slack, .slice sa sl sc, .slice pa pl pc, .slice ca cl cc] 26 #[.int .i64 0, .int .i64 0, .slice none 0 0, .slice none 0 0, .slice none 0 0] 26
  rw [hW0]
  clear hW0
  obtain ⟨x0, x1, x2, x3, x4⟩ : W0.cell? ⟨w.heap.size, 0, none⟩ = some (.int .i64 f.len) ∧ W0.cell? ⟨w.heap.size, 1, none⟩ = some (.int .i64 f.slack) ∧ W0.cell? ⟨w.heap.size, 2, none⟩ = some (.slice sa sl sc) ∧ W0.cell? ⟨w.heap.size, 3, none⟩ = some (.slice pa pl pc) ∧ W0.cell? ⟨w.heap.size, 4, none⟩ = some (.slice ca cl cc) := ⟨hr0 0, hr0 1, hr0 2, hr0 3, hr0 4⟩
  have z0 : w.heap.size < W0.heap.size := by omega
  have HB0 := Lib.hid hB0
  have HMX := Lib.hid (fun W (h : Below W0.heap.size W0 W) => HMS.out W (hB0.trans (h.mono hB0.size)))
  have HNX := Lib.hid (fun W (h : Below W0.heap.size W0 W) => HNS.out W (hB0.trans (h.mono hB0.size)))
  have z1 : w.heap.size + 1 < W0.heap.size := by omega
  have HR0 := Lib.hid hr0
  have HG0 := Lib.hid hg0
  have HGF := Lib.hid hgf
  clear hB0 hr0 hg0 hrf hgf hz0
  go_upto_region 1 with fail
  go_cut [3] (fun v3 wx => ∃ gb gm cm gw cw, v3 = .pointer (some ⟨gb, 0, none⟩) ∧ CopyBox f sl pl W0.heap.size gb 0 gm cm gw cw (.slice none 0 0) [] wx.heap.size wx ∧ W0.heap.size ≤ gb ∧ Below W0.heap.size W0 wx ∧ CapOk pl cw)
  case first =>
    go_region_held3 (fun w' => Below W0.heap.size W0 w' ∧ ∀ b o, b < W0.heap.size → w'.cell? ⟨b, o, none⟩ = W0.cell? ⟨b, o, none⟩) (first | with_reducible assumption | ((repeat (first | with_reducible refine bothS_drew ?_ | with_reducible refine bothS_alloc _ ?_ | with_reducible refine bothS_set _ _ (by first | omega | (simp; omega) | simp) ?_)); first | with_reducible assumption | with_reducible exact Hid.out (by assumption) | with_reducible exact ⟨Below.refl _ _, fun _ _ _ => rfl⟩)) (first
      | ((with_reducible refine step_append_fresh _ 22 80 _ 2 16 Try.underlying22 Try.info80 rfl (by decide) (by decide) sl sc sa mcs hmc hm1 rfl _ _ rfl ?_ ?_ ?_ ?_); (· exact ⟨_, rfl⟩); (· rfl); (· intro h0; obtain ⟨pb, po, e1, -, e2⟩ := HMX.out _ (And.left (by assumption)) h0; exact ⟨pb, po, e1, e2⟩); intro gm cm wA hfA hbA; have kA := bothS_below (by assumption) hbA; have HFA := Lib.hid hfA; have HBA := Lib.hid hbA; have hzA := hbA.size; obtain ⟨hcA, hfrA⟩ := bcell hbA; (try have hcA2 := fun o => hcA (W0.heap.size + 1 + 1) o (by first | omega | (simp; done) | (simp; omega))); (try have hfrA2 := fun o => hfrA (W0.heap.size + 1 + 1) o (by first | omega | (simp; done) | (simp; omega))); (try simp at hzA); (try have yA := Nat.lt_of_succ_le hzA); (try have yA1 := Nat.lt_of_succ_lt yA); (try have yA2 := Nat.lt_of_succ_lt yA1); clear hfA hbA)
      | ((with_reducible refine step_append_freshC _ 23 43 _ 3 24 Try.underlying23 Try.info43 rfl (by decide) (by decide) pl pc pa ncs hnc hn1 rfl _ _ rfl ?_ ?_ ?_ ?_); (· exact ⟨_, rfl⟩); (· rfl); (· intro h0; obtain ⟨pb, po, e1, -, e2⟩ := HNX.out _ (And.left (by assumption)) h0; exact ⟨pb, po, e1, e2⟩); intro gw cw wB hfB hcapB hbB; have HCP := Lib.hid hcapB; clear hcapB; have kB := bothS_below (by assumption) hbB; have HFB := Lib.hid hfB; have HBB := Lib.hid hbB; have hzB := hbB.size; obtain ⟨hcB, hfrB⟩ := bcell hbB; (try have hcB2 := fun o => hcB (W0.heap.size + 1 + 1) o (by first | omega | (simp; done) | (simp; omega))); (try have hfrB2 := fun o => hfrB (W0.heap.size + 1 + 1) o (by first | omega | (simp; done) | (simp; omega))); (try simp at hzB); (try have yB := Nat.lt_of_succ_le hzB); (try have yB1 := Nat.lt_of_succ_lt yB); (try have yB2 := Nat.lt_of_succ_lt yB1); clear hfB hbB)
      | fail "no arm")
    all_goals go_wp2_with fail
    all_goals go_meet
    all_goals
      refine ⟨_, gm, cm, gw, cw, rfl, ?_, ?_, And.left (by assumption), HCP.out⟩
      · rw [← hmcs] at HFA
        rw [← hncs] at HFB
        refine copybox_first ?_ ?_ ?_ HFA.out ?_ ?_ ?_ HFB.out ?_ ?_ ?_
        · first | (with_reducible refine set5 (u0 := .int .i64 0) (u1 := .int .i64 0) (u2 := .slice none 0 0) (u3 := .slice none 0 0) (u4 := .slice none 0 0) _ _ _ _ _ ?_ ?_ ?_ ?_ ?_ <;> (go_simp; done)) | (refine ⟨?_, ?_, ?_, ?_, ?_⟩ <;> (go_simp; done))
        · intro i; go_simp
        · repeat (first | with_reducible refine IsC.set _ ?_ | (with_reducible refine IsC.new' ?_; (first | rfl | (simp; done))) | with_reducible refine IsC.alloc _ ?_ | with_reducible refine IsC.drew ?_ | with_reducible refine IsC.below HBB.out ?_ | with_reducible refine IsC.below HBA.out ?_)
        · repeat (first | with_reducible exact gbx_refl _ _ | with_reducible refine gbx_set ?_ _ _ | with_reducible refine gbx_alloc ?_ _ | with_reducible refine gbx_drew ?_ | with_reducible refine gbx_below HBB.out ?_)
        · first | exact .inr (by first | omega | (simp; done) | (simp; omega)) | exact .inl (by first | omega | (simp; done) | (simp; omega))
        · first | omega | (simp; done) | (simp; omega)
        · repeat (first | with_reducible exact gbx_refl _ _ | with_reducible refine gbx_set ?_ _ _ | with_reducible refine gbx_alloc ?_ _ | with_reducible refine gbx_drew ?_)
        · first | exact .inr (by first | omega | (simp; done) | (simp; omega)) | exact .inl (by first | omega | (simp; done) | (simp; omega))
        · first | omega | (simp; done) | (simp; omega)
      · first | omega | (simp; done) | (simp; omega)
  case rest =>
  obtain ⟨gb, gm, cm, gw, cw, rfl, hbox, hgb, hB1, hcapW⟩ := hcut
  have HCPW := Lib.hid hcapW
  clear hcapW
  obtain ⟨w1, rfl⟩ : ∃ w1 : World, w1 = wc := ⟨_, rfl⟩
  obtain ⟨N1, hN1⟩ : ∃ N1, N1 = w1.heap.size := ⟨_, rfl⟩
  rw [← hN1] at hbox
  have HCB := Lib.hid hbox
  have HB1 := Lib.hid hB1
  have HLW := Lib.hid (fun W (hb : Below W0.heap.size W0 W) => hb)
  clear x0 x1 x2 x3 x4 hbox hB1 HMX HNX HMS HNS hmc hnc hmcs hncs
  go_wp2_with fail
  go_loopw [4] (fun v4 wr => ∃ (k : Nat) (v : Value) (vs : List Value), k ≤ cl ∧ v4 = .int .i64 k ∧ CopyBox f sl pl W0.heap.size gb k gm cm gw cw v vs N1 wr ∧ Below W0.heap.size W0 wr ∧ N1 ≤ wr.heap.size) (fun i _ => cl - (intOf i).toNat)
  case atStart => exact ⟨0, _, _, by omega, rfl, HCB.out, HB1.out, by omega⟩
  case round =>
    obtain ⟨k, v, vs, hk, rfl, hbox, hB, hN⟩ := hrel
    have hbx := fun i => (hB.cell (p := ⟨w.heap.size, i, none⟩) z0).trans (HR0.out i)
    obtain ⟨x0, x1, x2, x3, x4⟩ : wr.cell? ⟨w.heap.size, 0, none⟩ = some (.int .i64 f.len) ∧ wr.cell? ⟨w.heap.size, 1, none⟩ = some (.int .i64 f.slack) ∧ wr.cell? ⟨w.heap.size, 2, none⟩ = some (.slice sa sl sc) ∧ wr.cell? ⟨w.heap.size, 3, none⟩ = some (.slice pa pl pc) ∧ wr.cell? ⟨w.heap.size, 4, none⟩ = some (.slice ca cl cc) := ⟨hbx 0, hbx 1, hbx 2, hbx 3, hbx 4⟩
    have HBX := Lib.hid hbox
    have HB := Lib.hid hB
    have hzr := hB.size
    clear hbx
    by_cases hlt : k < cl
    · have hk2 : k < f.cols.length := by rw [HWL.out]; exact hlt
      obtain ⟨wb, wo, rfl, hwb, hwc⟩ := HWC.out (by omega)
      obtain ⟨ra, rl, rc, hcell, hrcc, hints⟩ := hwc k hk2
      have hBw := HB0.out.trans (hB.mono HB0.out.size)
      have hcx := (hBw.cell (p := ⟨wb, wo + k, none⟩) hwb).trans hcell
      have HXS := Lib.hid (fun W (hb : Below wr.heap.size wr W) h0 => ints_src2 (hints.below (hBw.trans (hb.mono hBw.size))) h0)
      have hrl := hints.1
      have hrl1 : rl ≤ 1000 := by rw [← hrl]; exact HX1.out _ (List.getElem_mem hk2)
      have hxc : (f.cols[k].map (Value.int .i64)).length = rl * 1 := by simp [hrl]
      obtain ⟨x, hx⟩ : ∃ x, f.cols[k] = x := ⟨_, rfl⟩
      rw [hx] at hrl hxc HXS
      have HHX := Lib.hid hx
      have HRL := Lib.hid hrl
      obtain ⟨⟨b0, b1, b2, b3, b4⟩, hbf, hbi, hbM, hbW, hbO, hbL⟩ := hbox
      have hbf1 := hbf 4
      obtain ⟨R, hR⟩ : ∃ R, v.ownBlock = R := ⟨_, rfl⟩
      have hRb := own_span hbO
      rw [hR] at hRb
      have hgbr := hbi.lt
      have hgne : ¬ some gb = R := by rw [← hR]; exact own_ne hbO hbi (by decide)
      have HO := Lib.hid hbO
      have HRB := Lib.hid hRb
      have r1 : ¬ w.heap.size = gb := by omega
      have r2 : ¬ some w.heap.size = R := fun e => by have := (hRb _ e.symm).1; omega
      have r3 : ¬ wb = gb := by omega
      have r4 : ¬ some wb = R := fun e => by have := (hRb _ e.symm).1; omega
      have q0 : w.heap.size < wr.heap.size := by omega
      have q1 : wb < wr.heap.size := by omega
      have hk0 : (0 : Int) ≤ (k : Int) := by omega
      have hkl : (k : Int) < (cl : Int) := by omega
      have hk1000 : k ≤ 1000 := by omega
      clear hwc hcell hrcc hints hB hx hrl hbM hbW hbO hbL hRb hbf b0 b1 b2 b3 hbi
      go_upto_region 5 with fail
      have k0 : wr.heap.size ≤ wr.heap.size ∧ ∀ b o, b < wr.heap.size → ¬ b = gb → ¬ some b = R → wr.cell? ⟨b, o, none⟩ = wr.cell? ⟨b, o, none⟩ := ⟨Nat.le_refl _, fun _ _ _ _ _ => rfl⟩
      have hmx : Try.prog.follows .mixedOrders = true := by kernel_rfl
      go_region_law
        (first
          | ((with_reducible refine step_append_freshC _ 27 3 _ 1 8 Try.underlying27 Try.info3 rfl (by decide) (by decide) rl rc ra (x.map (Value.int .i64)) hxc hrl1 rfl _ _ rfl ?_ ?_ ?_ ?_); (· exact ⟨_, rfl⟩); (· rfl); (· intro h0; refine HXS.out _ ?_ h0; exact (by repeat (first | exact Below.refl _ _ | (refine Below.alloc ?_ (by first | omega | (simp; omega) | simp) _) | (refine Below.setCell ?_ (by first | omega | (simp; omega) | simp) _) | refine Below.drew ?_))); intro ga cA wA hfA hcapA hbA; have HCAP := Lib.hid hcapA; clear hcapA; have kAb : Below wr.heap.size wr wA := below_via (Lib.hid hbA) (by simp) (by repeat (first | exact Below.refl _ _ | (refine Below.alloc ?_ (by first | omega | (simp; omega) | simp) _) | (refine Below.setCell ?_ (by first | omega | (simp; omega) | simp) _) | refine Below.drew ?_)); have kA := boxT_below (W := wr) k0 kAb; have HKA := Lib.hid kAb; have hzK := kAb.size; have gA := (kAb.cell (p := ⟨gb, 4, none⟩) hgbr).trans b4; have hgbA : gb < wA.heap.size := (by omega); clear kAb; have HFA := Lib.hid hfA; have HBA := Lib.hid hbA; have hzA := hbA.size; obtain ⟨hcA, hfrA⟩ := bcell hbA; (try simp at hzA); (try have yA := Nat.lt_of_succ_le hzA); have kq0 : w.heap.size < wA.heap.size := (by omega); have kq1 : wb < wA.heap.size := (by omega); clear hfA hbA)
          | ((with_reducible refine step_append_val _ 24 27 (.slice none 0 0) 24 Try.underlying24 Try.info27 rfl (by decide) W0.heap.size k wA.heap.size v vs (.slice (some ga) rl cA) rfl hk1000 rfl _ _ rfl ?_ ?_ ?_ ?_ ?_ ?_); (· rfl); (· first | rfl | (go_simp; done)); (· exact (HO.out.kept (grown_none HKA.out) (Classical.em _)).kept (grown_none (by repeat (first | exact Below.refl _ _ | (refine Below.alloc ?_ (by first | omega | (simp; omega) | simp) _) | (refine Below.setCell ?_ (by first | omega | (simp; omega) | simp) _) | refine Below.drew ?_))) (Classical.em _)); (· go_simp; done); (· first | omega | (simp; omega)); intro v' wB hown hgr hat; obtain ⟨g', c', rfl, -⟩ := ownsRow_pos hown (by omega); have eB : wB.heap[gb]? = wr.heap[gb]? := (hgr.block gb (by first | omega | (simp; omega)) (by rw [hR]; exact hgne)).trans (Below.block (w := wr) (by repeat (first | with_reducible exact HKA.out | exact Below.refl _ _ | (refine Below.alloc ?_ (by first | omega | (simp; omega) | simp) _) | refine Below.drew ?_)) gb hgbr); have gB : wB.cell? ⟨gb, 4, none⟩ = some v := (World.cell?_of_block (w := wr) (a := ⟨gb, 4, none⟩) eB).trans b4; have fB : wB.frozen? ⟨gb, 4, none⟩ = false := (World.frozen?_of_block (w := wr) (a := ⟨gb, 4, none⟩) eB).trans hbf1; clear eB; have kB := boxT_grown (boxT_below (W := wA) kA (by repeat (first | exact Below.refl _ _ | (refine Below.alloc ?_ (by first | omega | (simp; omega) | simp) _) | (refine Below.setCell ?_ (by first | omega | (simp; omega) | simp) _) | refine Below.drew ?_))) hgr (.inl hR); have HOB := Lib.hid hown; have HGB := Lib.hid hgr; clear hown hgr hat)
          | fail "no arm")
      all_goals
        go_wp2_with fail
        go_roundw
        case rel =>
          refine ⟨k + 1, _, _, by omega, by go_num, copybox_next HBX.out hk2 HHX.out HRL.out hN HFA.out HCAP.out ?_ ?_ ?_ HGB.out HOB.out, copy_below HB.out ?_ HGB.out (fun r hr => (HRB.out r (by rw [← hR]; exact hr)).1) hgb, ?_⟩
          · first | omega | (simp; done) | (simp; omega)
          · repeat (first | with_reducible exact HKA.out | exact Below.refl _ _ | (refine Below.alloc ?_ (by first | omega | (simp; omega) | simp) _) | refine Below.drew ?_)
          · exact (by repeat (first | exact Below.refl _ _ | (refine Below.alloc ?_ (by first | omega | (simp; omega) | simp) _) | (refine Below.setCell ?_ (by first | omega | (simp; omega) | simp) _) | refine Below.drew ?_))
          · repeat (first | with_reducible exact HKA.out | exact Below.refl _ _ | (refine Below.alloc ?_ (by first | omega | (simp; omega) | simp) _) | refine Below.drew ?_)
          · have := kB.1
            first | omega | (simp [World.setCell]; omega)
        case measure => simp [intOf]; omega
    · obtain rfl : cl = k := by omega
      obtain ⟨⟨b0, b1, b2, b3, b4⟩, hbf, hbi, hbM, hbW, hbO, hbL⟩ := hbox
      obtain ⟨va, vc, rfl⟩ := own_slice2 hbO
      rw [List.take_of_length_le (by rw [HWL.out]; exact Nat.le_refl _)] at hbL
      obtain ⟨y0, y1, y2, y3, y4⟩ : wr.cell? ⟨w.heap.size + 1, 0, none⟩ = some (.int .i64 0) ∧ wr.cell? ⟨w.heap.size + 1, 1, none⟩ = some (.int .i64 0) ∧ wr.cell? ⟨w.heap.size + 1, 2, none⟩ = some (.slice none 0 0) ∧ wr.cell? ⟨w.heap.size + 1, 3, none⟩ = some (.slice none 0 0) ∧ wr.cell? ⟨w.heap.size + 1, 4, none⟩ = some (.slice none 0 0) :=
        ⟨(hB.cell (p := ⟨w.heap.size + 1, 0, none⟩) z1).trans (HG0.out 0), (hB.cell (p := ⟨w.heap.size + 1, 1, none⟩) z1).trans (HG0.out 1), (hB.cell (p := ⟨w.heap.size + 1, 2, none⟩) z1).trans (HG0.out 2), (hB.cell (p := ⟨w.heap.size + 1, 3, none⟩) z1).trans (HG0.out 3), (hB.cell (p := ⟨w.heap.size + 1, 4, none⟩) z1).trans (HG0.out 4)⟩
      have hfz : ∀ i, wr.frozen? ⟨w.heap.size + 1, i, none⟩ = false := fun i => (hB.frozen (p := ⟨w.heap.size + 1, i, none⟩) z1).trans (HGF.out i)
      obtain ⟨t0, t1, t2, t3, t4⟩ : wr.frozen? ⟨w.heap.size + 1, 0, none⟩ = false ∧ wr.frozen? ⟨w.heap.size + 1, 1, none⟩ = false ∧ wr.frozen? ⟨w.heap.size + 1, 2, none⟩ = false ∧ wr.frozen? ⟨w.heap.size + 1, 3, none⟩ = false ∧ wr.frozen? ⟨w.heap.size + 1, 4, none⟩ = false := ⟨hfz 0, hfz 1, hfz 2, hfz 3, hfz 4⟩
      have hN1 : W0.heap.size ≤ N1 := by rw [hN1]; exact HB1.out.size
      have HM := Lib.hid hbM
      have HW := Lib.hid hbW
      have HO := Lib.hid hbO
      have HL := Lib.hid hbL
      clear hfz hbf hbi hbM hbW hbO hbL hB hzr
      go_wp2_with fail
      refine bodyPost_ret (v := .agg #[.int .i64 f.len, .int .i64 f.slack, .slice (some gm) sl cm, .slice (some gw) pl cw, .slice va cl vc]) ?_ rfl ?_
      · have hs5 := set5 (.int .i64 f.len) (.int .i64 f.slack) (.slice (some gm) sl cm) (.slice (some gw) pl cw) (.slice va cl vc) y0 y1 y2 y3 y4
        obtain ⟨q0, q1, q2, q3, q4⟩ := hs5
        simp [results, Try.results19, go_sem, q0, q1, q2, q3, q4]
      have hg : wr.grownBy (((((wr.setCell ⟨w.heap.size + 1, 0, none⟩ (.int .i64 f.len)).setCell ⟨w.heap.size + 1, 1, none⟩ (.int .i64 f.slack)).setCell ⟨w.heap.size + 1, 2, none⟩ (.slice (some gm) sl cm)).setCell ⟨w.heap.size + 1, 3, none⟩ (.slice (some gw) pl cw)).setCell ⟨w.heap.size + 1, 4, none⟩ (.slice va cl vc)) (some (w.heap.size + 1)) := gbx_set (gbx_set (gbx_set (gbx_set (gbx_set (gbx_refl _ _) _ _) _ _) _ _) _ _) _ _
      have h0 := HB0.out.size
      exact ⟨gm, cm, gw, cw, va, vc, vs, N1, rfl, (HM.out.kept hg (fun r e => by injection e with e; exact .inr (.inl (by omega)))).low h0, (HW.out.kept hg (fun r e => by injection e with e; exact .inr (.inl (by omega)))).low h0,
        own_base2 (HO.out.kept hg (.inr (fun e => by have := (own_span HO.out _ e).1; omega))) h0, HL.out.kept hg (fun r e => by injection e with e; exact .inr (.inl (by omega))), ⟨by omega, HCPW.out⟩,
        (((((HB0.out.trans (HB.out.mono h0)).setCell (by simp) _).setCell (by simp) _).setCell (by simp) _).setCell (by simp) _).setCell (by simp) _⟩
end Go.Proofs.Ytcklhojeneejiaa
