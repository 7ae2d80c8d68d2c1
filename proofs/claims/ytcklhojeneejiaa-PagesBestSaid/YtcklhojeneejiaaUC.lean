/- UC XM, joined. -/
import Derived.Test.YtcklhojeneejiaaYA
import Derived.ProofKit
import Derived.Deep.Slices
import Derived.WideShapes
/- UC UH, joined. -/
/- The arguments of the laws of pages, opened. -/
namespace Go.Proofs.Ytcklhojeneejiaa
set_option linter.unusedVariables false
set_option linter.unusedSimpArgs false
open Go.RowKit Go.ChangeShapes Go.WideShapes Go.Deep

theorem Try.own : ownKnob Try.prog.godebug = none := by kernel_rfl
theorem Try.laidOut : laidOutB Try.prog = true := by kernel_rfl
theorem Try.cells26 : Try.prog.cellsOf 26 = 5 := by kernel_rfl
theorem Try.cells80 : Try.prog.cellsOf 80 = 2 := by kernel_rfl
theorem Try.cells43 : Try.prog.cellsOf 43 = 3 := by kernel_rfl
theorem Try.cells32 : Try.prog.cellsOf 32 = 2 := by kernel_rfl
theorem Try.cells22 : Try.prog.cellsOf 22 = 1 := by kernel_rfl
theorem Try.cells23 : Try.prog.cellsOf 23 = 1 := by kernel_rfl
theorem Try.cells24 : Try.prog.cellsOf 24 = 1 := by kernel_rfl
theorem Try.cells27 : Try.prog.cellsOf 27 = 1 := by kernel_rfl
theorem Try.cells3 : Try.prog.cellsOf 3 = 1 := by kernel_rfl

section
variable {H : Type} {enc : TypeId × Value → H} {w : World} {base : Nat} {spare : Nat → Bool} {held : Bool}

theorem fld {fs : Array Field} {xs : List (DataW H × List MemPlace)} {m : Nat} {cs : List Value} (hg : ∀ (i : Nat) (f : Field), fs[i]? = some f → DataW.trod enc Try.prog w base spare held m f.type (List.take (Try.prog.cellsOf f.type) (List.drop f.offset cs)) = xs[i]?)
    (hl : xs.length = fs.size) (j t off k : Nat) (f : Field) (hf : fs[j]? = some f) (ht : f.type = t) (ho : f.offset = off) (hk : Try.prog.cellsOf t = k) : ∃ y, DataW.trod enc Try.prog w base spare held m t (List.take k (List.drop off cs)) = some y := by
  have h := hg j f hf
  have hj : j < xs.length := by rw [hl]; exact (Array.getElem?_eq_some_iff.1 hf).1
  rw [ht, ho, hk, List.getElem?_eq_getElem hj] at h
  exact ⟨_, h⟩
theorem list2 {α : Type} : ∀ (l : List α), l.length = 2 → ∃ a b, l = [a, b]
  | [a, b], _ => ⟨a, b, rfl⟩
theorem list3 {α : Type} : ∀ (l : List α), l.length = 3 → ∃ a b c, l = [a, b, c]
  | [a, b, c], _ => ⟨a, b, c, rfl⟩
theorem list5 {α : Type} : ∀ (l : List α), l.length = 5 → ∃ a b c d e, l = [a, b, c, d, e]
  | [a, b, c, d, e], _ => ⟨a, b, c, d, e, rfl⟩
theorem int_form {n : Nat} {cs : List Value} {x : DataW H × List MemPlace} (h : DataW.trod enc Try.prog w base spare held n 3 cs = some x) : ∃ a, cs = [.int .i64 a] := by
  obtain ⟨a, h1, _⟩ := DataW.trod_int Try.underlying3 h
  exact ⟨a, h1⟩
theorem span_form {n : Nat} {cs : List Value} {x : DataW H × List MemPlace} (h : DataW.trod enc Try.prog w base spare held n 32 cs = some x) : ∃ a b, cs = [.int .i64 a, .int .i64 b] := by
  obtain ⟨xs, m, _, _, hl, hxs, hg⟩ := DataW.trod_struct Try.underlying32 h
  rw [Try.cells32] at hl
  obtain ⟨c0, c1, rfl⟩ := list2 cs hl
  obtain ⟨_, g0⟩ := fld hg hxs 0 3 0 1 _ rfl rfl rfl Try.cells3
  obtain ⟨_, g1⟩ := fld hg hxs 1 3 1 1 _ rfl rfl rfl Try.cells3
  obtain ⟨a0, h0⟩ := int_form g0
  obtain ⟨a1, h1⟩ := int_form g1
  simp at h0 h1
  exact ⟨a0, a1, by rw [h0, h1]⟩
theorem strip_form {n : Nat} {cs : List Value} {x : DataW H × List MemPlace} (h : DataW.trod enc Try.prog w base spare held n 80 cs = some x) : ∃ p : Strip, cs = [.int .i64 p.t, .int .i64 p.m] := by
  obtain ⟨xs, m, _, _, hl, hxs, hg⟩ := DataW.trod_struct Try.underlying80 h
  rw [Try.cells80] at hl
  obtain ⟨c0, c1, rfl⟩ := list2 cs hl
  obtain ⟨_, g0⟩ := fld hg hxs 0 3 0 1 _ rfl rfl rfl Try.cells3
  obtain ⟨_, g1⟩ := fld hg hxs 1 3 1 1 _ rfl rfl rfl Try.cells3
  obtain ⟨a0, h0⟩ := int_form g0
  obtain ⟨a1, h1⟩ := int_form g1
  simp at h0 h1
  exact ⟨⟨a0, a1⟩, by rw [h0, h1]⟩
theorem piece_form {n : Nat} {cs : List Value} {x : DataW H × List MemPlace} (h : DataW.trod enc Try.prog w base spare held n 43 cs = some x) : ∃ p : Piece, cs = [.int .i64 p.lo, .int .i64 p.hi, .int .i64 p.pe] := by
  obtain ⟨xs, m, _, _, hl, hxs, hg⟩ := DataW.trod_struct Try.underlying43 h
  rw [Try.cells43] at hl
  obtain ⟨c0, c1, c2, rfl⟩ := list3 cs hl
  obtain ⟨_, g0⟩ := fld hg hxs 0 32 0 2 _ rfl rfl rfl Try.cells32
  obtain ⟨_, g1⟩ := fld hg hxs 1 3 2 1 _ rfl rfl rfl Try.cells3
  obtain ⟨a0, a1, h0⟩ := span_form g0
  obtain ⟨a2, h1⟩ := int_form g1
  simp at h0 h1
  exact ⟨⟨a0, a1, a2⟩, by rw [h0.1, h0.2, h1]⟩

instance : Inhabited Strip := ⟨⟨0, 0⟩⟩
instance : Inhabited Piece := ⟨⟨0, 0, 0⟩⟩
theorem addr_at (b o j : Nat) : (⟨b, o, none⟩ : Addr).add j = ⟨b, o + j, none⟩ := Addr.add_lit _ _ _

/-- A slice of strips that came in. -/
theorem strips_form {n : Nat} {v : Value} {x : DataW H × List MemPlace} (h : DataW.trod enc Try.prog w base (fun _ => true) held n 22 [v] = some x) : ∃ a len cap ps, v = .slice a len cap ∧ StripsAt w a len ps := by
  rcases open_slice Try.underlying22 h with ⟨h0, _⟩ | ⟨a, len, cap, m, n', D, Pl, hcs, hb, hl, hm, hmm, hx, hi⟩
  · simp at h0
    exact ⟨none, 0, 0, [], h0, rfl, by decide, fun h => by omega⟩
  · simp at hcs
    simp at hmm
    subst hmm
    obtain ⟨f, hf⟩ := choose_lt (α := Strip) (n := m) (p := fun i p => ∀ j u, [Value.int .i64 p.t, .int .i64 p.m][j]? = some u → w.cell? ((a.add (i * 2)).add j) = some u) (fun i him => by
      obtain ⟨cs', hc, ht⟩ := hi i him
      rw [Try.cells80] at hc
      obtain ⟨p, rfl⟩ := strip_form ht
      obtain ⟨_, _, hat⟩ := World.cells?_some hc
      refine ⟨p, fun j u hj => ?_⟩
      have hj5 : j < 2 := by have := (List.getElem?_eq_some_iff.1 hj).1; simpa using this
      rw [hat j hj5]; exact hj)
    refine ⟨some a, len, m, (List.range len).map f, hcs, by simp, by omega, fun h0 => ?_⟩
    obtain ⟨b, o, sp⟩ := a
    have hc0 := hf 0 (by omega) 0 _ rfl
    obtain rfl : sp = none := by have := World.cell?_spot hc0; simpa [Addr.add] using this
    rw [addr_at, addr_at] at hc0
    refine ⟨b, o, rfl, World.block_lt_of_cell? _ _ hc0, fun i hi' => ?_⟩
    have him : i < m := by simp at hi'; omega
    have hk := hf i him
    simp only [List.getElem_map, List.getElem_range]
    have key : ∀ j u, [Value.int .i64 (f i).t, .int .i64 (f i).m][j]? = some u → w.cell? ⟨b, o + i * 2 + j, none⟩ = some u := fun j u hu => by
      have := hk j u hu
      rwa [addr_at, addr_at] at this
    exact ⟨key 0 _ rfl, key 1 _ rfl⟩
/-- A slice of pieces that came in. -/
theorem pieces_form {n : Nat} {v : Value} {x : DataW H × List MemPlace} (h : DataW.trod enc Try.prog w base (fun _ => true) held n 23 [v] = some x) : ∃ a len cap ps, v = .slice a len cap ∧ PiecesAt w a len ps := by
  rcases open_slice Try.underlying23 h with ⟨h0, _⟩ | ⟨a, len, cap, m, n', D, Pl, hcs, hb, hl, hm, hmm, hx, hi⟩
  · simp at h0
    exact ⟨none, 0, 0, [], h0, rfl, by decide, fun h => by omega⟩
  · simp at hcs
    simp at hmm
    subst hmm
    obtain ⟨f, hf⟩ := choose_lt (α := Piece) (n := m) (p := fun i p => ∀ j u, [Value.int .i64 p.lo, .int .i64 p.hi, .int .i64 p.pe][j]? = some u → w.cell? ((a.add (i * 3)).add j) = some u) (fun i him => by
      obtain ⟨cs', hc, ht⟩ := hi i him
      rw [Try.cells43] at hc
      obtain ⟨p, rfl⟩ := piece_form ht
      obtain ⟨_, _, hat⟩ := World.cells?_some hc
      refine ⟨p, fun j u hj => ?_⟩
      have hj5 : j < 3 := by have := (List.getElem?_eq_some_iff.1 hj).1; simpa using this
      rw [hat j hj5]; exact hj)
    refine ⟨some a, len, m, (List.range len).map f, hcs, by simp, by omega, fun h0 => ?_⟩
    obtain ⟨b, o, sp⟩ := a
    have hc0 := hf 0 (by omega) 0 _ rfl
    obtain rfl : sp = none := by have := World.cell?_spot hc0; simpa [Addr.add] using this
    rw [addr_at, addr_at] at hc0
    refine ⟨b, o, rfl, World.block_lt_of_cell? _ _ hc0, fun i hi' => ?_⟩
    have him : i < m := by simp at hi'; omega
    have hk := hf i him
    simp only [List.getElem_map, List.getElem_range]
    have key : ∀ j u, [Value.int .i64 (f i).lo, .int .i64 (f i).hi, .int .i64 (f i).pe][j]? = some u → w.cell? ⟨b, o + i * 3 + j, none⟩ = some u := fun j u hu => by
      have := hk j u hu
      rwa [addr_at, addr_at] at this
    exact ⟨key 0 _ rfl, key 1 _ rfl, key 2 _ rfl⟩

/-- A slice of numbers, among others. -/
theorem ints_form {n : Nat} {cs : List Value} {x : DataW H × List MemPlace} (h : DataW.trod enc Try.prog w base (fun _ => true) held n 27 cs = some x) : ∃ a len cap xs, cs = [.slice a len cap] ∧ (len ≤ cap ∧ cap ≤ maxLen) ∧ IntsAt w a len xs := by
  rcases open_ints Try.underlying27 Try.underlying3 Try.cells3 h with ⟨hcs, _⟩ | ⟨x, l, c, zs, hcs, _, hl, hm, hz, _, hcell, _⟩
  · exact ⟨none, 0, 0, [], hcs, ⟨Nat.le_refl _, by decide⟩, rfl, by decide, fun h => by omega⟩
  · simp at hz
    refine ⟨some x, l, c, zs.take l, hcs, ⟨by omega, by omega⟩, by simp; omega, by omega, fun h0 => ?_⟩
    obtain ⟨b, o, sp⟩ := x
    have hc0 := hcell 0 (by omega)
    obtain rfl : sp = none := by have := World.cell?_spot hc0; simpa [Addr.add] using this
    refine ⟨b, o, rfl, by rw [addr_at] at hc0; exact World.block_lt_of_cell? _ _ hc0, fun i hi => ?_⟩
    have hil : i < zs.length := by simp at hi; omega
    have := hcell i hil
    rw [addr_at] at this
    rw [this]
    simp [List.getD, hil]

/-- A slice of lists that came in. -/
theorem lists_form {n : Nat} {v : Value} {x : DataW H × List MemPlace} (h : DataW.trod enc Try.prog w base (fun _ => true) held n 24 [v] = some x) : ∃ a len cap xs, v = .slice a len cap ∧ ListsAt w a len xs := by
  rcases open_slice Try.underlying24 h with ⟨h0, _⟩ | ⟨a, len, cap, m, n', D, Pl, hcs, hb, hl, hm, hmm, hx, hi⟩
  · simp at h0
    exact ⟨none, 0, 0, [], h0, rfl, by decide, fun h => by omega⟩
  · simp at hcs
    simp at hmm
    subst hmm
    obtain ⟨f, hf⟩ := choose_lt (α := List Int) (n := m) (p := fun i xs => ∃ ra rl rc, w.cell? (a.add (i * 1)) = some (.slice ra rl rc) ∧ (rl ≤ rc ∧ rc ≤ maxLen) ∧ IntsAt w ra rl xs) (fun i him => by
      obtain ⟨cs', hc, ht⟩ := hi i him
      rw [Try.cells27] at hc
      obtain ⟨ra, rl, rc, xs, rfl, hxs⟩ := ints_form ht
      obtain ⟨_, _, hat⟩ := World.cells?_some hc
      refine ⟨xs, ra, rl, rc, ?_, hxs⟩
      have := hat 0 (by omega)
      simpa [Addr.add] using this)
    refine ⟨some a, len, m, (List.range len).map f, hcs, by simp, by omega, fun h0 => ?_⟩
    obtain ⟨b, o, sp⟩ := a
    obtain ⟨_, _, _, hc0, _⟩ := hf 0 (by omega)
    obtain rfl : sp = none := by have := World.cell?_spot hc0; simpa [Addr.add] using this
    rw [addr_at] at hc0
    refine ⟨b, o, rfl, World.block_lt_of_cell? _ _ hc0, fun i hi' => ?_⟩
    have him : i < m := by simp at hi'; omega
    obtain ⟨ra, rl, rc, h1, h2⟩ := hf i him
    simp only [List.getElem_map, List.getElem_range]
    rw [addr_at, Nat.mul_one] at h1
    exact ⟨ra, rl, rc, h1, h2⟩

set_option maxRecDepth 100000 in
/-- A frame that came in. -/
theorem page_open {v : Value} {d : DataW H} {p : List MemPlace} {r : Reach} {b0 : Nat} (hv : Value.okWide Try.prog w r b0 26 v) (h : DataW.Trod enc Try.prog w base (fun _ => true) held 26 v d p) :
    ∃ (f : PFrame) (sa : Option Addr) (sl sc : Nat) (pa : Option Addr) (pl pc : Nat) (ca : Option Addr) (cl cc : Nat), v = .agg #[.int .i64 f.len, .int .i64 f.slack, .slice sa sl sc, .slice pa pl pc, .slice ca cl cc] ∧ PAt w sa sl sc pa pl pc ca cl cc f := by
  obtain ⟨cs, rfl, hsz⟩ := okWide_struct Try.underlying26 hv
  rw [Try.cells26] at hsz
  obtain ⟨l⟩ := cs
  obtain ⟨fuel, hf⟩ := h
  obtain ⟨xs, m, _, _, _, hxs, hg⟩ := DataW.trod_struct Try.underlying26 hf
  obtain ⟨c0, c1, c2, c3, c4, rfl⟩ := list5 l hsz
  obtain ⟨_, g0⟩ := fld hg hxs 0 3 0 1 _ rfl rfl rfl Try.cells3
  obtain ⟨_, g1⟩ := fld hg hxs 1 3 1 1 _ rfl rfl rfl Try.cells3
  obtain ⟨_, g2⟩ := fld hg hxs 2 22 2 1 _ rfl rfl rfl Try.cells22
  obtain ⟨_, g3⟩ := fld hg hxs 3 23 3 1 _ rfl rfl rfl Try.cells23
  obtain ⟨_, g4⟩ := fld hg hxs 4 24 4 1 _ rfl rfl rfl Try.cells24
  obtain ⟨le, h0⟩ := int_form g0
  obtain ⟨sk, h1⟩ := int_form g1
  obtain ⟨sa, sl, sc, ss, h2, hs⟩ := strips_form (v := c2) g2
  obtain ⟨pa, pl, pc, ps, h3, hp⟩ := pieces_form (v := c3) g3
  obtain ⟨ca, cl, cc, cs, h4, hc⟩ := lists_form (v := c4) g4
  simp [Value.cells] at h0 h1
  exact ⟨⟨le, sk, ss, ps, cs⟩, sa, sl, sc, pa, pl, pc, ca, cl, cc, by simp [h0, h1, h2, h3, h4], hs, hp, hc⟩

set_option maxRecDepth 100000 in
/-- A slice of numbers that came in. -/
theorem ints_open {v : Value} {d : DataW H} {p : List MemPlace} {r : Reach} {b0 : Nat} (hv : Value.okWide Try.prog w r b0 27 v) (h : DataW.Trod enc Try.prog w base (fun _ => true) held 27 v d p) :
    ∃ a len cap xs, v = .slice a len cap ∧ IntsAt w a len xs := by
  obtain ⟨a, len, cap, rfl⟩ := okWide_slice Try.underlying27 hv
  obtain ⟨fuel, hf⟩ := h
  rcases open_ints Try.underlying27 Try.underlying3 Try.cells3 hf with ⟨hcs, _⟩ | ⟨x, l, c, zs, hcs, _, hl, hm, hz, _, hcell, _⟩
  · simp [Value.cells] at hcs
    obtain ⟨rfl, rfl, rfl⟩ := hcs
    exact ⟨none, 0, 0, [], rfl, rfl, by decide, fun h => by omega⟩
  · simp [Value.cells] at hcs
    obtain ⟨rfl, rfl, rfl⟩ := hcs
    simp at hz
    refine ⟨some x, len, cap, zs.take len, rfl, by simp; omega, by omega, fun h0 => ?_⟩
    obtain ⟨b, o, sp⟩ := x
    have hc0 := hcell 0 (by omega)
    obtain rfl : sp = none := by have := World.cell?_spot hc0; simpa [Addr.add] using this
    refine ⟨b, o, rfl, by rw [addr_at] at hc0; exact World.block_lt_of_cell? _ _ hc0, fun i hi => ?_⟩
    have hil : i < zs.length := by simp at hi; omega
    have := hcell i hil
    rw [addr_at] at this
    rw [this]
    simp [List.getD, hil]

end
end Go.Proofs.Ytcklhojeneejiaa

/- The arguments of the laws of pages, opened: a place. -/
namespace Go.Proofs.Ytcklhojeneejiaa
set_option linter.unusedVariables false
set_option linter.unusedSimpArgs false
open Go.RowKit Go.ChangeShapes Go.WideShapes Go.Deep

theorem Try.cells58 : Try.prog.cellsOf 58 = 4 := by kernel_rfl
section
variable {H : Type} {enc : TypeId × Value → H} {w : World} {base : Nat} {held : Bool}
theorem list4 {α : Type} : ∀ (l : List α), l.length = 4 → ∃ a b c d, l = [a, b, c, d]
  | [a, b, c, d], _ => ⟨a, b, c, d, rfl⟩
set_option maxRecDepth 100000 in
/-- A place that came in. -/
theorem place_open {v : Value} {d : DataW H} {p : List MemPlace} {r : Reach} {b0 : Nat} (hv : Value.okWide Try.prog w r b0 58 v) (h : DataW.Trod enc Try.prog w base (fun _ => true) held 58 v d p) :
    ∃ (c : Int) (xa : Option Addr) (xl xc : Nat) (x : List Int) (on ot : Int), v = .agg #[.int .i64 c, .slice xa xl xc, .int .i64 on, .int .i64 ot] ∧ IntsAt w xa xl x := by
  obtain ⟨cs, rfl, hsz⟩ := okWide_struct Try.underlying58 hv
  rw [Try.cells58] at hsz
  obtain ⟨l⟩ := cs
  obtain ⟨fuel, hf⟩ := h
  obtain ⟨xs, m, _, _, _, hxs, hg⟩ := DataW.trod_struct Try.underlying58 hf
  obtain ⟨c0, c1, c2, c3, rfl⟩ := list4 l hsz
  obtain ⟨_, g0⟩ := fld hg hxs 0 3 0 1 _ rfl rfl rfl Try.cells3
  obtain ⟨_, g1⟩ := fld hg hxs 1 27 1 1 _ rfl rfl rfl Try.cells27
  obtain ⟨_, g2⟩ := fld hg hxs 2 3 2 1 _ rfl rfl rfl Try.cells3
  obtain ⟨_, g3⟩ := fld hg hxs 3 3 3 1 _ rfl rfl rfl Try.cells3
  obtain ⟨c, h0⟩ := int_form g0
  obtain ⟨xa, xl, xc, x, h1, -, hx⟩ := ints_form g1
  obtain ⟨on, h2⟩ := int_form g2
  obtain ⟨ot, h3⟩ := int_form g3
  simp [Value.cells] at h0 h1 h2 h3
  exact ⟨c, xa, xl, xc, x, on, ot, by simp [h0, h1, h2, h3], hx⟩
end
end Go.Proofs.Ytcklhojeneejiaa

/- A slice of lists that came in. -/
namespace Go.Proofs.Ytcklhojeneejiaa
set_option linter.unusedVariables false
set_option linter.unusedSimpArgs false
open Go.RowKit Go.ChangeShapes Go.WideShapes Go.Deep

section
variable {H : Type} {enc : TypeId × Value → H} {w : World} {base : Nat} {held : Bool}
set_option maxRecDepth 100000 in
/-- A slice of lists that came in. -/
theorem lists_open {v : Value} {d : DataW H} {p : List MemPlace} {r : Reach} {b0 : Nat} (hv : Value.okWide Try.prog w r b0 24 v) (h : DataW.Trod enc Try.prog w base (fun _ => true) held 24 v d p) :
    ∃ a len cap xs, v = .slice a len cap ∧ ListsAt w a len xs := by
  obtain ⟨a, len, cap, rfl⟩ := okWide_slice Try.underlying24 hv
  obtain ⟨fuel, hf⟩ := h
  exact lists_form (v := .slice a len cap) hf
end
end Go.Proofs.Ytcklhojeneejiaa
