/- The arguments of the laws, opened. -/
import Derived.Test.YtajabapcmpmboaaA
import Derived.ProofKit
import Derived.Deep.Slices
namespace Go.Proofs.Ytajabapcmpmboaa
set_option linter.unusedVariables false
set_option linter.unusedSimpArgs false
open Go.RowKit Go.ChangeShapes Go.WideShapes Go.Deep

theorem Try.own : ownKnob Try.prog.godebug = none := by kernel_rfl
theorem Try.laidOut : laidOutB Try.prog = true := by kernel_rfl
theorem Try.cells28 : Try.prog.cellsOf 28 = 11 := by kernel_rfl
theorem Try.cells25 : Try.prog.cellsOf 25 = 5 := by kernel_rfl
theorem Try.cells23 : Try.prog.cellsOf 23 = 2 := by kernel_rfl
theorem Try.cells70 : Try.prog.cellsOf 70 = 5 := by kernel_rfl
theorem Try.cells26 : Try.prog.cellsOf 26 = 1 := by kernel_rfl
theorem Try.cells3 : Try.prog.cellsOf 3 = 1 := by kernel_rfl

section
variable {H : Type} {enc : TypeId × Value → H} {w : World} {base : Nat} {spare : Nat → Bool} {held : Bool}

theorem fld {fs : Array Field} {xs : List (DataW H × List MemPlace)} {m : Nat} {cs : List Value} (hg : ∀ (i : Nat) (f : Field), fs[i]? = some f → DataW.trod enc Try.prog w base spare held m f.type (List.take (Try.prog.cellsOf f.type) (List.drop f.offset cs)) = xs[i]?)
    (hl : xs.length = fs.size) (j t off k : Nat) (f : Field) (hf : fs[j]? = some f) (ht : f.type = t) (ho : f.offset = off) (hk : Try.prog.cellsOf t = k) : ∃ y, DataW.trod enc Try.prog w base spare held m t (List.take k (List.drop off cs)) = some y := by
  have h := hg j f hf
  have hj : j < xs.length := by rw [hl]; exact (Array.getElem?_eq_some_iff.1 hf).1
  rw [ht, ho, hk, List.getElem?_eq_getElem hj] at h
  exact ⟨_, h⟩
theorem list2 {α : Type} : ∀ (l : List α), l.length = 2 → ∃ a b, l = [a, b]
  | [a, b], _ => ⟨a, b, rfl⟩
theorem list5 {α : Type} : ∀ (l : List α), l.length = 5 → ∃ a b c d e, l = [a, b, c, d, e]
  | [a, b, c, d, e], _ => ⟨a, b, c, d, e, rfl⟩
theorem list11 {α : Type} (l : List α) (h : l.length = 11) : ∃ c0 c1 c2 c3 c4 c5 c6 c7 c8 c9 c10, l = [c0, c1, c2, c3, c4, c5, c6, c7, c8, c9, c10] := by
  obtain ⟨a0, a1, a2, a3, a4, e⟩ := list5 (l.take 5) (by simp; omega)
  obtain ⟨b0, b1, b2, b3, b4, k⟩ := list5 ((l.drop 5).take 5) (by simp; omega)
  obtain ⟨c, g⟩ : ∃ c, (l.drop 5).drop 5 = [c] := List.length_eq_one_iff.1 (by simp; omega)
  refine ⟨a0, a1, a2, a3, a4, b0, b1, b2, b3, b4, c, ?_⟩
  rw [← List.take_append_drop 5 l, e, ← List.take_append_drop 5 (l.drop 5), k, g]; rfl

theorem int_form {n : Nat} {cs : List Value} {x : DataW H × List MemPlace} (h : DataW.trod enc Try.prog w base spare held n 3 cs = some x) : ∃ a, cs = [.int .i64 a] := by
  obtain ⟨a, h1, _⟩ := DataW.trod_int Try.underlying3 h
  exact ⟨a, h1⟩
theorem span_form {n : Nat} {cs : List Value} {x : DataW H × List MemPlace} (h : DataW.trod enc Try.prog w base spare held n 23 cs = some x) : ∃ a b, cs = [.int .i64 a, .int .i64 b] := by
  obtain ⟨xs, m, _, _, hl, hxs, hg⟩ := DataW.trod_struct Try.underlying23 h
  rw [Try.cells23] at hl
  obtain ⟨c0, c1, rfl⟩ := list2 cs hl
  obtain ⟨_, g0⟩ := fld hg hxs 0 3 0 1 _ rfl rfl rfl Try.cells3
  obtain ⟨_, g1⟩ := fld hg hxs 1 3 1 1 _ rfl rfl rfl Try.cells3
  obtain ⟨a, h0⟩ := int_form g0
  obtain ⟨b, h1⟩ := int_form g1
  simp at h0 h1
  exact ⟨a, b, by rw [h0, h1]⟩
theorem pot_form {n : Nat} {cs : List Value} {x : DataW H × List MemPlace} (h : DataW.trod enc Try.prog w base spare held n 25 cs = some x) : ∃ q a b c d, cs = [.int .i64 q, .int .i64 a, .int .i64 b, .int .i64 c, .int .i64 d] := by
  obtain ⟨xs, m, _, _, hl, hxs, hg⟩ := DataW.trod_struct Try.underlying25 h
  rw [Try.cells25] at hl
  obtain ⟨c0, c1, c2, c3, c4, rfl⟩ := list5 cs hl
  obtain ⟨_, g0⟩ := fld hg hxs 0 3 0 1 _ rfl rfl rfl Try.cells3
  obtain ⟨_, g1⟩ := fld hg hxs 1 23 1 2 _ rfl rfl rfl Try.cells23
  obtain ⟨_, g2⟩ := fld hg hxs 2 23 3 2 _ rfl rfl rfl Try.cells23
  obtain ⟨q, h0⟩ := int_form g0
  obtain ⟨a, b, h1⟩ := span_form g1
  obtain ⟨c, d, h2⟩ := span_form g2
  simp at h0 h1 h2
  exact ⟨q, a, b, c, d, by rw [h0, h1.1, h1.2, h2.1, h2.2]⟩
theorem pig_form {n : Nat} {cs : List Value} {x : DataW H × List MemPlace} (h : DataW.trod enc Try.prog w base spare held n 70 cs = some x) : ∃ p : Pig, cs = [.int .i64 p.P, .int .i64 p.t, .int .i64 p.a, .int .i64 p.c, .int .i64 p.m] := by
  obtain ⟨xs, m, _, _, hl, hxs, hg⟩ := DataW.trod_struct Try.underlying70 h
  rw [Try.cells70] at hl
  obtain ⟨c0, c1, c2, c3, c4, rfl⟩ := list5 cs hl
  obtain ⟨_, g0⟩ := fld hg hxs 0 3 0 1 _ rfl rfl rfl Try.cells3
  obtain ⟨_, g1⟩ := fld hg hxs 1 3 1 1 _ rfl rfl rfl Try.cells3
  obtain ⟨_, g2⟩ := fld hg hxs 2 3 2 1 _ rfl rfl rfl Try.cells3
  obtain ⟨_, g3⟩ := fld hg hxs 3 3 3 1 _ rfl rfl rfl Try.cells3
  obtain ⟨_, g4⟩ := fld hg hxs 4 3 4 1 _ rfl rfl rfl Try.cells3
  obtain ⟨a0, h0⟩ := int_form g0
  obtain ⟨a1, h1⟩ := int_form g1
  obtain ⟨a2, h2⟩ := int_form g2
  obtain ⟨a3, h3⟩ := int_form g3
  obtain ⟨a4, h4⟩ := int_form g4
  simp at h0 h1 h2 h3 h4
  exact ⟨⟨a0, a1, a2, a3, a4⟩, by rw [h0, h1, h2, h3, h4]⟩

instance : Inhabited Pig := ⟨⟨0, 0, 0, 0, 0⟩⟩
theorem addr_at (b o j : Nat) : (⟨b, o, none⟩ : Addr).add j = ⟨b, o + j, none⟩ := Addr.add_lit _ _ _

/-- A slice of pigs that came in. -/
theorem pigs_form {n : Nat} {v : Value} {x : DataW H × List MemPlace} (h : DataW.trod enc Try.prog w base (fun _ => true) held n 26 [v] = some x) : ∃ a len cap ps, v = .slice a len cap ∧ PigsAt w a len ps := by
  rcases open_slice Try.underlying26 h with ⟨h0, _⟩ | ⟨a, len, cap, m, n', D, Pl, hcs, hb, hl, hm, hmm, hx, hi⟩
  · simp at h0
    exact ⟨none, 0, 0, [], h0, rfl, by decide, fun h => by omega⟩
  · simp at hcs
    simp at hmm
    subst hmm
    obtain ⟨f, hf⟩ := choose_lt (α := Pig) (n := m) (p := fun i p => ∀ j u, [Value.int .i64 p.P, .int .i64 p.t, .int .i64 p.a, .int .i64 p.c, .int .i64 p.m][j]? = some u → w.cell? ((a.add (i * 5)).add j) = some u) (fun i him => by
      obtain ⟨cs', hc, ht⟩ := hi i him
      rw [Try.cells70] at hc
      obtain ⟨p, rfl⟩ := pig_form ht
      obtain ⟨_, _, hat⟩ := World.cells?_some hc
      refine ⟨p, fun j u hj => ?_⟩
      have hj5 : j < 5 := by have := (List.getElem?_eq_some_iff.1 hj).1; simpa using this
      rw [hat j hj5]; exact hj)
    refine ⟨some a, len, m, (List.range len).map f, hcs, by simp, by omega, fun h0 => ?_⟩
    obtain ⟨b, o, sp⟩ := a
    have hc0 := hf 0 (by omega) 0 _ rfl
    obtain rfl : sp = none := by have := World.cell?_spot hc0; simpa [Addr.add] using this
    rw [addr_at, addr_at] at hc0
    refine ⟨b, o, rfl, World.block_lt_of_cell? _ _ hc0, fun i hi' => ?_⟩
    have him : i < m := by simp at hi'; omega
    have hk := hf i him
    simp only [List.getElem_map, List.getElem_range]
    have key : ∀ j u, [Value.int .i64 (f i).P, .int .i64 (f i).t, .int .i64 (f i).a, .int .i64 (f i).c, .int .i64 (f i).m][j]? = some u → w.cell? ⟨b, o + i * 5 + j, none⟩ = some u := fun j u hu => by
      have := hk j u hu
      rwa [addr_at, addr_at] at this
    exact ⟨key 0 _ rfl, key 1 _ rfl, key 2 _ rfl, key 3 _ rfl, key 4 _ rfl⟩

set_option maxRecDepth 100000 in
/-- A shop that came in. -/
theorem shop_open {v : Value} {d : DataW H} {p : List MemPlace} {r : Reach} {b0 : Nat} (hv : Value.okWide Try.prog w r b0 28 v) (h : DataW.Trod enc Try.prog w base (fun _ => true) held 28 v d p) :
    ∃ (s : Shop) (a : Option Addr) (len cap : Nat), v = .agg #[.int .i64 s.P, .int .i64 s.tl, .int .i64 s.th, .int .i64 s.al, .int .i64 s.ah, .int .i64 s.room, .int .i64 s.xl, .int .i64 s.xh, .int .i64 s.yl, .int .i64 s.yh, .slice a len cap] ∧ PigsAt w a len s.pigs := by
  obtain ⟨cs, rfl, hsz⟩ := okWide_struct Try.underlying28 hv
  rw [Try.cells28] at hsz
  obtain ⟨l⟩ := cs
  obtain ⟨fuel, hf⟩ := h
  obtain ⟨xs, m, _, _, _, hxs, hg⟩ := DataW.trod_struct Try.underlying28 hf
  obtain ⟨c0, c1, c2, c3, c4, c5, c6, c7, c8, c9, c10, rfl⟩ := list11 l hsz
  obtain ⟨_, g0⟩ := fld hg hxs 0 25 0 5 _ rfl rfl rfl Try.cells25
  obtain ⟨_, g1⟩ := fld hg hxs 1 3 5 1 _ rfl rfl rfl Try.cells3
  obtain ⟨_, g2⟩ := fld hg hxs 2 23 6 2 _ rfl rfl rfl Try.cells23
  obtain ⟨_, g3⟩ := fld hg hxs 3 23 8 2 _ rfl rfl rfl Try.cells23
  obtain ⟨_, g4⟩ := fld hg hxs 4 26 10 1 _ rfl rfl rfl Try.cells26
  obtain ⟨q, a, b, c, d, h0⟩ := pot_form g0
  obtain ⟨ro, h1⟩ := int_form g1
  obtain ⟨xl, xh, h2⟩ := span_form g2
  obtain ⟨yl, yh, h3⟩ := span_form g3
  simp [Value.cells] at h0 h1 h2 h3
  obtain ⟨pa, len, cap, ps, hv10, hp⟩ := pigs_form (v := c10) g4
  exact ⟨⟨q, a, b, c, d, ro, xl, xh, yl, yh, ps⟩, pa, len, cap, by simp [h0, h1, h2, h3, hv10], hp⟩

set_option maxRecDepth 100000 in
/-- A pot that came in. -/
theorem pot_open {v : Value} {d : DataW H} {p : List MemPlace} {r : Reach} {b0 : Nat} (hv : Value.okWide Try.prog w r b0 25 v) (h : DataW.Trod enc Try.prog w base spare held 25 v d p) :
    ∃ (q a b c d : Int), v = .agg #[.int .i64 q, .int .i64 a, .int .i64 b, .int .i64 c, .int .i64 d] := by
  obtain ⟨cs, rfl, hsz⟩ := okWide_struct Try.underlying25 hv
  obtain ⟨l⟩ := cs
  obtain ⟨fuel, hf⟩ := h
  obtain ⟨q, a, b, c, d, h0⟩ := pot_form hf
  exact ⟨q, a, b, c, d, by simpa [Value.cells] using h0⟩

set_option maxRecDepth 100000 in
/-- A slice of numbers that came in. -/
theorem ints_open {v : Value} {d : DataW H} {p : List MemPlace} {r : Reach} {b0 : Nat} (hv : Value.okWide Try.prog w r b0 29 v) (h : DataW.Trod enc Try.prog w base (fun _ => true) held 29 v d p) :
    ∃ a len cap xs, v = .slice a len cap ∧ IntsAt w a len xs := by
  obtain ⟨a, len, cap, rfl⟩ := okWide_slice Try.underlying29 hv
  obtain ⟨fuel, hf⟩ := h
  rcases open_ints Try.underlying29 Try.underlying3 Try.cells3 hf with ⟨hcs, _⟩ | ⟨x, l, c, zs, hcs, _, hl, hm, hz, _, hcell, _⟩
  · simp [Value.cells] at hcs
    obtain ⟨rfl, rfl, rfl⟩ := hcs
    exact ⟨none, 0, 0, [], rfl, rfl, by decide, fun h => by omega⟩
  · simp [Value.cells] at hcs
    obtain ⟨rfl, rfl, rfl⟩ := hcs
    simp at hz
    refine ⟨some x, len, cap, zs.take len, rfl, by simp; omega, by omega, fun h0 => ?_⟩
    obtain ⟨b, o, sp⟩ := x
    have hc0 := hcell 0 (by omega)
    obtain rfl : sp = none := by have := World.cell?_spot hc0; simpa [Addr.add] using this
    refine ⟨b, o, rfl, by rw [addr_at] at hc0; exact World.block_lt_of_cell? _ _ hc0, fun i hi => ?_⟩
    have hil : i < zs.length := by simp at hi; omega
    have := hcell i hil
    rw [addr_at] at this
    rw [this]
    simp [List.getD, hil]

theorem Try.cells52 : Try.prog.cellsOf 52 = 2 := by kernel_rfl
set_option maxRecDepth 100000 in
/-- A truth that came in. -/
theorem truth_open {v : Value} {d : DataW H} {p : List MemPlace} {r : Reach} {b0 : Nat} (hv : Value.okWide Try.prog w r b0 52 v) (h : DataW.Trod enc Try.prog w base spare held 52 v d p) :
    ∃ (a b : Int), v = .agg #[.int .i64 a, .int .i64 b] := by
  obtain ⟨cs, rfl, hsz⟩ := okWide_struct Try.underlying52 hv
  rw [Try.cells52] at hsz
  obtain ⟨l⟩ := cs
  obtain ⟨fuel, hf⟩ := h
  obtain ⟨xs, m, _, _, _, hxs, hg⟩ := DataW.trod_struct Try.underlying52 hf
  obtain ⟨c0, c1, rfl⟩ := list2 l hsz
  obtain ⟨_, g0⟩ := fld hg hxs 0 3 0 1 _ rfl rfl rfl Try.cells3
  obtain ⟨_, g1⟩ := fld hg hxs 1 3 1 1 _ rfl rfl rfl Try.cells3
  obtain ⟨a, h0⟩ := int_form g0
  obtain ⟨b, h1⟩ := int_form g1
  simp [Value.cells] at h0 h1
  exact ⟨a, b, by simp [h0, h1]⟩
end
end Go.Proofs.Ytajabapcmpmboaa
