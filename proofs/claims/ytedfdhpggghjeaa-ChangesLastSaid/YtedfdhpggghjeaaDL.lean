/- The arguments of the laws of changes, opened. -/
import Derived.Test.YtedfdhpggghjeaaCA
import Derived.ProofKit
import Derived.Deep.Slices
import Derived.WideShapes
namespace Go.Proofs.Ytedfdhpggghjeaa
set_option linter.unusedVariables false
set_option linter.unusedSimpArgs false
open Go.RowKit Go.ChangeShapes Go.WideShapes Go.Deep

theorem Try.own : ownKnob Try.prog.godebug = none := by kernel_rfl
theorem Try.laidOut : laidOutB Try.prog = true := by kernel_rfl
theorem Try.cells25 : Try.prog.cellsOf 25 = 2 := by kernel_rfl
theorem Try.cells59 : Try.prog.cellsOf 59 = 4 := by kernel_rfl
theorem Try.cells52 : Try.prog.cellsOf 52 = 3 := by kernel_rfl
theorem Try.cells22 : Try.prog.cellsOf 22 = 1 := by kernel_rfl
theorem Try.cells23 : Try.prog.cellsOf 23 = 1 := by kernel_rfl
theorem Try.cells39 : Try.prog.cellsOf 39 = 1 := by kernel_rfl
theorem Try.cells3 : Try.prog.cellsOf 3 = 1 := by kernel_rfl
theorem Try.cells27 : Try.prog.cellsOf 27 = 3 := by kernel_rfl
theorem Try.cells65 : Try.prog.cellsOf 65 = 2 := by kernel_rfl

section
variable {H : Type} {enc : TypeId × Value → H} {w : World} {base : Nat} {spare : Nat → Bool} {held : Bool}

theorem fld {fs : Array Field} {xs : List (DataW H × List MemPlace)} {m : Nat} {cs : List Value} (hg : ∀ (i : Nat) (f : Field), fs[i]? = some f → DataW.trod enc Try.prog w base spare held m f.type (List.take (Try.prog.cellsOf f.type) (List.drop f.offset cs)) = xs[i]?)
    (hl : xs.length = fs.size) (j t off k : Nat) (f : Field) (hf : fs[j]? = some f) (ht : f.type = t) (ho : f.offset = off) (hk : Try.prog.cellsOf t = k) : ∃ y, DataW.trod enc Try.prog w base spare held m t (List.take k (List.drop off cs)) = some y := by
  have h := hg j f hf
  have hj : j < xs.length := by rw [hl]; exact (Array.getElem?_eq_some_iff.1 hf).1
  rw [ht, ho, hk, List.getElem?_eq_getElem hj] at h
  exact ⟨_, h⟩

theorem list2 {α : Type} : ∀ (l : List α), l.length = 2 → ∃ a b, l = [a, b]
  | [a, b], _ => ⟨a, b, rfl⟩
theorem list3 {α : Type} : ∀ (l : List α), l.length = 3 → ∃ a b c, l = [a, b, c]
  | [a, b, c], _ => ⟨a, b, c, rfl⟩
theorem list4 {α : Type} : ∀ (l : List α), l.length = 4 → ∃ a b c d, l = [a, b, c, d]
  | [a, b, c, d], _ => ⟨a, b, c, d, rfl⟩
theorem int_form {n : Nat} {cs : List Value} {x : DataW H × List MemPlace} (h : DataW.trod enc Try.prog w base spare held n 3 cs = some x) : ∃ a, cs = [.int .i64 a] := by
  obtain ⟨a, h1, _⟩ := DataW.trod_int Try.underlying3 h
  exact ⟨a, h1⟩

theorem thing_form {n : Nat} {cs : List Value} {x : DataW H × List MemPlace} (h : DataW.trod enc Try.prog w base spare held n 59 cs = some x) : ∃ p : CThing, cs = [.int .i64 p.o, .int .i64 p.a, .int .i64 p.c, .int .i64 p.p] := by
  obtain ⟨xs, m, _, _, hl, hxs, hg⟩ := DataW.trod_struct Try.underlying59 h
  rw [Try.cells59] at hl
  obtain ⟨c0, c1, c2, c3, rfl⟩ := list4 cs hl
  obtain ⟨_, g0⟩ := fld hg hxs 0 3 0 1 _ rfl rfl rfl Try.cells3
  obtain ⟨_, g1⟩ := fld hg hxs 1 3 1 1 _ rfl rfl rfl Try.cells3
  obtain ⟨_, g2⟩ := fld hg hxs 2 3 2 1 _ rfl rfl rfl Try.cells3
  obtain ⟨_, g3⟩ := fld hg hxs 3 3 3 1 _ rfl rfl rfl Try.cells3
  obtain ⟨a0, h0⟩ := int_form g0
  obtain ⟨a1, h1⟩ := int_form g1
  obtain ⟨a2, h2⟩ := int_form g2
  obtain ⟨a3, h3⟩ := int_form g3
  simp at h0 h1 h2 h3
  exact ⟨⟨a0, a1, a2, a3⟩, by rw [h0, h1, h2, h3]⟩
theorem mark_form {n : Nat} {cs : List Value} {x : DataW H × List MemPlace} (h : DataW.trod enc Try.prog w base spare held n 52 cs = some x) : ∃ p : CMark, cs = [.int .i64 p.c, .int .i64 p.t, .int .i64 p.a] := by
  obtain ⟨xs, m, _, _, hl, hxs, hg⟩ := DataW.trod_struct Try.underlying52 h
  rw [Try.cells52] at hl
  obtain ⟨c0, c1, c2, rfl⟩ := list3 cs hl
  obtain ⟨_, g0⟩ := fld hg hxs 0 3 0 1 _ rfl rfl rfl Try.cells3
  obtain ⟨_, g1⟩ := fld hg hxs 1 3 1 1 _ rfl rfl rfl Try.cells3
  obtain ⟨_, g2⟩ := fld hg hxs 2 3 2 1 _ rfl rfl rfl Try.cells3
  obtain ⟨a0, h0⟩ := int_form g0
  obtain ⟨a1, h1⟩ := int_form g1
  obtain ⟨a2, h2⟩ := int_form g2
  simp at h0 h1 h2
  exact ⟨⟨a0, a1, a2⟩, by rw [h0, h1, h2]⟩

instance : Inhabited CThing := ⟨⟨0, 0, 0, 0⟩⟩
instance : Inhabited CMark := ⟨⟨0, 0, 0⟩⟩
theorem addr_at (b o j : Nat) : (⟨b, o, none⟩ : Addr).add j = ⟨b, o + j, none⟩ := Addr.add_lit _ _ _

theorem things_form {n : Nat} {v : Value} {x : DataW H × List MemPlace} (h : DataW.trod enc Try.prog w base (fun _ => true) held n 22 [v] = some x) : ∃ a len cap ps, v = .slice a len cap ∧ ThingsAt w a len ps ∧ len ≤ cap ∧ cap ≤ maxLen := by
  rcases open_slice Try.underlying22 h with ⟨h0, _⟩ | ⟨a, len, cap, m, n', D, Pl, hcs, hb, hl, hm, hmm, hx, hi⟩
  · simp at h0
    exact ⟨none, 0, 0, [], h0, ⟨rfl, by decide, fun h => by omega⟩, by decide, by decide⟩
  · simp at hcs
    simp at hmm
    subst hmm
    obtain ⟨f, hf⟩ := choose_lt (α := CThing) (n := m) (p := fun i p => ∀ j u, [Value.int .i64 p.o, .int .i64 p.a, .int .i64 p.c, .int .i64 p.p][j]? = some u → w.cell? ((a.add (i * 4)).add j) = some u) (fun i him => by
      obtain ⟨cs', hc, ht⟩ := hi i him
      rw [Try.cells59] at hc
      obtain ⟨p, rfl⟩ := thing_form ht
      obtain ⟨_, _, hat⟩ := World.cells?_some hc
      refine ⟨p, fun j u hj => ?_⟩
      have hj5 : j < 4 := by have := (List.getElem?_eq_some_iff.1 hj).1; simpa using this
      rw [hat j hj5]; exact hj)
    refine ⟨some a, len, m, (List.range len).map f, hcs, ⟨by simp, by omega, fun h0 => ?_⟩, by omega, by omega⟩
    obtain ⟨b, o, sp⟩ := a
    have hc0 := hf 0 (by omega) 0 _ rfl
    obtain rfl : sp = none := by have := World.cell?_spot hc0; simpa [Addr.add] using this
    rw [addr_at, addr_at] at hc0
    refine ⟨b, o, rfl, World.block_lt_of_cell? _ _ hc0, fun i hi' => ?_⟩
    have him : i < m := by simp at hi'; omega
    have hk := hf i him
    simp only [List.getElem_map, List.getElem_range]
    have key : ∀ j u, [Value.int .i64 (f i).o, .int .i64 (f i).a, .int .i64 (f i).c, .int .i64 (f i).p][j]? = some u → w.cell? ⟨b, o + i * 4 + j, none⟩ = some u := fun j u hu => by
      have := hk j u hu
      rwa [addr_at, addr_at] at this
    exact ⟨key 0 _ rfl, key 1 _ rfl, key 2 _ rfl, key 3 _ rfl⟩
theorem marks_form {n : Nat} {v : Value} {x : DataW H × List MemPlace} (h : DataW.trod enc Try.prog w base (fun _ => true) held n 23 [v] = some x) : ∃ a len cap ps, v = .slice a len cap ∧ MarksAt w a len ps ∧ len ≤ cap ∧ cap ≤ maxLen := by
  rcases open_slice Try.underlying23 h with ⟨h0, _⟩ | ⟨a, len, cap, m, n', D, Pl, hcs, hb, hl, hm, hmm, hx, hi⟩
  · simp at h0
    exact ⟨none, 0, 0, [], h0, ⟨rfl, by decide, fun h => by omega⟩, by decide, by decide⟩
  · simp at hcs
    simp at hmm
    subst hmm
    obtain ⟨f, hf⟩ := choose_lt (α := CMark) (n := m) (p := fun i p => ∀ j u, [Value.int .i64 p.c, .int .i64 p.t, .int .i64 p.a][j]? = some u → w.cell? ((a.add (i * 3)).add j) = some u) (fun i him => by
      obtain ⟨cs', hc, ht⟩ := hi i him
      rw [Try.cells52] at hc
      obtain ⟨p, rfl⟩ := mark_form ht
      obtain ⟨_, _, hat⟩ := World.cells?_some hc
      refine ⟨p, fun j u hj => ?_⟩
      have hj5 : j < 3 := by have := (List.getElem?_eq_some_iff.1 hj).1; simpa using this
      rw [hat j hj5]; exact hj)
    refine ⟨some a, len, m, (List.range len).map f, hcs, ⟨by simp, by omega, fun h0 => ?_⟩, by omega, by omega⟩
    obtain ⟨b, o, sp⟩ := a
    have hc0 := hf 0 (by omega) 0 _ rfl
    obtain rfl : sp = none := by have := World.cell?_spot hc0; simpa [Addr.add] using this
    rw [addr_at, addr_at] at hc0
    refine ⟨b, o, rfl, World.block_lt_of_cell? _ _ hc0, fun i hi' => ?_⟩
    have him : i < m := by simp at hi'; omega
    have hk := hf i him
    simp only [List.getElem_map, List.getElem_range]
    have key : ∀ j u, [Value.int .i64 (f i).c, .int .i64 (f i).t, .int .i64 (f i).a][j]? = some u → w.cell? ⟨b, o + i * 3 + j, none⟩ = some u := fun j u hu => by
      have := hk j u hu
      rwa [addr_at, addr_at] at this
    exact ⟨key 0 _ rfl, key 1 _ rfl, key 2 _ rfl⟩
set_option maxRecDepth 100000 in
/-- A house that came in. -/
theorem house_open {v : Value} {d : DataW H} {p : List MemPlace} {r : Reach} {b0 : Nat} (hv : Value.okWide Try.prog w r b0 25 v) (h : DataW.Trod enc Try.prog w base (fun _ => true) held 25 v d p) :
    ∃ (h : CHouse) (ta : Option Addr) (tl tc : Nat) (ma : Option Addr) (ml mc : Nat), v = .agg #[.slice ta tl tc, .slice ma ml mc] ∧ HAt w ta tl tc ma ml mc h := by
  obtain ⟨cs, rfl, hsz⟩ := okWide_struct Try.underlying25 hv
  rw [Try.cells25] at hsz
  obtain ⟨l⟩ := cs
  obtain ⟨fuel, hf⟩ := h
  obtain ⟨xs, m, _, _, _, hxs, hg⟩ := DataW.trod_struct Try.underlying25 hf
  obtain ⟨c0, c1, rfl⟩ := list2 l hsz
  obtain ⟨_, g0⟩ := fld hg hxs 0 22 0 1 _ rfl rfl rfl Try.cells22
  obtain ⟨_, g1⟩ := fld hg hxs 1 23 1 1 _ rfl rfl rfl Try.cells23
  obtain ⟨ta, tl, tc, ts, h0, ht, -, -⟩ := things_form (v := c0) g0
  obtain ⟨ma, ml, mc, ms, h1, hm, hc1, hc2⟩ := marks_form (v := c1) g1
  exact ⟨⟨ts, ms⟩, ta, tl, tc, ma, ml, mc, by simp [h0, h1], ht, hm, hc1, hc2⟩
set_option maxRecDepth 100000 in
theorem ask_open {v : Value} {d : DataW H} {p : List MemPlace} {r : Reach} {b0 : Nat} (hv : Value.okWide Try.prog w r b0 27 v) (h : DataW.Trod enc Try.prog w base (fun _ => true) held 27 v d p) :
    ∃ (a0 a1 a2 : Int), v = .agg #[.int .i64 a0, .int .i64 a1, .int .i64 a2] := by
  obtain ⟨cs, rfl, hsz⟩ := okWide_struct Try.underlying27 hv
  rw [Try.cells27] at hsz
  obtain ⟨l⟩ := cs
  obtain ⟨fuel, hf⟩ := h
  obtain ⟨xs, m, _, _, _, hxs, hg⟩ := DataW.trod_struct Try.underlying27 hf
  obtain ⟨c0, c1, c2, rfl⟩ := list3 l hsz
  obtain ⟨_, g0⟩ := fld hg hxs 0 3 0 1 _ rfl rfl rfl Try.cells3
  obtain ⟨_, g1⟩ := fld hg hxs 1 3 1 1 _ rfl rfl rfl Try.cells3
  obtain ⟨_, g2⟩ := fld hg hxs 2 3 2 1 _ rfl rfl rfl Try.cells3
  obtain ⟨a0, h0⟩ := int_form g0
  obtain ⟨a1, h1⟩ := int_form g1
  obtain ⟨a2, h2⟩ := int_form g2
  simp [Value.cells] at h0 h1 h2
  exact ⟨a0, a1, a2, by simp [h0, h1, h2]⟩
set_option maxRecDepth 100000 in
theorem later_open {v : Value} {d : DataW H} {p : List MemPlace} {r : Reach} {b0 : Nat} (hv : Value.okWide Try.prog w r b0 65 v) (h : DataW.Trod enc Try.prog w base (fun _ => true) held 65 v d p) :
    ∃ (a0 a1 : Int), v = .agg #[.int .i64 a0, .int .i64 a1] := by
  obtain ⟨cs, rfl, hsz⟩ := okWide_struct Try.underlying65 hv
  rw [Try.cells65] at hsz
  obtain ⟨l⟩ := cs
  obtain ⟨fuel, hf⟩ := h
  obtain ⟨xs, m, _, _, _, hxs, hg⟩ := DataW.trod_struct Try.underlying65 hf
  obtain ⟨c0, c1, rfl⟩ := list2 l hsz
  obtain ⟨_, g0⟩ := fld hg hxs 0 3 0 1 _ rfl rfl rfl Try.cells3
  obtain ⟨_, g1⟩ := fld hg hxs 1 3 1 1 _ rfl rfl rfl Try.cells3
  obtain ⟨a0, h0⟩ := int_form g0
  obtain ⟨a1, h1⟩ := int_form g1
  simp [Value.cells] at h0 h1
  exact ⟨a0, a1, by simp [h0, h1]⟩
set_option maxRecDepth 100000 in
theorem amark_open {v : Value} {d : DataW H} {p : List MemPlace} {r : Reach} {b0 : Nat} (hv : Value.okWide Try.prog w r b0 52 v) (h : DataW.Trod enc Try.prog w base (fun _ => true) held 52 v d p) :
    ∃ (a0 a1 a2 : Int), v = .agg #[.int .i64 a0, .int .i64 a1, .int .i64 a2] := by
  obtain ⟨cs, rfl, hsz⟩ := okWide_struct Try.underlying52 hv
  rw [Try.cells52] at hsz
  obtain ⟨l⟩ := cs
  obtain ⟨fuel, hf⟩ := h
  obtain ⟨xs, m, _, _, _, hxs, hg⟩ := DataW.trod_struct Try.underlying52 hf
  obtain ⟨c0, c1, c2, rfl⟩ := list3 l hsz
  obtain ⟨_, g0⟩ := fld hg hxs 0 3 0 1 _ rfl rfl rfl Try.cells3
  obtain ⟨_, g1⟩ := fld hg hxs 1 3 1 1 _ rfl rfl rfl Try.cells3
  obtain ⟨_, g2⟩ := fld hg hxs 2 3 2 1 _ rfl rfl rfl Try.cells3
  obtain ⟨a0, h0⟩ := int_form g0
  obtain ⟨a1, h1⟩ := int_form g1
  obtain ⟨a2, h2⟩ := int_form g2
  simp [Value.cells] at h0 h1 h2
  exact ⟨a0, a1, a2, by simp [h0, h1, h2]⟩
set_option maxRecDepth 100000 in
/-- A slice of numbers that came in. -/
theorem ints_open {v : Value} {d : DataW H} {p : List MemPlace} {r : Reach} {b0 : Nat} (hv : Value.okWide Try.prog w r b0 39 v) (h : DataW.Trod enc Try.prog w base (fun _ => true) held 39 v d p) :
    ∃ a len cap xs, v = .slice a len cap ∧ IntsAt w a len xs := by
  obtain ⟨a, len, cap, rfl⟩ := okWide_slice Try.underlying39 hv
  obtain ⟨fuel, hf⟩ := h
  rcases open_ints Try.underlying39 Try.underlying3 Try.cells3 hf with ⟨hcs, _⟩ | ⟨x, l, c, zs, hcs, _, hl, hm, hz, _, hcell, _⟩
  · simp [Value.cells] at hcs
    obtain ⟨rfl, rfl, rfl⟩ := hcs
    exact ⟨none, 0, 0, [], rfl, rfl, by decide, fun h => by omega⟩
  · simp [Value.cells] at hcs
    obtain ⟨rfl, rfl, rfl⟩ := hcs
    simp at hz
    refine ⟨some x, len, cap, zs.take len, rfl, by simp; omega, by omega, fun h0 => ?_⟩
    obtain ⟨b, o, sp⟩ := x
    have hc0 := hcell 0 (by omega)
    obtain rfl : sp = none := by have := World.cell?_spot hc0; simpa [Addr.add] using this
    refine ⟨b, o, rfl, by rw [addr_at] at hc0; exact World.block_lt_of_cell? _ _ hc0, fun i hi => ?_⟩
    have hil : i < zs.length := by simp at hi; omega
    have := hcell i hil
    rw [addr_at] at this
    rw [this]
    simp [List.getD, hil]

end
end Go.Proofs.Ytedfdhpggghjeaa
