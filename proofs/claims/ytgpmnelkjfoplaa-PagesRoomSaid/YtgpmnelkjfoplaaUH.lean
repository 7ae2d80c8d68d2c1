/- The arguments of the laws of pages, opened: a place. -/
import Derived.Test.YtgpmnelkjfoplaaUC
namespace Go.Proofs.Ytgpmnelkjfoplaa
set_option linter.unusedVariables false
set_option linter.unusedSimpArgs false
open Go.RowKit Go.ChangeShapes Go.WideShapes Go.Deep

theorem Try.cells58 : Try.prog.cellsOf 58 = 4 := by kernel_rfl
section
variable {H : Type} {enc : TypeId × Value → H} {w : World} {base : Nat} {held : Bool}
theorem list4 {α : Type} : ∀ (l : List α), l.length = 4 → ∃ a b c d, l = [a, b, c, d]
  | [a, b, c, d], _ => ⟨a, b, c, d, rfl⟩
set_option maxRecDepth 100000 in
/-- A place that came in. -/
theorem place_open {v : Value} {d : DataW H} {p : List MemPlace} {r : Reach} {b0 : Nat} (hv : Value.okWide Try.prog w r b0 58 v) (h : DataW.Trod enc Try.prog w base (fun _ => true) held 58 v d p) :
    ∃ (c : Int) (xa : Option Addr) (xl xc : Nat) (x : List Int) (on ot : Int), v = .agg #[.int .i64 c, .slice xa xl xc, .int .i64 on, .int .i64 ot] ∧ IntsAt w xa xl x := by
  obtain ⟨cs, rfl, hsz⟩ := okWide_struct Try.underlying58 hv
  rw [Try.cells58] at hsz
  obtain ⟨l⟩ := cs
  obtain ⟨fuel, hf⟩ := h
  obtain ⟨xs, m, _, _, _, hxs, hg⟩ := DataW.trod_struct Try.underlying58 hf
  obtain ⟨c0, c1, c2, c3, rfl⟩ := list4 l hsz
  obtain ⟨_, g0⟩ := fld hg hxs 0 3 0 1 _ rfl rfl rfl Try.cells3
  obtain ⟨_, g1⟩ := fld hg hxs 1 27 1 1 _ rfl rfl rfl Try.cells27
  obtain ⟨_, g2⟩ := fld hg hxs 2 3 2 1 _ rfl rfl rfl Try.cells3
  obtain ⟨_, g3⟩ := fld hg hxs 3 3 3 1 _ rfl rfl rfl Try.cells3
  obtain ⟨c, h0⟩ := int_form g0
  obtain ⟨xa, xl, xc, x, h1, -, hx⟩ := ints_form g1
  obtain ⟨on, h2⟩ := int_form g2
  obtain ⟨ot, h3⟩ := int_form g3
  simp [Value.cells] at h0 h1 h2 h3
  exact ⟨c, xa, xl, xc, x, on, ot, by simp [h0, h1, h2, h3], hx⟩
end
end Go.Proofs.Ytgpmnelkjfoplaa
