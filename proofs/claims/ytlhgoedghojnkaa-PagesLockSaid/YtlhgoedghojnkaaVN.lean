/- A piece that came in by value. -/
import Derived.Test.YtlhgoedghojnkaaUC
import Derived.WideShapes
namespace Go.Proofs.Ytlhgoedghojnkaa
set_option linter.unusedVariables false
set_option linter.unusedSimpArgs false
open Go.RowKit Go.ChangeShapes Go.WideShapes Go.Deep

section
variable {H : Type} {enc : TypeId × Value → H} {w : World} {base : Nat} {held : Bool}
set_option maxRecDepth 100000 in
/-- A piece that came in by value. -/
theorem piece_open {v : Value} {d : DataW H} {p : List MemPlace} {r : Reach} {b0 : Nat} (hv : Value.okWide Try.prog w r b0 43 v) (h : DataW.Trod enc Try.prog w base (fun _ => true) held 43 v d p) :
    ∃ (a b c : Int), v = .agg #[.int .i64 a, .int .i64 b, .int .i64 c] := by
  obtain ⟨cs, rfl, hsz⟩ := okWide_struct Try.underlying43 hv
  obtain ⟨l⟩ := cs
  obtain ⟨fuel, hf⟩ := h
  obtain ⟨q, hq⟩ := piece_form hf
  simp [Value.cells] at hq
  exact ⟨q.lo, q.hi, q.pe, by simp [hq]⟩
end
end Go.Proofs.Ytlhgoedghojnkaa
