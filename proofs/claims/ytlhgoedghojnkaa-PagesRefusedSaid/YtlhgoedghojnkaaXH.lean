/- What is refused, with its pence. -/
import Derived.Test.YtlhgoedghojnkaaVZ
namespace Go.Proofs.Ytlhgoedghojnkaa
set_option linter.unusedVariables false
set_option linter.unusedSimpArgs false
open Go.RowKit Go.Shelf

theorem out_none {f : PFrame} (ho : f.ok = false) : f.outL = [] ∧ f.outErr = 30 ∧ f.outP = 0 := by
  unfold PFrame.outL PFrame.outErr PFrame.outP PFrame.out
  rw [ho]
  exact ⟨rfl, rfl, rfl⟩
theorem out_is {f : PFrame} (ho : f.ok = true) : (f.refK = none ∧ f.outL = [] ∧ f.outErr = 3 ∧ f.outP = 0) ∨ (f.refK = some f.outL ∧ f.outErr = 0 ∧ f.outP = f.penL f.outL ∧ (∀ y ∈ f.outL, 0 ≤ y ∧ y < (f.pieces.length : Int)) ∧ f.outL.length ≤ 6) := by
  have h6 := (PFrame.ok_parts ho).2.2.2.2.2.1
  unfold PFrame.outL PFrame.outErr PFrame.outP
  rcases refuse_are ho with ⟨h1, h2⟩ | ⟨c, hc, h1, h2⟩
  · rw [h2, ho]; exact .inl ⟨h1, rfl, rfl, rfl⟩
  · rw [h1]
    have hin := lis_in h6 ((lis_mem h6).2.1 c hc)
    exact .inr ⟨h2, rfl, pay_pen f c _, hin.1, hin.2⟩
end Go.Proofs.Ytlhgoedghojnkaa
