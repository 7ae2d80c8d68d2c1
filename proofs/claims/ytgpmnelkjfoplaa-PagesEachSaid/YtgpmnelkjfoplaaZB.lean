/- Package pages: a copied column without the pieces of a choice. -/
import Derived.Test.YtgpmnelkjfoplaaZA
namespace Go.Proofs.Ytgpmnelkjfoplaa
set_option linter.unusedVariables false
set_option linter.unusedSimpArgs false
open Go.RowKit

theorem OwnI.ints {w : World} {g : Nat} {ys : List Int} (h : OwnI w g 0 ys) (hg : g < w.heap.size) (hm : ys.length ≤ maxLen) : IntsAt w (some ⟨g, 0, none⟩) ys.length ys :=
  ⟨rfl, hm, fun _ => ⟨g, 0, rfl, hg, fun i hi => (h i hi).1⟩⟩
theorem kept_any (c : Nat) (hc : c < 64) (ca : Option Addr) (xl cc : Nat) (x : List Int) (w w1 : World) (hxl : x.length = xl) (hw : (ca = none ∧ xl = 0 ∧ cc = 0) ∨ ∃ g, ca = some ⟨g, 0, none⟩ ∧ RowI w1 w.heap.size g xl cc x) (hb : Below w.heap.size w w1)
    (hv : ∀ i (hi : i < x.length), 0 ≤ x[i] ∧ x[i] < 6) :
    Calls Try.prog 127 #[.slice ca xl cc, .func (.func 120) #[.int .i64 c] #[]] w1 fun e w' => ∃ da dl dc, e = .returned (.slice da dl dc) ∧ IntsAt w' da dl (keepC c x) ∧ Below w.heap.size w w' := by
  have hx : IntsAt w1 ca xl x := by
    rcases hw with ⟨rfl, rfl, rfl⟩ | ⟨g, rfl, hr⟩
    · exact ⟨hxl, by unfold maxLen; omega, fun h => by omega⟩
    · exact hr.ints
  by_cases hi : x.findIdx? (hasI c) = none
  · refine (DeleteFunc_none c hc ca xl cc x w1 hx hv hi).mono ?_
    rintro e w' ⟨rfl, rfl⟩
    exact ⟨ca, xl, cc, rfl, by rw [(idxF_none hi).2]; exact hx, hb⟩
  · rcases hw with ⟨rfl, rfl, rfl⟩ | ⟨g, rfl, hr⟩
    · exact absurd (by rw [List.length_eq_zero_iff.1 hxl]; rfl) hi
    · obtain ⟨p1, p2, p3, -⟩ := hr.parts
      obtain ⟨h1, h2, h3⟩ := hr.holds
      have hle : (keepC c x).length ≤ x.length := List.length_filter_le _ _
      refine (DeleteFunc_some c hc g 0 xl cc x w1 hxl (by omega) p2 p3 h1 (fun t ht => ⟨by rw [Nat.zero_add]; exact h2 t ht, h3 _⟩) hv hi).mono ?_
      rintro e w' ⟨rfl, hg, ho⟩
      exact ⟨_, _, _, rfl, ho.ints (Nat.lt_of_lt_of_le h1 hg.size) (by omega), hb.trans (grown_low hg hb.size (fun r e => by injection e with e; omega))⟩
end Go.Proofs.Ytgpmnelkjfoplaa
