/- Proved here: 'flonglaw07.ChangesLast' returns true for any house, thing, change and minute, and each argument reads behind the call as it did before. Conditions: none. -/
import Derived.Test.YtedfdhpggghjeaaDX
import Derived.Test.YtedfdhpggghjeaaDL
import Derived.Test.YtedfdhpggghjeaaRows
import Derived.ChangeOld
namespace Go.Proofs.Ytedfdhpggghjeaa
set_option linter.unusedVariables false
set_option linter.unusedSimpArgs false
open Go.ChangeShapes Go.WideShapes Go.ChangeAt Go.RowKit

section
open Go.Deep
variable {H : Type} {enc : TypeId × Value → H} {w : World} {base : Nat} {spare : Nat → Bool} {held : Bool}
set_option maxRecDepth 100000 in
/-- A house that came in, with the room of its things. -/
theorem house_open2 {v : Value} {d : DataW H} {p : List MemPlace} {r : Reach} {b0 : Nat} (hv : Value.okWide Try.prog w r b0 25 v) (h : DataW.Trod enc Try.prog w base (fun _ => true) held 25 v d p) :
    ∃ (h : CHouse) (ta : Option Addr) (tl tc : Nat) (ma : Option Addr) (ml mc : Nat), v = .agg #[.slice ta tl tc, .slice ma ml mc] ∧ (tl ≤ tc ∧ tc ≤ maxLen) ∧ HAt w ta tl tc ma ml mc h := by
  obtain ⟨cs, rfl, hsz⟩ := okWide_struct Try.underlying25 hv
  rw [Try.cells25] at hsz
  obtain ⟨l⟩ := cs
  obtain ⟨fuel, hf⟩ := h
  obtain ⟨xs, m, _, _, _, hxs, hg⟩ := DataW.trod_struct Try.underlying25 hf
  obtain ⟨c0, c1, rfl⟩ := list2 l hsz
  obtain ⟨_, g0⟩ := fld hg hxs 0 22 0 1 _ rfl rfl rfl Try.cells22
  obtain ⟨_, g1⟩ := fld hg hxs 1 23 1 1 _ rfl rfl rfl Try.cells23
  obtain ⟨ta, tl, tc, ts, h0, ht, ht1, ht2⟩ := things_form (v := c0) g0
  obtain ⟨ma, ml, mc, ms, h1, hm, hc1, hc2⟩ := marks_form (v := c1) g1
  exact ⟨⟨ts, ms⟩, ta, tl, tc, ma, ml, mc, by simp [h0, h1], ⟨ht1, ht2⟩, ht, hm, hc1, hc2⟩
end
set_option maxRecDepth 100000 in
theorem changesLast_lifted (os : Os) (started : os.Started) (H : Type) (enc : TypeId × Value → H) :
    ReturnsInHanded {} Try.checked os 13 .any (Rows.changesLastSpec.pre6 enc Try.prog Try.f13 Rows.changesLastRow.domain false) (Rows.changesLastSpec.post enc Try.prog Try.f13 false true false false) := by
  refine returnsInHanded_of_change (C := Try.checked) Try.own started (by kernel_rfl) Try.func13
    (ChangeSpec.witness6 (enc := enc) (C := Try.checked) false ⟨#[], #[.agg #[.slice none 0 0, .slice none 0 0], .agg #[.int .i64 0, .int .i64 0, .int .i64 0]], []⟩ 8 (by kernel_rfl) (by kernel_rfl) (by kernel_rfl) (by kernel_rfl)) ?_
  intro W base args ds gs before hval0 hW hcnd _
  have hval : ∀ (j : Nat) t v, Try.f13.params[j]? = some t → args[j]? = some v → Value.okWide Try.prog W .any base t v := hval0
  have hW' := hW
  obtain ⟨p, q, hA0, hV, rfl, hfz, hnd⟩ := hW
  have hA : DataW.TrodAll enc Try.prog W 0 (fun _ => true) true Try.f13.params.toList args.toList ds p := hA0
  rw [Try.params13] at hA hval
  obtain ⟨v0, v1, d0, d1, p0, p1, rfl, rfl, rfl, h0, h1⟩ := trodAll_two hA
  obtain ⟨rfl, rfl⟩ := trodVars_none hV
  have lt0 : ∀ x ∈ p0, x.block < W.heap.size := by obtain ⟨m, hm⟩ := h0; exact DataW.trod_lt m _ _ _ hm
  have lt1 : ∀ x ∈ p1, x.block < W.heap.size := by obtain ⟨m, hm⟩ := h1; exact DataW.trod_lt m _ _ _ hm
  obtain ⟨h, ta, tl, tc, ma, ml, mc, rfl, htc, hp⟩ := house_open2 (hval 0 25 v0 rfl rfl) h0
  obtain ⟨a1, b1, c1, rfl⟩ := ask_open (hval 1 27 v1 rfl rfl) h1
  clear hA0 hval0
  refine (ChangesLast_any h ta tl tc ma ml mc a1 b1 c1 htc W hp).mono fun e W' ⟨he, bel⟩ => ?_
  subst he
  exact ⟨_, rfl, _, _, _, [], _, [], hW', trodAll_mk1 (shut_bool Try.underlying4 _), (trodAll_mk2 (Below.trod Try.laidOut (by kernel_rfl) (of_decide_eq_true (by kernel_rfl)) h0 bel lt0) (Below.trod Try.laidOut (by kernel_rfl) (of_decide_eq_true (by kernel_rfl)) h1 bel lt1)), rfl, bel.frame _, fun h => by cases h⟩

theorem changesLast_holds : Rows.ChangesLastSaid :=
  OpenClaim.holds_of_wide 13 Try.f13 rfl rfl rfl rfl rfl rfl rfl ⟨rfl, rfl, rfl, rfl, rfl⟩ rfl rfl rfl rfl rfl (by kernel_rfl) Try.func13 (by kernel_rfl)
    (of_decide_eq_true (by kernel_rfl)) (by unfold Func.isWrapper; first | (rw [if_pos (by decide +kernel)]; kernel_rfl) | (rw [if_neg (by decide +kernel)]; exact ⟨rfl, rfl⟩))
    (fun os started H enc _ => changesLast_lifted os started H enc)
end Go.Proofs.Ytedfdhpggghjeaa
