/- Proved here: 'flonglaw01.MetalAnalysis' returns true for every shop and every truth, and each argument reads behind the call as it did before. Conditions: none. -/
import Derived.Test.YtnlgchgpnfkjeaaPL
import Derived.Test.YtnlgchgpnfkjeaaNA
import Derived.Test.YtnlgchgpnfkjeaaRows
import Derived.ChangeOld
namespace Go.Proofs.Ytnlgchgpnfkjeaa
set_option linter.unusedVariables false
set_option linter.unusedSimpArgs false
open Go.ChangeShapes Go.WideShapes Go.ChangeAt Go.RowKit

theorem metalAnalysis_any (s : Shop) (a : Option Addr) (len cap : Nat) (ta tb : Int) (w : World) (hp : PigsAt w a len s.pigs) :
    Calls Try.prog 14 #[.agg #[.int .i64 s.P, .int .i64 s.tl, .int .i64 s.th, .int .i64 s.al, .int .i64 s.ah, .int .i64 s.room, .int .i64 s.xl, .int .i64 s.xh, .int .i64 s.yl, .int .i64 s.yh, .slice a len cap], .agg #[.int .i64 ta, .int .i64 tb]] w fun e w' => e = .returned (.bool true) ∧ Below w.heap.size w w' := by
  rcases hr : s.ok with - | -
  · exact analysis_no1 s a len cap ta tb w hp hr (by intro h; cases h)
  rcases ht : truthB s ta tb with - | -
  · exact analysis_no2 s a len cap ta tb w hp hr (fun _ => ht)
  obtain ⟨lo, hi, -, hana⟩ := ana_ok hr ht
  rcases hana.worth with ⟨hw, -⟩ | ⟨hw, -⟩
  · exact analysis_all s a len cap ta tb w hp hr ht (hana.both hw) hw
  · rcases hana.known with hk | hk
    · exact analysis_cheap s a len cap ta tb w hp hr ht hk hw
    · exact analysis_none s a len cap ta tb w hp hr ht hk hw

set_option maxRecDepth 100000 in
theorem analysis_lifted (os : Os) (started : os.Started) (H : Type) (enc : TypeId × Value → H) :
    ReturnsInHanded {} Try.checked os 14 .any (Rows.metalAnalysisSpec.pre6 enc Try.prog Try.f14 Rows.metalAnalysisRow.domain false) (Rows.metalAnalysisSpec.post enc Try.prog Try.f14 false true false false) := by
  refine returnsInHanded_of_change (C := Try.checked) Try.own started (by kernel_rfl) Try.func14
    (ChangeSpec.witness6 (enc := enc) (C := Try.checked) false ⟨#[], #[.agg #[.int .i64 0, .int .i64 0, .int .i64 0, .int .i64 0, .int .i64 0, .int .i64 0, .int .i64 0, .int .i64 0, .int .i64 0, .int .i64 0, .slice none 0 0], .agg #[.int .i64 0, .int .i64 0]], []⟩ 8 (by kernel_rfl) (by kernel_rfl) (by kernel_rfl) (by kernel_rfl)) ?_
  intro W base args ds gs before hval0 hW hcnd _
  have hval : ∀ (j : Nat) t v, Try.f14.params[j]? = some t → args[j]? = some v → Value.okWide Try.prog W .any base t v := hval0
  have hW' := hW
  obtain ⟨p, q, hA0, hV, rfl, hfz, hnd⟩ := hW
  have hA : DataW.TrodAll enc Try.prog W 0 (fun _ => true) true Try.f14.params.toList args.toList ds p := hA0
  rw [Try.params14] at hA hval
  obtain ⟨v0, v1, d0, d1, p0, p1, rfl, rfl, rfl, h0, h1⟩ := trodAll_two hA
  obtain ⟨rfl, rfl⟩ := trodVars_none hV
  have lt0 : ∀ x ∈ p0, x.block < W.heap.size := by obtain ⟨m, hm⟩ := h0; exact DataW.trod_lt m _ _ _ hm
  have lt1 : ∀ x ∈ p1, x.block < W.heap.size := by obtain ⟨m, hm⟩ := h1; exact DataW.trod_lt m _ _ _ hm
  obtain ⟨s, a, len, cap, rfl, hp⟩ := shop_open (hval 0 28 v0 rfl rfl) h0
  obtain ⟨ta, tb, rfl⟩ := truth_open (hval 1 52 v1 rfl rfl) h1
  clear hA0 hval0
  refine (metalAnalysis_any s a len cap ta tb W hp).mono fun e W' ⟨he, bel⟩ => ?_
  subst he
  exact ⟨_, rfl, _, _, _, [], _, [], hW', trodAll_mk1 (shut_bool Try.underlying4 _), (trodAll_mk2 (Below.trod Try.laidOut (by kernel_rfl) (of_decide_eq_true (by kernel_rfl)) h0 bel lt0) (Below.trod Try.laidOut (by kernel_rfl) (of_decide_eq_true (by kernel_rfl)) h1 bel lt1)), rfl, bel.frame _, fun h => by cases h⟩

theorem metalAnalysis_holds : Rows.MetalAnalysisSaid :=
  OpenClaim.holds_of_wide 14 Try.f14 rfl rfl rfl rfl rfl rfl rfl ⟨rfl, rfl, rfl, rfl, rfl⟩ rfl rfl rfl rfl rfl (by kernel_rfl) Try.func14 (by kernel_rfl)
    (of_decide_eq_true (by kernel_rfl)) (by unfold Func.isWrapper; first | (rw [if_pos (by decide +kernel)]; kernel_rfl) | (rw [if_neg (by decide +kernel)]; exact ⟨rfl, rfl⟩))
    (fun os started H enc _ => analysis_lifted os started H enc)
end Go.Proofs.Ytnlgchgpnfkjeaa
