/- Proved here: 'flonglaw01.MetalMixed' returns true for every shop, every other pot and every list of numbers, and each argument reads behind the call as it did before. Conditions: none. -/
import Derived.Test.YtnlgchgpnfkjeaaPM
import Derived.Test.YtnlgchgpnfkjeaaNA
import Derived.Test.YtnlgchgpnfkjeaaRows
import Derived.ChangeOld
namespace Go.Proofs.Ytnlgchgpnfkjeaa
set_option linter.unusedVariables false
set_option linter.unusedSimpArgs false
open Go.ChangeShapes Go.WideShapes Go.ChangeAt Go.RowKit

theorem metalMixed_any (s : Shop) (a : Option Addr) (len cap : Nat) (q b1 b2 c1 c2 : Int) (x : Option Addr) (xlen xcap : Nat) (ns : List Int) (w : World) (hp : PigsAt w a len s.pigs) (hx : IntsAt w x xlen ns) :
    Calls Try.prog 12 #[.agg #[.int .i64 s.P, .int .i64 s.tl, .int .i64 s.th, .int .i64 s.al, .int .i64 s.ah, .int .i64 s.room, .int .i64 s.xl, .int .i64 s.xh, .int .i64 s.yl, .int .i64 s.yh, .slice a len cap], .agg #[.int .i64 q, .int .i64 b1, .int .i64 b2, .int .i64 c1, .int .i64 c2], .slice x xlen xcap] w fun e w' => e = .returned (.bool true) ∧ Below w.heap.size w w' := by
  rcases hr : s.ok with - | -
  · exact mixed_no1 s a len cap q b1 b2 c1 c2 x xlen xcap ns w hp hx hr (by intro h; cases h) (by intro h; cases h)
  rcases hpo : potB q b1 b2 c1 c2 with - | -
  · exact mixed_no2 s a len cap q b1 b2 c1 c2 x xlen xcap ns w hp hx hr (fun _ => hpo) (by intro _ h; cases h)
  rcases hn : s.isAdd ns with - | -
  · exact mixed_no3 s a len cap q b1 b2 c1 c2 x xlen xcap ns w hp hx hr (fun _ => hpo) (fun _ _ => hn)
  have hm : s.mixCode q b1 b2 c1 c2 = 0 ∨ s.mixCode q b1 b2 c1 c2 = 1 := by
    simp only [Shop.mixCode, hr, hpo, Bool.true_and, if_true]
    cases decide (s.P + q ≤ s.room) <;> simp
  rcases hm with hm | hm
  · exact mixed_ok s a len cap q b1 b2 c1 c2 x xlen xcap ns w hp hx hr hpo hn hm
  · exact mixed_bad s a len cap q b1 b2 c1 c2 x xlen xcap ns w hp hx hr hpo hn hm

set_option maxRecDepth 100000 in
theorem mixed_lifted (os : Os) (started : os.Started) (H : Type) (enc : TypeId × Value → H) :
    ReturnsInHanded {} Try.checked os 12 .any (Rows.metalMixedSpec.pre6 enc Try.prog Try.f12 Rows.metalMixedRow.domain false) (Rows.metalMixedSpec.post enc Try.prog Try.f12 false true false false) := by
  refine returnsInHanded_of_change (C := Try.checked) Try.own started (by kernel_rfl) Try.func12
    (ChangeSpec.witness6 (enc := enc) (C := Try.checked) false ⟨#[], #[.agg #[.int .i64 0, .int .i64 0, .int .i64 0, .int .i64 0, .int .i64 0, .int .i64 0, .int .i64 0, .int .i64 0, .int .i64 0, .int .i64 0, .slice none 0 0], .agg #[.int .i64 0, .int .i64 0, .int .i64 0, .int .i64 0, .int .i64 0], .slice none 0 0], []⟩ 8 (by kernel_rfl) (by kernel_rfl) (by kernel_rfl) (by kernel_rfl)) ?_
  intro W base args ds gs before hval0 hW hcnd _
  have hval : ∀ (j : Nat) t v, Try.f12.params[j]? = some t → args[j]? = some v → Value.okWide Try.prog W .any base t v := hval0
  have hW' := hW
  obtain ⟨p, q, hA0, hV, rfl, hfz, hnd⟩ := hW
  have hA : DataW.TrodAll enc Try.prog W 0 (fun _ => true) true Try.f12.params.toList args.toList ds p := hA0
  rw [Try.params12] at hA hval
  obtain ⟨v0, v1, v2, d0, d1, d2, p0, p1, p2, rfl, rfl, rfl, h0, h1, h2⟩ := trodAll_three hA
  obtain ⟨rfl, rfl⟩ := trodVars_none hV
  have lt0 : ∀ x ∈ p0, x.block < W.heap.size := by obtain ⟨m, hm⟩ := h0; exact DataW.trod_lt m _ _ _ hm
  have lt1 : ∀ x ∈ p1, x.block < W.heap.size := by obtain ⟨m, hm⟩ := h1; exact DataW.trod_lt m _ _ _ hm
  have lt2 : ∀ x ∈ p2, x.block < W.heap.size := by obtain ⟨m, hm⟩ := h2; exact DataW.trod_lt m _ _ _ hm
  obtain ⟨s, a, len, cap, rfl, hp⟩ := shop_open (hval 0 28 v0 rfl rfl) h0
  obtain ⟨pq, b1, b2, c1, c2, rfl⟩ := pot_open (hval 1 25 v1 rfl rfl) h1
  obtain ⟨x, xlen, xcap, ns, rfl, hx⟩ := ints_open (hval 2 29 v2 rfl rfl) h2
  clear hA0 hval0
  refine (metalMixed_any s a len cap pq b1 b2 c1 c2 x xlen xcap ns W hp hx).mono fun e W' ⟨he, bel⟩ => ?_
  subst he
  exact ⟨_, rfl, _, _, _, [], _, [], hW', trodAll_mk1 (shut_bool Try.underlying4 _), (trodAll_mk3 (Below.trod Try.laidOut (by kernel_rfl) (of_decide_eq_true (by kernel_rfl)) h0 bel lt0) (Below.trod Try.laidOut (by kernel_rfl) (of_decide_eq_true (by kernel_rfl)) h1 bel lt1) (Below.trod Try.laidOut (by kernel_rfl) (of_decide_eq_true (by kernel_rfl)) h2 bel lt2)), rfl, bel.frame _, fun h => by cases h⟩

theorem metalMixed_holds : Rows.MetalMixedSaid :=
  OpenClaim.holds_of_wide 12 Try.f12 rfl rfl rfl rfl rfl rfl rfl ⟨rfl, rfl, rfl, rfl, rfl⟩ rfl rfl rfl rfl rfl (by kernel_rfl) Try.func12 (by kernel_rfl)
    (of_decide_eq_true (by kernel_rfl)) (by unfold Func.isWrapper; first | (rw [if_pos (by decide +kernel)]; kernel_rfl) | (rw [if_neg (by decide +kernel)]; exact ⟨rfl, rfl⟩))
    (fun os started H enc _ => mixed_lifted os started H enc)
end Go.Proofs.Ytnlgchgpnfkjeaa
