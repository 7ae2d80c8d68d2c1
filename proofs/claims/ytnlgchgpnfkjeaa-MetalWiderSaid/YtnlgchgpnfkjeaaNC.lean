/- Proved here: 'flonglaw01.MetalWider' returns true for every shop, all other limits and every list of numbers, and each argument reads behind the call as it did before. Conditions: none. -/
import Derived.Test.YtnlgchgpnfkjeaaMI
import Derived.Test.YtnlgchgpnfkjeaaNA
import Derived.Test.YtnlgchgpnfkjeaaRows
import Derived.ChangeOld
namespace Go.Proofs.Ytnlgchgpnfkjeaa
set_option linter.unusedVariables false
set_option linter.unusedSimpArgs false
open Go.ChangeShapes Go.WideShapes Go.ChangeAt Go.RowKit

theorem wider_any (s : Shop) (a : Option Addr) (len cap : Nat) (b1 b2 c1 c2 : Int) (x : Option Addr) (xlen xcap : Nat) (ns : List Int) (w : World) (hp : PigsAt w a len s.pigs) (hx : IntsAt w x xlen ns) :
    Calls Try.prog 9 #[.agg #[.int .i64 s.P, .int .i64 s.tl, .int .i64 s.th, .int .i64 s.al, .int .i64 s.ah, .int .i64 s.room, .int .i64 s.xl, .int .i64 s.xh, .int .i64 s.yl, .int .i64 s.yh, .slice a len cap], .agg #[.int .i64 b1, .int .i64 b2, .int .i64 c1, .int .i64 c2], .slice x xlen xcap] w fun e w' => e = .returned (.bool true) ∧ Below w.heap.size w w' := by
  rcases hr : s.ok with - | -
  · exact wider_no1 s a len cap b1 b2 c1 c2 x xlen xcap ns w hp hx hr (fun h => by cases h) (fun h => by cases h)
  rcases h1 : insideB s.xl s.xh b1 b2 with - | -
  · exact wider_no2 s a len cap b1 b2 c1 c2 x xlen xcap ns w hp hx hr (fun _ => h1) (fun _ h => by cases h)
  rcases h2 : insideB s.yl s.yh c1 c2 with - | -
  · exact wider_no3 s a len cap b1 b2 c1 c2 x xlen xcap ns w hp hx hr (fun _ => h1) (fun _ _ => h2)
  rcases ho : (s.wide b1 b2 c1 c2).ok with - | -
  · exact wider_no4 s a len cap b1 b2 c1 c2 x xlen xcap ns w hp hx hr h1 h2 ho
  rcases hn : s.isAdd ns with - | -
  · exact wider_notAdd s a len cap b1 b2 c1 c2 x xlen xcap ns w hp hx hr h1 h2 ho hn
  · exact wider_yes s a len cap b1 b2 c1 c2 x xlen xcap ns w hp hx hr h1 h2 ho hn

section
variable {H : Type} {enc : TypeId × Value → H} {w : World} {base : Nat} {spare : Nat → Bool} {held : Bool}
theorem Try.cells66 : Try.prog.cellsOf 66 = 4 := by kernel_rfl
theorem list4 {α : Type} : ∀ (l : List α), l.length = 4 → ∃ a b c d, l = [a, b, c, d]
  | [a, b, c, d], _ => ⟨a, b, c, d, rfl⟩
set_option maxRecDepth 100000 in
/-- Other limits that came in. -/
theorem parts_open {v : Value} {d : DataW H} {p : List MemPlace} {r : Reach} {b0 : Nat} (hv : Value.okWide Try.prog w r b0 66 v) (h : DataW.Trod enc Try.prog w base spare held 66 v d p) :
    ∃ (a b c d : Int), v = .agg #[.int .i64 a, .int .i64 b, .int .i64 c, .int .i64 d] := by
  obtain ⟨cs, rfl, hsz⟩ := okWide_struct Try.underlying66 hv
  rw [Try.cells66] at hsz
  obtain ⟨l⟩ := cs
  obtain ⟨fuel, hf⟩ := h
  obtain ⟨xs, m, _, _, _, hxs, hg⟩ := DataW.trod_struct Try.underlying66 hf
  obtain ⟨c0, c1, c2, c3, rfl⟩ := list4 l hsz
  obtain ⟨_, g0⟩ := fld hg hxs 0 23 0 2 _ rfl rfl rfl Try.cells23
  obtain ⟨_, g1⟩ := fld hg hxs 1 23 2 2 _ rfl rfl rfl Try.cells23
  obtain ⟨a, b, h0⟩ := span_form g0
  obtain ⟨c, d, h1⟩ := span_form g1
  simp [Value.cells] at h0 h1
  exact ⟨a, b, c, d, by simp [h0, h1]⟩
end

set_option maxRecDepth 100000 in
theorem wider_lifted (os : Os) (started : os.Started) (H : Type) (enc : TypeId × Value → H) :
    ReturnsInHanded {} Try.checked os 9 .any (Rows.metalWiderSpec.pre6 enc Try.prog Try.f9 Rows.metalWiderRow.domain false) (Rows.metalWiderSpec.post enc Try.prog Try.f9 false true false false) := by
  refine returnsInHanded_of_change (C := Try.checked) Try.own started (by kernel_rfl) Try.func9
    (ChangeSpec.witness6 (enc := enc) (C := Try.checked) false ⟨#[], #[.agg #[.int .i64 0, .int .i64 0, .int .i64 0, .int .i64 0, .int .i64 0, .int .i64 0, .int .i64 0, .int .i64 0, .int .i64 0, .int .i64 0, .slice none 0 0], .agg #[.int .i64 0, .int .i64 0, .int .i64 0, .int .i64 0], .slice none 0 0], []⟩ 8 (by kernel_rfl) (by kernel_rfl) (by kernel_rfl) (by kernel_rfl)) ?_
  intro W base args ds gs before hval0 hW hcnd _
  have hval : ∀ (j : Nat) t v, Try.f9.params[j]? = some t → args[j]? = some v → Value.okWide Try.prog W .any base t v := hval0
  have hW' := hW
  obtain ⟨p, q, hA0, hV, rfl, hfz, hnd⟩ := hW
  have hA : DataW.TrodAll enc Try.prog W 0 (fun _ => true) true Try.f9.params.toList args.toList ds p := hA0
  rw [Try.params9] at hA hval
  obtain ⟨v0, v1, v2, d0, d1, d2, p0, p1, p2, rfl, rfl, rfl, h0, h1, h2⟩ := trodAll_three hA
  obtain ⟨rfl, rfl⟩ := trodVars_none hV
  have lt0 : ∀ x ∈ p0, x.block < W.heap.size := by obtain ⟨m, hm⟩ := h0; exact DataW.trod_lt m _ _ _ hm
  have lt1 : ∀ x ∈ p1, x.block < W.heap.size := by obtain ⟨m, hm⟩ := h1; exact DataW.trod_lt m _ _ _ hm
  have lt2 : ∀ x ∈ p2, x.block < W.heap.size := by obtain ⟨m, hm⟩ := h2; exact DataW.trod_lt m _ _ _ hm
  obtain ⟨s, a, len, cap, rfl, hp⟩ := shop_open (hval 0 28 v0 rfl rfl) h0
  obtain ⟨b1, b2, c1, c2, rfl⟩ := parts_open (hval 1 66 v1 rfl rfl) h1
  obtain ⟨x, xlen, xcap, ns, rfl, hx⟩ := ints_open (hval 2 29 v2 rfl rfl) h2
  clear hA0 hval0
  refine (wider_any s a len cap b1 b2 c1 c2 x xlen xcap ns W hp hx).mono fun e W' ⟨he, bel⟩ => ?_
  subst he
  exact ⟨_, rfl, _, _, _, [], _, [], hW', trodAll_mk1 (shut_bool Try.underlying4 _), (trodAll_mk3 (Below.trod Try.laidOut (by kernel_rfl) (of_decide_eq_true (by kernel_rfl)) h0 bel lt0) (Below.trod Try.laidOut (by kernel_rfl) (of_decide_eq_true (by kernel_rfl)) h1 bel lt1) (Below.trod Try.laidOut (by kernel_rfl) (of_decide_eq_true (by kernel_rfl)) h2 bel lt2)), rfl, bel.frame _, fun h => by cases h⟩

theorem metalWider_holds : Rows.MetalWiderSaid :=
  OpenClaim.holds_of_wide 9 Try.f9 rfl rfl rfl rfl rfl rfl rfl ⟨rfl, rfl, rfl, rfl, rfl⟩ rfl rfl rfl rfl rfl (by kernel_rfl) Try.func9 (by kernel_rfl)
    (of_decide_eq_true (by kernel_rfl)) (by unfold Func.isWrapper; first | (rw [if_pos (by decide +kernel)]; kernel_rfl) | (rw [if_neg (by decide +kernel)]; exact ⟨rfl, rfl⟩))
    (fun os started H enc _ => wider_lifted os started H enc)
end Go.Proofs.Ytnlgchgpnfkjeaa
