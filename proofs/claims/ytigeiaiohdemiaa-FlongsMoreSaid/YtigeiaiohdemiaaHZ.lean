/- HY HZ, joined. -/
import Derived.Test.YtigeiaiohdemiaaHV
import Derived.Test.YtigeiaiohdemiaaHW
import Derived.Test.YtigeiaiohdemiaaHX
import Derived.Test.YtigeiaiohdemiaaFX
import Derived.Test.YtigeiaiohdemiaaRows
import Derived.ChangeOld
/- FlongsMore: all ways. -/
namespace Go.Proofs.Ytigeiaiohdemiaa
set_option linter.unusedVariables false
set_option linter.unusedSimpArgs false
open Go.RowKit
theorem more_any (s : FShop) (ma : Option Addr) (ml mc : Nat) (wa : Option Addr) (wl wc : Nat) (na : Option Addr) (nl nc : Nat) (n : Int) (xa : Option Addr) (xl xc : Nat) (x : List Int) (w : World) (hp : FAt w ma ml mc wa wl wc na nl nc s) (hx : IntsAt w xa xl x) :
    Calls Try.prog 7 #[.agg #[.slice ma ml mc, .slice wa wl wc, .slice na nl nc, .int .i64 s.fresh], .int .i64 n, .slice xa xl xc] w fun e w' => e = .returned (.bool true) ∧ Below w.heap.size w w' := by
  rcases hk : s.known with - | -
  · exact more_early s ma ml mc wa wl wc na nl nc n xa xl xc w hp hx.2.1 (.inl hk)
  rcases hf : btw n 0 ((nl : Int) - 1) with - | -
  · exact more_early s ma ml mc wa wl wc na nl nc n xa xl xc w hp hx.2.1 (.inr (.inl ⟨hk, hf⟩))
  rcases Nat.lt_or_ge 40 xl with h | h
  · exact more_early s ma ml mc wa wl wc na nl nc n xa xl xc w hp hx.2.1 (.inr (.inr ⟨hk, hf, h⟩))
  obtain ⟨m, rfl, hm⟩ := btw_nat hf
  by_cases e : xl = wl
  · have hpl0 : m < s.wants.length := by rw [hp.2.2.1]; exact hm
    rcases h1 : (s.want m (s.wants[m] + 1)).ok with - | -
    · exact more_long1 s ma ml mc wa wl wc na nl nc m hm xa xl xc x w hp hx hk h e hpl0 h1
    by_cases h2 : (s.want m (s.wants[m] + 1)).newAll = s.newAll
    · exact more_long2 s ma ml mc wa wl wc na nl nc m hm xa xl xc x w hp hx hk h e hpl0 ⟨h1, h2⟩
    · exact more_long3 s ma ml mc wa wl wc na nl nc m hm xa xl xc x w hp hx hk h e hpl0 ⟨h1, h2⟩
  · exact more_short s ma ml mc wa wl wc na nl nc m hm xa xl xc x w hp hx hk h e
end Go.Proofs.Ytigeiaiohdemiaa

/- Proved here: 'flonglaw02.FlongsMore' returns true for every shop, every number and every list of numbers, and each argument reads behind the call as it did before. Conditions: none. -/
namespace Go.Proofs.Ytigeiaiohdemiaa
set_option linter.unusedVariables false
set_option linter.unusedSimpArgs false
open Go.ChangeShapes Go.WideShapes Go.ChangeAt Go.RowKit

set_option maxRecDepth 100000 in
theorem flongsMore_lifted (os : Os) (started : os.Started) (H : Type) (enc : TypeId × Value → H) :
    ReturnsInHanded {} Try.checked os 7 .any (Rows.flongsMoreSpec.pre6 enc Try.prog Try.f7 Rows.flongsMoreRow.domain false) (Rows.flongsMoreSpec.post enc Try.prog Try.f7 false true false false) := by
  refine returnsInHanded_of_change (C := Try.checked) Try.own started (by kernel_rfl) Try.func7
    (ChangeSpec.witness6 (enc := enc) (C := Try.checked) false ⟨#[], #[.agg #[.slice none 0 0, .slice none 0 0, .slice none 0 0, .int .i64 0], .int .i64 0, .slice none 0 0], []⟩ 8 (by kernel_rfl) (by kernel_rfl) (by kernel_rfl) (by kernel_rfl)) ?_
  intro W base args ds gs before hval0 hW hcnd _
  have hval : ∀ (j : Nat) t v, Try.f7.params[j]? = some t → args[j]? = some v → Value.okWide Try.prog W .any base t v := hval0
  have hW' := hW
  obtain ⟨p, q, hA0, hV, rfl, hfz, hnd⟩ := hW
  have hA : DataW.TrodAll enc Try.prog W 0 (fun _ => true) true Try.f7.params.toList args.toList ds p := hA0
  rw [Try.params7] at hA hval
  obtain ⟨v0, v1, v2, d0, d1, d2, p0, p1, p2, rfl, rfl, rfl, h0, h1, h2⟩ := trodAll_three hA
  obtain ⟨rfl, rfl⟩ := trodVars_none hV
  have lt0 : ∀ x ∈ p0, x.block < W.heap.size := by obtain ⟨m, hm⟩ := h0; exact DataW.trod_lt m _ _ _ hm
  have lt1 : ∀ x ∈ p1, x.block < W.heap.size := by obtain ⟨m, hm⟩ := h1; exact DataW.trod_lt m _ _ _ hm
  have lt2 : ∀ x ∈ p2, x.block < W.heap.size := by obtain ⟨m, hm⟩ := h2; exact DataW.trod_lt m _ _ _ hm
  obtain ⟨s, ma, ml, mc, wa, wl, wc, na, nl, nc, rfl, hp⟩ := flong_open (hval 0 26 v0 rfl rfl) h0
  obtain ⟨n1, rfl, -, -, -⟩ := open_int Try.underlying3 (hval 1 3 v1 rfl rfl) h1
  obtain ⟨y2, l2, c2, x2, rfl, hx2⟩ := ints_open (hval 2 24 v2 rfl rfl) h2
  clear hA0 hval0
  refine (more_any s ma ml mc wa wl wc na nl nc n1 y2 l2 c2 x2 W hp hx2).mono fun e W' ⟨he, bel⟩ => ?_
  subst he
  exact ⟨_, rfl, _, _, _, [], _, [], hW', trodAll_mk1 (shut_bool Try.underlying4 _), (trodAll_mk3 (Below.trod Try.laidOut (by kernel_rfl) (of_decide_eq_true (by kernel_rfl)) h0 bel lt0) (Below.trod Try.laidOut (by kernel_rfl) (of_decide_eq_true (by kernel_rfl)) h1 bel lt1) (Below.trod Try.laidOut (by kernel_rfl) (of_decide_eq_true (by kernel_rfl)) h2 bel lt2)), rfl, bel.frame _, fun h => by cases h⟩

theorem flongsMore_holds : Rows.FlongsMoreSaid :=
  OpenClaim.holds_of_wide 7 Try.f7 rfl rfl rfl rfl rfl rfl rfl ⟨rfl, rfl, rfl, rfl, rfl⟩ rfl rfl rfl rfl rfl (by kernel_rfl) Try.func7 (by kernel_rfl)
    (of_decide_eq_true (by kernel_rfl)) (by unfold Func.isWrapper; first | (rw [if_pos (by decide +kernel)]; kernel_rfl) | (rw [if_neg (by decide +kernel)]; exact ⟨rfl, rfl⟩))
    (fun os started H enc _ => flongsMore_lifted os started H enc)
end Go.Proofs.Ytigeiaiohdemiaa
