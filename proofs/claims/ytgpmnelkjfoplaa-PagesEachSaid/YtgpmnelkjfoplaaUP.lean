/- UO UP, joined. -/
import Derived.Test.YtgpmnelkjfoplaaUM
import Derived.Test.YtgpmnelkjfoplaaUN1
import Derived.Test.YtgpmnelkjfoplaaUN2
import Derived.Test.YtgpmnelkjfoplaaUC
import Derived.Test.YtgpmnelkjfoplaaRows
import Derived.ChangeOld
/- The law of each truth of pages: it holds. -/
namespace Go.Proofs.Ytgpmnelkjfoplaa
set_option linter.unusedVariables false
set_option linter.unusedSimpArgs false
open Go.RowKit

theorem PagesEach_any (f : PFrame) (sa : Option Addr) (sl sc : Nat) (pa : Option Addr) (pl pc : Nat) (ca : Option Addr) (cl cc : Nat) (ha : Option Addr) (hl hc : Nat) (hs : List Int) (c : Int) (xa : Option Addr) (xl xc : Nat) (x : List Int) (on ot : Int) (w : World) (hp : PAt w sa sl sc pa pl pc ca cl cc f) (hh : IntsAt w ha hl hs) (hx : IntsAt w xa xl x) :
    Calls Try.prog 7 #[.agg #[.int .i64 f.len, .int .i64 f.slack, .slice sa sl sc, .slice pa pl pc, .slice ca cl cc], .slice ha hl hc, .agg #[.int .i64 c, .slice xa xl xc, .int .i64 on, .int .i64 ot]] w fun e w' => e = .returned (.bool true) ∧ Below w.heap.size w w' := by
  by_cases hq : f.ready = false ∨ 40 < hl ∨ truthOf f hs = false
  · exact each_early f sa sl sc pa pl pc ca cl cc hs ha hl hc c xa xl xc x on ot hq w hp hh hx
  · have hr : f.ready = true := by
      cases h : f.ready
      · exact absurd (.inl h) hq
      · rfl
    have h40 : hl ≤ 40 := by
      by_cases h : 40 < hl
      · exact absurd (.inr (.inl h)) hq
      · omega
    have ht : truthOf f hs = true := by
      cases h : truthOf f hs
      · exact absurd (.inr (.inr h)) hq
      · rfl
    cases h1 : f.placeB c x <;> cases p1 : btw on 0 ((pl : Int) - 1)
    · exact each_no0 f sa sl sc pa pl pc ca cl cc hs ha hl hc c xa xl xc x on ot hr h40 ht h1 p1 w hp hh hx
    · cases p2 : btw ot 0 ((pl : Int) - 1)
      · exact each_no1 f sa sl sc pa pl pc ca cl cc hs ha hl hc c xa xl xc x on ot hr h40 ht h1 p1 p2 w hp hh hx
      · exact each_no2 f sa sl sc pa pl pc ca cl cc hs ha hl hc c xa xl xc x on ot hr h40 ht h1 p1 p2 w hp hh hx
    · exact each_yes0 f sa sl sc pa pl pc ca cl cc hs ha hl hc c xa xl xc x on ot hr h40 ht h1 p1 w hp hh hx
    · cases p2 : btw ot 0 ((pl : Int) - 1)
      · exact each_yes1 f sa sl sc pa pl pc ca cl cc hs ha hl hc c xa xl xc x on ot hr h40 ht h1 p1 p2 w hp hh hx
      · exact each_yes2 f sa sl sc pa pl pc ca cl cc hs ha hl hc c xa xl xc x on ot hr h40 ht h1 p1 p2 w hp hh hx
end Go.Proofs.Ytgpmnelkjfoplaa

/- Proved here: 'flonglaw03.PagesEach' returns true for any frame, any heights and any place, and each argument reads behind the call as it did before. Conditions: none. -/
namespace Go.Proofs.Ytgpmnelkjfoplaa
set_option linter.unusedVariables false
set_option linter.unusedSimpArgs false
open Go.ChangeShapes Go.WideShapes Go.ChangeAt Go.RowKit

set_option maxRecDepth 100000 in
theorem pagesEach_lifted (os : Os) (started : os.Started) (H : Type) (enc : TypeId × Value → H) :
    ReturnsInHanded {} Try.checked os 7 .any (Rows.pagesEachSpec.pre6 enc Try.prog Try.f7 Rows.pagesEachRow.domain false) (Rows.pagesEachSpec.post enc Try.prog Try.f7 false true false false) := by
  refine returnsInHanded_of_change (C := Try.checked) Try.own started (by kernel_rfl) Try.func7
    (ChangeSpec.witness6 (enc := enc) (C := Try.checked) false ⟨#[], #[.agg #[.int .i64 0, .int .i64 0, .slice none 0 0, .slice none 0 0, .slice none 0 0], .slice none 0 0, .agg #[.int .i64 0, .slice none 0 0, .int .i64 0, .int .i64 0]], []⟩ 8 (by kernel_rfl) (by kernel_rfl) (by kernel_rfl) (by kernel_rfl)) ?_
  intro W base args ds gs before hval0 hW hcnd _
  have hval : ∀ (j : Nat) t v, Try.f7.params[j]? = some t → args[j]? = some v → Value.okWide Try.prog W .any base t v := hval0
  have hW' := hW
  obtain ⟨p, q, hA0, hV, rfl, hfz, hnd⟩ := hW
  have hA : DataW.TrodAll enc Try.prog W 0 (fun _ => true) true Try.f7.params.toList args.toList ds p := hA0
  rw [Try.params7] at hA hval
  obtain ⟨v0, v1, v2, d0, d1, d2, p0, p1, p2, rfl, rfl, rfl, h0, h1, h2⟩ := trodAll_three hA
  obtain ⟨rfl, rfl⟩ := trodVars_none hV
  have lt0 : ∀ x ∈ p0, x.block < W.heap.size := by obtain ⟨m, hm⟩ := h0; exact DataW.trod_lt m _ _ _ hm
  have lt1 : ∀ x ∈ p1, x.block < W.heap.size := by obtain ⟨m, hm⟩ := h1; exact DataW.trod_lt m _ _ _ hm
  have lt2 : ∀ x ∈ p2, x.block < W.heap.size := by obtain ⟨m, hm⟩ := h2; exact DataW.trod_lt m _ _ _ hm
  obtain ⟨f, sa, sl, sc, pa, pl, pc, ca, cl, cc, rfl, hp⟩ := page_open (hval 0 26 v0 rfl rfl) h0
  obtain ⟨y1, l1, c1, x1, rfl, hx1⟩ := ints_open (hval 1 27 v1 rfl rfl) h1
  obtain ⟨c2, xa2, xl2, xc2, x2, on2, ot2, rfl, hx2⟩ := place_open (hval 2 58 v2 rfl rfl) h2
  clear hA0 hval0
  refine (PagesEach_any f sa sl sc pa pl pc ca cl cc y1 l1 c1 x1 c2 xa2 xl2 xc2 x2 on2 ot2 W hp hx1 hx2).mono fun e W' ⟨he, bel⟩ => ?_
  subst he
  exact ⟨_, rfl, _, _, _, [], _, [], hW', trodAll_mk1 (shut_bool Try.underlying4 _), (trodAll_mk3 (Below.trod Try.laidOut (by kernel_rfl) (of_decide_eq_true (by kernel_rfl)) h0 bel lt0) (Below.trod Try.laidOut (by kernel_rfl) (of_decide_eq_true (by kernel_rfl)) h1 bel lt1) (Below.trod Try.laidOut (by kernel_rfl) (of_decide_eq_true (by kernel_rfl)) h2 bel lt2)), rfl, bel.frame _, fun h => by cases h⟩

theorem pagesEach_holds : Rows.PagesEachSaid :=
  OpenClaim.holds_of_wide 7 Try.f7 rfl rfl rfl rfl rfl rfl rfl ⟨rfl, rfl, rfl, rfl, rfl⟩ rfl rfl rfl rfl rfl (by kernel_rfl) Try.func7 (by kernel_rfl)
    (of_decide_eq_true (by kernel_rfl)) (by unfold Func.isWrapper; first | (rw [if_pos (by decide +kernel)]; kernel_rfl) | (rw [if_neg (by decide +kernel)]; exact ⟨rfl, rfl⟩))
    (fun os started H enc _ => pagesEach_lifted os started H enc)
end Go.Proofs.Ytgpmnelkjfoplaa
