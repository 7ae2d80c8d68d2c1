/- Pages: the laws' inside; a narrow that came in; what is known with a clearer height. -/
import Derived.Test.YtodlfmbfjnldiaaWE
import Derived.Test.YtodlfmbfjnldiaaWG
import Derived.Test.YtodlfmbfjnldiaaZY
import Derived.Test.YtodlfmbfjnldiaaUC
import Derived.Test.YtodlfmbfjnldiaaUL
namespace Go.Proofs.Ytodlfmbfjnldiaa
set_option linter.unusedVariables false
set_option linter.unusedSimpArgs false
open Go.RowKit Go.Shelf

def insideB (a b c d : Int) : Bool := decide (c ≤ a ∧ a ≤ b ∧ b ≤ d)
theorem inside_is (a b c d : Int) (r : Bool) (h : insideB a b c d = r) (w : World) :
    Calls Try.prog 64 #[.agg #[.int .i64 a, .int .i64 b], .agg #[.int .i64 c, .int .i64 d]] w fun e w' => e = .returned (.bool r) ∧ Below w.heap.size w w' := by
  subst h
  by_cases h1 : c ≤ a
  · by_cases h2 : a ≤ b
    · by_cases h3 : b ≤ d
      · go_enter Try.func64, Try.ntmps64
        go_wp2_with fail
        go_ret
        exact ⟨ret_bool (by unfold insideB; simp; omega), (by repeat (first | exact Below.refl _ _ | (refine Below.alloc ?_ (by first | omega | (simp; omega) | simp) _) | (refine Below.setCell ?_ (by first | omega | (simp; omega) | simp) _) | refine Below.drew ?_))⟩
      · go_enter Try.func64, Try.ntmps64
        go_wp2_with fail
        go_ret
        exact ⟨ret_bool (by unfold insideB; simp; omega), (by repeat (first | exact Below.refl _ _ | (refine Below.alloc ?_ (by first | omega | (simp; omega) | simp) _) | (refine Below.setCell ?_ (by first | omega | (simp; omega) | simp) _) | refine Below.drew ?_))⟩
    · go_enter Try.func64, Try.ntmps64
      go_wp2_with fail
      go_ret
      exact ⟨ret_bool (by unfold insideB; simp; omega), (by repeat (first | exact Below.refl _ _ | (refine Below.alloc ?_ (by first | omega | (simp; omega) | simp) _) | (refine Below.setCell ?_ (by first | omega | (simp; omega) | simp) _) | refine Below.drew ?_))⟩
  · go_enter Try.func64, Try.ntmps64
    go_wp2_with fail
    go_ret
    exact ⟨ret_bool (by unfold insideB; simp; omega), (by repeat (first | exact Below.refl _ _ | (refine Below.alloc ?_ (by first | omega | (simp; omega) | simp) _) | (refine Below.setCell ?_ (by first | omega | (simp; omega) | simp) _) | refine Below.drew ?_))⟩
theorem known_in {len slack lo hi lo' hi' p : Int} (h1 : lo ≤ lo') (h2 : lo' ≤ hi') (h3 : hi' ≤ hi) : knownR len slack lo hi p = 3 ∨ (¬ knownR len slack lo hi p = 3 ∧ knownR len slack lo' hi' p = knownR len slack lo hi p) := by
  unfold knownR
  by_cases a : len - slack ≤ lo + p ∧ hi + p ≤ len
  · rw [if_pos a, if_pos (by omega)]; exact .inr ⟨by decide, rfl⟩
  · rw [if_neg a]
    by_cases b : hi + p < len - slack ∨ len < lo + p
    · rw [if_pos b, if_neg (by omega), if_pos (by omega)]; exact .inr ⟨by decide, rfl⟩
    · rw [if_neg b]; exact .inl rfl
theorem tall_len {f : PFrame} {k : Nat} {a b : Int} : ((f.tallS k a b).pieces.length : Int) = f.pieces.length := by unfold PFrame.tallS; simp
def PFrame.knownP (f : PFrame) (c : Int) (x : List Int) : Int := knownR f.len f.slack (f.loS ((f.cols[c.toNat]?).getD [])) (f.hiS ((f.cols[c.toNat]?).getD [])) (f.ptsL x)
theorem loS_hiS {f : PFrame} (ho : f.ok = true) (xs : List Int) : f.loS xs ≤ f.hiS xs := sumG_le (PFrame.lo_hi ho)
/-- The gaps with a lesser span of a height. -/
theorem gaps_in {f : PFrame} (ho : f.ok = true) {k : Nat} (hk : k < f.pieces.length) {a b : Int} (hab : a ≤ b) (h1 : f.lo k ≤ a) (h2 : b ≤ f.hi k) (hg : (f.tallS k a b).ok = true) {one other : Int} (q0 : 0 ≤ one) (qn : one < (f.pieces.length : Int)) (q1 : 0 ≤ other) (qn1 : other < (f.pieces.length : Int)) :
    ∃ L H L' H' : Int, (∀ e, GapPost2 f one other e → e = .returned (.tuple #[.agg #[.int .i64 L, .int .i64 H], .int .i64 0])) ∧ (∀ e, GapPost2 (f.tallS k a b) one other e → e = .returned (.tuple #[.agg #[.int .i64 L', .int .i64 H'], .int .i64 0])) ∧ insideB L' H' L H = true := by
  obtain ⟨ci, x, hx⟩ := at_some ho q0 qn
  obtain ⟨di, y, hy⟩ := at_some ho q1 qn1
  have hsub := strip_sub (f.ahead ci x) (f.ahead di y)
  have p1 : ∀ z ∈ (stripC (f.ahead ci x) (f.ahead di y)).1, 0 ≤ z := fun z hz => ((ahead_in ho hx).1 z (hsub.1 z hz)).1
  have p2 : ∀ z ∈ (stripC (f.ahead ci x) (f.ahead di y)).2, 0 ≤ z := fun z hz => ((ahead_in ho hy).1 z (hsub.2.1 z hz)).1
  have t1 := tall_sums hk h1 h2 p1
  have t2 := tall_sums hk h1 h2 p2
  have u1 := loS_hiS hg (stripC (f.ahead ci x) (f.ahead di y)).1
  have u2 := loS_hiS hg (stripC (f.ahead ci x) (f.ahead di y)).2
  refine ⟨f.gapLo (f.ahead ci x) (f.ahead di y), f.gapHi (f.ahead ci x) (f.ahead di y), (f.tallS k a b).gapLo (f.ahead ci x) (f.ahead di y), (f.tallS k a b).gapHi (f.ahead ci x) (f.ahead di y), ?_, ?_, ?_⟩
  · rintro e ⟨c', a', d', b', r1, r2, rfl⟩
    obtain ⟨rfl, rfl⟩ := at_one ho hx r1
    obtain ⟨rfl, rfl⟩ := at_one ho hy r2
    rfl
  · rintro e ⟨c', a', d', b', r1, r2, rfl⟩
    obtain ⟨rfl, rfl⟩ := at_one ho hx r1
    obtain ⟨rfl, rfl⟩ := at_one ho hy r2
    rfl
  · unfold insideB PFrame.gapLo PFrame.gapHi
    simp only [decide_eq_true_eq]
    omega
end Go.Proofs.Ytodlfmbfjnldiaa
namespace Go.Proofs.Ytodlfmbfjnldiaa
set_option linter.unusedVariables false
set_option linter.unusedSimpArgs false
open Go.RowKit Go.ChangeShapes Go.WideShapes Go.Deep
theorem Try.cells75 : Try.prog.cellsOf 75 = 5 := by kernel_rfl
section
variable {H : Type} {enc : TypeId × Value → H} {w : World} {base : Nat} {held : Bool}
set_option maxRecDepth 100000 in
theorem narrow_open {v : Value} {d : DataW H} {p : List MemPlace} {r : Reach} {b0 : Nat} (hv : Value.okWide Try.prog w r b0 75 v) (h : DataW.Trod enc Try.prog w base (fun _ => true) held 75 v d p) :
    ∃ (k a b on ot : Int), v = .agg #[.int .i64 k, .int .i64 a, .int .i64 b, .int .i64 on, .int .i64 ot] := by
  obtain ⟨cs, rfl, hsz⟩ := okWide_struct Try.underlying75 hv
  rw [Try.cells75] at hsz
  obtain ⟨l⟩ := cs
  obtain ⟨fuel, hf⟩ := h
  obtain ⟨xs, m, _, _, _, hxs, hg⟩ := DataW.trod_struct Try.underlying75 hf
  obtain ⟨c0, c1, c2, c3, c4, rfl⟩ := list5 l hsz
  obtain ⟨_, g0⟩ := fld hg hxs 0 3 0 1 _ rfl rfl rfl Try.cells3
  obtain ⟨_, g1⟩ := fld hg hxs 1 32 1 2 _ rfl rfl rfl Try.cells32
  obtain ⟨_, g2⟩ := fld hg hxs 2 3 3 1 _ rfl rfl rfl Try.cells3
  obtain ⟨_, g3⟩ := fld hg hxs 3 3 4 1 _ rfl rfl rfl Try.cells3
  obtain ⟨k, h0⟩ := int_form g0
  obtain ⟨a, b, h1⟩ := span_form g1
  obtain ⟨on, h2⟩ := int_form g2
  obtain ⟨ot, h3⟩ := int_form g3
  simp [Value.cells] at h0 h1 h2 h3
  exact ⟨k, a, b, on, ot, by simp [h0, h1.1, h1.2, h2, h3]⟩
end
end Go.Proofs.Ytodlfmbfjnldiaa
