/- Package pages: Strips. -/
import Derived.Test.YtgpmnelkjfoplaaZK
namespace Go.Proofs.Ytgpmnelkjfoplaa
set_option linter.unusedVariables false
set_option linter.unusedSimpArgs false
open Go.RowKit Go.Shelf

attribute [local go_sem] Oper.semAt_some

/-- What Strips gives. -/
def PFrame.strips4 (f : PFrame) : Int × Int :=
  match (if f.ok then bestL (f.lays 0) else none) with
  | none => (0, if f.ok then 3 else 30)
  | some l => (cntL l, 0)
theorem fewest_any (f : PFrame) (sa : Option Addr) (sl sc : Nat) (pa : Option Addr) (pl pc : Nat) (ca : Option Addr) (cl cc : Nat) (w : World) (hp : PAt w sa sl sc pa pl pc ca cl cc f) :
    Calls Try.prog 89 #[.agg #[.int .i64 f.len, .int .i64 f.slack, .slice sa sl sc, .slice pa pl pc, .slice ca cl cc]] w fun e w' => ∃ l, e = .returned (.tuple #[.agg (cells9 l), .int .i64 f.strips4.1, .int .i64 f.strips4.2]) ∧ (∀ l', (if f.ok then bestL (f.lays 0) else none) = some l' → l' = l) ∧ Below w.heap.size w w' := by
  have h : Calls Try.prog 89 #[.agg #[.int .i64 f.len, .int .i64 f.slack, .slice sa sl sc, .slice pa pl pc, .slice ca cl cc]] w fun e w' => FewestPost f e ∧ Below w.heap.size w w' := by
    cases ho : f.ok
    · exact fewest_no f sa sl sc pa pl pc ca cl cc ho w hp
    · exact fewest_yes f sa sl sc pa pl pc ca cl cc ho w hp
  refine h.mono ?_
  rintro e w' ⟨h1, h2⟩
  unfold FewestPost at h1
  unfold PFrame.strips4
  cases hb : (if f.ok then bestL (f.lays 0) else none) with
  | none => rw [hb] at h1; exact ⟨[], h1, fun l' h => (by cases h), h2⟩
  | some l => rw [hb] at h1; exact ⟨l, h1, fun l' h => (by injection h with h; exact h.symm), h2⟩

set_option maxRecDepth 100000 in
set_option maxHeartbeats 4000000 in
theorem Strips_any (f : PFrame) (sa : Option Addr) (sl sc : Nat) (pa : Option Addr) (pl pc : Nat) (ca : Option Addr) (cl cc : Nat) (w : World) (hp : PAt w sa sl sc pa pl pc ca cl cc f) :
    Calls Try.prog 31 #[.agg #[.int .i64 f.len, .int .i64 f.slack, .slice sa sl sc, .slice pa pl pc, .slice ca cl cc]] w fun e w' => e = .returned (.tuple #[.int .i64 f.strips4.1, .int .i64 f.strips4.2]) ∧ Below w.heap.size w w' := by
  have HF := Lib.hid (fun W (hb : Below w.heap.size w W) => fewest_any f sa sl sc pa pl pc ca cl cc W (hp.below hb))
  clear hp
  generalize f.strips4 = r at *
  obtain ⟨n, c⟩ := r
  simp only at HF ⊢
  go_enter Try.func31, Try.ntmps31
  go_wp2_with fail
  refine (HF.out _ (by repeat (first | exact Below.refl _ _ | (refine Below.alloc ?_ (by first | omega | (simp; omega) | simp) _) | (refine Below.setCell ?_ (by first | omega | (simp; omega) | simp) _) | refine Below.drew ?_))).mono ?_
  rintro e w2 ⟨l, rfl, -, hb⟩
  unfold cells9
  go_wp2_with fail
  go_ret2
  have hb' : Below w.heap.size w w2 := ((by repeat (first | exact Below.refl _ _ | (refine Below.alloc ?_ (by first | omega | (simp; omega) | simp) _) | (refine Below.setCell ?_ (by first | omega | (simp; omega) | simp) _) | refine Below.drew ?_)) : Below w.heap.size w _).trans (hb.mono (by simp))
  exact ⟨rfl, hb'.alloc hb'.size _⟩
end Go.Proofs.Ytgpmnelkjfoplaa
