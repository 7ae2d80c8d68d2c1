/- Package pages: Refuse, Lost. -/
import Derived.Test.YtgpmnelkjfoplaaZO
namespace Go.Proofs.Ytgpmnelkjfoplaa
set_option linter.unusedVariables false
set_option linter.unusedSimpArgs false
open Go.RowKit Go.Shelf

/-- The best choice of pieces that are left out. -/
def PFrame.out (f : PFrame) : Option Nat := if f.ok then f.bestC (2 ^ f.pieces.length) else none
def PFrame.outErr (f : PFrame) : Int := match f.out with | none => if f.ok then 3 else 30 | some _ => 0
def PFrame.outL (f : PFrame) : List Int := match f.out with | none => [] | some c => pickR c f.pieces.length
def PFrame.outP (f : PFrame) : Int := match f.out with | none => 0 | some c => f.payTo c f.pieces.length
theorem refuse_any (f : PFrame) (sa : Option Addr) (sl sc : Nat) (pa : Option Addr) (pl pc : Nat) (ca : Option Addr) (cl cc : Nat) (w : World) (hp : PAt w sa sl sc pa pl pc ca cl cc f) :
    Calls Try.prog 96 #[.agg #[.int .i64 f.len, .int .i64 f.slack, .slice sa sl sc, .slice pa pl pc, .slice ca cl cc]] w fun e w' => ∃ a len c, e = .returned (.tuple #[.agg #[.slice a len c, .int .i64 f.outP], .int .i64 f.outErr]) ∧ IntsAt w' a len f.outL ∧ Below w.heap.size w w' := by
  have h : Calls Try.prog 96 #[.agg #[.int .i64 f.len, .int .i64 f.slack, .slice sa sl sc, .slice pa pl pc, .slice ca cl cc]] w fun e w' => RefusePost f w e w' ∧ Below w.heap.size w w' := by
    cases ho : f.ok
    · exact refuse_no f sa sl sc pa pl pc ca cl cc ho w hp
    · exact refuse_yes f sa sl sc pa pl pc ca cl cc ho w hp
  refine h.mono ?_
  rintro e w' ⟨h1, h2⟩
  unfold RefusePost at h1
  unfold PFrame.outP PFrame.outErr PFrame.outL
  rw [show (if f.ok then f.bestC (2 ^ f.pieces.length) else none) = f.out from rfl] at h1
  cases hb : f.out with
  | none => rw [hb] at h1; exact ⟨none, 0, 0, h1, ⟨rfl, by unfold maxLen; omega, fun h => absurd h (by omega)⟩, h2⟩
  | some c =>
    rw [hb] at h1
    obtain ⟨v, n0, rfl, -, hrow⟩ := h1
    obtain ⟨a, cc, rfl, hi⟩ := own_ints hrow rfl
    exact ⟨a, _, cc, rfl, hi, h2⟩

set_option maxRecDepth 100000 in
set_option maxHeartbeats 4000000 in
theorem Refuse_any (f : PFrame) (sa : Option Addr) (sl sc : Nat) (pa : Option Addr) (pl pc : Nat) (ca : Option Addr) (cl cc : Nat) (w : World) (hp : PAt w sa sl sc pa pl pc ca cl cc f) :
    Calls Try.prog 38 #[.agg #[.int .i64 f.len, .int .i64 f.slack, .slice sa sl sc, .slice pa pl pc, .slice ca cl cc]] w fun e w' => ∃ a len c, e = .returned (.tuple #[.slice a len c, .int .i64 f.outErr]) ∧ IntsAt w' a len f.outL ∧ Below w.heap.size w w' := by
  have HF := Lib.hid (fun W (hb : Below w.heap.size w W) => refuse_any f sa sl sc pa pl pc ca cl cc W (hp.below hb))
  clear hp
  generalize f.outErr = r at *
  generalize f.outP = p at *
  go_enter Try.func38, Try.ntmps38
  go_wp2_with fail
  refine (HF.out _ (by repeat (first | exact Below.refl _ _ | (refine Below.alloc ?_ (by first | omega | (simp; omega) | simp) _) | (refine Below.setCell ?_ (by first | omega | (simp; omega) | simp) _) | refine Below.drew ?_))).mono ?_
  rintro e w2 ⟨a, len, c, rfl, hi, hb⟩
  have HI := Lib.hid hi
  clear hi
  go_wp2_with fail
  go_ret2
  have hb' : Below w.heap.size w w2 := ((by repeat (first | exact Below.refl _ _ | (refine Below.alloc ?_ (by first | omega | (simp; omega) | simp) _) | (refine Below.setCell ?_ (by first | omega | (simp; omega) | simp) _) | refine Below.drew ?_)) : Below w.heap.size w _).trans (hb.mono (by simp))
  exact ⟨_, _, _, rfl, HI.out.below (by repeat (first | exact Below.refl _ _ | (refine Below.alloc ?_ (by first | omega | (simp; omega) | simp) _) | (refine Below.setCell ?_ (by first | omega | (simp; omega) | simp) _) | refine Below.drew ?_)), hb'.alloc hb'.size _⟩
set_option maxRecDepth 100000 in
set_option maxHeartbeats 4000000 in
theorem Lost_any (f : PFrame) (sa : Option Addr) (sl sc : Nat) (pa : Option Addr) (pl pc : Nat) (ca : Option Addr) (cl cc : Nat) (w : World) (hp : PAt w sa sl sc pa pl pc ca cl cc f) :
    Calls Try.prog 40 #[.agg #[.int .i64 f.len, .int .i64 f.slack, .slice sa sl sc, .slice pa pl pc, .slice ca cl cc]] w fun e w' => e = .returned (.tuple #[.int .i64 f.outP, .int .i64 f.outErr]) ∧ Below w.heap.size w w' := by
  have HF := Lib.hid (fun W (hb : Below w.heap.size w W) => refuse_any f sa sl sc pa pl pc ca cl cc W (hp.below hb))
  clear hp
  generalize f.outErr = r at *
  generalize f.outP = p at *
  go_enter Try.func40, Try.ntmps40
  go_wp2_with fail
  refine (HF.out _ (by repeat (first | exact Below.refl _ _ | (refine Below.alloc ?_ (by first | omega | (simp; omega) | simp) _) | (refine Below.setCell ?_ (by first | omega | (simp; omega) | simp) _) | refine Below.drew ?_))).mono ?_
  rintro e w2 ⟨a, len, c, rfl, hi, hb⟩
  clear hi
  go_wp2_with fail
  go_ret2
  have hb' : Below w.heap.size w w2 := ((by repeat (first | exact Below.refl _ _ | (refine Below.alloc ?_ (by first | omega | (simp; omega) | simp) _) | (refine Below.setCell ?_ (by first | omega | (simp; omega) | simp) _) | refine Below.drew ?_)) : Below w.heap.size w _).trans (hb.mono (by simp))
  exact ⟨rfl, hb'.alloc hb'.size _⟩
end Go.Proofs.Ytgpmnelkjfoplaa
