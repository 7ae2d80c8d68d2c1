/- The reference of pages: IsSpan, Check of a frame with too much of something. -/
import Derived.Test.YtgpmnelkjfoplaaYV
namespace Go.Proofs.Ytgpmnelkjfoplaa
set_option linter.unusedVariables false
set_option linter.unusedSimpArgs false
open Go.RowKit

set_option maxRecDepth 100000 in
set_option maxHeartbeats 4000000 in
theorem refCheck_early (f : PFrame) (sa : Option Addr) (sl sc : Nat) (pa : Option Addr) (pl pc : Nat) (ca : Option Addr) (cl cc : Nat) (w : World) (hp : PAt w sa sl sc pa pl pc ca cl cc f) (h : (btw f.len 0 300 && btw f.slack 0 9 && f.few) = false) :
    Calls Try.prog 23 #[.agg #[.int .i64 f.len, .int .i64 f.slack, .slice sa sl sc, .slice pa pl pc, .slice ca cl cc]] w fun e w' => e = .returned (.int .i64 f.chk) ∧ Below w.heap.size w w' := by
  have HS := Lib.hid (show f.chk = 30 by unfold PFrame.chk PFrame.ok; rw [h]; rfl)
  have HB := Lib.hid (fun n lo hi b (h : btw n lo hi = b) w1 => within_is n lo hi b h w1)
  obtain ⟨⟨k1, m1, -⟩, ⟨k2, m2, -⟩, ⟨k3, m3, -⟩⟩ := hp
  unfold maxLen at m1 m2 m3
  rcases h1 : btw f.len 0 300 with - | -
  · have H1 := Lib.hid (HB.out _ _ _ _ h1)
    clear h k1 k2 k3 h1
    go_enter Try.func23, Try.ntmps23
    go_wp2_with fail
    refine (H1.out _).mono ?_
    rintro e w1 ⟨rfl, rfl⟩
    go_wp2_with fail
    go_ret
    exact ⟨ret_i64 HS.out.symm, (by repeat (first | exact Below.refl _ _ | (refine Below.alloc ?_ (by first | omega | (simp; omega) | simp) _) | (refine Below.setCell ?_ (by first | omega | (simp; omega) | simp) _) | refine Below.drew ?_))⟩
  · have H1 := Lib.hid (HB.out _ _ _ _ h1)
    rcases h2 : btw f.slack 0 9 with - | -
    · have H2 := Lib.hid (HB.out _ _ _ _ h2)
      clear h k1 k2 k3 h1 h2
      go_enter Try.func23, Try.ntmps23
      go_wp2_with fail
      refine (H1.out _).mono ?_
      rintro e w1 ⟨rfl, rfl⟩
      go_wp2_with fail
      refine (H2.out _).mono ?_
      rintro e w1 ⟨rfl, rfl⟩
      go_wp2_with fail
      go_ret
      exact ⟨ret_i64 HS.out.symm, (by repeat (first | exact Below.refl _ _ | (refine Below.alloc ?_ (by first | omega | (simp; omega) | simp) _) | (refine Below.setCell ?_ (by first | omega | (simp; omega) | simp) _) | refine Below.drew ?_))⟩
    · have H2 := Lib.hid (HB.out _ _ _ _ h2)
      rw [h1, h2] at h
      have hf : f.few = false := by simpa using h
      unfold PFrame.few at hf
      rw [k1, k2, k3] at hf
      have hd : 3 < sl ∨ (sl ≤ 3 ∧ 6 < pl) ∨ (sl ≤ 3 ∧ pl ≤ 6 ∧ 3 < cl) := by
        simp at hf
        omega
      clear h h1 h2 hf k1 k2 k3
      rcases hd with d | ⟨d1, d⟩ | ⟨d1, d2, d⟩
      · have j1 : (3 : Int) < (sl : Int) := by omega
        go_enter Try.func23, Try.ntmps23
        go_wp2_with fail
        refine (H1.out _).mono ?_
        rintro e w1 ⟨rfl, rfl⟩
        go_wp2_with fail
        refine (H2.out _).mono ?_
        rintro e w1 ⟨rfl, rfl⟩
        go_wp2_with fail
        go_ret
        exact ⟨ret_i64 HS.out.symm, (by repeat (first | exact Below.refl _ _ | (refine Below.alloc ?_ (by first | omega | (simp; omega) | simp) _) | (refine Below.setCell ?_ (by first | omega | (simp; omega) | simp) _) | refine Below.drew ?_))⟩
      · have j1 : ¬ (3 : Int) < (sl : Int) := by omega
        have j2 : (6 : Int) < (pl : Int) := by omega
        go_enter Try.func23, Try.ntmps23
        go_wp2_with fail
        refine (H1.out _).mono ?_
        rintro e w1 ⟨rfl, rfl⟩
        go_wp2_with fail
        refine (H2.out _).mono ?_
        rintro e w1 ⟨rfl, rfl⟩
        go_wp2_with fail
        go_ret
        exact ⟨ret_i64 HS.out.symm, (by repeat (first | exact Below.refl _ _ | (refine Below.alloc ?_ (by first | omega | (simp; omega) | simp) _) | (refine Below.setCell ?_ (by first | omega | (simp; omega) | simp) _) | refine Below.drew ?_))⟩
      · have j1 : ¬ (3 : Int) < (sl : Int) := by omega
        have j2 : ¬ (6 : Int) < (pl : Int) := by omega
        have j3 : (3 : Int) < (cl : Int) := by omega
        go_enter Try.func23, Try.ntmps23
        go_wp2_with fail
        refine (H1.out _).mono ?_
        rintro e w1 ⟨rfl, rfl⟩
        go_wp2_with fail
        refine (H2.out _).mono ?_
        rintro e w1 ⟨rfl, rfl⟩
        go_wp2_with fail
        go_ret
        exact ⟨ret_i64 HS.out.symm, (by repeat (first | exact Below.refl _ _ | (refine Below.alloc ?_ (by first | omega | (simp; omega) | simp) _) | (refine Below.setCell ?_ (by first | omega | (simp; omega) | simp) _) | refine Below.drew ?_))⟩

def spanB (p : Piece) : Bool := btw p.hi 0 99 && btw p.lo 0 p.hi
theorem piece_span (p : Piece) : pieceB p = (spanB p && btw p.pe 0 99) := by
  unfold pieceB spanB btw
  rw [Bool.eq_iff_iff]
  simp
  omega
theorem IsSpan_is (lo hi : Int) (b : Bool) (h : (btw hi 0 99 && btw lo 0 hi) = b) (w : World) :
    Calls Try.prog 81 #[.agg #[.int .i64 lo, .int .i64 hi], .int .i64 99] w fun e w' => e = .returned (.bool b) ∧ Below w.heap.size w w' := by
  have HW := Lib.hid (fun n l h' b (h : btw n l h' = b) w1 => Within_is n l h' b h w1)
  cases h1 : btw hi 0 99
  · rw [h1] at h
    have HW1 := Lib.hid (HW.out _ _ _ _ h1)
    subst h
    go_enter Try.func81, Try.ntmps81
    go_wp2_with fail
    refine (HW1.out _).mono ?_
    rintro e w1 ⟨rfl, rfl⟩
    go_wp2_with fail
    go_ret
    exact ⟨rfl, (by repeat (first | exact Below.refl _ _ | (refine Below.alloc ?_ (by first | omega | (simp; omega) | simp) _) | (refine Below.setCell ?_ (by first | omega | (simp; omega) | simp) _) | refine Below.drew ?_))⟩
  · rw [h1, Bool.true_and] at h
    have HW1 := Lib.hid (HW.out _ _ _ _ h1)
    have HW2 := Lib.hid (HW.out _ _ _ _ h)
    clear h h1
    go_enter Try.func81, Try.ntmps81
    go_wp2_with fail
    refine (HW1.out _).mono ?_
    rintro e w1 ⟨rfl, rfl⟩
    go_wp2_with fail
    refine (HW2.out _).mono ?_
    rintro e w1 ⟨rfl, rfl⟩
    go_wp2_with fail
    go_ret
    exact ⟨rfl, (by repeat (first | exact Below.refl _ _ | (refine Below.alloc ?_ (by first | omega | (simp; omega) | simp) _) | (refine Below.setCell ?_ (by first | omega | (simp; omega) | simp) _) | refine Below.drew ?_))⟩

end Go.Proofs.Ytgpmnelkjfoplaa
