/- The laws' Huge, Far and ready. -/
import Derived.Test.YtgpmnelkjfoplaaZW
import Derived.Test.YtgpmnelkjfoplaaYX
import Derived.Test.YtgpmnelkjfoplaaYR
namespace Go.Proofs.Ytgpmnelkjfoplaa
set_option linter.unusedVariables false
set_option linter.unusedSimpArgs false
open Go.RowKit

def PFrame.huge (f : PFrame) : Bool := decide (40 < f.strips.length) || decide (40 < f.pieces.length) || decide (40 < f.cols.length) || f.cols.any fun c => decide (40 < c.length)
theorem huge_cols {f : PFrame} (h : f.huge = false) : ∀ c ∈ f.cols, c.length ≤ 1000 := by
  intro c hc
  unfold PFrame.huge at h
  simp only [Bool.or_eq_false_iff] at h
  have := List.any_eq_false.1 h.2 c hc
  simp at this; omega
set_option maxRecDepth 100000 in
set_option maxHeartbeats 4000000 in
theorem Huge_is (f : PFrame) (sa : Option Addr) (sl sc : Nat) (pa : Option Addr) (pl pc : Nat) (ca : Option Addr) (cl cc : Nat) (b : Bool) (h : f.huge = b) (w : World) (hp : PAt w sa sl sc pa pl pc ca cl cc f) :
    Calls Try.prog 17 #[.agg #[.int .i64 f.len, .int .i64 f.slack, .slice sa sl sc, .slice pa pl pc, .slice ca cl cc]] w fun e w' => e = .returned (.bool b) ∧ Below w.heap.size w w' := by
  obtain ⟨⟨k1, m1, -⟩, ⟨k2, m2, -⟩, ⟨k3, m3, hcc⟩⟩ := hp
  unfold maxLen at m1 m2 m3
  have hd : (40 < sl ∧ b = true) ∨ (sl ≤ 40 ∧ 40 < pl ∧ b = true) ∨ (sl ≤ 40 ∧ pl ≤ 40 ∧ 40 < cl ∧ b = true) ∨ (sl ≤ 40 ∧ pl ≤ 40 ∧ cl ≤ 40 ∧ b = f.cols.any fun c => decide (40 < c.length)) := by
    unfold PFrame.huge at h
    rw [k1, k2, k3] at h
    by_cases c1 : 40 < sl
    · exact .inl ⟨c1, by rw [← h]; simp [c1]⟩
    by_cases c2 : 40 < pl
    · exact .inr (.inl ⟨by omega, c2, by rw [← h]; simp [c2]⟩)
    by_cases c3 : 40 < cl
    · exact .inr (.inr (.inl ⟨by omega, by omega, c3, by rw [← h]; simp [c3]⟩))
    · exact .inr (.inr (.inr ⟨by omega, by omega, by omega, by rw [← h]; simp [c1, c2, c3]⟩))
  clear h
  rcases hd with ⟨d, rfl⟩ | ⟨d1, d, rfl⟩ | ⟨d1, d2, d, rfl⟩ | ⟨d1, d2, d3, hb⟩
  · have j1 : (40 : Int) < (sl : Int) := by omega
    clear k1 k2 k3 hcc
    go_enter Try.func17, Try.ntmps17
    go_wp2_with fail
    go_ret
    exact ⟨rfl, (by repeat (first | exact Below.refl _ _ | (refine Below.alloc ?_ (by first | omega | (simp; omega) | simp) _) | (refine Below.setCell ?_ (by first | omega | (simp; omega) | simp) _) | refine Below.drew ?_))⟩
  · have j1 : ¬ (40 : Int) < (sl : Int) := by omega
    have j2 : (40 : Int) < (pl : Int) := by omega
    clear k1 k2 k3 hcc
    go_enter Try.func17, Try.ntmps17
    go_wp2_with fail
    go_ret
    exact ⟨rfl, (by repeat (first | exact Below.refl _ _ | (refine Below.alloc ?_ (by first | omega | (simp; omega) | simp) _) | (refine Below.setCell ?_ (by first | omega | (simp; omega) | simp) _) | refine Below.drew ?_))⟩
  · have j1 : ¬ (40 : Int) < (sl : Int) := by omega
    have j2 : ¬ (40 : Int) < (pl : Int) := by omega
    have j3 : (40 : Int) < (cl : Int) := by omega
    clear k1 k2 k3 hcc
    go_enter Try.func17, Try.ntmps17
    go_wp2_with fail
    go_ret
    exact ⟨rfl, (by repeat (first | exact Below.refl _ _ | (refine Below.alloc ?_ (by first | omega | (simp; omega) | simp) _) | (refine Below.setCell ?_ (by first | omega | (simp; omega) | simp) _) | refine Below.drew ?_))⟩
  · have j1 : ¬ (40 : Int) < (sl : Int) := by omega
    have j2 : ¬ (40 : Int) < (pl : Int) := by omega
    have j3 : ¬ (40 : Int) < (cl : Int) := by omega
    have HCL := Lib.hid k3
    have HCC := Lib.hid hcc
    have HB := Lib.hid hb
    have HNO := Lib.hid (fun (k : Nat) (hk : k < f.cols.length) (h : 40 < f.cols[k].length) => show b = true from by
      rw [hb]; exact List.any_eq_true.2 ⟨_, List.getElem_mem hk, by simpa using h⟩)
    have HYE := Lib.hid (fun (h : ∀ k (hk : k < f.cols.length), f.cols[k].length ≤ 40) => show b = false from by
      rw [hb]; refine List.any_eq_false.2 fun c hc => ?_
      obtain ⟨k, hk, rfl⟩ := List.mem_iff_getElem.1 hc
      have := h k hk
      simp; omega)
    clear k1 k2 k3 hcc hb
    go_enter Try.func17, Try.ntmps17
    go_wp2_with fail
    obtain ⟨W0, hW0, hB0, hs0, hz0⟩ := name1k w #[.int .i64 f.len, .int .i64 f.slack, .slice sa sl sc, .slice pa pl pc, .slice ca cl cc] 26
    rw [hW0]
    clear hW0
    have HB0 := Lib.hid hB0
    have x2 : W0.cell? ⟨w.heap.size, 2, none⟩ = some (.slice sa sl sc) := hs0 2
    have x3 : W0.cell? ⟨w.heap.size, 3, none⟩ = some (.slice pa pl pc) := hs0 3
    have x4 : W0.cell? ⟨w.heap.size, 4, none⟩ = some (.slice ca cl cc) := hs0 4
    clear hB0 hs0
    go_wp2_with fail
    go_loopw [3] (fun v3 wr => ∃ k : Nat, k ≤ cl ∧ v3 = .int .i64 k ∧ Hid (∀ i (hi : i < f.cols.length), i < k → f.cols[i].length ≤ 40) ∧ W0 = wr) (fun v3 _ => cl - (intOf v3).toNat)
    case atStart => exact ⟨0, by omega, rfl, Lib.hid (fun i hi h => by omega), rfl⟩
    case round =>
      obtain ⟨k, hk, rfl, HA, rfl⟩ := hrel
      by_cases hlt : k < cl
      · have hci2 : k < f.cols.length := by rw [HCL.out]; exact hlt
        obtain ⟨cb, co, rfl, hcB, hccell⟩ := HCC.out (by omega)
        obtain ⟨ra, rl, rc, hcell, -, hri⟩ := hccell k hci2
        have c0 := (HB0.out.cell (p := ⟨cb, co + k, none⟩) hcB).trans hcell
        have hkl : (k : Int) < (cl : Int) := by omega
        have hk0 : (0 : Int) ≤ (k : Int) := by omega
        obtain ⟨hrl, hrm, -⟩ := hri
        unfold maxLen at hrm
        have HRL := Lib.hid hrl
        clear hccell hcell hrl
        by_cases hbig : 40 < rl
        · have HR := Lib.hid (HNO.out k hci2 (by rw [HRL.out]; exact hbig))
          have jb : (40 : Int) < (rl : Int) := by omega
          go_wp2_with fail
          go_ret
          exact ⟨ret_bool HR.out.symm, HB0.out⟩
        · have HA2 := Lib.hid (show ∀ i (hi : i < f.cols.length), i < k + 1 → f.cols[i].length ≤ 40 from fun i hi h => by
            by_cases e : i = k
            · subst e; rw [HRL.out]; omega
            · exact HA.out i hi (by omega))
          have jb : ¬ (40 : Int) < (rl : Int) := by omega
          clear HA
          go_wp2_with fail
          go_roundw
          case rel => exact ⟨k + 1, by omega, by go_num, HA2, trivial⟩
          case measure => simp [intOf]; omega
      · obtain rfl : cl = k := by omega
        have HR := Lib.hid (HYE.out (fun i hi => HA.out i hi (by have := HCL.out; omega)))
        go_wp2_with fail
        go_ret
        exact ⟨ret_bool HR.out.symm, HB0.out⟩
end Go.Proofs.Ytgpmnelkjfoplaa
