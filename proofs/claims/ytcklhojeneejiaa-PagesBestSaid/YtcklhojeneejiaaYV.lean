/- The reference of pages: times. -/
import Derived.Test.YtcklhojeneejiaaYU
namespace Go.Proofs.Ytcklhojeneejiaa
set_option linter.unusedVariables false
set_option linter.unusedSimpArgs false
open Go.RowKit

theorem pre_len (f : PFrame) (B : Nat) (hB : ∀ c ∈ f.cols, c.length ≤ B) : ∀ ci, ci ≤ f.cols.length → ((f.cols.take ci).flatten).length ≤ ci * B
  | 0, _ => by simp
  | ci + 1, h => by
    have ih := pre_len f B hB ci (by omega)
    rw [List.take_succ_eq_append_getElem (by omega), List.flatten_append, List.length_append, Nat.add_mul]
    have := hB _ (List.getElem_mem (show ci < f.cols.length by omega))
    simp only [List.flatten_cons, List.flatten_nil, List.append_nil]
    omega
theorem pre_bd (f : PFrame) (B : Nat) (hB : ∀ c ∈ f.cols, c.length ≤ B) (h3 : f.cols.length ≤ 3) (ci k : Nat) (hci : ci ≤ f.cols.length) : (f.pre ci k).length ≤ 4 * B := by
  have h1 := pre_len f B hB ci hci
  have h4 : ci * B ≤ 3 * B := Nat.mul_le_mul (by omega) (Nat.le_refl _)
  unfold PFrame.pre
  rw [List.length_append, List.length_take]
  by_cases h : ci < f.cols.length
  · have := hB _ (List.getElem_mem h)
    rw [List.getElem?_eq_getElem h]
    simp only [Option.getD_some]
    omega
  · rw [List.getElem?_eq_none (by omega)]
    simp only [Option.getD_none, List.length_nil]
    omega
set_option maxRecDepth 100000 in
set_option maxHeartbeats 4000000 in
theorem times_any (f : PFrame) (sa : Option Addr) (sl sc : Nat) (pa : Option Addr) (pl pc : Nat) (ca : Option Addr) (cl cc : Nat) (n : Int) (h3 : f.cols.length ≤ 3) (hB : ∀ c ∈ f.cols, c.length ≤ 1000) (w : World) (hp : PAt w sa sl sc pa pl pc ca cl cc f) :
    Calls Try.prog 82 #[.agg #[.int .i64 f.len, .int .i64 f.slack, .slice sa sl sc, .slice pa pl pc, .slice ca cl cc], .int .i64 n] w fun e w' => e = .returned (.int .i64 (f.flat.count n : Nat)) ∧ Below w.heap.size w w' := by
  obtain ⟨hcl, hcm, hcc⟩ := hp.2.2
  have HCL := Lib.hid hcl
  have HCC := Lib.hid hcc
  have HPE := Lib.hid (fun ci (h : ci < f.cols.length) => pre_end f ci h)
  have HPN := Lib.hid (fun ci k (h : ci < f.cols.length) (hk : k < f.cols[ci].length) => show (f.pre ci (k + 1)).count n = (f.pre ci k).count n + (if f.cols[ci][k] = n then 1 else 0) from by
    rw [pre_next f ci k h hk, List.count_append]
    congr 1
    by_cases e : f.cols[ci][k] = n
    · rw [if_pos e, e]; simp
    · rw [if_neg e]
      exact List.count_eq_zero.2 (by simpa using fun h => e h.symm))
  have HBD := Lib.hid (fun ci k (h : ci ≤ f.cols.length) => show (f.pre ci k).count n ≤ 4000 from Nat.le_trans List.count_le_length (pre_bd f 1000 hB h3 ci k h))
  have HPA := Lib.hid (pre_all f)
  have HP0 := Lib.hid (show (f.pre 0 0).count n = 0 by simp [PFrame.pre])
  have HB1 := Lib.hid (fun ci (h : ci < f.cols.length) => hB _ (List.getElem_mem h))
  have hc3 : cl ≤ 3 := by omega
  clear hp hcl hcm hcc h3 hB
  go_enter Try.func82, Try.ntmps82
  go_wp2_with fail
  obtain ⟨W0, hW0, hB0, hs0, hz0⟩ := name1k w #[.int .i64 f.len, .int .i64 f.slack, .slice sa sl sc, .slice pa pl pc, .slice ca cl cc] 26
  rw [hW0]
  clear hW0
  have HB0 := Lib.hid hB0
  have x4 : W0.cell? ⟨w.heap.size, 4, none⟩ = some (.slice ca cl cc) := hs0 4
  clear hB0 hs0
  go_loopw [5, 6] (fun v5 v6 wr => ∃ ci : Nat, ci ≤ cl ∧ v6 = .int .i64 ci ∧ v5 = .int .i64 ((f.pre ci 0).count n : Nat) ∧ W0 = wr) (fun _ v6 _ => cl - (intOf v6).toNat)
  case atStart => exact ⟨0, by omega, rfl, by rw [HP0.out]; rfl, rfl⟩
  case round =>
    obtain ⟨ci, hci, rfl, rfl, rfl⟩ := hrel
    by_cases hlt : ci < cl
    · have hci2 : ci < f.cols.length := by rw [HCL.out]; exact hlt
      obtain ⟨cb, co, rfl, hcB, hccell⟩ := HCC.out (by omega)
      obtain ⟨ra, rl, rc, hcell, -, hri⟩ := hccell ci hci2
      have c0 := (HB0.out.cell (p := ⟨cb, co + ci, none⟩) hcB).trans hcell
      have hkl : (ci : Int) < (cl : Int) := by omega
      have hk0 : (0 : Int) ≤ (ci : Int) := by omega
      obtain ⟨hrl, hrm, hrc⟩ := hri
      have h1000 := HB1.out ci hci2
      have HRL := Lib.hid hrl
      have HRC := Lib.hid hrc
      have hrl2 : rl ≤ 1000 := by omega
      clear hccell hcell hrl hrc hrm h1000
      go_wp2_with fail
      go_loopw [5, 7] (fun v5 v7 wr => ∃ k : Nat, k ≤ rl ∧ v7 = .int .i64 k ∧ v5 = .int .i64 ((f.pre ci k).count n : Nat) ∧ W0 = wr) (fun _ v7 _ => rl - (intOf v7).toNat)
      case atStart => exact ⟨0, by omega, rfl, rfl, rfl⟩
      case round =>
        obtain ⟨k, hk, rfl, rfl, rfl⟩ := hrel
        have hbd := HBD.out ci k (by omega)
        by_cases hlt2 : k < rl
        · have hk2 : k < f.cols[ci].length := by rw [HRL.out]; exact hlt2
          obtain ⟨rb, ro, rfl, hrB, hrcell⟩ := HRC.out (by omega)
          have cx := (HB0.out.cell (p := ⟨rb, ro + k, none⟩) hrB).trans (hrcell k hk2)
          have hkl2 : (k : Int) < (rl : Int) := by omega
          have hk02 : (0 : Int) ≤ (k : Int) := by omega
          have HN := Lib.hid (HPN.out ci k hci2 hk2)
          clear hrcell
          obtain ⟨x, hx⟩ : ∃ x, f.cols[ci][k] = x := ⟨_, rfl⟩
          rw [hx] at cx HN
          clear hx
          generalize (f.pre ci k).count n = m at *
          by_cases he : x = n
          · subst he
            have HN2 := Lib.hid (HN.out.trans (show _ = m + 1 by rw [if_pos rfl]))
            clear HN
            go_wp2_with fail
            go_roundw
            case rel => exact ⟨k + 1, by omega, by go_num, by rw [HN2.out]; go_num, trivial⟩
            case measure => simp [intOf]; omega
          · have HN2 := Lib.hid (HN.out.trans (show _ = m by rw [if_neg he]; rfl))
            have heB : (x == n) = false := by simpa using he
            clear HN
            go_wp2_with fail
            go_roundw
            case rel => exact ⟨k + 1, by omega, by go_num, by rw [HN2.out], trivial⟩
            case measure => simp [intOf]; omega
        · obtain rfl : rl = k := by omega
          have HE := Lib.hid (show f.pre ci rl = f.pre (ci + 1) 0 by rw [← HPE.out ci hci2, HRL.out])
          go_wp2_with fail
          go_roundw
          case rel => exact ⟨ci + 1, by omega, by go_num, by rw [← HE.out], trivial⟩
          case measure => simp [intOf]; omega
    · obtain rfl : cl = ci := by omega
      have e1 : f.pre cl 0 = f.flat := by rw [← HPA.out, HCL.out]
      rw [e1]
      clear e1
      go_wp2_with fail
      go_ret
      exact ⟨rfl, HB0.out⟩
end Go.Proofs.Ytcklhojeneejiaa
