/- YW YX, joined. -/
import Derived.Test.YtcklhojeneejiaaYV
/- The reference of pages: IsSpan, Check of a frame with too much of something. -/
namespace Go.Proofs.Ytcklhojeneejiaa
set_option linter.unusedVariables false
set_option linter.unusedSimpArgs false
open Go.RowKit

set_option maxRecDepth 100000 in
set_option maxHeartbeats 4000000 in
theorem refCheck_early (f : PFrame) (sa : Option Addr) (sl sc : Nat) (pa : Option Addr) (pl pc : Nat) (ca : Option Addr) (cl cc : Nat) (w : World) (hp : PAt w sa sl sc pa pl pc ca cl cc f) (h : (btw f.len 0 300 && btw f.slack 0 9 && f.few) = false) :
    Calls Try.prog 23 #[.agg #[.int .i64 f.len, .int .i64 f.slack, .slice sa sl sc, .slice pa pl pc, .slice ca cl cc]] w fun e w' => e = .returned (.int .i64 f.chk) ∧ Below w.heap.size w w' := by
  have HS := Lib.hid (show f.chk = 30 by unfold PFrame.chk PFrame.ok; rw [h]; rfl)
  have HB := Lib.hid (fun n lo hi b (h : btw n lo hi = b) w1 => within_is n lo hi b h w1)
  obtain ⟨⟨k1, m1, -⟩, ⟨k2, m2, -⟩, ⟨k3, m3, -⟩⟩ := hp
  unfold maxLen at m1 m2 m3
  rcases h1 : btw f.len 0 300 with - | -
  · have H1 := Lib.hid (HB.out _ _ _ _ h1)
    clear h k1 k2 k3 h1
    go_enter Try.func23, Try.ntmps23
    go_wp2_with fail
    refine (H1.out _).mono ?_
    rintro e w1 ⟨rfl, rfl⟩
    go_wp2_with fail
    go_ret
    exact ⟨ret_i64 HS.out.symm, (by repeat (first | exact Below.refl _ _ | (refine Below.alloc ?_ (by first | omega | (simp; omega) | simp) _) | (refine Below.setCell ?_ (by first | omega | (simp; omega) | simp) _) | refine Below.drew ?_))⟩
  · have H1 := Lib.hid (HB.out _ _ _ _ h1)
    rcases h2 : btw f.slack 0 9 with - | -
    · have H2 := Lib.hid (HB.out _ _ _ _ h2)
      clear h k1 k2 k3 h1 h2
      go_enter Try.func23, Try.ntmps23
      go_wp2_with fail
      refine (H1.out _).mono ?_
      rintro e w1 ⟨rfl, rfl⟩
      go_wp2_with fail
      refine (H2.out _).mono ?_
      rintro e w1 ⟨rfl, rfl⟩
      go_wp2_with fail
      go_ret
      exact ⟨ret_i64 HS.out.symm, (by repeat (first | exact Below.refl _ _ | (refine Below.alloc ?_ (by first | omega | (simp; omega) | simp) _) | (refine Below.setCell ?_ (by first | omega | (simp; omega) | simp) _) | refine Below.drew ?_))⟩
    · have H2 := Lib.hid (HB.out _ _ _ _ h2)
      rw [h1, h2] at h
      have hf : f.few = false := by simpa using h
      unfold PFrame.few at hf
      rw [k1, k2, k3] at hf
      have hd : 3 < sl ∨ (sl ≤ 3 ∧ 6 < pl) ∨ (sl ≤ 3 ∧ pl ≤ 6 ∧ 3 < cl) := by
        simp at hf
        omega
      clear h h1 h2 hf k1 k2 k3
      rcases hd with d | ⟨d1, d⟩ | ⟨d1, d2, d⟩
      · have j1 : (3 : Int) < (sl : Int) := by omega
        go_enter Try.func23, Try.ntmps23
        go_wp2_with fail
        refine (H1.out _).mono ?_
        rintro e w1 ⟨rfl, rfl⟩
        go_wp2_with fail
        refine (H2.out _).mono ?_
        rintro e w1 ⟨rfl, rfl⟩
        go_wp2_with fail
        go_ret
        exact ⟨ret_i64 HS.out.symm, (by repeat (first | exact Below.refl _ _ | (refine Below.alloc ?_ (by first | omega | (simp; omega) | simp) _) | (refine Below.setCell ?_ (by first | omega | (simp; omega) | simp) _) | refine Below.drew ?_))⟩
      · have j1 : ¬ (3 : Int) < (sl : Int) := by omega
        have j2 : (6 : Int) < (pl : Int) := by omega
        go_enter Try.func23, Try.ntmps23
        go_wp2_with fail
        refine (H1.out _).mono ?_
        rintro e w1 ⟨rfl, rfl⟩
        go_wp2_with fail
        refine (H2.out _).mono ?_
        rintro e w1 ⟨rfl, rfl⟩
        go_wp2_with fail
        go_ret
        exact ⟨ret_i64 HS.out.symm, (by repeat (first | exact Below.refl _ _ | (refine Below.alloc ?_ (by first | omega | (simp; omega) | simp) _) | (refine Below.setCell ?_ (by first | omega | (simp; omega) | simp) _) | refine Below.drew ?_))⟩
      · have j1 : ¬ (3 : Int) < (sl : Int) := by omega
        have j2 : ¬ (6 : Int) < (pl : Int) := by omega
        have j3 : (3 : Int) < (cl : Int) := by omega
        go_enter Try.func23, Try.ntmps23
        go_wp2_with fail
        refine (H1.out _).mono ?_
        rintro e w1 ⟨rfl, rfl⟩
        go_wp2_with fail
        refine (H2.out _).mono ?_
        rintro e w1 ⟨rfl, rfl⟩
        go_wp2_with fail
        go_ret
        exact ⟨ret_i64 HS.out.symm, (by repeat (first | exact Below.refl _ _ | (refine Below.alloc ?_ (by first | omega | (simp; omega) | simp) _) | (refine Below.setCell ?_ (by first | omega | (simp; omega) | simp) _) | refine Below.drew ?_))⟩

def spanB (p : Piece) : Bool := btw p.hi 0 99 && btw p.lo 0 p.hi
theorem piece_span (p : Piece) : pieceB p = (spanB p && btw p.pe 0 99) := by
  unfold pieceB spanB btw
  rw [Bool.eq_iff_iff]
  simp
  omega
theorem IsSpan_is (lo hi : Int) (b : Bool) (h : (btw hi 0 99 && btw lo 0 hi) = b) (w : World) :
    Calls Try.prog 81 #[.agg #[.int .i64 lo, .int .i64 hi], .int .i64 99] w fun e w' => e = .returned (.bool b) ∧ Below w.heap.size w w' := by
  have HW := Lib.hid (fun n l h' b (h : btw n l h' = b) w1 => Within_is n l h' b h w1)
  cases h1 : btw hi 0 99
  · rw [h1] at h
    have HW1 := Lib.hid (HW.out _ _ _ _ h1)
    subst h
    go_enter Try.func81, Try.ntmps81
    go_wp2_with fail
    refine (HW1.out _).mono ?_
    rintro e w1 ⟨rfl, rfl⟩
    go_wp2_with fail
    go_ret
    exact ⟨rfl, (by repeat (first | exact Below.refl _ _ | (refine Below.alloc ?_ (by first | omega | (simp; omega) | simp) _) | (refine Below.setCell ?_ (by first | omega | (simp; omega) | simp) _) | refine Below.drew ?_))⟩
  · rw [h1, Bool.true_and] at h
    have HW1 := Lib.hid (HW.out _ _ _ _ h1)
    have HW2 := Lib.hid (HW.out _ _ _ _ h)
    clear h h1
    go_enter Try.func81, Try.ntmps81
    go_wp2_with fail
    refine (HW1.out _).mono ?_
    rintro e w1 ⟨rfl, rfl⟩
    go_wp2_with fail
    refine (HW2.out _).mono ?_
    rintro e w1 ⟨rfl, rfl⟩
    go_wp2_with fail
    go_ret
    exact ⟨rfl, (by repeat (first | exact Below.refl _ _ | (refine Below.alloc ?_ (by first | omega | (simp; omega) | simp) _) | (refine Below.setCell ?_ (by first | omega | (simp; omega) | simp) _) | refine Below.drew ?_))⟩

end Go.Proofs.Ytcklhojeneejiaa

/- The reference of pages: Check. -/
namespace Go.Proofs.Ytcklhojeneejiaa
set_option linter.unusedVariables false
set_option linter.unusedSimpArgs false
open Go.RowKit

set_option maxRecDepth 100000 in
set_option maxHeartbeats 16000000 in
theorem refCheck_late (f : PFrame) (sa : Option Addr) (sl sc : Nat) (pa : Option Addr) (pl pc : Nat) (ca : Option Addr) (cl cc : Nat) (hB : ∀ c ∈ f.cols, c.length ≤ 1000) (w : World) (hp : PAt w sa sl sc pa pl pc ca cl cc f) (h : (btw f.len 0 300 && btw f.slack 0 9 && f.few) = true) :
    Calls Try.prog 23 #[.agg #[.int .i64 f.len, .int .i64 f.slack, .slice sa sl sc, .slice pa pl pc, .slice ca cl cc]] w fun e w' => e = .returned (.int .i64 f.chk) ∧ Below w.heap.size w w' := by
  have HO := Lib.hid (show f.ok = (f.strips.all stripB && f.pieces.all pieceB && (f.flat.all (fun i => btw i 0 (f.pieces.length - 1)) && (List.range f.pieces.length).all fun i => decide (f.flat.count (i : Int) = 1))) by unfold PFrame.ok; rw [h, placed_times]; simp)
  simp only [Bool.and_eq_true] at h
  obtain ⟨⟨h1, h2⟩, hfew⟩ := h
  have HWI := Lib.hid (fun n lo hi b (h : btw n lo hi = b) w1 => within_is n lo hi b h w1)
  have H1 := Lib.hid (HWI.out _ _ _ _ h1)
  have H2 := Lib.hid (HWI.out _ _ _ _ h2)
  have HSP := Lib.hid (fun (p : Piece) b (h : spanB p = b) w1 => IsSpan_is p.lo p.hi b h w1)
  unfold PFrame.few at hfew
  simp only [Bool.and_eq_true, decide_eq_true_eq] at hfew
  have HTM := Lib.hid (fun (n : Int) c (hc : f.flat.count n = c) W (hb : Below w.heap.size w W) => show Calls Try.prog 82 #[.agg #[.int .i64 f.len, .int .i64 f.slack, .slice sa sl sc, .slice pa pl pc, .slice ca cl cc], .int .i64 n] W fun e w' => e = .returned (.int .i64 (c : Nat)) ∧ Below W.heap.size W w' from hc ▸ times_any f sa sl sc pa pl pc ca cl cc n hfew.2 hB W (hp.below hb))
  have hpmx := hp.2.1.2.1
  have HIP := Lib.hid (fun n b (h : btw n 0 ((pl : Int) - 1) = b) W => IsPiece_is f sa sl sc pa pl pc ca cl cc n W hpmx b h)
  obtain ⟨⟨hsl, hsm, hsc⟩, ⟨hpl, hpm, hpc⟩, ⟨hcl, hcm, hcc⟩⟩ := hp
  have j1 : ¬ (3 : Int) < (sl : Int) := by omega
  have j2 : ¬ (6 : Int) < (pl : Int) := by omega
  have j3 : ¬ (3 : Int) < (cl : Int) := by omega
  have HSL := Lib.hid hsl
  have HPL := Lib.hid hpl
  have HCL := Lib.hid hcl
  have HSC := Lib.hid hsc
  have HPC := Lib.hid hpc
  have HCC := Lib.hid hcc
  have HPE := Lib.hid (fun ci (h : ci < f.cols.length) => pre_end f ci h)
  have HPN := Lib.hid (fun ci k (h : ci < f.cols.length) (hk : k < f.cols[ci].length) => pre_next f ci k h hk)
  have HPS := Lib.hid (fun ci k (h : ci < f.cols.length) (hk : k ≤ f.cols[ci].length) => pre_split f ci k h hk)
  have HPA := Lib.hid (pre_all f)
  have HP0 := Lib.hid (show f.pre 0 0 = [] by simp [PFrame.pre])
  have HB1 := Lib.hid (fun ci (h : ci < f.cols.length) => hB _ (List.getElem_mem h))
  have HK0 := Lib.hid (fun (h : f.ok = false) => show f.chk = 30 by simp [PFrame.chk, h])
  have HK1 := Lib.hid (fun (h : f.ok = true) => show f.chk = 0 by simp [PFrame.chk, h])
  clear h1 h2 hfew hsl hsm hsc hpl hpm hpc hcl hcm hcc hB hpmx
  go_enter Try.func23, Try.ntmps23
  go_wp2_with fail
  obtain ⟨W0, hW0, hB0, hs0, hz0⟩ := name1k w #[.int .i64 f.len, .int .i64 f.slack, .slice sa sl sc, .slice pa pl pc, .slice ca cl cc] 26
  rw [hW0]
  clear hW0
  obtain ⟨x0, x1, x2, x3, x4⟩ : W0.cell? ⟨w.heap.size, 0, none⟩ = some (.int .i64 f.len) ∧ W0.cell? ⟨w.heap.size, 1, none⟩ = some (.int .i64 f.slack) ∧ W0.cell? ⟨w.heap.size, 2, none⟩ = some (.slice sa sl sc) ∧ W0.cell? ⟨w.heap.size, 3, none⟩ = some (.slice pa pl pc) ∧ W0.cell? ⟨w.heap.size, 4, none⟩ = some (.slice ca cl cc) := ⟨hs0 0, hs0 1, hs0 2, hs0 3, hs0 4⟩
  have HB0 := Lib.hid hB0
  have HS0 := Lib.hid hs0
  clear hB0 hs0
  refine (H1.out _).mono ?_
  rintro e w1 ⟨rfl, rfl⟩
  go_wp2_with fail
  refine (H2.out _).mono ?_
  rintro e w1 ⟨rfl, rfl⟩
  go_wp2_with fail
  go_loopw [3] (fun i wr => ∃ k : Nat, k ≤ sl ∧ i = .int .i64 k ∧ ((f.strips.take k).all stripB) = true ∧ W0 = wr) (fun i _ => sl - (intOf i).toNat)
  case atStart => exact ⟨0, by omega, rfl, by simp, rfl⟩
  case round =>
    obtain ⟨k, hk, rfl, hall, rfl⟩ := hrel
    have HALL := Lib.hid hall
    clear hall
    by_cases hlt : k < sl
    · have hk2 : k < f.strips.length := by rw [HSL.out]; exact hlt
      obtain ⟨b, o, rfl, hbB, hcell⟩ := HSC.out (by omega)
      obtain ⟨d0, d1⟩ := hcell k hk2
      have c0 := (HB0.out.cell (p := ⟨b, o + k * 2, none⟩) hbB).trans d0
      have c1 := (HB0.out.cell (p := ⟨b, o + k * 2 + 1, none⟩) hbB).trans d1
      have hkl : (k : Int) < (sl : Int) := by omega
      have hk0 : (0 : Int) ≤ (k : Int) := by omega
      have HN := Lib.hid (all_next HALL.out hk2)
      have HX := Lib.hid (fun h => all_no (f := stripB) hk2 h)
      clear hcell d0 d1
      obtain ⟨m, hm⟩ : ∃ m, f.strips[k] = m := ⟨_, rfl⟩
      rw [hm] at HN HX c0 c1
      clear hm
      obtain ⟨t, mm⟩ := m
      simp only at c0 c1
      rcases hb1 : btw t 1 30 with - | -
      · have HR := Lib.hid (HK0.out (show f.ok = false by rw [HO.out, HX.out (by simp [stripB, hb1])]; simp))
        have HT1 := Lib.hid (HWI.out _ _ _ _ hb1)
        clear hb1 HX HN
        go_wp2_with fail
        refine (HT1.out _).mono ?_
        rintro e w1 ⟨rfl, rfl⟩
        go_wp2_with fail
        go_ret
        exact ⟨ret_i64 HR.out.symm, HB0.out⟩
      · have HT1 := Lib.hid (HWI.out _ _ _ _ hb1)
        rcases hb2 : btw mm 0 4 with - | -
        · have HR := Lib.hid (HK0.out (show f.ok = false by rw [HO.out, HX.out (by simp [stripB, hb2])]; simp))
          have HT2 := Lib.hid (HWI.out _ _ _ _ hb2)
          clear hb1 hb2 HX HN
          go_wp2_with fail
          refine (HT1.out _).mono ?_
          rintro e w1 ⟨rfl, rfl⟩
          go_wp2_with fail
          refine (HT2.out _).mono ?_
          rintro e w1 ⟨rfl, rfl⟩
          go_wp2_with fail
          go_ret
          exact ⟨ret_i64 HR.out.symm, HB0.out⟩
        · have HT2 := Lib.hid (HWI.out _ _ _ _ hb2)
          have HN2 := Lib.hid (HN.out.trans (show stripB ⟨t, mm⟩ = true by simp [stripB, hb1, hb2]))
          clear hb1 hb2 HX HN
          go_wp2_with fail
          refine (HT1.out _).mono ?_
          rintro e w1 ⟨rfl, rfl⟩
          go_wp2_with fail
          refine (HT2.out _).mono ?_
          rintro e w1 ⟨rfl, rfl⟩
          go_wp2_with fail
          go_roundw
          case rel => exact ⟨k + 1, by omega, by go_num, HN2.out, trivial⟩
          case measure => simp [intOf]; omega
    · obtain rfl : sl = k := by omega
      have HALL1 := Lib.hid (all_done HALL.out HSL.out)
      have HO1 := Lib.hid (show f.ok = (f.pieces.all pieceB && (f.flat.all (fun i => btw i 0 (f.pieces.length - 1)) && (List.range f.pieces.length).all fun i => decide (f.flat.count (i : Int) = 1))) by rw [HO.out, HALL1.out]; simp)
      clear hlt
      go_wp2_with fail
      clear x0 x1 x2 x3 x4
      go_loopw [4] (fun i wr => ∃ k : Nat, k ≤ pl ∧ i = .int .i64 k ∧ ((f.pieces.take k).all pieceB) = true ∧ (∀ i : Nat, i < k → f.flat.count (i : Int) = 1) ∧ Below W0.heap.size W0 wr) (fun i _ => pl - (intOf i).toNat)
      case atStart => exact ⟨0, by omega, rfl, by simp, fun i h => by omega, Below.refl _ _⟩
      case round =>
        obtain ⟨k, hk, rfl, hall, hcn, hB⟩ := hrel
        have HALLP := Lib.hid hall
        have HCN := Lib.hid hcn
        clear hall hcn
        have HB2 := Lib.hid hB
        have hbw := HB0.out.trans (hB.mono HB0.out.size)
        have HBW := Lib.hid hbw
        obtain ⟨x0, x1, x2, x3, x4⟩ : wr.cell? ⟨w.heap.size, 0, none⟩ = some (.int .i64 f.len) ∧ wr.cell? ⟨w.heap.size, 1, none⟩ = some (.int .i64 f.slack) ∧ wr.cell? ⟨w.heap.size, 2, none⟩ = some (.slice sa sl sc) ∧ wr.cell? ⟨w.heap.size, 3, none⟩ = some (.slice pa pl pc) ∧ wr.cell? ⟨w.heap.size, 4, none⟩ = some (.slice ca cl cc) := ⟨(hB.cell (p := ⟨w.heap.size, 0, none⟩) hz0).trans (HS0.out 0), (hB.cell (p := ⟨w.heap.size, 1, none⟩) hz0).trans (HS0.out 1), (hB.cell (p := ⟨w.heap.size, 2, none⟩) hz0).trans (HS0.out 2), (hB.cell (p := ⟨w.heap.size, 3, none⟩) hz0).trans (HS0.out 3), (hB.cell (p := ⟨w.heap.size, 4, none⟩) hz0).trans (HS0.out 4)⟩
        have zW : w.heap.size < wr.heap.size := Nat.lt_of_lt_of_le hz0 hB.size
        by_cases hlt : k < pl
        · have hk2 : k < f.pieces.length := by rw [HPL.out]; exact hlt
          obtain ⟨b, o, rfl, hbB, hcell⟩ := HPC.out (by omega)
          obtain ⟨d0, d1, d2⟩ := hcell k hk2
          have c0 := (hbw.cell (p := ⟨b, o + k * 3, none⟩) hbB).trans d0
          have c1 := (hbw.cell (p := ⟨b, o + k * 3 + 1, none⟩) hbB).trans d1
          have c2 := (hbw.cell (p := ⟨b, o + k * 3 + 2, none⟩) hbB).trans d2
          have zb : b < wr.heap.size := Nat.lt_of_lt_of_le hbB hbw.size
          have hkl : (k : Int) < (pl : Int) := by omega
          have hk0 : (0 : Int) ≤ (k : Int) := by omega
          have HN := Lib.hid (all_next HALLP.out hk2)
          have HX := Lib.hid (fun h => HK0.out (show f.ok = false by rw [HO1.out, all_no (f := pieceB) hk2 h]; rfl))
          obtain ⟨c, hc⟩ : ∃ c, f.flat.count (k : Int) = c := ⟨_, rfl⟩
          have HT := Lib.hid (fun W (hb : Below w.heap.size w W) => HTM.out (k : Int) c hc W hb)
          have HXC := Lib.hid (fun (h : ¬ c = 1) => HK0.out (show f.ok = false by
            rw [HO1.out]
            have : ((List.range f.pieces.length).all fun i => decide (f.flat.count (i : Int) = 1)) = false := List.all_eq_false.2 ⟨k, List.mem_range.2 hk2, by rw [hc]; simpa using h⟩
            rw [this]; simp))
          have HC2 := Lib.hid hc
          clear hB hcell d0 d1 d2 hbw hc
          obtain ⟨m, hm⟩ : ∃ m, f.pieces[k] = m := ⟨_, rfl⟩
          rw [hm] at HN HX c0 c1 c2
          clear hm
          rcases hs : spanB m with - | -
          · have HR := Lib.hid (HX.out (by rw [piece_span, hs]; rfl))
            have HS := Lib.hid (HSP.out m _ hs wr)
            clear hs HX HN HXC
            go_wp2_with fail
            refine HS.out.mono ?_
            rintro e w1 ⟨rfl, hb1⟩
            have HBE := Lib.hid (HBW.out.trans (hb1.mono HBW.out.size))
            clear hb1
            go_wp2_with fail
            go_ret
            exact ⟨ret_i64 HR.out.symm, HBE.out⟩
          · have HS := Lib.hid (HSP.out m _ hs wr)
            rcases hpe : btw m.pe 0 99 with - | -
            · have HR := Lib.hid (HX.out (by rw [piece_span, hpe]; simp))
              have HW2 := Lib.hid (HWI.out _ _ _ _ hpe)
              clear hs hpe HX HN HXC
              go_wp2_with fail
              refine HS.out.mono ?_
              rintro e w1 ⟨rfl, hb1⟩
              obtain ⟨hc1, hf1⟩ := bcell hb1
              have HBE := Lib.hid (HBW.out.trans (hb1.mono HBW.out.size))
              clear hb1
              go_wp2_with fail
              refine (HW2.out _).mono ?_
              rintro e w2 ⟨rfl, rfl⟩
              go_wp2_with fail
              go_ret
              exact ⟨ret_i64 HR.out.symm, HBE.out⟩
            · have HW2 := Lib.hid (HWI.out _ _ _ _ hpe)
              have HN2 := Lib.hid (HN.out.trans (show pieceB m = true by rw [piece_span, hs, hpe]; rfl))
              clear hs hpe HX HN
              by_cases hc1' : c = 1
              · subst hc1'
                clear HXC
                go_wp2_with fail
                refine HS.out.mono ?_
                rintro e w1 ⟨rfl, hb1⟩
                obtain ⟨hc1, hf1⟩ := bcell hb1
                have HBE := Lib.hid (HBW.out.trans (hb1.mono HBW.out.size))
                have HBE0 := Lib.hid (HB2.out.trans (hb1.mono HB2.out.size))
                clear hb1
                go_wp2_with fail
                refine (HW2.out _).mono ?_
                rintro e w2 ⟨rfl, rfl⟩
                go_wp2_with fail
                refine (HT.out _ HBE.out).mono ?_
                rintro e w3 ⟨rfl, hb3⟩
                have HBF := Lib.hid (HBE0.out.trans (hb3.mono HBE0.out.size))
                clear hb3
                go_wp2_with fail
                go_roundw
                case rel => exact ⟨k + 1, by omega, by go_num, HN2.out, fun i hi => by
                  by_cases e : i = k
                  · subst e; exact HC2.out
                  · exact HCN.out i (by omega), HBF.out⟩
                case measure => simp [intOf]; omega
              · have HR := Lib.hid (HXC.out hc1')
                have hne : ¬ (c : Int) = 1 := by omega
                clear HXC hc1'
                go_wp2_with fail
                refine HS.out.mono ?_
                rintro e w1 ⟨rfl, hb1⟩
                obtain ⟨hc1, hf1⟩ := bcell hb1
                have HBE := Lib.hid (HBW.out.trans (hb1.mono HBW.out.size))
                clear hb1
                go_wp2_with fail
                refine (HW2.out _).mono ?_
                rintro e w2 ⟨rfl, rfl⟩
                go_wp2_with fail
                refine (HT.out _ HBE.out).mono ?_
                rintro e w3 ⟨rfl, hb3⟩
                have HBF := Lib.hid (HBE.out.trans (hb3.mono HBE.out.size))
                clear hb3
                go_wp2_with fail
                go_ret
                exact ⟨ret_i64 HR.out.symm, HBF.out⟩
        · obtain rfl : pl = k := by omega
          have HALL2 := Lib.hid (all_done HALLP.out HPL.out)
          have HO2 := Lib.hid (show f.ok = f.flat.all (fun i => btw i 0 (f.pieces.length - 1)) by
            have : ((List.range f.pieces.length).all fun i => decide (f.flat.count (i : Int) = 1)) = true := List.all_eq_true.2 fun i hi => by
              have hi' := List.mem_range.1 hi
              rw [HPL.out] at hi'
              simpa using HCN.out i hi'
            rw [HO1.out, HALL2.out, this]; simp)
          have HPL2 := Lib.hid (show f.ok = f.flat.all (fun i => btw i 0 ((pl : Int) - 1)) by rw [HO2.out, HPL.out])
          have HNO := Lib.hid (fun (xs rest : List Int) (x : Int) (h : f.flat = (xs ++ [x]) ++ rest) (h2 : btw x 0 ((pl : Int) - 1) = false) => HK0.out (show f.ok = false from by
            rw [HPL2.out]
            exact List.all_eq_false.2 ⟨x, by rw [h]; simp, by rw [h2]; simp⟩))
          obtain ⟨Wo, rfl⟩ : ∃ Wo : World, Wo = wr := ⟨_, rfl⟩
          have HSO := Lib.hid (fun i => (HB2.out.cell (p := ⟨w.heap.size, i, none⟩) hz0).trans (HS0.out i))
          clear hlt hB hbw
          go_wp2_with fail
          clear x0 x1 x2 x3 x4
          go_loopw [5] (fun i wr => ∃ ci : Nat, ci ≤ cl ∧ i = .int .i64 ci ∧ ((f.pre ci 0).all fun i => btw i 0 ((pl : Int) - 1)) = true ∧ Below Wo.heap.size Wo wr) (fun i _ => cl - (intOf i).toNat)
          case atStart => exact ⟨0, by omega, rfl, by rw [HP0.out]; rfl, Below.refl _ _⟩
          case round =>
            obtain ⟨ci, hci, rfl, hall, hB⟩ := hrel
            have HALC := Lib.hid hall
            have HB3 := Lib.hid hB
            have hbw := HBW.out.trans (hB.mono HBW.out.size)
            have HBW3 := Lib.hid hbw
            obtain ⟨x0, x1, x2, x3, x4⟩ : wr.cell? ⟨w.heap.size, 0, none⟩ = some (.int .i64 f.len) ∧ wr.cell? ⟨w.heap.size, 1, none⟩ = some (.int .i64 f.slack) ∧ wr.cell? ⟨w.heap.size, 2, none⟩ = some (.slice sa sl sc) ∧ wr.cell? ⟨w.heap.size, 3, none⟩ = some (.slice pa pl pc) ∧ wr.cell? ⟨w.heap.size, 4, none⟩ = some (.slice ca cl cc) := ⟨(hB.cell (p := ⟨w.heap.size, 0, none⟩) zW).trans (HSO.out 0), (hB.cell (p := ⟨w.heap.size, 1, none⟩) zW).trans (HSO.out 1), (hB.cell (p := ⟨w.heap.size, 2, none⟩) zW).trans (HSO.out 2), (hB.cell (p := ⟨w.heap.size, 3, none⟩) zW).trans (HSO.out 3), (hB.cell (p := ⟨w.heap.size, 4, none⟩) zW).trans (HSO.out 4)⟩
            clear hall
            by_cases hlt : ci < cl
            · have hci2 : ci < f.cols.length := by rw [HCL.out]; exact hlt
              obtain ⟨cb, co, rfl, hcB, hccell⟩ := HCC.out (by omega)
              obtain ⟨ra, rl, rc, hcell, -, hri⟩ := hccell ci hci2
              have HC0 := Lib.hid hcell
              have hkl : (ci : Int) < (cl : Int) := by omega
              have hk0 : (0 : Int) ≤ (ci : Int) := by omega
              obtain ⟨hrl, hrm, hrc⟩ := hri
              have h1000 := HB1.out ci hci2
              have HRL := Lib.hid hrl
              have HRC := Lib.hid hrc
              have hrl2 : rl ≤ 1000 := by omega
              clear hccell hcell hrl hrc hrm h1000 hB hbw
              go_wp2_with fail
              clear x0 x1 x2 x3 x4
              obtain ⟨Wp, rfl⟩ : ∃ Wp : World, Wp = wr := ⟨_, rfl⟩
              go_loopw [6] (fun i wr => ∃ k : Nat, k ≤ rl ∧ i = .int .i64 k ∧ ((f.pre ci k).all fun i => btw i 0 ((pl : Int) - 1)) = true ∧ Below Wo.heap.size Wo wr) (fun i _ => rl - (intOf i).toNat)
              case atStart => exact ⟨0, by omega, rfl, HALC.out, HB3.out⟩
              case round =>
                obtain ⟨k, hk, rfl, hall, hB⟩ := hrel
                obtain ⟨W1, rfl⟩ : ∃ W1 : World, W1 = wr := ⟨_, rfl⟩
                have HALK := Lib.hid hall
                have HB4 := Lib.hid hB
                have hbw := HBW.out.trans (hB.mono HBW.out.size)
                have HBW4 := Lib.hid hbw
                obtain ⟨x0, x1, x2, x3, x4⟩ : W1.cell? ⟨w.heap.size, 0, none⟩ = some (.int .i64 f.len) ∧ W1.cell? ⟨w.heap.size, 1, none⟩ = some (.int .i64 f.slack) ∧ W1.cell? ⟨w.heap.size, 2, none⟩ = some (.slice sa sl sc) ∧ W1.cell? ⟨w.heap.size, 3, none⟩ = some (.slice pa pl pc) ∧ W1.cell? ⟨w.heap.size, 4, none⟩ = some (.slice (some ⟨cb, co, none⟩) cl cc) := ⟨(hB.cell (p := ⟨w.heap.size, 0, none⟩) zW).trans (HSO.out 0), (hB.cell (p := ⟨w.heap.size, 1, none⟩) zW).trans (HSO.out 1), (hB.cell (p := ⟨w.heap.size, 2, none⟩) zW).trans (HSO.out 2), (hB.cell (p := ⟨w.heap.size, 3, none⟩) zW).trans (HSO.out 3), (hB.cell (p := ⟨w.heap.size, 4, none⟩) zW).trans (HSO.out 4)⟩
                have c0 := (hbw.cell (p := ⟨cb, co + ci, none⟩) hcB).trans HC0.out
                have z0 : w.heap.size < W1.heap.size := Nat.lt_of_lt_of_le zW hB.size
                have z1 : cb < W1.heap.size := Nat.lt_of_lt_of_le hcB hbw.size
                clear hall
                by_cases hlt2 : k < rl
                · have hk2 : k < f.cols[ci].length := by rw [HRL.out]; exact hlt2
                  obtain ⟨rb, ro, rfl, hrB, hrcell⟩ := HRC.out (by omega)
                  have cx := (hbw.cell (p := ⟨rb, ro + k, none⟩) hrB).trans (hrcell k hk2)
                  have z2 : rb < W1.heap.size := Nat.lt_of_lt_of_le hrB hbw.size
                  have hkl2 : (k : Int) < (rl : Int) := by omega
                  have hk02 : (0 : Int) ≤ (k : Int) := by omega
                  have HN := Lib.hid (HPN.out ci k hci2 hk2)
                  obtain ⟨rest, hrest⟩ := HPS.out ci (k + 1) hci2 hk2
                  rw [HN.out] at hrest
                  have HX := Lib.hid (fun h => HNO.out _ _ _ hrest h)
                  clear hrest hrcell hB hbw
                  obtain ⟨x, hx⟩ : ∃ x, f.cols[ci][k] = x := ⟨_, rfl⟩
                  rw [hx] at HX cx HN
                  clear hx
                  obtain ⟨r, hr⟩ : ∃ r, btw x 0 ((pl : Int) - 1) = r := ⟨_, rfl⟩
                  have HIX := Lib.hid (fun W (h : Below W1.heap.size W1 W ∧ ∀ b o, b < W1.heap.size → W.cell? ⟨b, o, none⟩ = W1.cell? ⟨b, o, none⟩) => bothS1 (W0 := W1) (HIP.out x r hr W) h)
                  go_upto_region 19 with fail
                  go_cut [118] (fun v wx => v = .bool (!r) ∧ Below W1.heap.size W1 wx)
                  case first =>
                    go_region_held3 (fun w' => Below W1.heap.size W1 w' ∧ ∀ b o, b < W1.heap.size → w'.cell? ⟨b, o, none⟩ = W1.cell? ⟨b, o, none⟩) (first | with_reducible assumption | ((repeat (first | with_reducible refine bothS_drew ?_ | with_reducible refine bothS_alloc _ ?_ | with_reducible refine bothS_set _ _ (by first | omega | (simp; omega) | simp) ?_)); first | with_reducible assumption | with_reducible exact Hid.out (by assumption) | with_reducible exact ⟨Below.refl _ _, fun _ _ _ => rfl⟩)) (first | (go_at_call 55; with_reducible refine (HIX.out _ ?_).mono ?_; (first | with_reducible assumption | ((repeat (first | with_reducible refine bothS_drew ?_ | with_reducible refine bothS_alloc _ ?_ | with_reducible refine bothS_set _ _ (by first | omega | (simp; omega) | simp) ?_)); first | with_reducible assumption | with_reducible exact Hid.out (by assumption) | with_reducible exact ⟨Below.refl _ _, fun _ _ _ => rfl⟩)); rintro e w' ⟨rfl, k, k1, k2, k3⟩; have HK := Lib.hid k; (try simp at k3); (try have k6 := Nat.lt_of_succ_le k3); (try have k7 := Nat.lt_of_succ_lt k6); (try have k8 := Nat.lt_of_succ_lt k3)) | fail "no arm")
                    all_goals (go_wp2_with fail; go_meet; exact ⟨rfl, And.left (by assumption)⟩)
                  case rest =>
                  obtain ⟨rfl, hB5⟩ := hcut
                  have HB5 := Lib.hid (HB4.out.trans (hB5.mono HB4.out.size))
                  have HB6 := Lib.hid (HBW4.out.trans (hB5.mono HBW4.out.size))
                  clear hB5 c0 cx HIX
                  clear x0 x1 x2 x3 x4
                  cases r
                  · have HR := Lib.hid (HX.out hr)
                    clear HX hr
                    go_wp2_with fail
                    go_ret
                    exact ⟨ret_i64 HR.out.symm, HB6.out⟩
                  · have HR := Lib.hid hr
                    clear HX hr
                    go_wp2_with fail
                    go_roundw
                    case rel => exact ⟨k + 1, by omega, by go_num, by rw [HN.out, List.all_append, HALK.out]; simp [HR.out], HB5.out⟩
                    case measure => simp [intOf]; omega
                · obtain rfl : rl = k := by omega
                  have HE := Lib.hid (show f.pre ci rl = f.pre (ci + 1) 0 by rw [← HPE.out ci hci2, HRL.out])
                  clear hB hbw
                  go_wp2_with fail
                  go_roundw
                  case rel => exact ⟨ci + 1, by omega, by go_num, by rw [← HE.out]; exact HALK.out, HB4.out⟩
                  case measure => simp [intOf]; omega
            · obtain rfl : cl = ci := by omega
              have e1 : f.pre cl 0 = f.flat := by rw [← HPA.out, HCL.out]
              have HR := Lib.hid (HK1.out (by rw [HPL2.out, ← e1]; exact HALC.out))
              clear e1 hB hbw
              go_wp2_with fail
              go_ret
              exact ⟨ret_i64 HR.out.symm, HBW3.out⟩
theorem refCheck_any (f : PFrame) (sa : Option Addr) (sl sc : Nat) (pa : Option Addr) (pl pc : Nat) (ca : Option Addr) (cl cc : Nat) (hB : ∀ c ∈ f.cols, c.length ≤ 1000) (w : World) (hp : PAt w sa sl sc pa pl pc ca cl cc f) :
    Calls Try.prog 23 #[.agg #[.int .i64 f.len, .int .i64 f.slack, .slice sa sl sc, .slice pa pl pc, .slice ca cl cc]] w fun e w' => e = .returned (.int .i64 f.chk) ∧ Below w.heap.size w w' := by
  cases h : (btw f.len 0 300 && btw f.slack 0 9 && f.few)
  · exact refCheck_early f sa sl sc pa pl pc ca cl cc w hp h
  · exact refCheck_late f sa sl sc pa pl pc ca cl cc hB w hp h
theorem refCheck_is (f : PFrame) (sa : Option Addr) (sl sc : Nat) (pa : Option Addr) (pl pc : Nat) (ca : Option Addr) (cl cc : Nat) (c : Int) (h : f.chk = c) (hB : ∀ c ∈ f.cols, c.length ≤ 1000) (w : World) (hp : PAt w sa sl sc pa pl pc ca cl cc f) :
    Calls Try.prog 23 #[.agg #[.int .i64 f.len, .int .i64 f.slack, .slice sa sl sc, .slice pa pl pc, .slice ca cl cc]] w fun e w' => e = .returned (.int .i64 c) ∧ Below w.heap.size w w' := h ▸ refCheck_any f sa sl sc pa pl pc ca cl cc hB w hp
end Go.Proofs.Ytcklhojeneejiaa
