/- Package pages: whether a frame is valid; named, Check. -/
import Derived.Test.YtcklhojeneejiaaYB
namespace Go.Proofs.Ytcklhojeneejiaa
set_option linter.unusedVariables false
set_option linter.unusedSimpArgs false
open Go.RowKit

theorem placed_is (f : PFrame) (sa : Option Addr) (sl sc : Nat) (pa : Option Addr) (pl pc : Nat) (ca : Option Addr) (cl cc : Nat) (hfew : f.few = true) (b : Bool) (h : f.placed = b) (w : World) (hp : PAt w sa sl sc pa pl pc ca cl cc f) :
    Calls Try.prog 106 #[.agg #[.int .i64 f.len, .int .i64 f.slack, .slice sa sl sc, .slice pa pl pc, .slice ca cl cc]] w fun e w' => e = .returned (.bool b) ∧ Below w.heap.size w w' := h ▸ placed_any f sa sl sc pa pl pc ca cl cc hfew w hp

set_option maxRecDepth 100000 in
set_option maxHeartbeats 4000000 in
theorem valid_early (f : PFrame) (sa : Option Addr) (sl sc : Nat) (pa : Option Addr) (pl pc : Nat) (ca : Option Addr) (cl cc : Nat) (w : World) (hp : PAt w sa sl sc pa pl pc ca cl cc f) (h : (btw f.len 0 300 && btw f.slack 0 9 && f.few) = false) :
    Calls Try.prog 79 #[.agg #[.int .i64 f.len, .int .i64 f.slack, .slice sa sl sc, .slice pa pl pc, .slice ca cl cc]] w fun e w' => e = .returned (.bool f.ok) ∧ Below w.heap.size w w' := by
  have HS := Lib.hid (show f.ok = false by unfold PFrame.ok; rw [h]; rfl)
  have HB := Lib.hid (fun n lo hi b (h : btw n lo hi = b) w1 => between_is n lo hi b h w1)
  obtain ⟨⟨k1, m1, -⟩, ⟨k2, m2, -⟩, ⟨k3, m3, -⟩⟩ := hp
  unfold maxLen at m1 m2 m3
  rcases h1 : btw f.len 0 300 with - | -
  · have H1 := Lib.hid (HB.out _ _ _ _ h1)
    clear h k1 k2 k3 h1
    go_enter Try.func79, Try.ntmps79
    go_wp2_with fail
    refine (H1.out _).mono ?_
    rintro e w1 ⟨rfl, rfl⟩
    go_wp2_with fail
    go_ret
    exact ⟨ret_bool HS.out.symm, (by repeat (first | exact Below.refl _ _ | (refine Below.alloc ?_ (by first | omega | (simp; omega) | simp) _) | (refine Below.setCell ?_ (by first | omega | (simp; omega) | simp) _) | refine Below.drew ?_))⟩
  · have H1 := Lib.hid (HB.out _ _ _ _ h1)
    rcases h2 : btw f.slack 0 9 with - | -
    · have H2 := Lib.hid (HB.out _ _ _ _ h2)
      clear h k1 k2 k3 h1 h2
      go_enter Try.func79, Try.ntmps79
      go_wp2_with fail
      refine (H1.out _).mono ?_
      rintro e w1 ⟨rfl, rfl⟩
      go_wp2_with fail
      refine (H2.out _).mono ?_
      rintro e w1 ⟨rfl, rfl⟩
      go_wp2_with fail
      go_ret
      exact ⟨ret_bool HS.out.symm, (by repeat (first | exact Below.refl _ _ | (refine Below.alloc ?_ (by first | omega | (simp; omega) | simp) _) | (refine Below.setCell ?_ (by first | omega | (simp; omega) | simp) _) | refine Below.drew ?_))⟩
    · have H2 := Lib.hid (HB.out _ _ _ _ h2)
      rw [h1, h2] at h
      have hf : f.few = false := by simpa using h
      unfold PFrame.few at hf
      rw [k1, k2, k3] at hf
      have hd : 3 < sl ∨ (sl ≤ 3 ∧ 6 < pl) ∨ (sl ≤ 3 ∧ pl ≤ 6 ∧ 3 < cl) := by
        simp at hf
        omega
      clear h h1 h2 hf k1 k2 k3
      rcases hd with d | ⟨d1, d⟩ | ⟨d1, d2, d⟩
      · have j1 : (3 : Int) < (sl : Int) := by omega
        go_enter Try.func79, Try.ntmps79
        go_wp2_with fail
        refine (H1.out _).mono ?_
        rintro e w1 ⟨rfl, rfl⟩
        go_wp2_with fail
        refine (H2.out _).mono ?_
        rintro e w1 ⟨rfl, rfl⟩
        go_wp2_with fail
        go_ret
        exact ⟨ret_bool HS.out.symm, (by repeat (first | exact Below.refl _ _ | (refine Below.alloc ?_ (by first | omega | (simp; omega) | simp) _) | (refine Below.setCell ?_ (by first | omega | (simp; omega) | simp) _) | refine Below.drew ?_))⟩
      · have j1 : ¬ (3 : Int) < (sl : Int) := by omega
        have j2 : (6 : Int) < (pl : Int) := by omega
        go_enter Try.func79, Try.ntmps79
        go_wp2_with fail
        refine (H1.out _).mono ?_
        rintro e w1 ⟨rfl, rfl⟩
        go_wp2_with fail
        refine (H2.out _).mono ?_
        rintro e w1 ⟨rfl, rfl⟩
        go_wp2_with fail
        go_ret
        exact ⟨ret_bool HS.out.symm, (by repeat (first | exact Below.refl _ _ | (refine Below.alloc ?_ (by first | omega | (simp; omega) | simp) _) | (refine Below.setCell ?_ (by first | omega | (simp; omega) | simp) _) | refine Below.drew ?_))⟩
      · have j1 : ¬ (3 : Int) < (sl : Int) := by omega
        have j2 : ¬ (6 : Int) < (pl : Int) := by omega
        have j3 : (3 : Int) < (cl : Int) := by omega
        go_enter Try.func79, Try.ntmps79
        go_wp2_with fail
        refine (H1.out _).mono ?_
        rintro e w1 ⟨rfl, rfl⟩
        go_wp2_with fail
        refine (H2.out _).mono ?_
        rintro e w1 ⟨rfl, rfl⟩
        go_wp2_with fail
        go_ret
        exact ⟨ret_bool HS.out.symm, (by repeat (first | exact Below.refl _ _ | (refine Below.alloc ?_ (by first | omega | (simp; omega) | simp) _) | (refine Below.setCell ?_ (by first | omega | (simp; omega) | simp) _) | refine Below.drew ?_))⟩

set_option maxRecDepth 100000 in
set_option maxHeartbeats 8000000 in
theorem valid_late (f : PFrame) (sa : Option Addr) (sl sc : Nat) (pa : Option Addr) (pl pc : Nat) (ca : Option Addr) (cl cc : Nat) (w : World) (hp : PAt w sa sl sc pa pl pc ca cl cc f) (h : (btw f.len 0 300 && btw f.slack 0 9 && f.few) = true) :
    Calls Try.prog 79 #[.agg #[.int .i64 f.len, .int .i64 f.slack, .slice sa sl sc, .slice pa pl pc, .slice ca cl cc]] w fun e w' => e = .returned (.bool f.ok) ∧ Below w.heap.size w w' := by
  have HO := Lib.hid (show f.ok = (f.strips.all stripB && f.pieces.all pieceB && f.placed) by unfold PFrame.ok; rw [h]; simp)
  simp only [Bool.and_eq_true] at h
  obtain ⟨⟨h1, h2⟩, hfew⟩ := h
  have HB := Lib.hid (fun n lo hi b (h : btw n lo hi = b) w1 => between_is n lo hi b h w1)
  have H1 := Lib.hid (HB.out _ _ _ _ h1)
  have H2 := Lib.hid (HB.out _ _ _ _ h2)
  have HPP := Lib.hid (fun b (h : f.placed = b) W (hb : Below w.heap.size w W) => placed_is f sa sl sc pa pl pc ca cl cc hfew b h W (hp.below hb))
  have HVP := Lib.hid (fun p b (h : pieceB p = b) w1 => validPiece_is p b h w1)
  unfold PFrame.few at hfew
  simp only [Bool.and_eq_true, decide_eq_true_eq] at hfew
  obtain ⟨⟨hsl, hsm, hsc⟩, ⟨hpl, hpm, hpc⟩, ⟨hcl, hcm, -⟩⟩ := hp
  have j1 : ¬ (3 : Int) < (sl : Int) := by omega
  have j2 : ¬ (6 : Int) < (pl : Int) := by omega
  have j3 : ¬ (3 : Int) < (cl : Int) := by omega
  have HSL := Lib.hid hsl
  have HPL := Lib.hid hpl
  have HSC := Lib.hid hsc
  have HPC := Lib.hid hpc
  clear h1 h2 hfew hsl hsm hsc hpl hpm hpc hcl hcm
  go_enter Try.func79, Try.ntmps79
  go_wp2_with fail
  obtain ⟨W0, hW0, hB0, hs0, hz0⟩ := name1k w #[.int .i64 f.len, .int .i64 f.slack, .slice sa sl sc, .slice pa pl pc, .slice ca cl cc] 87
  rw [hW0]
  clear hW0
  obtain ⟨x0, x1, x2, x3, x4⟩ : W0.cell? ⟨w.heap.size, 0, none⟩ = some (.int .i64 f.len) ∧ W0.cell? ⟨w.heap.size, 1, none⟩ = some (.int .i64 f.slack) ∧ W0.cell? ⟨w.heap.size, 2, none⟩ = some (.slice sa sl sc) ∧ W0.cell? ⟨w.heap.size, 3, none⟩ = some (.slice pa pl pc) ∧ W0.cell? ⟨w.heap.size, 4, none⟩ = some (.slice ca cl cc) := ⟨hs0 0, hs0 1, hs0 2, hs0 3, hs0 4⟩
  have HB0 := Lib.hid hB0
  have HS0 := Lib.hid hs0
  clear hB0 hs0
  refine (H1.out _).mono ?_
  rintro e w1 ⟨rfl, rfl⟩
  go_wp2_with fail
  refine (H2.out _).mono ?_
  rintro e w1 ⟨rfl, rfl⟩
  go_wp2_with fail
  clear x0 x1 x2 x3 x4
  go_loopw [42] (fun i wr => ∃ k : Nat, k ≤ sl ∧ i = .int .i64 k ∧ ((f.strips.take k).all stripB) = true ∧ Below W0.heap.size W0 wr) (fun i _ => sl - (intOf i).toNat)
  case atStart => exact ⟨0, by omega, rfl, by simp, Below.refl _ _⟩
  case round =>
    obtain ⟨k, hk, rfl, hall, hB⟩ := hrel
    have HALL := Lib.hid hall
    clear hall
    have HB1 := Lib.hid hB
    have hbw := HB0.out.trans (hB.mono HB0.out.size)
    have HBW := Lib.hid hbw
    by_cases hlt : k < sl
    · have hk2 : k < f.strips.length := by rw [HSL.out]; exact hlt
      obtain ⟨b, o, rfl, hbB, hcell⟩ := HSC.out (by omega)
      obtain ⟨d0, d1⟩ := hcell k hk2
      have c0 := (hbw.cell (p := ⟨b, o + k * 2, none⟩) hbB).trans d0
      have c1 := (hbw.cell (p := ⟨b, o + k * 2 + 1, none⟩) hbB).trans d1
      have hkl : (k : Int) < (sl : Int) := by omega
      have hk0 : (0 : Int) ≤ (k : Int) := by omega
      have HN := Lib.hid (all_next HALL.out hk2)
      have HX := Lib.hid (fun h => all_no (f := stripB) hk2 h)
      have HBA := Lib.hid (fun m => HB1.out.alloc HB1.out.size m)
      have HBA2 := Lib.hid (fun m => HBW.out.alloc HBW.out.size m)
      clear hB hcell d0 d1 hbw
      obtain ⟨m, hm⟩ : ∃ m, f.strips[k] = m := ⟨_, rfl⟩
      rw [hm] at HN HX c0 c1
      clear hm
      obtain ⟨t, mm⟩ := m
      simp only at c0 c1
      rcases hb1 : btw t 1 30 with - | -
      · have HR := Lib.hid (show f.ok = false by rw [HO.out, HX.out (by simp [stripB, hb1])]; simp)
        have HT1 := Lib.hid (HB.out _ _ _ _ hb1)
        clear hb1 HX HN
        go_wp2_with fail
        refine (HT1.out _).mono ?_
        rintro e w1 ⟨rfl, rfl⟩
        go_wp2_with fail
        go_ret
        exact ⟨ret_bool HR.out.symm, HBA2.out _⟩
      · have HT1 := Lib.hid (HB.out _ _ _ _ hb1)
        rcases hb2 : btw mm 0 4 with - | -
        · have HR := Lib.hid (show f.ok = false by rw [HO.out, HX.out (by simp [stripB, hb2])]; simp)
          have HT2 := Lib.hid (HB.out _ _ _ _ hb2)
          clear hb1 hb2 HX HN
          go_wp2_with fail
          refine (HT1.out _).mono ?_
          rintro e w1 ⟨rfl, rfl⟩
          go_wp2_with fail
          refine (HT2.out _).mono ?_
          rintro e w1 ⟨rfl, rfl⟩
          go_wp2_with fail
          go_ret
          exact ⟨ret_bool HR.out.symm, HBA2.out _⟩
        · have HT2 := Lib.hid (HB.out _ _ _ _ hb2)
          have HN2 := Lib.hid (HN.out.trans (show stripB ⟨t, mm⟩ = true by simp [stripB, hb1, hb2]))
          clear hb1 hb2 HX HN
          go_wp2_with fail
          refine (HT1.out _).mono ?_
          rintro e w1 ⟨rfl, rfl⟩
          go_wp2_with fail
          refine (HT2.out _).mono ?_
          rintro e w1 ⟨rfl, rfl⟩
          go_wp2_with fail
          go_roundw
          case rel => exact ⟨k + 1, by omega, by go_num, HN2.out, HBA.out _⟩
          case measure => simp [intOf]; omega
    · obtain rfl : sl = k := by omega
      have HALL1 := Lib.hid (all_done HALL.out HSL.out)
      have HO1 := Lib.hid (show f.ok = (f.pieces.all pieceB && f.placed) by rw [HO.out, HALL1.out]; simp)
      obtain ⟨x0, x1, x2, x3, x4⟩ : wr.cell? ⟨w.heap.size, 0, none⟩ = some (.int .i64 f.len) ∧ wr.cell? ⟨w.heap.size, 1, none⟩ = some (.int .i64 f.slack) ∧ wr.cell? ⟨w.heap.size, 2, none⟩ = some (.slice sa sl sc) ∧ wr.cell? ⟨w.heap.size, 3, none⟩ = some (.slice pa pl pc) ∧ wr.cell? ⟨w.heap.size, 4, none⟩ = some (.slice ca cl cc) := ⟨(hB.cell (p := ⟨w.heap.size, 0, none⟩) hz0).trans (HS0.out 0), (hB.cell (p := ⟨w.heap.size, 1, none⟩) hz0).trans (HS0.out 1), (hB.cell (p := ⟨w.heap.size, 2, none⟩) hz0).trans (HS0.out 2), (hB.cell (p := ⟨w.heap.size, 3, none⟩) hz0).trans (HS0.out 3), (hB.cell (p := ⟨w.heap.size, 4, none⟩) hz0).trans (HS0.out 4)⟩
      obtain ⟨Wo, rfl⟩ : ∃ Wo : World, Wo = wr := ⟨_, rfl⟩
      have HSO := Lib.hid (fun i => (HB1.out.cell (p := ⟨w.heap.size, i, none⟩) hz0).trans (HS0.out i))
      have hzo : w.heap.size < Wo.heap.size := Nat.lt_of_lt_of_le hz0 HB1.out.size
      clear hB hbw hlt
      go_wp2_with fail
      clear x0 x1 x2 x3 x4
      go_loopw [61] (fun i wr => ∃ k : Nat, k ≤ pl ∧ i = .int .i64 k ∧ ((f.pieces.take k).all pieceB) = true ∧ Below Wo.heap.size Wo wr) (fun i _ => pl - (intOf i).toNat)
      case atStart => exact ⟨0, by omega, rfl, by simp, Below.refl _ _⟩
      case round =>
        obtain ⟨k, hk, rfl, hall, hB⟩ := hrel
        have HALLP := Lib.hid hall
        clear hall
        have HB2 := Lib.hid hB
        have hbw := HBW.out.trans (hB.mono HBW.out.size)
        have HBW2 := Lib.hid hbw
        by_cases hlt : k < pl
        · have hk2 : k < f.pieces.length := by rw [HPL.out]; exact hlt
          obtain ⟨b, o, rfl, hbB, hcell⟩ := HPC.out (by omega)
          obtain ⟨d0, d1, d2⟩ := hcell k hk2
          have c0 := (hbw.cell (p := ⟨b, o + k * 3, none⟩) hbB).trans d0
          have c1 := (hbw.cell (p := ⟨b, o + k * 3 + 1, none⟩) hbB).trans d1
          have c2 := (hbw.cell (p := ⟨b, o + k * 3 + 2, none⟩) hbB).trans d2
          have hkl : (k : Int) < (pl : Int) := by omega
          have hk0 : (0 : Int) ≤ (k : Int) := by omega
          have HN := Lib.hid (all_next HALLP.out hk2)
          have HX := Lib.hid (fun h => all_no (f := pieceB) hk2 h)
          have HBA := Lib.hid (fun m => HB2.out.alloc HB2.out.size m)
          have HBA2 := Lib.hid (fun m => HBW2.out.alloc HBW2.out.size m)
          clear hB hcell d0 d1 d2 hbw
          obtain ⟨m, hm⟩ : ∃ m, f.pieces[k] = m := ⟨_, rfl⟩
          rw [hm] at HN HX c0 c1 c2
          clear hm
          rcases hb : pieceB m with - | -
          · have HR := Lib.hid (show f.ok = false by rw [HO1.out, HX.out hb]; simp)
            have HT := Lib.hid (HVP.out _ _ hb)
            clear hb HX HN
            go_wp2_with fail
            refine (HT.out _).mono ?_
            rintro e w1 ⟨rfl, hb1⟩
            have HBE := Lib.hid ((HBA2.out _).trans (hb1.mono (HBA2.out _).size))
            clear hb1
            go_wp2_with fail
            go_ret
            exact ⟨ret_bool HR.out.symm, HBE.out⟩
          · have HT := Lib.hid (HVP.out _ _ hb)
            have HN2 := Lib.hid (HN.out.trans hb)
            clear hb HX HN
            go_wp2_with fail
            refine (HT.out _).mono ?_
            rintro e w1 ⟨rfl, hb1⟩
            have HBE := Lib.hid ((HBA.out _).trans (hb1.mono (HBA.out _).size))
            clear hb1
            go_wp2_with fail
            go_roundw
            case rel => exact ⟨k + 1, by omega, by go_num, HN2.out, HBE.out⟩
            case measure => simp [intOf]; omega
        · obtain rfl : pl = k := by omega
          have HALL2 := Lib.hid (all_done HALLP.out HPL.out)
          obtain ⟨r, hr⟩ : ∃ r, f.placed = r := ⟨_, rfl⟩
          have HPR := Lib.hid (HPP.out r hr wr hbw)
          have HR := Lib.hid (show f.ok = r by rw [HO1.out, HALL2.out, hr]; simp)
          obtain ⟨x0, x1, x2, x3, x4⟩ : wr.cell? ⟨w.heap.size, 0, none⟩ = some (.int .i64 f.len) ∧ wr.cell? ⟨w.heap.size, 1, none⟩ = some (.int .i64 f.slack) ∧ wr.cell? ⟨w.heap.size, 2, none⟩ = some (.slice sa sl sc) ∧ wr.cell? ⟨w.heap.size, 3, none⟩ = some (.slice pa pl pc) ∧ wr.cell? ⟨w.heap.size, 4, none⟩ = some (.slice ca cl cc) := ⟨(hB.cell (p := ⟨w.heap.size, 0, none⟩) hzo).trans (HSO.out 0), (hB.cell (p := ⟨w.heap.size, 1, none⟩) hzo).trans (HSO.out 1), (hB.cell (p := ⟨w.heap.size, 2, none⟩) hzo).trans (HSO.out 2), (hB.cell (p := ⟨w.heap.size, 3, none⟩) hzo).trans (HSO.out 3), (hB.cell (p := ⟨w.heap.size, 4, none⟩) hzo).trans (HSO.out 4)⟩
          clear hr hB hbw
          go_wp2_with fail
          refine HPR.out.mono ?_
          rintro e w1 ⟨rfl, hb1⟩
          have HBE := Lib.hid (HBW2.out.trans (hb1.mono HBW2.out.size))
          clear hb1
          go_wp2_with fail
          go_ret
          exact ⟨ret_bool HR.out.symm, HBE.out⟩
theorem valid_any (f : PFrame) (sa : Option Addr) (sl sc : Nat) (pa : Option Addr) (pl pc : Nat) (ca : Option Addr) (cl cc : Nat) (w : World) (hp : PAt w sa sl sc pa pl pc ca cl cc f) :
    Calls Try.prog 79 #[.agg #[.int .i64 f.len, .int .i64 f.slack, .slice sa sl sc, .slice pa pl pc, .slice ca cl cc]] w fun e w' => e = .returned (.bool f.ok) ∧ Below w.heap.size w w' := by
  cases h : (btw f.len 0 300 && btw f.slack 0 9 && f.few)
  · exact valid_early f sa sl sc pa pl pc ca cl cc w hp h
  · exact valid_late f sa sl sc pa pl pc ca cl cc w hp h
theorem valid_is (f : PFrame) (sa : Option Addr) (sl sc : Nat) (pa : Option Addr) (pl pc : Nat) (ca : Option Addr) (cl cc : Nat) (b : Bool) (h : f.ok = b) (w : World) (hp : PAt w sa sl sc pa pl pc ca cl cc f) :
    Calls Try.prog 79 #[.agg #[.int .i64 f.len, .int .i64 f.slack, .slice sa sl sc, .slice pa pl pc, .slice ca cl cc]] w fun e w' => e = .returned (.bool b) ∧ Below w.heap.size w w' := h ▸ valid_any f sa sl sc pa pl pc ca cl cc w hp

def PFrame.name (f : PFrame) (r : Bool) : Int := if f.ok then (if r then 0 else 1) else 30
set_option maxHeartbeats 1000000 in
theorem named_any (f : PFrame) (sa : Option Addr) (sl sc : Nat) (pa : Option Addr) (pl pc : Nat) (ca : Option Addr) (cl cc : Nat) (r : Bool) (w : World) (hp : PAt w sa sl sc pa pl pc ca cl cc f) :
    Calls Try.prog 74 #[.agg #[.int .i64 f.len, .int .i64 f.slack, .slice sa sl sc, .slice pa pl pc, .slice ca cl cc], .bool r] w fun e w' => e = .returned (.int .i64 (f.name r)) ∧ Below w.heap.size w w' := by
  have HV := Lib.hid (fun b (h : f.ok = b) W (hb : Below w.heap.size w W) => valid_is f sa sl sc pa pl pc ca cl cc b h W (hp.below hb))
  clear hp
  rcases ho : f.ok with - | -
  · have HV1 := Lib.hid (HV.out _ ho)
    have HR := Lib.hid (show f.name r = 30 by simp [PFrame.name, ho])
    clear ho
    go_enter Try.func74, Try.ntmps74
    go_wp2_with fail
    refine (HV1.out _ (by repeat (first | exact Below.refl _ _ | (refine Below.alloc ?_ (by first | omega | (simp; omega) | simp) _) | (refine Below.setCell ?_ (by first | omega | (simp; omega) | simp) _) | refine Below.drew ?_))).mono ?_
    rintro e w1 ⟨rfl, hb1⟩
    have hw1 := ((by repeat (first | exact Below.refl _ _ | (refine Below.alloc ?_ (by first | omega | (simp; omega) | simp) _) | (refine Below.setCell ?_ (by first | omega | (simp; omega) | simp) _) | refine Below.drew ?_)) : Below w.heap.size w _).trans (hb1.mono (by first | (simp; done) | (simp; omega) | omega))
    clear hb1
    go_wp2_with fail
    go_ret
    exact ⟨ret_i64 HR.out.symm, hw1⟩
  · have HV1 := Lib.hid (HV.out _ ho)
    cases r
    · have HR := Lib.hid (show f.name false = 1 by simp [PFrame.name, ho])
      clear ho
      go_enter Try.func74, Try.ntmps74
      go_wp2_with fail
      refine (HV1.out _ (by repeat (first | exact Below.refl _ _ | (refine Below.alloc ?_ (by first | omega | (simp; omega) | simp) _) | (refine Below.setCell ?_ (by first | omega | (simp; omega) | simp) _) | refine Below.drew ?_))).mono ?_
      rintro e w1 ⟨rfl, hb1⟩
      have hw1 := ((by repeat (first | exact Below.refl _ _ | (refine Below.alloc ?_ (by first | omega | (simp; omega) | simp) _) | (refine Below.setCell ?_ (by first | omega | (simp; omega) | simp) _) | refine Below.drew ?_)) : Below w.heap.size w _).trans (hb1.mono (by first | (simp; done) | (simp; omega) | omega))
      clear hb1
      go_wp2_with fail
      go_ret
      exact ⟨ret_i64 HR.out.symm, hw1⟩
    · have HR := Lib.hid (show f.name true = 0 by simp [PFrame.name, ho])
      clear ho
      go_enter Try.func74, Try.ntmps74
      go_wp2_with fail
      refine (HV1.out _ (by repeat (first | exact Below.refl _ _ | (refine Below.alloc ?_ (by first | omega | (simp; omega) | simp) _) | (refine Below.setCell ?_ (by first | omega | (simp; omega) | simp) _) | refine Below.drew ?_))).mono ?_
      rintro e w1 ⟨rfl, hb1⟩
      have hw1 := ((by repeat (first | exact Below.refl _ _ | (refine Below.alloc ?_ (by first | omega | (simp; omega) | simp) _) | (refine Below.setCell ?_ (by first | omega | (simp; omega) | simp) _) | refine Below.drew ?_)) : Below w.heap.size w _).trans (hb1.mono (by first | (simp; done) | (simp; omega) | omega))
      clear hb1
      go_wp2_with fail
      go_ret
      exact ⟨ret_i64 HR.out.symm, hw1⟩
theorem named_is (f : PFrame) (sa : Option Addr) (sl sc : Nat) (pa : Option Addr) (pl pc : Nat) (ca : Option Addr) (cl cc : Nat) (r : Bool) (v : Int) (h : f.name r = v) (w : World) (hp : PAt w sa sl sc pa pl pc ca cl cc f) :
    Calls Try.prog 74 #[.agg #[.int .i64 f.len, .int .i64 f.slack, .slice sa sl sc, .slice pa pl pc, .slice ca cl cc], .bool r] w fun e w' => e = .returned (.int .i64 v) ∧ Below w.heap.size w w' := h ▸ named_any f sa sl sc pa pl pc ca cl cc r w hp
def PFrame.chk (f : PFrame) : Int := if f.ok then 0 else 30
set_option maxHeartbeats 1000000 in
theorem Check_any (f : PFrame) (sa : Option Addr) (sl sc : Nat) (pa : Option Addr) (pl pc : Nat) (ca : Option Addr) (cl cc : Nat) (w : World) (hp : PAt w sa sl sc pa pl pc ca cl cc f) :
    Calls Try.prog 22 #[.agg #[.int .i64 f.len, .int .i64 f.slack, .slice sa sl sc, .slice pa pl pc, .slice ca cl cc]] w fun e w' => e = .returned (.int .i64 f.chk) ∧ Below w.heap.size w w' := by
  have HV := Lib.hid (fun b (h : f.ok = b) W (hb : Below w.heap.size w W) => valid_is f sa sl sc pa pl pc ca cl cc b h W (hp.below hb))
  clear hp
  rcases ho : f.ok with - | -
  · have HV1 := Lib.hid (HV.out _ ho)
    have HR := Lib.hid (show f.chk = 30 by simp [PFrame.chk, ho])
    clear ho
    go_enter Try.func22, Try.ntmps22
    go_wp2_with fail
    refine (HV1.out _ (by repeat (first | exact Below.refl _ _ | (refine Below.alloc ?_ (by first | omega | (simp; omega) | simp) _) | (refine Below.setCell ?_ (by first | omega | (simp; omega) | simp) _) | refine Below.drew ?_))).mono ?_
    rintro e w1 ⟨rfl, hb1⟩
    have hw1 := ((by repeat (first | exact Below.refl _ _ | (refine Below.alloc ?_ (by first | omega | (simp; omega) | simp) _) | (refine Below.setCell ?_ (by first | omega | (simp; omega) | simp) _) | refine Below.drew ?_)) : Below w.heap.size w _).trans (hb1.mono (by first | (simp; done) | (simp; omega) | omega))
    clear hb1
    go_wp2_with fail
    go_ret
    exact ⟨ret_i64 HR.out.symm, hw1⟩
  · have HV1 := Lib.hid (HV.out _ ho)
    have HR := Lib.hid (show f.chk = 0 by simp [PFrame.chk, ho])
    clear ho
    go_enter Try.func22, Try.ntmps22
    go_wp2_with fail
    refine (HV1.out _ (by repeat (first | exact Below.refl _ _ | (refine Below.alloc ?_ (by first | omega | (simp; omega) | simp) _) | (refine Below.setCell ?_ (by first | omega | (simp; omega) | simp) _) | refine Below.drew ?_))).mono ?_
    rintro e w1 ⟨rfl, hb1⟩
    have hw1 := ((by repeat (first | exact Below.refl _ _ | (refine Below.alloc ?_ (by first | omega | (simp; omega) | simp) _) | (refine Below.setCell ?_ (by first | omega | (simp; omega) | simp) _) | refine Below.drew ?_)) : Below w.heap.size w _).trans (hb1.mono (by first | (simp; done) | (simp; omega) | omega))
    clear hb1
    go_wp2_with fail
    go_ret
    exact ⟨ret_i64 HR.out.symm, hw1⟩
theorem Check_is (f : PFrame) (sa : Option Addr) (sl sc : Nat) (pa : Option Addr) (pl pc : Nat) (ca : Option Addr) (cl cc : Nat) (c : Int) (h : f.chk = c) (w : World) (hp : PAt w sa sl sc pa pl pc ca cl cc f) :
    Calls Try.prog 22 #[.agg #[.int .i64 f.len, .int .i64 f.slack, .slice sa sl sc, .slice pa pl pc, .slice ca cl cc]] w fun e w' => e = .returned (.int .i64 c) ∧ Below w.heap.size w w' := h ▸ Check_any f sa sl sc pa pl pc ca cl cc w hp
end Go.Proofs.Ytcklhojeneejiaa
