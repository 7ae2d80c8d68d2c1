/- The laws of pages: sameLists, Same, of what reads alike. -/
import Derived.Test.YtcklhojeneejiaaYQ
import Derived.Test.YtcklhojeneejiaaYD
namespace Go.Proofs.Ytcklhojeneejiaa
set_option linter.unusedVariables false
set_option linter.unusedSimpArgs false
open Go.RowKit

set_option maxRecDepth 100000 in
set_option maxHeartbeats 4000000 in
theorem sameLists_yes (xs : List (List Int)) (aa : Option Addr) (al ac : Nat) (ba : Option Addr) (bc : Nat) (w : World) (hp : ListsAt w aa al xs) (hq : ListsAt w ba al xs) :
    Calls Try.prog 35 #[.slice aa al ac, .slice ba al bc] w fun e w' => e = .returned (.bool true) ∧ Below w.heap.size w w' := by
  obtain ⟨hwl, hwm, hwc⟩ := hp
  obtain ⟨-, -, hvc⟩ := hq
  unfold maxLen at hwm
  have HWL := Lib.hid hwl
  have HWC := Lib.hid hwc
  have HVC := Lib.hid hvc
  clear hwl hwc hvc
  go_enter Try.func35, Try.ntmps35
  go_wp2_with fail
  go_loopw [5] (fun i wr => ∃ k : Nat, k ≤ al ∧ i = .int .i64 k ∧ Below w.heap.size w wr) (fun i _ => al - (intOf i).toNat)
  case atStart => exact ⟨0, by omega, rfl, Below.refl _ _⟩
  case round =>
    obtain ⟨k, hk, rfl, hB⟩ := hrel
    have HB := Lib.hid hB
    obtain ⟨W1, rfl⟩ : ∃ W1 : World, W1 = wr := ⟨_, rfl⟩
    by_cases hlt : k < al
    · have hk2 : k < xs.length := by rw [HWL.out]; exact hlt
      obtain ⟨b1, o1, rfl, hB1, hcell⟩ := HWC.out (by omega)
      obtain ⟨b2, o2, rfl, hB2, hdell⟩ := HVC.out (by omega)
      obtain ⟨r1, l1, k1, hc1, -, hi1⟩ := hcell k hk2
      obtain ⟨r2, l2, k2, hc2, -, hi2⟩ := hdell k hk2
      obtain rfl : l1 = l2 := hi1.1.symm.trans hi2.1
      have c0 := (hB.cell (p := ⟨b1, o1 + k, none⟩) hB1).trans hc1
      have d0 := (hB.cell (p := ⟨b2, o2 + k, none⟩) hB2).trans hc2
      have q1 : b1 < W1.heap.size := Nat.lt_of_lt_of_le hB1 hB.size
      have q2 : b2 < W1.heap.size := Nat.lt_of_lt_of_le hB2 hB.size
      have HSR := Lib.hid (fun W (h : Below W1.heap.size W1 W ∧ ∀ b o, b < W1.heap.size → W.cell? ⟨b, o, none⟩ = W1.cell? ⟨b, o, none⟩) => bothS1 (W0 := W1) (same_refl W r1 l1 k1 r2 l1 k2 xs[k] (hi1.below (hB.trans (h.1.mono hB.size))) (hi2.below (hB.trans (h.1.mono hB.size)))) h)
      have hkl : (k : Int) < (al : Int) := by omega
      have hk0 : (0 : Int) ≤ (k : Int) := by omega
      clear hcell hdell hB hc1 hc2 hi1 hi2
      go_upto_region 5 with fail
      go_cut [26] (fun v wx => v = .bool false ∧ Below W1.heap.size W1 wx)
      case first =>
        go_region_held3 (fun w' => Below W1.heap.size W1 w' ∧ ∀ b o, b < W1.heap.size → w'.cell? ⟨b, o, none⟩ = W1.cell? ⟨b, o, none⟩) (first | with_reducible assumption | ((repeat (first | with_reducible refine bothS_drew ?_ | with_reducible refine bothS_alloc _ ?_ | with_reducible refine bothS_set _ _ (by first | omega | (simp; omega) | simp) ?_)); first | with_reducible assumption | with_reducible exact Hid.out (by assumption) | with_reducible exact ⟨Below.refl _ _, fun _ _ _ => rfl⟩)) (first | (go_at_call 29; with_reducible refine (HSR.out _ ?_).mono ?_; (first | with_reducible assumption | ((repeat (first | with_reducible refine bothS_drew ?_ | with_reducible refine bothS_alloc _ ?_ | with_reducible refine bothS_set _ _ (by first | omega | (simp; omega) | simp) ?_)); first | with_reducible assumption | with_reducible exact Hid.out (by assumption) | with_reducible exact ⟨Below.refl _ _, fun _ _ _ => rfl⟩)); rintro e w' ⟨rfl, k, k1, k2, k3⟩; have HK := Lib.hid k; (try simp at k3); (try have k6 := Nat.lt_of_succ_le k3); (try have k7 := Nat.lt_of_succ_lt k6); (try have k8 := Nat.lt_of_succ_lt k3)) | fail "no arm")
        all_goals (go_wp2_with fail; go_meet; exact ⟨rfl, And.left (by assumption)⟩)
      case rest =>
      obtain ⟨rfl, hB2⟩ := hcut
      have HB2 := Lib.hid (HB.out.trans (hB2.mono HB.out.size))
      clear hB2
      go_wp2_with fail
      go_roundw
      case rel => exact ⟨k + 1, by omega, by go_num, HB2.out⟩
      case measure => simp [intOf]; omega
    · obtain rfl : al = k := by omega
      clear hB hlt hk
      go_wp2_with fail
      go_ret
      exact ⟨rfl, HB.out⟩

set_option maxRecDepth 100000 in
set_option maxHeartbeats 4000000 in
theorem Same_yes (f : PFrame) (sa : Option Addr) (sl sc : Nat) (pa : Option Addr) (pl pc : Nat) (ca : Option Addr) (cl cc : Nat) (ga : Option Addr) (gc : Nat) (ha : Option Addr) (hc : Nat) (ia : Option Addr) (ic : Nat) (w : World) (hp : PAt w sa sl sc pa pl pc ca cl cc f) (hq : PAt w ga sl gc ha pl hc ia cl ic f) :
    Calls Try.prog 28 #[.agg #[.int .i64 f.len, .int .i64 f.slack, .slice sa sl sc, .slice pa pl pc, .slice ca cl cc], .agg #[.int .i64 f.len, .int .i64 f.slack, .slice ga sl gc, .slice ha pl hc, .slice ia cl ic]] w fun e w' => e = .returned (.bool true) ∧ Below w.heap.size w w' := by
  have HSI := Lib.hid (fun W (hb : Below w.heap.size w W) => sameLists_yes f.cols ca cl cc ia ic W (hp.2.2.below hb) (hq.2.2.below hb))
  obtain ⟨⟨hml, hmm, hmc⟩, ⟨hwl, hwm, hwc⟩, hn⟩ := hp
  obtain ⟨⟨-, -, hgc⟩, ⟨-, -, hvc⟩, hu⟩ := hq
  unfold maxLen at hmm hwm
  have HML := Lib.hid hml
  have HWL := Lib.hid hwl
  have HMC := Lib.hid hmc
  have HGC := Lib.hid hgc
  have HWC := Lib.hid hwc
  have HVC := Lib.hid hvc
  clear hml hwl hmc hgc hwc hvc hn hu
  go_enter Try.func28, Try.ntmps28
  go_wp2_with fail
  obtain ⟨W0, hW0, hB0, ha0, hs0, hz0⟩ := name2c w #[.int .i64 f.len, .int .i64 f.slack, .slice sa sl sc, .slice pa pl pc, .slice ca cl cc] 26 #[.int .i64 f.len, .int .i64 f.slack, .slice ga sl gc, .slice ha pl hc, .slice ia cl ic] 26
  rw [hW0]
  clear hW0
  obtain ⟨x0, x1, x2, x3, x4⟩ : W0.cell? ⟨w.heap.size, 0, none⟩ = some (.int .i64 f.len) ∧ W0.cell? ⟨w.heap.size, 1, none⟩ = some (.int .i64 f.slack) ∧ W0.cell? ⟨w.heap.size, 2, none⟩ = some (.slice sa sl sc) ∧ W0.cell? ⟨w.heap.size, 3, none⟩ = some (.slice pa pl pc) ∧ W0.cell? ⟨w.heap.size, 4, none⟩ = some (.slice ca cl cc) := ⟨ha0 0, ha0 1, ha0 2, ha0 3, ha0 4⟩
  obtain ⟨y0, y1, y2, y3, y4⟩ : W0.cell? ⟨w.heap.size + 1, 0, none⟩ = some (.int .i64 f.len) ∧ W0.cell? ⟨w.heap.size + 1, 1, none⟩ = some (.int .i64 f.slack) ∧ W0.cell? ⟨w.heap.size + 1, 2, none⟩ = some (.slice ga sl gc) ∧ W0.cell? ⟨w.heap.size + 1, 3, none⟩ = some (.slice ha pl hc) ∧ W0.cell? ⟨w.heap.size + 1, 4, none⟩ = some (.slice ia cl ic) := ⟨hs0 0, hs0 1, hs0 2, hs0 3, hs0 4⟩
  have z0 : w.heap.size < W0.heap.size := by omega
  have z1 : w.heap.size + 1 < W0.heap.size := by omega
  have HB0 := Lib.hid hB0
  have HA0 := Lib.hid (show ∀ W : World, Below W0.heap.size W0 W → W.cell? ⟨w.heap.size, 0, none⟩ = some (.int .i64 f.len) ∧ W.cell? ⟨w.heap.size, 1, none⟩ = some (.int .i64 f.slack) ∧ W.cell? ⟨w.heap.size, 2, none⟩ = some (.slice sa sl sc) ∧ W.cell? ⟨w.heap.size, 3, none⟩ = some (.slice pa pl pc) ∧ W.cell? ⟨w.heap.size, 4, none⟩ = some (.slice ca cl cc) from fun W hb => ⟨(hb.cell (p := ⟨w.heap.size, 0, none⟩) z0).trans x0, (hb.cell (p := ⟨w.heap.size, 1, none⟩) z0).trans x1, (hb.cell (p := ⟨w.heap.size, 2, none⟩) z0).trans x2, (hb.cell (p := ⟨w.heap.size, 3, none⟩) z0).trans x3, (hb.cell (p := ⟨w.heap.size, 4, none⟩) z0).trans x4⟩)
  have HS0 := Lib.hid (show ∀ W : World, Below W0.heap.size W0 W → W.cell? ⟨w.heap.size + 1, 0, none⟩ = some (.int .i64 f.len) ∧ W.cell? ⟨w.heap.size + 1, 1, none⟩ = some (.int .i64 f.slack) ∧ W.cell? ⟨w.heap.size + 1, 2, none⟩ = some (.slice ga sl gc) ∧ W.cell? ⟨w.heap.size + 1, 3, none⟩ = some (.slice ha pl hc) ∧ W.cell? ⟨w.heap.size + 1, 4, none⟩ = some (.slice ia cl ic) from fun W hb => ⟨(hb.cell (p := ⟨w.heap.size + 1, 0, none⟩) z1).trans y0, (hb.cell (p := ⟨w.heap.size + 1, 1, none⟩) z1).trans y1, (hb.cell (p := ⟨w.heap.size + 1, 2, none⟩) z1).trans y2, (hb.cell (p := ⟨w.heap.size + 1, 3, none⟩) z1).trans y3, (hb.cell (p := ⟨w.heap.size + 1, 4, none⟩) z1).trans y4⟩)
  clear hB0 ha0 hs0 hz0
  go_wp2_with fail
  refine (HSI.out _ (by have := HB0.out; first | exact this | exact this.drew)).mono ?_
  rintro e w1 ⟨rfl, hb1⟩
  have hb1' : Below W0.heap.size W0 w1 := hb1
  have HBA := Lib.hid hb1'
  obtain ⟨t0, t1, t2, t3, t4⟩ := HA0.out w1 hb1'
  obtain ⟨u0, u1, u2, u3, u4⟩ := HS0.out w1 hb1'
  clear hb1 hb1' x0 x1 x2 x3 x4 y0 y1 y2 y3 y4
  go_wp2_with fail
  clear t0 t1 t2 t3 t4 u0 u1 u2 u3 u4
  go_loopw [5] (fun i wr => ∃ k : Nat, k ≤ sl ∧ i = .int .i64 k ∧ Below W0.heap.size W0 wr) (fun i _ => sl - (intOf i).toNat)
  case atStart => exact ⟨0, by omega, rfl, HBA.out⟩
  case round =>
    obtain ⟨k, hk, rfl, hB⟩ := hrel
    have HB := Lib.hid hB
    obtain ⟨x0, x1, x2, x3, x4⟩ := HA0.out wr hB
    obtain ⟨y0, y1, y2, y3, y4⟩ := HS0.out wr hB
    have hBW := HB0.out.trans (hB.mono HB0.out.size)
    by_cases hlt : k < sl
    · have hk2 : k < f.strips.length := by rw [HML.out]; exact hlt
      obtain ⟨b1, o1, rfl, hB1, hcell⟩ := HMC.out (by omega)
      obtain ⟨b2, o2, rfl, hB2, hdell⟩ := HGC.out (by omega)
      have c0 := (hBW.cell (p := ⟨b1, o1 + k * 2, none⟩) hB1).trans (hcell k hk2).1
      have c1 := (hBW.cell (p := ⟨b1, o1 + k * 2 + 1, none⟩) hB1).trans (hcell k hk2).2
      have d0 := (hBW.cell (p := ⟨b2, o2 + k * 2, none⟩) hB2).trans (hdell k hk2).1
      have d1 := (hBW.cell (p := ⟨b2, o2 + k * 2 + 1, none⟩) hB2).trans (hdell k hk2).2
      have hkl : (k : Int) < (sl : Int) := by omega
      have hk0 : (0 : Int) ≤ (k : Int) := by omega
      clear hcell hdell hB hBW
      generalize f.strips[k] = p at *
      go_wp2_with fail
      go_quiet (fail)
      go_wp2_with fail
      go_roundw
      case rel => exact ⟨k + 1, by omega, by go_num, HB.out.trans (Go.Joins.below_draws _ _ _)⟩
      case measure => simp [intOf]; omega
    · obtain rfl : sl = k := by omega
      clear hB hBW hlt hk
      go_wp2_with fail
      clear x0 x1 x2 x3 x4 y0 y1 y2 y3 y4
      go_loopw [6] (fun i wr => ∃ k : Nat, k ≤ pl ∧ i = .int .i64 k ∧ Below W0.heap.size W0 wr) (fun i _ => pl - (intOf i).toNat)
      case atStart => exact ⟨0, by omega, rfl, HB.out⟩
      case round =>
        clear HB
        obtain ⟨k, hk, rfl, hB⟩ := hrel
        have HB := Lib.hid hB
        obtain ⟨x0, x1, x2, x3, x4⟩ := HA0.out wr hB
        obtain ⟨y0, y1, y2, y3, y4⟩ := HS0.out wr hB
        have hBW := HB0.out.trans (hB.mono HB0.out.size)
        by_cases hlt : k < pl
        · have hk2 : k < f.pieces.length := by rw [HWL.out]; exact hlt
          obtain ⟨b1, o1, rfl, hB1, hcell⟩ := HWC.out (by omega)
          obtain ⟨b2, o2, rfl, hB2, hdell⟩ := HVC.out (by omega)
          obtain ⟨h0, h1, h2⟩ := hcell k hk2
          obtain ⟨j0, j1, j2⟩ := hdell k hk2
          have c0 := (hBW.cell (p := ⟨b1, o1 + k * 3, none⟩) hB1).trans h0
          have c1 := (hBW.cell (p := ⟨b1, o1 + k * 3 + 1, none⟩) hB1).trans h1
          have c2 := (hBW.cell (p := ⟨b1, o1 + k * 3 + 2, none⟩) hB1).trans h2
          have d0 := (hBW.cell (p := ⟨b2, o2 + k * 3, none⟩) hB2).trans j0
          have d1 := (hBW.cell (p := ⟨b2, o2 + k * 3 + 1, none⟩) hB2).trans j1
          have d2 := (hBW.cell (p := ⟨b2, o2 + k * 3 + 2, none⟩) hB2).trans j2
          have hkl : (k : Int) < (pl : Int) := by omega
          have hk0 : (0 : Int) ≤ (k : Int) := by omega
          clear hcell hdell hB hBW h0 h1 h2 j0 j1 j2
          generalize f.pieces[k] = p at *
          go_wp2_with fail
          go_quiet (fail)
          go_wp2_with fail
          go_roundw
          case rel => exact ⟨k + 1, by omega, by go_num, HB.out.trans (Go.Joins.below_draws _ _ _)⟩
          case measure => simp [intOf]; omega
        · obtain rfl : pl = k := by omega
          clear hB hBW hlt hk
          go_wp2_with fail
          go_ret
          exact ⟨rfl, HB0.out.trans (HB.out.mono HB0.out.size)⟩
end Go.Proofs.Ytcklhojeneejiaa
