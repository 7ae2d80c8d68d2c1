/- Flongs: Same of two shops that read alike. -/
import Derived.Test.YtigeiaiohdemiaaGI
namespace Go.Proofs.Ytigeiaiohdemiaa
set_option linter.unusedVariables false
set_option linter.unusedSimpArgs false
open Go.RowKit

theorem same_refl (w : World) (xa : Option Addr) (xl xc : Nat) (ya : Option Addr) (yc : Nat) (x : List Int) (hx : IntsAt w xa xl x) (hy : IntsAt w ya xl x) :
    Calls Try.prog 48 #[.slice xa xl xc, .slice ya xl yc] w fun e w' => e = .returned (.bool true) ∧ Below w.heap.size w w' := by
  have h := SameInts_any xa xl xc ya xl yc x x w hx hy
  rwa [show sameB x x = true by simp [sameB]] at h
theorem same_refl2 (w : World) (xa : Option Addr) (xl xc : Nat) (ya : Option Addr) (yl yc : Nat) (x : List Int) (hx : IntsAt w xa xl x) (hy : IntsAt w ya yl x) :
    Calls Try.prog 48 #[.slice xa xl xc, .slice ya yl yc] w fun e w' => e = .returned (.bool true) ∧ Below w.heap.size w w' := by
  obtain rfl : xl = yl := hx.1.symm.trans hy.1
  exact same_refl w xa xl xc ya yc x hx hy

set_option maxRecDepth 100000 in
set_option maxHeartbeats 4000000 in
theorem Same_yes (s : FShop) (ma : Option Addr) (ml mc : Nat) (wa : Option Addr) (wl wc : Nat) (na : Option Addr) (nl nc : Nat) (ga : Option Addr) (gc : Nat) (va : Option Addr) (vc : Nat) (ua : Option Addr) (uc : Nat) (w : World) (hp : FAt w ma ml mc wa wl wc na nl nc s) (hq : FAt w ga ml gc va wl vc ua nl uc s) :
    Calls Try.prog 58 #[.agg #[.slice ma ml mc, .slice wa wl wc, .slice na nl nc, .int .i64 s.fresh], .agg #[.slice ga ml gc, .slice va wl vc, .slice ua nl uc, .int .i64 s.fresh]] w fun e w' => e = .returned (.bool true) ∧ Below w.heap.size w w' := by
  obtain ⟨⟨hml, hmm, hmc⟩, ⟨hwl, hwm, hwc⟩, hn⟩ := hp
  obtain ⟨⟨-, -, hgc⟩, ⟨-, -, hvc⟩, hu⟩ := hq
  unfold maxLen at hmm hwm
  have HSI := Lib.hid (fun W (hb : Below w.heap.size w W) => same_refl W na nl nc ua uc s.wants (hn.below hb) (hu.below hb))
  have HML := Lib.hid hml
  have HWL := Lib.hid hwl
  have HMC := Lib.hid hmc
  have HGC := Lib.hid hgc
  have HWC := Lib.hid hwc
  have HVC := Lib.hid hvc
  clear hml hwl hmc hgc hwc hvc hn hu
  go_enter Try.func58, Try.ntmps58
  go_wp2_with fail
  obtain ⟨W0, hW0, hB0, ha0, hs0, hz0⟩ := name2c w #[.slice ma ml mc, .slice wa wl wc, .slice na nl nc, .int .i64 s.fresh] 26 #[.slice ga ml gc, .slice va wl vc, .slice ua nl uc, .int .i64 s.fresh] 26
  rw [hW0]
  clear hW0
  obtain ⟨x0, x1, x2, x3⟩ : W0.cell? ⟨w.heap.size, 0, none⟩ = some (.slice ma ml mc) ∧ W0.cell? ⟨w.heap.size, 1, none⟩ = some (.slice wa wl wc) ∧ W0.cell? ⟨w.heap.size, 2, none⟩ = some (.slice na nl nc) ∧ W0.cell? ⟨w.heap.size, 3, none⟩ = some (.int .i64 s.fresh) := ⟨ha0 0, ha0 1, ha0 2, ha0 3⟩
  obtain ⟨y0, y1, y2, y3⟩ : W0.cell? ⟨w.heap.size + 1, 0, none⟩ = some (.slice ga ml gc) ∧ W0.cell? ⟨w.heap.size + 1, 1, none⟩ = some (.slice va wl vc) ∧ W0.cell? ⟨w.heap.size + 1, 2, none⟩ = some (.slice ua nl uc) ∧ W0.cell? ⟨w.heap.size + 1, 3, none⟩ = some (.int .i64 s.fresh) := ⟨hs0 0, hs0 1, hs0 2, hs0 3⟩
  have z0 : w.heap.size < W0.heap.size := by omega
  have z1 : w.heap.size + 1 < W0.heap.size := by omega
  have HB0 := Lib.hid hB0
  have HA0 := Lib.hid ha0
  have HS0 := Lib.hid hs0
  clear hB0 ha0 hs0 hz0
  go_wp2_with fail
  refine (HSI.out _ HB0.out).mono ?_
  rintro e w1 ⟨rfl, hb1⟩
  have HBA := Lib.hid hb1
  obtain ⟨t0, t1, t2, t3⟩ : w1.cell? ⟨w.heap.size, 0, none⟩ = some (.slice ma ml mc) ∧ w1.cell? ⟨w.heap.size, 1, none⟩ = some (.slice wa wl wc) ∧ w1.cell? ⟨w.heap.size, 2, none⟩ = some (.slice na nl nc) ∧ w1.cell? ⟨w.heap.size, 3, none⟩ = some (.int .i64 s.fresh) := ⟨(hb1.cell (p := ⟨w.heap.size, 0, none⟩) z0).trans x0, (hb1.cell (p := ⟨w.heap.size, 1, none⟩) z0).trans x1, (hb1.cell (p := ⟨w.heap.size, 2, none⟩) z0).trans x2, (hb1.cell (p := ⟨w.heap.size, 3, none⟩) z0).trans x3⟩
  obtain ⟨u0, u1, u2, u3⟩ : w1.cell? ⟨w.heap.size + 1, 0, none⟩ = some (.slice ga ml gc) ∧ w1.cell? ⟨w.heap.size + 1, 1, none⟩ = some (.slice va wl vc) ∧ w1.cell? ⟨w.heap.size + 1, 2, none⟩ = some (.slice ua nl uc) ∧ w1.cell? ⟨w.heap.size + 1, 3, none⟩ = some (.int .i64 s.fresh) := ⟨(hb1.cell (p := ⟨w.heap.size + 1, 0, none⟩) z1).trans y0, (hb1.cell (p := ⟨w.heap.size + 1, 1, none⟩) z1).trans y1, (hb1.cell (p := ⟨w.heap.size + 1, 2, none⟩) z1).trans y2, (hb1.cell (p := ⟨w.heap.size + 1, 3, none⟩) z1).trans y3⟩
  clear hb1 x0 x1 x2 x3 y0 y1 y2 y3
  go_wp2_with fail
  clear t0 t1 t2 t3 u0 u1 u2 u3
  go_loopw [5] (fun i wr => ∃ k : Nat, k ≤ ml ∧ i = .int .i64 k ∧ Below W0.heap.size W0 wr) (fun i _ => ml - (intOf i).toNat)
  case atStart => exact ⟨0, by omega, rfl, HBA.out⟩
  case round =>
    obtain ⟨k, hk, rfl, hB⟩ := hrel
    have HB := Lib.hid hB
    obtain ⟨x0, x1, x2, x3⟩ : wr.cell? ⟨w.heap.size, 0, none⟩ = some (.slice ma ml mc) ∧ wr.cell? ⟨w.heap.size, 1, none⟩ = some (.slice wa wl wc) ∧ wr.cell? ⟨w.heap.size, 2, none⟩ = some (.slice na nl nc) ∧ wr.cell? ⟨w.heap.size, 3, none⟩ = some (.int .i64 s.fresh) := ⟨(hB.cell (p := ⟨w.heap.size, 0, none⟩) z0).trans (HA0.out 0), (hB.cell (p := ⟨w.heap.size, 1, none⟩) z0).trans (HA0.out 1), (hB.cell (p := ⟨w.heap.size, 2, none⟩) z0).trans (HA0.out 2), (hB.cell (p := ⟨w.heap.size, 3, none⟩) z0).trans (HA0.out 3)⟩
    obtain ⟨y0, y1, y2, y3⟩ : wr.cell? ⟨w.heap.size + 1, 0, none⟩ = some (.slice ga ml gc) ∧ wr.cell? ⟨w.heap.size + 1, 1, none⟩ = some (.slice va wl vc) ∧ wr.cell? ⟨w.heap.size + 1, 2, none⟩ = some (.slice ua nl uc) ∧ wr.cell? ⟨w.heap.size + 1, 3, none⟩ = some (.int .i64 s.fresh) := ⟨(hB.cell (p := ⟨w.heap.size + 1, 0, none⟩) z1).trans (HS0.out 0), (hB.cell (p := ⟨w.heap.size + 1, 1, none⟩) z1).trans (HS0.out 1), (hB.cell (p := ⟨w.heap.size + 1, 2, none⟩) z1).trans (HS0.out 2), (hB.cell (p := ⟨w.heap.size + 1, 3, none⟩) z1).trans (HS0.out 3)⟩
    have hBW := HB0.out.trans (hB.mono HB0.out.size)
    by_cases hlt : k < ml
    · have hk2 : k < s.moulds.length := by rw [HML.out]; exact hlt
      obtain ⟨b1, o1, rfl, hB1, hcell⟩ := HMC.out (by omega)
      obtain ⟨b2, o2, rfl, hB2, hdell⟩ := HGC.out (by omega)
      obtain ⟨c0, c1, c2⟩ := Mould.at_below hBW hB1 (hcell k hk2)
      obtain ⟨d0, d1, d2⟩ := Mould.at_below hBW hB2 (hdell k hk2)
      have hkl : (k : Int) < (ml : Int) := by omega
      have hk0 : (0 : Int) ≤ (k : Int) := by omega
      clear hcell hdell hB hBW
      generalize s.moulds[k] = p at *
      go_wp2_with fail
      go_quiet (fail)
      go_wp2_with fail
      go_roundw
      case rel => exact ⟨k + 1, by omega, by go_num, HB.out.trans (Go.Joins.below_draws _ _ _)⟩
      case measure => simp [intOf]; omega
    · obtain rfl : ml = k := by omega
      clear hB hBW hlt hk
      go_wp2_with fail
      clear x0 x1 x2 x3 y0 y1 y2 y3
      go_loopw [6] (fun i wr => ∃ k : Nat, k ≤ wl ∧ i = .int .i64 k ∧ Below W0.heap.size W0 wr) (fun i _ => wl - (intOf i).toNat)
      case atStart => exact ⟨0, by omega, rfl, HB.out⟩
      case round =>
        clear HB
        obtain ⟨k, hk, rfl, hB⟩ := hrel
        have HB := Lib.hid hB
        obtain ⟨W1, rfl⟩ : ∃ W1 : World, W1 = wr := ⟨_, rfl⟩
        obtain ⟨x0, x1, x2, x3⟩ : W1.cell? ⟨w.heap.size, 0, none⟩ = some (.slice ma ml mc) ∧ W1.cell? ⟨w.heap.size, 1, none⟩ = some (.slice wa wl wc) ∧ W1.cell? ⟨w.heap.size, 2, none⟩ = some (.slice na nl nc) ∧ W1.cell? ⟨w.heap.size, 3, none⟩ = some (.int .i64 s.fresh) := ⟨(hB.cell (p := ⟨w.heap.size, 0, none⟩) z0).trans (HA0.out 0), (hB.cell (p := ⟨w.heap.size, 1, none⟩) z0).trans (HA0.out 1), (hB.cell (p := ⟨w.heap.size, 2, none⟩) z0).trans (HA0.out 2), (hB.cell (p := ⟨w.heap.size, 3, none⟩) z0).trans (HA0.out 3)⟩
        obtain ⟨y0, y1, y2, y3⟩ : W1.cell? ⟨w.heap.size + 1, 0, none⟩ = some (.slice ga ml gc) ∧ W1.cell? ⟨w.heap.size + 1, 1, none⟩ = some (.slice va wl vc) ∧ W1.cell? ⟨w.heap.size + 1, 2, none⟩ = some (.slice ua nl uc) ∧ W1.cell? ⟨w.heap.size + 1, 3, none⟩ = some (.int .i64 s.fresh) := ⟨(hB.cell (p := ⟨w.heap.size + 1, 0, none⟩) z1).trans (HS0.out 0), (hB.cell (p := ⟨w.heap.size + 1, 1, none⟩) z1).trans (HS0.out 1), (hB.cell (p := ⟨w.heap.size + 1, 2, none⟩) z1).trans (HS0.out 2), (hB.cell (p := ⟨w.heap.size + 1, 3, none⟩) z1).trans (HS0.out 3)⟩
        have hBW := HB0.out.trans (hB.mono HB0.out.size)
        by_cases hlt : k < wl
        · have hk2 : k < s.worlds.length := by rw [HWL.out]; exact hlt
          obtain ⟨b1, o1, rfl, hB1, hcell⟩ := HWC.out (by omega)
          obtain ⟨b2, o2, rfl, hB2, hdell⟩ := HVC.out (by omega)
          obtain ⟨r1, l1, k1, hc1, hi1⟩ := hcell k hk2
          obtain ⟨r2, l2, k2, hc2, hi2⟩ := hdell k hk2
          obtain rfl : l1 = l2 := hi1.1.symm.trans hi2.1
          have c0 := (hBW.cell (p := ⟨b1, o1 + k, none⟩) hB1).trans hc1
          have d0 := (hBW.cell (p := ⟨b2, o2 + k, none⟩) hB2).trans hc2
          have q1 : b1 < W1.heap.size := Nat.lt_of_lt_of_le hB1 hBW.size
          have q2 : b2 < W1.heap.size := Nat.lt_of_lt_of_le hB2 hBW.size
          have q3 : w.heap.size < W1.heap.size := Nat.lt_of_lt_of_le z0 hB.size
          have q4 : w.heap.size + 1 < W1.heap.size := Nat.lt_of_lt_of_le z1 hB.size
          have HSR := Lib.hid (fun W (h : Below W1.heap.size W1 W ∧ ∀ b o, b < W1.heap.size → W.cell? ⟨b, o, none⟩ = W1.cell? ⟨b, o, none⟩) => bothS1 (W0 := W1) (same_refl W r1 l1 k1 r2 k2 s.worlds[k] (hi1.below (hBW.trans (h.1.mono hBW.size))) (hi2.below (hBW.trans (h.1.mono hBW.size)))) h)
          have hkl : (k : Int) < (wl : Int) := by omega
          have hk0 : (0 : Int) ≤ (k : Int) := by omega
          clear hcell hdell hB hBW hc1 hc2 hi1 hi2
          go_upto_region 11 with fail
          go_cut [74] (fun v wx => v = .bool false ∧ Below W1.heap.size W1 wx)
          case first =>
            go_region_held3 (fun w' => Below W1.heap.size W1 w' ∧ ∀ b o, b < W1.heap.size → w'.cell? ⟨b, o, none⟩ = W1.cell? ⟨b, o, none⟩) (first | with_reducible assumption | ((repeat (first | with_reducible refine bothS_drew ?_ | with_reducible refine bothS_alloc _ ?_ | with_reducible refine bothS_set _ _ (by first | omega | (simp; omega) | simp) ?_)); first | with_reducible assumption | with_reducible exact Hid.out (by assumption) | with_reducible exact ⟨Below.refl _ _, fun _ _ _ => rfl⟩)) (first | (go_at_call 48; with_reducible refine (HSR.out _ ?_).mono ?_; (first | with_reducible assumption | ((repeat (first | with_reducible refine bothS_drew ?_ | with_reducible refine bothS_alloc _ ?_ | with_reducible refine bothS_set _ _ (by first | omega | (simp; omega) | simp) ?_)); first | with_reducible assumption | with_reducible exact Hid.out (by assumption) | with_reducible exact ⟨Below.refl _ _, fun _ _ _ => rfl⟩)); rintro e w' ⟨rfl, k, k1, k2, k3⟩; have HK := Lib.hid k; (try simp at k3); (try have k6 := Nat.lt_of_succ_le k3); (try have k7 := Nat.lt_of_succ_lt k6); (try have k8 := Nat.lt_of_succ_lt k3)) | fail "no arm")
            all_goals (go_wp2_with fail; go_meet; exact ⟨rfl, And.left (by assumption)⟩)
          case rest =>
          obtain ⟨rfl, hB2⟩ := hcut
          have HB2 := Lib.hid (HB.out.trans (hB2.mono HB.out.size))
          clear hB2
          go_wp2_with fail
          go_roundw
          case rel => exact ⟨k + 1, by omega, by go_num, HB2.out⟩
          case measure => simp [intOf]; omega
        · obtain rfl : wl = k := by omega
          clear hB hBW hlt hk
          go_wp2_with fail
          go_ret
          exact ⟨rfl, HB0.out.trans (HB.out.mono HB0.out.size)⟩
end Go.Proofs.Ytigeiaiohdemiaa
