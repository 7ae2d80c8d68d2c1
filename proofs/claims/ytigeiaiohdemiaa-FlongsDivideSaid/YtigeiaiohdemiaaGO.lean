/- Flongs: the reference's sureOf, Left, Sure, New. -/
import Derived.Test.YtigeiaiohdemiaaGN
import Derived.Test.YtigeiaiohdemiaaGJ
namespace Go.Proofs.Ytigeiaiohdemiaa
set_option linter.unusedVariables false
set_option linter.unusedSimpArgs false
open Go.RowKit

attribute [local go_sem] field_span

set_option maxRecDepth 100000 in
set_option maxHeartbeats 4000000 in
theorem refSureOf_is (s : FShop) (ma : Option Addr) (ml mc : Nat) (wa : Option Addr) (wl wc : Nat) (na : Option Addr) (nl nc : Nat) (p : Int) (ho : s.ok = true) (hl0 : 0 < s.left.length) (w : World) (hp : FAt w ma ml mc wa wl wc na nl nc s) :
    Calls Try.prog 92 #[.agg #[.slice ma ml mc, .slice wa wl wc, .slice na nl nc, .int .i64 s.fresh], .int .i64 p] w fun e w' => e = .returned (.int .i64 (sumOf s.moulds (loOf s.left) p)) ∧ Below w.heap.size w w' := by
  have HLO := Lib.hid (fun m (hm : m < s.moulds.length) W (hb : Below w.heap.size w W) => refLeftOf_is s ma ml mc wa wl wc na nl nc m hm ho hl0 W (hp.below hb))
  have HSB := Lib.hid (fun k (hk : k ≤ s.moulds.length) => sumTo_bd (ms := s.moulds) (lo_bd ho) p k hk)
  have hm5 := (FShop.ok_few ho).2.1
  obtain ⟨hml, hmm, hmc⟩ := hp.1
  have HML := Lib.hid hml
  have HMC := Lib.hid hmc
  have hml5 : ml ≤ 5 := by omega
  have HE := Lib.hid (show sumOf s.moulds (loOf s.left) p = sumTo s.moulds (loOf s.left) p s.moulds.length from rfl)
  have HB1 := Lib.hid (fun t => lo_bd ho t)
  clear hp ho hl0 hml hmm hmc hm5
  generalize loOf s.left = lo at *
  generalize hiOf s.left = hi at *
  go_enter Try.func92, Try.ntmps92
  go_wp2_with fail
  obtain ⟨W0, hW0, hB0, hs0, hz0⟩ := name1k w #[.slice ma ml mc, .slice wa wl wc, .slice na nl nc, .int .i64 s.fresh] 26
  rw [hW0]
  clear hW0
  have HB0 := Lib.hid hB0
  have HS0 := Lib.hid hs0
  clear hB0 hs0
  have hsum0 : sumTo s.moulds lo p 0 = 0 := rfl
  have HSUM0 := Lib.hid hsum0
  clear hsum0
  go_loopw [5, 6] (fun n i wr => ∃ k : Nat, k ≤ ml ∧ i = .int .i64 k ∧ n = .int .i64 (sumTo s.moulds lo p k) ∧ Below W0.heap.size W0 wr) (fun _ i _ => ml - (intOf i).toNat)
  case atStart => exact ⟨0, by omega, rfl, by rw [HSUM0.out], Below.refl _ _⟩
  case round =>
    obtain ⟨k, hk, rfl, rfl, hB⟩ := hrel
    obtain ⟨W1, rfl⟩ : ∃ W1 : World, W1 = wr := ⟨_, rfl⟩
    have HB := Lib.hid hB
    obtain ⟨x0, x1, x2, x3⟩ : W1.cell? ⟨w.heap.size, 0, none⟩ = some (.slice ma ml mc) ∧ W1.cell? ⟨w.heap.size, 1, none⟩ = some (.slice wa wl wc) ∧ W1.cell? ⟨w.heap.size, 2, none⟩ = some (.slice na nl nc) ∧ W1.cell? ⟨w.heap.size, 3, none⟩ = some (.int .i64 s.fresh) := ⟨(hB.cell (p := ⟨w.heap.size, 0, none⟩) hz0).trans (HS0.out 0), (hB.cell (p := ⟨w.heap.size, 1, none⟩) hz0).trans (HS0.out 1), (hB.cell (p := ⟨w.heap.size, 2, none⟩) hz0).trans (HS0.out 2), (hB.cell (p := ⟨w.heap.size, 3, none⟩) hz0).trans (HS0.out 3)⟩
    have hbd := HSB.out k (by rw [HML.out]; exact hk)
    have hbw := HB0.out.trans (hB.mono HB0.out.size)
    by_cases hlt : k < ml
    · have hk2 : k < s.moulds.length := by rw [HML.out]; exact hlt
      obtain ⟨b, o, rfl, hbB, hcell⟩ := HMC.out (by omega)
      obtain ⟨c0, -, -⟩ := Mould.at_below hbw hbB (hcell k hk2)
      have HLX := Lib.hid (HLO.out k hk2 W1 hbw)
      have HN := Lib.hid (sumTo_next (c := lo) (p := p) hk2)
      have hlk := HB1.out k
      have hkl : (k : Int) < (ml : Int) := by omega
      have hk0 : (0 : Int) ≤ (k : Int) := by omega
      clear hcell hB hbw
      generalize s.moulds[k].p = q at *
      generalize lo k = lk at *
      generalize hsk : sumTo s.moulds lo p k = sk at *
      by_cases hq : q = p
      · subst hq
        go_wp2_with fail
        refine HLX.out.mono ?_
        rintro e w2 ⟨rfl, hb2⟩
        have HB2 := Lib.hid (HB.out.trans (hb2.mono HB.out.size))
        clear hb2
        go_wp2_with fail
        go_roundw
        case rel => exact ⟨k + 1, by omega, by go_num, by rw [HN.out]; simp, HB2.out⟩
        case measure => simp [intOf]; omega
      · go_wp2_with fail
        go_roundw
        case rel => exact ⟨k + 1, by omega, by go_num, by rw [HN.out, if_neg hq], HB.out⟩
        case measure => simp [intOf]; omega
    · obtain rfl : ml = k := by omega
      have HBW := Lib.hid hbw
      clear hB hbw
      go_wp2_with fail
      go_ret
      exact ⟨ret_i64 (by rw [HE.out, HML.out]), HBW.out⟩


set_option maxRecDepth 100000 in
set_option maxHeartbeats 4000000 in
theorem refLeft_no (s : FShop) (ma : Option Addr) (ml mc : Nat) (wa : Option Addr) (wl wc : Nat) (na : Option Addr) (nl nc : Nat) (n v : Int) (hv : s.ask (btw n 0 ((ml : Int) - 1)) = v) (h0 : v ≠ 0) (w : World) (hp : FAt w ma ml mc wa wl wc na nl nc s) :
    Calls Try.prog 59 #[.agg #[.slice ma ml mc, .slice wa wl wc, .slice na nl nc, .int .i64 s.fresh], .int .i64 n] w fun e w' => e = .returned (.tuple #[.agg #[.int .i64 0, .int .i64 0], .int .i64 v]) ∧ Below w.heap.size w w' := by
  have hmm := hp.1.2.1
  have HH := Lib.hid (fun W => IsMould_is s ma ml mc wa wl wc na nl nc n W hmm _ rfl)
  have HA := Lib.hid (fun W (hb : Below w.heap.size w W) => refKnown_is s ma ml mc wa wl wc na nl nc _ v hv W (hp.below hb))
  have e2 : (v != 0) = true := by simpa using h0
  clear hp hv hmm
  generalize btw n 0 ((ml : Int) - 1) = r at *
  go_enter Try.func59, Try.ntmps59
  go_wp2_with fail
  obtain ⟨W0, hW0, hB0, hs0, hr0, -, hrf, hz0⟩ := name2e w #[.slice ma ml mc, .slice wa wl wc, .slice na nl nc, .int .i64 s.fresh] 26 #[.int .i64 0, .int .i64 0] 39
  rw [hW0]
  clear hW0
  have HHX := Lib.hid (fun W (h : Below W0.heap.size W0 W ∧ ∀ b o, b < W0.heap.size → W.cell? ⟨b, o, none⟩ = W0.cell? ⟨b, o, none⟩) => bothS1 (W0 := W0) (HH.out W) h)
  have HAN := Lib.hid (fun W (h : Below W0.heap.size W0 W ∧ ∀ b o, b < W0.heap.size → W.cell? ⟨b, o, none⟩ = W0.cell? ⟨b, o, none⟩) => bothS1 (W0 := W0) (HA.out W (hB0.trans (h.1.mono hB0.size))) h)
  obtain ⟨x0, x1, x2, x3⟩ : W0.cell? ⟨w.heap.size, 0, none⟩ = some (.slice ma ml mc) ∧ W0.cell? ⟨w.heap.size, 1, none⟩ = some (.slice wa wl wc) ∧ W0.cell? ⟨w.heap.size, 2, none⟩ = some (.slice na nl nc) ∧ W0.cell? ⟨w.heap.size, 3, none⟩ = some (.int .i64 s.fresh) := ⟨hs0 0, hs0 1, hs0 2, hs0 3⟩
  have z0 : w.heap.size < W0.heap.size := by omega
  have z1 : w.heap.size + 1 < W0.heap.size := by omega
  have HB0 := Lib.hid hB0
  have HR0 := Lib.hid hr0
  have HRF := Lib.hid hrf
  clear hB0 hr0 hrf hs0 hz0
  go_upto_region 1 with fail
  go_cut [6] (fun v7 wx => v7 = .int .i64 v ∧ Below W0.heap.size W0 wx)
  case first =>
    go_region_held3 (fun w' => Below W0.heap.size W0 w' ∧ ∀ b o, b < W0.heap.size → w'.cell? ⟨b, o, none⟩ = W0.cell? ⟨b, o, none⟩) (first | with_reducible assumption | ((repeat (first | with_reducible refine bothS_drew ?_ | with_reducible refine bothS_alloc _ ?_ | with_reducible refine bothS_set _ _ (by first | omega | (simp; omega) | simp) ?_)); first | with_reducible assumption | with_reducible exact Hid.out (by assumption) | with_reducible exact ⟨Below.refl _ _, fun _ _ _ => rfl⟩)) (first | (go_at_call 29; with_reducible refine (HHX.out _ ?_).mono ?_; (first | with_reducible assumption | ((repeat (first | with_reducible refine bothS_drew ?_ | with_reducible refine bothS_alloc _ ?_ | with_reducible refine bothS_set _ _ (by first | omega | (simp; omega) | simp) ?_)); first | with_reducible assumption | with_reducible exact Hid.out (by assumption) | with_reducible exact ⟨Below.refl _ _, fun _ _ _ => rfl⟩)); rintro e w' ⟨rfl, k, k1, k2, k3⟩; have HK := Lib.hid k; (try simp at k3); (try have k6 := Nat.lt_of_succ_le k3); (try have k7 := Nat.lt_of_succ_lt k6); (try have k8 := Nat.lt_of_succ_lt k3)) | (go_at_call 90; with_reducible refine (HAN.out _ ?_).mono ?_; (first | with_reducible assumption | ((repeat (first | with_reducible refine bothS_drew ?_ | with_reducible refine bothS_alloc _ ?_ | with_reducible refine bothS_set _ _ (by first | omega | (simp; omega) | simp) ?_)); first | with_reducible assumption | with_reducible exact Hid.out (by assumption) | with_reducible exact ⟨Below.refl _ _, fun _ _ _ => rfl⟩)); rintro e w' ⟨rfl, k, k1, k2, k3⟩; have HK := Lib.hid k; (try simp at k3); (try have k6 := Nat.lt_of_succ_le k3); (try have k7 := Nat.lt_of_succ_lt k6); (try have k8 := Nat.lt_of_succ_lt k3)) | fail "no arm")
    all_goals (go_wp2_with fail; go_meet; exact ⟨rfl, And.left (by assumption)⟩)
  case rest =>
  obtain ⟨rfl, hB1⟩ := hcut
  obtain ⟨w1, rfl⟩ : ∃ w1 : World, w1 = wc := ⟨_, rfl⟩
  have r0 := (hB1.cell (p := ⟨w.heap.size + 1, 0, none⟩) z1).trans (HR0.out 0)
  have r1 := (hB1.cell (p := ⟨w.heap.size + 1, 1, none⟩) z1).trans (HR0.out 1)
  have r2 := (hB1.frozen (p := ⟨w.heap.size + 1, 0, none⟩) z1).trans (HRF.out 0)
  have r3 := (hB1.frozen (p := ⟨w.heap.size + 1, 1, none⟩) z1).trans (HRF.out 1)
  have HBW := Lib.hid (HB0.out.trans (hB1.mono HB0.out.size))
  clear hB1
  go_wp2_with fail
  refine bodyPost_ret (v := .tuple #[.agg #[.int .i64 0, .int .i64 0], .int .i64 v]) (by simp [results, Try.results59, go_sem, *]) rfl ⟨rfl, ?_⟩
  have hBB := HBW.out
  exact (by repeat (first | assumption | exact Below.refl _ _ | (refine Below.alloc ?_ (by first | omega | (simp; omega) | simp) _) | (refine Below.setCell ?_ (by first | omega | (simp; omega) | simp) _) | refine Below.drew ?_))

set_option maxRecDepth 100000 in
set_option maxHeartbeats 4000000 in
theorem refLeft_yes (s : FShop) (ma : Option Addr) (ml mc : Nat) (wa : Option Addr) (wl wc : Nat) (na : Option Addr) (nl nc : Nat) (n : Nat) (hn : n < ml) (w : World) (hp : FAt w ma ml mc wa wl wc na nl nc s) (ho : s.ok = true) (hl0 : 0 < s.left.length) :
    Calls Try.prog 59 #[.agg #[.slice ma ml mc, .slice wa wl wc, .slice na nl nc, .int .i64 s.fresh], .int .i64 n] w fun e w' => e = .returned (.tuple #[.agg #[.int .i64 (loOf s.left n), .int .i64 (hiOf s.left n)], .int .i64 0]) ∧ Below w.heap.size w w' := by
  have hmm := hp.1.2.1
  have hml := hp.1.1
  have HH := Lib.hid (fun W => IsMould_is s ma ml mc wa wl wc na nl nc (n : Int) W hmm true (by simp [btw]; omega))
  have hv : s.ask true = 0 := by unfold FShop.ask; rw [ho, if_pos rfl, if_pos rfl, if_neg (by omega)]
  obtain ⟨v, hv0⟩ : ∃ v : Int, v = 0 := ⟨_, rfl⟩
  have HA := Lib.hid (fun W (hb : Below w.heap.size w W) => refKnown_is s ma ml mc wa wl wc na nl nc true v (by rw [hv, hv0]) W (hp.below hb))
  have HLO := Lib.hid (fun W (hb : Below w.heap.size w W) => refLeftOf_is s ma ml mc wa wl wc na nl nc n (by omega) ho hl0 W (hp.below hb))
  have HV := Lib.hid hv0
  clear hp hmm ho hv hv0 hml
  generalize loOf s.left n = lo at *
  generalize hiOf s.left n = hi at *
  go_enter Try.func59, Try.ntmps59
  go_wp2_with fail
  obtain ⟨W0, hW0, hB0, hs0, hr0, -, hrf, hz0⟩ := name2e w #[.slice ma ml mc, .slice wa wl wc, .slice na nl nc, .int .i64 s.fresh] 26 #[.int .i64 0, .int .i64 0] 39
  rw [hW0]
  clear hW0
  have HHX := Lib.hid (fun W (h : Below W0.heap.size W0 W ∧ ∀ b o, b < W0.heap.size → W.cell? ⟨b, o, none⟩ = W0.cell? ⟨b, o, none⟩) => bothS1 (W0 := W0) (HH.out W) h)
  have HAN := Lib.hid (fun W (h : Below W0.heap.size W0 W ∧ ∀ b o, b < W0.heap.size → W.cell? ⟨b, o, none⟩ = W0.cell? ⟨b, o, none⟩) => bothS1 (W0 := W0) (HA.out W (hB0.trans (h.1.mono hB0.size))) h)
  obtain ⟨x0, x1, x2, x3⟩ : W0.cell? ⟨w.heap.size, 0, none⟩ = some (.slice ma ml mc) ∧ W0.cell? ⟨w.heap.size, 1, none⟩ = some (.slice wa wl wc) ∧ W0.cell? ⟨w.heap.size, 2, none⟩ = some (.slice na nl nc) ∧ W0.cell? ⟨w.heap.size, 3, none⟩ = some (.int .i64 s.fresh) := ⟨hs0 0, hs0 1, hs0 2, hs0 3⟩
  have z0 : w.heap.size < W0.heap.size := by omega
  have z1 : w.heap.size + 1 < W0.heap.size := by omega
  have HB0 := Lib.hid hB0
  have HR0 := Lib.hid hr0
  have HS0 := Lib.hid hs0
  have HRF := Lib.hid hrf
  clear hB0 hr0 hrf hs0 hz0
  go_upto_region 1 with fail
  go_cut [6] (fun v7 wx => v7 = .int .i64 v ∧ Below W0.heap.size W0 wx)
  case first =>
    go_region_held3 (fun w' => Below W0.heap.size W0 w' ∧ ∀ b o, b < W0.heap.size → w'.cell? ⟨b, o, none⟩ = W0.cell? ⟨b, o, none⟩) (first | with_reducible assumption | ((repeat (first | with_reducible refine bothS_drew ?_ | with_reducible refine bothS_alloc _ ?_ | with_reducible refine bothS_set _ _ (by first | omega | (simp; omega) | simp) ?_)); first | with_reducible assumption | with_reducible exact Hid.out (by assumption) | with_reducible exact ⟨Below.refl _ _, fun _ _ _ => rfl⟩)) (first | (go_at_call 29; with_reducible refine (HHX.out _ ?_).mono ?_; (first | with_reducible assumption | ((repeat (first | with_reducible refine bothS_drew ?_ | with_reducible refine bothS_alloc _ ?_ | with_reducible refine bothS_set _ _ (by first | omega | (simp; omega) | simp) ?_)); first | with_reducible assumption | with_reducible exact Hid.out (by assumption) | with_reducible exact ⟨Below.refl _ _, fun _ _ _ => rfl⟩)); rintro e w' ⟨rfl, k, k1, k2, k3⟩; have HK := Lib.hid k; (try simp at k3); (try have k6 := Nat.lt_of_succ_le k3); (try have k7 := Nat.lt_of_succ_lt k6); (try have k8 := Nat.lt_of_succ_lt k3)) | (go_at_call 90; with_reducible refine (HAN.out _ ?_).mono ?_; (first | with_reducible assumption | ((repeat (first | with_reducible refine bothS_drew ?_ | with_reducible refine bothS_alloc _ ?_ | with_reducible refine bothS_set _ _ (by first | omega | (simp; omega) | simp) ?_)); first | with_reducible assumption | with_reducible exact Hid.out (by assumption) | with_reducible exact ⟨Below.refl _ _, fun _ _ _ => rfl⟩)); rintro e w' ⟨rfl, k, k1, k2, k3⟩; have HK := Lib.hid k; (try simp at k3); (try have k6 := Nat.lt_of_succ_le k3); (try have k7 := Nat.lt_of_succ_lt k6); (try have k8 := Nat.lt_of_succ_lt k3)) | fail "no arm")
    all_goals (go_wp2_with fail; go_meet; exact ⟨rfl, And.left (by assumption)⟩)
  case rest =>
  obtain ⟨rfl, hB1⟩ := hcut
  obtain ⟨w1, rfl⟩ : ∃ w1 : World, w1 = wc := ⟨_, rfl⟩
  obtain rfl : v = 0 := HV.out
  clear x0 x1 x2 x3
  obtain ⟨x0, x1, x2, x3⟩ : w1.cell? ⟨w.heap.size, 0, none⟩ = some (.slice ma ml mc) ∧ w1.cell? ⟨w.heap.size, 1, none⟩ = some (.slice wa wl wc) ∧ w1.cell? ⟨w.heap.size, 2, none⟩ = some (.slice na nl nc) ∧ w1.cell? ⟨w.heap.size, 3, none⟩ = some (.int .i64 s.fresh) := ⟨(hB1.cell (p := ⟨w.heap.size, 0, none⟩) z0).trans (HS0.out 0), (hB1.cell (p := ⟨w.heap.size, 1, none⟩) z0).trans (HS0.out 1), (hB1.cell (p := ⟨w.heap.size, 2, none⟩) z0).trans (HS0.out 2), (hB1.cell (p := ⟨w.heap.size, 3, none⟩) z0).trans (HS0.out 3)⟩
  have HB1 := Lib.hid hB1
  have hbw := HB0.out.trans (hB1.mono HB0.out.size)
  have HLX := Lib.hid (HLO.out w1 hbw)
  clear hB1 hbw
  go_wp2_with fail
  refine HLX.out.mono ?_
  rintro e w2 ⟨rfl, hb2⟩
  have hB2 := HB1.out.trans (hb2.mono HB1.out.size)
  have r0 := (hB2.cell (p := ⟨w.heap.size + 1, 0, none⟩) z1).trans (HR0.out 0)
  have r1 := (hB2.cell (p := ⟨w.heap.size + 1, 1, none⟩) z1).trans (HR0.out 1)
  have r2 := (hB2.frozen (p := ⟨w.heap.size + 1, 0, none⟩) z1).trans (HRF.out 0)
  have r3 := (hB2.frozen (p := ⟨w.heap.size + 1, 1, none⟩) z1).trans (HRF.out 1)
  have HBW := Lib.hid (HB0.out.trans (hB2.mono HB0.out.size))
  clear hB2 hb2
  go_wp2_with fail
  refine bodyPost_ret (v := .tuple #[.agg #[.int .i64 lo, .int .i64 hi], .int .i64 0]) (by simp [results, Try.results59, go_sem, *]) rfl ⟨rfl, ?_⟩
  have hBB := HBW.out
  exact (by repeat (first | assumption | exact Below.refl _ _ | (refine Below.alloc ?_ (by first | omega | (simp; omega) | simp) _) | (refine Below.setCell ?_ (by first | omega | (simp; omega) | simp) _) | refine Below.drew ?_))

set_option maxRecDepth 100000 in
set_option maxHeartbeats 4000000 in
theorem refSure_no (s : FShop) (ma : Option Addr) (ml mc : Nat) (wa : Option Addr) (wl wc : Nat) (na : Option Addr) (nl nc : Nat) (n v : Int) (hv : s.ask (btw n 0 ((nl : Int) - 1)) = v) (h0 : v ≠ 0) (w : World) (hp : FAt w ma ml mc wa wl wc na nl nc s) :
    Calls Try.prog 61 #[.agg #[.slice ma ml mc, .slice wa wl wc, .slice na nl nc, .int .i64 s.fresh], .int .i64 n] w fun e w' => e = .returned (.tuple #[.int .i64 0, .int .i64 v]) ∧ Below w.heap.size w w' := by
  have hmm := hp.2.2.2.1
  have HH := Lib.hid (fun W => IsPage_is s ma ml mc wa wl wc na nl nc n W hmm _ rfl)
  have HA := Lib.hid (fun W (hb : Below w.heap.size w W) => refKnown_is s ma ml mc wa wl wc na nl nc _ v hv W (hp.below hb))
  have e2 : (v != 0) = true := by simpa using h0
  clear hp hv hmm
  generalize btw n 0 ((nl : Int) - 1) = r at *
  go_enter Try.func61, Try.ntmps61
  go_wp2_with fail
  obtain ⟨W0, hW0, hB0, hs0, hz0⟩ := name1k w #[.slice ma ml mc, .slice wa wl wc, .slice na nl nc, .int .i64 s.fresh] 26
  rw [hW0]
  clear hW0
  have HHX := Lib.hid (fun W (h : Below W0.heap.size W0 W ∧ ∀ b o, b < W0.heap.size → W.cell? ⟨b, o, none⟩ = W0.cell? ⟨b, o, none⟩) => bothS1 (W0 := W0) (HH.out W) h)
  have HAN := Lib.hid (fun W (h : Below W0.heap.size W0 W ∧ ∀ b o, b < W0.heap.size → W.cell? ⟨b, o, none⟩ = W0.cell? ⟨b, o, none⟩) => bothS1 (W0 := W0) (HA.out W (hB0.trans (h.1.mono hB0.size))) h)
  obtain ⟨x0, x1, x2, x3⟩ : W0.cell? ⟨w.heap.size, 0, none⟩ = some (.slice ma ml mc) ∧ W0.cell? ⟨w.heap.size, 1, none⟩ = some (.slice wa wl wc) ∧ W0.cell? ⟨w.heap.size, 2, none⟩ = some (.slice na nl nc) ∧ W0.cell? ⟨w.heap.size, 3, none⟩ = some (.int .i64 s.fresh) := ⟨hs0 0, hs0 1, hs0 2, hs0 3⟩
  have HB0 := Lib.hid hB0
  clear hB0 hs0
  go_upto_region 1 with fail
  go_cut [6] (fun v7 wx => v7 = .int .i64 v ∧ Below W0.heap.size W0 wx)
  case first =>
    go_region_held3 (fun w' => Below W0.heap.size W0 w' ∧ ∀ b o, b < W0.heap.size → w'.cell? ⟨b, o, none⟩ = W0.cell? ⟨b, o, none⟩) (first | with_reducible assumption | ((repeat (first | with_reducible refine bothS_drew ?_ | with_reducible refine bothS_alloc _ ?_ | with_reducible refine bothS_set _ _ (by first | omega | (simp; omega) | simp) ?_)); first | with_reducible assumption | with_reducible exact Hid.out (by assumption) | with_reducible exact ⟨Below.refl _ _, fun _ _ _ => rfl⟩)) (first | (go_at_call 42; with_reducible refine (HHX.out _ ?_).mono ?_; (first | with_reducible assumption | ((repeat (first | with_reducible refine bothS_drew ?_ | with_reducible refine bothS_alloc _ ?_ | with_reducible refine bothS_set _ _ (by first | omega | (simp; omega) | simp) ?_)); first | with_reducible assumption | with_reducible exact Hid.out (by assumption) | with_reducible exact ⟨Below.refl _ _, fun _ _ _ => rfl⟩)); rintro e w' ⟨rfl, k, k1, k2, k3⟩; have HK := Lib.hid k; (try simp at k3); (try have k6 := Nat.lt_of_succ_le k3); (try have k7 := Nat.lt_of_succ_lt k6); (try have k8 := Nat.lt_of_succ_lt k3)) | (go_at_call 90; with_reducible refine (HAN.out _ ?_).mono ?_; (first | with_reducible assumption | ((repeat (first | with_reducible refine bothS_drew ?_ | with_reducible refine bothS_alloc _ ?_ | with_reducible refine bothS_set _ _ (by first | omega | (simp; omega) | simp) ?_)); first | with_reducible assumption | with_reducible exact Hid.out (by assumption) | with_reducible exact ⟨Below.refl _ _, fun _ _ _ => rfl⟩)); rintro e w' ⟨rfl, k, k1, k2, k3⟩; have HK := Lib.hid k; (try simp at k3); (try have k6 := Nat.lt_of_succ_le k3); (try have k7 := Nat.lt_of_succ_lt k6); (try have k8 := Nat.lt_of_succ_lt k3)) | fail "no arm")
    all_goals (go_wp2_with fail; go_meet; exact ⟨rfl, And.left (by assumption)⟩)
  case rest =>
  obtain ⟨rfl, hB1⟩ := hcut
  obtain ⟨w1, rfl⟩ : ∃ w1 : World, w1 = wc := ⟨_, rfl⟩
  have HBW := Lib.hid (HB0.out.trans (hB1.mono HB0.out.size))
  clear hB1
  go_wp2_with fail
  go_ret2
  exact ⟨rfl, HBW.out⟩

set_option maxRecDepth 100000 in
set_option maxHeartbeats 4000000 in
theorem refSure_yes (s : FShop) (ma : Option Addr) (ml mc : Nat) (wa : Option Addr) (wl wc : Nat) (na : Option Addr) (nl nc : Nat) (n : Nat) (hn : n < nl) (w : World) (hp : FAt w ma ml mc wa wl wc na nl nc s) (ho : s.ok = true) (hl0 : 0 < s.left.length) :
    Calls Try.prog 61 #[.agg #[.slice ma ml mc, .slice wa wl wc, .slice na nl nc, .int .i64 s.fresh], .int .i64 n] w fun e w' => e = .returned (.tuple #[.int .i64 (sumOf s.moulds (loOf s.left) n), .int .i64 0]) ∧ Below w.heap.size w w' := by
  have hmm := hp.2.2.2.1
  have HH := Lib.hid (fun W => IsPage_is s ma ml mc wa wl wc na nl nc (n : Int) W hmm true (by simp [btw]; omega))
  have hv : s.ask true = 0 := by unfold FShop.ask; rw [ho, if_pos rfl, if_pos rfl, if_neg (by omega)]
  obtain ⟨v, hv0⟩ : ∃ v : Int, v = 0 := ⟨_, rfl⟩
  have HA := Lib.hid (fun W (hb : Below w.heap.size w W) => refKnown_is s ma ml mc wa wl wc na nl nc true v (by rw [hv, hv0]) W (hp.below hb))
  have HLO := Lib.hid (fun W (hb : Below w.heap.size w W) => refSureOf_is s ma ml mc wa wl wc na nl nc (n : Int) ho hl0 W (hp.below hb))
  have HV := Lib.hid hv0
  clear hp hmm ho hv hv0
  generalize sumOf s.moulds (loOf s.left) n = sm at *
  go_enter Try.func61, Try.ntmps61
  go_wp2_with fail
  obtain ⟨W0, hW0, hB0, hs0, hz0⟩ := name1k w #[.slice ma ml mc, .slice wa wl wc, .slice na nl nc, .int .i64 s.fresh] 26
  rw [hW0]
  clear hW0
  have HHX := Lib.hid (fun W (h : Below W0.heap.size W0 W ∧ ∀ b o, b < W0.heap.size → W.cell? ⟨b, o, none⟩ = W0.cell? ⟨b, o, none⟩) => bothS1 (W0 := W0) (HH.out W) h)
  have HAN := Lib.hid (fun W (h : Below W0.heap.size W0 W ∧ ∀ b o, b < W0.heap.size → W.cell? ⟨b, o, none⟩ = W0.cell? ⟨b, o, none⟩) => bothS1 (W0 := W0) (HA.out W (hB0.trans (h.1.mono hB0.size))) h)
  obtain ⟨x0, x1, x2, x3⟩ : W0.cell? ⟨w.heap.size, 0, none⟩ = some (.slice ma ml mc) ∧ W0.cell? ⟨w.heap.size, 1, none⟩ = some (.slice wa wl wc) ∧ W0.cell? ⟨w.heap.size, 2, none⟩ = some (.slice na nl nc) ∧ W0.cell? ⟨w.heap.size, 3, none⟩ = some (.int .i64 s.fresh) := ⟨hs0 0, hs0 1, hs0 2, hs0 3⟩
  have HB0 := Lib.hid hB0
  have HS0 := Lib.hid hs0
  clear hB0 hs0
  go_upto_region 1 with fail
  go_cut [6] (fun v7 wx => v7 = .int .i64 v ∧ Below W0.heap.size W0 wx)
  case first =>
    go_region_held3 (fun w' => Below W0.heap.size W0 w' ∧ ∀ b o, b < W0.heap.size → w'.cell? ⟨b, o, none⟩ = W0.cell? ⟨b, o, none⟩) (first | with_reducible assumption | ((repeat (first | with_reducible refine bothS_drew ?_ | with_reducible refine bothS_alloc _ ?_ | with_reducible refine bothS_set _ _ (by first | omega | (simp; omega) | simp) ?_)); first | with_reducible assumption | with_reducible exact Hid.out (by assumption) | with_reducible exact ⟨Below.refl _ _, fun _ _ _ => rfl⟩)) (first | (go_at_call 42; with_reducible refine (HHX.out _ ?_).mono ?_; (first | with_reducible assumption | ((repeat (first | with_reducible refine bothS_drew ?_ | with_reducible refine bothS_alloc _ ?_ | with_reducible refine bothS_set _ _ (by first | omega | (simp; omega) | simp) ?_)); first | with_reducible assumption | with_reducible exact Hid.out (by assumption) | with_reducible exact ⟨Below.refl _ _, fun _ _ _ => rfl⟩)); rintro e w' ⟨rfl, k, k1, k2, k3⟩; have HK := Lib.hid k; (try simp at k3); (try have k6 := Nat.lt_of_succ_le k3); (try have k7 := Nat.lt_of_succ_lt k6); (try have k8 := Nat.lt_of_succ_lt k3)) | (go_at_call 90; with_reducible refine (HAN.out _ ?_).mono ?_; (first | with_reducible assumption | ((repeat (first | with_reducible refine bothS_drew ?_ | with_reducible refine bothS_alloc _ ?_ | with_reducible refine bothS_set _ _ (by first | omega | (simp; omega) | simp) ?_)); first | with_reducible assumption | with_reducible exact Hid.out (by assumption) | with_reducible exact ⟨Below.refl _ _, fun _ _ _ => rfl⟩)); rintro e w' ⟨rfl, k, k1, k2, k3⟩; have HK := Lib.hid k; (try simp at k3); (try have k6 := Nat.lt_of_succ_le k3); (try have k7 := Nat.lt_of_succ_lt k6); (try have k8 := Nat.lt_of_succ_lt k3)) | fail "no arm")
    all_goals (go_wp2_with fail; go_meet; exact ⟨rfl, And.left (by assumption)⟩)
  case rest =>
  obtain ⟨rfl, hB1⟩ := hcut
  obtain ⟨w1, rfl⟩ : ∃ w1 : World, w1 = wc := ⟨_, rfl⟩
  obtain rfl : v = 0 := HV.out
  clear x0 x1 x2 x3
  obtain ⟨x0, x1, x2, x3⟩ : w1.cell? ⟨w.heap.size, 0, none⟩ = some (.slice ma ml mc) ∧ w1.cell? ⟨w.heap.size, 1, none⟩ = some (.slice wa wl wc) ∧ w1.cell? ⟨w.heap.size, 2, none⟩ = some (.slice na nl nc) ∧ w1.cell? ⟨w.heap.size, 3, none⟩ = some (.int .i64 s.fresh) := ⟨(hB1.cell (p := ⟨w.heap.size, 0, none⟩) hz0).trans (HS0.out 0), (hB1.cell (p := ⟨w.heap.size, 1, none⟩) hz0).trans (HS0.out 1), (hB1.cell (p := ⟨w.heap.size, 2, none⟩) hz0).trans (HS0.out 2), (hB1.cell (p := ⟨w.heap.size, 3, none⟩) hz0).trans (HS0.out 3)⟩
  have HBW := Lib.hid (HB0.out.trans (hB1.mono HB0.out.size))
  have HLX := Lib.hid (HLO.out w1 HBW.out)
  clear hB1
  go_wp2_with fail
  refine HLX.out.mono ?_
  rintro e w2 ⟨rfl, hb2⟩
  have HBX := Lib.hid (HBW.out.trans (hb2.mono HBW.out.size))
  clear hb2
  go_wp2_with fail
  go_ret2
  exact ⟨rfl, HBX.out⟩
end Go.Proofs.Ytigeiaiohdemiaa
