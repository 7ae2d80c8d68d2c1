/- Flongs: the reference's Tired and Test. -/
import Derived.Test.YtigeiaiohdemiaaHH
namespace Go.Proofs.Ytigeiaiohdemiaa
set_option linter.unusedVariables false
set_option linter.unusedSimpArgs false
open Go.RowKit

set_option maxRecDepth 100000 in
set_option maxHeartbeats 4000000 in
theorem refTired_is (s : FShop) (ma : Option Addr) (ml mc : Nat) (wa : Option Addr) (wl wc : Nat) (na : Option Addr) (nl nc : Nat) (m : Nat) (hm : m < s.moulds.length) (ho : s.ok = true) (w : World) (hp : FAt w ma ml mc wa wl wc na nl nc s) :
    Calls Try.prog 97 #[.agg #[.slice ma ml mc, .slice wa wl wc, .slice na nl nc, .int .i64 s.fresh], .int .i64 m] w fun e w' => e = .returned (.int .i64 (tiredN s.left m : Nat)) ∧ Below w.heap.size w w' := by
  have HWO := Lib.hid (fun W (hb : Below w.heap.size w W) => refWorldsOf_any s ma ml mc wa wl wc na nl nc W (hp.below hb) ho)
  have HLI := Lib.hid (fun i (hi : i < s.which.length) (hi2 : i < s.left.length) W (hb : Below w.heap.size w W) => LeftIn_which s ma ml mc wa wl wc na nl nc i m hi hi2 hm ho W (hp.below hb))
  have hwl := which_left s
  have hlf := left_few ho
  have HTB := Lib.hid (fun k => tiredTo_few s.left m k)
  have HTN := Lib.hid (fun k (h : k < s.left.length) => tiredTo_next (L := s.left) (j := m) h)
  have HE := Lib.hid (show tiredN s.left m = tiredTo s.left m s.left.length by rw [tiredTo, List.take_of_length_le (Nat.le_refl _)]; rfl)
  have HE0 := Lib.hid (show tiredTo s.left m 0 = 0 by simp [tiredTo])
  clear hp ho hm
  generalize s.which = wh at *
  generalize s.left = L at *
  go_enter Try.func97, Try.ntmps97
  go_wp2_with fail
  obtain ⟨W0, hW0, hB0, hs0, hz0⟩ := name1k w #[.slice ma ml mc, .slice wa wl wc, .slice na nl nc, .int .i64 s.fresh] 26
  rw [hW0]
  clear hW0
  have HB0 := Lib.hid hB0
  have HS0 := Lib.hid hs0
  clear hB0 hs0
  refine (HWO.out _ HB0.out).mono ?_
  rintro e w1 ⟨la, lc, rfl, hli, hb1⟩
  have HB1 := Lib.hid hb1
  obtain ⟨hll, hlm, hlc⟩ := hli
  have HLC := Lib.hid hlc
  have hz1 : w.heap.size < w1.heap.size := Nat.lt_of_lt_of_le hz0 hb1.size
  clear hb1 hll hlc hlm
  have hwh6 : wh.length ≤ 6 := by omega
  go_wp2_with fail
  go_loopw [6, 7] (fun n i wr => ∃ k : Nat, k ≤ wh.length ∧ i = .int .i64 k ∧ n = .int .i64 (tiredTo L m k : Nat) ∧ Below w1.heap.size w1 wr) (fun _ i _ => wh.length - (intOf i).toNat)
  case atStart => exact ⟨0, by omega, rfl, by rw [HE0.out]; rfl, Below.refl _ _⟩
  case round =>
    obtain ⟨k, hk, rfl, rfl, hB⟩ := hrel
    obtain ⟨W1, rfl⟩ : ∃ W1 : World, W1 = wr := ⟨_, rfl⟩
    have HB := Lib.hid hB
    have hB01 := HB1.out.trans (hB.mono HB1.out.size)
    obtain ⟨x0, x1, x2, x3⟩ : W1.cell? ⟨w.heap.size, 0, none⟩ = some (.slice ma ml mc) ∧ W1.cell? ⟨w.heap.size, 1, none⟩ = some (.slice wa wl wc) ∧ W1.cell? ⟨w.heap.size, 2, none⟩ = some (.slice na nl nc) ∧ W1.cell? ⟨w.heap.size, 3, none⟩ = some (.int .i64 s.fresh) := ⟨(hB01.cell (p := ⟨w.heap.size, 0, none⟩) hz0).trans (HS0.out 0), (hB01.cell (p := ⟨w.heap.size, 1, none⟩) hz0).trans (HS0.out 1), (hB01.cell (p := ⟨w.heap.size, 2, none⟩) hz0).trans (HS0.out 2), (hB01.cell (p := ⟨w.heap.size, 3, none⟩) hz0).trans (HS0.out 3)⟩
    have hbw := HB0.out.trans (hB01.mono HB0.out.size)
    have htb := HTB.out k
    by_cases hlt : k < wh.length
    · have hkL : k < L.length := by omega
      obtain ⟨lb, lo, rfl, hlb, hlcell⟩ := HLC.out (by omega)
      have c0 := (hB.cell (p := ⟨lb, lo + k, none⟩) hlb).trans (hlcell k hlt)
      have hlbW : lb < W1.heap.size := Nat.lt_of_lt_of_le hlb hB.size
      have hwW : w.heap.size < W1.heap.size := Nat.lt_of_lt_of_le hz1 hB.size
      have HLX := Lib.hid (fun W (h : Below W1.heap.size W1 W ∧ ∀ b o, b < W1.heap.size → W.cell? ⟨b, o, none⟩ = W1.cell? ⟨b, o, none⟩) => bothS1 (W0 := W1) (HLI.out k hlt hkL W (hbw.trans (h.1.mono hbw.size))) h)
      have HN := Lib.hid (HTN.out k hkL)
      have hkl : (k : Int) < (wh.length : Int) := by omega
      have hk0 : (0 : Int) ≤ (k : Int) := by omega
      clear hB hB01 hbw hlcell
      obtain ⟨r, hr⟩ : ∃ r, L[k] m = r := ⟨_, rfl⟩
      rw [hr] at HLX HN
      obtain ⟨ik, hik⟩ : ∃ ik, wh[k] = ik := ⟨_, rfl⟩
      rw [hik] at HLX c0
      clear hr hik
      generalize hhk : tiredTo L m k = hk' at *
      obtain ⟨b, hb⟩ : ∃ b, (r == 0) = b := ⟨_, rfl⟩
      go_upto_region 6 with fail
      go_cut [23] (fun v wx => v = .bool b ∧ Below W1.heap.size W1 wx)
      case first =>
        go_region_held3 (fun w' => Below W1.heap.size W1 w' ∧ ∀ b o, b < W1.heap.size → w'.cell? ⟨b, o, none⟩ = W1.cell? ⟨b, o, none⟩) (first | with_reducible assumption | ((repeat (first | with_reducible refine bothS_drew ?_ | with_reducible refine bothS_alloc _ ?_ | with_reducible refine bothS_set _ _ (by first | omega | (simp; omega) | simp) ?_)); first | with_reducible assumption | with_reducible exact Hid.out (by assumption) | with_reducible exact ⟨Below.refl _ _, fun _ _ _ => rfl⟩)) (first | (go_at_call 22; with_reducible refine (HLX.out _ ?_).mono ?_; (first | with_reducible assumption | ((repeat (first | with_reducible refine bothS_drew ?_ | with_reducible refine bothS_alloc _ ?_ | with_reducible refine bothS_set _ _ (by first | omega | (simp; omega) | simp) ?_)); first | with_reducible assumption | with_reducible exact Hid.out (by assumption) | with_reducible exact ⟨Below.refl _ _, fun _ _ _ => rfl⟩)); rintro e w' ⟨rfl, k, k1, k2, k3⟩; have HK := Lib.hid k; (try simp at k3); (try have k6 := Nat.lt_of_succ_le k3); (try have k7 := Nat.lt_of_succ_lt k6); (try have k8 := Nat.lt_of_succ_lt k3)) | fail "no arm")
        all_goals (go_wp2_with fail; go_meet; exact ⟨by rw [← hb], And.left (by assumption)⟩)
      case rest =>
      obtain ⟨rfl, hB5⟩ := hcut
      have HB5 := Lib.hid (HB.out.trans (hB5.mono HB.out.size))
      clear hB5 c0 HLX
      clear x0 x1 x2 x3
      cases b
      · have hr0 : ¬ r = 0 := by simpa using hb
        clear hb
        go_wp2_with fail
        go_roundw
        case rel => exact ⟨k + 1, by omega, by go_num, by rw [HN.out, if_neg hr0]; simp, HB5.out⟩
        case measure => simp [intOf]; omega
      · have hr0 : r = 0 := by simpa using hb
        clear hb
        go_wp2_with fail
        go_roundw
        case rel => exact ⟨k + 1, by omega, by go_num, by rw [HN.out, if_pos hr0]; simp, HB5.out⟩
        case measure => simp [intOf]; omega
    · obtain rfl : wh.length = k := by omega
      have HBW := Lib.hid hbw
      clear hB hB01 hbw
      go_wp2_with fail
      go_ret
      exact ⟨ret_i64 (by rw [HE.out, hwl]), HBW.out⟩

def tBest (q : Nat × Nat) (n : Nat) : Int := if q.2 = n then -1 else (q.1 : Int)

set_option maxRecDepth 100000 in
set_option maxHeartbeats 4000000 in
theorem refTest_yes (s : FShop) (ma : Option Addr) (ml mc : Nat) (wa : Option Addr) (wl wc : Nat) (na : Option Addr) (nl nc : Nat) (w : World) (hp : FAt w ma ml mc wa wl wc na nl nc s) (ho : s.ok = true) (hl0 : 0 < s.left.length) :
    Calls Try.prog 68 #[.agg #[.slice ma ml mc, .slice wa wl wc, .slice na nl nc, .int .i64 s.fresh]] w fun e w' => e = .returned (testRet s.test s.left.length) ∧ Below w.heap.size w w' := by
  have hm5 : ml ≤ 5 := by have := (FShop.ok_few ho).2.1; have := hp.1.1; omega
  have hl6 := left_few ho
  have hv : s.ask true = 0 := by unfold FShop.ask; rw [ho, if_pos rfl, if_pos rfl, if_neg (by omega)]
  have HKN := Lib.hid (fun W (hb : Below w.heap.size w W) => refKnown_is s ma ml mc wa wl wc na nl nc true 0 hv W (hp.below hb))
  have HWO := Lib.hid (fun W (hb : Below w.heap.size w W) => refWorldsOf_r s ma ml mc wa wl wc na nl nc W (hp.below hb) ho)
  have HTD := Lib.hid (fun (j : Nat) (hj : j < ml) W (hb : Below w.heap.size w W) => refTired_is s ma ml mc wa wl wc na nl nc j (by have := hp.1.1; omega) ho W (hp.below hb))
  have HTB := Lib.hid (fun k => testTo_bd s.left k)
  have HTN := Lib.hid (fun k => testTo_next s.left k)
  have HTI := Lib.hid (fun j => show tiredN s.left j ≤ s.left.length from List.countP_le_length)
  have HML := Lib.hid hp.1.1
  clear hp ho hv
  go_enter Try.func68, Try.ntmps68
  go_wp2_with fail
  obtain ⟨W0, hW0, hB0, hs0, hz0⟩ := name1k w #[.slice ma ml mc, .slice wa wl wc, .slice na nl nc, .int .i64 s.fresh] 26
  rw [hW0]
  clear hW0
  have HB0 := Lib.hid hB0
  have HS0 := Lib.hid hs0
  clear hB0 hs0
  refine (HKN.out _ HB0.out).mono ?_
  rintro e w1 ⟨rfl, hb1⟩
  obtain ⟨x0, x1, x2, x3⟩ : w1.cell? ⟨w.heap.size, 0, none⟩ = some (.slice ma ml mc) ∧ w1.cell? ⟨w.heap.size, 1, none⟩ = some (.slice wa wl wc) ∧ w1.cell? ⟨w.heap.size, 2, none⟩ = some (.slice na nl nc) ∧ w1.cell? ⟨w.heap.size, 3, none⟩ = some (.int .i64 s.fresh) := ⟨(hb1.cell (p := ⟨w.heap.size, 0, none⟩) hz0).trans (HS0.out 0), (hb1.cell (p := ⟨w.heap.size, 1, none⟩) hz0).trans (HS0.out 1), (hb1.cell (p := ⟨w.heap.size, 2, none⟩) hz0).trans (HS0.out 2), (hb1.cell (p := ⟨w.heap.size, 3, none⟩) hz0).trans (HS0.out 3)⟩
  have HB1 := Lib.hid (HB0.out.trans (hb1.mono HB0.out.size))
  have HB01 := Lib.hid hb1
  clear hb1
  go_wp2_with fail
  refine (HWO.out _ HB1.out).mono ?_
  rintro e w2 ⟨⟨la, lc, rfl⟩, hb2⟩
  clear x0 x1 x2 x3
  have hb02 := HB01.out.trans (hb2.mono HB01.out.size)
  obtain ⟨x0, x1, x2, x3⟩ : w2.cell? ⟨w.heap.size, 0, none⟩ = some (.slice ma ml mc) ∧ w2.cell? ⟨w.heap.size, 1, none⟩ = some (.slice wa wl wc) ∧ w2.cell? ⟨w.heap.size, 2, none⟩ = some (.slice na nl nc) ∧ w2.cell? ⟨w.heap.size, 3, none⟩ = some (.int .i64 s.fresh) := ⟨(hb02.cell (p := ⟨w.heap.size, 0, none⟩) hz0).trans (HS0.out 0), (hb02.cell (p := ⟨w.heap.size, 1, none⟩) hz0).trans (HS0.out 1), (hb02.cell (p := ⟨w.heap.size, 2, none⟩) hz0).trans (HS0.out 2), (hb02.cell (p := ⟨w.heap.size, 3, none⟩) hz0).trans (HS0.out 3)⟩
  have HB2 := Lib.hid (HB0.out.trans (hb02.mono HB0.out.size))
  have HB02 := Lib.hid hb02
  clear hb2 hb02
  go_wp2_with fail
  clear x0 x1 x2 x3
  go_loopw [6, 7, 8] (fun v6 v7 i wr => ∃ k : Nat, k ≤ ml ∧ i = .int .i64 k ∧ v6 = .int .i64 (tBest (testTo s.left k) s.left.length) ∧ v7 = .int .i64 ((testTo s.left k).2 : Nat) ∧ Below w2.heap.size w2 wr) (fun _ _ i _ => ml - (intOf i).toNat)
  case atStart => exact ⟨0, by omega, rfl, by simp [tBest, testTo], rfl, Below.refl _ _⟩
  case round =>
    obtain ⟨k, hk, rfl, rfl, rfl, hB⟩ := hrel
    have HB := Lib.hid hB
    have hB02 := HB02.out.trans (hB.mono HB02.out.size)
    obtain ⟨x0, x1, x2, x3⟩ : wr.cell? ⟨w.heap.size, 0, none⟩ = some (.slice ma ml mc) ∧ wr.cell? ⟨w.heap.size, 1, none⟩ = some (.slice wa wl wc) ∧ wr.cell? ⟨w.heap.size, 2, none⟩ = some (.slice na nl nc) ∧ wr.cell? ⟨w.heap.size, 3, none⟩ = some (.int .i64 s.fresh) := ⟨(hB02.cell (p := ⟨w.heap.size, 0, none⟩) hz0).trans (HS0.out 0), (hB02.cell (p := ⟨w.heap.size, 1, none⟩) hz0).trans (HS0.out 1), (hB02.cell (p := ⟨w.heap.size, 2, none⟩) hz0).trans (HS0.out 2), (hB02.cell (p := ⟨w.heap.size, 3, none⟩) hz0).trans (HS0.out 3)⟩
    have HBW := Lib.hid (HB2.out.trans (hB.mono HB2.out.size))
    clear hB hB02
    by_cases hlt : k < ml
    · have hkl : (k : Int) < (ml : Int) := by omega
      have hk0 : (0 : Int) ≤ (k : Int) := by omega
      have HT := Lib.hid (HTD.out k hlt wr HBW.out)
      have HN := Lib.hid (HTN.out k)
      have htb := HTB.out k
      have hti := HTI.out k
      have HWO := Lib.hid (show worstOf s.left k = max (tiredN s.left k) (s.left.length - tiredN s.left k) from rfl)
      generalize hq : testTo s.left k = qq at *
      obtain ⟨bb, mm⟩ := qq
      simp only at htb
      generalize htt : tiredN s.left k = tt at *
      generalize s.left.length = nn at *
      obtain ⟨wv, hwv⟩ : ∃ wv, max tt (nn - tt) = wv := ⟨_, rfl⟩
      have HWV := Lib.hid (HWO.out.trans hwv)
      obtain ⟨tb, htb2⟩ : ∃ tb, tBest (bb, mm) nn = tb := ⟨_, rfl⟩
      by_cases hlt2 : wv < mm
      · have HN' := Lib.hid (show testTo s.left (k + 1) = (k, wv) by rw [HN.out, HWV.out, if_pos hlt2])
        rw [htb2]
        clear htb2
        go_wp2_with fail
        refine HT.out.mono ?_
        rintro e w3 ⟨rfl, hb3⟩
        have HB3 := Lib.hid (HB.out.trans (hb3.mono HB.out.size))
        clear hb3
        go_wp2_with fail
        go_roundw
        case rel => exact ⟨k + 1, by omega, by go_num, by rw [HN'.out, tBest, if_neg (by simp only; omega)], by rw [HN'.out]; first | rfl | (congr 1; omega), HB3.out⟩
        case measure => simp [intOf]; omega
      · have HN' := Lib.hid (show testTo s.left (k + 1) = (bb, mm) by rw [HN.out, HWV.out, if_neg hlt2])
        have HTB2 := Lib.hid htb2
        rw [htb2]
        clear htb2
        go_wp2_with fail
        refine HT.out.mono ?_
        rintro e w3 ⟨rfl, hb3⟩
        have HB3 := Lib.hid (HB.out.trans (hb3.mono HB.out.size))
        clear hb3
        go_wp2_with fail
        go_roundw
        case rel => exact ⟨k + 1, by omega, by go_num, by rw [HN'.out, HTB2.out], by rw [HN'.out], HB3.out⟩
        case measure => simp [intOf]; omega
    · obtain rfl : ml = k := by omega
      have HR := Lib.hid (show s.test = testTo s.left ml by rw [FShop.test, HML.out])
      generalize hq : testTo s.left ml = qq at *
      obtain ⟨bb, mm⟩ := qq
      by_cases h2 : mm = s.left.length
      · have e1 : tBest (bb, mm) s.left.length = -1 := by rw [tBest, if_pos h2]
        rw [e1]
        clear e1
        go_wp2_with fail
        go_ret2
        exact ⟨by rw [HR.out, testRet, if_pos h2]; rfl, HBW.out⟩
      · have e1 : tBest (bb, mm) s.left.length = (bb : Int) := by rw [tBest, if_neg h2]
        have e2 : ¬ (bb : Int) < 0 := by omega
        rw [e1]
        clear e1
        go_wp2_with fail
        go_ret2
        exact ⟨by rw [HR.out, testRet, if_neg h2]; rfl, HBW.out⟩

set_option maxRecDepth 100000 in
set_option maxHeartbeats 4000000 in
theorem refDivide_no (s : FShop) (ma : Option Addr) (ml mc : Nat) (wa : Option Addr) (wl wc : Nat) (na : Option Addr) (nl nc : Nat) (v : Int) (hv : s.ask true = v) (h0 : v ≠ 0) (w : World) (hp : FAt w ma ml mc wa wl wc na nl nc s) :
    Calls Try.prog 66 #[.agg #[.slice ma ml mc, .slice wa wl wc, .slice na nl nc, .int .i64 s.fresh]] w fun e w' => e = .returned (.tuple #[(.slice none 0 0), .int .i64 v]) ∧ Below w.heap.size w w' := by
  have HKN := Lib.hid (fun W (hb : Below w.heap.size w W) => refKnown_is s ma ml mc wa wl wc na nl nc true v hv W (hp.below hb))
  have e1 : (v == 0) = false := by simpa using h0
  have e2 : (v != 0) = true := by simpa using h0
  clear hp hv
  go_enter Try.func66, Try.ntmps66
  go_wp2_with fail
  refine (HKN.out _ (by repeat (first | exact Below.refl _ _ | (refine Below.alloc ?_ (by first | omega | (simp; omega) | simp) _) | (refine Below.setCell ?_ (by first | omega | (simp; omega) | simp) _) | refine Below.drew ?_))).mono ?_
  rintro e w1 ⟨rfl, hb1⟩
  have hw1 := ((by repeat (first | exact Below.refl _ _ | (refine Below.alloc ?_ (by first | omega | (simp; omega) | simp) _) | (refine Below.setCell ?_ (by first | omega | (simp; omega) | simp) _) | refine Below.drew ?_)) : Below w.heap.size w _).trans (hb1.mono (by first | (simp; done) | (simp; omega) | omega))
  clear hb1
  go_wp2_with fail
  go_ret2
  exact ⟨rfl, hw1⟩
set_option maxRecDepth 100000 in
set_option maxHeartbeats 4000000 in
theorem refBold_no (s : FShop) (ma : Option Addr) (ml mc : Nat) (wa : Option Addr) (wl wc : Nat) (na : Option Addr) (nl nc : Nat) (v : Int) (hv : s.ask true = v) (h0 : v ≠ 0) (w : World) (hp : FAt w ma ml mc wa wl wc na nl nc s) :
    Calls Try.prog 67 #[.agg #[.slice ma ml mc, .slice wa wl wc, .slice na nl nc, .int .i64 s.fresh]] w fun e w' => e = .returned (.tuple #[(.slice none 0 0), .int .i64 v]) ∧ Below w.heap.size w w' := by
  have HKN := Lib.hid (fun W (hb : Below w.heap.size w W) => refKnown_is s ma ml mc wa wl wc na nl nc true v hv W (hp.below hb))
  have e1 : (v == 0) = false := by simpa using h0
  have e2 : (v != 0) = true := by simpa using h0
  clear hp hv
  go_enter Try.func67, Try.ntmps67
  go_wp2_with fail
  refine (HKN.out _ (by repeat (first | exact Below.refl _ _ | (refine Below.alloc ?_ (by first | omega | (simp; omega) | simp) _) | (refine Below.setCell ?_ (by first | omega | (simp; omega) | simp) _) | refine Below.drew ?_))).mono ?_
  rintro e w1 ⟨rfl, hb1⟩
  have hw1 := ((by repeat (first | exact Below.refl _ _ | (refine Below.alloc ?_ (by first | omega | (simp; omega) | simp) _) | (refine Below.setCell ?_ (by first | omega | (simp; omega) | simp) _) | refine Below.drew ?_)) : Below w.heap.size w _).trans (hb1.mono (by first | (simp; done) | (simp; omega) | omega))
  clear hb1
  go_wp2_with fail
  go_ret2
  exact ⟨rfl, hw1⟩
set_option maxRecDepth 100000 in
set_option maxHeartbeats 4000000 in
theorem refTest_no (s : FShop) (ma : Option Addr) (ml mc : Nat) (wa : Option Addr) (wl wc : Nat) (na : Option Addr) (nl nc : Nat) (v : Int) (hv : s.ask true = v) (h0 : v ≠ 0) (w : World) (hp : FAt w ma ml mc wa wl wc na nl nc s) :
    Calls Try.prog 68 #[.agg #[.slice ma ml mc, .slice wa wl wc, .slice na nl nc, .int .i64 s.fresh]] w fun e w' => e = .returned (.tuple #[(.int .i64 0), .int .i64 v]) ∧ Below w.heap.size w w' := by
  have HKN := Lib.hid (fun W (hb : Below w.heap.size w W) => refKnown_is s ma ml mc wa wl wc na nl nc true v hv W (hp.below hb))
  have e1 : (v == 0) = false := by simpa using h0
  have e2 : (v != 0) = true := by simpa using h0
  clear hp hv
  go_enter Try.func68, Try.ntmps68
  go_wp2_with fail
  refine (HKN.out _ (by repeat (first | exact Below.refl _ _ | (refine Below.alloc ?_ (by first | omega | (simp; omega) | simp) _) | (refine Below.setCell ?_ (by first | omega | (simp; omega) | simp) _) | refine Below.drew ?_))).mono ?_
  rintro e w1 ⟨rfl, hb1⟩
  have hw1 := ((by repeat (first | exact Below.refl _ _ | (refine Below.alloc ?_ (by first | omega | (simp; omega) | simp) _) | (refine Below.setCell ?_ (by first | omega | (simp; omega) | simp) _) | refine Below.drew ?_)) : Below w.heap.size w _).trans (hb1.mono (by first | (simp; done) | (simp; omega) | omega))
  clear hb1
  go_wp2_with fail
  go_ret2
  exact ⟨rfl, hw1⟩
theorem refTest_all (s : FShop) (ma : Option Addr) (ml mc : Nat) (wa : Option Addr) (wl wc : Nat) (na : Option Addr) (nl nc : Nat) (n e0 : Int) (h1 : s.testN = n) (h3 : s.testE = e0) (w : World) (hp : FAt w ma ml mc wa wl wc na nl nc s) :
    Calls Try.prog 68 #[.agg #[.slice ma ml mc, .slice wa wl wc, .slice na nl nc, .int .i64 s.fresh]] w fun e w' => e = .returned (.tuple #[.int .i64 n, .int .i64 e0]) ∧ Below w.heap.size w w' := by
  subst h1 h3
  unfold FShop.testN FShop.testE
  by_cases h0 : s.ask true = 0
  · obtain ⟨ho, -, hl0⟩ := ask_zero h0
    rw [if_pos h0, if_pos h0]
    have h := refTest_yes s ma ml mc wa wl wc na nl nc w hp ho hl0
    unfold testRet at h
    by_cases h2 : s.test.2 = s.left.length
    · rw [if_pos h2] at h ⊢
      rw [if_pos h2]
      exact h
    · rw [if_neg h2] at h ⊢
      rw [if_neg h2]
      exact h
  · rw [if_neg h0, if_neg h0]
    exact refTest_no s ma ml mc wa wl wc na nl nc _ rfl h0 w hp
end Go.Proofs.Ytigeiaiohdemiaa
