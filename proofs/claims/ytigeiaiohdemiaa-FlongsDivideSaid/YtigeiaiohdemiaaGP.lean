/- Flongs: the reference's New; Left, Sure and New of both sides in one contract for any shop. -/
import Derived.Test.YtigeiaiohdemiaaGO
namespace Go.Proofs.Ytigeiaiohdemiaa
set_option linter.unusedVariables false
set_option linter.unusedSimpArgs false
open Go.RowKit

def ceilF (x f : Int) : Int := (max 0 x + f - 1) / f
theorem ceil_step {x f : Int} (hx : 0 < x) (hf : 1 ≤ f) : ceilF x f = 1 + ceilF (x - f) f := by
  unfold ceilF
  rw [show max 0 x = x by omega]
  by_cases h : x ≤ f
  · rw [show max 0 (x - f) = 0 by omega, Int.zero_add, Int.ediv_eq_zero_of_lt (a := f - 1) (by omega) (by omega)]
    rw [show x + f - 1 = (x - 1) + f by omega, Int.add_ediv_of_dvd_right (Int.dvd_refl f), Int.ediv_self (by omega), Int.ediv_eq_zero_of_lt (by omega) (by omega)]
    omega
  · rw [show max 0 (x - f) = x - f by omega]
    rw [show x + f - 1 = (x - f + f - 1) + f by omega, Int.add_ediv_of_dvd_right (Int.dvd_refl f), Int.ediv_self (by omega)]
    omega
theorem ceil_end {x f : Int} (hx : x ≤ 0) (hf : 1 ≤ f) : ceilF x f = 0 := by
  unfold ceilF
  rw [show max 0 x = 0 by omega, Int.zero_add]
  exact Int.ediv_eq_zero_of_lt (by omega) (by omega)
theorem ceil_ge {x f : Int} (hf : 1 ≤ f) : 0 ≤ ceilF x f := Int.ediv_nonneg (by omega) (by omega)

set_option maxRecDepth 100000 in
set_option maxHeartbeats 4000000 in
theorem refNew_yes (s : FShop) (ma : Option Addr) (ml mc : Nat) (wa : Option Addr) (wl wc : Nat) (na : Option Addr) (nl nc : Nat) (w : World) (hp : FAt w ma ml mc wa wl wc na nl nc s) (ho : s.ok = true) (hl0 : 0 < s.left.length) :
    Calls Try.prog 62 #[.agg #[.slice ma ml mc, .slice wa wl wc, .slice na nl nc, .int .i64 s.fresh]] w fun e w' => e = .returned (.tuple #[.int .i64 s.newAll, .int .i64 0]) ∧ Below w.heap.size w w' := by
  have hv : s.ask true = 0 := by unfold FShop.ask; rw [ho, if_pos rfl, if_pos rfl, if_neg (by omega)]
  have HA := Lib.hid (fun W (hb : Below w.heap.size w W) => refKnown_is s ma ml mc wa wl wc na nl nc true 0 hv W (hp.below hb))
  have HSO := Lib.hid (fun p W (hb : Below w.heap.size w W) => refSureOf_is s ma ml mc wa wl wc na nl nc p ho hl0 W (hp.below hb))
  have HSB := Lib.hid (fun p => sure_bd ho p)
  have HNB := Lib.hid (fun k (hk : k ≤ s.wants.length) => newTo_bd ho k hk)
  have HWB := Lib.hid (fun k (hk : k < s.wants.length) => FShop.ok_want ho k hk)
  obtain ⟨hf1, hf2⟩ := FShop.ok_fresh ho
  have hfew := (FShop.ok_few ho).1
  obtain ⟨hnl, hnm, hnc⟩ := hp.2.2
  have HNL := Lib.hid hnl
  have HNC := Lib.hid hnc
  have hn3 : nl ≤ 3 := by omega
  have HE := Lib.hid (show s.newAll = newTo s s.wants.length from rfl)
  have HN0 := Lib.hid (show newTo s 0 = 0 from rfl)
  clear hp ho hl0 hv hnl hnm hnc hfew
  go_enter Try.func62, Try.ntmps62
  go_wp2_with fail
  refine (HA.out _ (by repeat (first | exact Below.refl _ _ | (refine Below.alloc ?_ (by first | omega | (simp; omega) | simp) _) | (refine Below.setCell ?_ (by first | omega | (simp; omega) | simp) _) | refine Below.drew ?_))).mono ?_
  rintro e w1 ⟨rfl, hb1⟩
  have hx0 := fun i => (hb1.cell (p := ⟨w.heap.size, i, none⟩) (by simp)).trans (World.cell?_alloc_new w #[.slice ma ml mc, .slice wa wl wc, .slice na nl nc, .int .i64 s.fresh] 26 i)
  obtain ⟨x0, x1, x2, x3⟩ : w1.cell? ⟨w.heap.size, 0, none⟩ = some (.slice ma ml mc) ∧ w1.cell? ⟨w.heap.size, 1, none⟩ = some (.slice wa wl wc) ∧ w1.cell? ⟨w.heap.size, 2, none⟩ = some (.slice na nl nc) ∧ w1.cell? ⟨w.heap.size, 3, none⟩ = some (.int .i64 s.fresh) := ⟨hx0 0, hx0 1, hx0 2, hx0 3⟩
  have HX0 := Lib.hid hx0
  have hz := hb1.size
  simp at hz
  have q1 : w.heap.size < w1.heap.size := by omega
  have HB1 := Lib.hid (((by repeat (first | exact Below.refl _ _ | (refine Below.alloc ?_ (by first | omega | (simp; omega) | simp) _) | (refine Below.setCell ?_ (by first | omega | (simp; omega) | simp) _) | refine Below.drew ?_)) : Below w.heap.size w _).trans (hb1.mono (by first | (simp; done) | (simp; omega) | omega)))
  clear hb1 hx0 hz
  go_wp2_with fail
  clear x0 x1 x2 x3
  go_loopw [5, 6] (fun n i wr => ∃ k : Nat, k ≤ nl ∧ i = .int .i64 k ∧ n = .int .i64 (newTo s k) ∧ Below w1.heap.size w1 wr) (fun _ i _ => nl - (intOf i).toNat)
  case atStart => exact ⟨0, by omega, rfl, by rw [HN0.out], Below.refl _ _⟩
  case round =>
    obtain ⟨k, hk, rfl, rfl, hB⟩ := hrel
    obtain ⟨W1, rfl⟩ : ∃ W1 : World, W1 = wr := ⟨_, rfl⟩
    have HB := Lib.hid hB
    obtain ⟨x0, x1, x2, x3⟩ : W1.cell? ⟨w.heap.size, 0, none⟩ = some (.slice ma ml mc) ∧ W1.cell? ⟨w.heap.size, 1, none⟩ = some (.slice wa wl wc) ∧ W1.cell? ⟨w.heap.size, 2, none⟩ = some (.slice na nl nc) ∧ W1.cell? ⟨w.heap.size, 3, none⟩ = some (.int .i64 s.fresh) := ⟨(hB.cell (p := ⟨w.heap.size, 0, none⟩) q1).trans (HX0.out 0), (hB.cell (p := ⟨w.heap.size, 1, none⟩) q1).trans (HX0.out 1), (hB.cell (p := ⟨w.heap.size, 2, none⟩) q1).trans (HX0.out 2), (hB.cell (p := ⟨w.heap.size, 3, none⟩) q1).trans (HX0.out 3)⟩
    have hbw := HB1.out.trans (hB.mono HB1.out.size)
    by_cases hlt : k < nl
    · have hk2 : k < s.wants.length := by rw [HNL.out]; exact hlt
      obtain ⟨b, o, rfl, hbB, hcell⟩ := HNC.out (by omega)
      have c0 := (hbw.cell (p := ⟨b, o + k, none⟩) hbB).trans (hcell k hk2)
      have qb : b < W1.heap.size := Nat.lt_of_lt_of_le hbB hbw.size
      have q2 : w.heap.size < W1.heap.size := Nat.lt_of_lt_of_le q1 hB.size
      have HSX := Lib.hid (fun W (h : Below W1.heap.size W1 W ∧ ∀ b o, b < W1.heap.size → W.cell? ⟨b, o, none⟩ = W1.cell? ⟨b, o, none⟩) => bothS1 (W0 := W1) (HSO.out (k : Int) W (hbw.trans (h.1.mono hbw.size))) h)
      have hsb := HSB.out (k : Int)
      have hwb := HWB.out k hk2
      have hnb := HNB.out k (by omega)
      have hnb2 := HNB.out (k + 1) (by omega)
      have HN := Lib.hid (show newTo s (k + 1) = newTo s k + ceilF (s.wants[k] - sumOf s.moulds (loOf s.left) k) s.fresh from newTo_next hk2)
      rw [HN.out] at hnb2
      have hkl : (k : Int) < (nl : Int) := by omega
      have hk0 : (0 : Int) ≤ (k : Int) := by omega
      clear hcell hB hbw
      generalize s.wants[k] = wk at *
      generalize sumOf s.moulds (loOf s.left) (k : Int) = sk at *
      generalize hnk : newTo s k = nk at *
      obtain ⟨d, hd⟩ : ∃ d, wk - sk = d := ⟨_, rfl⟩
      have hwr : IntKind.i64.wrap (wk - sk) = d := by rw [hd]; exact IntWalk.i64_in _ ⟨by omega, by omega⟩
      rw [hd] at HN hnb2
      have hd1 : -60 ≤ d := by omega
      have hd2 : d ≤ 12 := by omega
      obtain ⟨tot, htot⟩ : ∃ tot, nk + ceilF d s.fresh = tot := ⟨_, rfl⟩
      rw [htot] at HN hnb2
      have htl : tot ≤ 36 := by have := hnb2.2; push_cast at this; omega
      have HT := Lib.hid htot
      have hnk0 : 0 ≤ nk := hnb.1
      have HD := Lib.hid hd
      clear hnb hnb2 hsb hwb htot hd
      have HWR := Lib.hid hwr
      go_upto_region 8 with fail
      go_cut [7] (fun v wx => v = .int .i64 d ∧ Below W1.heap.size W1 wx)
      case first =>
        go_region_held3 (fun w' => Below W1.heap.size W1 w' ∧ ∀ b o, b < W1.heap.size → w'.cell? ⟨b, o, none⟩ = W1.cell? ⟨b, o, none⟩) (first | with_reducible assumption | ((repeat (first | with_reducible refine bothS_drew ?_ | with_reducible refine bothS_alloc _ ?_ | with_reducible refine bothS_set _ _ (by first | omega | (simp; omega) | simp) ?_)); first | with_reducible assumption | with_reducible exact Hid.out (by assumption) | with_reducible exact ⟨Below.refl _ _, fun _ _ _ => rfl⟩)) (first | (go_at_call 92; with_reducible refine (HSX.out _ ?_).mono ?_; (first | with_reducible assumption | ((repeat (first | with_reducible refine bothS_drew ?_ | with_reducible refine bothS_alloc _ ?_ | with_reducible refine bothS_set _ _ (by first | omega | (simp; omega) | simp) ?_)); first | with_reducible assumption | with_reducible exact Hid.out (by assumption) | with_reducible exact ⟨Below.refl _ _, fun _ _ _ => rfl⟩)); rintro e w' ⟨rfl, k, k1, k2, k3⟩; have HK := Lib.hid k; (try simp at k3); (try have k6 := Nat.lt_of_succ_le k3); (try have k7 := Nat.lt_of_succ_lt k6); (try have k8 := Nat.lt_of_succ_lt k3)) | fail "no arm")
        all_goals (go_wp2_with fail; go_meet; exact ⟨rfl, And.left (by assumption)⟩)
      case rest =>
      obtain ⟨rfl, hB2⟩ := hcut
      obtain ⟨w2, rfl⟩ : ∃ w2 : World, w2 = wc := ⟨_, rfl⟩
      have hB3 := HB.out.trans (hB2.mono HB.out.size)
      have y0 := (hB2.cell (p := ⟨w.heap.size, 0, none⟩) q2).trans x0; have y1 := (hB2.cell (p := ⟨w.heap.size, 1, none⟩) q2).trans x1; have y2 := (hB2.cell (p := ⟨w.heap.size, 2, none⟩) q2).trans x2; have y3 := (hB2.cell (p := ⟨w.heap.size, 3, none⟩) q2).trans x3; clear x0 x1 x2 x3
      have HB3 := Lib.hid hB3
      clear hB2 hB3 c0 HSX hwr
      go_wp2_with fail
      go_loopw [5, 7] (fun n sh wi => ∃ (m x : Int), n = .int .i64 m ∧ sh = .int .i64 x ∧ m + ceilF x s.fresh = tot ∧ 0 ≤ m ∧ -60 ≤ x ∧ x ≤ 12 ∧ w2 = wi) (fun _ sh _ => (intOf sh).toNat)
      case atStart => exact ⟨nk, d, rfl, rfl, HT.out, hnk0, hd1, hd2, rfl⟩
      case round =>
        obtain ⟨m, y, rfl, rfl, hm, hm0, hy1, hy2, rfl⟩ := hrel
        have hc0 := ceil_ge (x := y) hf1
        rcases Int.lt_or_le 0 y with hy | hy
        · have hcs := ceil_step hy hf1
          have hc2 := ceil_ge (x := y - s.fresh) hf1
          have hm36 : m ≤ 36 := by omega
          have HM := Lib.hid (show m + 1 + ceilF (y - s.fresh) s.fresh = tot by omega)
          clear hm hc0 hcs hc2
          go_wp2_with fail
          go_roundw
          case rel => exact ⟨m + 1, y - s.fresh, by go_num, by go_num, HM.out, by omega, by omega, by omega, by first | trivial | rfl⟩
          case measure => simp [intOf]; omega
        · have hce := ceil_end hy hf1
          have HM := Lib.hid (show newTo s (k + 1) = m by rw [HN.out]; omega)
          have hy' : ¬ 0 < y := by omega
          clear hm hc0 hce
          go_wp2_with fail
          go_roundw
          case rel => exact ⟨k + 1, by omega, by go_num, by rw [HM.out], HB3.out⟩
          case measure => simp [intOf]; omega
    · obtain rfl : nl = k := by omega
      have HBW := Lib.hid hbw
      clear hB hbw
      go_wp2_with fail
      go_ret2
      exact ⟨by rw [HE.out, HNL.out]; rfl, HBW.out⟩

set_option maxRecDepth 100000 in
set_option maxHeartbeats 1000000 in
theorem refNew_no (s : FShop) (ma : Option Addr) (ml mc : Nat) (wa : Option Addr) (wl wc : Nat) (na : Option Addr) (nl nc : Nat) (v : Int) (hv : s.ask true = v) (h0 : v ≠ 0) (w : World) (hp : FAt w ma ml mc wa wl wc na nl nc s) :
    Calls Try.prog 62 #[.agg #[.slice ma ml mc, .slice wa wl wc, .slice na nl nc, .int .i64 s.fresh]] w fun e w' => e = .returned (.tuple #[.int .i64 0, .int .i64 v]) ∧ Below w.heap.size w w' := by
  have HC := Lib.hid (fun w1 (hb : Below w.heap.size w w1) => refKnown_is s ma ml mc wa wl wc na nl nc true v hv w1 (hp.below hb))
  have e2 : (v != 0) = true := by simpa using h0
  clear hp hv
  go_enter Try.func62, Try.ntmps62
  go_wp2_with fail
  refine (HC.out _ (by repeat (first | exact Below.refl _ _ | (refine Below.alloc ?_ (by first | omega | (simp; omega) | simp) _) | (refine Below.setCell ?_ (by first | omega | (simp; omega) | simp) _) | refine Below.drew ?_))).mono ?_
  rintro e w1 ⟨rfl, hb1⟩
  have hw1 := ((by repeat (first | exact Below.refl _ _ | (refine Below.alloc ?_ (by first | omega | (simp; omega) | simp) _) | (refine Below.setCell ?_ (by first | omega | (simp; omega) | simp) _) | refine Below.drew ?_)) : Below w.heap.size w _).trans (hb1.mono (by first | (simp; done) | (simp; omega) | omega))
  clear hb1
  go_wp2_with fail
  go_ret2
  exact ⟨rfl, hw1⟩

theorem ask_zero {s : FShop} {r : Bool} (h : s.ask r = 0) : s.ok = true ∧ r = true ∧ 0 < s.left.length := by
  unfold FShop.ask at h
  rcases h1 : s.ok with - | -
  · rw [h1] at h; simp at h
  · cases r
    · rw [h1] at h; simp at h
    · rw [h1] at h
      simp at h
      exact ⟨rfl, rfl, List.length_pos_iff.2 h⟩
theorem btw_nat {n : Int} {l : Nat} (h : btw n 0 ((l : Int) - 1) = true) : ∃ k : Nat, n = (k : Int) ∧ k < l := by
  have h3 : 0 ≤ n ∧ n ≤ (l : Int) - 1 := by simpa [btw] using h
  exact ⟨n.toNat, by omega, by omega⟩
/-- What each question is answered with, for any shop. -/
def FShop.leftLo (s : FShop) (n : Int) : Int := if s.ask (btw n 0 ((s.moulds.length : Int) - 1)) = 0 then loOf s.left n.toNat else 0
def FShop.leftHi (s : FShop) (n : Int) : Int := if s.ask (btw n 0 ((s.moulds.length : Int) - 1)) = 0 then hiOf s.left n.toNat else 0
def FShop.sureN (s : FShop) (n : Int) : Int := if s.ask (btw n 0 ((s.wants.length : Int) - 1)) = 0 then sumOf s.moulds (loOf s.left) n else 0
def FShop.newN (s : FShop) : Int := if s.ask true = 0 then s.newAll else 0
theorem Left_all (s : FShop) (ma : Option Addr) (ml mc : Nat) (wa : Option Addr) (wl wc : Nat) (na : Option Addr) (nl nc : Nat) (n lo hi e0 : Int) (h1 : s.leftLo n = lo) (h2 : s.leftHi n = hi) (h3 : s.ask (btw n 0 ((s.moulds.length : Int) - 1)) = e0) (w : World) (hp : FAt w ma ml mc wa wl wc na nl nc s) :
    Calls Try.prog 43 #[.agg #[.slice ma ml mc, .slice wa wl wc, .slice na nl nc, .int .i64 s.fresh], .int .i64 n] w fun e w' => e = .returned (.tuple #[.agg #[.int .i64 lo, .int .i64 hi], .int .i64 e0]) ∧ Below w.heap.size w w' := by
  subst h1 h2 h3
  have hml := hp.1.1
  unfold FShop.leftLo FShop.leftHi
  by_cases h0 : s.ask (btw n 0 ((s.moulds.length : Int) - 1)) = 0
  · obtain ⟨ho, hr, hl0⟩ := ask_zero h0
    obtain ⟨k, rfl, hk⟩ := btw_nat hr
    rw [if_pos h0, if_pos h0, h0]
    exact Left_yes s ma ml mc wa wl wc na nl nc k (by omega) w hp ho hl0
  · rw [if_neg h0, if_neg h0]
    exact Left_no s ma ml mc wa wl wc na nl nc n _ (by rw [hml]) h0 w hp
theorem refLeft_all (s : FShop) (ma : Option Addr) (ml mc : Nat) (wa : Option Addr) (wl wc : Nat) (na : Option Addr) (nl nc : Nat) (n lo hi e0 : Int) (h1 : s.leftLo n = lo) (h2 : s.leftHi n = hi) (h3 : s.ask (btw n 0 ((s.moulds.length : Int) - 1)) = e0) (w : World) (hp : FAt w ma ml mc wa wl wc na nl nc s) :
    Calls Try.prog 59 #[.agg #[.slice ma ml mc, .slice wa wl wc, .slice na nl nc, .int .i64 s.fresh], .int .i64 n] w fun e w' => e = .returned (.tuple #[.agg #[.int .i64 lo, .int .i64 hi], .int .i64 e0]) ∧ Below w.heap.size w w' := by
  subst h1 h2 h3
  have hml := hp.1.1
  unfold FShop.leftLo FShop.leftHi
  by_cases h0 : s.ask (btw n 0 ((s.moulds.length : Int) - 1)) = 0
  · obtain ⟨ho, hr, hl0⟩ := ask_zero h0
    obtain ⟨k, rfl, hk⟩ := btw_nat hr
    rw [if_pos h0, if_pos h0, h0]
    exact refLeft_yes s ma ml mc wa wl wc na nl nc k (by omega) w hp ho hl0
  · rw [if_neg h0, if_neg h0]
    exact refLeft_no s ma ml mc wa wl wc na nl nc n _ (by rw [hml]) h0 w hp
theorem Sure_all (s : FShop) (ma : Option Addr) (ml mc : Nat) (wa : Option Addr) (wl wc : Nat) (na : Option Addr) (nl nc : Nat) (n v e0 : Int) (h1 : s.sureN n = v) (h3 : s.ask (btw n 0 ((s.wants.length : Int) - 1)) = e0) (w : World) (hp : FAt w ma ml mc wa wl wc na nl nc s) :
    Calls Try.prog 60 #[.agg #[.slice ma ml mc, .slice wa wl wc, .slice na nl nc, .int .i64 s.fresh], .int .i64 n] w fun e w' => e = .returned (.tuple #[.int .i64 v, .int .i64 e0]) ∧ Below w.heap.size w w' := by
  subst h1 h3
  have hnl := hp.2.2.1
  unfold FShop.sureN
  by_cases h0 : s.ask (btw n 0 ((s.wants.length : Int) - 1)) = 0
  · obtain ⟨ho, hr, hl0⟩ := ask_zero h0
    obtain ⟨k, rfl, hk⟩ := btw_nat hr
    rw [if_pos h0, h0]
    exact Sure_yes s ma ml mc wa wl wc na nl nc k (by omega) w hp ho hl0
  · rw [if_neg h0]
    exact Sure_no s ma ml mc wa wl wc na nl nc n _ (by rw [hnl]) h0 w hp
theorem refSure_all (s : FShop) (ma : Option Addr) (ml mc : Nat) (wa : Option Addr) (wl wc : Nat) (na : Option Addr) (nl nc : Nat) (n v e0 : Int) (h1 : s.sureN n = v) (h3 : s.ask (btw n 0 ((s.wants.length : Int) - 1)) = e0) (w : World) (hp : FAt w ma ml mc wa wl wc na nl nc s) :
    Calls Try.prog 61 #[.agg #[.slice ma ml mc, .slice wa wl wc, .slice na nl nc, .int .i64 s.fresh], .int .i64 n] w fun e w' => e = .returned (.tuple #[.int .i64 v, .int .i64 e0]) ∧ Below w.heap.size w w' := by
  subst h1 h3
  have hnl := hp.2.2.1
  unfold FShop.sureN
  by_cases h0 : s.ask (btw n 0 ((s.wants.length : Int) - 1)) = 0
  · obtain ⟨ho, hr, hl0⟩ := ask_zero h0
    obtain ⟨k, rfl, hk⟩ := btw_nat hr
    rw [if_pos h0, h0]
    exact refSure_yes s ma ml mc wa wl wc na nl nc k (by omega) w hp ho hl0
  · rw [if_neg h0]
    exact refSure_no s ma ml mc wa wl wc na nl nc n _ (by rw [hnl]) h0 w hp
theorem New_all (s : FShop) (ma : Option Addr) (ml mc : Nat) (wa : Option Addr) (wl wc : Nat) (na : Option Addr) (nl nc : Nat) (v e0 : Int) (h1 : s.newN = v) (h3 : s.ask true = e0) (w : World) (hp : FAt w ma ml mc wa wl wc na nl nc s) :
    Calls Try.prog 49 #[.agg #[.slice ma ml mc, .slice wa wl wc, .slice na nl nc, .int .i64 s.fresh]] w fun e w' => e = .returned (.tuple #[.int .i64 v, .int .i64 e0]) ∧ Below w.heap.size w w' := by
  subst h1 h3
  unfold FShop.newN
  by_cases h0 : s.ask true = 0
  · obtain ⟨ho, -, hl0⟩ := ask_zero h0
    rw [if_pos h0, h0]
    exact New_yes s ma ml mc wa wl wc na nl nc w hp ho hl0
  · rw [if_neg h0]
    exact New_no s ma ml mc wa wl wc na nl nc _ rfl h0 w hp
theorem refNew_all (s : FShop) (ma : Option Addr) (ml mc : Nat) (wa : Option Addr) (wl wc : Nat) (na : Option Addr) (nl nc : Nat) (v e0 : Int) (h1 : s.newN = v) (h3 : s.ask true = e0) (w : World) (hp : FAt w ma ml mc wa wl wc na nl nc s) :
    Calls Try.prog 62 #[.agg #[.slice ma ml mc, .slice wa wl wc, .slice na nl nc, .int .i64 s.fresh]] w fun e w' => e = .returned (.tuple #[.int .i64 v, .int .i64 e0]) ∧ Below w.heap.size w w' := by
  subst h1 h3
  unfold FShop.newN
  by_cases h0 : s.ask true = 0
  · obtain ⟨ho, -, hl0⟩ := ask_zero h0
    rw [if_pos h0, h0]
    exact refNew_yes s ma ml mc wa wl wc na nl nc w hp ho hl0
  · rw [if_neg h0]
    exact refNew_no s ma ml mc wa wl wc na nl nc _ rfl h0 w hp
end Go.Proofs.Ytigeiaiohdemiaa
