/- Flongs: the reference's given, Agrees, Worlds, Good; each call of both sides in one contract for any shop. -/
import Derived.Test.YtigeiaiohdemiaaGI
namespace Go.Proofs.Ytigeiaiohdemiaa
set_option linter.unusedVariables false
set_option linter.unusedSimpArgs false
open Go.RowKit

set_option maxRecDepth 100000 in
set_option maxHeartbeats 4000000 in
theorem refGiven_is (s : FShop) (ma : Option Addr) (ml mc : Nat) (wa : Option Addr) (wl wc : Nat) (na : Option Addr) (nl nc : Nat) (xa : Option Addr) (xl xc : Nat) (x : List Int) (v : Int) (h : s.ask (sharesB s.moulds x) = v) (w : World) (hp : FAt w ma ml mc wa wl wc na nl nc s) (hx : IntsAt w xa xl x) :
    Calls Try.prog 93 #[.agg #[.slice ma ml mc, .slice wa wl wc, .slice na nl nc, .int .i64 s.fresh], .slice xa xl xc] w fun e w' => e = .returned (.int .i64 v) ∧ Below w.heap.size w w' := by
  have HV := Lib.hid (fun v (h : s.chk = v) w1 (hb : Below w.heap.size w w1) => refCheck_is s ma ml mc wa wl wc na nl nc v h w1 (hp.below hb))
  have HS := Lib.hid (fun w1 (hb : Below w.heap.size w w1) => refAreShares_any s ma ml mc wa wl wc na nl nc xa xl xc x w1 (hp.below hb) (hx.below hb))
  have HK := Lib.hid (fun w1 (hb : Below w.heap.size w w1) => refKnown_is s ma ml mc wa wl wc na nl nc (sharesB s.moulds x) v h w1 (hp.below hb))
  clear hp hx
  rcases ho : s.ok with - | -
  · have HV1 := Lib.hid (HV.out 20 (by simp [FShop.chk, ho]))
    have HE := Lib.hid (show v = 20 by rw [← h, FShop.ask, ho]; simp)
    clear ho h
    go_enter Try.func93, Try.ntmps93
    go_wp2_with fail
    refine (HV1.out _ (by repeat (first | exact Below.refl _ _ | (refine Below.alloc ?_ (by first | omega | (simp; omega) | simp) _) | (refine Below.setCell ?_ (by first | omega | (simp; omega) | simp) _) | refine Below.drew ?_))).mono ?_
    rintro e w1 ⟨rfl, hb1⟩
    have HB := Lib.hid hb1
    clear hb1
    go_wp2_with fail
    go_ret
    exact ⟨ret_i64 HE.out.symm, (by repeat (first | exact Below.refl _ _ | (refine Below.alloc ?_ (by first | omega | (simp; omega) | simp) _) | (refine Below.setCell ?_ (by first | omega | (simp; omega) | simp) _) | refine Below.drew ?_ | (refine below_via (by assumption) (by first | omega | (simp; omega) | simp) ?_)))⟩
  · have HV1 := Lib.hid (HV.out 0 (by simp [FShop.chk, ho]))
    clear ho h
    generalize sharesB s.moulds x = r at *
    go_enter Try.func93, Try.ntmps93
    go_wp2_with fail
    refine (HV1.out _ (by repeat (first | exact Below.refl _ _ | (refine Below.alloc ?_ (by first | omega | (simp; omega) | simp) _) | (refine Below.setCell ?_ (by first | omega | (simp; omega) | simp) _) | refine Below.drew ?_))).mono ?_
    rintro e w1 ⟨rfl, hb1⟩
    obtain ⟨hc1, hf1⟩ := bcell hb1
    have hz1 := hb1.size
    simp at hz1
    have hw1 := ((by repeat (first | exact Below.refl _ _ | (refine Below.alloc ?_ (by first | omega | (simp; omega) | simp) _) | (refine Below.setCell ?_ (by first | omega | (simp; omega) | simp) _) | refine Below.drew ?_)) : Below w.heap.size w _).trans (hb1.mono (by first | (simp; done) | (simp; omega) | omega))
    have q1 : w.heap.size < w1.heap.size := by omega
    have hx0 := fun i => (hc1 w.heap.size i (by simp)).trans (by go_simp : _ = (#[.slice ma ml mc, .slice wa wl wc, .slice na nl nc, .int .i64 s.fresh] : Array Value)[i]?)
    obtain ⟨x0, x1, x2, x3⟩ : w1.cell? ⟨w.heap.size, 0, none⟩ = some (.slice ma ml mc) ∧ w1.cell? ⟨w.heap.size, 1, none⟩ = some (.slice wa wl wc) ∧ w1.cell? ⟨w.heap.size, 2, none⟩ = some (.slice na nl nc) ∧ w1.cell? ⟨w.heap.size, 3, none⟩ = some (.int .i64 s.fresh) := ⟨hx0 0, hx0 1, hx0 2, hx0 3⟩
    have HSX := Lib.hid (fun W (h : Below w1.heap.size w1 W ∧ ∀ b o, b < w1.heap.size → W.cell? ⟨b, o, none⟩ = w1.cell? ⟨b, o, none⟩) => bothS1 (W0 := w1) (HS.out W (hw1.trans (h.1.mono hw1.size))) h)
    have HKX := Lib.hid (fun W (h : Below w1.heap.size w1 W ∧ ∀ b o, b < w1.heap.size → W.cell? ⟨b, o, none⟩ = w1.cell? ⟨b, o, none⟩) => bothS1 (W0 := w1) (HK.out W (hw1.trans (h.1.mono hw1.size))) h)
    have HW1 := Lib.hid hw1
    clear hb1 hx0 hc1 hf1 hz1 hw1
    go_upto_region 4 with fail
    go_cut [4] (fun v4 wx => v4 = .int .i64 v ∧ Below w1.heap.size w1 wx)
    case first =>
      go_region_held3 (fun w' => Below w1.heap.size w1 w' ∧ ∀ b o, b < w1.heap.size → w'.cell? ⟨b, o, none⟩ = w1.cell? ⟨b, o, none⟩) (first | with_reducible assumption | ((repeat (first | with_reducible refine bothS_drew ?_ | with_reducible refine bothS_alloc _ ?_ | with_reducible refine bothS_set _ _ (by first | omega | (simp; omega) | simp) ?_)); first | with_reducible assumption | with_reducible exact Hid.out (by assumption) | with_reducible exact ⟨Below.refl _ _, fun _ _ _ => rfl⟩)) (first | (go_at_call 23; with_reducible refine (HSX.out _ ?_).mono ?_; (first | with_reducible assumption | ((repeat (first | with_reducible refine bothS_drew ?_ | with_reducible refine bothS_alloc _ ?_ | with_reducible refine bothS_set _ _ (by first | omega | (simp; omega) | simp) ?_)); first | with_reducible assumption | with_reducible exact Hid.out (by assumption) | with_reducible exact ⟨Below.refl _ _, fun _ _ _ => rfl⟩)); rintro e w' ⟨rfl, k, k1, k2, k3⟩; have HK := Lib.hid k; (try simp at k3); (try have k6 := Nat.lt_of_succ_le k3); (try have k7 := Nat.lt_of_succ_lt k6); (try have k8 := Nat.lt_of_succ_lt k3)) | (go_at_call 90; with_reducible refine (HKX.out _ ?_).mono ?_; (first | with_reducible assumption | ((repeat (first | with_reducible refine bothS_drew ?_ | with_reducible refine bothS_alloc _ ?_ | with_reducible refine bothS_set _ _ (by first | omega | (simp; omega) | simp) ?_)); first | with_reducible assumption | with_reducible exact Hid.out (by assumption) | with_reducible exact ⟨Below.refl _ _, fun _ _ _ => rfl⟩)); rintro e w' ⟨rfl, k, k1, k2, k3⟩; have HK := Lib.hid k; (try simp at k3); (try have k6 := Nat.lt_of_succ_le k3); (try have k7 := Nat.lt_of_succ_lt k6); (try have k8 := Nat.lt_of_succ_lt k3)) | fail "no arm")
      all_goals (go_wp2_with fail; go_meet; exact ⟨rfl, And.left (by assumption)⟩)
    case rest =>
    obtain ⟨rfl, hB1⟩ := hcut
    go_wp2_with fail
    go_ret
    exact ⟨rfl, HW1.out.trans (hB1.mono HW1.out.size)⟩

set_option maxRecDepth 100000 in
set_option maxHeartbeats 4000000 in
theorem refAgrees_no (s : FShop) (ma : Option Addr) (ml mc : Nat) (wa : Option Addr) (wl wc : Nat) (na : Option Addr) (nl nc : Nat) (n : Int) (v : Int) (hv : s.name (btw n 0 ((wl : Int) - 1)) = v) (h0 : v ≠ 0) (w : World) (hp : FAt w ma ml mc wa wl wc na nl nc s) :
    Calls Try.prog 54 #[.agg #[.slice ma ml mc, .slice wa wl wc, .slice na nl nc, .int .i64 s.fresh], .int .i64 n] w fun e w' => e = .returned (.tuple #[.bool false, .int .i64 v]) ∧ Below w.heap.size w w' := by
  have hmm := hp.2.1.2.1
  have HA := Lib.hid (fun W (hb : Below w.heap.size w W) => refAsk_is s ma ml mc wa wl wc na nl nc _ v hv W (hp.below hb))
  have HH := Lib.hid (fun W => IsWorld_is s ma ml mc wa wl wc na nl nc n W hmm _ rfl)
  have e2 : (v != 0) = true := by simpa using h0
  clear hp hv hmm
  generalize btw n 0 ((wl : Int) - 1) = r at *
  go_enter Try.func54, Try.ntmps54
  go_wp2_with fail
  obtain ⟨W0, hW0, hB0, hs0, hz0⟩ := name1k w #[.slice ma ml mc, .slice wa wl wc, .slice na nl nc, .int .i64 s.fresh] 26
  rw [hW0]
  clear hW0
  have HHX := Lib.hid (fun W (h : Below W0.heap.size W0 W ∧ ∀ b o, b < W0.heap.size → W.cell? ⟨b, o, none⟩ = W0.cell? ⟨b, o, none⟩) => bothS1 (W0 := W0) (HH.out W) h)
  have HAN := Lib.hid (fun W (h : Below W0.heap.size W0 W ∧ ∀ b o, b < W0.heap.size → W.cell? ⟨b, o, none⟩ = W0.cell? ⟨b, o, none⟩) => bothS1 (W0 := W0) (HA.out W (hB0.trans (h.1.mono hB0.size))) h)
  obtain ⟨x0, x1, x2, x3⟩ : W0.cell? ⟨w.heap.size, 0, none⟩ = some (.slice ma ml mc) ∧ W0.cell? ⟨w.heap.size, 1, none⟩ = some (.slice wa wl wc) ∧ W0.cell? ⟨w.heap.size, 2, none⟩ = some (.slice na nl nc) ∧ W0.cell? ⟨w.heap.size, 3, none⟩ = some (.int .i64 s.fresh) := ⟨hs0 0, hs0 1, hs0 2, hs0 3⟩
  have HB0 := Lib.hid hB0
  clear hB0 hs0
  go_upto_region 1 with fail
  go_cut [6] (fun v7 wx => v7 = .int .i64 v ∧ Below W0.heap.size W0 wx)
  case first =>
    go_region_held3 (fun w' => Below W0.heap.size W0 w' ∧ ∀ b o, b < W0.heap.size → w'.cell? ⟨b, o, none⟩ = W0.cell? ⟨b, o, none⟩) (first | with_reducible assumption | ((repeat (first | with_reducible refine bothS_drew ?_ | with_reducible refine bothS_alloc _ ?_ | with_reducible refine bothS_set _ _ (by first | omega | (simp; omega) | simp) ?_)); first | with_reducible assumption | with_reducible exact Hid.out (by assumption) | with_reducible exact ⟨Below.refl _ _, fun _ _ _ => rfl⟩)) (first | (go_at_call 16; with_reducible refine (HHX.out _ ?_).mono ?_; (first | with_reducible assumption | ((repeat (first | with_reducible refine bothS_drew ?_ | with_reducible refine bothS_alloc _ ?_ | with_reducible refine bothS_set _ _ (by first | omega | (simp; omega) | simp) ?_)); first | with_reducible assumption | with_reducible exact Hid.out (by assumption) | with_reducible exact ⟨Below.refl _ _, fun _ _ _ => rfl⟩)); rintro e w' ⟨rfl, k, k1, k2, k3⟩; have HK := Lib.hid k; (try simp at k3); (try have k6 := Nat.lt_of_succ_le k3); (try have k7 := Nat.lt_of_succ_lt k6); (try have k8 := Nat.lt_of_succ_lt k3)) | (go_at_call 89; with_reducible refine (HAN.out _ ?_).mono ?_; (first | with_reducible assumption | ((repeat (first | with_reducible refine bothS_drew ?_ | with_reducible refine bothS_alloc _ ?_ | with_reducible refine bothS_set _ _ (by first | omega | (simp; omega) | simp) ?_)); first | with_reducible assumption | with_reducible exact Hid.out (by assumption) | with_reducible exact ⟨Below.refl _ _, fun _ _ _ => rfl⟩)); rintro e w' ⟨rfl, k, k1, k2, k3⟩; have HK := Lib.hid k; (try simp at k3); (try have k6 := Nat.lt_of_succ_le k3); (try have k7 := Nat.lt_of_succ_lt k6); (try have k8 := Nat.lt_of_succ_lt k3)) | fail "no arm")
    all_goals (go_wp2_with fail; go_meet; exact ⟨rfl, And.left (by assumption)⟩)
  case rest =>
  obtain ⟨rfl, hB1⟩ := hcut
  obtain ⟨w1, rfl⟩ : ∃ w1 : World, w1 = wc := ⟨_, rfl⟩
  have HBW := Lib.hid (HB0.out.trans (hB1.mono HB0.out.size))
  clear hB1
  go_wp2_with fail
  go_ret2
  exact ⟨rfl, HBW.out⟩

set_option maxRecDepth 100000 in
set_option maxHeartbeats 4000000 in
theorem refAgrees_yes (s : FShop) (ma : Option Addr) (ml mc : Nat) (wa : Option Addr) (wl wc : Nat) (na : Option Addr) (nl nc : Nat) (n : Nat) (hn : n < s.worlds.length) (w : World) (hp : FAt w ma ml mc wa wl wc na nl nc s) (ho : s.ok = true) :
    Calls Try.prog 54 #[.agg #[.slice ma ml mc, .slice wa wl wc, .slice na nl nc, .int .i64 s.fresh], .int .i64 n] w fun e w' => e = .returned (.tuple #[.bool (agreeB s.moulds s.worlds[n]), .int .i64 0]) ∧ Below w.heap.size w w' := by
  have hwl := hp.2.1.1
  have hmm := hp.2.1.2.1
  have HA := Lib.hid (fun W (hb : Below w.heap.size w W) => refAsk_is s ma ml mc wa wl wc na nl nc true 0 (by simp [FShop.name, ho]) W (hp.below hb))
  have HH := Lib.hid (fun W => IsWorld_is s ma ml mc wa wl wc na nl nc (n : Int) W hmm true (by simp [btw]; omega))
  have HG := Lib.hid (fun W (hb : Below w.heap.size w W) => refAgreesOf_any s ma ml mc wa wl wc na nl nc n hn (FShop.ok_world ho n hn).1 W (hp.below hb))
  clear hp ho hwl hmm
  generalize agreeB s.moulds s.worlds[n] = r at *
  go_enter Try.func54, Try.ntmps54
  go_wp2_with fail
  obtain ⟨W0, hW0, hB0, hs0, hz0⟩ := name1k w #[.slice ma ml mc, .slice wa wl wc, .slice na nl nc, .int .i64 s.fresh] 26
  rw [hW0]
  clear hW0
  have HHX := Lib.hid (fun W (h : Below W0.heap.size W0 W ∧ ∀ b o, b < W0.heap.size → W.cell? ⟨b, o, none⟩ = W0.cell? ⟨b, o, none⟩) => bothS1 (W0 := W0) (HH.out W) h)
  have HAN := Lib.hid (fun W (h : Below W0.heap.size W0 W ∧ ∀ b o, b < W0.heap.size → W.cell? ⟨b, o, none⟩ = W0.cell? ⟨b, o, none⟩) => bothS1 (W0 := W0) (HA.out W (hB0.trans (h.1.mono hB0.size))) h)
  obtain ⟨x0, x1, x2, x3⟩ : W0.cell? ⟨w.heap.size, 0, none⟩ = some (.slice ma ml mc) ∧ W0.cell? ⟨w.heap.size, 1, none⟩ = some (.slice wa wl wc) ∧ W0.cell? ⟨w.heap.size, 2, none⟩ = some (.slice na nl nc) ∧ W0.cell? ⟨w.heap.size, 3, none⟩ = some (.int .i64 s.fresh) := ⟨hs0 0, hs0 1, hs0 2, hs0 3⟩
  have HB0 := Lib.hid hB0
  clear hB0 hs0
  go_upto_region 1 with fail
  go_cut [6] (fun v7 wx => v7 = .int .i64 0 ∧ Below W0.heap.size W0 wx)
  case first =>
    go_region_held3 (fun w' => Below W0.heap.size W0 w' ∧ ∀ b o, b < W0.heap.size → w'.cell? ⟨b, o, none⟩ = W0.cell? ⟨b, o, none⟩) (first | with_reducible assumption | ((repeat (first | with_reducible refine bothS_drew ?_ | with_reducible refine bothS_alloc _ ?_ | with_reducible refine bothS_set _ _ (by first | omega | (simp; omega) | simp) ?_)); first | with_reducible assumption | with_reducible exact Hid.out (by assumption) | with_reducible exact ⟨Below.refl _ _, fun _ _ _ => rfl⟩)) (first | (go_at_call 16; with_reducible refine (HHX.out _ ?_).mono ?_; (first | with_reducible assumption | ((repeat (first | with_reducible refine bothS_drew ?_ | with_reducible refine bothS_alloc _ ?_ | with_reducible refine bothS_set _ _ (by first | omega | (simp; omega) | simp) ?_)); first | with_reducible assumption | with_reducible exact Hid.out (by assumption) | with_reducible exact ⟨Below.refl _ _, fun _ _ _ => rfl⟩)); rintro e w' ⟨rfl, k, k1, k2, k3⟩; have HK := Lib.hid k; (try simp at k3); (try have k6 := Nat.lt_of_succ_le k3); (try have k7 := Nat.lt_of_succ_lt k6); (try have k8 := Nat.lt_of_succ_lt k3)) | (go_at_call 89; with_reducible refine (HAN.out _ ?_).mono ?_; (first | with_reducible assumption | ((repeat (first | with_reducible refine bothS_drew ?_ | with_reducible refine bothS_alloc _ ?_ | with_reducible refine bothS_set _ _ (by first | omega | (simp; omega) | simp) ?_)); first | with_reducible assumption | with_reducible exact Hid.out (by assumption) | with_reducible exact ⟨Below.refl _ _, fun _ _ _ => rfl⟩)); rintro e w' ⟨rfl, k, k1, k2, k3⟩; have HK := Lib.hid k; (try simp at k3); (try have k6 := Nat.lt_of_succ_le k3); (try have k7 := Nat.lt_of_succ_lt k6); (try have k8 := Nat.lt_of_succ_lt k3)) | fail "no arm")
    all_goals (go_wp2_with fail; go_meet; exact ⟨rfl, And.left (by assumption)⟩)
  case rest =>
  obtain ⟨rfl, hB1⟩ := hcut
  obtain ⟨w1, rfl⟩ : ∃ w1 : World, w1 = wc := ⟨_, rfl⟩
  obtain ⟨y0, y1, y2, y3⟩ : w1.cell? ⟨w.heap.size, 0, none⟩ = some (.slice ma ml mc) ∧ w1.cell? ⟨w.heap.size, 1, none⟩ = some (.slice wa wl wc) ∧ w1.cell? ⟨w.heap.size, 2, none⟩ = some (.slice na nl nc) ∧ w1.cell? ⟨w.heap.size, 3, none⟩ = some (.int .i64 s.fresh) := ⟨(hB1.cell (p := ⟨w.heap.size, 0, none⟩) hz0).trans x0, (hB1.cell (p := ⟨w.heap.size, 1, none⟩) hz0).trans x1, (hB1.cell (p := ⟨w.heap.size, 2, none⟩) hz0).trans x2, (hB1.cell (p := ⟨w.heap.size, 3, none⟩) hz0).trans x3⟩
  have HBW := Lib.hid (HB0.out.trans (hB1.mono HB0.out.size))
  clear hB1 x0 x1 x2 x3
  go_wp2_with fail
  refine (HG.out _ HBW.out).mono ?_
  rintro e w2 ⟨rfl, hb2⟩
  have HBX := Lib.hid (HBW.out.trans (hb2.mono HBW.out.size))
  clear hb2
  go_wp2_with fail
  go_ret2
  exact ⟨rfl, HBX.out⟩

def FShop.agOut (s : FShop) (n : Int) : Bool := s.ok && (btw n 0 ((s.worlds.length : Int) - 1) && agreeB s.moulds (s.worlds[n.toNat]?.getD []))
def FShop.agErr (s : FShop) (n : Int) : Int := s.name (btw n 0 ((s.worlds.length : Int) - 1))
theorem agErr_zero {s : FShop} {n : Int} (h : s.agErr n = 0) : s.ok = true ∧ ∃ k : Nat, ∃ hk : k < s.worlds.length, n = (k : Int) ∧ s.agOut n = agreeB s.moulds s.worlds[k] := by
  unfold FShop.agErr FShop.name at h
  rcases h1 : s.ok with - | -
  · rw [h1] at h; simp at h
  · rcases h2 : btw n 0 ((s.worlds.length : Int) - 1) with - | -
    · rw [h1, h2] at h; simp at h
    · have h3 : 0 ≤ n ∧ n ≤ (s.worlds.length : Int) - 1 := by simpa [btw] using h2
      refine ⟨rfl, n.toNat, by omega, by omega, ?_⟩
      have h4 : n.toNat < s.worlds.length := by omega
      simp [FShop.agOut, h1, h2, List.getElem?_eq_getElem h4]
theorem agErr_some {s : FShop} {n : Int} (h : s.agErr n ≠ 0) : s.agOut n = false := by
  unfold FShop.agErr FShop.name at h
  unfold FShop.agOut
  rcases h1 : s.ok with - | -
  · simp
  · rcases h2 : btw n 0 ((s.worlds.length : Int) - 1) with - | -
    · simp
    · rw [h1, h2] at h; simp at h
theorem Agrees_all (s : FShop) (ma : Option Addr) (ml mc : Nat) (wa : Option Addr) (wl wc : Nat) (na : Option Addr) (nl nc : Nat) (n : Int) (a : Bool) (e0 : Int) (ha : s.agOut n = a) (he : s.agErr n = e0) (w : World) (hp : FAt w ma ml mc wa wl wc na nl nc s) :
    Calls Try.prog 53 #[.agg #[.slice ma ml mc, .slice wa wl wc, .slice na nl nc, .int .i64 s.fresh], .int .i64 n] w fun e w' => e = .returned (.tuple #[.bool a, .int .i64 e0]) ∧ Below w.heap.size w w' := by
  subst ha he
  by_cases h0 : s.agErr n = 0
  · obtain ⟨ho, k, hk, rfl, hg⟩ := agErr_zero h0
    rw [h0, hg]
    exact Agrees_yes s ma ml mc wa wl wc na nl nc k hk w hp ho
  · rw [agErr_some h0]
    refine Agrees_no s ma ml mc wa wl wc na nl nc n _ ?_ h0 w hp
    rw [FShop.agErr, hp.2.1.1]
theorem refAgrees_all (s : FShop) (ma : Option Addr) (ml mc : Nat) (wa : Option Addr) (wl wc : Nat) (na : Option Addr) (nl nc : Nat) (n : Int) (a : Bool) (e0 : Int) (ha : s.agOut n = a) (he : s.agErr n = e0) (w : World) (hp : FAt w ma ml mc wa wl wc na nl nc s) :
    Calls Try.prog 54 #[.agg #[.slice ma ml mc, .slice wa wl wc, .slice na nl nc, .int .i64 s.fresh], .int .i64 n] w fun e w' => e = .returned (.tuple #[.bool a, .int .i64 e0]) ∧ Below w.heap.size w w' := by
  subst ha he
  by_cases h0 : s.agErr n = 0
  · obtain ⟨ho, k, hk, rfl, hg⟩ := agErr_zero h0
    rw [h0, hg]
    exact refAgrees_yes s ma ml mc wa wl wc na nl nc k hk w hp ho
  · rw [agErr_some h0]
    refine refAgrees_no s ma ml mc wa wl wc na nl nc n _ ?_ h0 w hp
    rw [FShop.agErr, hp.2.1.1]

/-- What Worlds answers. -/
def WorldsPost (s : FShop) (w : World) (e : Ending) (w' : World) : Prop :=
  (∃ a len c, e = .returned (.tuple #[.slice a len c, .int .i64 s.chk]) ∧ IntsAt w' a len (if s.ok then s.which else [])) ∧ Below w.heap.size w w'
theorem ints_nil (w : World) : IntsAt w none 0 [] := ⟨rfl, by unfold maxLen; omega, fun h => by omega⟩
theorem Worlds_all (s : FShop) (ma : Option Addr) (ml mc : Nat) (wa : Option Addr) (wl wc : Nat) (na : Option Addr) (nl nc : Nat) (w : World) (hp : FAt w ma ml mc wa wl wc na nl nc s) :
    Calls Try.prog 20 #[.agg #[.slice ma ml mc, .slice wa wl wc, .slice na nl nc, .int .i64 s.fresh]] w fun e w' => WorldsPost s w e w' := by
  rcases ho : s.ok with - | -
  · refine (Worlds_no s ma ml mc wa wl wc na nl nc 20 (by simp [FShop.chk, ho]) (by decide) w hp).mono ?_
    rintro e w' ⟨rfl, hb⟩
    refine ⟨⟨none, 0, 0, by simp [FShop.chk, ho], ?_⟩, hb⟩
    rw [ho]
    exact ints_nil w'
  · refine (Worlds_yes s ma ml mc wa wl wc na nl nc w hp ho (by simp [FShop.chk, ho])).mono ?_
    rintro e w' ⟨a, c, rfl, hi, hb⟩
    refine ⟨⟨a, s.which.length, c, by simp [FShop.chk, ho], ?_⟩, hb⟩
    rw [ho]
    exact hi
set_option maxHeartbeats 1000000 in
theorem refWorlds_all (s : FShop) (ma : Option Addr) (ml mc : Nat) (wa : Option Addr) (wl wc : Nat) (na : Option Addr) (nl nc : Nat) (w : World) (hp : FAt w ma ml mc wa wl wc na nl nc s) :
    Calls Try.prog 55 #[.agg #[.slice ma ml mc, .slice wa wl wc, .slice na nl nc, .int .i64 s.fresh]] w fun e w' => WorldsPost s w e w' := by
  have HV := Lib.hid (fun v (h : s.chk = v) w1 (hb : Below w.heap.size w w1) => refCheck_is s ma ml mc wa wl wc na nl nc v h w1 (hp.below hb))
  have HK := Lib.hid (fun (h : s.ok = true) w1 (hb : Below w.heap.size w w1) => refWorldsOf_any s ma ml mc wa wl wc na nl nc w1 (hp.below hb) h)
  clear hp
  rcases ho : s.ok with - | -
  · have HV1 := Lib.hid (HV.out 20 (by simp [FShop.chk, ho]))
    have HE := Lib.hid (show s.chk = 20 ∧ s.ok = false from ⟨by simp [FShop.chk, ho], ho⟩)
    clear ho
    go_enter Try.func55, Try.ntmps55
    go_wp2_with fail
    refine (HV1.out _ (by repeat (first | exact Below.refl _ _ | (refine Below.alloc ?_ (by first | omega | (simp; omega) | simp) _) | (refine Below.setCell ?_ (by first | omega | (simp; omega) | simp) _) | refine Below.drew ?_))).mono ?_
    rintro e w1 ⟨rfl, hb1⟩
    have HB := Lib.hid hb1
    clear hb1
    go_wp2_with fail
    go_ret2
    unfold WorldsPost
    rw [HE.out.1, HE.out.2]
    exact ⟨⟨none, 0, 0, rfl, ints_nil _⟩, (by repeat (first | exact Below.refl _ _ | (refine Below.alloc ?_ (by first | omega | (simp; omega) | simp) _) | (refine Below.setCell ?_ (by first | omega | (simp; omega) | simp) _) | refine Below.drew ?_ | (refine below_via (by assumption) (by first | omega | (simp; omega) | simp) ?_)))⟩
  · have HV1 := Lib.hid (HV.out 0 (by simp [FShop.chk, ho]))
    have HK1 := Lib.hid (HK.out ho)
    have HE := Lib.hid (show s.chk = 0 ∧ s.ok = true from ⟨by simp [FShop.chk, ho], ho⟩)
    clear ho
    go_enter Try.func55, Try.ntmps55
    go_wp2_with fail
    refine (HV1.out _ (by repeat (first | exact Below.refl _ _ | (refine Below.alloc ?_ (by first | omega | (simp; omega) | simp) _) | (refine Below.setCell ?_ (by first | omega | (simp; omega) | simp) _) | refine Below.drew ?_))).mono ?_
    rintro e w1 ⟨rfl, hb1⟩
    obtain ⟨hc1, hf1⟩ := bcell hb1
    have hz1 := hb1.size
    simp at hz1
    have hw1 := ((by repeat (first | exact Below.refl _ _ | (refine Below.alloc ?_ (by first | omega | (simp; omega) | simp) _) | (refine Below.setCell ?_ (by first | omega | (simp; omega) | simp) _) | refine Below.drew ?_)) : Below w.heap.size w _).trans (hb1.mono (by first | (simp; done) | (simp; omega) | omega))
    have q1 : w.heap.size < w1.heap.size := by omega
    clear hb1
    go_wp2_with fail
    refine (HK1.out _ (by repeat (first | assumption | exact Below.refl _ _ | (refine Below.alloc ?_ (by first | omega | (simp; omega) | simp) _) | (refine Below.setCell ?_ (by first | omega | (simp; omega) | simp) _) | refine Below.drew ?_))).mono ?_
    rintro e w2 ⟨la, lc, rfl, hi, hb2⟩
    have HI := Lib.hid hi
    have hw2 := hw1.trans (hb2.mono hw1.size)
    clear hi
    go_wp2_with fail
    go_ret2
    unfold WorldsPost
    rw [HE.out.1, HE.out.2]
    exact ⟨⟨la, _, lc, rfl, HI.out⟩, hw2⟩

def FShop.goodOut (s : FShop) (x : List Int) : Bool := s.ok && sharesB s.moulds x
theorem Good_all (s : FShop) (ma : Option Addr) (ml mc : Nat) (wa : Option Addr) (wl wc : Nat) (na : Option Addr) (nl nc : Nat) (xa : Option Addr) (xl xc : Nat) (x : List Int) (a : Bool) (e0 : Int) (ha : s.goodOut x = a) (he : s.chk = e0) (w : World) (hp : FAt w ma ml mc wa wl wc na nl nc s) (hx : IntsAt w xa xl x) :
    Calls Try.prog 56 #[.agg #[.slice ma ml mc, .slice wa wl wc, .slice na nl nc, .int .i64 s.fresh], .slice xa xl xc] w fun e w' => e = .returned (.tuple #[.bool a, .int .i64 e0]) ∧ Below w.heap.size w w' := by
  subst ha he
  rcases ho : s.ok with - | -
  · have h1 : s.chk = 20 := by simp [FShop.chk, ho]
    have h2 : s.goodOut x = false := by simp [FShop.goodOut, ho]
    rw [h1, h2]
    exact Good_no s ma ml mc wa wl wc na nl nc xa xl xc 20 h1 (by decide) w hp
  · have h1 : s.chk = 0 := by simp [FShop.chk, ho]
    have h2 : s.goodOut x = sharesB s.moulds x := by simp [FShop.goodOut, ho]
    rw [h1, h2]
    exact Good_yes s ma ml mc wa wl wc na nl nc xa xl xc x w hp hx h1
set_option maxHeartbeats 1000000 in
theorem refGood_all (s : FShop) (ma : Option Addr) (ml mc : Nat) (wa : Option Addr) (wl wc : Nat) (na : Option Addr) (nl nc : Nat) (xa : Option Addr) (xl xc : Nat) (x : List Int) (a : Bool) (e0 : Int) (ha : s.goodOut x = a) (he : s.chk = e0) (w : World) (hp : FAt w ma ml mc wa wl wc na nl nc s) (hx : IntsAt w xa xl x) :
    Calls Try.prog 57 #[.agg #[.slice ma ml mc, .slice wa wl wc, .slice na nl nc, .int .i64 s.fresh], .slice xa xl xc] w fun e w' => e = .returned (.tuple #[.bool a, .int .i64 e0]) ∧ Below w.heap.size w w' := by
  have HV := Lib.hid (fun v (h : s.chk = v) w1 (hb : Below w.heap.size w w1) => refCheck_is s ma ml mc wa wl wc na nl nc v h w1 (hp.below hb))
  have HS := Lib.hid (fun w1 (hb : Below w.heap.size w w1) => refAreShares_any s ma ml mc wa wl wc na nl nc xa xl xc x w1 (hp.below hb) (hx.below hb))
  clear hp hx
  subst ha he
  rcases ho : s.ok with - | -
  · have HV1 := Lib.hid (HV.out 20 (by simp [FShop.chk, ho]))
    have h1 : s.chk = 20 := by simp [FShop.chk, ho]
    have h2 : s.goodOut x = false := by simp [FShop.goodOut, ho]
    rw [h1, h2]
    clear ho h1 h2
    go_enter Try.func57, Try.ntmps57
    go_wp2_with fail
    refine (HV1.out _ (by repeat (first | exact Below.refl _ _ | (refine Below.alloc ?_ (by first | omega | (simp; omega) | simp) _) | (refine Below.setCell ?_ (by first | omega | (simp; omega) | simp) _) | refine Below.drew ?_))).mono ?_
    rintro e w1 ⟨rfl, hb1⟩
    have HB := Lib.hid hb1
    clear hb1
    go_wp2_with fail
    go_ret2
    exact ⟨rfl, (by repeat (first | exact Below.refl _ _ | (refine Below.alloc ?_ (by first | omega | (simp; omega) | simp) _) | (refine Below.setCell ?_ (by first | omega | (simp; omega) | simp) _) | refine Below.drew ?_ | (refine below_via (by assumption) (by first | omega | (simp; omega) | simp) ?_)))⟩
  · have HV1 := Lib.hid (HV.out 0 (by simp [FShop.chk, ho]))
    have h1 : s.chk = 0 := by simp [FShop.chk, ho]
    have h2 : s.goodOut x = sharesB s.moulds x := by simp [FShop.goodOut, ho]
    rw [h1, h2]
    clear ho h1 h2
    generalize sharesB s.moulds x = r at *
    go_enter Try.func57, Try.ntmps57
    go_wp2_with fail
    refine (HV1.out _ (by repeat (first | exact Below.refl _ _ | (refine Below.alloc ?_ (by first | omega | (simp; omega) | simp) _) | (refine Below.setCell ?_ (by first | omega | (simp; omega) | simp) _) | refine Below.drew ?_))).mono ?_
    rintro e w1 ⟨rfl, hb1⟩
    obtain ⟨hc1, hf1⟩ := bcell hb1
    have hz1 := hb1.size
    simp at hz1
    have hw1 := ((by repeat (first | exact Below.refl _ _ | (refine Below.alloc ?_ (by first | omega | (simp; omega) | simp) _) | (refine Below.setCell ?_ (by first | omega | (simp; omega) | simp) _) | refine Below.drew ?_)) : Below w.heap.size w _).trans (hb1.mono (by first | (simp; done) | (simp; omega) | omega))
    have q1 : w.heap.size < w1.heap.size := by omega
    clear hb1
    go_wp2_with fail
    refine (HS.out _ (by repeat (first | assumption | exact Below.refl _ _ | (refine Below.alloc ?_ (by first | omega | (simp; omega) | simp) _) | (refine Below.setCell ?_ (by first | omega | (simp; omega) | simp) _) | refine Below.drew ?_))).mono ?_
    rintro e w2 ⟨rfl, hb2⟩
    have hw2 := hw1.trans (hb2.mono hw1.size)
    go_wp2_with fail
    go_ret2
    exact ⟨rfl, hw2⟩
end Go.Proofs.Ytigeiaiohdemiaa
