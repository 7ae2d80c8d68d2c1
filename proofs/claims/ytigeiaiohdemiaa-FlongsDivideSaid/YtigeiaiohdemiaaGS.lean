/- Flongs: the reference's KnownOf, inWorlds, Holds, Fails. -/
import Derived.Test.YtigeiaiohdemiaaGP
namespace Go.Proofs.Ytigeiaiohdemiaa
set_option linter.unusedVariables false
set_option linter.unusedSimpArgs false
open Go.RowKit
attribute [local go_sem] field_span

set_option maxHeartbeats 400000 in
theorem KnownOf_any (n all : Nat) (h : 0 < all) (w : World) :
    Calls Try.prog 94 #[.int .i64 (n : Nat), .int .i64 (all : Nat)] w fun e w' => e = .returned (.int .i64 (holdsR n all)) ∧ w = w' := by
  have HR := Lib.hid (show holdsR n all = if n = 0 then 2 else if n = all then 1 else 3 by unfold holdsR; split <;> split <;> first | rfl | (split <;> first | rfl | omega) | omega)
  rcases Nat.eq_zero_or_pos n with rfl | h0
  · go_enter Try.func94, Try.ntmps94
    go_wp2
    all_goals (go_ret; exact ⟨ret_i64 (by rw [HR.out]; simp), rfl⟩)
  · by_cases h1 : n = all
    · subst h1
      have h2 : ¬ (n : Int) = 0 := by omega
      go_enter Try.func94, Try.ntmps94
      go_wp2
      all_goals (go_ret; exact ⟨ret_i64 (by rw [HR.out, if_neg (by omega)]; simp), rfl⟩)
    · have h2 : ¬ (n : Int) = 0 := by omega
      have h3 : ¬ (n : Int) = (all : Int) := by omega
      go_enter Try.func94, Try.ntmps94
      go_wp2
      all_goals (go_ret; exact ⟨ret_i64 (by rw [HR.out, if_neg (by omega), if_neg h1]), rfl⟩)

theorem refWorldsOf_r (s : FShop) (ma : Option Addr) (ml mc : Nat) (wa : Option Addr) (wl wc : Nat) (na : Option Addr) (nl nc : Nat) (w : World) (hp : FAt w ma ml mc wa wl wc na nl nc s) (ho : s.ok = true) :
    Calls Try.prog 38 #[.agg #[.slice ma ml mc, .slice wa wl wc, .slice na nl nc, .int .i64 s.fresh]] w fun e w' => (∃ a c, e = .returned (.slice a s.left.length c)) ∧ Below w.heap.size w w' := by
  refine (refWorldsOf_any s ma ml mc wa wl wc na nl nc w hp ho).mono ?_
  rintro e w' ⟨a, c, rfl, -, hb⟩
  exact ⟨⟨a, c, by rw [which_left]⟩, hb⟩

set_option maxRecDepth 100000 in
set_option maxHeartbeats 4000000 in
theorem refInWorlds_is (s : FShop) (ma : Option Addr) (ml mc : Nat) (wa : Option Addr) (wl wc : Nat) (na : Option Addr) (nl nc : Nat) (xa : Option Addr) (xl xc : Nat) (x : List Int) (ho : s.ok = true) (hxm : x.length = s.moulds.length) (w : World) (hp : FAt w ma ml mc wa wl wc na nl nc s) (hx : IntsAt w xa xl x) :
    Calls Try.prog 95 #[.agg #[.slice ma ml mc, .slice wa wl wc, .slice na nl nc, .int .i64 s.fresh], .slice xa xl xc] w fun e w' => e = .returned (.int .i64 (holdN s.left x : Nat)) ∧ Below w.heap.size w w' := by
  have HWO := Lib.hid (fun W (hb : Below w.heap.size w W) => refWorldsOf_any s ma ml mc wa wl wc na nl nc W (hp.below hb) ho)
  have HHI := Lib.hid (fun i (hi : i < s.which.length) (hi2 : i < s.left.length) W (hb : Below w.heap.size w W) => HoldsIn_which s ma ml mc wa wl wc na nl nc xa xl xc x i hi hi2 ho W (hp.below hb) (hx.below hb) hxm)
  have hwl := which_left s
  have hlf := left_few ho
  have HTB := Lib.hid (fun k => holdTo_few s.left x k)
  have HTN := Lib.hid (fun k (h : k < s.left.length) => holdTo_next (L := s.left) (x := x) h)
  have HE := Lib.hid (show holdN s.left x = holdTo s.left x s.left.length by rw [holdTo, List.take_of_length_le (Nat.le_refl _)]; rfl)
  have HE0 := Lib.hid (show holdTo s.left x 0 = 0 by simp [holdTo])
  clear hp hx ho hxm
  generalize s.which = wh at *
  generalize s.left = L at *
  go_enter Try.func95, Try.ntmps95
  go_wp2_with fail
  obtain ⟨W0, hW0, hB0, hs0, hz0⟩ := name1k w #[.slice ma ml mc, .slice wa wl wc, .slice na nl nc, .int .i64 s.fresh] 26
  rw [hW0]
  clear hW0
  have HB0 := Lib.hid hB0
  have HS0 := Lib.hid hs0
  clear hB0 hs0
  refine (HWO.out _ HB0.out).mono ?_
  rintro e w1 ⟨la, lc, rfl, hli, hb1⟩
  have HB1 := Lib.hid hb1
  obtain ⟨hll, hlm, hlc⟩ := hli
  have HLC := Lib.hid hlc
  have hz1 : w.heap.size < w1.heap.size := Nat.lt_of_lt_of_le hz0 hb1.size
  clear hb1 hll hlc hlm
  have hwh6 : wh.length ≤ 6 := by omega
  go_wp2_with fail
  go_loopw [6, 7] (fun n i wr => ∃ k : Nat, k ≤ wh.length ∧ i = .int .i64 k ∧ n = .int .i64 (holdTo L x k : Nat) ∧ Below w1.heap.size w1 wr) (fun _ i _ => wh.length - (intOf i).toNat)
  case atStart => exact ⟨0, by omega, rfl, by rw [HE0.out]; rfl, Below.refl _ _⟩
  case round =>
    obtain ⟨k, hk, rfl, rfl, hB⟩ := hrel
    obtain ⟨W1, rfl⟩ : ∃ W1 : World, W1 = wr := ⟨_, rfl⟩
    have HB := Lib.hid hB
    have hB01 := HB1.out.trans (hB.mono HB1.out.size)
    obtain ⟨x0, x1, x2, x3⟩ : W1.cell? ⟨w.heap.size, 0, none⟩ = some (.slice ma ml mc) ∧ W1.cell? ⟨w.heap.size, 1, none⟩ = some (.slice wa wl wc) ∧ W1.cell? ⟨w.heap.size, 2, none⟩ = some (.slice na nl nc) ∧ W1.cell? ⟨w.heap.size, 3, none⟩ = some (.int .i64 s.fresh) := ⟨(hB01.cell (p := ⟨w.heap.size, 0, none⟩) hz0).trans (HS0.out 0), (hB01.cell (p := ⟨w.heap.size, 1, none⟩) hz0).trans (HS0.out 1), (hB01.cell (p := ⟨w.heap.size, 2, none⟩) hz0).trans (HS0.out 2), (hB01.cell (p := ⟨w.heap.size, 3, none⟩) hz0).trans (HS0.out 3)⟩
    have hbw := HB0.out.trans (hB01.mono HB0.out.size)
    have htb := HTB.out k
    by_cases hlt : k < wh.length
    · have hkL : k < L.length := by omega
      obtain ⟨lb, lo, rfl, hlb, hlcell⟩ := HLC.out (by omega)
      have c0 := (hB.cell (p := ⟨lb, lo + k, none⟩) hlb).trans (hlcell k hlt)
      have hlbW : lb < W1.heap.size := Nat.lt_of_lt_of_le hlb hB.size
      have hwW : w.heap.size < W1.heap.size := Nat.lt_of_lt_of_le hz1 hB.size
      have HLX := Lib.hid (fun W (h : Below W1.heap.size W1 W ∧ ∀ b o, b < W1.heap.size → W.cell? ⟨b, o, none⟩ = W1.cell? ⟨b, o, none⟩) => bothS1 (W0 := W1) (HHI.out k hlt hkL W (hbw.trans (h.1.mono hbw.size))) h)
      have HN := Lib.hid (HTN.out k hkL)
      have hkl : (k : Int) < (wh.length : Int) := by omega
      have hk0 : (0 : Int) ≤ (k : Int) := by omega
      clear hB hB01 hbw hlcell
      obtain ⟨r, hr⟩ : ∃ r, holdB L[k] x = r := ⟨_, rfl⟩
      rw [hr] at HLX HN
      obtain ⟨ik, hik⟩ : ∃ ik, wh[k] = ik := ⟨_, rfl⟩
      rw [hik] at HLX c0
      clear hr hik
      generalize hhk : holdTo L x k = hk' at *
      go_upto_region 6 with fail
      go_cut [22] (fun v wx => v = .bool r ∧ Below W1.heap.size W1 wx)
      case first =>
        go_region_held3 (fun w' => Below W1.heap.size W1 w' ∧ ∀ b o, b < W1.heap.size → w'.cell? ⟨b, o, none⟩ = W1.cell? ⟨b, o, none⟩) (first | with_reducible assumption | ((repeat (first | with_reducible refine bothS_drew ?_ | with_reducible refine bothS_alloc _ ?_ | with_reducible refine bothS_set _ _ (by first | omega | (simp; omega) | simp) ?_)); first | with_reducible assumption | with_reducible exact Hid.out (by assumption) | with_reducible exact ⟨Below.refl _ _, fun _ _ _ => rfl⟩)) (first | (go_at_call 26; with_reducible refine (HLX.out _ ?_).mono ?_; (first | with_reducible assumption | ((repeat (first | with_reducible refine bothS_drew ?_ | with_reducible refine bothS_alloc _ ?_ | with_reducible refine bothS_set _ _ (by first | omega | (simp; omega) | simp) ?_)); first | with_reducible assumption | with_reducible exact Hid.out (by assumption) | with_reducible exact ⟨Below.refl _ _, fun _ _ _ => rfl⟩)); rintro e w' ⟨rfl, k, k1, k2, k3⟩; have HK := Lib.hid k; (try simp at k3); (try have k6 := Nat.lt_of_succ_le k3); (try have k7 := Nat.lt_of_succ_lt k6); (try have k8 := Nat.lt_of_succ_lt k3)) | fail "no arm")
        all_goals (go_wp2_with fail; go_meet; exact ⟨rfl, And.left (by assumption)⟩)
      case rest =>
      obtain ⟨rfl, hB5⟩ := hcut
      have HB5 := Lib.hid (HB.out.trans (hB5.mono HB.out.size))
      clear hB5 c0 HLX
      clear x0 x1 x2 x3
      cases r
      · go_wp2_with fail
        go_roundw
        case rel => exact ⟨k + 1, by omega, by go_num, by rw [HN.out]; simp, HB5.out⟩
        case measure => simp [intOf]; omega
      · go_wp2_with fail
        go_roundw
        case rel => exact ⟨k + 1, by omega, by go_num, by rw [HN.out]; simp, HB5.out⟩
        case measure => simp [intOf]; omega
    · obtain rfl : wh.length = k := by omega
      have HBW := Lib.hid hbw
      clear hB hB01 hbw
      go_wp2_with fail
      go_ret
      exact ⟨ret_i64 (by rw [HE.out, hwl]), HBW.out⟩

set_option maxRecDepth 100000 in
set_option maxHeartbeats 4000000 in
theorem refHolds_yes (s : FShop) (ma : Option Addr) (ml mc : Nat) (wa : Option Addr) (wl wc : Nat) (na : Option Addr) (nl nc : Nat) (xa : Option Addr) (xl xc : Nat) (x : List Int) (w : World) (hp : FAt w ma ml mc wa wl wc na nl nc s) (hx : IntsAt w xa xl x) (ho : s.ok = true) (hsh : sharesB s.moulds x = true) (hl0 : 0 < s.left.length) :
    Calls Try.prog 63 #[.agg #[.slice ma ml mc, .slice wa wl wc, .slice na nl nc, .int .i64 s.fresh], .slice xa xl xc] w fun e w' => e = .returned (.tuple #[.int .i64 (holdsR (holdN s.left x) s.left.length), .int .i64 0]) ∧ Below w.heap.size w w' := by
  have hv : s.ask (sharesB s.moulds x) = 0 := by unfold FShop.ask; rw [ho, if_pos rfl, hsh, if_pos rfl, if_neg (by omega)]
  have HG := Lib.hid (fun W (hb : Below w.heap.size w W) => refGiven_is s ma ml mc wa wl wc na nl nc xa xl xc x 0 hv W (hp.below hb) (hx.below hb))
  have HI := Lib.hid (fun W (hb : Below w.heap.size w W) => refInWorlds_is s ma ml mc wa wl wc na nl nc xa xl xc x ho (shares_bd hsh).1 W (hp.below hb) (hx.below hb))
  have HWO := Lib.hid (fun W (hb : Below w.heap.size w W) => refWorldsOf_r s ma ml mc wa wl wc na nl nc W (hp.below hb) ho)
  have HKO := Lib.hid (fun W => show Calls Try.prog 94 #[.int .i64 (holdN s.left x : Nat), .int .i64 (s.left.length : Nat)] W fun e w' => e = .returned (.int .i64 (holdsR (holdN s.left x) s.left.length)) ∧ Below W.heap.size W w' from (KnownOf_any _ _ hl0 W).mono fun e w' ⟨he, hw⟩ => ⟨he, hw ▸ Below.refl _ _⟩)
  clear hp hx ho hsh hv
  generalize holdsR (holdN s.left x) s.left.length = hr at *
  generalize holdN s.left x = hn at *
  generalize s.left.length = all at *
  go_enter Try.func63, Try.ntmps63
  go_wp2_with fail
  refine (HG.out _ (by repeat (first | exact Below.refl _ _ | (refine Below.alloc ?_ (by first | omega | (simp; omega) | simp) _) | (refine Below.setCell ?_ (by first | omega | (simp; omega) | simp) _) | refine Below.drew ?_))).mono ?_
  rintro e w1 ⟨rfl, hb1⟩
  have hx0 := fun i => (hb1.cell (p := ⟨w.heap.size, i, none⟩) (by simp)).trans (World.cell?_alloc_new w #[.slice ma ml mc, .slice wa wl wc, .slice na nl nc, .int .i64 s.fresh] 26 i)
  obtain ⟨x0, x1, x2, x3⟩ : w1.cell? ⟨w.heap.size, 0, none⟩ = some (.slice ma ml mc) ∧ w1.cell? ⟨w.heap.size, 1, none⟩ = some (.slice wa wl wc) ∧ w1.cell? ⟨w.heap.size, 2, none⟩ = some (.slice na nl nc) ∧ w1.cell? ⟨w.heap.size, 3, none⟩ = some (.int .i64 s.fresh) := ⟨hx0 0, hx0 1, hx0 2, hx0 3⟩
  have hz := hb1.size
  simp at hz
  have q1 : w.heap.size < w1.heap.size := by omega
  have hw1 := ((by repeat (first | exact Below.refl _ _ | (refine Below.alloc ?_ (by first | omega | (simp; omega) | simp) _) | (refine Below.setCell ?_ (by first | omega | (simp; omega) | simp) _) | refine Below.drew ?_)) : Below w.heap.size w _).trans (hb1.mono (by first | (simp; done) | (simp; omega) | omega))
  have HIX := Lib.hid (fun W (h : Below w1.heap.size w1 W ∧ ∀ b o, b < w1.heap.size → W.cell? ⟨b, o, none⟩ = w1.cell? ⟨b, o, none⟩) => bothS1 (W0 := w1) (HI.out W (hw1.trans (h.1.mono hw1.size))) h)
  have HWX := Lib.hid (fun W (h : Below w1.heap.size w1 W ∧ ∀ b o, b < w1.heap.size → W.cell? ⟨b, o, none⟩ = w1.cell? ⟨b, o, none⟩) => bothM2 (W0 := w1) (HWO.out W (hw1.trans (h.1.mono hw1.size))) h)
  have HKX := Lib.hid (fun W (h : Below w1.heap.size w1 W ∧ ∀ b o, b < w1.heap.size → W.cell? ⟨b, o, none⟩ = w1.cell? ⟨b, o, none⟩) => bothS1 (W0 := w1) (HKO.out W) h)
  have HW1 := Lib.hid hw1
  clear hb1 hx0 hz hw1
  go_upto_region 4 with fail
  go_cut [4, 5] (fun v4 v5 wx => v4 = .int .i64 hr ∧ v5 = .int .i64 0 ∧ Below w1.heap.size w1 wx)
  case first =>
    go_region_held3 (fun w' => Below w1.heap.size w1 w' ∧ ∀ b o, b < w1.heap.size → w'.cell? ⟨b, o, none⟩ = w1.cell? ⟨b, o, none⟩) (first | with_reducible assumption | ((repeat (first | with_reducible refine bothS_drew ?_ | with_reducible refine bothS_alloc _ ?_ | with_reducible refine bothS_set _ _ (by first | omega | (simp; omega) | simp) ?_)); first | with_reducible assumption | with_reducible exact Hid.out (by assumption) | with_reducible exact ⟨Below.refl _ _, fun _ _ _ => rfl⟩)) (first
      | (go_at_call 95; with_reducible refine (HIX.out _ ?_).mono ?_; (first | with_reducible assumption | ((repeat (first | with_reducible refine bothS_drew ?_ | with_reducible refine bothS_alloc _ ?_ | with_reducible refine bothS_set _ _ (by first | omega | (simp; omega) | simp) ?_)); first | with_reducible assumption | with_reducible exact Hid.out (by assumption) | with_reducible exact ⟨Below.refl _ _, fun _ _ _ => rfl⟩)); rintro e w' ⟨rfl, k, k1, k2, k3⟩; have HK := Lib.hid k; (try simp at k3); (try have k6 := Nat.lt_of_succ_le k3); (try have k7 := Nat.lt_of_succ_lt k6); (try have k8 := Nat.lt_of_succ_lt k3))
      | (go_at_call 38; (with_reducible refine (HWX.out _ ?_).mono ?_); (· (first | with_reducible assumption | ((repeat (first | with_reducible refine bothS_drew ?_ | with_reducible refine bothS_alloc _ ?_ | with_reducible refine bothS_set _ _ (by first | omega | (simp; omega) | simp) ?_)); first | with_reducible assumption | with_reducible exact Hid.out (by assumption) | with_reducible exact ⟨Below.refl _ _, fun _ _ _ => rfl⟩))); rintro e w' ⟨⟨la, lc, rfl⟩, k1, k2, k3, k4⟩)
      | (go_at_call 94; with_reducible refine (HKX.out _ ?_).mono ?_; (first | with_reducible assumption | ((repeat (first | with_reducible refine bothS_drew ?_ | with_reducible refine bothS_alloc _ ?_ | with_reducible refine bothS_set _ _ (by first | omega | (simp; omega) | simp) ?_)); first | with_reducible assumption | with_reducible exact Hid.out (by assumption) | with_reducible exact ⟨Below.refl _ _, fun _ _ _ => rfl⟩)); rintro e w' ⟨rfl, k, k1, k2, k3⟩; have HK := Lib.hid k; (try simp at k3); (try have k6 := Nat.lt_of_succ_le k3); (try have k7 := Nat.lt_of_succ_lt k6); (try have k8 := Nat.lt_of_succ_lt k3))
      | fail "no arm")
    all_goals (go_wp2_with fail; go_meet; exact ⟨rfl, rfl, And.left (by assumption)⟩)
  case rest =>
  obtain ⟨rfl, rfl, hB1⟩ := hcut
  go_wp2_with fail
  go_ret2
  exact ⟨rfl, HW1.out.trans (hB1.mono HW1.out.size)⟩

set_option maxRecDepth 100000 in
set_option maxHeartbeats 1000000 in
theorem refHolds_no (s : FShop) (ma : Option Addr) (ml mc : Nat) (wa : Option Addr) (wl wc : Nat) (na : Option Addr) (nl nc : Nat) (xa : Option Addr) (xl xc : Nat) (x : List Int) (v : Int) (hv : s.ask (sharesB s.moulds x) = v) (h0 : v ≠ 0) (w : World) (hp : FAt w ma ml mc wa wl wc na nl nc s) (hx : IntsAt w xa xl x) :
    Calls Try.prog 63 #[.agg #[.slice ma ml mc, .slice wa wl wc, .slice na nl nc, .int .i64 s.fresh], .slice xa xl xc] w fun e w' => e = .returned (.tuple #[.int .i64 0, .int .i64 v]) ∧ Below w.heap.size w w' := by
  have HC := Lib.hid (fun w1 (hb : Below w.heap.size w w1) => refGiven_is s ma ml mc wa wl wc na nl nc xa xl xc x v hv w1 (hp.below hb) (hx.below hb))
  have e2 : (v != 0) = true := by simpa using h0
  clear hp hv hx
  go_enter Try.func63, Try.ntmps63
  go_wp2_with fail
  refine (HC.out _ (by repeat (first | exact Below.refl _ _ | (refine Below.alloc ?_ (by first | omega | (simp; omega) | simp) _) | (refine Below.setCell ?_ (by first | omega | (simp; omega) | simp) _) | refine Below.drew ?_))).mono ?_
  rintro e w1 ⟨rfl, hb1⟩
  have hw1 := ((by repeat (first | exact Below.refl _ _ | (refine Below.alloc ?_ (by first | omega | (simp; omega) | simp) _) | (refine Below.setCell ?_ (by first | omega | (simp; omega) | simp) _) | refine Below.drew ?_)) : Below w.heap.size w _).trans (hb1.mono (by first | (simp; done) | (simp; omega) | omega))
  clear hb1
  go_wp2_with fail
  go_ret2
  exact ⟨rfl, hw1⟩
set_option maxRecDepth 100000 in
set_option maxHeartbeats 1000000 in
theorem refFails_no (s : FShop) (ma : Option Addr) (ml mc : Nat) (wa : Option Addr) (wl wc : Nat) (na : Option Addr) (nl nc : Nat) (xa : Option Addr) (xl xc : Nat) (x : List Int) (v : Int) (hv : s.ask (sharesB s.moulds x) = v) (h0 : v ≠ 0) (w : World) (hp : FAt w ma ml mc wa wl wc na nl nc s) (hx : IntsAt w xa xl x) :
    Calls Try.prog 65 #[.agg #[.slice ma ml mc, .slice wa wl wc, .slice na nl nc, .int .i64 s.fresh], .slice xa xl xc] w fun e w' => e = .returned (.tuple #[.slice none 0 0, .int .i64 v]) ∧ Below w.heap.size w w' := by
  have HC := Lib.hid (fun w1 (hb : Below w.heap.size w w1) => refGiven_is s ma ml mc wa wl wc na nl nc xa xl xc x v hv w1 (hp.below hb) (hx.below hb))
  have e2 : (v != 0) = true := by simpa using h0
  clear hp hv hx
  go_enter Try.func65, Try.ntmps65
  go_wp2_with fail
  refine (HC.out _ (by repeat (first | exact Below.refl _ _ | (refine Below.alloc ?_ (by first | omega | (simp; omega) | simp) _) | (refine Below.setCell ?_ (by first | omega | (simp; omega) | simp) _) | refine Below.drew ?_))).mono ?_
  rintro e w1 ⟨rfl, hb1⟩
  have hw1 := ((by repeat (first | exact Below.refl _ _ | (refine Below.alloc ?_ (by first | omega | (simp; omega) | simp) _) | (refine Below.setCell ?_ (by first | omega | (simp; omega) | simp) _) | refine Below.drew ?_)) : Below w.heap.size w _).trans (hb1.mono (by first | (simp; done) | (simp; omega) | omega))
  clear hb1
  go_wp2_with fail
  go_ret2
  exact ⟨rfl, hw1⟩
set_option maxRecDepth 100000 in
set_option maxHeartbeats 1000000 in
theorem refChance_no (s : FShop) (ma : Option Addr) (ml mc : Nat) (wa : Option Addr) (wl wc : Nat) (na : Option Addr) (nl nc : Nat) (xa : Option Addr) (xl xc : Nat) (x : List Int) (v : Int) (hv : s.ask (sharesB s.moulds x) = v) (h0 : v ≠ 0) (w : World) (hp : FAt w ma ml mc wa wl wc na nl nc s) (hx : IntsAt w xa xl x) :
    Calls Try.prog 64 #[.agg #[.slice ma ml mc, .slice wa wl wc, .slice na nl nc, .int .i64 s.fresh], .slice xa xl xc] w fun e w' => e = .returned (.tuple #[.agg #[.int .i64 0, .int .i64 0], .int .i64 v]) ∧ Below w.heap.size w w' := by
  have HC := Lib.hid (fun w1 (hb : Below w.heap.size w w1) => refGiven_is s ma ml mc wa wl wc na nl nc xa xl xc x v hv w1 (hp.below hb) (hx.below hb))
  have e2 : (v != 0) = true := by simpa using h0
  clear hp hv hx
  go_enter Try.func64, Try.ntmps64
  go_wp2_with fail
  obtain ⟨W0, hW0, hB0, hs0, hr0, -, hrf, hz0⟩ := name2e w #[.slice ma ml mc, .slice wa wl wc, .slice na nl nc, .int .i64 s.fresh] 26 #[.int .i64 0, .int .i64 0] 62
  rw [hW0]
  clear hW0
  obtain ⟨x0, x1, x2, x3⟩ : W0.cell? ⟨w.heap.size, 0, none⟩ = some (.slice ma ml mc) ∧ W0.cell? ⟨w.heap.size, 1, none⟩ = some (.slice wa wl wc) ∧ W0.cell? ⟨w.heap.size, 2, none⟩ = some (.slice na nl nc) ∧ W0.cell? ⟨w.heap.size, 3, none⟩ = some (.int .i64 s.fresh) := ⟨hs0 0, hs0 1, hs0 2, hs0 3⟩
  have z1 : w.heap.size + 1 < W0.heap.size := by omega
  refine (HC.out _ hB0).mono ?_
  rintro e w1 ⟨rfl, hb1⟩
  have r0 := (hb1.cell (p := ⟨w.heap.size + 1, 0, none⟩) z1).trans (hr0 0)
  have r1 := (hb1.cell (p := ⟨w.heap.size + 1, 1, none⟩) z1).trans (hr0 1)
  have r2 := (hb1.frozen (p := ⟨w.heap.size + 1, 0, none⟩) z1).trans (hrf 0)
  have r3 := (hb1.frozen (p := ⟨w.heap.size + 1, 1, none⟩) z1).trans (hrf 1)
  have HBW := Lib.hid (hB0.trans (hb1.mono hB0.size))
  clear hb1 hB0 hs0 hr0 hrf hz0
  clear x0 x1 x2 x3
  go_wp2_with fail
  refine bodyPost_ret (v := .tuple #[.agg #[.int .i64 0, .int .i64 0], .int .i64 v]) (by simp [results, Try.results64, go_sem, *]) rfl ⟨rfl, ?_⟩
  have hBB := HBW.out
  exact (by repeat (first | assumption | exact Below.refl _ _ | (refine Below.alloc ?_ (by first | omega | (simp; omega) | simp) _) | (refine Below.setCell ?_ (by first | omega | (simp; omega) | simp) _) | refine Below.drew ?_))
end Go.Proofs.Ytigeiaiohdemiaa
