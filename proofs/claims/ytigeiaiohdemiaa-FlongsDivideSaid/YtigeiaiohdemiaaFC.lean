/- Package flongs: Check of the reference. -/
import Derived.Test.YtigeiaiohdemiaaFB
import Derived.Lib.SmallJoins
namespace Go.Proofs.Ytigeiaiohdemiaa
set_option linter.unusedVariables false
set_option linter.unusedSimpArgs false
open Go.RowKit

theorem ret_i64 {a b : Int} (h : a = b) : Ending.returned (.int .i64 a) = .returned (.int .i64 b) := by rw [h]
set_option maxHeartbeats 400000 in
theorem Within_any (n lo hi : Int) (w : World) :
    Calls Try.prog 27 #[.int .i64 n, .int .i64 lo, .int .i64 hi] w fun e w' => e = .returned (.bool (btw n lo hi)) ∧ w = w' := by
  go_enter Try.func27, Try.ntmps27
  go_wp2
  all_goals (go_ret; refine ⟨ret_bool ?_, rfl⟩; rw [Bool.eq_iff_iff]; simp [btw]; omega)
theorem within_is (n lo hi : Int) (b : Bool) (h : btw n lo hi = b) (w : World) :
    Calls Try.prog 69 #[.int .i64 n, .int .i64 lo, .int .i64 hi] w fun e w' => e = .returned (.bool b) ∧ w = w' := by
  subst h
  have HW := Lib.hid (fun w1 => Within_any n lo hi w1)
  go_enter Try.func69, Try.ntmps69
  go_wp2_with fail
  refine (HW.out _).mono ?_
  rintro e w1 ⟨rfl, rfl⟩
  go_wp2_with fail
  go_ret
  exact ⟨rfl, rfl⟩
theorem IsPage_is (s : FShop) (ma : Option Addr) (ml mc : Nat) (wa : Option Addr) (wl wc : Nat) (na : Option Addr) (nl nc : Nat) (n : Int) (w : World) (hl : nl ≤ maxLen) (b : Bool) (h : btw n 0 (nl - 1) = b) :
    Calls Try.prog 42 #[.agg #[.slice ma ml mc, .slice wa wl wc, .slice na nl nc, .int .i64 s.fresh], .int .i64 n] w fun e w' => e = .returned (.bool b) ∧ Below w.heap.size w w' := by
  unfold maxLen at hl
  have HB := Lib.hid (fun w1 => within_is n 0 ((nl : Int) - 1) b h w1)
  clear h
  go_enter Try.func42, Try.ntmps42
  go_wp2_with fail
  refine (HB.out _).mono ?_
  rintro e w1 ⟨rfl, rfl⟩
  go_wp2_with fail
  go_ret
  exact ⟨rfl, (by repeat (first | exact Below.refl _ _ | (refine Below.alloc ?_ (by first | omega | (simp; omega) | simp) _) | (refine Below.setCell ?_ (by first | omega | (simp; omega) | simp) _) | refine Below.drew ?_))⟩
theorem IsMould_is (s : FShop) (ma : Option Addr) (ml mc : Nat) (wa : Option Addr) (wl wc : Nat) (na : Option Addr) (nl nc : Nat) (n : Int) (w : World) (hl : ml ≤ maxLen) (b : Bool) (h : btw n 0 (ml - 1) = b) :
    Calls Try.prog 29 #[.agg #[.slice ma ml mc, .slice wa wl wc, .slice na nl nc, .int .i64 s.fresh], .int .i64 n] w fun e w' => e = .returned (.bool b) ∧ Below w.heap.size w w' := by
  unfold maxLen at hl
  have HB := Lib.hid (fun w1 => within_is n 0 ((ml : Int) - 1) b h w1)
  clear h
  go_enter Try.func29, Try.ntmps29
  go_wp2_with fail
  refine (HB.out _).mono ?_
  rintro e w1 ⟨rfl, rfl⟩
  go_wp2_with fail
  go_ret
  exact ⟨rfl, (by repeat (first | exact Below.refl _ _ | (refine Below.alloc ?_ (by first | omega | (simp; omega) | simp) _) | (refine Below.setCell ?_ (by first | omega | (simp; omega) | simp) _) | refine Below.drew ?_))⟩
theorem IsWorld_is (s : FShop) (ma : Option Addr) (ml mc : Nat) (wa : Option Addr) (wl wc : Nat) (na : Option Addr) (nl nc : Nat) (n : Int) (w : World) (hl : wl ≤ maxLen) (b : Bool) (h : btw n 0 (wl - 1) = b) :
    Calls Try.prog 16 #[.agg #[.slice ma ml mc, .slice wa wl wc, .slice na nl nc, .int .i64 s.fresh], .int .i64 n] w fun e w' => e = .returned (.bool b) ∧ Below w.heap.size w w' := by
  unfold maxLen at hl
  have HB := Lib.hid (fun w1 => within_is n 0 ((wl : Int) - 1) b h w1)
  clear h
  go_enter Try.func16, Try.ntmps16
  go_wp2_with fail
  refine (HB.out _).mono ?_
  rintro e w1 ⟨rfl, rfl⟩
  go_wp2_with fail
  go_ret
  exact ⟨rfl, (by repeat (first | exact Below.refl _ _ | (refine Below.alloc ?_ (by first | omega | (simp; omega) | simp) _) | (refine Below.setCell ?_ (by first | omega | (simp; omega) | simp) _) | refine Below.drew ?_))⟩

set_option maxRecDepth 100000 in
set_option maxHeartbeats 1000000 in
theorem refCheck_many (s : FShop) (ma : Option Addr) (ml mc : Nat) (wa : Option Addr) (wl wc : Nat) (na : Option Addr) (nl nc : Nat) (w : World) (hp : FAt w ma ml mc wa wl wc na nl nc s) (hf : s.few = false) :
    Calls Try.prog 52 #[.agg #[.slice ma ml mc, .slice wa wl wc, .slice na nl nc, .int .i64 s.fresh]] w fun e w' => e = .returned (.int .i64 s.chk) ∧ Below w.heap.size w w' := by
  have HS := Lib.hid (show s.chk = 20 by simp [FShop.chk, FShop.ok, hf])
  obtain ⟨⟨h1, -⟩, ⟨h2, -⟩, ⟨h3, -⟩⟩ := hp
  rcases Nat.lt_or_ge 3 nl with k1 | k1
  · have j1 : (3 : Int) < (nl : Int) := by omega
    clear h1 h2 h3 hf
    go_enter Try.func52, Try.ntmps52
    go_wp2_with fail
    go_ret
    exact ⟨ret_i64 HS.out.symm, (by repeat (first | exact Below.refl _ _ | (refine Below.alloc ?_ (by first | omega | (simp; omega) | simp) _) | (refine Below.setCell ?_ (by first | omega | (simp; omega) | simp) _) | refine Below.drew ?_))⟩
  rcases Nat.lt_or_ge 5 ml with k2 | k2
  · have j1 : ¬ (3 : Int) < (nl : Int) := by omega
    have j2 : (5 : Int) < (ml : Int) := by omega
    clear h1 h2 h3 hf
    go_enter Try.func52, Try.ntmps52
    go_wp2_with fail
    go_ret
    exact ⟨ret_i64 HS.out.symm, (by repeat (first | exact Below.refl _ _ | (refine Below.alloc ?_ (by first | omega | (simp; omega) | simp) _) | (refine Below.setCell ?_ (by first | omega | (simp; omega) | simp) _) | refine Below.drew ?_))⟩
  rcases Nat.lt_or_ge 6 wl with k3 | k3
  · have j1 : ¬ (3 : Int) < (nl : Int) := by omega
    have j2 : ¬ (5 : Int) < (ml : Int) := by omega
    have j3 : (6 : Int) < (wl : Int) := by omega
    clear h1 h2 h3 hf
    go_enter Try.func52, Try.ntmps52
    go_wp2_with fail
    go_ret
    exact ⟨ret_i64 HS.out.symm, (by repeat (first | exact Below.refl _ _ | (refine Below.alloc ?_ (by first | omega | (simp; omega) | simp) _) | (refine Below.setCell ?_ (by first | omega | (simp; omega) | simp) _) | refine Below.drew ?_))⟩
  · exfalso
    rw [FShop.few, h1, h2, h3] at hf
    simp at hf
    omega

set_option maxRecDepth 100000 in
set_option maxHeartbeats 4000000 in
theorem refCheck_few (s : FShop) (ma : Option Addr) (ml mc : Nat) (wa : Option Addr) (wl wc : Nat) (na : Option Addr) (nl nc : Nat) (w : World) (hp : FAt w ma ml mc wa wl wc na nl nc s) (hf : s.few = true) :
    Calls Try.prog 52 #[.agg #[.slice ma ml mc, .slice wa wl wc, .slice na nl nc, .int .i64 s.fresh]] w fun e w' => e = .returned (.int .i64 s.chk) ∧ Below w.heap.size w w' := by
  obtain ⟨⟨hml, hmm, hmc⟩, ⟨hwl, hwm, hwc⟩, ⟨hnl, hnm, hnc⟩⟩ := hp
  have hfew := hf
  rw [FShop.few, hml, hwl, hnl] at hfew
  simp only [Bool.and_eq_true, decide_eq_true_eq] at hfew
  obtain ⟨⟨b1, b2⟩, b3⟩ := hfew
  have j1 : ¬ (3 : Int) < (nl : Int) := by omega
  have j2 : ¬ (5 : Int) < (ml : Int) := by omega
  have j3 : ¬ (6 : Int) < (wl : Int) := by omega
  have HO := Lib.hid (show s.ok = (s.wants.all (fun v => btw v 0 12) && s.moulds.all (mouldB nl) && s.worlds.all (worldB ml) && btw s.fresh 1 12) by rw [FShop.ok, hf, hnl, hml]; simp)
  have HPG := Lib.hid (fun n b (h : btw n 0 ((nl : Int) - 1) = b) w1 => IsPage_is s ma ml mc wa wl wc na nl nc n w1 hnm b h)
  have HML := Lib.hid hml
  have HWL := Lib.hid hwl
  have HNL := Lib.hid hnl
  have HMC := Lib.hid hmc
  have HWC := Lib.hid hwc
  have HNC := Lib.hid hnc
  clear hml hwl hnl hmc hwc hnc hmm hwm hnm hf
  rcases hfr : btw s.fresh 1 12 with - | -
  · have HR := Lib.hid (show s.chk = 20 by rw [FShop.chk, HO.out, hfr]; simp)
    have HBT := Lib.hid (within_is _ _ _ _ hfr)
    go_enter Try.func52, Try.ntmps52
    go_wp2_with fail
    refine (HBT.out _).mono ?_
    rintro e w1 ⟨rfl, rfl⟩
    go_wp2_with fail
    go_ret
    exact ⟨ret_i64 HR.out.symm, (by repeat (first | exact Below.refl _ _ | (refine Below.alloc ?_ (by first | omega | (simp; omega) | simp) _) | (refine Below.setCell ?_ (by first | omega | (simp; omega) | simp) _) | refine Below.drew ?_))⟩
  have HBF := Lib.hid (within_is _ _ _ _ hfr)
  replace HO := Lib.hid (show s.chk = if (s.wants.all (fun v => btw v 0 12) && s.moulds.all (mouldB nl) && s.worlds.all (worldB ml)) then 0 else 20 by rw [FShop.chk, HO.out, hfr]; simp)
  clear hfr
  go_enter Try.func52, Try.ntmps52
  go_wp2_with fail
  refine (HBF.out _).mono ?_
  rintro e w1 ⟨rfl, rfl⟩
  go_wp2_with fail
  obtain ⟨W0, hW0, hB0, hs0, hz0⟩ := name1k w #[.slice ma ml mc, .slice wa wl wc, .slice na nl nc, .int .i64 s.fresh] 26
  rw [hW0]
  clear hW0
  have HB0 := Lib.hid hB0
  have HS0 := Lib.hid hs0
  clear hB0 hs0
  go_loopw [3] (fun i wr => ∃ k : Nat, k ≤ nl ∧ i = .int .i64 k ∧ ((s.wants.take k).all fun v => btw v 0 12) = true ∧ Below W0.heap.size W0 wr) (fun i _ => nl - (intOf i).toNat)
  case atStart => exact ⟨0, by omega, rfl, by simp, Below.refl _ _⟩
  case round =>
    obtain ⟨k, hk, rfl, hall, hB⟩ := hrel
    have HALL := Lib.hid hall
    clear hall
    have HB := Lib.hid hB
    have hbx := fun i => (hB.cell (p := ⟨w.heap.size, i, none⟩) hz0).trans (HS0.out i)
    obtain ⟨x0, x1, x2, x3⟩ : wr.cell? ⟨w.heap.size, 0, none⟩ = some (.slice ma ml mc) ∧ wr.cell? ⟨w.heap.size, 1, none⟩ = some (.slice wa wl wc) ∧ wr.cell? ⟨w.heap.size, 2, none⟩ = some (.slice na nl nc) ∧ wr.cell? ⟨w.heap.size, 3, none⟩ = some (.int .i64 s.fresh) := ⟨hbx 0, hbx 1, hbx 2, hbx 3⟩
    clear hbx
    by_cases hlt : k < nl
    · have hk2 : k < s.wants.length := by rw [HNL.out]; exact hlt
      obtain ⟨b, o, rfl, hbB, hcell⟩ := HNC.out (by omega)
      have hcx := (hB.cell (p := ⟨b, o + k, none⟩) (show b < W0.heap.size by omega)).trans ((HB0.out.cell (p := ⟨b, o + k, none⟩) hbB).trans (hcell k hk2))
      have hkl : (k : Int) < (nl : Int) := by omega
      have hk0 : (0 : Int) ≤ (k : Int) := by omega
      have HN := Lib.hid (all_next HALL.out hk2)
      have HX := Lib.hid (fun h => all_no (f := fun v => btw v 0 12) hk2 h)
      clear hB hcell
      rcases hb : btw s.wants[k] 0 12 with - | -
      · have HR := Lib.hid (show s.chk = 20 by rw [HO.out, HX.out hb]; simp)
        have HBT := Lib.hid (within_is _ _ _ _ hb)
        clear hb HX HN
        generalize s.wants[k] = n at *
        go_wp2_with fail
        refine (HBT.out _).mono ?_
        rintro e w1 ⟨rfl, rfl⟩
        go_wp2_with fail
        go_ret
        exact ⟨ret_i64 HR.out.symm, HB0.out.trans (HB.out.mono HB0.out.size)⟩
      · rw [hb] at HN
        have HBT := Lib.hid (within_is _ _ _ _ hb)
        clear hb HX
        generalize s.wants[k] = n at *
        go_wp2_with fail
        refine (HBT.out _).mono ?_
        rintro e w1 ⟨rfl, rfl⟩
        go_wp2_with fail
        go_roundw
        case rel => exact ⟨k + 1, by omega, by go_num, HN.out, HB.out⟩
        case measure => simp [intOf]; omega
    · obtain rfl : nl = k := by omega
      have H1 := Lib.hid (all_done HALL.out HNL.out)
      have hB' := HB.out
      clear hB HALL HB
      go_wp2_with fail
      clear x0 x1 x2 x3 hlt hk
      go_loopw [4] (fun i wr => ∃ k : Nat, k ≤ ml ∧ i = .int .i64 k ∧ (s.moulds.take k).all (mouldB nl) = true ∧ Below W0.heap.size W0 wr) (fun i _ => ml - (intOf i).toNat)
      case atStart => exact ⟨0, by omega, rfl, by simp, hB'⟩
      case round =>
        clear hB'
        obtain ⟨k, hk, rfl, hall, hB⟩ := hrel
        have HALL := Lib.hid hall
        clear hall
        have HB := Lib.hid hB
        have hbx := fun i => (hB.cell (p := ⟨w.heap.size, i, none⟩) hz0).trans (HS0.out i)
        obtain ⟨x0, x1, x2, x3⟩ : wr.cell? ⟨w.heap.size, 0, none⟩ = some (.slice ma ml mc) ∧ wr.cell? ⟨w.heap.size, 1, none⟩ = some (.slice wa wl wc) ∧ wr.cell? ⟨w.heap.size, 2, none⟩ = some (.slice na nl nc) ∧ wr.cell? ⟨w.heap.size, 3, none⟩ = some (.int .i64 s.fresh) := ⟨hbx 0, hbx 1, hbx 2, hbx 3⟩
        have zr : w.heap.size < wr.heap.size := by have := hB.size; omega
        clear hbx
        by_cases hlt : k < ml
        · have hk2 : k < s.moulds.length := by rw [HML.out]; exact hlt
          obtain ⟨b, o, rfl, hbB, hcell⟩ := HMC.out (by omega)
          obtain ⟨c0, c1, c2⟩ := Mould.at_below hB (show b < W0.heap.size by omega) (Mould.at_below HB0.out hbB (hcell k hk2))
          have hkl : (k : Int) < (ml : Int) := by omega
          have hk0 : (0 : Int) ≤ (k : Int) := by omega
          have HN := Lib.hid (all_next HALL.out hk2)
          have HX := Lib.hid (fun (h : mouldB nl s.moulds[k] = false) => show s.chk = 20 by rw [HO.out, all_no (f := mouldB nl) hk2 h]; simp)
          have HMB := Lib.hid (show mouldB nl s.moulds[k] = (btw s.moulds[k].p 0 (nl - 1) && btw s.moulds[k].u 0 12 && btw s.moulds[k].b 0 1) from rfl)
          clear hB hcell
          rcases h1 : btw s.moulds[k].p 0 ((nl : Int) - 1) with - | -
          · have HR := Lib.hid (HX.out (by rw [HMB.out, h1]; simp))
            have HP1 := Lib.hid (HPG.out _ _ h1)
            clear h1 HX HN HMB
            generalize s.moulds[k] = m at *
            go_wp2_with fail
            refine (HP1.out _).mono ?_
            rintro e w1 ⟨rfl, hb1⟩
            have HBW := Lib.hid (HB0.out.trans (((HB.out.alloc HB.out.size _).trans (hb1.mono (by have := HB.out.size; simp; omega))).mono HB0.out.size))
            clear hb1
            go_wp2_with fail
            go_ret
            exact ⟨ret_i64 HR.out.symm, HBW.out⟩
          have HP1 := Lib.hid (HPG.out _ _ h1)
          rcases h2 : btw s.moulds[k].u 0 12 with - | -
          · have HR := Lib.hid (HX.out (by rw [HMB.out, h2]; simp))
            have HBT := Lib.hid (within_is _ _ _ _ h2)
            clear h1 h2 HX HN HMB
            generalize s.moulds[k] = m at *
            go_wp2_with fail
            refine (HP1.out _).mono ?_
            rintro e w1 ⟨rfl, hb1⟩
            obtain ⟨hc1, hf1⟩ := bcell hb1
            have hz1 := hb1.size
            simp at hz1
            have HBW := Lib.hid (HB0.out.trans (((HB.out.alloc HB.out.size _).trans (hb1.mono (by have := HB.out.size; simp; omega))).mono HB0.out.size))
            clear hb1
            go_wp2_with fail
            refine (HBT.out _).mono ?_
            rintro e w2 ⟨rfl, rfl⟩
            go_wp2_with fail
            go_ret
            exact ⟨ret_i64 HR.out.symm, HBW.out⟩
          have HP2 := Lib.hid (within_is _ _ _ _ h2)
          rcases h3 : btw s.moulds[k].b 0 1 with - | -
          · have HR := Lib.hid (HX.out (by rw [HMB.out, h3]; simp))
            have HBT := Lib.hid (within_is _ _ _ _ h3)
            clear h1 h2 h3 HX HN HMB
            generalize s.moulds[k] = m at *
            go_wp2_with fail
            refine (HP1.out _).mono ?_
            rintro e w1 ⟨rfl, hb1⟩
            obtain ⟨hc1, hf1⟩ := bcell hb1
            have hz1 := hb1.size
            simp at hz1
            have HBW := Lib.hid (HB0.out.trans (((HB.out.alloc HB.out.size _).trans (hb1.mono (by have := HB.out.size; simp; omega))).mono HB0.out.size))
            clear hb1
            go_wp2_with fail
            refine (HP2.out _).mono ?_
            rintro e w2 ⟨rfl, rfl⟩
            go_wp2_with fail
            refine (HBT.out _).mono ?_
            rintro e w2 ⟨rfl, rfl⟩
            go_wp2_with fail
            go_ret
            exact ⟨ret_i64 HR.out.symm, HBW.out⟩
          · rw [HMB.out, h1, h2, h3] at HN
            have HBT := Lib.hid (within_is _ _ _ _ h3)
            clear h1 h2 h3 HX HMB
            generalize s.moulds[k] = m at *
            go_wp2_with fail
            refine (HP1.out _).mono ?_
            rintro e w1 ⟨rfl, hb1⟩
            obtain ⟨hc1, hf1⟩ := bcell hb1
            have hz1 := hb1.size
            simp at hz1
            have HBW := Lib.hid ((HB.out.alloc HB.out.size _).trans (hb1.mono (by have := HB.out.size; simp; omega)))
            clear hb1
            go_wp2_with fail
            refine (HP2.out _).mono ?_
            rintro e w2 ⟨rfl, rfl⟩
            go_wp2_with fail
            refine (HBT.out _).mono ?_
            rintro e w2 ⟨rfl, rfl⟩
            go_wp2_with fail
            go_roundw
            case rel => exact ⟨k + 1, by omega, by go_num, HN.out, HBW.out⟩
            case measure => simp [intOf]; omega
        · obtain rfl : ml = k := by omega
          have H2 := Lib.hid (all_done HALL.out HML.out)
          have hB' := HB.out
          clear hB HALL HB
          go_wp2_with fail
          clear x0 x1 x2 x3 hlt hk zr
          go_loopw [6] (fun i wr => ∃ k : Nat, k ≤ wl ∧ i = .int .i64 k ∧ (s.worlds.take k).all (worldB ml) = true ∧ Below W0.heap.size W0 wr) (fun i _ => wl - (intOf i).toNat)
          case atStart => exact ⟨0, by omega, rfl, by simp, hB'⟩
          case round =>
            clear hB'
            obtain ⟨k, hk, rfl, hall, hB⟩ := hrel
            have HALL := Lib.hid hall
            clear hall
            have HB := Lib.hid hB
            have hbx := fun i => (hB.cell (p := ⟨w.heap.size, i, none⟩) hz0).trans (HS0.out i)
            obtain ⟨x0, x1, x2, x3⟩ : wr.cell? ⟨w.heap.size, 0, none⟩ = some (.slice ma ml mc) ∧ wr.cell? ⟨w.heap.size, 1, none⟩ = some (.slice wa wl wc) ∧ wr.cell? ⟨w.heap.size, 2, none⟩ = some (.slice na nl nc) ∧ wr.cell? ⟨w.heap.size, 3, none⟩ = some (.int .i64 s.fresh) := ⟨hbx 0, hbx 1, hbx 2, hbx 3⟩
            clear hbx
            by_cases hlt : k < wl
            · have hk2 : k < s.worlds.length := by rw [HWL.out]; exact hlt
              obtain ⟨b, o, rfl, hbB, hcell⟩ := HWC.out (by omega)
              obtain ⟨ra, rl, rc, hcc, hii⟩ := hcell k hk2
              have hcx := (hB.cell (p := ⟨b, o + k, none⟩) (show b < W0.heap.size by omega)).trans ((HB0.out.cell (p := ⟨b, o + k, none⟩) hbB).trans hcc)
              have hkl : (k : Int) < (wl : Int) := by omega
              have hk0 : (0 : Int) ≤ (k : Int) := by omega
              have HN := Lib.hid (all_next HALL.out hk2)
              have HX := Lib.hid (fun (h : worldB ml s.worlds[k] = false) => show s.chk = 20 by rw [HO.out, all_no (f := worldB ml) hk2 h]; simp)
              have HII := Lib.hid (hii.below HB0.out)
              have HBX := Lib.hid ((HB0.out.cell (p := ⟨b, o + k, none⟩) hbB).trans hcc)
              have hbW : b < W0.heap.size := by omega
              obtain ⟨hrl, hrm, -⟩ := hii
              unfold maxLen at hrm
              clear hcell hcc
              by_cases hll : rl = ml
              · obtain rfl : ml = rl := hll.symm
                go_wp2_with fail
                go_quiet (fail)
                go_wp2_with fail
                go_loopw [7] (fun i wi => ∃ j : Nat, j ≤ ml ∧ i = .int .i64 j ∧ ((s.worlds[k].take j).all fun v => btw v 0 12) = true ∧ Below W0.heap.size W0 wi) (fun i _ => ml - (intOf i).toNat)
                case atStart => exact ⟨0, by omega, rfl, by simp, HB.out.trans (Go.Joins.below_draws _ _ _)⟩
                case round =>
                  clear x0 x1 x2 x3 hcx hB HB
                  obtain ⟨j, hj, rfl, hin, hB⟩ := hrel
                  have HIN := Lib.hid hin
                  clear hin
                  have HB := Lib.hid hB
                  have hbx := fun i => (hB.cell (p := ⟨w.heap.size, i, none⟩) hz0).trans (HS0.out i)
                  obtain ⟨x0, x1, x2, x3⟩ : wr.cell? ⟨w.heap.size, 0, none⟩ = some (.slice ma ml mc) ∧ wr.cell? ⟨w.heap.size, 1, none⟩ = some (.slice (some ⟨b, o, none⟩) wl wc) ∧ wr.cell? ⟨w.heap.size, 2, none⟩ = some (.slice na nl nc) ∧ wr.cell? ⟨w.heap.size, 3, none⟩ = some (.int .i64 s.fresh) := ⟨hbx 0, hbx 1, hbx 2, hbx 3⟩
                  have hcx := (hB.cell (p := ⟨b, o + k, none⟩) hbW).trans HBX.out
                  clear hbx
                  by_cases hjl : j < ml
                  · have hj2 : j < s.worlds[k].length := by rw [hrl]; exact hjl
                    obtain ⟨b', o', rfl, hbB', hcell'⟩ := (HII.out.below hB).2.2 (by omega)
                    have hcy := hcell' j hj2
                    have hjl' : (j : Int) < (ml : Int) := by omega
                    have hj0 : (0 : Int) ≤ (j : Int) := by omega
                    have HJN := Lib.hid (all_next HIN.out hj2)
                    have HJX := Lib.hid (fun (h : btw s.worlds[k][j] 0 12 = false) => HX.out (show worldB ml s.worlds[k] = false by rw [worldB, all_no (f := fun v => btw v 0 12) hj2 h]; simp))
                    clear hB hcell'
                    rcases hb : btw s.worlds[k][j] 0 12 with - | -
                    · have HR := Lib.hid (HJX.out hb)
                      have HBT := Lib.hid (within_is _ _ _ _ hb)
                      clear hb HJX HJN
                      generalize s.worlds[k][j] = n at *
                      go_wp2_with fail
                      refine (HBT.out _).mono ?_
                      rintro e w1 ⟨rfl, rfl⟩
                      go_wp2_with fail
                      go_ret
                      exact ⟨ret_i64 HR.out.symm, HB0.out.trans (HB.out.mono HB0.out.size)⟩
                    · rw [hb] at HJN
                      have HBT := Lib.hid (within_is _ _ _ _ hb)
                      clear hb HJX
                      generalize s.worlds[k][j] = n at *
                      go_wp2_with fail
                      refine (HBT.out _).mono ?_
                      rintro e w1 ⟨rfl, rfl⟩
                      go_wp2_with fail
                      go_roundw
                      case rel => exact ⟨j + 1, by omega, by go_num, HJN.out, HB.out⟩
                      case measure => simp [intOf]; omega
                  · obtain rfl : ml = j := by omega
                    have HW := Lib.hid (HN.out.trans (show worldB ml s.worlds[k] = true by rw [worldB, all_done HIN.out hrl, hrl]; simp))
                    clear hB HIN
                    go_wp2_with fail
                    go_roundw
                    case rel => exact ⟨k + 1, by omega, by go_num, HW.out, HB.out⟩
                    case measure => simp [intOf]; omega
              · have hne : ¬ (rl : Int) = (ml : Int) := by omega
                have HR := Lib.hid (HX.out (by rw [worldB, hrl]; simp [hll]))
                clear hB
                go_wp2_with fail
                go_quiet (fail)
                go_wp2_with fail
                go_ret
                exact ⟨ret_i64 HR.out.symm, HB0.out.trans ((HB.out.trans (Go.Joins.below_draws _ _ _)).mono HB0.out.size)⟩
            · obtain rfl : wl = k := by omega
              have HR := Lib.hid (show s.chk = 0 by rw [HO.out, H1.out, H2.out, all_done HALL.out HWL.out]; simp)
              have HBW := Lib.hid (HB0.out.trans (HB.out.mono HB0.out.size))
              clear hB HALL HB
              go_wp2_with fail
              go_ret
              exact ⟨ret_i64 HR.out.symm, HBW.out⟩

theorem refCheck_is (s : FShop) (ma : Option Addr) (ml mc : Nat) (wa : Option Addr) (wl wc : Nat) (na : Option Addr) (nl nc : Nat) (v : Int) (h : s.chk = v) (w : World) (hp : FAt w ma ml mc wa wl wc na nl nc s) :
    Calls Try.prog 52 #[.agg #[.slice ma ml mc, .slice wa wl wc, .slice na nl nc, .int .i64 s.fresh]] w fun e w' => e = .returned (.int .i64 v) ∧ Below w.heap.size w w' := by
  subst h
  rcases hf : s.few with - | -
  · exact refCheck_many s ma ml mc wa wl wc na nl nc w hp hf
  · exact refCheck_few s ma ml mc wa wl wc na nl nc w hp hf
end Go.Proofs.Ytigeiaiohdemiaa
