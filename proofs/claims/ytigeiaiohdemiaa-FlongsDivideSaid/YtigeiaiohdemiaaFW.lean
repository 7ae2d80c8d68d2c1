/- The reference's AgreesOf, WorldsOf, AreShares; the laws' Huge, ready, known. -/
import Derived.Test.YtigeiaiohdemiaaFV
namespace Go.Proofs.Ytigeiaiohdemiaa
set_option linter.unusedVariables false
set_option linter.unusedSimpArgs false
open Go.RowKit

def FShop.huge (s : FShop) : Bool := decide (40 < s.moulds.length) || decide (40 < s.worlds.length) || decide (40 < s.wants.length) || s.worlds.any fun x => decide (40 < x.length)

set_option maxRecDepth 100000 in
set_option maxHeartbeats 2000000 in
theorem Huge_any (s : FShop) (ma : Option Addr) (ml mc : Nat) (wa : Option Addr) (wl wc : Nat) (na : Option Addr) (nl nc : Nat) (w : World) (hp : FAt w ma ml mc wa wl wc na nl nc s) :
    Calls Try.prog 50 #[.agg #[.slice ma ml mc, .slice wa wl wc, .slice na nl nc, .int .i64 s.fresh]] w fun e w' => e = .returned (.bool s.huge) ∧ Below w.heap.size w w' := by
  obtain ⟨⟨hml, hmm, -⟩, ⟨hwl, hwm, hwc⟩, ⟨hnl, hnm, -⟩⟩ := hp
  unfold maxLen at hmm hwm hnm
  by_cases h1 : 40 < ml
  · have HR := Lib.hid (show s.huge = true by simp [FShop.huge, hml, h1])
    have h1' : (40 : Int) < (ml : Int) := by omega
    clear hwc
    go_enter Try.func50, Try.ntmps50
    go_wp2_with fail
    go_ret
    exact ⟨ret_bool HR.out.symm, (by repeat (first | exact Below.refl _ _ | (refine Below.alloc ?_ (by first | omega | (simp; omega) | simp) _) | (refine Below.setCell ?_ (by first | omega | (simp; omega) | simp) _) | refine Below.drew ?_))⟩
  have h1' : ¬ (40 : Int) < (ml : Int) := by omega
  by_cases h2 : 40 < wl
  · have HR := Lib.hid (show s.huge = true by simp [FShop.huge, hwl, h2])
    have h2' : (40 : Int) < (wl : Int) := by omega
    clear hwc
    go_enter Try.func50, Try.ntmps50
    go_wp2_with fail
    go_ret
    exact ⟨ret_bool HR.out.symm, (by repeat (first | exact Below.refl _ _ | (refine Below.alloc ?_ (by first | omega | (simp; omega) | simp) _) | (refine Below.setCell ?_ (by first | omega | (simp; omega) | simp) _) | refine Below.drew ?_))⟩
  have h2' : ¬ (40 : Int) < (wl : Int) := by omega
  by_cases h3 : 40 < nl
  · have HR := Lib.hid (show s.huge = true by simp [FShop.huge, hnl, h3])
    have h3' : (40 : Int) < (nl : Int) := by omega
    clear hwc
    go_enter Try.func50, Try.ntmps50
    go_wp2_with fail
    go_ret
    exact ⟨ret_bool HR.out.symm, (by repeat (first | exact Below.refl _ _ | (refine Below.alloc ?_ (by first | omega | (simp; omega) | simp) _) | (refine Below.setCell ?_ (by first | omega | (simp; omega) | simp) _) | refine Below.drew ?_))⟩
  have h3' : ¬ (40 : Int) < (nl : Int) := by omega
  have HR := Lib.hid (show s.huge = s.worlds.any fun x => decide (40 < x.length) by simp [FShop.huge, hml, hwl, hnl, h1, h2, h3])
  have HWL := Lib.hid hwl
  have HWC := Lib.hid hwc
  clear hwc hwl
  go_enter Try.func50, Try.ntmps50
  go_wp2_with fail
  obtain ⟨W0, hW0, hB0, hs0, hz0⟩ := name1k w #[.slice ma ml mc, .slice wa wl wc, .slice na nl nc, .int .i64 s.fresh] 26
  rw [hW0]
  clear hW0
  have HB0 := Lib.hid hB0
  have HS0 := Lib.hid hs0
  clear hB0 hs0
  go_loopw [3] (fun i wr => ∃ k : Nat, k ≤ wl ∧ i = .int .i64 k ∧ ((s.worlds.take k).any fun x => decide (40 < x.length)) = false ∧ W0 = wr) (fun i _ => wl - (intOf i).toNat)
  case atStart => exact ⟨0, by omega, rfl, by simp, rfl⟩
  case round =>
    obtain ⟨k, hk, rfl, hall, rfl⟩ := hrel
    have HALL := Lib.hid hall
    clear hall
    obtain ⟨x0, x1, x2, x3⟩ : W0.cell? ⟨w.heap.size, 0, none⟩ = some (.slice ma ml mc) ∧ W0.cell? ⟨w.heap.size, 1, none⟩ = some (.slice wa wl wc) ∧ W0.cell? ⟨w.heap.size, 2, none⟩ = some (.slice na nl nc) ∧ W0.cell? ⟨w.heap.size, 3, none⟩ = some (.int .i64 s.fresh) := ⟨HS0.out 0, HS0.out 1, HS0.out 2, HS0.out 3⟩
    by_cases hlt : k < wl
    · have hk2 : k < s.worlds.length := by rw [HWL.out]; exact hlt
      obtain ⟨b, o, rfl, hbB, hcell⟩ := HWC.out (by omega)
      obtain ⟨ra, rl, rc, hcc, hii⟩ := hcell k hk2
      have hcx := (HB0.out.cell (p := ⟨b, o + k, none⟩) hbB).trans hcc
      have hkl : (k : Int) < (wl : Int) := by omega
      have hk0 : (0 : Int) ≤ (k : Int) := by omega
      have hrl := hii.1
      have hrm := hii.2.1
      unfold maxLen at hrm
      have hN : ((s.worlds.take (k + 1)).any fun x => decide (40 < x.length)) = decide (40 < rl) := by rw [List.take_succ_eq_append_getElem hk2, List.any_append, HALL.out, List.any_cons, List.any_nil, hrl]; simp
      have HN := Lib.hid hN
      by_cases h4 : 40 < rl
      · have HY := Lib.hid (show (s.worlds.any fun x => decide (40 < x.length)) = true from List.any_eq_true.2 ⟨s.worlds[k], List.getElem_mem hk2, by rw [hrl]; simpa using h4⟩)
        have h4' : (40 : Int) < (rl : Int) := by omega
        clear hcell hcc hii hN
        go_wp2_with fail
        go_ret
        exact ⟨ret_bool (HR.out.trans HY.out).symm, HB0.out⟩
      · have h4' : ¬ (40 : Int) < (rl : Int) := by omega
        clear hcell hcc hii hN
        go_wp2_with fail
        go_roundw
        case rel => exact ⟨k + 1, by omega, by go_num, by rw [HN.out]; simpa using h4, trivial⟩
        case measure => simp [intOf]; omega
    · obtain rfl : wl = k := by omega
      have HY := Lib.hid (show (s.worlds.any fun x => decide (40 < x.length)) = false by have h := HALL.out; rwa [List.take_of_length_le (by rw [HWL.out]; exact Nat.le_refl _)] at h)
      go_wp2_with fail
      go_ret
      exact ⟨ret_bool (HR.out.trans HY.out).symm, HB0.out⟩
theorem Huge_is (s : FShop) (ma : Option Addr) (ml mc : Nat) (wa : Option Addr) (wl wc : Nat) (na : Option Addr) (nl nc : Nat) (b : Bool) (h : s.huge = b) (w : World) (hp : FAt w ma ml mc wa wl wc na nl nc s) :
    Calls Try.prog 50 #[.agg #[.slice ma ml mc, .slice wa wl wc, .slice na nl nc, .int .i64 s.fresh]] w fun e w' => e = .returned (.bool b) ∧ Below w.heap.size w w' := h ▸ Huge_any s ma ml mc wa wl wc na nl nc w hp

set_option maxRecDepth 100000 in
set_option maxHeartbeats 4000000 in
theorem refAgreesOf_any (s : FShop) (ma : Option Addr) (ml mc : Nat) (wa : Option Addr) (wl wc : Nat) (na : Option Addr) (nl nc : Nat) (n : Nat) (hn : n < s.worlds.length) (hln : s.worlds[n].length = s.moulds.length) (w : World) (hp : FAt w ma ml mc wa wl wc na nl nc s) :
    Calls Try.prog 17 #[.agg #[.slice ma ml mc, .slice wa wl wc, .slice na nl nc, .int .i64 s.fresh], .int .i64 n] w fun e w' => e = .returned (.bool (agreeB s.moulds s.worlds[n])) ∧ Below w.heap.size w w' := by
  obtain ⟨⟨hml, hmm, hmc⟩, ⟨hwl, hwm, hwc⟩, -⟩ := hp
  unfold maxLen at hmm hwm
  obtain ⟨wb, wo, rfl, hwb, hwc⟩ := hwc (by omega)
  obtain ⟨ra, rl, rc, hcell, hxl, -, hxc⟩ := hwc n hn
  have hrl : rl = ml := by omega
  subst hrl
  obtain ⟨x, hx⟩ : ∃ x, s.worlds[n] = x := ⟨_, rfl⟩
  rw [hx] at hxl hxc
  rw [hx]
  have HML := Lib.hid hml
  have HXL := Lib.hid hxl
  have HMC := Lib.hid hmc
  have HXC := Lib.hid hxc
  have hnw : (n : Int) < (wl : Int) := by omega
  have hn0 : (0 : Int) ≤ (n : Int) := by omega
  clear hml hxl hmc hxc hwc hx hln hwl hn
  go_enter Try.func17, Try.ntmps17
  go_wp2_with fail
  obtain ⟨W0, hW0, hB0, hs0, hz0⟩ := name1k w #[.slice ma rl mc, .slice (some ⟨wb, wo, none⟩) wl wc, .slice na nl nc, .int .i64 s.fresh] 26
  rw [hW0]
  clear hW0
  have HB0 := Lib.hid hB0
  have hcw := (hB0.cell (p := ⟨wb, wo + n, none⟩) hwb).trans hcell
  obtain ⟨x0, x1, x2, x3⟩ : W0.cell? ⟨w.heap.size, 0, none⟩ = some (.slice ma rl mc) ∧ W0.cell? ⟨w.heap.size, 1, none⟩ = some (.slice (some ⟨wb, wo, none⟩) wl wc) ∧ W0.cell? ⟨w.heap.size, 2, none⟩ = some (.slice na nl nc) ∧ W0.cell? ⟨w.heap.size, 3, none⟩ = some (.int .i64 s.fresh) := ⟨hs0 0, hs0 1, hs0 2, hs0 3⟩
  clear hB0 hs0 hcell
  go_loopw [5] (fun i wr => ∃ k : Nat, k ≤ rl ∧ i = .int .i64 k ∧ ((s.moulds.zip x).take k).all (fun q => agM q.1 q.2) = true ∧ W0 = wr) (fun i _ => rl - (intOf i).toNat)
  case atStart => exact ⟨0, by omega, rfl, by simp, rfl⟩
  case round =>
    obtain ⟨k, hk, rfl, hall, rfl⟩ := hrel
    have HALL := Lib.hid hall
    clear hall
    by_cases hlt : k < rl
    · have hk2 : k < s.moulds.length := by rw [HML.out]; exact hlt
      have hk3 : k < x.length := by rw [HXL.out]; exact hlt
      obtain ⟨b, o, rfl, hbB, hcm⟩ := HMC.out (by omega)
      obtain ⟨b', o', rfl, hbB', hcx'⟩ := HXC.out (by omega)
      obtain ⟨c0, c1, c2⟩ := Mould.at_below HB0.out hbB (hcm k hk2)
      have hcx := (HB0.out.cell (p := ⟨b', o' + k, none⟩) hbB').trans (hcx' k hk3)
      have hkl : (k : Int) < (rl : Int) := by omega
      have hk0 : (0 : Int) ≤ (k : Int) := by omega
      have HN := Lib.hid (zip_next HALL.out hk2 hk3)
      have HX := Lib.hid (fun (h : agM s.moulds[k] x[k] = false) => show agreeB s.moulds x = false from zip_no (f := fun q => agM q.1 q.2) hk2 hk3 h)
      clear hcm hcx'
      generalize s.moulds[k] = m at *
      generalize x[k] = v at *
      rcases Int.lt_or_le v m.u with h1 | h1
      · have HR := Lib.hid (HX.out (by simp [agM]; omega))
        clear HN HX
        go_wp2_with fail
        go_ret
        exact ⟨ret_bool HR.out.symm, HB0.out⟩
      have hd1 : ¬ v < m.u := by omega
      by_cases h2 : m.b = 1
      · by_cases h3 : v = m.u
        · have HR := Lib.hid (HN.out.trans (show agM m v = true by simp [agM, h2]; omega))
          clear HN HX
          go_wp2_with fail
          go_roundw
          case rel => exact ⟨k + 1, by omega, by go_num, HR.out, trivial⟩
          case measure => simp [intOf]; omega
        · have HR := Lib.hid (HX.out (by simp [agM, h2]; omega))
          clear HN HX
          go_wp2_with fail
          go_ret
          exact ⟨ret_bool HR.out.symm, HB0.out⟩
      · have HR := Lib.hid (HN.out.trans (show agM m v = true by simp [agM, h2]; omega))
        clear HN HX
        go_wp2_with fail
        go_roundw
        case rel => exact ⟨k + 1, by omega, by go_num, HR.out, trivial⟩
        case measure => simp [intOf]; omega
    · obtain rfl : rl = k := by omega
      have HR := Lib.hid (show agreeB s.moulds x = true from zip_done HALL.out HML.out)
      go_wp2_with fail
      go_ret
      exact ⟨ret_bool HR.out.symm, HB0.out⟩
theorem refAgreesOf_is (s : FShop) (ma : Option Addr) (ml mc : Nat) (wa : Option Addr) (wl wc : Nat) (na : Option Addr) (nl nc : Nat) (n : Nat) (hn : n < s.worlds.length) (hln : s.worlds[n].length = s.moulds.length) (b : Bool) (h : agreeB s.moulds s.worlds[n] = b) (w : World) (hp : FAt w ma ml mc wa wl wc na nl nc s) :
    Calls Try.prog 17 #[.agg #[.slice ma ml mc, .slice wa wl wc, .slice na nl nc, .int .i64 s.fresh], .int .i64 n] w fun e w' => e = .returned (.bool b) ∧ Below w.heap.size w w' := h ▸ refAgreesOf_any s ma ml mc wa wl wc na nl nc n hn hln w hp
end Go.Proofs.Ytigeiaiohdemiaa
