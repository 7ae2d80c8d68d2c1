/- Package flongs: agrees, isShares. -/
import Derived.Test.YtigeiaiohdemiaaFC
namespace Go.Proofs.Ytigeiaiohdemiaa
set_option linter.unusedVariables false
set_option linter.unusedSimpArgs false
open Go.RowKit

def agM (m : Mould) (n : Int) : Bool := decide (m.u ≤ n) && (decide (m.b ≠ 1) || decide (n ≤ m.u))
/-- Whether a world agrees. -/
def agreeB (ms : List Mould) (x : List Int) : Bool := (ms.zip x).all fun q => agM q.1 q.2
def Mould.most (m : Mould) : Int := if m.b = 1 then 0 else 12
/-- Whether a list is shares. -/
def sharesB (ms : List Mould) (x : List Int) : Bool := decide (x.length = ms.length) && (ms.zip x).all fun q => btw q.2 0 q.1.most
theorem zip_next {f : Mould × Int → Bool} {ms : List Mould} {x : List Int} {k : Nat} (h : ((ms.zip x).take k).all f = true) (h1 : k < ms.length) (h2 : k < x.length) : ((ms.zip x).take (k + 1)).all f = f (ms[k], x[k]) := by
  rw [all_next h (by simp; omega), List.getElem_zip]
theorem zip_no {f : Mould × Int → Bool} {ms : List Mould} {x : List Int} {k : Nat} (h1 : k < ms.length) (h2 : k < x.length) (h : f (ms[k], x[k]) = false) : (ms.zip x).all f = false :=
  all_no (k := k) (by simp; omega) (by rw [List.getElem_zip]; exact h)
theorem zip_done {f : Mould × Int → Bool} {ms : List Mould} {x : List Int} {n : Nat} (h : ((ms.zip x).take n).all f = true) (h1 : ms.length = n) : (ms.zip x).all f = true := by
  rwa [List.take_of_length_le (by simp; omega)] at h

set_option maxRecDepth 100000 in
set_option maxHeartbeats 2000000 in
theorem agrees_any (s : FShop) (ma : Option Addr) (ml mc : Nat) (wa : Option Addr) (wl wc : Nat) (na : Option Addr) (nl nc : Nat) (xa : Option Addr) (xc : Nat) (x : List Int) (w : World) (hp : MouldsAt w ma ml s.moulds) (hx : IntsAt w xa ml x) :
    Calls Try.prog 71 #[.agg #[.slice ma ml mc, .slice wa wl wc, .slice na nl nc, .int .i64 s.fresh], .slice xa ml xc] w fun e w' => e = .returned (.bool (agreeB s.moulds x)) ∧ Below w.heap.size w w' := by
  obtain ⟨hml, hmm, hmc⟩ := hp
  obtain ⟨hxl, -, hxc⟩ := hx
  unfold maxLen at hmm
  have HML := Lib.hid hml
  have HXL := Lib.hid hxl
  have HMC := Lib.hid hmc
  have HXC := Lib.hid hxc
  clear hml hxl hmc hxc
  go_enter Try.func71, Try.ntmps71
  go_wp2_with fail
  obtain ⟨W0, hW0, hB0, hs0, hz0⟩ := name1k w #[.slice ma ml mc, .slice wa wl wc, .slice na nl nc, .int .i64 s.fresh] 77
  rw [hW0]
  clear hW0
  have HB0 := Lib.hid hB0
  have HS0 := Lib.hid hs0
  clear hB0 hs0
  go_loopw [11] (fun i wr => ∃ k : Nat, k ≤ ml ∧ i = .int .i64 k ∧ ((s.moulds.zip x).take k).all (fun q => agM q.1 q.2) = true ∧ Below W0.heap.size W0 wr) (fun i _ => ml - (intOf i).toNat)
  case atStart => exact ⟨0, by omega, rfl, by simp, Below.refl _ _⟩
  case round =>
    obtain ⟨k, hk, rfl, hall, hB⟩ := hrel
    have HALL := Lib.hid hall
    clear hall
    have HB := Lib.hid hB
    by_cases hlt : k < ml
    · have hk2 : k < s.moulds.length := by rw [HML.out]; exact hlt
      have hk3 : k < x.length := by rw [HXL.out]; exact hlt
      obtain ⟨b, o, rfl, hbB, hcell⟩ := HMC.out (by omega)
      obtain ⟨b', o', rfl, hbB', hcell'⟩ := HXC.out (by omega)
      obtain ⟨c0, c1, c2⟩ := Mould.at_below hB (show b < W0.heap.size by omega) (Mould.at_below HB0.out hbB (hcell k hk2))
      have hcx := (hB.cell (p := ⟨b', o' + k, none⟩) (show b' < W0.heap.size by omega)).trans ((HB0.out.cell (p := ⟨b', o' + k, none⟩) hbB').trans (hcell' k hk3))
      have zr : b' < wr.heap.size := by have := hB.size; omega
      have hkl : (k : Int) < (ml : Int) := by omega
      have hk0 : (0 : Int) ≤ (k : Int) := by omega
      have HN := Lib.hid (zip_next HALL.out hk2 hk3)
      have HX := Lib.hid (fun (h : agM s.moulds[k] x[k] = false) => show agreeB s.moulds x = false from zip_no (f := fun q => agM q.1 q.2) hk2 hk3 h)
      have HBA := Lib.hid (fun m => HB.out.alloc HB.out.size m)
      clear hB hcell hcell'
      generalize s.moulds[k] = m at *
      generalize x[k] = n at *
      rcases Int.lt_or_le n m.u with h1 | h1
      · have HR := Lib.hid (HX.out (by simp [agM]; omega))
        clear HN HX
        go_wp2_with fail
        go_quiet (fail)
        go_wp2_with fail
        go_ret
        exact ⟨ret_bool HR.out.symm, HB0.out.trans (((HBA.out _).trans (Go.Joins.below_draws _ _ _)).mono HB0.out.size)⟩
      by_cases h2 : m.b = 1
      · rcases Int.lt_or_le m.u n with h3 | h3
        · have HR := Lib.hid (HX.out (by simp [agM, h2]; omega))
          clear HN HX
          go_wp2_with fail
          have hd1 : ¬ n < m.u := by omega
          go_quiet (fail)
          go_wp2_with fail
          go_ret
          exact ⟨ret_bool HR.out.symm, HB0.out.trans (((HBA.out _).trans (Go.Joins.below_draws _ _ _)).mono HB0.out.size)⟩
        · have HR := Lib.hid (HN.out.trans (show agM m n = true by simp [agM, h2]; omega))
          clear HN HX
          go_wp2_with fail
          have hd1 : ¬ n < m.u := by omega
          have hd3 : ¬ m.u < n := by omega
          go_quiet (fail)
          go_wp2_with fail
          go_roundw
          case rel => exact ⟨k + 1, by omega, by go_num, HR.out, (HBA.out _).trans (Go.Joins.below_draws _ _ _)⟩
          case measure => simp [intOf]; omega
      · have HR := Lib.hid (HN.out.trans (show agM m n = true by simp [agM, h2]; omega))
        clear HN HX
        go_wp2_with fail
        have hd1 : ¬ n < m.u := by omega
        have hd2 : ¬ m.b = 1 := by omega
        go_quiet (fail)
        go_wp2_with fail
        go_roundw
        case rel => exact ⟨k + 1, by omega, by go_num, HR.out, (HBA.out _).trans (Go.Joins.below_draws _ _ _)⟩
        case measure => simp [intOf]; omega
    · obtain rfl : ml = k := by omega
      have HR := Lib.hid (show agreeB s.moulds x = true from zip_done HALL.out HML.out)
      go_wp2_with fail
      go_ret
      exact ⟨ret_bool HR.out.symm, HB0.out.trans (HB.out.mono HB0.out.size)⟩
theorem agrees_is (s : FShop) (ma : Option Addr) (ml mc : Nat) (wa : Option Addr) (wl wc : Nat) (na : Option Addr) (nl nc : Nat) (xa : Option Addr) (xc : Nat) (x : List Int) (b : Bool) (h : agreeB s.moulds x = b) (w : World) (hp : MouldsAt w ma ml s.moulds) (hx : IntsAt w xa ml x) :
    Calls Try.prog 71 #[.agg #[.slice ma ml mc, .slice wa wl wc, .slice na nl nc, .int .i64 s.fresh], .slice xa ml xc] w fun e w' => e = .returned (.bool b) ∧ Below w.heap.size w w' := h ▸ agrees_any s ma ml mc wa wl wc na nl nc xa xc x w hp hx

set_option maxRecDepth 100000 in
set_option maxHeartbeats 1000000 in
theorem mostOf_is (s : FShop) (ma : Option Addr) (ml mc : Nat) (wa : Option Addr) (wl wc : Nat) (na : Option Addr) (nl nc : Nat) (k : Nat) (v : Int) (w : World) (hp : MouldsAt w ma ml s.moulds) (hk : k < s.moulds.length) (hv : s.moulds[k].most = v) :
    Calls Try.prog 101 #[.agg #[.slice ma ml mc, .slice wa wl wc, .slice na nl nc, .int .i64 s.fresh], .int .i64 k] w fun e w' => e = .returned (.int .i64 v) ∧ Below w.heap.size w w' := by
  obtain ⟨hml, hmm, hmc⟩ := hp
  unfold maxLen at hmm
  have hlt : k < ml := by omega
  obtain ⟨b, o, rfl, hbB, hcell⟩ := hmc (by omega)
  obtain ⟨c0, c1, c2⟩ := hcell k hk
  have hkl : (k : Int) < (ml : Int) := by omega
  have hk0 : (0 : Int) ≤ (k : Int) := by omega
  clear hcell hmc hml
  generalize s.moulds[k] = m at *
  subst hv
  by_cases h2 : m.b = 1
  · go_enter Try.func101, Try.ntmps101
    go_wp2_with fail
    go_ret
    exact ⟨ret_i64 (by simp [Mould.most, h2]), (by repeat (first | exact Below.refl _ _ | (refine Below.alloc ?_ (by first | omega | (simp; omega) | simp) _) | (refine Below.setCell ?_ (by first | omega | (simp; omega) | simp) _) | refine Below.drew ?_))⟩
  · go_enter Try.func101, Try.ntmps101
    go_wp2_with fail
    go_ret
    exact ⟨ret_i64 (by simp [Mould.most, h2]), (by repeat (first | exact Below.refl _ _ | (refine Below.alloc ?_ (by first | omega | (simp; omega) | simp) _) | (refine Below.setCell ?_ (by first | omega | (simp; omega) | simp) _) | refine Below.drew ?_))⟩

set_option maxRecDepth 100000 in
set_option maxHeartbeats 2000000 in
theorem isShares_any (s : FShop) (ma : Option Addr) (ml mc : Nat) (wa : Option Addr) (wl wc : Nat) (na : Option Addr) (nl nc : Nat) (xa : Option Addr) (xl xc : Nat) (x : List Int) (w : World) (hp : MouldsAt w ma ml s.moulds) (hx : IntsAt w xa xl x) :
    Calls Try.prog 73 #[.agg #[.slice ma ml mc, .slice wa wl wc, .slice na nl nc, .int .i64 s.fresh], .slice xa xl xc] w fun e w' => e = .returned (.bool (sharesB s.moulds x)) ∧ Below w.heap.size w w' := by
  have HMO := Lib.hid (fun w1 (hb : Below w.heap.size w w1) k v hk (hv : s.moulds[k].most = v) => mostOf_is s ma ml mc wa wl wc na nl nc k v w1 (hp.below hb) hk hv)
  obtain ⟨hml, -, -⟩ := hp
  obtain ⟨hxl, hmm, hxc⟩ := hx
  unfold maxLen at hmm
  by_cases hne : xl = ml
  · subst hne
    have HML := Lib.hid hml
    have HXL := Lib.hid hxl
    have HXC := Lib.hid hxc
    clear hml hxl hxc
    go_enter Try.func73, Try.ntmps73
    go_wp2_with fail
    obtain ⟨W0, hW0, hB0, hs0, hz0⟩ := name1k w #[.slice ma xl mc, .slice wa wl wc, .slice na nl nc, .int .i64 s.fresh] 77
    rw [hW0]
    clear hW0
    have HB0 := Lib.hid hB0
    have HS0 := Lib.hid hs0
    clear hB0 hs0
    go_loopw [16] (fun i wr => ∃ k : Nat, k ≤ xl ∧ i = .int .i64 k ∧ ((s.moulds.zip x).take k).all (fun q => btw q.2 0 q.1.most) = true ∧ Below W0.heap.size W0 wr) (fun i _ => xl - (intOf i).toNat)
    case atStart => exact ⟨0, by omega, rfl, by simp, Below.refl _ _⟩
    case round =>
      obtain ⟨k, hk, rfl, hall, hB⟩ := hrel
      have HALL := Lib.hid hall
      clear hall
      have HB := Lib.hid hB
      have hbx := fun i => (hB.cell (p := ⟨w.heap.size, i, none⟩) hz0).trans (HS0.out i)
      obtain ⟨x0, x1, x2, x3⟩ : wr.cell? ⟨w.heap.size, 0, none⟩ = some (.slice ma xl mc) ∧ wr.cell? ⟨w.heap.size, 1, none⟩ = some (.slice wa wl wc) ∧ wr.cell? ⟨w.heap.size, 2, none⟩ = some (.slice na nl nc) ∧ wr.cell? ⟨w.heap.size, 3, none⟩ = some (.int .i64 s.fresh) := ⟨hbx 0, hbx 1, hbx 2, hbx 3⟩
      clear hbx
      by_cases hlt : k < xl
      · have hk2 : k < s.moulds.length := by rw [HML.out]; exact hlt
        have hk3 : k < x.length := by rw [HXL.out]; exact hlt
        obtain ⟨b', o', rfl, hbB', hcell'⟩ := HXC.out (by omega)
        have hcx := (hB.cell (p := ⟨b', o' + k, none⟩) (show b' < W0.heap.size by omega)).trans ((HB0.out.cell (p := ⟨b', o' + k, none⟩) hbB').trans (hcell' k hk3))
        have hkl : (k : Int) < (xl : Int) := by omega
        have hk0 : (0 : Int) ≤ (k : Int) := by omega
        have HN := Lib.hid (zip_next HALL.out hk2 hk3)
        have HX := Lib.hid (fun (h : btw x[k] 0 s.moulds[k].most = false) => show sharesB s.moulds x = false by rw [sharesB, zip_no (f := fun q => btw q.2 0 q.1.most) hk2 hk3 h]; simp)
        have HM := Lib.hid (HMO.out wr (HB0.out.trans (hB.mono HB0.out.size)) k _ hk2 rfl)
        clear hB hcell'
        generalize s.moulds[k].most = m at *
        generalize x[k] = n at *
        rcases hb : btw n 0 m with - | -
        · have HR := Lib.hid (HX.out hb)
          have HBT := Lib.hid (between_is _ _ _ _ hb)
          clear HN HX hb
          go_wp2_with fail
          refine HM.out.mono ?_
          rintro e w1 ⟨rfl, hb1⟩
          have HBW := Lib.hid (HB0.out.trans ((HB.out.trans (hb1.mono HB.out.size)).mono HB0.out.size))
          clear hb1
          go_wp2_with fail
          refine (HBT.out _).mono ?_
          rintro e w2 ⟨rfl, rfl⟩
          go_wp2_with fail
          go_ret
          exact ⟨ret_bool HR.out.symm, HBW.out⟩
        · have HR := Lib.hid (HN.out.trans hb)
          have HBT := Lib.hid (between_is _ _ _ _ hb)
          clear HN HX hb
          go_wp2_with fail
          refine HM.out.mono ?_
          rintro e w1 ⟨rfl, hb1⟩
          have HBW := Lib.hid (HB.out.trans (hb1.mono HB.out.size))
          clear hb1
          go_wp2_with fail
          refine (HBT.out _).mono ?_
          rintro e w2 ⟨rfl, rfl⟩
          go_wp2_with fail
          go_roundw
          case rel => exact ⟨k + 1, by omega, by go_num, HR.out, HBW.out⟩
          case measure => simp [intOf]; omega
      · obtain rfl : xl = k := by omega
        have HR := Lib.hid (show sharesB s.moulds x = true by rw [sharesB, zip_done HALL.out HML.out, HXL.out, HML.out]; simp)
        go_wp2_with fail
        go_ret
        exact ⟨ret_bool HR.out.symm, HB0.out.trans (HB.out.mono HB0.out.size)⟩
  · have hne' : ¬ (xl : Int) = (ml : Int) := by omega
    clear hxc HMO
    go_enter Try.func73, Try.ntmps73
    go_wp2_with fail
    go_ret
    exact ⟨ret_bool (by simp [sharesB]; omega), (by repeat (first | exact Below.refl _ _ | (refine Below.alloc ?_ (by first | omega | (simp; omega) | simp) _) | (refine Below.setCell ?_ (by first | omega | (simp; omega) | simp) _) | refine Below.drew ?_))⟩
theorem isShares_is (s : FShop) (ma : Option Addr) (ml mc : Nat) (wa : Option Addr) (wl wc : Nat) (na : Option Addr) (nl nc : Nat) (xa : Option Addr) (xl xc : Nat) (x : List Int) (b : Bool) (h : sharesB s.moulds x = b) (w : World) (hp : MouldsAt w ma ml s.moulds) (hx : IntsAt w xa xl x) :
    Calls Try.prog 73 #[.agg #[.slice ma ml mc, .slice wa wl wc, .slice na nl nc, .int .i64 s.fresh], .slice xa xl xc] w fun e w' => e = .returned (.bool b) ∧ Below w.heap.size w w' := h ▸ isShares_any s ma ml mc wa wl wc na nl nc xa xl xc x w hp hx
end Go.Proofs.Ytigeiaiohdemiaa
