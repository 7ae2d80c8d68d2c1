/- The reference's WorldsOf, AreShares; the laws' ready, known. -/
import Derived.Test.YtigeiaiohdemiaaFW
namespace Go.Proofs.Ytigeiaiohdemiaa
set_option linter.unusedVariables false
set_option linter.unusedSimpArgs false
open Go.RowKit

theorem which_len {s : FShop} : ∀ k, k ≤ s.worlds.length → (whichTo s k).length = (s.agreeTo k).length
  | 0, _ => rfl
  | k + 1, h => by
    rw [whichTo_next (by omega), agreeTo_next s k (by omega), List.length_append, List.length_append, which_len k (by omega)]
    cases agreeB s.moulds s.worlds[k] <;> simp
theorem which_left (s : FShop) : s.which.length = s.left.length := by
  unfold FShop.which FShop.left
  rw [List.length_map, which_len _ (Nat.le_refl _), agreeTo_all s _ rfl]
theorem FShop.ok_small {s : FShop} (ho : s.ok = true) : s.huge = false := by
  obtain ⟨h1, h2, h3⟩ := FShop.ok_few ho
  have h4 : (s.worlds.any fun x => decide (40 < x.length)) = false := by
    rw [List.any_eq_false]
    intro x hx
    obtain ⟨k, hk, rfl⟩ := List.getElem_of_mem hx
    have := (FShop.ok_world ho k hk).1
    simp; omega
  simp only [FShop.huge, h4, Bool.or_false]
  simp; omega

set_option maxRecDepth 100000 in
set_option maxHeartbeats 4000000 in
theorem refWorldsOf_any (s : FShop) (ma : Option Addr) (ml mc : Nat) (wa : Option Addr) (wl wc : Nat) (na : Option Addr) (nl nc : Nat) (w : World) (hp : FAt w ma ml mc wa wl wc na nl nc s) (ho : s.ok = true) :
    Calls Try.prog 38 #[.agg #[.slice ma ml mc, .slice wa wl wc, .slice na nl nc, .int .i64 s.fresh]] w fun e w' => ∃ a c, e = .returned (.slice a s.which.length c) ∧ IntsAt w' a s.which.length s.which ∧ Below w.heap.size w w' := by
  have hfew := FShop.ok_few ho
  have HAG := Lib.hid (fun W (hb : Below w.heap.size w W) (k : Nat) (hk : k < s.worlds.length) (b : Bool) (h : agreeB s.moulds s.worlds[k] = b) => refAgreesOf_is s ma ml mc wa wl wc na nl nc k hk (FShop.ok_world ho k hk).1 b h W (hp.below hb))
  have HNX := Lib.hid (fun k hk => whichTo_next (s := s) (k := k) hk)
  have HLE := Lib.hid (fun k => whichTo_len s k)
  have hwl := hp.2.1.1
  have hw6 : wl ≤ 6 := by omega
  have HWL := Lib.hid hwl
  clear hwl hfew ho hp
  go_enter Try.func38, Try.ntmps38
  go_wp2_with fail
  obtain ⟨W0, hW0, hB0, hs0, hz0⟩ := name1k w #[.slice ma ml mc, .slice wa wl wc, .slice na nl nc, .int .i64 s.fresh] 26
  rw [hW0]
  clear hW0
  have HB0 := Lib.hid hB0
  have HS0 := Lib.hid hs0
  clear hB0 hs0
  go_loopw [3, 4] (fun v i wr => ∃ k : Nat, k ≤ wl ∧ i = .int .i64 k ∧ wr.ownsRow W0.heap.size 3 1 v (whichTo s k).length ((whichTo s k).map (Value.int .i64)) ∧ Below W0.heap.size W0 wr) (fun _ i _ => wl - (intOf i).toNat)
  case atStart => exact ⟨0, by omega, rfl, World.ownsRow_nil _ _ _ _, Below.refl _ _⟩
  case round =>
    obtain ⟨k, hk, rfl, hrow, hB⟩ := hrel
    have HROW := Lib.hid hrow
    have HB := Lib.hid hB
    clear hrow
    obtain ⟨W1, rfl⟩ : ∃ W1 : World, W1 = wr := ⟨_, rfl⟩
    have hbx := fun i => (hB.cell (p := ⟨w.heap.size, i, none⟩) hz0).trans (HS0.out i)
    obtain ⟨x0, x1, x2, x3⟩ : W1.cell? ⟨w.heap.size, 0, none⟩ = some (.slice ma ml mc) ∧ W1.cell? ⟨w.heap.size, 1, none⟩ = some (.slice wa wl wc) ∧ W1.cell? ⟨w.heap.size, 2, none⟩ = some (.slice na nl nc) ∧ W1.cell? ⟨w.heap.size, 3, none⟩ = some (.int .i64 s.fresh) := ⟨hbx 0, hbx 1, hbx 2, hbx 3⟩
    have hzr := hB.size
    clear hbx hB
    by_cases hlt : k < wl
    · have hk2 : k < s.worlds.length := by rw [HWL.out]; exact hlt
      have hkl : (k : Int) < (wl : Int) := by omega
      have HNX1 := Lib.hid (HNX.out k hk2)
      have hlen : (whichTo s k).length ≤ 6 := by have := HLE.out k; omega
      rcases hag : agreeB s.moulds s.worlds[k] with - | -
      · have HA := Lib.hid (HAG.out W1 (HB0.out.trans (HB.out.mono HB0.out.size)) k hk2 _ hag)
        have HN := Lib.hid (HNX1.out.trans (show _ = whichTo s k by rw [hag]; simp))
        clear hag
        go_wp2_with fail
        refine HA.out.mono ?_
        rintro e w2 ⟨rfl, hb2⟩
        have HB1 := Lib.hid (HB.out.trans (hb2.mono hzr))
        have HROW1 := Lib.hid (HROW.out.kept (grown_none hb2) (Classical.em _))
        clear hb2
        go_wp2_with fail
        go_roundw
        case rel => exact ⟨k + 1, by omega, by go_num, by rw [HN.out]; exact HROW1.out, HB1.out⟩
        case measure => simp [intOf]; omega
      · have HA := Lib.hid (HAG.out W1 (HB0.out.trans (HB.out.mono HB0.out.size)) k hk2 _ hag)
        have HN := Lib.hid (HNX1.out.trans (show _ = whichTo s k ++ [(k : Int)] by rw [hag]; simp))
        clear hag
        go_wp2_with fail
        refine HA.out.mono ?_
        rintro e w2 ⟨rfl, hb2⟩
        have HB1 := Lib.hid (HB.out.trans (hb2.mono hzr))
        have HROW1 := Lib.hid (HROW.out.kept (grown_none hb2) (Classical.em _))
        clear hb2
        go_wp2_with (at_builtin; refine wpList_append_one _ W0.heap.size _ w2.heap.size _ _ (k : Int) rfl _ _ rfl rfl rfl (HROW1.out.alloc _) (by go_simp) (by omega) (by simp; have := HB1.out.size; omega) ?_; intro v' w5 hown' hgrow; have HO5 := Lib.hid hown'; have HG5 := Lib.hid hgrow; clear hown' hgrow)
        go_roundw
        case rel =>
          refine ⟨k + 1, by omega, by go_num, by rw [HN.out]; simpa using HO5.out, ?_⟩
          refine Below.grown (HB1.out.alloc HB1.out.size _) HG5.out (by simp; have := HB1.out.size; omega) (fun r hr => ?_)
          rcases Nat.lt_or_ge r W0.heap.size with h | h
          · exact absurd hr (own_ge HROW1.out h)
          · exact h
        case measure => simp [intOf]; omega
    · obtain rfl : wl = k := by omega
      have HBW := Lib.hid (HB0.out.trans (HB.out.mono HB0.out.size))
      have hlen : (whichTo s wl).length ≤ 6 := by have := HLE.out wl; omega
      obtain ⟨la, lc, rfl⟩ := own_slice HROW.out
      have HR := Lib.hid (show s.which = whichTo s wl by rw [FShop.which, HWL.out])
      go_wp2_with fail
      go_ret
      exact ⟨la, lc, by rw [HR.out]; rfl, by rw [HR.out]; exact ints_own HROW.out (by unfold maxLen; omega), HBW.out⟩

set_option maxRecDepth 100000 in
set_option maxHeartbeats 4000000 in
theorem refAreShares_any (s : FShop) (ma : Option Addr) (ml mc : Nat) (wa : Option Addr) (wl wc : Nat) (na : Option Addr) (nl nc : Nat) (xa : Option Addr) (xl xc : Nat) (x : List Int) (w : World) (hp : FAt w ma ml mc wa wl wc na nl nc s) (hx : IntsAt w xa xl x) :
    Calls Try.prog 23 #[.agg #[.slice ma ml mc, .slice wa wl wc, .slice na nl nc, .int .i64 s.fresh], .slice xa xl xc] w fun e w' => e = .returned (.bool (sharesB s.moulds x)) ∧ Below w.heap.size w w' := by
  obtain ⟨⟨hml, hmm, hmc⟩, -, -⟩ := hp
  obtain ⟨hxl, hxm, hxc⟩ := hx
  unfold maxLen at hmm hxm
  by_cases hne : xl = ml
  · subst hne
    have HML := Lib.hid hml
    have HXL := Lib.hid hxl
    have HMC := Lib.hid hmc
    have HXC := Lib.hid hxc
    clear hml hxl hmc hxc
    go_enter Try.func23, Try.ntmps23
    go_wp2_with fail
    obtain ⟨W0, hW0, hB0, hs0, hz0⟩ := name1k w #[.slice ma xl mc, .slice wa wl wc, .slice na nl nc, .int .i64 s.fresh] 26
    rw [hW0]
    clear hW0
    have HB0 := Lib.hid hB0
    obtain ⟨x0, x1, x2, x3⟩ : W0.cell? ⟨w.heap.size, 0, none⟩ = some (.slice ma xl mc) ∧ W0.cell? ⟨w.heap.size, 1, none⟩ = some (.slice wa wl wc) ∧ W0.cell? ⟨w.heap.size, 2, none⟩ = some (.slice na nl nc) ∧ W0.cell? ⟨w.heap.size, 3, none⟩ = some (.int .i64 s.fresh) := ⟨hs0 0, hs0 1, hs0 2, hs0 3⟩
    clear hB0 hs0
    go_loopw [5] (fun i wr => ∃ k : Nat, k ≤ xl ∧ i = .int .i64 k ∧ ((s.moulds.zip x).take k).all (fun q => btw q.2 0 q.1.most) = true ∧ W0 = wr) (fun i _ => xl - (intOf i).toNat)
    case atStart => exact ⟨0, by omega, rfl, by simp, rfl⟩
    case round =>
      obtain ⟨k, hk, rfl, hall, rfl⟩ := hrel
      have HALL := Lib.hid hall
      clear hall
      by_cases hlt : k < xl
      · have hk2 : k < s.moulds.length := by rw [HML.out]; exact hlt
        have hk3 : k < x.length := by rw [HXL.out]; exact hlt
        obtain ⟨b, o, rfl, hbB, hcm⟩ := HMC.out (by omega)
        obtain ⟨b', o', rfl, hbB', hcx'⟩ := HXC.out (by omega)
        obtain ⟨c0, c1, c2⟩ := Mould.at_below HB0.out hbB (hcm k hk2)
        have hcx := (HB0.out.cell (p := ⟨b', o' + k, none⟩) hbB').trans (hcx' k hk3)
        have hkl : (k : Int) < (xl : Int) := by omega
        have hk0 : (0 : Int) ≤ (k : Int) := by omega
        have HN := Lib.hid (zip_next HALL.out hk2 hk3)
        have HX := Lib.hid (fun (h : btw x[k] 0 s.moulds[k].most = false) => show sharesB s.moulds x = false by rw [sharesB, zip_no (f := fun q => btw q.2 0 q.1.most) hk2 hk3 h]; simp)
        clear hcm hcx'
        generalize s.moulds[k] = m at *
        generalize x[k] = v at *
        have HWI := Lib.hid (fun b (h : btw v 0 12 = b) W => within_is v 0 12 b h W)
        rcases hb : btw v 0 12 with - | -
        · have HR := Lib.hid (HX.out (by have := Mould.most_bd m; simp [btw] at hb ⊢; omega))
          have HW := Lib.hid (HWI.out _ hb)
          clear HN HX hb HWI
          go_wp2_with fail
          refine (HW.out _).mono ?_
          rintro e w1 ⟨rfl, rfl⟩
          go_wp2_with fail
          go_ret
          exact ⟨ret_bool HR.out.symm, HB0.out⟩
        have HW := Lib.hid (HWI.out _ hb)
        by_cases h1 : 0 < v
        · by_cases h2 : m.b = 1
          · have HR := Lib.hid (HX.out (by simp [btw, Mould.most, h2]; omega))
            clear HN HX hb HWI
            go_wp2_with fail
            refine (HW.out _).mono ?_
            rintro e w1 ⟨rfl, rfl⟩
            go_wp2_with fail
            go_ret
            exact ⟨ret_bool HR.out.symm, HB0.out⟩
          · have HR := Lib.hid (HN.out.trans (show btw v 0 m.most = true by simp [btw, Mould.most, h2] at hb ⊢; omega))
            clear HN HX hb HWI
            go_wp2_with fail
            refine (HW.out _).mono ?_
            rintro e w1 ⟨rfl, rfl⟩
            go_wp2_with fail
            go_roundw
            case rel => exact ⟨k + 1, by omega, by go_num, HR.out, trivial⟩
            case measure => simp [intOf]; omega
        · have HR := Lib.hid (HN.out.trans (show btw v 0 m.most = true by have := Mould.most_bd m; simp [btw] at hb ⊢; omega))
          clear HN HX hb HWI
          go_wp2_with fail
          refine (HW.out _).mono ?_
          rintro e w1 ⟨rfl, rfl⟩
          go_wp2_with fail
          go_roundw
          case rel => exact ⟨k + 1, by omega, by go_num, HR.out, trivial⟩
          case measure => simp [intOf]; omega
      · obtain rfl : xl = k := by omega
        have HR := Lib.hid (show sharesB s.moulds x = true by rw [sharesB, zip_done HALL.out HML.out, HXL.out, HML.out]; simp)
        go_wp2_with fail
        go_ret
        exact ⟨ret_bool HR.out.symm, HB0.out⟩
  · have hne' : ¬ (xl : Int) = (ml : Int) := by omega
    have HR := Lib.hid (show sharesB s.moulds x = false by simp [sharesB]; omega)
    clear hmc hxc
    go_enter Try.func23, Try.ntmps23
    go_wp2_with fail
    go_ret
    exact ⟨ret_bool HR.out.symm, (by repeat (first | exact Below.refl _ _ | (refine Below.alloc ?_ (by first | omega | (simp; omega) | simp) _) | (refine Below.setCell ?_ (by first | omega | (simp; omega) | simp) _) | refine Below.drew ?_))⟩
theorem refAreShares_is (s : FShop) (ma : Option Addr) (ml mc : Nat) (wa : Option Addr) (wl wc : Nat) (na : Option Addr) (nl nc : Nat) (xa : Option Addr) (xl xc : Nat) (x : List Int) (b : Bool) (h : sharesB s.moulds x = b) (w : World) (hp : FAt w ma ml mc wa wl wc na nl nc s) (hx : IntsAt w xa xl x) :
    Calls Try.prog 23 #[.agg #[.slice ma ml mc, .slice wa wl wc, .slice na nl nc, .int .i64 s.fresh], .slice xa xl xc] w fun e w' => e = .returned (.bool b) ∧ Below w.heap.size w w' := h ▸ refAreShares_any s ma ml mc wa wl wc na nl nc xa xl xc x w hp hx

set_option maxHeartbeats 1000000 in
theorem ready_any (s : FShop) (ma : Option Addr) (ml mc : Nat) (wa : Option Addr) (wl wc : Nat) (na : Option Addr) (nl nc : Nat) (w : World) (hp : FAt w ma ml mc wa wl wc na nl nc s) :
    Calls Try.prog 15 #[.agg #[.slice ma ml mc, .slice wa wl wc, .slice na nl nc, .int .i64 s.fresh]] w fun e w' => e = .returned (.bool s.ok) ∧ Below w.heap.size w w' := by
  have HH := Lib.hid (fun b (h : s.huge = b) w1 (hb : Below w.heap.size w w1) => Huge_is s ma ml mc wa wl wc na nl nc b h w1 (hp.below hb))
  have HC := Lib.hid (fun v (h : s.chk = v) w1 (hb : Below w.heap.size w w1) => refCheck_is s ma ml mc wa wl wc na nl nc v h w1 (hp.below hb))
  clear hp
  rcases hg : s.huge with - | -
  · have HH1 := Lib.hid (HH.out _ hg)
    rcases ho : s.ok with - | -
    · have HC1 := Lib.hid (HC.out 20 (by simp [FShop.chk, ho]))
      clear hg ho
      go_enter Try.func15, Try.ntmps15
      go_wp2_with fail
      refine (HH1.out _ (by repeat (first | exact Below.refl _ _ | (refine Below.alloc ?_ (by first | omega | (simp; omega) | simp) _) | (refine Below.setCell ?_ (by first | omega | (simp; omega) | simp) _) | refine Below.drew ?_))).mono ?_
      rintro e w1 ⟨rfl, hb1⟩
      obtain ⟨hc1, hf1⟩ := bcell hb1
      have hz1 := hb1.size
      simp at hz1
      have hw1 := ((by repeat (first | exact Below.refl _ _ | (refine Below.alloc ?_ (by first | omega | (simp; omega) | simp) _) | (refine Below.setCell ?_ (by first | omega | (simp; omega) | simp) _) | refine Below.drew ?_)) : Below w.heap.size w _).trans (hb1.mono (by first | (simp; done) | (simp; omega) | omega))
      have q1 : w.heap.size < w1.heap.size := by omega
      clear hb1
      go_wp2_with fail
      refine (HC1.out _ (by repeat (first | assumption | exact Below.refl _ _ | (refine Below.alloc ?_ (by first | omega | (simp; omega) | simp) _) | (refine Below.setCell ?_ (by first | omega | (simp; omega) | simp) _) | refine Below.drew ?_))).mono ?_
      rintro e w2 ⟨rfl, hb2⟩
      have hw2 := hw1.trans (hb2.mono hw1.size)
      go_wp2_with fail
      go_ret
      exact ⟨rfl, hw2⟩
    · have HC1 := Lib.hid (HC.out 0 (by simp [FShop.chk, ho]))
      clear hg ho
      go_enter Try.func15, Try.ntmps15
      go_wp2_with fail
      refine (HH1.out _ (by repeat (first | exact Below.refl _ _ | (refine Below.alloc ?_ (by first | omega | (simp; omega) | simp) _) | (refine Below.setCell ?_ (by first | omega | (simp; omega) | simp) _) | refine Below.drew ?_))).mono ?_
      rintro e w1 ⟨rfl, hb1⟩
      obtain ⟨hc1, hf1⟩ := bcell hb1
      have hz1 := hb1.size
      simp at hz1
      have hw1 := ((by repeat (first | exact Below.refl _ _ | (refine Below.alloc ?_ (by first | omega | (simp; omega) | simp) _) | (refine Below.setCell ?_ (by first | omega | (simp; omega) | simp) _) | refine Below.drew ?_)) : Below w.heap.size w _).trans (hb1.mono (by first | (simp; done) | (simp; omega) | omega))
      have q1 : w.heap.size < w1.heap.size := by omega
      clear hb1
      go_wp2_with fail
      refine (HC1.out _ (by repeat (first | assumption | exact Below.refl _ _ | (refine Below.alloc ?_ (by first | omega | (simp; omega) | simp) _) | (refine Below.setCell ?_ (by first | omega | (simp; omega) | simp) _) | refine Below.drew ?_))).mono ?_
      rintro e w2 ⟨rfl, hb2⟩
      have hw2 := hw1.trans (hb2.mono hw1.size)
      go_wp2_with fail
      go_ret
      exact ⟨rfl, hw2⟩
  · have HH1 := Lib.hid (HH.out _ hg)
    have ho : s.ok = false := by
      rcases h : s.ok with - | -
      · rfl
      · rw [FShop.ok_small h] at hg; cases hg
    have HO := Lib.hid ho
    clear hg ho
    go_enter Try.func15, Try.ntmps15
    go_wp2_with fail
    refine (HH1.out _ (by repeat (first | exact Below.refl _ _ | (refine Below.alloc ?_ (by first | omega | (simp; omega) | simp) _) | (refine Below.setCell ?_ (by first | omega | (simp; omega) | simp) _) | refine Below.drew ?_))).mono ?_
    rintro e w1 ⟨rfl, hb1⟩
    have hw1 := ((by repeat (first | exact Below.refl _ _ | (refine Below.alloc ?_ (by first | omega | (simp; omega) | simp) _) | (refine Below.setCell ?_ (by first | omega | (simp; omega) | simp) _) | refine Below.drew ?_)) : Below w.heap.size w _).trans (hb1.mono (by first | (simp; done) | (simp; omega) | omega))
    clear hb1
    go_wp2_with fail
    go_ret
    exact ⟨ret_bool HO.out.symm, hw1⟩
theorem ready_is (s : FShop) (ma : Option Addr) (ml mc : Nat) (wa : Option Addr) (wl wc : Nat) (na : Option Addr) (nl nc : Nat) (b : Bool) (h : s.ok = b) (w : World) (hp : FAt w ma ml mc wa wl wc na nl nc s) :
    Calls Try.prog 15 #[.agg #[.slice ma ml mc, .slice wa wl wc, .slice na nl nc, .int .i64 s.fresh]] w fun e w' => e = .returned (.bool b) ∧ Below w.heap.size w w' := h ▸ ready_any s ma ml mc wa wl wc na nl nc w hp

def FShop.known (s : FShop) : Bool := s.ok && decide (0 < s.left.length)
set_option maxHeartbeats 1000000 in
theorem known_any (s : FShop) (ma : Option Addr) (ml mc : Nat) (wa : Option Addr) (wl wc : Nat) (na : Option Addr) (nl nc : Nat) (w : World) (hp : FAt w ma ml mc wa wl wc na nl nc s) :
    Calls Try.prog 28 #[.agg #[.slice ma ml mc, .slice wa wl wc, .slice na nl nc, .int .i64 s.fresh]] w fun e w' => e = .returned (.bool s.known) ∧ Below w.heap.size w w' := by
  have HR := Lib.hid (fun b (h : s.ok = b) w1 (hb : Below w.heap.size w w1) => ready_is s ma ml mc wa wl wc na nl nc b h w1 (hp.below hb))
  have HK := Lib.hid (fun (h : s.ok = true) w1 (hb : Below w.heap.size w w1) => refWorldsOf_any s ma ml mc wa wl wc na nl nc w1 (hp.below hb) h)
  clear hp
  rcases ho : s.ok with - | -
  · have HR1 := Lib.hid (HR.out _ ho)
    have HN := Lib.hid (show s.known = false by simp [FShop.known, ho])
    clear ho
    go_enter Try.func28, Try.ntmps28
    go_wp2_with fail
    refine (HR1.out _ (by repeat (first | exact Below.refl _ _ | (refine Below.alloc ?_ (by first | omega | (simp; omega) | simp) _) | (refine Below.setCell ?_ (by first | omega | (simp; omega) | simp) _) | refine Below.drew ?_))).mono ?_
    rintro e w1 ⟨rfl, hb1⟩
    have hw1 := ((by repeat (first | exact Below.refl _ _ | (refine Below.alloc ?_ (by first | omega | (simp; omega) | simp) _) | (refine Below.setCell ?_ (by first | omega | (simp; omega) | simp) _) | refine Below.drew ?_)) : Below w.heap.size w _).trans (hb1.mono (by first | (simp; done) | (simp; omega) | omega))
    clear hb1
    go_wp2_with fail
    go_ret
    exact ⟨ret_bool HN.out.symm, hw1⟩
  · have HR1 := Lib.hid (HR.out _ ho)
    have HK1 := Lib.hid (HK.out ho)
    have HN := Lib.hid (show s.known = decide (0 < s.which.length) by simp [FShop.known, ho, which_left])
    clear ho
    generalize s.which = wh at *
    go_enter Try.func28, Try.ntmps28
    go_wp2_with fail
    refine (HR1.out _ (by repeat (first | exact Below.refl _ _ | (refine Below.alloc ?_ (by first | omega | (simp; omega) | simp) _) | (refine Below.setCell ?_ (by first | omega | (simp; omega) | simp) _) | refine Below.drew ?_))).mono ?_
    rintro e w1 ⟨rfl, hb1⟩
    obtain ⟨hc1, hf1⟩ := bcell hb1
    have hz1 := hb1.size
    simp at hz1
    have hw1 := ((by repeat (first | exact Below.refl _ _ | (refine Below.alloc ?_ (by first | omega | (simp; omega) | simp) _) | (refine Below.setCell ?_ (by first | omega | (simp; omega) | simp) _) | refine Below.drew ?_)) : Below w.heap.size w _).trans (hb1.mono (by first | (simp; done) | (simp; omega) | omega))
    have q1 : w.heap.size < w1.heap.size := by omega
    clear hb1
    go_wp2_with fail
    refine (HK1.out _ (by repeat (first | assumption | exact Below.refl _ _ | (refine Below.alloc ?_ (by first | omega | (simp; omega) | simp) _) | (refine Below.setCell ?_ (by first | omega | (simp; omega) | simp) _) | refine Below.drew ?_))).mono ?_
    rintro e w2 ⟨la, lc, rfl, -, hb2⟩
    have hw2 := hw1.trans (hb2.mono hw1.size)
    go_wp2_with fail
    go_ret
    exact ⟨ret_bool (by rw [HN.out]), hw2⟩
theorem known_is (s : FShop) (ma : Option Addr) (ml mc : Nat) (wa : Option Addr) (wl wc : Nat) (na : Option Addr) (nl nc : Nat) (b : Bool) (h : s.known = b) (w : World) (hp : FAt w ma ml mc wa wl wc na nl nc s) :
    Calls Try.prog 28 #[.agg #[.slice ma ml mc, .slice wa wl wc, .slice na nl nc, .int .i64 s.fresh]] w fun e w' => e = .returned (.bool b) ∧ Below w.heap.size w w' := h ▸ known_any s ma ml mc wa wl wc na nl nc w hp
end Go.Proofs.Ytigeiaiohdemiaa
