/- The law of each world: the walk. -/
import Derived.Test.YtgniblcagjdpnaaGF
namespace Go.Proofs.Ytgniblcagjdpnaa
set_option linter.unusedVariables false
set_option linter.unusedSimpArgs false
open Go.RowKit

set_option maxRecDepth 100000 in
set_option maxHeartbeats 8000000 in
theorem each_yes (s : FShop) (ma : Option Addr) (ml mc : Nat) (wa : Option Addr) (wl wc : Nat) (na : Option Addr) (nl nc : Nat) (j : Nat) (hj : j < s.worlds.length) (xa : Option Addr) (xl xc : Nat) (x : List Int) (w : World) (hp : FAt w ma ml mc wa wl wc na nl nc s) (hx : IntsAt w xa xl x)
    (ho : s.ok = true) (hag : agreeB s.moulds s.worlds[j] = true) (h40 : xl ≤ 40) :
    Calls Try.prog 3 #[.agg #[.slice ma ml mc, .slice wa wl wc, .slice na nl nc, .int .i64 s.fresh], .int .i64 j, .slice xa xl xc] w fun e w' => e = .returned (.bool true) ∧ Below w.heap.size w w' := by
  have hcL := left_mem hj hag
  have hl0 : 0 < s.left.length := List.length_pos_of_mem hcL
  have hfew := FShop.ok_few ho
  have hml := hp.1.1
  have hwl := hp.2.1.1
  have hwm := hp.2.1.2.1
  have HR1 := Lib.hid (fun W (hb : Below w.heap.size w W) => ready_is s ma ml mc wa wl wc na nl nc true ho W (hp.below hb))
  have HI1 := Lib.hid (fun W => IsWorld_is s ma ml mc wa wl wc na nl nc (j : Int) W hwm true (by simp [btw]; omega))
  have HA1 := Lib.hid (fun W (hb : Below w.heap.size w W) => refAgreesOf_is s ma ml mc wa wl wc na nl nc j hj (FShop.ok_world ho j hj).1 true hag W (hp.below hb))
  have HLL := Lib.hid (fun W (hb : Below w.heap.size w W) => lawLefts_yes s ma ml mc wa wl wc na nl nc W (hp.below hb) ho hl0)
  have HWO := Lib.hid (fun W (hb : Below w.heap.size w W) => Worlds_yes s ma ml mc wa wl wc na nl nc W (hp.below hb) ho (by simp [FShop.chk, ho]))
  have hwn : s.which.length ≤ wl := by have := whichTo_len s s.worlds.length; unfold FShop.which; omega
  have HIN := Lib.hid (fun W a c (hi : IntsAt W a s.which.length s.which) => In_is a s.which.length c s.which (j : Int) true (decide_eq_true (which_mem hj hag)) W hi)
  have HLI := Lib.hid (fun i (hi : i < ml) v (hv : cst s.moulds s.worlds[j] i = v) W (hb : Below w.heap.size w W) => show Calls Try.prog 22 #[.agg #[.slice ma ml mc, .slice wa wl wc, .slice na nl nc, .int .i64 s.fresh], .int .i64 j, .int .i64 i] W fun e w' => e = .returned (.int .i64 v) ∧ Below W.heap.size W w' from hv ▸ LeftIn_is s ma ml mc wa wl wc na nl nc j i hj (by omega) ho W (hp.below hb))
  have HSH := Lib.hid (fun b (h : sharesB s.moulds x = b) W (hb : Below w.heap.size w W) => refAreShares_is s ma ml mc wa wl wc na nl nc xa xl xc x b h W (hp.below hb) (hx.below hb))
  obtain ⟨so, hso⟩ : ∃ so, holdB (cst s.moulds s.worlds[j]) x = so := ⟨_, rfl⟩
  obtain ⟨hv, hhv⟩ : ∃ hv, holdsR (holdN s.left x) s.left.length = hv := ⟨_, rfl⟩
  obtain ⟨fl, hfl⟩ : ∃ fl, failsOf (loOf s.left) x = fl := ⟨_, rfl⟩
  obtain ⟨fn, hfn⟩ : ∃ fn, fl.length = fn := ⟨_, rfl⟩
  have HHO := Lib.hid (fun (hsx : sharesB s.moulds x = true) W (hb : Below w.heap.size w W) (ga : Option Addr) (gc : Nat) (hi : IntsAt W ga xl x) => show Calls Try.prog 24 #[.agg #[.slice ma ml mc, .slice wa wl wc, .slice na nl nc, .int .i64 s.fresh], .slice ga xl gc] W fun e w' => e = .returned (.tuple #[.int .i64 hv, .int .i64 0]) ∧ Below W.heap.size W w' from by
    have h := Holds_yes s ma ml mc wa wl wc na nl nc ga xl gc x W (hp.below hb) hi ho hsx hl0
    rwa [hhv] at h)
  have HFA := Lib.hid (fun (hsx : sharesB s.moulds x = true) W (hb : Below w.heap.size w W) (ga : Option Addr) (gc : Nat) (hi : IntsAt W ga xl x) => show Calls Try.prog 25 #[.agg #[.slice ma ml mc, .slice wa wl wc, .slice na nl nc, .int .i64 s.fresh], .slice ga xl gc] W fun e w' => (∃ a c, e = .returned (.tuple #[.slice a fn c, .int .i64 0]) ∧ IntsAt w' a fn fl) ∧ Below W.heap.size W w' from by
    have h := Fails_yes s ma ml mc wa wl wc na nl nc ga xl gc x W (hp.below hb) hi ho hsx hl0
    rw [hfl] at h
    unfold OutPost at h
    rw [hfn] at h
    exact h.mono fun e w' ⟨a, c, h1, h2, h3⟩ => ⟨⟨a, c, h1, h2⟩, h3⟩)
  have HHI := Lib.hid (fun (hsx : sharesB s.moulds x = true) W (hb : Below w.heap.size w W) => show Calls Try.prog 26 #[.agg #[.slice ma ml mc, .slice wa wl wc, .slice na nl nc, .int .i64 s.fresh], .slice xa xl xc, .int .i64 j] W fun e w' => e = .returned (.bool so) ∧ Below W.heap.size W w' from hso ▸ HoldsIn_any s ma ml mc wa wl wc na nl nc xa xl xc x j hj ho W (hp.below hb) (hx.below hb) (shares_bd hsx).1)
  have HXM := Lib.hid (fun (hsx : sharesB s.moulds x = true) => show xl = ml by have := (shares_bd hsx).1; have := hx.1; omega)
  have HF := Lib.hid (show (hv = 1 ∧ so = true ∧ fn = 0) ∨ (hv = 2 ∧ so = false ∧ fn ≠ 0) ∨ (hv = 3 ∧ fn ≠ 0) from by
    rw [← hhv, ← hso, ← hfn, ← hfl]
    have e0 : (failsOf (loOf s.left) x).length = 0 ↔ holdN s.left x = s.left.length := by rw [hold_fails hl0, List.length_eq_zero_iff]
    unfold holdsR
    by_cases h1 : holdN s.left x = s.left.length
    · exact .inl ⟨by rw [if_pos h1], hold_all hcL h1, e0.2 h1⟩
    · by_cases h2 : holdN s.left x = 0
      · exact .inr (.inl ⟨by rw [if_neg h1, if_pos h2], hold_none hcL h2, fun e => h1 (e0.1 e)⟩)
      · exact .inr (.inr ⟨by rw [if_neg h1, if_neg h2], fun e => h1 (e0.1 e)⟩))
  have HFI := Lib.hid (fun i (hi : i < x.length) (h : cst s.moulds s.worlds[j] i < x[i]) W a c (hin : IntsAt W a fn fl) => In_is a fn c fl (i : Int) true (decide_eq_true (by rw [← hfl]; exact fails_mem hi (by have := (lo_mem i hcL).1; omega))) W hin)
  have HFL := Lib.hid (show fn ≤ xl from by rw [← hfn, ← hfl]; have := failsTo_len (loOf s.left) x x.length; have := hx.1; unfold failsOf; omega)
  have HLO := Lib.hid (fun i => lo_mem i hcL)
  have HSX := Lib.hid (fun W (hb : Below w.heap.size w W) h0 => ints_src2 (hx.below hb) h0)
  have hxc : (x.map (Value.int .i64)).length = xl * 1 := by simp [hx.1]
  have HXC := Lib.hid hx.2.2
  have HXL := Lib.hid hx.1
  have hm5 : ml ≤ 5 := by omega
  have hw6 : wl ≤ 6 := by omega
  have h40' : ¬ (40 : Int) < (xl : Int) := by omega
  have hwn' : ¬ (wl : Int) < (s.which.length : Int) := by omega
  have hxl0 : xl ≤ maxLen := by unfold maxLen; omega
  have hxl1000 : xl ≤ 1000 := by omega
  obtain ⟨c, hc⟩ : ∃ c, cst s.moulds s.worlds[j] = c := ⟨_, rfl⟩
  rw [hc] at HLI HFI HLO
  clear hso hhv hfl hfn hp hx ho hag hj hcL hl0 hfew hml hwl hwm hwn hc
  generalize s.which = wh at *
  generalize s.left = L at *
  go_enter Try.func3, Try.ntmps3
  go_wp2_with fail
  refine (HR1.out _ (by repeat (first | exact Below.refl _ _ | (refine Below.alloc ?_ (by first | omega | (simp; omega) | simp) _) | (refine Below.setCell ?_ (by first | omega | (simp; omega) | simp) _) | refine Below.drew ?_))).mono ?_
  rintro e w1 ⟨rfl, hb1⟩
  obtain ⟨hc1, hf1⟩ := bcell hb1
  have hz1 := hb1.size
  simp at hz1
  have hw1 := ((by repeat (first | exact Below.refl _ _ | (refine Below.alloc ?_ (by first | omega | (simp; omega) | simp) _) | (refine Below.setCell ?_ (by first | omega | (simp; omega) | simp) _) | refine Below.drew ?_)) : Below w.heap.size w _).trans (hb1.mono (by first | (simp; done) | (simp; omega) | omega))
  have q1 : w.heap.size < w1.heap.size := by omega
  clear hb1
  go_wp2_with fail
  refine (HI1.out _).mono ?_
  rintro e w2 ⟨rfl, hb2⟩
  obtain ⟨hc2, hf2⟩ := bcell hb2
  have hz2 := hb2.size
  have hw2 := hw1.trans (hb2.mono hw1.size)
  have q2 : w.heap.size < w2.heap.size := by omega
  clear hb2
  go_wp2_with fail
  refine (HA1.out _ (by repeat (first | assumption | exact Below.refl _ _ | (refine Below.alloc ?_ (by first | omega | (simp; omega) | simp) _) | (refine Below.setCell ?_ (by first | omega | (simp; omega) | simp) _) | refine Below.drew ?_))).mono ?_
  rintro e w3 ⟨rfl, hb3⟩
  have hz3 := hb3.size
  have hw3 := hw2.trans (hb3.mono hw2.size)
  have x0 : w3.cell? ⟨w.heap.size, 0, none⟩ = some (.slice ma ml mc) := (hb3.cell (p := ⟨w.heap.size, 0, none⟩) q2).trans ((hc2 _ _ q1).trans ((hc1 _ _ (by simp)).trans (by go_simp)))
  have x1 : w3.cell? ⟨w.heap.size, 1, none⟩ = some (.slice wa wl wc) := (hb3.cell (p := ⟨w.heap.size, 1, none⟩) q2).trans ((hc2 _ _ q1).trans ((hc1 _ _ (by simp)).trans (by go_simp)))
  have x2 : w3.cell? ⟨w.heap.size, 2, none⟩ = some (.slice na nl nc) := (hb3.cell (p := ⟨w.heap.size, 2, none⟩) q2).trans ((hc2 _ _ q1).trans ((hc1 _ _ (by simp)).trans (by go_simp)))
  have x3 : w3.cell? ⟨w.heap.size, 3, none⟩ = some (.int .i64 s.fresh) := (hb3.cell (p := ⟨w.heap.size, 3, none⟩) q2).trans ((hc2 _ _ q1).trans ((hc1 _ _ (by simp)).trans (by go_simp)))
  have q3 : w.heap.size < w3.heap.size := by omega
  have HW3 := Lib.hid hw3
  clear hb3 hc1 hf1 hc2 hf2 hw1 hw2 hw3 hz1 hz2 hz3 q1 q2
  go_wp2_with fail
  refine (HLL.out _ HW3.out).mono ?_
  rintro e w4 ⟨la, lc, rfl, hsp, hb4⟩
  obtain ⟨y0, y1, y2, y3⟩ : w4.cell? ⟨w.heap.size, 0, none⟩ = some (.slice ma ml mc) ∧ w4.cell? ⟨w.heap.size, 1, none⟩ = some (.slice wa wl wc) ∧ w4.cell? ⟨w.heap.size, 2, none⟩ = some (.slice na nl nc) ∧ w4.cell? ⟨w.heap.size, 3, none⟩ = some (.int .i64 s.fresh) := ⟨(hb4.cell (p := ⟨w.heap.size, 0, none⟩) q3).trans x0, (hb4.cell (p := ⟨w.heap.size, 1, none⟩) q3).trans x1, (hb4.cell (p := ⟨w.heap.size, 2, none⟩) q3).trans x2, (hb4.cell (p := ⟨w.heap.size, 3, none⟩) q3).trans x3⟩
  have HW4 := Lib.hid (HW3.out.trans (hb4.mono HW3.out.size))
  have q4 : w.heap.size < w4.heap.size := Nat.lt_of_lt_of_le q3 hb4.size
  have HSP4 := Lib.hid hsp
  clear hsp hb4 x0 x1 x2 x3 q3
  go_wp2_with fail
  refine (HWO.out _ HW4.out).mono ?_
  rintro e w5 ⟨ha, hc, rfl, hwi, hb5⟩
  obtain ⟨x0, x1, x2, x3⟩ : w5.cell? ⟨w.heap.size, 0, none⟩ = some (.slice ma ml mc) ∧ w5.cell? ⟨w.heap.size, 1, none⟩ = some (.slice wa wl wc) ∧ w5.cell? ⟨w.heap.size, 2, none⟩ = some (.slice na nl nc) ∧ w5.cell? ⟨w.heap.size, 3, none⟩ = some (.int .i64 s.fresh) := ⟨(hb5.cell (p := ⟨w.heap.size, 0, none⟩) q4).trans y0, (hb5.cell (p := ⟨w.heap.size, 1, none⟩) q4).trans y1, (hb5.cell (p := ⟨w.heap.size, 2, none⟩) q4).trans y2, (hb5.cell (p := ⟨w.heap.size, 3, none⟩) q4).trans y3⟩
  have HW5 := Lib.hid (HW4.out.trans (hb5.mono HW4.out.size))
  have q5 : w.heap.size < w5.heap.size := Nat.lt_of_lt_of_le q4 hb5.size
  have HSP5 := Lib.hid (HSP4.out.below hb5)
  have HWI := Lib.hid hwi
  clear hwi hb5 y0 y1 y2 y3 q4
  go_wp2_with fail
  refine (HIN.out _ _ _ HWI.out).mono ?_
  rintro e w6 ⟨rfl, hb6⟩
  obtain ⟨y0, y1, y2, y3⟩ : w6.cell? ⟨w.heap.size, 0, none⟩ = some (.slice ma ml mc) ∧ w6.cell? ⟨w.heap.size, 1, none⟩ = some (.slice wa wl wc) ∧ w6.cell? ⟨w.heap.size, 2, none⟩ = some (.slice na nl nc) ∧ w6.cell? ⟨w.heap.size, 3, none⟩ = some (.int .i64 s.fresh) := ⟨(hb6.cell (p := ⟨w.heap.size, 0, none⟩) q5).trans x0, (hb6.cell (p := ⟨w.heap.size, 1, none⟩) q5).trans x1, (hb6.cell (p := ⟨w.heap.size, 2, none⟩) q5).trans x2, (hb6.cell (p := ⟨w.heap.size, 3, none⟩) q5).trans x3⟩
  have HW6 := Lib.hid (HW5.out.trans (hb6.mono HW5.out.size))
  have q6 : w.heap.size < w6.heap.size := Nat.lt_of_lt_of_le q5 hb6.size
  have HSP6 := Lib.hid (HSP5.out.below hb6)
  have HBX := Lib.hid (show w6.cell? ⟨w.heap.size, 0, none⟩ = some (.slice ma ml mc) ∧ w6.cell? ⟨w.heap.size, 1, none⟩ = some (.slice wa wl wc) ∧ w6.cell? ⟨w.heap.size, 2, none⟩ = some (.slice na nl nc) ∧ w6.cell? ⟨w.heap.size, 3, none⟩ = some (.int .i64 s.fresh) from ⟨y0, y1, y2, y3⟩)
  clear hb6 x0 x1 x2 x3 q5
  go_wp2_with fail
  clear y0 y1 y2 y3
  have hwd : decide ((wl : Int) < (wh.length : Int)) = false := by simp; omega
  have hwd' : decide (wl < wh.length) = false := by simp; omega
  first | rw [hwd] | rw [hwd']
  clear hwn' hwd hwd'
  go_loopw [11] (fun i wr => ∃ k : Nat, k ≤ ml ∧ i = .int .i64 k ∧ Below w6.heap.size w6 wr) (fun i _ => ml - (intOf i).toNat)
  case atStart => exact ⟨0, by omega, rfl, Below.refl _ _⟩
  case round =>
    obtain ⟨k, hk, rfl, hB⟩ := hrel
    obtain ⟨y0, y1, y2, y3⟩ := HBX.out
    obtain ⟨x0, x1, x2, x3⟩ : wr.cell? ⟨w.heap.size, 0, none⟩ = some (.slice ma ml mc) ∧ wr.cell? ⟨w.heap.size, 1, none⟩ = some (.slice wa wl wc) ∧ wr.cell? ⟨w.heap.size, 2, none⟩ = some (.slice na nl nc) ∧ wr.cell? ⟨w.heap.size, 3, none⟩ = some (.int .i64 s.fresh) := ⟨(hB.cell (p := ⟨w.heap.size, 0, none⟩) q6).trans y0, (hB.cell (p := ⟨w.heap.size, 1, none⟩) q6).trans y1, (hB.cell (p := ⟨w.heap.size, 2, none⟩) q6).trans y2, (hB.cell (p := ⟨w.heap.size, 3, none⟩) q6).trans y3⟩
    have HB := Lib.hid hB
    have HBW := Lib.hid (HW6.out.trans (hB.mono HW6.out.size))
    clear y0 y1 y2 y3
    by_cases hlt : k < ml
    · obtain ⟨ck, hck⟩ : ∃ ck, c k = ck := ⟨_, rfl⟩
      have HL1 := Lib.hid (HLI.out k hlt ck (by rw [hck]) wr HBW.out)
      obtain ⟨sb, so', rfl, hsb, hscell⟩ := HSP6.out (by omega)
      obtain ⟨c0, c1⟩ := hscell k hlt
      obtain ⟨h1, h2⟩ := HLO.out k
      rw [hck] at h1 h2
      have h1' : ¬ ck < loOf L k := by omega
      have h2' : ¬ hiOf L k < ck := by omega
      have hkl : (k : Int) < (ml : Int) := by omega
      have hk0 : (0 : Int) ≤ (k : Int) := by omega
      have d0 := (hB.cell (p := ⟨sb, so' + k * 2, none⟩) hsb).trans c0
      have d1 := (hB.cell (p := ⟨sb, so' + k * 2 + 1, none⟩) hsb).trans c1
      have hsr := Nat.lt_of_lt_of_le hsb hB.size
      clear hB hscell c0 c1 hck h1 h2
      generalize loOf L k = lo at *
      generalize hiOf L k = hi at *
      go_wp2_with fail
      refine HL1.out.mono ?_
      rintro e w7 ⟨rfl, hb7⟩
      have e0 := (hb7.cell (p := ⟨sb, so' + k * 2, none⟩) hsr).trans d0
      have e1 := (hb7.cell (p := ⟨sb, so' + k * 2 + 1, none⟩) hsr).trans d1
      have HB7 := Lib.hid (HB.out.trans (hb7.mono HB.out.size))
      clear hb7 d0 d1
      go_wp2_with fail
      go_roundw
      case rel => exact ⟨k + 1, by omega, by go_num, HB7.out⟩
      case measure => simp [intOf]; omega
    · obtain rfl : ml = k := by omega
      clear hlt hk
      have HZ := Lib.hid hB.size
      have q7 : w.heap.size < wr.heap.size := Nat.lt_of_lt_of_le q6 hB.size
      clear hB
      rcases hsx : sharesB s.moulds x with - | -
      · have HS1 := Lib.hid (HSH.out _ hsx)
        clear hsx
        go_wp2_with fail
        refine (HS1.out _ HBW.out).mono ?_
        rintro e w8 ⟨rfl, hb8⟩
        have HB8 := Lib.hid (HBW.out.trans (hb8.mono HBW.out.size))
        clear hb8
        go_wp2_with fail
        refine (works_any _).mono ?_
        rintro e w9 ⟨rfl, hb9⟩
        go_wp2_with fail
        go_ret
        exact ⟨rfl, HB8.out.trans (hb9.mono HB8.out.size)⟩
      · have HS1 := Lib.hid (HSH.out _ hsx)
        have HHO1 := Lib.hid (HHO.out hsx)
        have HFA1 := Lib.hid (HFA.out hsx)
        have HHI1 := Lib.hid (HHI.out hsx)
        obtain rfl : ml = xl := (HXM.out hsx).symm
        clear hsx
        go_wp2_with fail
        refine (HS1.out _ HBW.out).mono ?_
        rintro e w8 ⟨rfl, hb8⟩
        have HB8 := Lib.hid (HBW.out.trans (hb8.mono HBW.out.size))
        obtain ⟨y0, y1, y2, y3⟩ : w8.cell? ⟨w.heap.size, 0, none⟩ = some (.slice ma ml mc) ∧ w8.cell? ⟨w.heap.size, 1, none⟩ = some (.slice wa wl wc) ∧ w8.cell? ⟨w.heap.size, 2, none⟩ = some (.slice na nl nc) ∧ w8.cell? ⟨w.heap.size, 3, none⟩ = some (.int .i64 s.fresh) := ⟨(hb8.cell (p := ⟨w.heap.size, 0, none⟩) q7).trans x0, (hb8.cell (p := ⟨w.heap.size, 1, none⟩) q7).trans x1, (hb8.cell (p := ⟨w.heap.size, 2, none⟩) q7).trans x2, (hb8.cell (p := ⟨w.heap.size, 3, none⟩) q7).trans x3⟩
        have q8 : w.heap.size < w8.heap.size := Nat.lt_of_lt_of_le q7 hb8.size
        clear hb8 x0 x1 x2 x3 q7
        have hw8 := HB8.out
        have HHX := Lib.hid (fun W (h : Below w8.heap.size w8 W ∧ ∀ b o, b < w8.heap.size → W.cell? ⟨b, o, none⟩ = w8.cell? ⟨b, o, none⟩) ga gc hi => bothS1 (W0 := w8) (HHO1.out W (hw8.trans (h.1.mono hw8.size)) ga gc hi) h)
        have HSX8 := Lib.hid (fun W (h : Below w8.heap.size w8 W ∧ ∀ b o, b < w8.heap.size → W.cell? ⟨b, o, none⟩ = w8.cell? ⟨b, o, none⟩) h0 => HSX.out W (hw8.trans (h.1.mono hw8.size)) h0)
        clear hw8
        go_upto_region 15 with fail
        go_cut [13, 14] (fun v7 v8 wx => v7 = .int .i64 hv ∧ v8 = .int .i64 0 ∧ Below w8.heap.size w8 wx)
        case first =>
          go_region_held3 (fun w' => Below w8.heap.size w8 w' ∧ ∀ b o, b < w8.heap.size → w'.cell? ⟨b, o, none⟩ = w8.cell? ⟨b, o, none⟩) (first | with_reducible assumption | ((repeat (first | with_reducible refine bothS_drew ?_ | with_reducible refine bothS_alloc _ ?_ | with_reducible refine bothS_set _ _ (by first | omega | (simp; omega) | simp) ?_)); first | with_reducible assumption | with_reducible exact Hid.out (by assumption) | with_reducible exact ⟨Below.refl _ _, fun _ _ _ => rfl⟩)) (first
            | ((with_reducible refine step_append_fresh _ 24 3 _ 1 8 Try.underlying24 Try.info3 rfl (by decide) (by decide) ml xc xa (x.map (Value.int .i64)) hxc hxl1000 rfl _ _ rfl ?_ ?_ ?_ ?_); (· exact ⟨_, rfl⟩); (· rfl); (· intro h0; exact HSX8.out _ (by assumption) h0); intro ga cA wA hfA hbA; have kA := bothS_below (by assumption) hbA; have HIA := Lib.hid (hfA.ints hxl0); clear hfA hbA)
            | (go_at_call 24; (with_reducible refine (HHX.out _ ?_ _ _ HIA.out).mono ?_); (· with_reducible assumption); rintro e w' ⟨rfl, k1, -, -, -⟩)
            | fail "no arm")
          all_goals (go_wp2_with fail; go_meet; exact ⟨rfl, rfl, And.left (by assumption)⟩)
        case rest =>
        obtain ⟨rfl, rfl, hBA⟩ := hcut
        obtain ⟨wA, rfl⟩ : ∃ wA : World, wA = wc := ⟨_, rfl⟩
        obtain ⟨x0, x1, x2, x3⟩ : wA.cell? ⟨w.heap.size, 0, none⟩ = some (.slice ma ml mc) ∧ wA.cell? ⟨w.heap.size, 1, none⟩ = some (.slice wa wl wc) ∧ wA.cell? ⟨w.heap.size, 2, none⟩ = some (.slice na nl nc) ∧ wA.cell? ⟨w.heap.size, 3, none⟩ = some (.int .i64 s.fresh) := ⟨(hBA.cell (p := ⟨w.heap.size, 0, none⟩) q8).trans y0, (hBA.cell (p := ⟨w.heap.size, 1, none⟩) q8).trans y1, (hBA.cell (p := ⟨w.heap.size, 2, none⟩) q8).trans y2, (hBA.cell (p := ⟨w.heap.size, 3, none⟩) q8).trans y3⟩
        have qA : w.heap.size < wA.heap.size := Nat.lt_of_lt_of_le q8 hBA.size
        have HBA := Lib.hid (HB8.out.trans (hBA.mono HB8.out.size))
        clear hBA y0 y1 y2 y3 q8
        have hwA := HBA.out
        have HFX := Lib.hid (fun W (h : Below wA.heap.size wA W ∧ ∀ b o, b < wA.heap.size → W.cell? ⟨b, o, none⟩ = wA.cell? ⟨b, o, none⟩) ga gc hi => bothM2 (W0 := wA) (HFA1.out W (hwA.trans (h.1.mono hwA.size)) ga gc hi) h)
        have HSXA := Lib.hid (fun W (h : Below wA.heap.size wA W ∧ ∀ b o, b < wA.heap.size → W.cell? ⟨b, o, none⟩ = wA.cell? ⟨b, o, none⟩) h0 => HSX.out W (hwA.trans (h.1.mono hwA.size)) h0)
        clear hwA
        go_upto_region 16 with fail
        go_cut [15, 16] (fun v7 v8 wx => (∃ fa' fc, v7 = .slice fa' fn fc ∧ IntsAt wx fa' fn fl) ∧ v8 = .int .i64 0 ∧ Below wA.heap.size wA wx)
        case first =>
          go_region_held3 (fun w' => Below wA.heap.size wA w' ∧ ∀ b o, b < wA.heap.size → w'.cell? ⟨b, o, none⟩ = wA.cell? ⟨b, o, none⟩) (first | with_reducible assumption | ((repeat (first | with_reducible refine bothS_drew ?_ | with_reducible refine bothS_alloc _ ?_ | with_reducible refine bothS_set _ _ (by first | omega | (simp; omega) | simp) ?_)); first | with_reducible assumption | with_reducible exact Hid.out (by assumption) | with_reducible exact ⟨Below.refl _ _, fun _ _ _ => rfl⟩)) (first
            | ((with_reducible refine step_append_fresh _ 24 3 _ 1 8 Try.underlying24 Try.info3 rfl (by decide) (by decide) ml xc xa (x.map (Value.int .i64)) hxc hxl1000 rfl _ _ rfl ?_ ?_ ?_ ?_); (· exact ⟨_, rfl⟩); (· rfl); (· intro h0; exact HSXA.out _ (by assumption) h0); intro ga cA wAA hfA hbA; have kA := bothS_below (by assumption) hbA; have HIA := Lib.hid (hfA.ints hxl0); clear hfA hbA)
            | (go_at_call 25; (with_reducible refine (HFX.out _ ?_ _ _ HIA.out).mono ?_); (· with_reducible assumption); rintro e w' ⟨⟨fa', fc, rfl, hfi⟩, k1, -, -, -⟩; have HFI' := Lib.hid hfi; clear hfi)
            | fail "no arm")
          all_goals (go_wp2_with fail; go_meet; exact ⟨⟨_, _, rfl, HFI'.out⟩, rfl, And.left (by assumption)⟩)
        case rest =>
        obtain ⟨⟨fa', fc, rfl, hfi⟩, rfl, hBB⟩ := hcut
        obtain ⟨wB, rfl⟩ : ∃ wB : World, wB = wc := ⟨_, rfl⟩
        obtain ⟨y0, y1, y2, y3⟩ : wB.cell? ⟨w.heap.size, 0, none⟩ = some (.slice ma ml mc) ∧ wB.cell? ⟨w.heap.size, 1, none⟩ = some (.slice wa wl wc) ∧ wB.cell? ⟨w.heap.size, 2, none⟩ = some (.slice na nl nc) ∧ wB.cell? ⟨w.heap.size, 3, none⟩ = some (.int .i64 s.fresh) := ⟨(hBB.cell (p := ⟨w.heap.size, 0, none⟩) qA).trans x0, (hBB.cell (p := ⟨w.heap.size, 1, none⟩) qA).trans x1, (hBB.cell (p := ⟨w.heap.size, 2, none⟩) qA).trans x2, (hBB.cell (p := ⟨w.heap.size, 3, none⟩) qA).trans x3⟩
        have qB : w.heap.size < wB.heap.size := Nat.lt_of_lt_of_le qA hBB.size
        have HBB := Lib.hid (HBA.out.trans (hBB.mono HBA.out.size))
        have HFB := Lib.hid hfi
        clear hBB hfi x0 x1 x2 x3 qA
        go_wp2_with fail
        refine (HHI1.out _ HBB.out).mono ?_
        rintro e wC ⟨rfl, hbC⟩
        obtain ⟨x0, x1, x2, x3⟩ : wC.cell? ⟨w.heap.size, 0, none⟩ = some (.slice ma ml mc) ∧ wC.cell? ⟨w.heap.size, 1, none⟩ = some (.slice wa wl wc) ∧ wC.cell? ⟨w.heap.size, 2, none⟩ = some (.slice na nl nc) ∧ wC.cell? ⟨w.heap.size, 3, none⟩ = some (.int .i64 s.fresh) := ⟨(hbC.cell (p := ⟨w.heap.size, 0, none⟩) qB).trans y0, (hbC.cell (p := ⟨w.heap.size, 1, none⟩) qB).trans y1, (hbC.cell (p := ⟨w.heap.size, 2, none⟩) qB).trans y2, (hbC.cell (p := ⟨w.heap.size, 3, none⟩) qB).trans y3⟩
        have qC : w.heap.size < wC.heap.size := Nat.lt_of_lt_of_le qB hbC.size
        have HBC := Lib.hid (HBB.out.trans (hbC.mono HBB.out.size))
        have HFC := Lib.hid (HFB.out.below hbC)
        clear hbC y0 y1 y2 y3 qB
        have HWB := Lib.hid (fun v (h : btw v 1 3 = true) W => Within_below v 1 3 true h W)
        have hfm : ¬ (ml : Int) < (fn : Int) := by have := HFL.out; omega
        go_upto_region 18 with fail
        go_cut [163] (fun v wx => v = .bool false ∧ Below wC.heap.size wC wx)
        case first =>
          rcases HF.out with ⟨rfl, rfl, rfl⟩ | ⟨rfl, rfl, h3⟩ | ⟨rfl, h3⟩
          · go_wp2_with fail
            refine (HWB.out 1 (by decide) _).mono ?_
            rintro e wD ⟨rfl, hbD⟩
            have z0 := (hbD.cell (p := ⟨w.heap.size, 0, none⟩) qC).trans x0
            go_wp2_with fail
            go_meet
            exact ⟨by simp, hbD⟩
          · have h3' : ¬ (fn : Int) = 0 := by omega
            go_wp2_with fail
            refine (HWB.out 2 (by decide) _).mono ?_
            rintro e wD ⟨rfl, hbD⟩
            have z0 := (hbD.cell (p := ⟨w.heap.size, 0, none⟩) qC).trans x0
            go_wp2_with fail
            go_meet
            exact ⟨by simp [h3]; omega, hbD⟩
          · have h3' : ¬ (fn : Int) = 0 := by omega
            go_wp2_with fail
            refine (HWB.out 3 (by decide) _).mono ?_
            rintro e wD ⟨rfl, hbD⟩
            have z0 := (hbD.cell (p := ⟨w.heap.size, 0, none⟩) qC).trans x0
            go_wp2_with fail
            go_meet
            exact ⟨by simp [h3]; omega, hbD⟩
        case rest =>
        obtain ⟨rfl, hBD⟩ := hcut
        obtain ⟨wD, rfl⟩ : ∃ wD : World, wD = wc := ⟨_, rfl⟩
        obtain ⟨y0, y1, y2, y3⟩ : wD.cell? ⟨w.heap.size, 0, none⟩ = some (.slice ma ml mc) ∧ wD.cell? ⟨w.heap.size, 1, none⟩ = some (.slice wa wl wc) ∧ wD.cell? ⟨w.heap.size, 2, none⟩ = some (.slice na nl nc) ∧ wD.cell? ⟨w.heap.size, 3, none⟩ = some (.int .i64 s.fresh) := ⟨(hBD.cell (p := ⟨w.heap.size, 0, none⟩) qC).trans x0, (hBD.cell (p := ⟨w.heap.size, 1, none⟩) qC).trans x1, (hBD.cell (p := ⟨w.heap.size, 2, none⟩) qC).trans x2, (hBD.cell (p := ⟨w.heap.size, 3, none⟩) qC).trans x3⟩
        have qD : w.heap.size < wD.heap.size := Nat.lt_of_lt_of_le qC hBD.size
        have HBD := Lib.hid (HBC.out.trans (hBD.mono HBC.out.size))
        have HFD := Lib.hid (HFC.out.below hBD)
        have HBXD := Lib.hid (show wD.cell? ⟨w.heap.size, 0, none⟩ = some (.slice ma ml mc) ∧ wD.cell? ⟨w.heap.size, 1, none⟩ = some (.slice wa wl wc) ∧ wD.cell? ⟨w.heap.size, 2, none⟩ = some (.slice na nl nc) ∧ wD.cell? ⟨w.heap.size, 3, none⟩ = some (.int .i64 s.fresh) from ⟨y0, y1, y2, y3⟩)
        clear hBD x0 x1 x2 x3 qC
        go_wp2_with fail
        clear y0 y1 y2 y3
        go_loopw [18] (fun i wr => ∃ k : Nat, k ≤ ml ∧ i = .int .i64 k ∧ Below wD.heap.size wD wr) (fun i _ => ml - (intOf i).toNat)
        case atStart => exact ⟨0, by omega, rfl, Below.refl _ _⟩
        case round =>
          obtain ⟨k, hk, rfl, hB⟩ := hrel
          obtain ⟨W1, rfl⟩ : ∃ W1 : World, W1 = wr := ⟨_, rfl⟩
          obtain ⟨y0, y1, y2, y3⟩ := HBXD.out
          obtain ⟨x0, x1, x2, x3⟩ : W1.cell? ⟨w.heap.size, 0, none⟩ = some (.slice ma ml mc) ∧ W1.cell? ⟨w.heap.size, 1, none⟩ = some (.slice wa wl wc) ∧ W1.cell? ⟨w.heap.size, 2, none⟩ = some (.slice na nl nc) ∧ W1.cell? ⟨w.heap.size, 3, none⟩ = some (.int .i64 s.fresh) := ⟨(hB.cell (p := ⟨w.heap.size, 0, none⟩) qD).trans y0, (hB.cell (p := ⟨w.heap.size, 1, none⟩) qD).trans y1, (hB.cell (p := ⟨w.heap.size, 2, none⟩) qD).trans y2, (hB.cell (p := ⟨w.heap.size, 3, none⟩) qD).trans y3⟩
          have HB := Lib.hid hB
          have HBW := Lib.hid (HBD.out.trans (hB.mono HBD.out.size))
          have HF1 := Lib.hid (HFD.out.below hB)
          have hzW : w.heap.size < W1.heap.size := Nat.lt_of_lt_of_le qD hB.size
          clear y0 y1 y2 y3 hB
          by_cases hlt : k < ml
          · have hk3 : k < x.length := by rw [HXL.out]; exact hlt
            obtain ⟨xb, xo, rfl, hxB, hxcell⟩ := HXC.out (by omega)
            have hcx := (HBW.out.cell (p := ⟨xb, xo + k, none⟩) hxB).trans (hxcell k hk3)
            have hsW : xb < W1.heap.size := Nat.lt_of_lt_of_le hxB HBW.out.size
            obtain ⟨ck, hck⟩ : ∃ ck, c k = ck := ⟨_, rfl⟩
            have hbw := HBW.out
            have HLK := Lib.hid (fun W (h : Below W1.heap.size W1 W ∧ ∀ b o, b < W1.heap.size → W.cell? ⟨b, o, none⟩ = W1.cell? ⟨b, o, none⟩) => bothS1 (W0 := W1) (HLI.out k hlt ck (by rw [hck]) W (hbw.trans (h.1.mono hbw.size))) h)
            have HFK := Lib.hid (fun (h1 : ck < x[k]) W (h : Below W1.heap.size W1 W ∧ ∀ b o, b < W1.heap.size → W.cell? ⟨b, o, none⟩ = W1.cell? ⟨b, o, none⟩) => bothS1 (W0 := W1) (HFI.out k hk3 (by rw [hck]; exact h1) W fa' fc (HF1.out.below h.1)) h)
            have hkl : (k : Int) < (ml : Int) := by omega
            have hk0 : (0 : Int) ≤ (k : Int) := by omega
            clear hxcell hck hbw
            obtain ⟨n, hn⟩ : ∃ n, x[k] = n := ⟨_, rfl⟩
            rw [hn] at hcx HFK
            clear hn
            rcases Int.lt_or_le ck n with h1 | h1
            · have HFK1 := Lib.hid (HFK.out h1)
              have hd : decide (ck < n) = true := by simpa using h1
              clear h1 HFK
              go_upto_region 23 with fail
              go_cut [184] (fun v wx => v = .bool false ∧ Below W1.heap.size W1 wx)
              case first =>
                go_region_held3 (fun w' => Below W1.heap.size W1 w' ∧ ∀ b o, b < W1.heap.size → w'.cell? ⟨b, o, none⟩ = W1.cell? ⟨b, o, none⟩) (first | with_reducible assumption | ((repeat (first | with_reducible refine bothS_drew ?_ | with_reducible refine bothS_alloc _ ?_ | with_reducible refine bothS_set _ _ (by first | omega | (simp; omega) | simp) ?_)); first | with_reducible assumption | with_reducible exact Hid.out (by assumption) | with_reducible exact ⟨Below.refl _ _, fun _ _ _ => rfl⟩)) (first | (go_at_call 22; with_reducible refine (HLK.out _ ?_).mono ?_; (first | with_reducible assumption | ((repeat (first | with_reducible refine bothS_drew ?_ | with_reducible refine bothS_alloc _ ?_ | with_reducible refine bothS_set _ _ (by first | omega | (simp; omega) | simp) ?_)); first | with_reducible assumption | with_reducible exact Hid.out (by assumption) | with_reducible exact ⟨Below.refl _ _, fun _ _ _ => rfl⟩)); rintro e w' ⟨rfl, k, k1, k2, k3⟩; have HK := Lib.hid k; (try simp at k3); (try have k6 := Nat.lt_of_succ_le k3); (try have k7 := Nat.lt_of_succ_lt k6); (try have k8 := Nat.lt_of_succ_lt k3)) | (go_at_call 21; with_reducible refine (HFK1.out _ ?_).mono ?_; (first | with_reducible assumption | ((repeat (first | with_reducible refine bothS_drew ?_ | with_reducible refine bothS_alloc _ ?_ | with_reducible refine bothS_set _ _ (by first | omega | (simp; omega) | simp) ?_)); first | with_reducible assumption | with_reducible exact Hid.out (by assumption) | with_reducible exact ⟨Below.refl _ _, fun _ _ _ => rfl⟩)); rintro e w' ⟨rfl, k, k1, k2, k3⟩; have HK := Lib.hid k; (try simp at k3); (try have k6 := Nat.lt_of_succ_le k3); (try have k7 := Nat.lt_of_succ_lt k6); (try have k8 := Nat.lt_of_succ_lt k3)) | fail "no arm")
                all_goals (go_wp2_with fail; go_meet; exact ⟨rfl, And.left (by assumption)⟩)
              case rest =>
              obtain ⟨rfl, hB2⟩ := hcut
              have HB2 := Lib.hid (HB.out.trans (hB2.mono HB.out.size))
              clear hB2
              go_wp2_with fail
              go_roundw
              case rel => exact ⟨k + 1, by omega, by go_num, HB2.out⟩
              case measure => simp [intOf]; omega
            · have hd : decide (ck < n) = false := by simpa using h1
              clear h1 HFK
              go_upto_region 23 with fail
              go_cut [184] (fun v wx => v = .bool false ∧ Below W1.heap.size W1 wx)
              case first =>
                refine wp_region_noPanic ?_
                refine wp_region_held_drew (S := (fun w' => Below W1.heap.size W1 w' ∧ ∀ b o, b < W1.heap.size → w'.cell? ⟨b, o, none⟩ = W1.cell? ⟨b, o, none⟩)) (by kernel_rfl) ?_ (fun hHeld => ?_)
                · (first | with_reducible assumption | ((repeat (first | with_reducible refine bothS_drew ?_ | with_reducible refine bothS_alloc _ ?_ | with_reducible refine bothS_set _ _ (by first | omega | (simp; omega) | simp) ?_)); first | with_reducible assumption | with_reducible exact Hid.out (by assumption) | with_reducible exact ⟨Below.refl _ _, fun _ _ _ => rfl⟩))
                refine wpAnyH_take (i := 0) (oi := ?_) (v := ?_) ?_ ?_ ?_ ?_ ?_ ?_ ?_ ?_; rotate_left 2; (· simp only [List.getElem?_toArray, List.getElem?_cons_succ, List.getElem?_cons_zero]; with_reducible rfl); (· kernel_rfl); (· kernel_rfl); (· kernel_rfl); (· exact fun _ _ _ h => h); (· refine Or.inl ⟨by rfl, ?_⟩; intro w hSw; (try dsimp only at hSw); go_simp; try with_reducible rfl); (· assumption); (try simp only [Act.put, List.setIfInBounds_toArray, List.set_cons_zero, List.set_cons_succ])
                refine wpAnyH_take (i := 1) (oi := ?_) (v := ?_) ?_ ?_ ?_ ?_ ?_ ?_ ?_ ?_; rotate_left 2; (· simp only [List.getElem?_toArray, List.getElem?_cons_succ, List.getElem?_cons_zero]; with_reducible rfl); (· kernel_rfl); (· kernel_rfl); (· kernel_rfl); (· exact fun _ _ _ h => h); (· refine Or.inl ⟨by rfl, ?_⟩; intro w hSw; (try dsimp only at hSw); go_simp; try with_reducible rfl); (· assumption); (try simp only [Act.put, List.setIfInBounds_toArray, List.set_cons_zero, List.set_cons_succ])
                refine wpAnyH_take (i := 2) (oi := ?_) (v := ?_) ?_ ?_ ?_ ?_ ?_ ?_ ?_ ?_; rotate_left 2; (· simp only [List.getElem?_toArray, List.getElem?_cons_succ, List.getElem?_cons_zero]; with_reducible rfl); (· kernel_rfl); (· kernel_rfl); (· kernel_rfl); (· exact fun _ _ _ h => h); (· refine Or.inl ⟨by rfl, ?_⟩; intro w hSw; (try dsimp only at hSw); go_simp; try with_reducible rfl); (· assumption); (try simp only [Act.put, List.setIfInBounds_toArray, List.set_cons_zero, List.set_cons_succ])
                refine wpAnyH_take (i := 3) (oi := ?_) (v := ?_) ?_ ?_ ?_ ?_ ?_ ?_ ?_ ?_; rotate_left 2; (· simp only [List.getElem?_toArray, List.getElem?_cons_succ, List.getElem?_cons_zero]; with_reducible rfl); (· kernel_rfl); (· kernel_rfl); (· kernel_rfl); (· exact fun _ _ _ h => h); (· refine Or.inl ⟨by rfl, ?_⟩; intro w hSw; (try dsimp only at hSw); go_simp; try with_reducible rfl); (· assumption); (try simp only [Act.put, List.setIfInBounds_toArray, List.set_cons_zero, List.set_cons_succ])
                refine wpAnyH_take (i := 4) (oi := ?_) (v := ?_) ?_ ?_ ?_ ?_ ?_ ?_ ?_ ?_; rotate_left 2; (· simp only [List.getElem?_toArray, List.getElem?_cons_succ, List.getElem?_cons_zero]; with_reducible rfl); (· kernel_rfl); (· kernel_rfl); (· kernel_rfl); (· exact fun _ _ _ h => h); (· refine Or.inl ⟨by rfl, ?_⟩; intro w hSw; (try dsimp only at hSw); go_simp; try with_reducible rfl); (· assumption); (try simp only [Act.put, List.setIfInBounds_toArray, List.set_cons_zero, List.set_cons_succ])
                refine wpAnyH_take (i := 5) (oi := ?_) (v := ?_) ?_ ?_ ?_ ?_ ?_ ?_ ?_ ?_; rotate_left 2; (· simp only [List.getElem?_toArray, List.getElem?_cons_succ, List.getElem?_cons_zero]; with_reducible rfl); (· kernel_rfl); (· kernel_rfl); (· kernel_rfl); (· exact fun _ _ _ h => h); (· refine Or.inl ⟨by rfl, ?_⟩; intro w hSw; (try dsimp only at hSw); go_simp; try with_reducible rfl); (· assumption); (try simp only [Act.put, List.setIfInBounds_toArray, List.set_cons_zero, List.set_cons_succ])
                refine wpAnyH_take (i := 6) (oi := ?_) (v := ?_) ?_ ?_ ?_ ?_ ?_ ?_ ?_ ?_; rotate_left 2; (· simp only [List.getElem?_toArray, List.getElem?_cons_succ, List.getElem?_cons_zero]; with_reducible rfl); (· kernel_rfl); (· kernel_rfl); (· kernel_rfl); (· exact fun _ _ _ h => h); (· refine Or.inl ⟨by rfl, ?_⟩; intro w hSw; (try dsimp only at hSw); go_simp; try with_reducible rfl); (· assumption); (try simp only [Act.put, List.setIfInBounds_toArray, List.set_cons_zero, List.set_cons_succ])
                refine wpAnyH_ready (rs := [7]) (by kernel_rfl) (by simp) ?_; refine AllReadyH.cons (o := ?_) ?_ (fun K hK => ?_) AllReadyH.nil; rotate_left 1; (· simp only [List.getElem?_toArray, List.getElem?_cons_succ, List.getElem?_cons_zero]; with_reducible rfl); go_simp; (go_at_call 22; with_reducible refine (HLK.out _ ?_).mono ?_; (first | with_reducible assumption | ((repeat (first | with_reducible refine bothS_drew ?_ | with_reducible refine bothS_alloc _ ?_ | with_reducible refine bothS_set _ _ (by first | omega | (simp; omega) | simp) ?_)); first | with_reducible assumption | with_reducible exact Hid.out (by assumption) | with_reducible exact ⟨Below.refl _ _, fun _ _ _ => rfl⟩)); rintro e w' ⟨rfl, k, k1, k2, k3⟩; have HK := Lib.hid k; (try simp at k3); (try have k6 := Nat.lt_of_succ_le k3); (try have k7 := Nat.lt_of_succ_lt k6); (try have k8 := Nat.lt_of_succ_lt k3)); refine hK.out _ _ ?_ (fun hHeld => ?_); (· (first | with_reducible assumption | ((repeat (first | with_reducible refine bothS_drew ?_ | with_reducible refine bothS_alloc _ ?_ | with_reducible refine bothS_set _ _ (by first | omega | (simp; omega) | simp) ?_)); first | with_reducible assumption | with_reducible exact Hid.out (by assumption) | with_reducible exact ⟨Below.refl _ _, fun _ _ _ => rfl⟩))); clear hK K; (try simp only [Act.put, List.setIfInBounds_toArray, List.set_cons_zero, List.set_cons_succ])
                refine wpAnyH_take (i := 8) (oi := ?_) (v := ?_) ?_ ?_ ?_ ?_ ?_ ?_ ?_ ?_; rotate_left 2; (· simp only [List.getElem?_toArray, List.getElem?_cons_succ, List.getElem?_cons_zero]; with_reducible rfl); (· kernel_rfl); (· kernel_rfl); (· kernel_rfl); (· exact fun _ _ _ h => h); (· refine Or.inl ⟨by rfl, ?_⟩; intro w hSw; (try dsimp only at hSw); go_simp; try with_reducible rfl); (· assumption); (try simp only [Act.put, List.setIfInBounds_toArray, List.set_cons_zero, List.set_cons_succ])
                refine wpAnyH_take (i := 9) (oi := ?_) (v := ?_) ?_ ?_ ?_ ?_ ?_ ?_ ?_ ?_; rotate_left 2; (· simp only [List.getElem?_toArray, List.getElem?_cons_succ, List.getElem?_cons_zero]; with_reducible rfl); (· kernel_rfl); (· kernel_rfl); (· kernel_rfl); (· exact fun _ _ _ h => h); (· refine Or.inl ⟨by rfl, ?_⟩; intro w hSw; (try dsimp only at hSw); go_simp; try with_reducible rfl); (· assumption); (try simp only [Act.put, List.setIfInBounds_toArray, List.set_cons_zero, List.set_cons_succ])
                refine wpAnyH_take (i := 10) (oi := ?_) (v := undef) ?_ ?_ ?_ ?_ ?_ ?_ ?_ ?_; rotate_left 1; (· simp only [List.getElem?_toArray, List.getElem?_cons_succ, List.getElem?_cons_zero]; with_reducible rfl); (· kernel_rfl); (· kernel_rfl); (· kernel_rfl); (· exact fun _ _ _ h => h); (· exact Or.inr ⟨by rfl, rfl⟩); (· assumption); (try simp only [Act.put, List.setIfInBounds_toArray, List.set_cons_zero, List.set_cons_succ])
                refine wpAnyH_take (i := 11) (oi := ?_) (v := undef) ?_ ?_ ?_ ?_ ?_ ?_ ?_ ?_; rotate_left 1; (· simp only [List.getElem?_toArray, List.getElem?_cons_succ, List.getElem?_cons_zero]; with_reducible rfl); (· kernel_rfl); (· kernel_rfl); (· kernel_rfl); (· exact fun _ _ _ h => h); (· exact Or.inr ⟨by rfl, rfl⟩); (· assumption); (try simp only [Act.put, List.setIfInBounds_toArray, List.set_cons_zero, List.set_cons_succ])
                refine wpAnyH_take (i := 12) (oi := ?_) (v := undef) ?_ ?_ ?_ ?_ ?_ ?_ ?_ ?_; rotate_left 1; (· simp only [List.getElem?_toArray, List.getElem?_cons_succ, List.getElem?_cons_zero]; with_reducible rfl); (· kernel_rfl); (· kernel_rfl); (· kernel_rfl); (· exact fun _ _ _ h => h); (· exact Or.inr ⟨by rfl, rfl⟩); (· assumption); (try simp only [Act.put, List.setIfInBounds_toArray, List.set_cons_zero, List.set_cons_succ])
                refine wpAnyH_take (i := 13) (oi := ?_) (v := undef) ?_ ?_ ?_ ?_ ?_ ?_ ?_ ?_; rotate_left 1; (· simp only [List.getElem?_toArray, List.getElem?_cons_succ, List.getElem?_cons_zero]; with_reducible rfl); (· kernel_rfl); (· kernel_rfl); (· kernel_rfl); (· exact fun _ _ _ h => h); (· exact Or.inr ⟨by rfl, rfl⟩); (· assumption); (try simp only [Act.put, List.setIfInBounds_toArray, List.set_cons_zero, List.set_cons_succ])
                refine wpAnyH_take (i := 14) (oi := ?_) (v := ?_) ?_ ?_ ?_ ?_ ?_ ?_ ?_ ?_; rotate_left 2; (· simp only [List.getElem?_toArray, List.getElem?_cons_succ, List.getElem?_cons_zero]; with_reducible rfl); (· kernel_rfl); (· kernel_rfl); (· kernel_rfl); (· exact fun _ _ _ h => h); (· refine Or.inl ⟨by rfl, ?_⟩; intro w hSw; (try dsimp only at hSw); go_simp; try with_reducible rfl); (· assumption); (try simp only [Act.put, List.setIfInBounds_toArray, List.set_cons_zero, List.set_cons_succ])
                refine wpAnyH_done (by kernel_rfl) ?_ _
                refine NoPanic.normal ?_
                go_wp2_with fail; go_meet; exact ⟨rfl, And.left (by assumption)⟩
              case rest =>
              obtain ⟨rfl, hB2⟩ := hcut
              have HB2 := Lib.hid (HB.out.trans (hB2.mono HB.out.size))
              clear hB2
              go_wp2_with fail
              go_roundw
              case rel => exact ⟨k + 1, by omega, by go_num, HB2.out⟩
              case measure => simp [intOf]; omega
          · obtain rfl : ml = k := by omega
            go_wp2_with fail
            refine (works_any _).mono ?_
            rintro e w9 ⟨rfl, hb9⟩
            go_wp2_with fail
            go_ret
            exact ⟨rfl, HBW.out.trans (hb9.mono HBW.out.size)⟩
end Go.Proofs.Ytgniblcagjdpnaa
