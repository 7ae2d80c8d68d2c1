/- FlongsShares: the walk. -/
import Derived.Test.YtgniblcagjdpnaaHM
import Derived.Test.YtgniblcagjdpnaaHH
namespace Go.Proofs.Ytgniblcagjdpnaa
set_option linter.unusedVariables false
set_option linter.unusedSimpArgs false
open Go.RowKit

theorem opt_none {o : Option (List Int)} (h : o = none) : optL o = [] ∧ optE o = 3 := by subst h; exact ⟨rfl, rfl⟩
theorem opt_some {o : Option (List Int)} {d : List Int} (h : o = some d) : optL o = d ∧ optE o = 0 := by subst h; exact ⟨rfl, rfl⟩
theorem isKnown_3 (w : World) : Calls Try.prog 37 #[.int .i64 3] w fun r w' => r = .returned (.bool true) ∧ w = w' := by
  go_enter Try.func37, Try.ntmps37
  go_wp2
  go_ret
  exact ⟨rfl, rfl⟩
theorem isKnown_0 (w : World) : Calls Try.prog 37 #[.int .i64 0] w fun r w' => r = .returned (.bool true) ∧ w = w' := by
  go_enter Try.func37, Try.ntmps37
  go_wp2
  go_ret
  exact ⟨rfl, rfl⟩

set_option maxRecDepth 100000 in
set_option maxHeartbeats 4000000 in
theorem shares_early (s : FShop) (ma : Option Addr) (ml mc : Nat) (wa : Option Addr) (wl wc : Nat) (na : Option Addr) (nl nc : Nat) (xa : Option Addr) (xl xc : Nat) (w : World) (hp : FAt w ma ml mc wa wl wc na nl nc s) (hm : xl ≤ maxLen) (h : s.known = false ∨ 40 < xl) :
    Calls Try.prog 6 #[.agg #[.slice ma ml mc, .slice wa wl wc, .slice na nl nc, .int .i64 s.fresh], .slice xa xl xc] w fun e w' => e = .returned (.bool true) ∧ Below w.heap.size w w' := by
  have HK := Lib.hid (fun b (h : s.known = b) W (hb : Below w.heap.size w W) => known_is s ma ml mc wa wl wc na nl nc b h W (hp.below hb))
  unfold maxLen at hm
  clear hp
  rcases hk : s.known with - | -
  · have HK1 := Lib.hid (HK.out _ hk)
    clear hk h
    go_enter Try.func6, Try.ntmps6
    go_wp2_with fail
    refine (HK1.out _ (by repeat (first | exact Below.refl _ _ | (refine Below.alloc ?_ (by first | omega | (simp; omega) | simp) _) | (refine Below.setCell ?_ (by first | omega | (simp; omega) | simp) _) | refine Below.drew ?_))).mono ?_
    rintro e w1 ⟨rfl, hb1⟩
    have hw1 := ((by repeat (first | exact Below.refl _ _ | (refine Below.alloc ?_ (by first | omega | (simp; omega) | simp) _) | (refine Below.setCell ?_ (by first | omega | (simp; omega) | simp) _) | refine Below.drew ?_)) : Below w.heap.size w _).trans (hb1.mono (by first | (simp; done) | (simp; omega) | omega))
    clear hb1
    go_wp2_with fail
    refine (works_any _).mono ?_
    rintro e w9 ⟨rfl, hb9⟩
    go_wp2_with fail
    go_ret
    exact ⟨rfl, hw1.trans (hb9.mono hw1.size)⟩
  · have HK1 := Lib.hid (HK.out _ hk)
    have h3 : (40 : Int) < (xl : Int) := by rcases h with h | h; (rw [hk] at h; cases h); omega
    clear hk h
    go_enter Try.func6, Try.ntmps6
    go_wp2_with fail
    refine (HK1.out _ (by repeat (first | exact Below.refl _ _ | (refine Below.alloc ?_ (by first | omega | (simp; omega) | simp) _) | (refine Below.setCell ?_ (by first | omega | (simp; omega) | simp) _) | refine Below.drew ?_))).mono ?_
    rintro e w1 ⟨rfl, hb1⟩
    have hw1 := ((by repeat (first | exact Below.refl _ _ | (refine Below.alloc ?_ (by first | omega | (simp; omega) | simp) _) | (refine Below.setCell ?_ (by first | omega | (simp; omega) | simp) _) | refine Below.drew ?_)) : Below w.heap.size w _).trans (hb1.mono (by first | (simp; done) | (simp; omega) | omega))
    clear hb1
    go_wp2_with fail
    refine (works_any _).mono ?_
    rintro e w9 ⟨rfl, hb9⟩
    go_wp2_with fail
    go_ret
    exact ⟨rfl, hw1.trans (hb9.mono hw1.size)⟩
set_option maxRecDepth 100000 in
set_option maxHeartbeats 16000000 in
theorem shares_A (s : FShop) (ma : Option Addr) (ml mc : Nat) (wa : Option Addr) (wl wc : Nat) (na : Option Addr) (nl nc : Nat) (xa : Option Addr) (xl xc : Nat) (x : List Int) (w : World) (hp : FAt w ma ml mc wa wl wc na nl nc s) (hx : IntsAt w xa xl x) (hk : s.known = true) (h40 : xl ≤ 40) (hB0 : s.bold = none) :
    Calls Try.prog 6 #[.agg #[.slice ma ml mc, .slice wa wl wc, .slice na nl nc, .int .i64 s.fresh], .slice xa xl xc] w fun e w' => e = .returned (.bool true) ∧ Below w.heap.size w w' := by
  obtain ⟨ho, hl0⟩ : s.ok = true ∧ 0 < s.left.length := by simpa [FShop.known] using hk
  have F := found ho hl0
  have hask : s.ask true = 0 := by unfold FShop.ask; rw [ho, if_pos rfl, if_pos rfl, if_neg (by omega)]
  have hJ := F.none hB0
  have hD0 : s.divide = none := by
    cases hd : s.divide with
    | none => rfl
    | some d => have := (F.div d hd).1; rw [hJ] at this; simp at this
  obtain ⟨hbL, hbE⟩ := opt_none hB0
  obtain ⟨hdL, hdE⟩ := opt_none hD0
  have hnew : ¬ s.newAll = 0 := by have := F.new; rw [hD0] at this; simpa using this
  have hfor : forB s x = false := by
    cases h : forB s x with
    | false => rfl
    | true => have := (for_iff ho).1 h; rw [hJ] at this; simp at this
  have HK1 := Lib.hid (fun W (hb : Below w.heap.size w W) => known_is s ma ml mc wa wl wc na nl nc true hk W (hp.below hb))
  have HD1 := Lib.hid (fun W (hb : Below w.heap.size w W) => Divide_all s ma ml mc wa wl wc na nl nc [] 3 (by unfold FShop.divideL; rw [if_pos hask, hdL]) (by unfold FShop.divideE; rw [if_pos hask, hdE]) W (hp.below hb))
  have HB1 := Lib.hid (fun W (hb : Below w.heap.size w W) => Bold_all s ma ml mc wa wl wc na nl nc [] 3 (by unfold FShop.boldL; rw [if_pos hask, hbL]) (by unfold FShop.boldE; rw [if_pos hask, hbE]) W (hp.below hb))
  have HF1 := Lib.hid (fun W (hb : Below w.heap.size w W) => lawFresh_is s ma ml mc wa wl wc na nl nc ho hl0 W (hp.below hb))
  have HWO := Lib.hid (fun W (hb : Below w.heap.size w W) => refWorldsOf_any s ma ml mc wa wl wc na nl nc W (hp.below hb) ho)
  have HFX := Lib.hid (fun r (h : forB s x = r) W (hb : Below w.heap.size w W) => isFor_is s ma ml mc wa wl wc na nl nc xa xl xc x r h ho W (hp.below hb) (hx.below hb))
  have hnb : 0 ≤ s.newAll := (newTo_bd ho _ (Nat.le_refl _)).1
  have hwl := which_left s
  have hl6 := left_few ho
  have hml := hp.1.1
  have h40' : ¬ (40 : Int) < (xl : Int) := by omega
  clear hp hx hk hask F
  have HFX1 := Lib.hid (HFX.out false hfor)
  clear hfor hJ hB0 hD0 hbL hbE hdL hdE ho hl0 HFX
  generalize s.newAll = nn at *
  go_enter Try.func6, Try.ntmps6
  go_wp2_with fail
  refine (HK1.out _ (by repeat (first | exact Below.refl _ _ | (refine Below.alloc ?_ (by first | omega | (simp; omega) | simp) _) | (refine Below.setCell ?_ (by first | omega | (simp; omega) | simp) _) | refine Below.drew ?_))).mono ?_
  rintro e w1 ⟨rfl, hb1⟩
  have hx0 := fun i => (hb1.cell (p := ⟨w.heap.size, i, none⟩) (by simp)).trans (World.cell?_alloc_new w #[.slice ma ml mc, .slice wa wl wc, .slice na nl nc, .int .i64 s.fresh] 26 i)
  obtain ⟨x0, x1, x2, x3⟩ : w1.cell? ⟨w.heap.size, 0, none⟩ = some (.slice ma ml mc) ∧ w1.cell? ⟨w.heap.size, 1, none⟩ = some (.slice wa wl wc) ∧ w1.cell? ⟨w.heap.size, 2, none⟩ = some (.slice na nl nc) ∧ w1.cell? ⟨w.heap.size, 3, none⟩ = some (.int .i64 s.fresh) := ⟨hx0 0, hx0 1, hx0 2, hx0 3⟩
  have q1 : w.heap.size < w1.heap.size := by have := hb1.size; simp at this; omega
  have hw1 := ((by repeat (first | exact Below.refl _ _ | (refine Below.alloc ?_ (by first | omega | (simp; omega) | simp) _) | (refine Below.setCell ?_ (by first | omega | (simp; omega) | simp) _) | refine Below.drew ?_)) : Below w.heap.size w _).trans (hb1.mono (by first | (simp; done) | (simp; omega) | omega))
  clear hb1 hx0
  go_wp2_with fail
  refine (HD1.out _ hw1).mono ?_
  rintro e w2 ⟨⟨da, dn, dc, rfl, hI2⟩, hb2⟩
  have hw2 := hw1.trans (hb2.mono hw1.size)
  have q2 : w.heap.size < w2.heap.size := Nat.lt_of_lt_of_le q1 hb2.size
  have y0 := (hb2.cell (p := ⟨w.heap.size, 0, none⟩) q1).trans x0; have y1 := (hb2.cell (p := ⟨w.heap.size, 1, none⟩) q1).trans x1; have y2 := (hb2.cell (p := ⟨w.heap.size, 2, none⟩) q1).trans x2; have y3 := (hb2.cell (p := ⟨w.heap.size, 3, none⟩) q1).trans x3; clear x0 x1 x2 x3
  clear hb2
  go_wp2_with fail
  refine (HB1.out _ hw2).mono ?_
  rintro e w3 ⟨⟨ba, bn, bc, rfl, hI3⟩, hb3⟩
  have hw3 := hw2.trans (hb3.mono hw2.size)
  have q3 : w.heap.size < w3.heap.size := Nat.lt_of_lt_of_le q2 hb3.size
  have hI23 := hI2.below hb3
  have x0 := (hb3.cell (p := ⟨w.heap.size, 0, none⟩) q2).trans y0; have x1 := (hb3.cell (p := ⟨w.heap.size, 1, none⟩) q2).trans y1; have x2 := (hb3.cell (p := ⟨w.heap.size, 2, none⟩) q2).trans y2; have x3 := (hb3.cell (p := ⟨w.heap.size, 3, none⟩) q2).trans y3; clear y0 y1 y2 y3
  clear hb3 hI2
  have HI3 := Lib.hid hI3
  have HI23 := Lib.hid hI23
  clear hI3 hI23
  go_wp2_with fail
  refine (HF1.out _ hw3).mono ?_
  rintro e w4 ⟨rfl, hb4⟩
  have hw4 := hw3.trans (hb4.mono hw3.size)
  have q4 : w.heap.size < w4.heap.size := Nat.lt_of_lt_of_le q3 hb4.size
  have HI4 := Lib.hid (HI3.out.below hb4)
  have HI24 := Lib.hid (HI23.out.below hb4)
  have y0 := (hb4.cell (p := ⟨w.heap.size, 0, none⟩) q3).trans x0; have y1 := (hb4.cell (p := ⟨w.heap.size, 1, none⟩) q3).trans x1; have y2 := (hb4.cell (p := ⟨w.heap.size, 2, none⟩) q3).trans x2; have y3 := (hb4.cell (p := ⟨w.heap.size, 3, none⟩) q3).trans x3; clear x0 x1 x2 x3
  clear hb4 HI3 HI23
  have hnnl : ¬ nn < 0 := by omega
  have hnnB : (nn == 0) = false := by simpa using hnew
  go_wp2_with fail
  refine (isKnown_3 _).mono ?_
  rintro e w4' ⟨rfl, rfl⟩
  go_wp2_with fail
  refine (isKnown_3 _).mono ?_
  rintro e w4' ⟨rfl, rfl⟩
  go_wp2_with fail
  refine (HWO.out _ hw4).mono ?_
  rintro e u5 ⟨la, lc, rfl, hwi, hb5⟩
  have hw5 := hw4.trans (hb5.mono hw4.size)
  have hsU : w.heap.size < u5.heap.size := Nat.lt_of_lt_of_le q4 hb5.size
  have HIB := Lib.hid (fun W (hb : Below u5.heap.size u5 W) => (HI4.out.below hb5).below hb)
  have HID := Lib.hid (fun W (hb : Below u5.heap.size u5 W) => (HI24.out.below hb5).below hb)
  have HWI := Lib.hid hwi
  have HBV := Lib.hid (fun W (hb : Below u5.heap.size u5 W) => hw5.trans (hb.mono hw5.size))
  have x0 := (hb5.cell (p := ⟨w.heap.size, 0, none⟩) q4).trans y0; have x1 := (hb5.cell (p := ⟨w.heap.size, 1, none⟩) q4).trans y1; have x2 := (hb5.cell (p := ⟨w.heap.size, 2, none⟩) q4).trans y2; have x3 := (hb5.cell (p := ⟨w.heap.size, 3, none⟩) q4).trans y3; clear y0 y1 y2 y3
  have HSB := Lib.hid (show u5.cell? ⟨w.heap.size, 0, none⟩ = some (.slice ma ml mc) ∧ u5.cell? ⟨w.heap.size, 1, none⟩ = some (.slice wa wl wc) ∧ u5.cell? ⟨w.heap.size, 2, none⟩ = some (.slice na nl nc) ∧ u5.cell? ⟨w.heap.size, 3, none⟩ = some (.int .i64 s.fresh) from ⟨x0, x1, x2, x3⟩)
  have hBu5 : Below u5.heap.size u5 u5 := Below.refl _ _
  clear hb5 hwi hw5 hw1 hw2 hw3 hw4 HI4 HI24 q1 q2 q3 q4
  go_wp2_with fail
  refine (HFX1.out _ (HBV.out _ hBu5)).mono ?_
  rintro e w6 ⟨rfl, hb6⟩
  go_wp2_with fail
  refine (works_any _).mono ?_
  rintro e w9 ⟨rfl, hb9⟩
  go_wp2_with fail
  go_ret
  exact ⟨rfl, HBV.out _ (hb6.trans (hb9.mono hb6.size))⟩
set_option maxRecDepth 100000 in
set_option maxHeartbeats 16000000 in
theorem shares_B (s : FShop) (ma : Option Addr) (ml mc : Nat) (wa : Option Addr) (wl wc : Nat) (na : Option Addr) (nl nc : Nat) (xa : Option Addr) (xl xc : Nat) (x : List Int) (w : World) (hp : FAt w ma ml mc wa wl wc na nl nc s) (hx : IntsAt w xa xl x) (hk : s.known = true) (h40 : xl ≤ 40) (b : List Int) (hB0 : s.bold = some b) (hD0 : s.divide = none) :
    Calls Try.prog 6 #[.agg #[.slice ma ml mc, .slice wa wl wc, .slice na nl nc, .int .i64 s.fresh], .slice xa xl xc] w fun e w' => e = .returned (.bool true) ∧ Below w.heap.size w w' := by
  obtain ⟨ho, hl0⟩ : s.ok = true ∧ 0 < s.left.length := by simpa [FShop.known] using hk
  have F := found ho hl0
  have hask : s.ask true = 0 := by unfold FShop.ask; rw [ho, if_pos rfl, if_pos rfl, if_neg (by omega)]
  obtain ⟨hbL, hbE⟩ := opt_some hB0
  obtain ⟨hdL, hdE⟩ := opt_none hD0
  have hnew : ¬ s.newAll = 0 := by have := F.new; rw [hD0] at this; simpa using this
  obtain ⟨hbJ, hbM, hbD⟩ := F.bold b hB0
  have hbnl : holdN s.left b ≠ s.left.length := fun e => by have := hbD.1 e; rw [hD0] at this; simp at this
  have hbfor := (for_iff ho).2 hbJ
  have hbsh := just_shares hbJ
  have HK1 := Lib.hid (fun W (hb : Below w.heap.size w W) => known_is s ma ml mc wa wl wc na nl nc true hk W (hp.below hb))
  have HD1 := Lib.hid (fun W (hb : Below w.heap.size w W) => Divide_all s ma ml mc wa wl wc na nl nc [] 3 (by unfold FShop.divideL; rw [if_pos hask, hdL]) (by unfold FShop.divideE; rw [if_pos hask, hdE]) W (hp.below hb))
  have HB1 := Lib.hid (fun W (hb : Below w.heap.size w W) => Bold_all s ma ml mc wa wl wc na nl nc b 0 (by unfold FShop.boldL; rw [if_pos hask, hbL]) (by unfold FShop.boldE; rw [if_pos hask, hbE]) W (hp.below hb))
  have HF1 := Lib.hid (fun W (hb : Below w.heap.size w W) => lawFresh_is s ma ml mc wa wl wc na nl nc ho hl0 W (hp.below hb))
  have HWO := Lib.hid (fun W (hb : Below w.heap.size w W) => refWorldsOf_any s ma ml mc wa wl wc na nl nc W (hp.below hb) ho)
  have HFX := Lib.hid (fun r (h : forB s x = r) W (hb : Below w.heap.size w W) => isFor_is s ma ml mc wa wl wc na nl nc xa xl xc x r h ho W (hp.below hb) (hx.below hb))
  have hnb : 0 ≤ s.newAll := (newTo_bd ho _ (Nat.le_refl _)).1
  have HFB := Lib.hid (fun ba bn bc W (hb : Below w.heap.size w W) (hi : IntsAt W ba bn b) => isFor_is s ma ml mc wa wl wc na nl nc ba bn bc b true hbfor ho W (hp.below hb) hi)
  have HHB := Lib.hid (fun ba bn bc i (hi : i < s.which.length) (hi2 : i < s.left.length) W (hb : Below w.heap.size w W) (hI : IntsAt W ba bn b) => HoldsIn_which s ma ml mc wa wl wc na nl nc ba bn bc b i hi hi2 ho W (hp.below hb) hI (shares_bd hbsh).1)
  have HHX := Lib.hid (fun (hs : sharesB s.moulds x = true) i (hi : i < s.which.length) (hi2 : i < s.left.length) W (hb : Below w.heap.size w W) => HoldsIn_which s ma ml mc wa wl wc na nl nc xa xl xc x i hi hi2 ho W (hp.below hb) (hx.below hb) (shares_bd hs).1)
  have HTB := Lib.hid (fun y k => holdTo_few s.left y k)
  have HTN := Lib.hid (fun y k (h : k < s.left.length) => holdTo_next (L := s.left) (x := y) h)
  have HTE := Lib.hid (fun y => show holdN s.left y = holdTo s.left y s.left.length by rw [holdTo, List.take_of_length_le (Nat.le_refl _)]; rfl)
  have HXJ := Lib.hid (fun (h : forB s x = true) => (for_iff ho).1 h)
  have HXM := Lib.hid (fun (h : x ∈ s.justs) => hbM x h)
  have HXD := Lib.hid (fun (h : x ∈ s.justs) (e : holdN s.left x = s.left.length) => F.some x h e)
  have HEA := Lib.hid (fun (r : Bool) (h : earlB x b = r) ba bn bc W (hb : Below w.heap.size w W) (hI : IntsAt W ba bn b) (hn : xl = bn) => show Calls Try.prog 40 #[.slice xa xl xc, .slice ba bn bc] W fun e w' => e = .returned (.bool r) ∧ Below W.heap.size W w' from by subst hn; exact refEarlier_is xa xc ba bc xl x b r h W (hx.below hb) hI)
  have hbl := (shares_bd hbsh).1
  have HXS := Lib.hid (fun (h : x ∈ s.justs) => just_shares h)
  have hxl := hx.1
  have hwl := which_left s
  have hl6 := left_few ho
  have hml := hp.1.1
  have h40' : ¬ (40 : Int) < (xl : Int) := by omega
  clear hp hx hk hask F
  clear hB0 hD0 hbL hbE hdL hdE ho hbJ hbM hbD hbfor hbsh
  generalize s.newAll = nn at *
  go_enter Try.func6, Try.ntmps6
  go_wp2_with fail
  refine (HK1.out _ (by repeat (first | exact Below.refl _ _ | (refine Below.alloc ?_ (by first | omega | (simp; omega) | simp) _) | (refine Below.setCell ?_ (by first | omega | (simp; omega) | simp) _) | refine Below.drew ?_))).mono ?_
  rintro e w1 ⟨rfl, hb1⟩
  have hx0 := fun i => (hb1.cell (p := ⟨w.heap.size, i, none⟩) (by simp)).trans (World.cell?_alloc_new w #[.slice ma ml mc, .slice wa wl wc, .slice na nl nc, .int .i64 s.fresh] 26 i)
  obtain ⟨x0, x1, x2, x3⟩ : w1.cell? ⟨w.heap.size, 0, none⟩ = some (.slice ma ml mc) ∧ w1.cell? ⟨w.heap.size, 1, none⟩ = some (.slice wa wl wc) ∧ w1.cell? ⟨w.heap.size, 2, none⟩ = some (.slice na nl nc) ∧ w1.cell? ⟨w.heap.size, 3, none⟩ = some (.int .i64 s.fresh) := ⟨hx0 0, hx0 1, hx0 2, hx0 3⟩
  have q1 : w.heap.size < w1.heap.size := by have := hb1.size; simp at this; omega
  have hw1 := ((by repeat (first | exact Below.refl _ _ | (refine Below.alloc ?_ (by first | omega | (simp; omega) | simp) _) | (refine Below.setCell ?_ (by first | omega | (simp; omega) | simp) _) | refine Below.drew ?_)) : Below w.heap.size w _).trans (hb1.mono (by first | (simp; done) | (simp; omega) | omega))
  clear hb1 hx0
  go_wp2_with fail
  refine (HD1.out _ hw1).mono ?_
  rintro e w2 ⟨⟨da, dn, dc, rfl, hI2⟩, hb2⟩
  have hw2 := hw1.trans (hb2.mono hw1.size)
  have q2 : w.heap.size < w2.heap.size := Nat.lt_of_lt_of_le q1 hb2.size
  have y0 := (hb2.cell (p := ⟨w.heap.size, 0, none⟩) q1).trans x0; have y1 := (hb2.cell (p := ⟨w.heap.size, 1, none⟩) q1).trans x1; have y2 := (hb2.cell (p := ⟨w.heap.size, 2, none⟩) q1).trans x2; have y3 := (hb2.cell (p := ⟨w.heap.size, 3, none⟩) q1).trans x3; clear x0 x1 x2 x3
  clear hb2
  go_wp2_with fail
  refine (HB1.out _ hw2).mono ?_
  rintro e w3 ⟨⟨ba, bn, bc, rfl, hI3⟩, hb3⟩
  have hw3 := hw2.trans (hb3.mono hw2.size)
  have q3 : w.heap.size < w3.heap.size := Nat.lt_of_lt_of_le q2 hb3.size
  have hI23 := hI2.below hb3
  have x0 := (hb3.cell (p := ⟨w.heap.size, 0, none⟩) q2).trans y0; have x1 := (hb3.cell (p := ⟨w.heap.size, 1, none⟩) q2).trans y1; have x2 := (hb3.cell (p := ⟨w.heap.size, 2, none⟩) q2).trans y2; have x3 := (hb3.cell (p := ⟨w.heap.size, 3, none⟩) q2).trans y3; clear y0 y1 y2 y3
  clear hb3 hI2
  have HI3 := Lib.hid hI3
  have HI23 := Lib.hid hI23
  clear hI3 hI23
  go_wp2_with fail
  refine (HF1.out _ hw3).mono ?_
  rintro e w4 ⟨rfl, hb4⟩
  have hw4 := hw3.trans (hb4.mono hw3.size)
  have q4 : w.heap.size < w4.heap.size := Nat.lt_of_lt_of_le q3 hb4.size
  have HI4 := Lib.hid (HI3.out.below hb4)
  have HI24 := Lib.hid (HI23.out.below hb4)
  have y0 := (hb4.cell (p := ⟨w.heap.size, 0, none⟩) q3).trans x0; have y1 := (hb4.cell (p := ⟨w.heap.size, 1, none⟩) q3).trans x1; have y2 := (hb4.cell (p := ⟨w.heap.size, 2, none⟩) q3).trans x2; have y3 := (hb4.cell (p := ⟨w.heap.size, 3, none⟩) q3).trans x3; clear x0 x1 x2 x3
  clear hb4 HI3 HI23
  have hnnl : ¬ nn < 0 := by omega
  have hnnB : (nn == 0) = false := by simpa using hnew
  go_wp2_with fail
  refine (isKnown_3 _).mono ?_
  rintro e w4' ⟨rfl, rfl⟩
  go_wp2_with fail
  refine (isKnown_0 _).mono ?_
  rintro e w4' ⟨rfl, rfl⟩
  go_wp2_with fail
  refine (HWO.out _ hw4).mono ?_
  rintro e u5 ⟨la, lc, rfl, hwi, hb5⟩
  have hw5 := hw4.trans (hb5.mono hw4.size)
  have hsU : w.heap.size < u5.heap.size := Nat.lt_of_lt_of_le q4 hb5.size
  have HIB := Lib.hid (fun W (hb : Below u5.heap.size u5 W) => (HI4.out.below hb5).below hb)
  have HID := Lib.hid (fun W (hb : Below u5.heap.size u5 W) => (HI24.out.below hb5).below hb)
  have HWI := Lib.hid hwi
  have HBV := Lib.hid (fun W (hb : Below u5.heap.size u5 W) => hw5.trans (hb.mono hw5.size))
  have x0 := (hb5.cell (p := ⟨w.heap.size, 0, none⟩) q4).trans y0; have x1 := (hb5.cell (p := ⟨w.heap.size, 1, none⟩) q4).trans y1; have x2 := (hb5.cell (p := ⟨w.heap.size, 2, none⟩) q4).trans y2; have x3 := (hb5.cell (p := ⟨w.heap.size, 3, none⟩) q4).trans y3; clear y0 y1 y2 y3
  have HSB := Lib.hid (show u5.cell? ⟨w.heap.size, 0, none⟩ = some (.slice ma ml mc) ∧ u5.cell? ⟨w.heap.size, 1, none⟩ = some (.slice wa wl wc) ∧ u5.cell? ⟨w.heap.size, 2, none⟩ = some (.slice na nl nc) ∧ u5.cell? ⟨w.heap.size, 3, none⟩ = some (.int .i64 s.fresh) from ⟨x0, x1, x2, x3⟩)
  have hBu5 : Below u5.heap.size u5 u5 := Below.refl _ _
  clear hb5 hwi hw5 hw1 hw2 hw3 hw4 HI4 HI24 q1 q2 q3 q4
  have HHB5 := Lib.hid (fun i (hi : i < s.which.length) (hi2 : i < s.left.length) W (hb : Below u5.heap.size u5 W) => HHB.out ba bn bc i hi hi2 W (HBV.out W hb) (HIB.out W hb))
  have HHX5 := Lib.hid (fun (hs : sharesB s.moulds x = true) i (hi : i < s.which.length) (hi2 : i < s.left.length) W (hb : Below u5.heap.size u5 W) => HHX.out hs i hi hi2 W (HBV.out W hb))
  have HFB5 := Lib.hid (HFB.out ba bn bc)
  have hbn : bn = ml := by have := (HIB.out _ hBu5).1; omega
  clear HHB HHX HFB
  generalize s.which = wh at *
  obtain ⟨nB, hnB⟩ : ∃ nB, holdN s.left b = nB := ⟨_, rfl⟩
  obtain ⟨nX, hnX⟩ : ∃ nX, holdN s.left x = nX := ⟨_, rfl⟩
  have HNB := Lib.hid (show holdTo s.left b wh.length = nB by rw [← hnB, HTE.out, hwl])
  have HNX := Lib.hid (show holdTo s.left x wh.length = nX by rw [← hnX, HTE.out, hwl])
  rw [hnB, hnX] at HXM
  rw [hnX] at HXD
  rw [hnB] at hbnl
  have hnB6 : nB ≤ 6 := by have := HTB.out b wh.length; rw [HNB.out] at this; omega
  have hnXL : nX ≤ s.left.length := by have := HTB.out x wh.length; rw [HNX.out] at this; omega
  have hnBL : nB ≤ s.left.length := by have := HTB.out b wh.length; rw [HNB.out] at this; omega
  clear hnB
  clear hnX
  generalize s.left = L at *
  have hwh6 : wh.length ≤ 6 := by omega
  have hwl1 := Nat.le_of_eq hwl
  have hwl2 := Nat.le_of_eq hwl.symm
  have hbn1 := Nat.le_of_eq hbn
  have hbn2 := Nat.le_of_eq hbn.symm
  have hxl1 := Nat.le_of_eq hxl
  have hxl2 := Nat.le_of_eq hxl.symm
  have hml1 := Nat.le_of_eq hml
  have hml2 := Nat.le_of_eq hml.symm
  clear hwl hbn hxl hml hbl
  go_wp2_with fail
  refine (HFB5.out _ (HBV.out _ hBu5) (HIB.out _ hBu5)).mono ?_
  rintro e u6 ⟨rfl, hb6⟩
  have hBu6 := hb6
  clear hb6 x0 x1 x2 x3
  have x0 := (hBu6.cell (p := ⟨w.heap.size, 0, none⟩) hsU).trans HSB.out.1; have x1 := (hBu6.cell (p := ⟨w.heap.size, 1, none⟩) hsU).trans HSB.out.2.1; have x2 := (hBu6.cell (p := ⟨w.heap.size, 2, none⟩) hsU).trans HSB.out.2.2.1; have x3 := (hBu6.cell (p := ⟨w.heap.size, 3, none⟩) hsU).trans HSB.out.2.2.2
  have HBu6 := Lib.hid hBu6
  clear x0 x1 x2 x3
  go_wp2_with fail
  go_loopw [11, 13] (fun n i wr => ∃ k : Nat, k ≤ wh.length ∧ i = .int .i64 k ∧ n = .int .i64 (holdTo L b k : Nat) ∧ Below u6.heap.size u6 wr) (fun _ i _ => wh.length - (intOf i).toNat)
  case atStart => exact ⟨0, by omega, rfl, by rw [show holdTo L b 0 = 0 by simp [holdTo]]; rfl, Below.refl _ _⟩
  case round =>
    obtain ⟨k, hk, rfl, rfl, hB⟩ := hrel
    obtain ⟨Va, rfl⟩ : ∃ Va : World, Va = wr := ⟨_, rfl⟩
    have HB := Lib.hid hB
    have hBV := HBu6.out.trans (hB.mono HBu6.out.size)
    have x0 := (hBV.cell (p := ⟨w.heap.size, 0, none⟩) hsU).trans HSB.out.1; have x1 := (hBV.cell (p := ⟨w.heap.size, 1, none⟩) hsU).trans HSB.out.2.1; have x2 := (hBV.cell (p := ⟨w.heap.size, 2, none⟩) hsU).trans HSB.out.2.2.1; have x3 := (hBV.cell (p := ⟨w.heap.size, 3, none⟩) hsU).trans HSB.out.2.2.2
    have htb := HTB.out b k
    by_cases hlt : k < wh.length
    · have hkL : k < L.length := by omega
      obtain ⟨lb, lo, rfl, hlb, hlcell⟩ := HWI.out.2.2 (by omega)
      have c0 := (hBV.cell (p := ⟨lb, lo + k, none⟩) hlb).trans (hlcell k hlt)
      have hlbW : lb < Va.heap.size := Nat.lt_of_lt_of_le hlb hBV.size
      have hwW : w.heap.size < Va.heap.size := Nat.lt_of_lt_of_le hsU hBV.size
      have HLX := Lib.hid (fun W (h : Below Va.heap.size Va W ∧ ∀ b o, b < Va.heap.size → W.cell? ⟨b, o, none⟩ = Va.cell? ⟨b, o, none⟩) => bothS1 (W0 := Va) (HHB5.out k hlt hkL W (hBV.trans (h.1.mono hBV.size))) h)
      have HN := Lib.hid (HTN.out b k hkL)
      have hkl : (k : Int) < (wh.length : Int) := by omega
      have hk0 : (0 : Int) ≤ (k : Int) := by omega
      clear hB hBV hlcell
      obtain ⟨r, hr⟩ : ∃ r, holdB L[k] b = r := ⟨_, rfl⟩
      rw [hr] at HLX HN
      obtain ⟨ik, hik⟩ : ∃ ik, wh[k] = ik := ⟨_, rfl⟩
      rw [hik] at HLX c0
      clear hr hik
      generalize hhk : holdTo L b k = hk' at *
      go_upto_region 16 with fail
      go_cut [86] (fun v wx => v = .bool r ∧ Below Va.heap.size Va wx)
      case first =>
        go_region_held3 (fun w' => Below Va.heap.size Va w' ∧ ∀ b o, b < Va.heap.size → w'.cell? ⟨b, o, none⟩ = Va.cell? ⟨b, o, none⟩) (first | with_reducible assumption | ((repeat (first | with_reducible refine bothS_drew ?_ | with_reducible refine bothS_alloc _ ?_ | with_reducible refine bothS_set _ _ (by first | omega | (simp; omega) | simp) ?_)); first | with_reducible assumption | with_reducible exact Hid.out (by assumption) | with_reducible exact ⟨Below.refl _ _, fun _ _ _ => rfl⟩)) (first | (go_at_call 26; with_reducible refine (HLX.out _ ?_).mono ?_; (first | with_reducible assumption | ((repeat (first | with_reducible refine bothS_drew ?_ | with_reducible refine bothS_alloc _ ?_ | with_reducible refine bothS_set _ _ (by first | omega | (simp; omega) | simp) ?_)); first | with_reducible assumption | with_reducible exact Hid.out (by assumption) | with_reducible exact ⟨Below.refl _ _, fun _ _ _ => rfl⟩)); rintro e w' ⟨rfl, k, k1, k2, k3⟩; have HK := Lib.hid k; (try simp at k3); (try have k6 := Nat.lt_of_succ_le k3); (try have k7 := Nat.lt_of_succ_lt k6); (try have k8 := Nat.lt_of_succ_lt k3)) | fail "no arm")
        all_goals (go_wp2_with fail; go_meet; exact ⟨rfl, And.left (by assumption)⟩)
      case rest =>
      obtain ⟨rfl, hB5⟩ := hcut
      have HB5 := Lib.hid (HB.out.trans (hB5.mono HB.out.size))
      clear hB5 c0 HLX
      clear x0 x1 x2 x3
      cases r
      · go_wp2_with fail
        go_roundw
        case rel => exact ⟨k + 1, by omega, by go_num, by rw [HN.out]; simp, HB5.out⟩
        case measure => simp [intOf]; omega
      · go_wp2_with fail
        go_roundw
        case rel => exact ⟨k + 1, by omega, by go_num, by rw [HN.out]; simp, HB5.out⟩
        case measure => simp [intOf]; omega
    · obtain rfl : wh.length = k := by omega
      have HEN := Lib.hid (show holdTo L b wh.length = nB from HNB.out)
      rw [HEN.out]
      have hBVa := hBV
      clear hB hBV hlt hk htb HB
      have hneq : ¬ (nB : Int) = (wh.length : Int) := by omega
      have hneqB : ((nB : Int) == (wh.length : Int)) = false := by simpa using hneq
      rcases hfor : forB s x with - | -
      · have HFX1 := Lib.hid (HFX.out false hfor)
        clear hfor
        go_wp2_with fail
        refine (HFX1.out _ (HBV.out _ hBVa)).mono ?_
        rintro e u8 ⟨rfl, hb8⟩
        have hBu8 := hBVa.trans (hb8.mono hBVa.size)
        clear hb8
        go_wp2_with fail
        refine (works_any _).mono ?_
        rintro e w9 ⟨rfl, hb9⟩
        go_wp2_with fail
        go_ret
        exact ⟨rfl, HBV.out _ (hBu8.trans (hb9.mono hBu8.size))⟩
      · have HFX1 := Lib.hid (HFX.out true hfor)
        have hxJ := HXJ.out hfor
        obtain ⟨hxle, hxea⟩ := HXM.out hxJ
        have hxs := HXS.out hxJ
        have HHX6 := Lib.hid (HHX5.out hxs)
        have hxml1 : xl ≤ ml := by have := (shares_bd hxs).1; omega
        have hxml2 : ml ≤ xl := by have := (shares_bd hxs).1; omega
        clear hfor
        go_wp2_with fail
        refine (HFX1.out _ (HBV.out _ hBVa)).mono ?_
        rintro e u8 ⟨rfl, hb8⟩
        have hBu8 := hBVa.trans (hb8.mono hBVa.size)
        clear hb8 x0 x1 x2 x3
        have x0 := (hBu8.cell (p := ⟨w.heap.size, 0, none⟩) hsU).trans HSB.out.1; have x1 := (hBu8.cell (p := ⟨w.heap.size, 1, none⟩) hsU).trans HSB.out.2.1; have x2 := (hBu8.cell (p := ⟨w.heap.size, 2, none⟩) hsU).trans HSB.out.2.2.1; have x3 := (hBu8.cell (p := ⟨w.heap.size, 3, none⟩) hsU).trans HSB.out.2.2.2
        have HBu8 := Lib.hid hBu8
        clear x0 x1 x2 x3
        go_wp2_with fail
        go_loopw [12, 15] (fun n i wr => ∃ k : Nat, k ≤ wh.length ∧ i = .int .i64 k ∧ n = .int .i64 (holdTo L x k : Nat) ∧ Below u8.heap.size u8 wr) (fun _ i _ => wh.length - (intOf i).toNat)
        case atStart => exact ⟨0, by omega, rfl, by rw [show holdTo L x 0 = 0 by simp [holdTo]]; rfl, Below.refl _ _⟩
        case round =>
          obtain ⟨k, hk, rfl, rfl, hB⟩ := hrel
          obtain ⟨Vc, rfl⟩ : ∃ Vc : World, Vc = wr := ⟨_, rfl⟩
          have HB := Lib.hid hB
          have hBV := HBu8.out.trans (hB.mono HBu8.out.size)
          have x0 := (hBV.cell (p := ⟨w.heap.size, 0, none⟩) hsU).trans HSB.out.1; have x1 := (hBV.cell (p := ⟨w.heap.size, 1, none⟩) hsU).trans HSB.out.2.1; have x2 := (hBV.cell (p := ⟨w.heap.size, 2, none⟩) hsU).trans HSB.out.2.2.1; have x3 := (hBV.cell (p := ⟨w.heap.size, 3, none⟩) hsU).trans HSB.out.2.2.2
          have htb := HTB.out x k
          by_cases hlt : k < wh.length
          · have hkL : k < L.length := by omega
            obtain ⟨lb, lo, rfl, hlb, hlcell⟩ := HWI.out.2.2 (by omega)
            have c0 := (hBV.cell (p := ⟨lb, lo + k, none⟩) hlb).trans (hlcell k hlt)
            have hlbW : lb < Vc.heap.size := Nat.lt_of_lt_of_le hlb hBV.size
            have hwW : w.heap.size < Vc.heap.size := Nat.lt_of_lt_of_le hsU hBV.size
            have HLX := Lib.hid (fun W (h : Below Vc.heap.size Vc W ∧ ∀ b o, b < Vc.heap.size → W.cell? ⟨b, o, none⟩ = Vc.cell? ⟨b, o, none⟩) => bothS1 (W0 := Vc) (HHX6.out k hlt hkL W (hBV.trans (h.1.mono hBV.size))) h)
            have HN := Lib.hid (HTN.out x k hkL)
            have hkl : (k : Int) < (wh.length : Int) := by omega
            have hk0 : (0 : Int) ≤ (k : Int) := by omega
            clear hB hBV hlcell
            obtain ⟨r, hr⟩ : ∃ r, holdB L[k] x = r := ⟨_, rfl⟩
            rw [hr] at HLX HN
            obtain ⟨ik, hik⟩ : ∃ ik, wh[k] = ik := ⟨_, rfl⟩
            rw [hik] at HLX c0
            clear hr hik
            generalize hhk : holdTo L x k = hk' at *
            go_upto_region 33 with fail
            go_cut [133] (fun v wx => v = .bool r ∧ Below Vc.heap.size Vc wx)
            case first =>
              go_region_held3 (fun w' => Below Vc.heap.size Vc w' ∧ ∀ b o, b < Vc.heap.size → w'.cell? ⟨b, o, none⟩ = Vc.cell? ⟨b, o, none⟩) (first | with_reducible assumption | ((repeat (first | with_reducible refine bothS_drew ?_ | with_reducible refine bothS_alloc _ ?_ | with_reducible refine bothS_set _ _ (by first | omega | (simp; omega) | simp) ?_)); first | with_reducible assumption | with_reducible exact Hid.out (by assumption) | with_reducible exact ⟨Below.refl _ _, fun _ _ _ => rfl⟩)) (first | (go_at_call 26; with_reducible refine (HLX.out _ ?_).mono ?_; (first | with_reducible assumption | ((repeat (first | with_reducible refine bothS_drew ?_ | with_reducible refine bothS_alloc _ ?_ | with_reducible refine bothS_set _ _ (by first | omega | (simp; omega) | simp) ?_)); first | with_reducible assumption | with_reducible exact Hid.out (by assumption) | with_reducible exact ⟨Below.refl _ _, fun _ _ _ => rfl⟩)); rintro e w' ⟨rfl, k, k1, k2, k3⟩; have HK := Lib.hid k; (try simp at k3); (try have k6 := Nat.lt_of_succ_le k3); (try have k7 := Nat.lt_of_succ_lt k6); (try have k8 := Nat.lt_of_succ_lt k3)) | fail "no arm")
              all_goals (go_wp2_with fail; go_meet; exact ⟨rfl, And.left (by assumption)⟩)
            case rest =>
            obtain ⟨rfl, hB5⟩ := hcut
            have HB5 := Lib.hid (HB.out.trans (hB5.mono HB.out.size))
            clear hB5 c0 HLX
            clear x0 x1 x2 x3
            cases r
            · go_wp2_with fail
              go_roundw
              case rel => exact ⟨k + 1, by omega, by go_num, by rw [HN.out]; simp, HB5.out⟩
              case measure => simp [intOf]; omega
            · go_wp2_with fail
              go_roundw
              case rel => exact ⟨k + 1, by omega, by go_num, by rw [HN.out]; simp, HB5.out⟩
              case measure => simp [intOf]; omega
          · obtain rfl : wh.length = k := by omega
            have HEN := Lib.hid (show holdTo L x wh.length = nX from HNX.out)
            rw [HEN.out]
            have hBVc := hBV
            clear hB hBV hlt hk htb HB
            have hle : ¬ (nB : Int) < (nX : Int) := by omega
            have hxlt : nX < wh.length := by omega
            have hxltI : (nX : Int) < (wh.length : Int) := by omega
            by_cases he : nX = nB
            · have HE1 := Lib.hid (HEA.out false (hxea he) ba bn bc _ (HBV.out _ hBVc) (HIB.out _ hBVc) (by omega))
              subst he
              go_wp2_with fail
              refine HE1.out.mono ?_
              rintro e v9 ⟨rfl, hbv9⟩
              have hBv9 := hBVc.trans (hbv9.mono hBVc.size)
              go_wp2_with fail
              refine (works_any _).mono ?_
              rintro e w9 ⟨rfl, hb9⟩
              go_wp2_with fail
              go_ret
              exact ⟨rfl, HBV.out _ (hBv9.trans (hb9.mono hBv9.size))⟩
            · have heB : ((nX : Int) == (nB : Int)) = false := by simp; omega
              go_wp2_with fail
              refine (works_any _).mono ?_
              rintro e w9 ⟨rfl, hb9⟩
              go_wp2_with fail
              go_ret
              exact ⟨rfl, HBV.out _ (hBVc.trans (hb9.mono hBVc.size))⟩
set_option maxRecDepth 100000 in
set_option maxHeartbeats 16000000 in
theorem shares_C (s : FShop) (ma : Option Addr) (ml mc : Nat) (wa : Option Addr) (wl wc : Nat) (na : Option Addr) (nl nc : Nat) (xa : Option Addr) (xl xc : Nat) (x : List Int) (w : World) (hp : FAt w ma ml mc wa wl wc na nl nc s) (hx : IntsAt w xa xl x) (hk : s.known = true) (h40 : xl ≤ 40) (b : List Int) (hB0 : s.bold = some b) (d : List Int) (hD0 : s.divide = some d) :
    Calls Try.prog 6 #[.agg #[.slice ma ml mc, .slice wa wl wc, .slice na nl nc, .int .i64 s.fresh], .slice xa xl xc] w fun e w' => e = .returned (.bool true) ∧ Below w.heap.size w w' := by
  obtain ⟨ho, hl0⟩ : s.ok = true ∧ 0 < s.left.length := by simpa [FShop.known] using hk
  have F := found ho hl0
  have hask : s.ask true = 0 := by unfold FShop.ask; rw [ho, if_pos rfl, if_pos rfl, if_neg (by omega)]
  obtain ⟨hbL, hbE⟩ := opt_some hB0
  obtain ⟨hdL, hdE⟩ := opt_some hD0
  have hnew : s.newAll = 0 := by have := F.new; rw [hD0] at this; simpa using this
  obtain ⟨hbJ, hbM, hbD⟩ := F.bold b hB0
  have hbnl : holdN s.left b = s.left.length := hbD.2 (by rw [hD0]; rfl)
  obtain ⟨hdJ, hdH⟩ := F.div d hD0
  have hbfor := (for_iff ho).2 hbJ
  have hdfor := (for_iff ho).2 hdJ
  have hbsh := just_shares hbJ
  have hdsh := just_shares hdJ
  have HK1 := Lib.hid (fun W (hb : Below w.heap.size w W) => known_is s ma ml mc wa wl wc na nl nc true hk W (hp.below hb))
  have HD1 := Lib.hid (fun W (hb : Below w.heap.size w W) => Divide_all s ma ml mc wa wl wc na nl nc d 0 (by unfold FShop.divideL; rw [if_pos hask, hdL]) (by unfold FShop.divideE; rw [if_pos hask, hdE]) W (hp.below hb))
  have HB1 := Lib.hid (fun W (hb : Below w.heap.size w W) => Bold_all s ma ml mc wa wl wc na nl nc b 0 (by unfold FShop.boldL; rw [if_pos hask, hbL]) (by unfold FShop.boldE; rw [if_pos hask, hbE]) W (hp.below hb))
  have HF1 := Lib.hid (fun W (hb : Below w.heap.size w W) => lawFresh_is s ma ml mc wa wl wc na nl nc ho hl0 W (hp.below hb))
  have HWO := Lib.hid (fun W (hb : Below w.heap.size w W) => refWorldsOf_any s ma ml mc wa wl wc na nl nc W (hp.below hb) ho)
  have HFX := Lib.hid (fun r (h : forB s x = r) W (hb : Below w.heap.size w W) => isFor_is s ma ml mc wa wl wc na nl nc xa xl xc x r h ho W (hp.below hb) (hx.below hb))
  have hnb : 0 ≤ s.newAll := (newTo_bd ho _ (Nat.le_refl _)).1
  have HFB := Lib.hid (fun ba bn bc W (hb : Below w.heap.size w W) (hi : IntsAt W ba bn b) => isFor_is s ma ml mc wa wl wc na nl nc ba bn bc b true hbfor ho W (hp.below hb) hi)
  have HHB := Lib.hid (fun ba bn bc i (hi : i < s.which.length) (hi2 : i < s.left.length) W (hb : Below w.heap.size w W) (hI : IntsAt W ba bn b) => HoldsIn_which s ma ml mc wa wl wc na nl nc ba bn bc b i hi hi2 ho W (hp.below hb) hI (shares_bd hbsh).1)
  have HHX := Lib.hid (fun (hs : sharesB s.moulds x = true) i (hi : i < s.which.length) (hi2 : i < s.left.length) W (hb : Below w.heap.size w W) => HoldsIn_which s ma ml mc wa wl wc na nl nc xa xl xc x i hi hi2 ho W (hp.below hb) (hx.below hb) (shares_bd hs).1)
  have HTB := Lib.hid (fun y k => holdTo_few s.left y k)
  have HTN := Lib.hid (fun y k (h : k < s.left.length) => holdTo_next (L := s.left) (x := y) h)
  have HTE := Lib.hid (fun y => show holdN s.left y = holdTo s.left y s.left.length by rw [holdTo, List.take_of_length_le (Nat.le_refl _)]; rfl)
  have HXJ := Lib.hid (fun (h : forB s x = true) => (for_iff ho).1 h)
  have HXM := Lib.hid (fun (h : x ∈ s.justs) => hbM x h)
  have HXD := Lib.hid (fun (h : x ∈ s.justs) (e : holdN s.left x = s.left.length) => F.some x h e)
  have HEA := Lib.hid (fun (r : Bool) (h : earlB x b = r) ba bn bc W (hb : Below w.heap.size w W) (hI : IntsAt W ba bn b) (hn : xl = bn) => show Calls Try.prog 40 #[.slice xa xl xc, .slice ba bn bc] W fun e w' => e = .returned (.bool r) ∧ Below W.heap.size W w' from by subst hn; exact refEarlier_is xa xc ba bc xl x b r h W (hx.below hb) hI)
  have hbl := (shares_bd hbsh).1
  have HXS := Lib.hid (fun (h : x ∈ s.justs) => just_shares h)
  have hxl := hx.1
  have HFD := Lib.hid (fun ba bn bc W (hb : Below w.heap.size w W) (hi : IntsAt W ba bn d) => isFor_is s ma ml mc wa wl wc na nl nc ba bn bc d true hdfor ho W (hp.below hb) hi)
  have hdall : ∀ c ∈ s.left, holdB c d = true := fun c hc => hold_all hc hdH
  have HHD := Lib.hid (fun ba bn bc i (hi : i < s.which.length) (hi2 : i < s.left.length) W (hb : Below w.heap.size w W) (hI : IntsAt W ba bn d) => show Calls Try.prog 26 #[.agg #[.slice ma ml mc, .slice wa wl wc, .slice na nl nc, .int .i64 s.fresh], .slice ba bn bc, .int .i64 s.which[i]] W fun e w' => e = .returned (.bool true) ∧ Below W.heap.size W w' by
    have h := HoldsIn_which s ma ml mc wa wl wc na nl nc ba bn bc d i hi hi2 ho W (hp.below hb) hI (shares_bd hdsh).1
    rwa [hdall _ (List.getElem_mem hi2)] at h)
  have HSX := Lib.hid (fun (hs : sharesB s.moulds x = true) W (hb : Below w.heap.size w W) => refSpared_is s ma ml mc wa wl wc na nl nc xa xl xc x ho hl0 hs W (hp.below hb) (hx.below hb))
  have HSD := Lib.hid (fun ba bn bc W (hb : Below w.heap.size w W) (hI : IntsAt W ba bn d) => refSpared_is s ma ml mc wa wl wc na nl nc ba bn bc d ho hl0 hdsh W (hp.below hb) hI)
  have HFAR := Lib.hid (fun (h : x ∈ s.justs) (e : holdN s.left x = s.left.length) => F.far d x hD0 h e)
  have HED := Lib.hid (fun (r : Bool) (h : earlB x d = r) ba bn bc W (hb : Below w.heap.size w W) (hI : IntsAt W ba bn d) (hn : xl = bn) => show Calls Try.prog 40 #[.slice xa xl xc, .slice ba bn bc] W fun e w' => e = .returned (.bool r) ∧ Below W.heap.size W w' from by subst hn; exact refEarlier_is xa xc ba bc xl x d r h W (hx.below hb) hI)
  have hdl := (shares_bd hdsh).1
  have hwl := which_left s
  have hl6 := left_few ho
  have hml := hp.1.1
  have h40' : ¬ (40 : Int) < (xl : Int) := by omega
  clear hp hx hk hask F
  clear hB0 hbL hbE hdL hdE ho hbJ hbM hbD hbfor hbsh hdJ hdH hdfor hdsh hdall
  generalize s.newAll = nn at *
  go_enter Try.func6, Try.ntmps6
  go_wp2_with fail
  refine (HK1.out _ (by repeat (first | exact Below.refl _ _ | (refine Below.alloc ?_ (by first | omega | (simp; omega) | simp) _) | (refine Below.setCell ?_ (by first | omega | (simp; omega) | simp) _) | refine Below.drew ?_))).mono ?_
  rintro e w1 ⟨rfl, hb1⟩
  have hx0 := fun i => (hb1.cell (p := ⟨w.heap.size, i, none⟩) (by simp)).trans (World.cell?_alloc_new w #[.slice ma ml mc, .slice wa wl wc, .slice na nl nc, .int .i64 s.fresh] 26 i)
  obtain ⟨x0, x1, x2, x3⟩ : w1.cell? ⟨w.heap.size, 0, none⟩ = some (.slice ma ml mc) ∧ w1.cell? ⟨w.heap.size, 1, none⟩ = some (.slice wa wl wc) ∧ w1.cell? ⟨w.heap.size, 2, none⟩ = some (.slice na nl nc) ∧ w1.cell? ⟨w.heap.size, 3, none⟩ = some (.int .i64 s.fresh) := ⟨hx0 0, hx0 1, hx0 2, hx0 3⟩
  have q1 : w.heap.size < w1.heap.size := by have := hb1.size; simp at this; omega
  have hw1 := ((by repeat (first | exact Below.refl _ _ | (refine Below.alloc ?_ (by first | omega | (simp; omega) | simp) _) | (refine Below.setCell ?_ (by first | omega | (simp; omega) | simp) _) | refine Below.drew ?_)) : Below w.heap.size w _).trans (hb1.mono (by first | (simp; done) | (simp; omega) | omega))
  clear hb1 hx0
  go_wp2_with fail
  refine (HD1.out _ hw1).mono ?_
  rintro e w2 ⟨⟨da, dn, dc, rfl, hI2⟩, hb2⟩
  have hw2 := hw1.trans (hb2.mono hw1.size)
  have q2 : w.heap.size < w2.heap.size := Nat.lt_of_lt_of_le q1 hb2.size
  have y0 := (hb2.cell (p := ⟨w.heap.size, 0, none⟩) q1).trans x0; have y1 := (hb2.cell (p := ⟨w.heap.size, 1, none⟩) q1).trans x1; have y2 := (hb2.cell (p := ⟨w.heap.size, 2, none⟩) q1).trans x2; have y3 := (hb2.cell (p := ⟨w.heap.size, 3, none⟩) q1).trans x3; clear x0 x1 x2 x3
  clear hb2
  go_wp2_with fail
  refine (HB1.out _ hw2).mono ?_
  rintro e w3 ⟨⟨ba, bn, bc, rfl, hI3⟩, hb3⟩
  have hw3 := hw2.trans (hb3.mono hw2.size)
  have q3 : w.heap.size < w3.heap.size := Nat.lt_of_lt_of_le q2 hb3.size
  have hI23 := hI2.below hb3
  have x0 := (hb3.cell (p := ⟨w.heap.size, 0, none⟩) q2).trans y0; have x1 := (hb3.cell (p := ⟨w.heap.size, 1, none⟩) q2).trans y1; have x2 := (hb3.cell (p := ⟨w.heap.size, 2, none⟩) q2).trans y2; have x3 := (hb3.cell (p := ⟨w.heap.size, 3, none⟩) q2).trans y3; clear y0 y1 y2 y3
  clear hb3 hI2
  have HI3 := Lib.hid hI3
  have HI23 := Lib.hid hI23
  clear hI3 hI23
  go_wp2_with fail
  refine (HF1.out _ hw3).mono ?_
  rintro e w4 ⟨rfl, hb4⟩
  have hw4 := hw3.trans (hb4.mono hw3.size)
  have q4 : w.heap.size < w4.heap.size := Nat.lt_of_lt_of_le q3 hb4.size
  have HI4 := Lib.hid (HI3.out.below hb4)
  have HI24 := Lib.hid (HI23.out.below hb4)
  have y0 := (hb4.cell (p := ⟨w.heap.size, 0, none⟩) q3).trans x0; have y1 := (hb4.cell (p := ⟨w.heap.size, 1, none⟩) q3).trans x1; have y2 := (hb4.cell (p := ⟨w.heap.size, 2, none⟩) q3).trans x2; have y3 := (hb4.cell (p := ⟨w.heap.size, 3, none⟩) q3).trans x3; clear x0 x1 x2 x3
  clear hb4 HI3 HI23
  have hnnl : ¬ nn < 0 := by omega
  subst hnew
  go_wp2_with fail
  refine (isKnown_0 _).mono ?_
  rintro e w4' ⟨rfl, rfl⟩
  go_wp2_with fail
  refine (isKnown_0 _).mono ?_
  rintro e w4' ⟨rfl, rfl⟩
  go_wp2_with fail
  refine (HWO.out _ hw4).mono ?_
  rintro e u5 ⟨la, lc, rfl, hwi, hb5⟩
  have hw5 := hw4.trans (hb5.mono hw4.size)
  have hsU : w.heap.size < u5.heap.size := Nat.lt_of_lt_of_le q4 hb5.size
  have HIB := Lib.hid (fun W (hb : Below u5.heap.size u5 W) => (HI4.out.below hb5).below hb)
  have HID := Lib.hid (fun W (hb : Below u5.heap.size u5 W) => (HI24.out.below hb5).below hb)
  have HWI := Lib.hid hwi
  have HBV := Lib.hid (fun W (hb : Below u5.heap.size u5 W) => hw5.trans (hb.mono hw5.size))
  have x0 := (hb5.cell (p := ⟨w.heap.size, 0, none⟩) q4).trans y0; have x1 := (hb5.cell (p := ⟨w.heap.size, 1, none⟩) q4).trans y1; have x2 := (hb5.cell (p := ⟨w.heap.size, 2, none⟩) q4).trans y2; have x3 := (hb5.cell (p := ⟨w.heap.size, 3, none⟩) q4).trans y3; clear y0 y1 y2 y3
  have HSB := Lib.hid (show u5.cell? ⟨w.heap.size, 0, none⟩ = some (.slice ma ml mc) ∧ u5.cell? ⟨w.heap.size, 1, none⟩ = some (.slice wa wl wc) ∧ u5.cell? ⟨w.heap.size, 2, none⟩ = some (.slice na nl nc) ∧ u5.cell? ⟨w.heap.size, 3, none⟩ = some (.int .i64 s.fresh) from ⟨x0, x1, x2, x3⟩)
  have hBu5 : Below u5.heap.size u5 u5 := Below.refl _ _
  clear hb5 hwi hw5 hw1 hw2 hw3 hw4 HI4 HI24 q1 q2 q3 q4
  have HHB5 := Lib.hid (fun i (hi : i < s.which.length) (hi2 : i < s.left.length) W (hb : Below u5.heap.size u5 W) => HHB.out ba bn bc i hi hi2 W (HBV.out W hb) (HIB.out W hb))
  have HHX5 := Lib.hid (fun (hs : sharesB s.moulds x = true) i (hi : i < s.which.length) (hi2 : i < s.left.length) W (hb : Below u5.heap.size u5 W) => HHX.out hs i hi hi2 W (HBV.out W hb))
  have HFB5 := Lib.hid (HFB.out ba bn bc)
  have hbn : bn = ml := by have := (HIB.out _ hBu5).1; omega
  clear HHB HHX HFB
  have HHD5 := Lib.hid (fun i (hi : i < s.which.length) (hi2 : i < s.left.length) W (hb : Below u5.heap.size u5 W) => HHD.out da dn dc i hi hi2 W (HBV.out W hb) (HID.out W hb))
  have hdn : dn = ml := by have := (HID.out _ hBu5).1; omega
  clear HHD
  generalize s.which = wh at *
  obtain ⟨nB, hnB⟩ : ∃ nB, holdN s.left b = nB := ⟨_, rfl⟩
  obtain ⟨nX, hnX⟩ : ∃ nX, holdN s.left x = nX := ⟨_, rfl⟩
  have HNB := Lib.hid (show holdTo s.left b wh.length = nB by rw [← hnB, HTE.out, hwl])
  have HNX := Lib.hid (show holdTo s.left x wh.length = nX by rw [← hnX, HTE.out, hwl])
  rw [hnB, hnX] at HXM
  rw [hnX] at HXD
  rw [hnB] at hbnl
  have hnB6 : nB ≤ 6 := by have := HTB.out b wh.length; rw [HNB.out] at this; omega
  have hnXL : nX ≤ s.left.length := by have := HTB.out x wh.length; rw [HNX.out] at this; omega
  have hnBL : nB ≤ s.left.length := by have := HTB.out b wh.length; rw [HNB.out] at this; omega
  clear hnB
  rw [hnX] at HFAR
  clear hnX
  generalize s.left = L at *
  have hwh6 : wh.length ≤ 6 := by omega
  have hwl1 := Nat.le_of_eq hwl
  have hwl2 := Nat.le_of_eq hwl.symm
  have hbn1 := Nat.le_of_eq hbn
  have hbn2 := Nat.le_of_eq hbn.symm
  have hxl1 := Nat.le_of_eq hxl
  have hxl2 := Nat.le_of_eq hxl.symm
  have hml1 := Nat.le_of_eq hml
  have hml2 := Nat.le_of_eq hml.symm
  clear hwl hbn hxl hml hbl
  have hdn1 := Nat.le_of_eq hdn
  have hdn2 := Nat.le_of_eq hdn.symm
  have hbnl1 := Nat.le_of_eq hbnl
  have hbnl2 := Nat.le_of_eq hbnl.symm
  clear hdn hdl hbnl
  go_wp2_with fail
  refine (HFB5.out _ (HBV.out _ hBu5) (HIB.out _ hBu5)).mono ?_
  rintro e u6 ⟨rfl, hb6⟩
  have hBu6 := hb6
  clear hb6 x0 x1 x2 x3
  have x0 := (hBu6.cell (p := ⟨w.heap.size, 0, none⟩) hsU).trans HSB.out.1; have x1 := (hBu6.cell (p := ⟨w.heap.size, 1, none⟩) hsU).trans HSB.out.2.1; have x2 := (hBu6.cell (p := ⟨w.heap.size, 2, none⟩) hsU).trans HSB.out.2.2.1; have x3 := (hBu6.cell (p := ⟨w.heap.size, 3, none⟩) hsU).trans HSB.out.2.2.2
  have HBu6 := Lib.hid hBu6
  clear x0 x1 x2 x3
  go_wp2_with fail
  go_loopw [11, 13] (fun n i wr => ∃ k : Nat, k ≤ wh.length ∧ i = .int .i64 k ∧ n = .int .i64 (holdTo L b k : Nat) ∧ Below u6.heap.size u6 wr) (fun _ i _ => wh.length - (intOf i).toNat)
  case atStart => exact ⟨0, by omega, rfl, by rw [show holdTo L b 0 = 0 by simp [holdTo]]; rfl, Below.refl _ _⟩
  case round =>
    obtain ⟨k, hk, rfl, rfl, hB⟩ := hrel
    obtain ⟨Va, rfl⟩ : ∃ Va : World, Va = wr := ⟨_, rfl⟩
    have HB := Lib.hid hB
    have hBV := HBu6.out.trans (hB.mono HBu6.out.size)
    have x0 := (hBV.cell (p := ⟨w.heap.size, 0, none⟩) hsU).trans HSB.out.1; have x1 := (hBV.cell (p := ⟨w.heap.size, 1, none⟩) hsU).trans HSB.out.2.1; have x2 := (hBV.cell (p := ⟨w.heap.size, 2, none⟩) hsU).trans HSB.out.2.2.1; have x3 := (hBV.cell (p := ⟨w.heap.size, 3, none⟩) hsU).trans HSB.out.2.2.2
    have htb := HTB.out b k
    by_cases hlt : k < wh.length
    · have hkL : k < L.length := by omega
      obtain ⟨lb, lo, rfl, hlb, hlcell⟩ := HWI.out.2.2 (by omega)
      have c0 := (hBV.cell (p := ⟨lb, lo + k, none⟩) hlb).trans (hlcell k hlt)
      have hlbW : lb < Va.heap.size := Nat.lt_of_lt_of_le hlb hBV.size
      have hwW : w.heap.size < Va.heap.size := Nat.lt_of_lt_of_le hsU hBV.size
      have HLX := Lib.hid (fun W (h : Below Va.heap.size Va W ∧ ∀ b o, b < Va.heap.size → W.cell? ⟨b, o, none⟩ = Va.cell? ⟨b, o, none⟩) => bothS1 (W0 := Va) (HHB5.out k hlt hkL W (hBV.trans (h.1.mono hBV.size))) h)
      have HN := Lib.hid (HTN.out b k hkL)
      have hkl : (k : Int) < (wh.length : Int) := by omega
      have hk0 : (0 : Int) ≤ (k : Int) := by omega
      clear hB hBV hlcell
      obtain ⟨r, hr⟩ : ∃ r, holdB L[k] b = r := ⟨_, rfl⟩
      rw [hr] at HLX HN
      obtain ⟨ik, hik⟩ : ∃ ik, wh[k] = ik := ⟨_, rfl⟩
      rw [hik] at HLX c0
      clear hr hik
      generalize hhk : holdTo L b k = hk' at *
      go_upto_region 16 with fail
      go_cut [86] (fun v wx => v = .bool r ∧ Below Va.heap.size Va wx)
      case first =>
        go_region_held3 (fun w' => Below Va.heap.size Va w' ∧ ∀ b o, b < Va.heap.size → w'.cell? ⟨b, o, none⟩ = Va.cell? ⟨b, o, none⟩) (first | with_reducible assumption | ((repeat (first | with_reducible refine bothS_drew ?_ | with_reducible refine bothS_alloc _ ?_ | with_reducible refine bothS_set _ _ (by first | omega | (simp; omega) | simp) ?_)); first | with_reducible assumption | with_reducible exact Hid.out (by assumption) | with_reducible exact ⟨Below.refl _ _, fun _ _ _ => rfl⟩)) (first | (go_at_call 26; with_reducible refine (HLX.out _ ?_).mono ?_; (first | with_reducible assumption | ((repeat (first | with_reducible refine bothS_drew ?_ | with_reducible refine bothS_alloc _ ?_ | with_reducible refine bothS_set _ _ (by first | omega | (simp; omega) | simp) ?_)); first | with_reducible assumption | with_reducible exact Hid.out (by assumption) | with_reducible exact ⟨Below.refl _ _, fun _ _ _ => rfl⟩)); rintro e w' ⟨rfl, k, k1, k2, k3⟩; have HK := Lib.hid k; (try simp at k3); (try have k6 := Nat.lt_of_succ_le k3); (try have k7 := Nat.lt_of_succ_lt k6); (try have k8 := Nat.lt_of_succ_lt k3)) | fail "no arm")
        all_goals (go_wp2_with fail; go_meet; exact ⟨rfl, And.left (by assumption)⟩)
      case rest =>
      obtain ⟨rfl, hB5⟩ := hcut
      have HB5 := Lib.hid (HB.out.trans (hB5.mono HB.out.size))
      clear hB5 c0 HLX
      clear x0 x1 x2 x3
      cases r
      · go_wp2_with fail
        go_roundw
        case rel => exact ⟨k + 1, by omega, by go_num, by rw [HN.out]; simp, HB5.out⟩
        case measure => simp [intOf]; omega
      · go_wp2_with fail
        go_roundw
        case rel => exact ⟨k + 1, by omega, by go_num, by rw [HN.out]; simp, HB5.out⟩
        case measure => simp [intOf]; omega
    · obtain rfl : wh.length = k := by omega
      have HEN := Lib.hid (show holdTo L b wh.length = nB from HNB.out)
      rw [HEN.out]
      have hBVa := hBV
      clear hB hBV hlt hk htb HB
      have heq : nB = wh.length := by omega
      rw [heq]
      clear heq
      go_wp2_with fail
      refine (HFD.out da dn dc _ (HBV.out _ hBVa) (HID.out _ hBVa)).mono ?_
      rintro e u7 ⟨rfl, hb7⟩
      have hBu7 := hBVa.trans (hb7.mono hBVa.size)
      clear hb7 x0 x1 x2 x3
      have x0 := (hBu7.cell (p := ⟨w.heap.size, 0, none⟩) hsU).trans HSB.out.1; have x1 := (hBu7.cell (p := ⟨w.heap.size, 1, none⟩) hsU).trans HSB.out.2.1; have x2 := (hBu7.cell (p := ⟨w.heap.size, 2, none⟩) hsU).trans HSB.out.2.2.1; have x3 := (hBu7.cell (p := ⟨w.heap.size, 3, none⟩) hsU).trans HSB.out.2.2.2
      have HBu7 := Lib.hid hBu7
      go_wp2_with fail
      clear x0 x1 x2 x3
      go_loopw [14] (fun i wr => ∃ k : Nat, k ≤ wh.length ∧ i = .int .i64 k ∧ Below u7.heap.size u7 wr) (fun i _ => wh.length - (intOf i).toNat)
      case atStart => exact ⟨0, by omega, rfl, Below.refl _ _⟩
      case round =>
        obtain ⟨k, hk, rfl, hB⟩ := hrel
        obtain ⟨Vb, rfl⟩ : ∃ Vb : World, Vb = wr := ⟨_, rfl⟩
        have HB := Lib.hid hB
        have hBV := HBu7.out.trans (hB.mono HBu7.out.size)
        have x0 := (hBV.cell (p := ⟨w.heap.size, 0, none⟩) hsU).trans HSB.out.1; have x1 := (hBV.cell (p := ⟨w.heap.size, 1, none⟩) hsU).trans HSB.out.2.1; have x2 := (hBV.cell (p := ⟨w.heap.size, 2, none⟩) hsU).trans HSB.out.2.2.1; have x3 := (hBV.cell (p := ⟨w.heap.size, 3, none⟩) hsU).trans HSB.out.2.2.2
        by_cases hlt : k < wh.length
        · have hkL : k < L.length := by omega
          obtain ⟨lb, lo, rfl, hlb, hlcell⟩ := HWI.out.2.2 (by omega)
          have c0 := (hBV.cell (p := ⟨lb, lo + k, none⟩) hlb).trans (hlcell k hlt)
          have hlbW : lb < Vb.heap.size := Nat.lt_of_lt_of_le hlb hBV.size
          have hwW : w.heap.size < Vb.heap.size := Nat.lt_of_lt_of_le hsU hBV.size
          have HLX := Lib.hid (fun W (h : Below Vb.heap.size Vb W ∧ ∀ b o, b < Vb.heap.size → W.cell? ⟨b, o, none⟩ = Vb.cell? ⟨b, o, none⟩) => bothS1 (W0 := Vb) (HHD5.out k hlt hkL W (hBV.trans (h.1.mono hBV.size))) h)
          have hkl : (k : Int) < (wh.length : Int) := by omega
          have hk0 : (0 : Int) ≤ (k : Int) := by omega
          clear hB hBV hlcell
          obtain ⟨ik, hik⟩ : ∃ ik, wh[k] = ik := ⟨_, rfl⟩
          rw [hik] at HLX c0
          clear hik
          go_upto_region 26 with fail
          go_cut [115] (fun v wx => v = .bool false ∧ Below Vb.heap.size Vb wx)
          case first =>
            go_region_held3 (fun w' => Below Vb.heap.size Vb w' ∧ ∀ b o, b < Vb.heap.size → w'.cell? ⟨b, o, none⟩ = Vb.cell? ⟨b, o, none⟩) (first | with_reducible assumption | ((repeat (first | with_reducible refine bothS_drew ?_ | with_reducible refine bothS_alloc _ ?_ | with_reducible refine bothS_set _ _ (by first | omega | (simp; omega) | simp) ?_)); first | with_reducible assumption | with_reducible exact Hid.out (by assumption) | with_reducible exact ⟨Below.refl _ _, fun _ _ _ => rfl⟩)) (first | (go_at_call 26; with_reducible refine (HLX.out _ ?_).mono ?_; (first | with_reducible assumption | ((repeat (first | with_reducible refine bothS_drew ?_ | with_reducible refine bothS_alloc _ ?_ | with_reducible refine bothS_set _ _ (by first | omega | (simp; omega) | simp) ?_)); first | with_reducible assumption | with_reducible exact Hid.out (by assumption) | with_reducible exact ⟨Below.refl _ _, fun _ _ _ => rfl⟩)); rintro e w' ⟨rfl, k, k1, k2, k3⟩; have HK := Lib.hid k; (try simp at k3); (try have k6 := Nat.lt_of_succ_le k3); (try have k7 := Nat.lt_of_succ_lt k6); (try have k8 := Nat.lt_of_succ_lt k3)) | fail "no arm")
            all_goals (go_wp2_with fail; go_meet; exact ⟨rfl, And.left (by assumption)⟩)
          case rest =>
          obtain ⟨rfl, hB5⟩ := hcut
          have HB5 := Lib.hid (HB.out.trans (hB5.mono HB.out.size))
          clear hB5 c0 HLX
          clear x0 x1 x2 x3
          go_wp2_with fail
          go_roundw
          case rel => exact ⟨k + 1, by omega, by go_num, HB5.out⟩
          case measure => simp [intOf]; omega
        · obtain rfl : wh.length = k := by omega
          have hBVb := hBV
          clear hB hBV hlt hk HB
          rcases hfor : forB s x with - | -
          · have HFX1 := Lib.hid (HFX.out false hfor)
            clear hfor
            go_wp2_with fail
            refine (HFX1.out _ (HBV.out _ hBVb)).mono ?_
            rintro e u8 ⟨rfl, hb8⟩
            have hBu8 := hBVb.trans (hb8.mono hBVb.size)
            clear hb8
            go_wp2_with fail
            refine (works_any _).mono ?_
            rintro e w9 ⟨rfl, hb9⟩
            go_wp2_with fail
            go_ret
            exact ⟨rfl, HBV.out _ (hBu8.trans (hb9.mono hBu8.size))⟩
          · have HFX1 := Lib.hid (HFX.out true hfor)
            have hxJ := HXJ.out hfor
            obtain ⟨hxle, hxea⟩ := HXM.out hxJ
            have hxs := HXS.out hxJ
            have HHX6 := Lib.hid (HHX5.out hxs)
            have hxml1 : xl ≤ ml := by have := (shares_bd hxs).1; omega
            have hxml2 : ml ≤ xl := by have := (shares_bd hxs).1; omega
            clear hfor
            go_wp2_with fail
            refine (HFX1.out _ (HBV.out _ hBVb)).mono ?_
            rintro e u8 ⟨rfl, hb8⟩
            have hBu8 := hBVb.trans (hb8.mono hBVb.size)
            clear hb8 x0 x1 x2 x3
            have x0 := (hBu8.cell (p := ⟨w.heap.size, 0, none⟩) hsU).trans HSB.out.1; have x1 := (hBu8.cell (p := ⟨w.heap.size, 1, none⟩) hsU).trans HSB.out.2.1; have x2 := (hBu8.cell (p := ⟨w.heap.size, 2, none⟩) hsU).trans HSB.out.2.2.1; have x3 := (hBu8.cell (p := ⟨w.heap.size, 3, none⟩) hsU).trans HSB.out.2.2.2
            have HBu8 := Lib.hid hBu8
            clear x0 x1 x2 x3
            go_wp2_with fail
            go_loopw [12, 15] (fun n i wr => ∃ k : Nat, k ≤ wh.length ∧ i = .int .i64 k ∧ n = .int .i64 (holdTo L x k : Nat) ∧ Below u8.heap.size u8 wr) (fun _ i _ => wh.length - (intOf i).toNat)
            case atStart => exact ⟨0, by omega, rfl, by rw [show holdTo L x 0 = 0 by simp [holdTo]]; rfl, Below.refl _ _⟩
            case round =>
              obtain ⟨k, hk, rfl, rfl, hB⟩ := hrel
              obtain ⟨Vd, rfl⟩ : ∃ Vd : World, Vd = wr := ⟨_, rfl⟩
              have HB := Lib.hid hB
              have hBV := HBu8.out.trans (hB.mono HBu8.out.size)
              have x0 := (hBV.cell (p := ⟨w.heap.size, 0, none⟩) hsU).trans HSB.out.1; have x1 := (hBV.cell (p := ⟨w.heap.size, 1, none⟩) hsU).trans HSB.out.2.1; have x2 := (hBV.cell (p := ⟨w.heap.size, 2, none⟩) hsU).trans HSB.out.2.2.1; have x3 := (hBV.cell (p := ⟨w.heap.size, 3, none⟩) hsU).trans HSB.out.2.2.2
              have htb := HTB.out x k
              by_cases hlt : k < wh.length
              · have hkL : k < L.length := by omega
                obtain ⟨lb, lo, rfl, hlb, hlcell⟩ := HWI.out.2.2 (by omega)
                have c0 := (hBV.cell (p := ⟨lb, lo + k, none⟩) hlb).trans (hlcell k hlt)
                have hlbW : lb < Vd.heap.size := Nat.lt_of_lt_of_le hlb hBV.size
                have hwW : w.heap.size < Vd.heap.size := Nat.lt_of_lt_of_le hsU hBV.size
                have HLX := Lib.hid (fun W (h : Below Vd.heap.size Vd W ∧ ∀ b o, b < Vd.heap.size → W.cell? ⟨b, o, none⟩ = Vd.cell? ⟨b, o, none⟩) => bothS1 (W0 := Vd) (HHX6.out k hlt hkL W (hBV.trans (h.1.mono hBV.size))) h)
                have HN := Lib.hid (HTN.out x k hkL)
                have hkl : (k : Int) < (wh.length : Int) := by omega
                have hk0 : (0 : Int) ≤ (k : Int) := by omega
                clear hB hBV hlcell
                obtain ⟨r, hr⟩ : ∃ r, holdB L[k] x = r := ⟨_, rfl⟩
                rw [hr] at HLX HN
                obtain ⟨ik, hik⟩ : ∃ ik, wh[k] = ik := ⟨_, rfl⟩
                rw [hik] at HLX c0
                clear hr hik
                generalize hhk : holdTo L x k = hk' at *
                go_upto_region 33 with fail
                go_cut [133] (fun v wx => v = .bool r ∧ Below Vd.heap.size Vd wx)
                case first =>
                  go_region_held3 (fun w' => Below Vd.heap.size Vd w' ∧ ∀ b o, b < Vd.heap.size → w'.cell? ⟨b, o, none⟩ = Vd.cell? ⟨b, o, none⟩) (first | with_reducible assumption | ((repeat (first | with_reducible refine bothS_drew ?_ | with_reducible refine bothS_alloc _ ?_ | with_reducible refine bothS_set _ _ (by first | omega | (simp; omega) | simp) ?_)); first | with_reducible assumption | with_reducible exact Hid.out (by assumption) | with_reducible exact ⟨Below.refl _ _, fun _ _ _ => rfl⟩)) (first | (go_at_call 26; with_reducible refine (HLX.out _ ?_).mono ?_; (first | with_reducible assumption | ((repeat (first | with_reducible refine bothS_drew ?_ | with_reducible refine bothS_alloc _ ?_ | with_reducible refine bothS_set _ _ (by first | omega | (simp; omega) | simp) ?_)); first | with_reducible assumption | with_reducible exact Hid.out (by assumption) | with_reducible exact ⟨Below.refl _ _, fun _ _ _ => rfl⟩)); rintro e w' ⟨rfl, k, k1, k2, k3⟩; have HK := Lib.hid k; (try simp at k3); (try have k6 := Nat.lt_of_succ_le k3); (try have k7 := Nat.lt_of_succ_lt k6); (try have k8 := Nat.lt_of_succ_lt k3)) | fail "no arm")
                  all_goals (go_wp2_with fail; go_meet; exact ⟨rfl, And.left (by assumption)⟩)
                case rest =>
                obtain ⟨rfl, hB5⟩ := hcut
                have HB5 := Lib.hid (HB.out.trans (hB5.mono HB.out.size))
                clear hB5 c0 HLX
                clear x0 x1 x2 x3
                cases r
                · go_wp2_with fail
                  go_roundw
                  case rel => exact ⟨k + 1, by omega, by go_num, by rw [HN.out]; simp, HB5.out⟩
                  case measure => simp [intOf]; omega
                · go_wp2_with fail
                  go_roundw
                  case rel => exact ⟨k + 1, by omega, by go_num, by rw [HN.out]; simp, HB5.out⟩
                  case measure => simp [intOf]; omega
              · obtain rfl : wh.length = k := by omega
                have HEN := Lib.hid (show holdTo L x wh.length = nX from HNX.out)
                rw [HEN.out]
                have hBVd := hBV
                clear hB hBV hlt hk htb HB
                have hle : ¬ ((wh.length : Nat) : Int) < (nX : Int) := by omega
                by_cases he : nX = wh.length
                · have HE1 := Lib.hid (HEA.out false (hxea (by omega)) ba bn bc _ (HBV.out _ hBVd) (HIB.out _ hBVd) (by omega))
                  obtain ⟨hf1, hf2⟩ := HFAR.out hxJ (by omega)
                  rw [he]
                  clear he
                  have hll : ¬ (wh.length : Int) < (wh.length : Int) := by omega
                  have hllN : ¬ wh.length < wh.length := by omega
                  go_wp2_with fail
                  refine HE1.out.mono ?_
                  rintro e v9 ⟨rfl, hbv9⟩
                  have hBv9 := hBVd.trans (hbv9.mono hBVd.size)
                  clear x0 x1 x2 x3
                  have x0 := (hBv9.cell (p := ⟨w.heap.size, 0, none⟩) hsU).trans HSB.out.1; have x1 := (hBv9.cell (p := ⟨w.heap.size, 1, none⟩) hsU).trans HSB.out.2.1; have x2 := (hBv9.cell (p := ⟨w.heap.size, 2, none⟩) hsU).trans HSB.out.2.2.1; have x3 := (hBv9.cell (p := ⟨w.heap.size, 3, none⟩) hsU).trans HSB.out.2.2.2
                  have hwW : w.heap.size < v9.heap.size := Nat.lt_of_lt_of_le hsU hBv9.size
                  have HSX5 := Lib.hid (fun W (h : Below v9.heap.size v9 W ∧ ∀ b o, b < v9.heap.size → W.cell? ⟨b, o, none⟩ = v9.cell? ⟨b, o, none⟩) => bothS1 (W0 := v9) (HSX.out hxs W (HBV.out W (hBv9.trans (h.1.mono hBv9.size)))) h)
                  have HSD5 := Lib.hid (fun W (h : Below v9.heap.size v9 W ∧ ∀ b o, b < v9.heap.size → W.cell? ⟨b, o, none⟩ = v9.cell? ⟨b, o, none⟩) => bothS1 (W0 := v9) (HSD.out da dn dc W (HBV.out W (hBv9.trans (h.1.mono hBv9.size))) (HID.out W (hBv9.trans (h.1.mono hBv9.size)))) h)
                  have HBv9 := Lib.hid hBv9
                  clear hbv9 hBv9
                  generalize farOf (loOf L) x = fx at *
                  generalize farOf (loOf L) d = fd at *
                  go_upto_region 39 with fail
                  go_cut [16, 17] (fun v16 v17 wx => v16 = .int .i64 fx ∧ v17 = .int .i64 fd ∧ Below v9.heap.size v9 wx)
                  case first =>
                    go_region_held3 (fun w' => Below v9.heap.size v9 w' ∧ ∀ b o, b < v9.heap.size → w'.cell? ⟨b, o, none⟩ = v9.cell? ⟨b, o, none⟩) (first | with_reducible assumption | ((repeat (first | with_reducible refine bothS_drew ?_ | with_reducible refine bothS_alloc _ ?_ | with_reducible refine bothS_set _ _ (by first | omega | (simp; omega) | simp) ?_)); first | with_reducible assumption | with_reducible exact Hid.out (by assumption) | with_reducible exact ⟨Below.refl _ _, fun _ _ _ => rfl⟩)) (first | (go_at_call 41; with_reducible refine (HSX5.out _ ?_).mono ?_; (first | with_reducible assumption | ((repeat (first | with_reducible refine bothS_drew ?_ | with_reducible refine bothS_alloc _ ?_ | with_reducible refine bothS_set _ _ (by first | omega | (simp; omega) | simp) ?_)); first | with_reducible assumption | with_reducible exact Hid.out (by assumption) | with_reducible exact ⟨Below.refl _ _, fun _ _ _ => rfl⟩)); rintro e w' ⟨rfl, k, k1, k2, k3⟩; have HK := Lib.hid k; (try simp at k3); (try have k6 := Nat.lt_of_succ_le k3); (try have k7 := Nat.lt_of_succ_lt k6); (try have k8 := Nat.lt_of_succ_lt k3)) | (go_at_call 41; with_reducible refine (HSD5.out _ ?_).mono ?_; (first | with_reducible assumption | ((repeat (first | with_reducible refine bothS_drew ?_ | with_reducible refine bothS_alloc _ ?_ | with_reducible refine bothS_set _ _ (by first | omega | (simp; omega) | simp) ?_)); first | with_reducible assumption | with_reducible exact Hid.out (by assumption) | with_reducible exact ⟨Below.refl _ _, fun _ _ _ => rfl⟩)); rintro e w' ⟨rfl, k, k1, k2, k3⟩; have HK := Lib.hid k; (try simp at k3); (try have k6 := Nat.lt_of_succ_le k3); (try have k7 := Nat.lt_of_succ_lt k6); (try have k8 := Nat.lt_of_succ_lt k3)) | fail "no arm")
                    all_goals (go_wp2_with fail; go_meet; exact ⟨rfl, rfl, And.left (by assumption)⟩)
                  case rest =>
                  obtain ⟨rfl, rfl, hB10⟩ := hcut
                  obtain ⟨v10, rfl⟩ : ∃ v10 : World, v10 = wc := ⟨_, rfl⟩
                  have hBv10 := HBv9.out.trans (hB10.mono HBv9.out.size)
                  clear x0 x1 x2 x3 hB10 HSX5 HSD5
                  rcases Int.lt_or_le fx fd with hlt3 | hlt3
                  · skip
                    go_wp2_with fail
                    refine (works_any _).mono ?_
                    rintro e w9 ⟨rfl, hb9⟩
                    go_wp2_with fail
                    go_ret
                    exact ⟨rfl, HBV.out _ (hBv10.trans (hb9.mono hBv10.size))⟩
                  · have hn3 : ¬ fx < fd := by omega
                    have HE2 := Lib.hid (HED.out false (by rcases hf2 with h | h; omega; exact h) da dn dc _ (HBV.out _ hBv10) (HID.out _ hBv10) (by omega))
                    go_wp2_with fail
                    refine HE2.out.mono ?_
                    rintro e v11 ⟨rfl, hb11⟩
                    have hBv11 := hBv10.trans (hb11.mono hBv10.size)
                    go_wp2_with fail
                    refine (works_any _).mono ?_
                    rintro e w9 ⟨rfl, hb9⟩
                    go_wp2_with fail
                    go_ret
                    exact ⟨rfl, HBV.out _ (hBv11.trans (hb9.mono hBv11.size))⟩
                · have heB : ((nX : Int) == (wh.length : Int)) = false := by simp; omega
                  have hxltI : (nX : Int) < (wh.length : Int) := by omega
                  have hxltN : nX < wh.length := by omega
                  go_wp2_with fail
                  refine (works_any _).mono ?_
                  rintro e w9 ⟨rfl, hb9⟩
                  go_wp2_with fail
                  go_ret
                  exact ⟨rfl, HBV.out _ (hBVd.trans (hb9.mono hBVd.size))⟩
theorem shares_law (s : FShop) (ma : Option Addr) (ml mc : Nat) (wa : Option Addr) (wl wc : Nat) (na : Option Addr) (nl nc : Nat) (xa : Option Addr) (xl xc : Nat) (x : List Int) (w : World) (hp : FAt w ma ml mc wa wl wc na nl nc s) (hx : IntsAt w xa xl x) :
    Calls Try.prog 6 #[.agg #[.slice ma ml mc, .slice wa wl wc, .slice na nl nc, .int .i64 s.fresh], .slice xa xl xc] w fun e w' => e = .returned (.bool true) ∧ Below w.heap.size w w' := by
  rcases hk : s.known with - | -
  · exact shares_early s ma ml mc wa wl wc na nl nc xa xl xc w hp hx.2.1 (.inl hk)
  rcases Nat.lt_or_ge 40 xl with h | h
  · exact shares_early s ma ml mc wa wl wc na nl nc xa xl xc w hp hx.2.1 (.inr h)
  cases hb : s.bold with
  | none => exact shares_A s ma ml mc wa wl wc na nl nc xa xl xc x w hp hx hk h hb
  | some b =>
    cases hd : s.divide with
    | none => exact shares_B s ma ml mc wa wl wc na nl nc xa xl xc x w hp hx hk h b hb hd
    | some d => exact shares_C s ma ml mc wa wl wc na nl nc xa xl xc x w hp hx hk h b hb d hd
end Go.Proofs.Ytgniblcagjdpnaa
