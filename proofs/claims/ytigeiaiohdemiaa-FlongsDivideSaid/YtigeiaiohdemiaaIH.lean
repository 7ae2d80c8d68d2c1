/- IG IH, joined. -/
import Derived.Test.YtigeiaiohdemiaaIE
import Derived.Test.YtigeiaiohdemiaaIF
import Derived.Test.YtigeiaiohdemiaaGK
/- Flongs: the reference's Divide and Bold. -/
namespace Go.Proofs.Ytigeiaiohdemiaa
set_option linter.unusedVariables false
set_option linter.unusedSimpArgs false
open Go.RowKit

def FShop.farF (s : FShop) : List Int → Int := farOf (loOf s.left)
def FShop.holdF (s : FShop) : List Int → Int := fun x => (holdN s.left x : Int)
theorem farF_bd {s : FShop} (ho : s.ok = true) : ∀ x ∈ s.justs, s.farF x ≤ 1000 := fun _ hx => (far_bd (lo_bd ho) (shares_bd (just_shares hx)).2 _ (Nat.le_refl _)).2
theorem holdF_bd {s : FShop} (ho : s.ok = true) : ∀ x ∈ s.justs, s.holdF x ≤ 1000 := fun x _ => by
  have h1 : holdN s.left x ≤ s.left.length := List.countP_le_length
  have h2 := left_few ho
  show (holdN s.left x : Int) ≤ 1000
  omega
theorem farF_call (s : FShop) (ma : Option Addr) (ml mc : Nat) (wa : Option Addr) (wl wc : Nat) (na : Option Addr) (nl nc : Nat) (xa : Option Addr) (xl xc : Nat) (x : List Int) (ho : s.ok = true) (hl0 : 0 < s.left.length) (hx : x ∈ s.justs) (r : Int) (hr : s.farF x = r) (w : World) (hp : FAt w ma ml mc wa wl wc na nl nc s) (hi : IntsAt w xa xl x) :
    Calls Try.prog 41 #[.agg #[.slice ma ml mc, .slice wa wl wc, .slice na nl nc, .int .i64 s.fresh], .slice xa xl xc] w fun e w' => e = .returned (.int .i64 r) ∧ Below w.heap.size w w' := hr ▸ refSpared_is s ma ml mc wa wl wc na nl nc xa xl xc x ho hl0 (just_shares hx) w hp hi
theorem holdF_call (s : FShop) (ma : Option Addr) (ml mc : Nat) (wa : Option Addr) (wl wc : Nat) (na : Option Addr) (nl nc : Nat) (xa : Option Addr) (xl xc : Nat) (x : List Int) (ho : s.ok = true) (_ : 0 < s.left.length) (hx : x ∈ s.justs) (r : Int) (hr : s.holdF x = r) (w : World) (hp : FAt w ma ml mc wa wl wc na nl nc s) (hi : IntsAt w xa xl x) :
    Calls Try.prog 95 #[.agg #[.slice ma ml mc, .slice wa wl wc, .slice na nl nc, .int .i64 s.fresh], .slice xa xl xc] w fun e w' => e = .returned (.int .i64 r) ∧ Below w.heap.size w w' := hr ▸ refInWorlds_is s ma ml mc wa wl wc na nl nc xa xl xc x ho (shares_bd (just_shares hx)).1 w hp hi
theorem farF_pick {s : FShop} (ho : s.ok = true) : pick s.farF s.justs = s.divide := divide_pick ho
theorem holdF_pick {s : FShop} (_ : s.ok = true) : pick s.holdF s.justs = s.bold := bold_pick s

set_option maxRecDepth 100000 in
set_option maxHeartbeats 4000000 in
theorem refDivide_yes (s : FShop) (ma : Option Addr) (ml mc : Nat) (wa : Option Addr) (wl wc : Nat) (na : Option Addr) (nl nc : Nat) (w : World) (hp : FAt w ma ml mc wa wl wc na nl nc s) (ho : s.ok = true) (hl0 : 0 < s.left.length) (o : Option (List Int)) (hod : s.divide = o) (e0 : Int) (he0 : optE o = e0) :
    Calls Try.prog 66 #[.agg #[.slice ma ml mc, .slice wa wl wc, .slice na nl nc, .int .i64 s.fresh]] w fun e w' => (∃ a len c, e = .returned (.tuple #[.slice a len c, .int .i64 e0]) ∧ IntsAt w' a len (optL o)) ∧ Below w.heap.size w w' := by
  have hv : s.ask true = 0 := by unfold FShop.ask; rw [ho, if_pos rfl, if_pos rfl, if_neg (by omega)]
  have HKN := Lib.hid (fun W (hb : Below w.heap.size w W) => refKnown_is s ma ml mc wa wl wc na nl nc true 0 hv W (hp.below hb))
  have HJO := Lib.hid (fun W (hb : Below w.heap.size w W) => refJustsOf_any s ma ml mc wa wl wc na nl nc ho W (hp.below hb))
  have HFC := Lib.hid (fun x (hx : x ∈ s.justs) r (hr : s.farF x = r) xa xl xc W (hb : Below w.heap.size w W) (hi : IntsAt W xa xl x) => farF_call s ma ml mc wa wl wc na nl nc xa xl xc x ho hl0 hx r hr W (hp.below hb) hi)
  have hfb := farF_bd ho
  have HPK := Lib.hid ((farF_pick ho).trans hod)
  have hjl : s.justs.length ≤ 371293 := by
    have := justs2_bd s (FShop.ok_few ho).2.1 []
    rwa [justs2_nil] at this
  clear hp ho hl0 hv hod
  generalize s.farF = f at *
  generalize s.justs = L at *
  have HPB := Lib.hid (fun i (hi : i ≤ L.length) => pickTo_bd f L 1000 (by omega) hfb i hi)
  have HPN := Lib.hid (fun i (hi : i < L.length) => pickTo_next (f := f) hi)
  clear hfb
  go_enter Try.func66, Try.ntmps66
  go_wp2_with fail
  obtain ⟨W0, hW0, hB0, hs0, hz0⟩ := name1k w #[.slice ma ml mc, .slice wa wl wc, .slice na nl nc, .int .i64 s.fresh] 26
  rw [hW0]
  clear hW0
  have HB0 := Lib.hid hB0
  have HS0 := Lib.hid hs0
  clear hB0 hs0
  refine (HKN.out _ HB0.out).mono ?_
  rintro e w1 ⟨rfl, hb1⟩
  obtain ⟨x0, x1, x2, x3⟩ : w1.cell? ⟨w.heap.size, 0, none⟩ = some (.slice ma ml mc) ∧ w1.cell? ⟨w.heap.size, 1, none⟩ = some (.slice wa wl wc) ∧ w1.cell? ⟨w.heap.size, 2, none⟩ = some (.slice na nl nc) ∧ w1.cell? ⟨w.heap.size, 3, none⟩ = some (.int .i64 s.fresh) := ⟨(hb1.cell (p := ⟨w.heap.size, 0, none⟩) hz0).trans (HS0.out 0), (hb1.cell (p := ⟨w.heap.size, 1, none⟩) hz0).trans (HS0.out 1), (hb1.cell (p := ⟨w.heap.size, 2, none⟩) hz0).trans (HS0.out 2), (hb1.cell (p := ⟨w.heap.size, 3, none⟩) hz0).trans (HS0.out 3)⟩
  have HB1 := Lib.hid (HB0.out.trans (hb1.mono HB0.out.size))
  have HB01 := Lib.hid hb1
  clear hb1
  go_wp2_with fail
  refine (HJO.out _ HB1.out).mono ?_
  rintro e w2 ⟨⟨la, ln, lc, rfl, hL⟩, hb2⟩
  clear x0 x1 x2 x3
  have HB2 := Lib.hid (HB1.out.trans (hb2.mono HB1.out.size))
  have HB02 := Lib.hid (HB01.out.trans (hb2.mono HB01.out.size))
  have hz2 : w.heap.size < w2.heap.size := Nat.lt_of_lt_of_le hz0 HB02.out.size
  obtain ⟨hll, hlm, hlc⟩ := hL
  have HLL := Lib.hid hll
  have HLC := Lib.hid hlc
  have hln : ln ≤ 371293 := by omega
  clear hb2 hll hlm hlc hjl
  go_wp2_with fail
  go_loopw [6, 7, 8] (fun v6 v7 i wr => ∃ k : Nat, k ≤ ln ∧ i = .int .i64 k ∧ v6 = .int .i64 (pickTo f L k).1 ∧ v7 = .int .i64 (pickTo f L k).2 ∧ Below w2.heap.size w2 wr) (fun _ _ i _ => ln - (intOf i).toNat)
  case atStart => exact ⟨0, by omega, rfl, rfl, rfl, Below.refl _ _⟩
  case round =>
    obtain ⟨k, hk, rfl, rfl, rfl, hB⟩ := hrel
    obtain ⟨W1, rfl⟩ : ∃ W1 : World, W1 = wr := ⟨_, rfl⟩
    have HB := Lib.hid hB
    have hB02 := HB02.out.trans (hB.mono HB02.out.size)
    obtain ⟨x0, x1, x2, x3⟩ : W1.cell? ⟨w.heap.size, 0, none⟩ = some (.slice ma ml mc) ∧ W1.cell? ⟨w.heap.size, 1, none⟩ = some (.slice wa wl wc) ∧ W1.cell? ⟨w.heap.size, 2, none⟩ = some (.slice na nl nc) ∧ W1.cell? ⟨w.heap.size, 3, none⟩ = some (.int .i64 s.fresh) := ⟨(hB02.cell (p := ⟨w.heap.size, 0, none⟩) hz0).trans (HS0.out 0), (hB02.cell (p := ⟨w.heap.size, 1, none⟩) hz0).trans (HS0.out 1), (hB02.cell (p := ⟨w.heap.size, 2, none⟩) hz0).trans (HS0.out 2), (hB02.cell (p := ⟨w.heap.size, 3, none⟩) hz0).trans (HS0.out 3)⟩
    have HBW := Lib.hid (HB2.out.trans (hB.mono HB2.out.size))
    by_cases hlt : k < ln
    · have hkL : k < L.length := by rw [HLL.out]; exact hlt
      obtain ⟨lb, lo, rfl, hlb, hlcell⟩ := HLC.out (by omega)
      obtain ⟨ra, rl, rc, hcell, hri⟩ := hlcell k hkL
      have c0 := (hB.cell (p := ⟨lb, lo + k, none⟩) hlb).trans hcell
      have hlbW : lb < W1.heap.size := Nat.lt_of_lt_of_le hlb hB.size
      have hwW : w.heap.size < W1.heap.size := Nat.lt_of_lt_of_le hz2 hB.size
      obtain ⟨r, hr⟩ : ∃ r, f L[k] = r := ⟨_, rfl⟩
      have HLX := Lib.hid (fun W (h : Below W1.heap.size W1 W ∧ ∀ b o, b < W1.heap.size → W.cell? ⟨b, o, none⟩ = W1.cell? ⟨b, o, none⟩) => bothS1 (W0 := W1) (HFC.out L[k] (List.getElem_mem hkL) r hr ra rl rc W (HBW.out.trans (h.1.mono HBW.out.size)) (hri.below (hB.trans (h.1.mono hB.size)))) h)
      have HN := Lib.hid (HPN.out k hkL)
      have hpb := HPB.out k (by omega)
      rw [hr] at HN
      have hkl : (k : Int) < (ln : Int) := by omega
      have hk0 : (0 : Int) ≤ (k : Int) := by omega
      clear hB hB02 hlcell hcell hri hr
      generalize hpp : pickTo f L k = pp at *
      obtain ⟨pb, pm⟩ := pp
      simp only at hpb
      obtain ⟨hp1, -, -, hp4, hp5⟩ := hpb
      go_upto_region 9 with fail
      go_cut [9] (fun v wx => v = .int .i64 r ∧ Below W1.heap.size W1 wx)
      case first =>
        go_region_held3 (fun w' => Below W1.heap.size W1 w' ∧ ∀ b o, b < W1.heap.size → w'.cell? ⟨b, o, none⟩ = W1.cell? ⟨b, o, none⟩) (first | with_reducible assumption | ((repeat (first | with_reducible refine bothS_drew ?_ | with_reducible refine bothS_alloc _ ?_ | with_reducible refine bothS_set _ _ (by first | omega | (simp; omega) | simp) ?_)); first | with_reducible assumption | with_reducible exact Hid.out (by assumption) | with_reducible exact ⟨Below.refl _ _, fun _ _ _ => rfl⟩)) (first | (go_at_call 41; with_reducible refine (HLX.out _ ?_).mono ?_; (first | with_reducible assumption | ((repeat (first | with_reducible refine bothS_drew ?_ | with_reducible refine bothS_alloc _ ?_ | with_reducible refine bothS_set _ _ (by first | omega | (simp; omega) | simp) ?_)); first | with_reducible assumption | with_reducible exact Hid.out (by assumption) | with_reducible exact ⟨Below.refl _ _, fun _ _ _ => rfl⟩)); rintro e w' ⟨rfl, k, k1, k2, k3⟩; have HK := Lib.hid k; (try simp at k3); (try have k6 := Nat.lt_of_succ_le k3); (try have k7 := Nat.lt_of_succ_lt k6); (try have k8 := Nat.lt_of_succ_lt k3)) | fail "no arm")
        all_goals (go_wp2_with fail; go_meet; exact ⟨rfl, And.left (by assumption)⟩)
      case rest =>
      obtain ⟨rfl, hB5⟩ := hcut
      have HB5 := Lib.hid (HB.out.trans (hB5.mono HB.out.size))
      clear hB5 c0 HLX
      clear x0 x1 x2 x3
      by_cases hgt : pm < r
      · have HN' := Lib.hid (HN.out.trans (if_pos hgt))
        clear HN
        go_wp2_with fail
        go_roundw
        case rel => exact ⟨k + 1, by omega, by go_num, by rw [HN'.out], by rw [HN'.out], HB5.out⟩
        case measure => simp [intOf]; omega
      · have HN' := Lib.hid (HN.out.trans (if_neg hgt))
        clear HN
        go_wp2_with fail
        go_roundw
        case rel => exact ⟨k + 1, by omega, by go_num, by rw [HN'.out], by rw [HN'.out], HB5.out⟩
        case measure => simp [intOf]; omega
    · obtain rfl : ln = k := by omega
      have hpb := HPB.out ln (by rw [HLL.out]; exact Nat.le_refl _)
      have HPE := Lib.hid (show (if (pickTo f L ln).1 < 0 then none else L[(pickTo f L ln).1.toNat]?) = o from by rw [← HPK.out, pick, HLL.out])
      generalize hpp : pickTo f L ln = pp at *
      obtain ⟨pb, pm⟩ := pp
      simp only at hpb HPE
      obtain ⟨hp1, -, hp3, hp4, hp5⟩ := hpb
      rw [HLL.out] at hp3
      clear hB hB02
      by_cases hneg : pb < 0
      · have HO := Lib.hid (show none = o from by rw [← HPE.out, if_pos hneg])
        have he3 : e0 = 3 := by rw [← he0, ← HO.out]; rfl
        subst he3
        clear HPE
        go_wp2_with fail
        go_ret2
        exact ⟨⟨none, 0, 0, rfl, by rw [← HO.out]; exact ints_nil _⟩, HBW.out⟩
      · obtain ⟨j, rfl⟩ : ∃ j : Nat, pb = (j : Int) := ⟨pb.toNat, by omega⟩
        have hjl : j < L.length := by rw [HLL.out]; omega
        have HO := Lib.hid (show some L[j] = o from by rw [← HPE.out, if_neg hneg, Int.toNat_natCast, List.getElem?_eq_getElem hjl])
        have he3 : e0 = 0 := by rw [← he0, ← HO.out]; rfl
        subst he3
        obtain ⟨lb, lo, rfl, hlb, hlcell⟩ := HLC.out (by omega)
        obtain ⟨ra, rl, rc, hcell, hri⟩ := hlcell j hjl
        have c0 := (HB.out.cell (p := ⟨lb, lo + j, none⟩) hlb).trans hcell
        have HRI := Lib.hid (hri.below HB.out)
        clear HPE hlcell hcell hri
        go_wp2_with fail
        go_ret2
        have hri2 : IntsAt W1 ra rl (optL o) := by rw [← HO.out]; exact HRI.out
        first | exact ⟨⟨ra, rl, rc, rfl, hri2⟩, HBW.out⟩ | exact ⟨⟨ra, rl, ⟨rc, rfl⟩, hri2⟩, HBW.out⟩
theorem refDivide_all (s : FShop) (ma : Option Addr) (ml mc : Nat) (wa : Option Addr) (wl wc : Nat) (na : Option Addr) (nl nc : Nat) (l : List Int) (e0 : Int) (h1 : s.divideL = l) (h3 : s.divideE = e0) (w : World) (hp : FAt w ma ml mc wa wl wc na nl nc s) :
    Calls Try.prog 66 #[.agg #[.slice ma ml mc, .slice wa wl wc, .slice na nl nc, .int .i64 s.fresh]] w fun e w' => (∃ a len c, e = .returned (.tuple #[.slice a len c, .int .i64 e0]) ∧ IntsAt w' a len l) ∧ Below w.heap.size w w' := by
  subst h1 h3
  unfold FShop.divideL FShop.divideE
  by_cases h0 : s.ask true = 0
  · obtain ⟨ho, -, hl0⟩ := ask_zero h0
    rw [if_pos h0, if_pos h0]
    exact refDivide_yes s ma ml mc wa wl wc na nl nc w hp ho hl0 _ rfl _ rfl
  · rw [if_neg h0, if_neg h0]
    refine (refDivide_no s ma ml mc wa wl wc na nl nc _ rfl h0 w hp).mono ?_
    rintro e w' ⟨rfl, hb⟩
    exact ⟨⟨none, 0, 0, rfl, ints_nil w'⟩, hb⟩
set_option maxRecDepth 100000 in
set_option maxHeartbeats 4000000 in
theorem refBold_yes (s : FShop) (ma : Option Addr) (ml mc : Nat) (wa : Option Addr) (wl wc : Nat) (na : Option Addr) (nl nc : Nat) (w : World) (hp : FAt w ma ml mc wa wl wc na nl nc s) (ho : s.ok = true) (hl0 : 0 < s.left.length) (o : Option (List Int)) (hod : s.bold = o) (e0 : Int) (he0 : optE o = e0) :
    Calls Try.prog 67 #[.agg #[.slice ma ml mc, .slice wa wl wc, .slice na nl nc, .int .i64 s.fresh]] w fun e w' => (∃ a len c, e = .returned (.tuple #[.slice a len c, .int .i64 e0]) ∧ IntsAt w' a len (optL o)) ∧ Below w.heap.size w w' := by
  have hv : s.ask true = 0 := by unfold FShop.ask; rw [ho, if_pos rfl, if_pos rfl, if_neg (by omega)]
  have HKN := Lib.hid (fun W (hb : Below w.heap.size w W) => refKnown_is s ma ml mc wa wl wc na nl nc true 0 hv W (hp.below hb))
  have HJO := Lib.hid (fun W (hb : Below w.heap.size w W) => refJustsOf_any s ma ml mc wa wl wc na nl nc ho W (hp.below hb))
  have HFC := Lib.hid (fun x (hx : x ∈ s.justs) r (hr : s.holdF x = r) xa xl xc W (hb : Below w.heap.size w W) (hi : IntsAt W xa xl x) => holdF_call s ma ml mc wa wl wc na nl nc xa xl xc x ho hl0 hx r hr W (hp.below hb) hi)
  have hfb := holdF_bd ho
  have HPK := Lib.hid ((holdF_pick ho).trans hod)
  have hjl : s.justs.length ≤ 371293 := by
    have := justs2_bd s (FShop.ok_few ho).2.1 []
    rwa [justs2_nil] at this
  clear hp ho hl0 hv hod
  generalize s.holdF = f at *
  generalize s.justs = L at *
  have HPB := Lib.hid (fun i (hi : i ≤ L.length) => pickTo_bd f L 1000 (by omega) hfb i hi)
  have HPN := Lib.hid (fun i (hi : i < L.length) => pickTo_next (f := f) hi)
  clear hfb
  go_enter Try.func67, Try.ntmps67
  go_wp2_with fail
  obtain ⟨W0, hW0, hB0, hs0, hz0⟩ := name1k w #[.slice ma ml mc, .slice wa wl wc, .slice na nl nc, .int .i64 s.fresh] 26
  rw [hW0]
  clear hW0
  have HB0 := Lib.hid hB0
  have HS0 := Lib.hid hs0
  clear hB0 hs0
  refine (HKN.out _ HB0.out).mono ?_
  rintro e w1 ⟨rfl, hb1⟩
  obtain ⟨x0, x1, x2, x3⟩ : w1.cell? ⟨w.heap.size, 0, none⟩ = some (.slice ma ml mc) ∧ w1.cell? ⟨w.heap.size, 1, none⟩ = some (.slice wa wl wc) ∧ w1.cell? ⟨w.heap.size, 2, none⟩ = some (.slice na nl nc) ∧ w1.cell? ⟨w.heap.size, 3, none⟩ = some (.int .i64 s.fresh) := ⟨(hb1.cell (p := ⟨w.heap.size, 0, none⟩) hz0).trans (HS0.out 0), (hb1.cell (p := ⟨w.heap.size, 1, none⟩) hz0).trans (HS0.out 1), (hb1.cell (p := ⟨w.heap.size, 2, none⟩) hz0).trans (HS0.out 2), (hb1.cell (p := ⟨w.heap.size, 3, none⟩) hz0).trans (HS0.out 3)⟩
  have HB1 := Lib.hid (HB0.out.trans (hb1.mono HB0.out.size))
  have HB01 := Lib.hid hb1
  clear hb1
  go_wp2_with fail
  refine (HJO.out _ HB1.out).mono ?_
  rintro e w2 ⟨⟨la, ln, lc, rfl, hL⟩, hb2⟩
  clear x0 x1 x2 x3
  have HB2 := Lib.hid (HB1.out.trans (hb2.mono HB1.out.size))
  have HB02 := Lib.hid (HB01.out.trans (hb2.mono HB01.out.size))
  have hz2 : w.heap.size < w2.heap.size := Nat.lt_of_lt_of_le hz0 HB02.out.size
  obtain ⟨hll, hlm, hlc⟩ := hL
  have HLL := Lib.hid hll
  have HLC := Lib.hid hlc
  have hln : ln ≤ 371293 := by omega
  clear hb2 hll hlm hlc hjl
  go_wp2_with fail
  go_loopw [6, 7, 8] (fun v6 v7 i wr => ∃ k : Nat, k ≤ ln ∧ i = .int .i64 k ∧ v6 = .int .i64 (pickTo f L k).1 ∧ v7 = .int .i64 (pickTo f L k).2 ∧ Below w2.heap.size w2 wr) (fun _ _ i _ => ln - (intOf i).toNat)
  case atStart => exact ⟨0, by omega, rfl, rfl, rfl, Below.refl _ _⟩
  case round =>
    obtain ⟨k, hk, rfl, rfl, rfl, hB⟩ := hrel
    obtain ⟨W1, rfl⟩ : ∃ W1 : World, W1 = wr := ⟨_, rfl⟩
    have HB := Lib.hid hB
    have hB02 := HB02.out.trans (hB.mono HB02.out.size)
    obtain ⟨x0, x1, x2, x3⟩ : W1.cell? ⟨w.heap.size, 0, none⟩ = some (.slice ma ml mc) ∧ W1.cell? ⟨w.heap.size, 1, none⟩ = some (.slice wa wl wc) ∧ W1.cell? ⟨w.heap.size, 2, none⟩ = some (.slice na nl nc) ∧ W1.cell? ⟨w.heap.size, 3, none⟩ = some (.int .i64 s.fresh) := ⟨(hB02.cell (p := ⟨w.heap.size, 0, none⟩) hz0).trans (HS0.out 0), (hB02.cell (p := ⟨w.heap.size, 1, none⟩) hz0).trans (HS0.out 1), (hB02.cell (p := ⟨w.heap.size, 2, none⟩) hz0).trans (HS0.out 2), (hB02.cell (p := ⟨w.heap.size, 3, none⟩) hz0).trans (HS0.out 3)⟩
    have HBW := Lib.hid (HB2.out.trans (hB.mono HB2.out.size))
    by_cases hlt : k < ln
    · have hkL : k < L.length := by rw [HLL.out]; exact hlt
      obtain ⟨lb, lo, rfl, hlb, hlcell⟩ := HLC.out (by omega)
      obtain ⟨ra, rl, rc, hcell, hri⟩ := hlcell k hkL
      have c0 := (hB.cell (p := ⟨lb, lo + k, none⟩) hlb).trans hcell
      have hlbW : lb < W1.heap.size := Nat.lt_of_lt_of_le hlb hB.size
      have hwW : w.heap.size < W1.heap.size := Nat.lt_of_lt_of_le hz2 hB.size
      obtain ⟨r, hr⟩ : ∃ r, f L[k] = r := ⟨_, rfl⟩
      have HLX := Lib.hid (fun W (h : Below W1.heap.size W1 W ∧ ∀ b o, b < W1.heap.size → W.cell? ⟨b, o, none⟩ = W1.cell? ⟨b, o, none⟩) => bothS1 (W0 := W1) (HFC.out L[k] (List.getElem_mem hkL) r hr ra rl rc W (HBW.out.trans (h.1.mono HBW.out.size)) (hri.below (hB.trans (h.1.mono hB.size)))) h)
      have HN := Lib.hid (HPN.out k hkL)
      have hpb := HPB.out k (by omega)
      rw [hr] at HN
      have hkl : (k : Int) < (ln : Int) := by omega
      have hk0 : (0 : Int) ≤ (k : Int) := by omega
      clear hB hB02 hlcell hcell hri hr
      generalize hpp : pickTo f L k = pp at *
      obtain ⟨pb, pm⟩ := pp
      simp only at hpb
      obtain ⟨hp1, -, -, hp4, hp5⟩ := hpb
      go_upto_region 9 with fail
      go_cut [9] (fun v wx => v = .int .i64 r ∧ Below W1.heap.size W1 wx)
      case first =>
        go_region_held3 (fun w' => Below W1.heap.size W1 w' ∧ ∀ b o, b < W1.heap.size → w'.cell? ⟨b, o, none⟩ = W1.cell? ⟨b, o, none⟩) (first | with_reducible assumption | ((repeat (first | with_reducible refine bothS_drew ?_ | with_reducible refine bothS_alloc _ ?_ | with_reducible refine bothS_set _ _ (by first | omega | (simp; omega) | simp) ?_)); first | with_reducible assumption | with_reducible exact Hid.out (by assumption) | with_reducible exact ⟨Below.refl _ _, fun _ _ _ => rfl⟩)) (first | (go_at_call 95; with_reducible refine (HLX.out _ ?_).mono ?_; (first | with_reducible assumption | ((repeat (first | with_reducible refine bothS_drew ?_ | with_reducible refine bothS_alloc _ ?_ | with_reducible refine bothS_set _ _ (by first | omega | (simp; omega) | simp) ?_)); first | with_reducible assumption | with_reducible exact Hid.out (by assumption) | with_reducible exact ⟨Below.refl _ _, fun _ _ _ => rfl⟩)); rintro e w' ⟨rfl, k, k1, k2, k3⟩; have HK := Lib.hid k; (try simp at k3); (try have k6 := Nat.lt_of_succ_le k3); (try have k7 := Nat.lt_of_succ_lt k6); (try have k8 := Nat.lt_of_succ_lt k3)) | fail "no arm")
        all_goals (go_wp2_with fail; go_meet; exact ⟨rfl, And.left (by assumption)⟩)
      case rest =>
      obtain ⟨rfl, hB5⟩ := hcut
      have HB5 := Lib.hid (HB.out.trans (hB5.mono HB.out.size))
      clear hB5 c0 HLX
      clear x0 x1 x2 x3
      by_cases hgt : pm < r
      · have HN' := Lib.hid (HN.out.trans (if_pos hgt))
        clear HN
        go_wp2_with fail
        go_roundw
        case rel => exact ⟨k + 1, by omega, by go_num, by rw [HN'.out], by rw [HN'.out], HB5.out⟩
        case measure => simp [intOf]; omega
      · have HN' := Lib.hid (HN.out.trans (if_neg hgt))
        clear HN
        go_wp2_with fail
        go_roundw
        case rel => exact ⟨k + 1, by omega, by go_num, by rw [HN'.out], by rw [HN'.out], HB5.out⟩
        case measure => simp [intOf]; omega
    · obtain rfl : ln = k := by omega
      have hpb := HPB.out ln (by rw [HLL.out]; exact Nat.le_refl _)
      have HPE := Lib.hid (show (if (pickTo f L ln).1 < 0 then none else L[(pickTo f L ln).1.toNat]?) = o from by rw [← HPK.out, pick, HLL.out])
      generalize hpp : pickTo f L ln = pp at *
      obtain ⟨pb, pm⟩ := pp
      simp only at hpb HPE
      obtain ⟨hp1, -, hp3, hp4, hp5⟩ := hpb
      rw [HLL.out] at hp3
      clear hB hB02
      by_cases hneg : pb < 0
      · have HO := Lib.hid (show none = o from by rw [← HPE.out, if_pos hneg])
        have he3 : e0 = 3 := by rw [← he0, ← HO.out]; rfl
        subst he3
        clear HPE
        go_wp2_with fail
        go_ret2
        exact ⟨⟨none, 0, 0, rfl, by rw [← HO.out]; exact ints_nil _⟩, HBW.out⟩
      · obtain ⟨j, rfl⟩ : ∃ j : Nat, pb = (j : Int) := ⟨pb.toNat, by omega⟩
        have hjl : j < L.length := by rw [HLL.out]; omega
        have HO := Lib.hid (show some L[j] = o from by rw [← HPE.out, if_neg hneg, Int.toNat_natCast, List.getElem?_eq_getElem hjl])
        have he3 : e0 = 0 := by rw [← he0, ← HO.out]; rfl
        subst he3
        obtain ⟨lb, lo, rfl, hlb, hlcell⟩ := HLC.out (by omega)
        obtain ⟨ra, rl, rc, hcell, hri⟩ := hlcell j hjl
        have c0 := (HB.out.cell (p := ⟨lb, lo + j, none⟩) hlb).trans hcell
        have HRI := Lib.hid (hri.below HB.out)
        clear HPE hlcell hcell hri
        go_wp2_with fail
        go_ret2
        have hri2 : IntsAt W1 ra rl (optL o) := by rw [← HO.out]; exact HRI.out
        first | exact ⟨⟨ra, rl, rc, rfl, hri2⟩, HBW.out⟩ | exact ⟨⟨ra, rl, ⟨rc, rfl⟩, hri2⟩, HBW.out⟩
theorem refBold_all (s : FShop) (ma : Option Addr) (ml mc : Nat) (wa : Option Addr) (wl wc : Nat) (na : Option Addr) (nl nc : Nat) (l : List Int) (e0 : Int) (h1 : s.boldL = l) (h3 : s.boldE = e0) (w : World) (hp : FAt w ma ml mc wa wl wc na nl nc s) :
    Calls Try.prog 67 #[.agg #[.slice ma ml mc, .slice wa wl wc, .slice na nl nc, .int .i64 s.fresh]] w fun e w' => (∃ a len c, e = .returned (.tuple #[.slice a len c, .int .i64 e0]) ∧ IntsAt w' a len l) ∧ Below w.heap.size w w' := by
  subst h1 h3
  unfold FShop.boldL FShop.boldE
  by_cases h0 : s.ask true = 0
  · obtain ⟨ho, -, hl0⟩ := ask_zero h0
    rw [if_pos h0, if_pos h0]
    exact refBold_yes s ma ml mc wa wl wc na nl nc w hp ho hl0 _ rfl _ rfl
  · rw [if_neg h0, if_neg h0]
    refine (refBold_no s ma ml mc wa wl wc na nl nc _ rfl h0 w hp).mono ?_
    rintro e w' ⟨rfl, hb⟩
    exact ⟨⟨none, 0, 0, rfl, ints_nil w'⟩, hb⟩
end Go.Proofs.Ytigeiaiohdemiaa

/- FlongsDivide: the walk. -/
namespace Go.Proofs.Ytigeiaiohdemiaa
set_option linter.unusedVariables false
set_option linter.unusedSimpArgs false
open Go.RowKit

set_option maxRecDepth 100000 in
set_option maxHeartbeats 16000000 in
theorem divide_walk (s : FShop) (ma : Option Addr) (ml mc : Nat) (wa : Option Addr) (wl wc : Nat) (na : Option Addr) (nl nc : Nat) (w : World) (hp : FAt w ma ml mc wa wl wc na nl nc s) (hh : s.huge = false) :
    Calls Try.prog 14 #[.agg #[.slice ma ml mc, .slice wa wl wc, .slice na nl nc, .int .i64 s.fresh]] w fun e w' => e = .returned (.bool true) ∧ Below w.heap.size w w' := by
  have HH := Lib.hid (fun w1 (hb : Below w.heap.size w w1) => Huge_is s ma ml mc wa wl wc na nl nc false hh w1 (hp.below hb))
  have HC := Lib.hid (fun w1 (hb : Below w.heap.size w w1) => Copy_at s ma ml mc wa wl wc na nl nc w1 (hp.below hb) hh)
  have HP := Lib.hid (fun w1 (hb : Below w.heap.size w w1) => hp.below hb)
  obtain ⟨dl, hdl⟩ : ∃ dl, s.divideL = dl := ⟨_, rfl⟩
  obtain ⟨de, hde⟩ : ∃ de, s.divideE = de := ⟨_, rfl⟩
  obtain ⟨bl, hbl⟩ : ∃ bl, s.boldL = bl := ⟨_, rfl⟩
  obtain ⟨be, hbe⟩ : ∃ be, s.boldE = be := ⟨_, rfl⟩
  obtain ⟨tn, htn⟩ : ∃ tn, s.testN = tn := ⟨_, rfl⟩
  obtain ⟨te, hte⟩ : ∃ te, s.testE = te := ⟨_, rfl⟩
  have HA1 := Lib.hid (fun ga gm va vm ua um W (h : FAt W ga ml gm va wl vm ua nl um s) => Divide_all s ga ml gm va wl vm ua nl um dl de hdl hde W h)
  have HA2 := Lib.hid (fun ga gm va vm ua um W (h : FAt W ga ml gm va wl vm ua nl um s) => refDivide_all s ga ml gm va wl vm ua nl um dl de hdl hde W h)
  have HB1 := Lib.hid (fun ga gm va vm ua um W (h : FAt W ga ml gm va wl vm ua nl um s) => Bold_all s ga ml gm va wl vm ua nl um bl be hbl hbe W h)
  have HB2 := Lib.hid (fun ga gm va vm ua um W (h : FAt W ga ml gm va wl vm ua nl um s) => refBold_all s ga ml gm va wl vm ua nl um bl be hbl hbe W h)
  have HT1 := Lib.hid (fun ga gm va vm ua um W (h : FAt W ga ml gm va wl vm ua nl um s) => Test_all s ga ml gm va wl vm ua nl um tn te htn hte W h)
  have HT2 := Lib.hid (fun ga gm va vm ua um W (h : FAt W ga ml gm va wl vm ua nl um s) => refTest_all s ga ml gm va wl vm ua nl um tn te htn hte W h)
  have HS := Lib.hid (fun ga gm va vm ua um W (h : FAt W ga ml gm va wl vm ua nl um s) (hq : FAt W ma ml mc wa wl wc na nl nc s) => Same_yes s ga ml gm va wl vm ua nl um ma mc wa wc na nc W h hq)
  clear hp hh hdl hde hbl hbe htn hte
  go_enter Try.func14, Try.ntmps14
  go_wp2_with fail
  refine (HH.out _ (by repeat (first | exact Below.refl _ _ | (refine Below.alloc ?_ (by first | omega | (simp; omega) | simp) _) | (refine Below.setCell ?_ (by first | omega | (simp; omega) | simp) _) | refine Below.drew ?_))).mono ?_; rintro e w1 ⟨rfl, hb1⟩; obtain ⟨hc1, hf1⟩ := bcell hb1; have hz1 := hb1.size; (try simp at hz1); have hw1 := ((by repeat (first | assumption | exact Below.refl _ _ | (refine Below.alloc ?_ (by first | omega | (simp; omega) | simp) _) | (refine Below.setCell ?_ (by first | omega | (simp; omega) | simp) _) | refine Below.drew ?_)) : Below w.heap.size w _).trans (hb1.mono (by first | (simp; done) | (simp; omega) | omega)); clear hb1; have p1 : w.heap.size < w1.heap.size := (by omega); go_wp2_with fail
  refine (HC.out _ hw1).mono ?_
  rintro e u1 ⟨ga, gm, va, vm, ua, um, rfl, hP1, hb2⟩
  have hu1 := hw1.trans (hb2.mono hw1.size)
  have hzu := hb2.size
  have hsb1 := fun i => (hb2.cell (p := ⟨w.heap.size, i, none⟩) p1).trans ((hc1 _ _ (by simp)).trans (World.cell?_alloc_new w #[.slice ma ml mc, .slice wa wl wc, .slice na nl nc, .int .i64 s.fresh] 26 i))
  have hsu1 : w.heap.size < u1.heap.size := by omega
  clear hb2 hc1 hf1
  obtain ⟨x0, x1, x2, x3⟩ : u1.cell? ⟨w.heap.size, 0, none⟩ = some (.slice ma ml mc) ∧ u1.cell? ⟨w.heap.size, 1, none⟩ = some (.slice wa wl wc) ∧ u1.cell? ⟨w.heap.size, 2, none⟩ = some (.slice na nl nc) ∧ u1.cell? ⟨w.heap.size, 3, none⟩ = some (.int .i64 s.fresh) := ⟨hsb1 0, hsb1 1, hsb1 2, hsb1 3⟩
  go_wp2_with fail
  obtain ⟨U, hU⟩ : ∃ U, u1.alloc (.cells #[.slice ga ml gm, .slice va wl vm, .slice ua nl um, .int .i64 s.fresh] 26) = U := ⟨_, rfl⟩
  have hb3 : Below u1.heap.size u1 U := by rw [← hU]; exact (by repeat (first | exact Below.refl _ _ | (refine Below.alloc ?_ (by first | omega | (simp; omega) | simp) _) | (refine Below.setCell ?_ (by first | omega | (simp; omega) | simp) _) | refine Below.drew ?_))
  have hOb : ∀ i, U.cell? ⟨u1.heap.size, i, none⟩ = (#[.slice ga ml gm, .slice va wl vm, .slice ua nl um, .int .i64 s.fresh] : Array Value)[i]? := fun i => by rw [← hU]; exact World.cell?_alloc_new _ _ _ i
  have hgU : u1.heap.size < U.heap.size := by rw [← hU]; simp
  rw [hU]
  clear hU
  clear x0 x1 x2 x3
  have hSb := fun i => (hb3.cell (p := ⟨w.heap.size, i, none⟩) hsu1).trans (hsb1 i)
  have hsU : w.heap.size < U.heap.size := by omega
  have hPU : FAt U ga ml gm va wl vm ua nl um s := hP1.below hb3
  have hwU : Below w.heap.size w U := hu1.trans (hb3.mono hu1.size)
  obtain ⟨gO, hgO⟩ : ∃ gO, gO = u1.heap.size := ⟨_, rfl⟩
  rw [← hgO]
  rw [← hgO] at hOb hgU
  clear hgO hsb1 hb3 hP1 hu1 hw1 hzu hsu1
  have HSB := Lib.hid hSb
  have HOB := Lib.hid hOb
  have HWU := Lib.hid hwU
  have HPU := Lib.hid (fun W (hb : Below U.heap.size U W) => hPU.below hb)
  have HPS := Lib.hid (fun W (hb : Below U.heap.size U W) => HP.out W (hwU.trans (hb.mono hwU.size)))
  clear hSb hOb hPU hwU
  refine (HA1.out _ _ _ _ _ _ _ (HPU.out _ (Below.refl _ _))).mono ?_
  rintro e w4 ⟨⟨ka, kl, kc, rfl, hIk⟩, hB4⟩
  obtain ⟨x0, x1, x2, x3⟩ : w4.cell? ⟨w.heap.size, 0, none⟩ = some (.slice ma ml mc) ∧ w4.cell? ⟨w.heap.size, 1, none⟩ = some (.slice wa wl wc) ∧ w4.cell? ⟨w.heap.size, 2, none⟩ = some (.slice na nl nc) ∧ w4.cell? ⟨w.heap.size, 3, none⟩ = some (.int .i64 s.fresh) := ⟨(hB4.cell (p := ⟨w.heap.size, 0, none⟩) hsU).trans (HSB.out 0), (hB4.cell (p := ⟨w.heap.size, 1, none⟩) hsU).trans (HSB.out 1), (hB4.cell (p := ⟨w.heap.size, 2, none⟩) hsU).trans (HSB.out 2), (hB4.cell (p := ⟨w.heap.size, 3, none⟩) hsU).trans (HSB.out 3)⟩; obtain ⟨o0, o1, o2, o3⟩ : w4.cell? ⟨gO, 0, none⟩ = some (.slice ga ml gm) ∧ w4.cell? ⟨gO, 1, none⟩ = some (.slice va wl vm) ∧ w4.cell? ⟨gO, 2, none⟩ = some (.slice ua nl um) ∧ w4.cell? ⟨gO, 3, none⟩ = some (.int .i64 s.fresh) := ⟨(hB4.cell (p := ⟨gO, 0, none⟩) hgU).trans (HOB.out 0), (hB4.cell (p := ⟨gO, 1, none⟩) hgU).trans (HOB.out 1), (hB4.cell (p := ⟨gO, 2, none⟩) hgU).trans (HOB.out 2), (hB4.cell (p := ⟨gO, 3, none⟩) hgU).trans (HOB.out 3)⟩
  have HIK4 := Lib.hid hIk
  clear hIk
  go_wp2_with fail
  refine (HA2.out _ _ _ _ _ _ _ (HPS.out _ hB4)).mono ?_
  rintro e w5 ⟨⟨la, ll, lc, rfl, hIl⟩, hb5⟩
  have hB5 := hB4.trans (hb5.mono hB4.size)
  clear x0 x1 x2 x3 o0 o1 o2 o3
  obtain ⟨x0, x1, x2, x3⟩ : w5.cell? ⟨w.heap.size, 0, none⟩ = some (.slice ma ml mc) ∧ w5.cell? ⟨w.heap.size, 1, none⟩ = some (.slice wa wl wc) ∧ w5.cell? ⟨w.heap.size, 2, none⟩ = some (.slice na nl nc) ∧ w5.cell? ⟨w.heap.size, 3, none⟩ = some (.int .i64 s.fresh) := ⟨(hB5.cell (p := ⟨w.heap.size, 0, none⟩) hsU).trans (HSB.out 0), (hB5.cell (p := ⟨w.heap.size, 1, none⟩) hsU).trans (HSB.out 1), (hB5.cell (p := ⟨w.heap.size, 2, none⟩) hsU).trans (HSB.out 2), (hB5.cell (p := ⟨w.heap.size, 3, none⟩) hsU).trans (HSB.out 3)⟩; obtain ⟨o0, o1, o2, o3⟩ : w5.cell? ⟨gO, 0, none⟩ = some (.slice ga ml gm) ∧ w5.cell? ⟨gO, 1, none⟩ = some (.slice va wl vm) ∧ w5.cell? ⟨gO, 2, none⟩ = some (.slice ua nl um) ∧ w5.cell? ⟨gO, 3, none⟩ = some (.int .i64 s.fresh) := ⟨(hB5.cell (p := ⟨gO, 0, none⟩) hgU).trans (HOB.out 0), (hB5.cell (p := ⟨gO, 1, none⟩) hgU).trans (HOB.out 1), (hB5.cell (p := ⟨gO, 2, none⟩) hgU).trans (HOB.out 2), (hB5.cell (p := ⟨gO, 3, none⟩) hgU).trans (HOB.out 3)⟩
  have HIK5 := Lib.hid (HIK4.out.below hb5)
  have HIL5 := Lib.hid hIl
  clear hb5 hIl hB4
  go_wp2_with fail
  refine (HB1.out _ _ _ _ _ _ _ (HPU.out _ hB5)).mono ?_
  rintro e w6 ⟨⟨aa, al, ac, rfl, hIa⟩, hb6⟩
  have hB6 := hB5.trans (hb6.mono hB5.size)
  clear x0 x1 x2 x3 o0 o1 o2 o3
  obtain ⟨x0, x1, x2, x3⟩ : w6.cell? ⟨w.heap.size, 0, none⟩ = some (.slice ma ml mc) ∧ w6.cell? ⟨w.heap.size, 1, none⟩ = some (.slice wa wl wc) ∧ w6.cell? ⟨w.heap.size, 2, none⟩ = some (.slice na nl nc) ∧ w6.cell? ⟨w.heap.size, 3, none⟩ = some (.int .i64 s.fresh) := ⟨(hB6.cell (p := ⟨w.heap.size, 0, none⟩) hsU).trans (HSB.out 0), (hB6.cell (p := ⟨w.heap.size, 1, none⟩) hsU).trans (HSB.out 1), (hB6.cell (p := ⟨w.heap.size, 2, none⟩) hsU).trans (HSB.out 2), (hB6.cell (p := ⟨w.heap.size, 3, none⟩) hsU).trans (HSB.out 3)⟩; obtain ⟨o0, o1, o2, o3⟩ : w6.cell? ⟨gO, 0, none⟩ = some (.slice ga ml gm) ∧ w6.cell? ⟨gO, 1, none⟩ = some (.slice va wl vm) ∧ w6.cell? ⟨gO, 2, none⟩ = some (.slice ua nl um) ∧ w6.cell? ⟨gO, 3, none⟩ = some (.int .i64 s.fresh) := ⟨(hB6.cell (p := ⟨gO, 0, none⟩) hgU).trans (HOB.out 0), (hB6.cell (p := ⟨gO, 1, none⟩) hgU).trans (HOB.out 1), (hB6.cell (p := ⟨gO, 2, none⟩) hgU).trans (HOB.out 2), (hB6.cell (p := ⟨gO, 3, none⟩) hgU).trans (HOB.out 3)⟩
  have HIK6 := Lib.hid (HIK5.out.below hb6)
  have HIL6 := Lib.hid (HIL5.out.below hb6)
  have HIA6 := Lib.hid hIa
  clear hb6 hIa hB5
  go_wp2_with fail
  refine (HB2.out _ _ _ _ _ _ _ (HPS.out _ hB6)).mono ?_
  rintro e w7 ⟨⟨ba, bn, bc, rfl, hIb⟩, hb7⟩
  have hB7 := hB6.trans (hb7.mono hB6.size)
  clear x0 x1 x2 x3 o0 o1 o2 o3
  obtain ⟨x0, x1, x2, x3⟩ : w7.cell? ⟨w.heap.size, 0, none⟩ = some (.slice ma ml mc) ∧ w7.cell? ⟨w.heap.size, 1, none⟩ = some (.slice wa wl wc) ∧ w7.cell? ⟨w.heap.size, 2, none⟩ = some (.slice na nl nc) ∧ w7.cell? ⟨w.heap.size, 3, none⟩ = some (.int .i64 s.fresh) := ⟨(hB7.cell (p := ⟨w.heap.size, 0, none⟩) hsU).trans (HSB.out 0), (hB7.cell (p := ⟨w.heap.size, 1, none⟩) hsU).trans (HSB.out 1), (hB7.cell (p := ⟨w.heap.size, 2, none⟩) hsU).trans (HSB.out 2), (hB7.cell (p := ⟨w.heap.size, 3, none⟩) hsU).trans (HSB.out 3)⟩; obtain ⟨o0, o1, o2, o3⟩ : w7.cell? ⟨gO, 0, none⟩ = some (.slice ga ml gm) ∧ w7.cell? ⟨gO, 1, none⟩ = some (.slice va wl vm) ∧ w7.cell? ⟨gO, 2, none⟩ = some (.slice ua nl um) ∧ w7.cell? ⟨gO, 3, none⟩ = some (.int .i64 s.fresh) := ⟨(hB7.cell (p := ⟨gO, 0, none⟩) hgU).trans (HOB.out 0), (hB7.cell (p := ⟨gO, 1, none⟩) hgU).trans (HOB.out 1), (hB7.cell (p := ⟨gO, 2, none⟩) hgU).trans (HOB.out 2), (hB7.cell (p := ⟨gO, 3, none⟩) hgU).trans (HOB.out 3)⟩
  have HIK7 := Lib.hid (HIK6.out.below hb7)
  have HIL7 := Lib.hid (HIL6.out.below hb7)
  have HIA7 := Lib.hid (HIA6.out.below hb7)
  have HIB7 := Lib.hid hIb
  clear hb7 hIb hB6
  go_wp2_with fail
  refine (HT1.out _ _ _ _ _ _ _ (HPU.out _ hB7)).mono ?_
  rintro e w8 ⟨rfl, hb8⟩
  have hB8 := hB7.trans (hb8.mono hB7.size)
  clear x0 x1 x2 x3 o0 o1 o2 o3
  obtain ⟨x0, x1, x2, x3⟩ : w8.cell? ⟨w.heap.size, 0, none⟩ = some (.slice ma ml mc) ∧ w8.cell? ⟨w.heap.size, 1, none⟩ = some (.slice wa wl wc) ∧ w8.cell? ⟨w.heap.size, 2, none⟩ = some (.slice na nl nc) ∧ w8.cell? ⟨w.heap.size, 3, none⟩ = some (.int .i64 s.fresh) := ⟨(hB8.cell (p := ⟨w.heap.size, 0, none⟩) hsU).trans (HSB.out 0), (hB8.cell (p := ⟨w.heap.size, 1, none⟩) hsU).trans (HSB.out 1), (hB8.cell (p := ⟨w.heap.size, 2, none⟩) hsU).trans (HSB.out 2), (hB8.cell (p := ⟨w.heap.size, 3, none⟩) hsU).trans (HSB.out 3)⟩; obtain ⟨o0, o1, o2, o3⟩ : w8.cell? ⟨gO, 0, none⟩ = some (.slice ga ml gm) ∧ w8.cell? ⟨gO, 1, none⟩ = some (.slice va wl vm) ∧ w8.cell? ⟨gO, 2, none⟩ = some (.slice ua nl um) ∧ w8.cell? ⟨gO, 3, none⟩ = some (.int .i64 s.fresh) := ⟨(hB8.cell (p := ⟨gO, 0, none⟩) hgU).trans (HOB.out 0), (hB8.cell (p := ⟨gO, 1, none⟩) hgU).trans (HOB.out 1), (hB8.cell (p := ⟨gO, 2, none⟩) hgU).trans (HOB.out 2), (hB8.cell (p := ⟨gO, 3, none⟩) hgU).trans (HOB.out 3)⟩
  have HIK8 := Lib.hid (HIK7.out.below hb8)
  have HIL8 := Lib.hid (HIL7.out.below hb8)
  have HIA8 := Lib.hid (HIA7.out.below hb8)
  have HIB8 := Lib.hid (HIB7.out.below hb8)
  clear hb8 hB7
  go_wp2_with fail
  refine (HT2.out _ _ _ _ _ _ _ (HPS.out _ hB8)).mono ?_
  rintro e w9 ⟨rfl, hb9⟩
  have hB9 := hB8.trans (hb9.mono hB8.size)
  clear x0 x1 x2 x3 o0 o1 o2 o3
  obtain ⟨x0, x1, x2, x3⟩ : w9.cell? ⟨w.heap.size, 0, none⟩ = some (.slice ma ml mc) ∧ w9.cell? ⟨w.heap.size, 1, none⟩ = some (.slice wa wl wc) ∧ w9.cell? ⟨w.heap.size, 2, none⟩ = some (.slice na nl nc) ∧ w9.cell? ⟨w.heap.size, 3, none⟩ = some (.int .i64 s.fresh) := ⟨(hB9.cell (p := ⟨w.heap.size, 0, none⟩) hsU).trans (HSB.out 0), (hB9.cell (p := ⟨w.heap.size, 1, none⟩) hsU).trans (HSB.out 1), (hB9.cell (p := ⟨w.heap.size, 2, none⟩) hsU).trans (HSB.out 2), (hB9.cell (p := ⟨w.heap.size, 3, none⟩) hsU).trans (HSB.out 3)⟩; obtain ⟨o0, o1, o2, o3⟩ : w9.cell? ⟨gO, 0, none⟩ = some (.slice ga ml gm) ∧ w9.cell? ⟨gO, 1, none⟩ = some (.slice va wl vm) ∧ w9.cell? ⟨gO, 2, none⟩ = some (.slice ua nl um) ∧ w9.cell? ⟨gO, 3, none⟩ = some (.int .i64 s.fresh) := ⟨(hB9.cell (p := ⟨gO, 0, none⟩) hgU).trans (HOB.out 0), (hB9.cell (p := ⟨gO, 1, none⟩) hgU).trans (HOB.out 1), (hB9.cell (p := ⟨gO, 2, none⟩) hgU).trans (HOB.out 2), (hB9.cell (p := ⟨gO, 3, none⟩) hgU).trans (HOB.out 3)⟩
  have HS9 := Lib.hid (same_refl2 w9 ka kl kc la ll lc dl (HIK8.out.below hb9) (HIL8.out.below hb9))
  have HIA9 := Lib.hid (HIA8.out.below hb9)
  have HIB9 := Lib.hid (HIB8.out.below hb9)
  clear hb9 hB8
  go_wp2_with fail
  refine HS9.out.mono ?_
  rintro e w10 ⟨rfl, hb10⟩
  have hB10 := hB9.trans (hb10.mono hB9.size)
  clear x0 x1 x2 x3 o0 o1 o2 o3
  obtain ⟨x0, x1, x2, x3⟩ : w10.cell? ⟨w.heap.size, 0, none⟩ = some (.slice ma ml mc) ∧ w10.cell? ⟨w.heap.size, 1, none⟩ = some (.slice wa wl wc) ∧ w10.cell? ⟨w.heap.size, 2, none⟩ = some (.slice na nl nc) ∧ w10.cell? ⟨w.heap.size, 3, none⟩ = some (.int .i64 s.fresh) := ⟨(hB10.cell (p := ⟨w.heap.size, 0, none⟩) hsU).trans (HSB.out 0), (hB10.cell (p := ⟨w.heap.size, 1, none⟩) hsU).trans (HSB.out 1), (hB10.cell (p := ⟨w.heap.size, 2, none⟩) hsU).trans (HSB.out 2), (hB10.cell (p := ⟨w.heap.size, 3, none⟩) hsU).trans (HSB.out 3)⟩; obtain ⟨o0, o1, o2, o3⟩ : w10.cell? ⟨gO, 0, none⟩ = some (.slice ga ml gm) ∧ w10.cell? ⟨gO, 1, none⟩ = some (.slice va wl vm) ∧ w10.cell? ⟨gO, 2, none⟩ = some (.slice ua nl um) ∧ w10.cell? ⟨gO, 3, none⟩ = some (.int .i64 s.fresh) := ⟨(hB10.cell (p := ⟨gO, 0, none⟩) hgU).trans (HOB.out 0), (hB10.cell (p := ⟨gO, 1, none⟩) hgU).trans (HOB.out 1), (hB10.cell (p := ⟨gO, 2, none⟩) hgU).trans (HOB.out 2), (hB10.cell (p := ⟨gO, 3, none⟩) hgU).trans (HOB.out 3)⟩
  have HS10 := Lib.hid (same_refl2 w10 aa al ac ba bn bc bl (HIA9.out.below hb10) (HIB9.out.below hb10))
  clear hb10 hB9
  go_wp2_with fail
  refine HS10.out.mono ?_
  rintro e w11 ⟨rfl, hb11⟩
  have hB11 := hB10.trans (hb11.mono hB10.size)
  clear x0 x1 x2 x3 o0 o1 o2 o3
  obtain ⟨x0, x1, x2, x3⟩ : w11.cell? ⟨w.heap.size, 0, none⟩ = some (.slice ma ml mc) ∧ w11.cell? ⟨w.heap.size, 1, none⟩ = some (.slice wa wl wc) ∧ w11.cell? ⟨w.heap.size, 2, none⟩ = some (.slice na nl nc) ∧ w11.cell? ⟨w.heap.size, 3, none⟩ = some (.int .i64 s.fresh) := ⟨(hB11.cell (p := ⟨w.heap.size, 0, none⟩) hsU).trans (HSB.out 0), (hB11.cell (p := ⟨w.heap.size, 1, none⟩) hsU).trans (HSB.out 1), (hB11.cell (p := ⟨w.heap.size, 2, none⟩) hsU).trans (HSB.out 2), (hB11.cell (p := ⟨w.heap.size, 3, none⟩) hsU).trans (HSB.out 3)⟩; obtain ⟨o0, o1, o2, o3⟩ : w11.cell? ⟨gO, 0, none⟩ = some (.slice ga ml gm) ∧ w11.cell? ⟨gO, 1, none⟩ = some (.slice va wl vm) ∧ w11.cell? ⟨gO, 2, none⟩ = some (.slice ua nl um) ∧ w11.cell? ⟨gO, 3, none⟩ = some (.int .i64 s.fresh) := ⟨(hB11.cell (p := ⟨gO, 0, none⟩) hgU).trans (HOB.out 0), (hB11.cell (p := ⟨gO, 1, none⟩) hgU).trans (HOB.out 1), (hB11.cell (p := ⟨gO, 2, none⟩) hgU).trans (HOB.out 2), (hB11.cell (p := ⟨gO, 3, none⟩) hgU).trans (HOB.out 3)⟩
  clear hb11 hB10
  go_wp2_with fail
  refine (HS.out _ _ _ _ _ _ _ (HPU.out _ hB11) (HPS.out _ hB11)).mono ?_
  rintro e w12 ⟨rfl, hb12⟩
  have hB12 := hB11.trans (hb12.mono hB11.size)
  clear x0 x1 x2 x3 o0 o1 o2 o3
  clear hb12 hB11
  go_wp2_with fail
  refine (works_any _).mono ?_
  rintro e w13 ⟨rfl, hb13⟩
  go_wp2_with fail
  go_ret
  exact ⟨rfl, HWU.out.trans ((hB12.trans (hb13.mono hB12.size)).mono HWU.out.size)⟩

set_option maxRecDepth 100000 in
set_option maxHeartbeats 1000000 in
theorem divide_early (s : FShop) (ma : Option Addr) (ml mc : Nat) (wa : Option Addr) (wl wc : Nat) (na : Option Addr) (nl nc : Nat) (w : World) (hp : FAt w ma ml mc wa wl wc na nl nc s) (hh : s.huge = true) :
    Calls Try.prog 14 #[.agg #[.slice ma ml mc, .slice wa wl wc, .slice na nl nc, .int .i64 s.fresh]] w fun e w' => e = .returned (.bool true) ∧ Below w.heap.size w w' := by
  have HH1 := Lib.hid (fun w1 (hb : Below w.heap.size w w1) => Huge_is s ma ml mc wa wl wc na nl nc true hh w1 (hp.below hb))
  clear hp hh
  go_enter Try.func14, Try.ntmps14
  go_wp2_with fail
  refine (HH1.out _ (by repeat (first | exact Below.refl _ _ | (refine Below.alloc ?_ (by first | omega | (simp; omega) | simp) _) | (refine Below.setCell ?_ (by first | omega | (simp; omega) | simp) _) | refine Below.drew ?_))).mono ?_
  rintro e w1 ⟨rfl, hb1⟩
  have hw1 := ((by repeat (first | exact Below.refl _ _ | (refine Below.alloc ?_ (by first | omega | (simp; omega) | simp) _) | (refine Below.setCell ?_ (by first | omega | (simp; omega) | simp) _) | refine Below.drew ?_)) : Below w.heap.size w _).trans (hb1.mono (by first | (simp; done) | (simp; omega) | omega))
  clear hb1
  go_wp2_with fail
  refine (works_any _).mono ?_
  rintro e w2 ⟨rfl, hb2⟩
  go_wp2_with fail
  go_ret
  exact ⟨rfl, hw1.trans (hb2.mono hw1.size)⟩
theorem divide_law (s : FShop) (ma : Option Addr) (ml mc : Nat) (wa : Option Addr) (wl wc : Nat) (na : Option Addr) (nl nc : Nat) (w : World) (hp : FAt w ma ml mc wa wl wc na nl nc s) :
    Calls Try.prog 14 #[.agg #[.slice ma ml mc, .slice wa wl wc, .slice na nl nc, .int .i64 s.fresh]] w fun e w' => e = .returned (.bool true) ∧ Below w.heap.size w w' := by
  rcases hh : s.huge with - | -
  · exact divide_walk s ma ml mc wa wl wc na nl nc w hp hh
  · exact divide_early s ma ml mc wa wl wc na nl nc w hp hh
end Go.Proofs.Ytigeiaiohdemiaa
