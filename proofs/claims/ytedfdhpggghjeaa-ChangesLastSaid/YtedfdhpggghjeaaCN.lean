/- Package changes: mixes, mixed, hasPlates. -/
import Derived.Test.YtedfdhpggghjeaaCM
namespace Go.Proofs.Ytedfdhpggghjeaa
set_option linter.unusedVariables false
set_option linter.unusedSimpArgs false
open Go.RowKit Go.Shelf

theorem countP_next {p : Int → Bool} {xs : List Int} {k : Nat} (h : k < xs.length) : (xs.take (k + 1)).countP p = (xs.take k).countP p + (if p xs[k] = true then 1 else 0) := by
  rw [List.take_succ_eq_append_getElem h, List.countP_append]
  cases hv : p xs[k] <;> simp [hv]

set_option maxRecDepth 100000 in
set_option maxHeartbeats 8000000 in
theorem mixes_any (h : CHouse) (ta : Option Addr) (tl tc : Nat) (ma : Option Addr) (ml mc : Nat) (ho : h.okT = true) (xa : Option Addr) (xl xc : Nat) (xs : List Int) (c m : Int) (hin : ∀ y ∈ xs, 0 ≤ y ∧ y < (h.things.length : Int)) (w : World) (hp : HAt w ta tl tc ma ml mc h) (hx : IntsAt w xa xl xs) :
    Calls Try.prog 93 #[.agg #[.slice ta tl tc, .slice ma ml mc], .slice xa xl xc, .int .i64 c, .int .i64 m] w fun e w' => e = .returned (.bool (h.mixB xs c m)) ∧ Below w.heap.size w w' := by
  obtain ⟨hxl, hxm, hxc⟩ := hx
  unfold maxLen at hxm
  have HHA := Lib.hid (fun (y : Int) (hy : 0 ≤ y ∧ y < (h.things.length : Int)) b (hb : h.hasB c y.toNat m = b) W (hw : Below w.heap.size w W) => show Calls Try.prog 62 #[.agg #[.slice ta tl tc, .slice ma ml mc], .int .i64 y, .int .i64 c, .int .i64 m] W fun e w' => e = .returned (.bool b) ∧ Below W.heap.size W w' from by
    obtain ⟨k, rfl⟩ : ∃ k : Nat, y = (k : Int) := ⟨y.toNat, by omega⟩
    have h1 := has_any h ta tl tc ma ml mc ho c k m (by omega) W (hp.below hw)
    rw [Int.toNat_natCast] at hb
    rw [hb] at h1
    exact h1)
  have HN := Lib.hid (fun k (hk : k < xs.length) => countP_next (p := fun y => h.hasB c y.toNat m) hk)
  have HLE := Lib.hid (fun k (hk : k ≤ xs.length) => show (xs.take k).countP (fun y => h.hasB c y.toNat m) ≤ k from by
    have := List.countP_le_length (p := fun y : Int => h.hasB c y.toNat m) (l := xs.take k)
    rw [List.length_take] at this; omega)
  unfold CHouse.mixB CHouse.haveN
  rw [hxl]
  have HEND := Lib.hid (show (xs.take xl).countP (fun y => h.hasB c y.toNat m) = xs.countP (fun y => h.hasB c y.toNat m) from by rw [List.take_of_length_le (by omega)])
  have HBT := Lib.hid (fun (n hi : Int) W => between_is n 1 hi _ rfl W)
  have HXL := Lib.hid hxl
  have HXC := Lib.hid hxc
  have HIN := Lib.hid (fun k (hk : k < xs.length) => hin _ (List.getElem_mem hk))
  clear hp hxc hin hxl
  go_enter Try.func93, Try.ntmps93
  go_wp2_with fail
  obtain ⟨W0, hW0, hB0, ⟨g0_0, g0_1⟩, hz0⟩ : ∃ W0, (w.alloc (.cells #[.slice ta tl tc, .slice ma ml mc] 75)) = W0 ∧ Below w.heap.size w W0 ∧ (W0.cell? ⟨w.heap.size, 0, none⟩ = some (.slice ta tl tc) ∧ W0.cell? ⟨w.heap.size, 1, none⟩ = some (.slice ma ml mc)) ∧ W0.heap.size = w.heap.size + 1 :=
    ⟨_, rfl, (by repeat (first | exact Below.refl _ _ | (refine Below.alloc ?_ (by first | omega | (simp; omega) | simp) _) | (refine Below.setCell ?_ (by first | omega | (simp; omega) | simp) _) | refine Below.drew ?_)), ⟨by go_simp, by go_simp⟩, by simp⟩
  rw [hW0]
  clear hW0
  have HBW := Lib.hid hB0
  have q0_0 : w.heap.size < W0.heap.size := by omega
  clear hB0 hz0
  go_loopw [9, 14] (fun n i wr => ∃ k : Nat, k ≤ xl ∧ i = .int .i64 k ∧ n = .int .i64 (((xs.take k).countP (fun y => h.hasB c y.toNat m) : Nat) : Int) ∧ Below W0.heap.size W0 wr) (fun _ i _ => xl - (intOf i).toNat)
  case atStart => exact ⟨0, by omega, rfl, by simp, Below.refl _ _⟩
  case round =>
    obtain ⟨k, hk, rfl, rfl, hB⟩ := hrel
    obtain ⟨W1, rfl⟩ : ∃ W1 : World, W1 = wr := ⟨_, rfl⟩
    have HB := Lib.hid hB
    have x0 := (hB.cell (p := ⟨w.heap.size, 0, none⟩) q0_0).trans g0_0
    have x1 := (hB.cell (p := ⟨w.heap.size, 1, none⟩) q0_0).trans g0_1
    have hbw := HBW.out.trans (hB.mono HBW.out.size)
    have HW1 := Lib.hid hbw
    have hle := HLE.out k (by have := HXL.out; omega)
    clear hB
    by_cases hlt : k < xl
    · have hk2 : k < xs.length := by rw [HXL.out]; exact hlt
      obtain ⟨xb, xo, rfl, hxB, hxcell⟩ := HXC.out (by omega)
      have cx := (hbw.cell (p := ⟨xb, xo + k, none⟩) hxB).trans (hxcell k hk2)
      have hkl : (k : Int) < (xl : Int) := by omega
      have hk0 : (0 : Int) ≤ (k : Int) := by omega
      have hn := HN.out k hk2
      have hi := HIN.out k hk2
      have HA0 := Lib.hid (HHA.out xs[k] hi)
      clear hxcell hbw hi
      generalize xs[k] = y at *
      rcases hv : h.hasB c y.toNat m with - | -
      · have HC := Lib.hid (HA0.out false hv W1 HW1.out)
        simp only [hv, Bool.false_eq_true, if_false, Nat.add_zero] at hn
        have HNK := Lib.hid hn
        clear hv hn HA0
        go_wp2_with fail
        refine HC.out.mono ?_
        rintro e w' ⟨rfl, hb2⟩
        go_wp2_with fail
        go_roundw
        case rel => exact ⟨k + 1, by omega, by go_num, by rw [HNK.out], HB.out.trans (hb2.mono HB.out.size)⟩
        case measure => simp [intOf]; omega
      · have HC := Lib.hid (HA0.out true hv W1 HW1.out)
        simp only [hv, if_true] at hn
        have HNK := Lib.hid hn
        clear hv hn HA0
        generalize (xs.take k).countP (fun y => h.hasB c y.toNat m) = cnt at *
        go_wp2_with fail
        refine HC.out.mono ?_
        rintro e w' ⟨rfl, hb2⟩
        go_wp2_with fail
        go_roundw
        case rel => exact ⟨k + 1, by omega, by go_num, by rw [HNK.out]; go_num, HB.out.trans (hb2.mono HB.out.size)⟩
        case measure => simp [intOf]; omega
    · obtain rfl : xl = k := by omega
      have HC := Lib.hid (HBT.out (((xs.take xl).countP (fun y => h.hasB c y.toNat m) : Nat) : Int) ((xl : Int) - 1) W1)
      have hw1 : IntKind.i64.wrap ((xl : Int) - 1) = (xl : Int) - 1 := IntWalk.i64_in _ ⟨by omega, by omega⟩
      clear hbw
      go_wp2_with fail
      refine HC.out.mono ?_
      rintro e w' ⟨rfl, rfl⟩
      go_wp2_with fail
      go_ret
      exact ⟨by rw [HEND.out]; rfl, HW1.out⟩
set_option maxRecDepth 100000 in
set_option maxHeartbeats 8000000 in
theorem mixed_row (h : CHouse) (ta : Option Addr) (tl tc : Nat) (ma : Option Addr) (ml mc : Nat) (ho : h.okT = true) (xa : Option Addr) (xl xc : Nat) (xs : List Int) (m : Int) (hin : ∀ y ∈ xs, 0 ≤ y ∧ y < (h.things.length : Int)) (w : World) (hp : HAt w ta tl tc ma ml mc h) (hx : IntsAt w xa xl xs) :
    Calls Try.prog 76 #[.agg #[.slice ta tl tc, .slice ma ml mc], .slice xa xl xc, .int .i64 m] w fun e w' => RowPost w e w' (h.mixed xs m) := by
  have HPR0 := fun (k : Nat) b (hb : h.mixB xs (k : Int) m = b) W (hw : Below w.heap.size w W) => show Calls Try.prog 93 #[.agg #[.slice ta tl tc, .slice ma ml mc], .slice xa xl xc, .int .i64 k, .int .i64 m] W fun e w' => e = .returned (.bool b) ∧ Below W.heap.size W w' from hb ▸ mixes_any h ta tl tc ma ml mc ho xa xl xc xs k m hin W (hp.below hw) (hx.below hw)
  unfold CHouse.mixed
  obtain ⟨p, hpe⟩ : ∃ p : Nat → Bool, p = (fun (c : Nat) => h.mixB xs (c : Int) m) := ⟨_, rfl⟩
  have HPR := Lib.hid (fun (k : Nat) b (hb : p k = b) W (hw : Below w.heap.size w W) => HPR0 k b (by rw [← hb, hpe]) W hw)
  have HPE := Lib.hid hpe
  have HN := Lib.hid (fun k => numsTo_next p k)
  have HLN := Lib.hid (fun k => numsTo_len p k)
  unfold RowPost
  rw [← hpe]
  clear hpe HPR0 hp hx hin
  go_enter Try.func76, Try.ntmps76
  go_wp2_with fail
  obtain ⟨W0, hW0, hB0, ⟨g0_0, g0_1⟩, hz0⟩ : ∃ W0, (w.alloc (.cells #[.slice ta tl tc, .slice ma ml mc] 75)) = W0 ∧ Below w.heap.size w W0 ∧ (W0.cell? ⟨w.heap.size, 0, none⟩ = some (.slice ta tl tc) ∧ W0.cell? ⟨w.heap.size, 1, none⟩ = some (.slice ma ml mc)) ∧ W0.heap.size = w.heap.size + 1 :=
    ⟨_, rfl, (by repeat (first | exact Below.refl _ _ | (refine Below.alloc ?_ (by first | omega | (simp; omega) | simp) _) | (refine Below.setCell ?_ (by first | omega | (simp; omega) | simp) _) | refine Below.drew ?_)), ⟨by go_simp, by go_simp⟩, by simp⟩
  rw [hW0]
  clear hW0
  have HBW := Lib.hid hB0
  have q0_0 : w.heap.size < W0.heap.size := by omega
  clear hB0 hz0
  go_loopw [7, 9] (fun v i wr => ∃ k : Nat, k ≤ 3 ∧ i = .int .i64 k ∧ wr.ownsRow W0.heap.size 3 1 v (numsTo p k).length ((numsTo p k).map (Value.int .i64)) ∧ Below W0.heap.size W0 wr) (fun _ i _ => 3 - (intOf i).toNat)
  case atStart => exact ⟨0, by omega, rfl, ⟨rfl, .inl ⟨rfl, rfl⟩⟩, Below.refl _ _⟩
  case round =>
    obtain ⟨k, hk, rfl, hO, hB⟩ := hrel
    obtain ⟨o7, rfl⟩ : ∃ o7 : Value, o7 = u7 := ⟨_, rfl⟩
    obtain ⟨W1, rfl⟩ : ∃ W1 : World, W1 = wr := ⟨_, rfl⟩
    have HB := Lib.hid hB
    have HO := Lib.hid hO
    have x0 := (hB.cell (p := ⟨w.heap.size, 0, none⟩) q0_0).trans g0_0
    have x1 := (hB.cell (p := ⟨w.heap.size, 1, none⟩) q0_0).trans g0_1
    have hz1 := hB.size
    have hbw := HBW.out.trans (hB.mono HBW.out.size)
    have HW1 := Lib.hid hbw
    clear hO hB hbw
    by_cases hlt : k < 3
    · have hkl : (k : Int) < 3 := by omega
      have hln := HLN.out k
      have hN := HN.out k
      rcases hv : p k with - | -
      · have HC := Lib.hid (HPR.out k false hv W1 HW1.out)
        rw [hv, if_neg (by simp)] at hN
        have HNK := Lib.hid hN
        clear hv hN
        go_wp2_with fail
        refine HC.out.mono ?_
        rintro e w' ⟨rfl, hb2⟩
        have HB2 := Lib.hid hb2
        go_wp2_with fail
        go_roundw
        case rel =>
          refine ⟨k + 1, by omega, by go_num, ?_, HB.out.trans (HB2.out.mono HB.out.size)⟩
          rw [HNK.out]
          exact HO.out.kept (grown_none HB2.out) (Classical.em _)
        case measure => simp [intOf]; omega
      · have HC := Lib.hid (HPR.out k true hv W1 HW1.out)
        rw [hv, if_pos rfl] at hN
        have HNK := Lib.hid hN
        clear hv hN
        generalize numsTo p k = ys at *
        have hk1000 : ys.length ≤ 1000 := by omega
        go_wp2_with fail
        refine HC.out.mono ?_
        rintro e w2 ⟨rfl, hb2⟩
        have HB2 := Lib.hid hb2
        have HO2 := Lib.hid (HO.out.kept (grown_none hb2) (Classical.em _))
        have hz2 := hb2.size
        clear hb2
        go_wp2_with (at_builtin; go_must (refine wpList_append_int _ W0.heap.size ys.length o7 (ys.map (Value.int .i64)) (k : Int) rfl _ _ rfl rfl ⟨_, rfl, ?_⟩ ?_ hk1000 ?_ ?_); go_must (focus (simp; done)); go_must (· exact HO2.out.kept (grown_none (by repeat (first | exact Below.refl _ _ | (refine Below.alloc ?_ (by first | omega | (simp; omega) | simp) _) | (refine Below.setCell ?_ (by first | omega | (simp; omega) | simp) _) | refine Below.drew ?_))) (Classical.em _)); go_must (focus (first | omega | (simp; omega))); intro v2 wF hoF hgF hnF; have HOF := Lib.hid hoF; have HGF := Lib.hid (gb_up2 (W := w2) (by repeat (first | exact Below.refl _ _ | (refine Below.alloc ?_ (by first | omega | (simp; omega) | simp) _) | (refine Below.setCell ?_ (by first | omega | (simp; omega) | simp) _) | refine Below.drew ?_)) hgF); clear hoF hgF hnF)
        go_roundw
        case rel =>
          refine ⟨k + 1, by omega, by go_num, ?_, (HB.out.trans (HB2.out.mono HB.out.size)).trans (grown_low HGF.out (by omega) (fun r e => own_low HO2.out r e))⟩
          rw [HNK.out, List.map_append, List.length_append]
          exact HOF.out
        case measure => simp [intOf]; omega
    · obtain rfl : k = 3 := by omega
      go_wp2_with fail
      go_ret
      exact ⟨⟨_, rfl, own_base2 HO.out HBW.out.size⟩, HW1.out⟩
/-- Whether a list is plates, ascending from a number on, that print at a minute. -/
def CHouse.arePl (h : CHouse) (m : Int) : Int → List Int → Bool
  | _, [] => true
  | least, y :: t => !decide (y < least) && btw y 0 ((h.things.length : Int) - 1) && h.printB m y.toNat && h.arePl m (y + 1) t
theorem arePl_in {h : CHouse} {m : Int} : ∀ {xs : List Int} {l : Int}, h.arePl m l xs = true → ∀ y ∈ xs, 0 ≤ y ∧ y < (h.things.length : Int)
  | [], _, _, y, hy => by simp at hy
  | x :: t, l, hh, y, hy => by
    rw [CHouse.arePl] at hh
    simp only [Bool.and_eq_true] at hh
    rcases List.mem_cons.1 hy with rfl | hy
    · have := hh.1.1.2
      unfold btw at this
      simp only [decide_eq_true_eq] at this
      omega
    · exact arePl_in hh.2 y hy
set_option maxRecDepth 100000 in
set_option maxHeartbeats 8000000 in
theorem hasPlates_any (h : CHouse) (ta : Option Addr) (tl tc : Nat) (ma : Option Addr) (ml mc : Nat) (xa : Option Addr) (xl xc : Nat) (xs : List Int) (m : Int) (w : World) (hp : HAt w ta tl tc ma ml mc h) (hx : IntsAt w xa xl xs) :
    Calls Try.prog 75 #[.agg #[.slice ta tl tc, .slice ma ml mc], .slice xa xl xc, .int .i64 m] w fun e w' => e = .returned (.bool (h.arePl m 0 xs)) ∧ Below w.heap.size w w' := by
  obtain ⟨hxl, hxm, hxc⟩ := hx
  have htl := hp.1.1
  have htm := hp.1.2.1
  unfold maxLen at hxm
  have HT := Lib.hid (fun (n : Int) (W : World) b (hb : btw n 0 ((tl : Int) - 1) = b) => hasThing_is ta tl tc ma ml mc n W htm b hb)
  have HPR := Lib.hid (fun (y : Int) (hy : btw y 0 ((tl : Int) - 1) = true) b (hb : h.printB m y.toNat = b) W (hw : Below w.heap.size w W) => show Calls Try.prog 92 #[.agg #[.slice ta tl tc, .slice ma ml mc], .int .i64 y, .int .i64 m] W fun e w' => e = .returned (.bool b) ∧ Below W.heap.size W w' from by
    unfold btw at hy
    simp only [decide_eq_true_eq] at hy
    obtain ⟨k, rfl⟩ : ∃ k : Nat, y = (k : Int) := ⟨y.toNat, by omega⟩
    have h1 := printsAt_any h ta tl tc ma ml mc k m (by omega) W (hp.below hw)
    rw [Int.toNat_natCast] at hb
    rw [hb] at h1
    exact h1)
  have HXL := Lib.hid hxl
  have HXC := Lib.hid hxc
  obtain ⟨R, hR⟩ : ∃ R, h.arePl m 0 xs = R := ⟨_, rfl⟩
  rw [hR]
  have HRR := Lib.hid hR
  have HDR := Lib.hid (fun k (hk : k < xs.length) (l : Int) => show h.arePl m l (xs.drop k) = (!decide (xs[k] < l) && btw xs[k] 0 ((tl : Int) - 1) && h.printB m xs[k].toNat && h.arePl m (xs[k] + 1) (xs.drop (k + 1))) from by
    rw [List.drop_eq_getElem_cons hk, CHouse.arePl, htl])
  have HE := Lib.hid (fun l => show h.arePl m l (xs.drop xl) = true from by rw [List.drop_eq_nil_of_le (by omega), CHouse.arePl])
  have htm2 : tl ≤ 9223372036854775807 := by unfold maxLen at htm; omega
  clear hp hxc hxl hR htl htm
  go_enter Try.func75, Try.ntmps75
  go_wp2_with fail
  obtain ⟨W0, hW0, hB0, ⟨g0_0, g0_1⟩, hz0⟩ : ∃ W0, (w.alloc (.cells #[.slice ta tl tc, .slice ma ml mc] 75)) = W0 ∧ Below w.heap.size w W0 ∧ (W0.cell? ⟨w.heap.size, 0, none⟩ = some (.slice ta tl tc) ∧ W0.cell? ⟨w.heap.size, 1, none⟩ = some (.slice ma ml mc)) ∧ W0.heap.size = w.heap.size + 1 :=
    ⟨_, rfl, (by repeat (first | exact Below.refl _ _ | (refine Below.alloc ?_ (by first | omega | (simp; omega) | simp) _) | (refine Below.setCell ?_ (by first | omega | (simp; omega) | simp) _) | refine Below.drew ?_)), ⟨by go_simp, by go_simp⟩, by simp⟩
  rw [hW0]
  clear hW0
  have HBW := Lib.hid hB0
  have q0_0 : w.heap.size < W0.heap.size := by omega
  clear hB0 hz0
  go_loopw [7, 12] (fun v7 i wr => ∃ (k : Nat) (l : Int), k ≤ xl ∧ i = .int .i64 k ∧ v7 = .int .i64 l ∧ h.arePl m l (xs.drop k) = R ∧ Below W0.heap.size W0 wr) (fun _ i _ => xl - (intOf i).toNat)
  case atStart => exact ⟨0, 0, by omega, rfl, rfl, HRR.out, Below.refl _ _⟩
  case round =>
    obtain ⟨k, l, hk, rfl, rfl, hr, hB⟩ := hrel
    obtain ⟨W1, rfl⟩ : ∃ W1 : World, W1 = wr := ⟨_, rfl⟩
    have HB := Lib.hid hB
    have x0 := (hB.cell (p := ⟨w.heap.size, 0, none⟩) q0_0).trans g0_0
    have x1 := (hB.cell (p := ⟨w.heap.size, 1, none⟩) q0_0).trans g0_1
    have hbw := HBW.out.trans (hB.mono HBW.out.size)
    have HW1 := Lib.hid hbw
    clear hB g0_0 g0_1
    by_cases hlt : k < xl
    · have hk2 : k < xs.length := by rw [HXL.out]; exact hlt
      obtain ⟨xb, xo, rfl, hxB, hxcell⟩ := HXC.out (by omega)
      have cx := (hbw.cell (p := ⟨xb, xo + k, none⟩) hxB).trans (hxcell k hk2)
      have hkl : (k : Int) < (xl : Int) := by omega
      have hk0 : (0 : Int) ≤ (k : Int) := by omega
      have hzw : w.heap.size < W1.heap.size := Nat.lt_of_lt_of_le q0_0 HB.out.size
      rw [HDR.out k hk2] at hr
      clear hxcell hbw
      generalize xs[k] = y at *
      by_cases hyl : y < l
      · have hRF : R = false := by rw [← hr, decide_eq_true hyl]; rfl
        subst hRF
        clear hr
        go_wp2_with fail
        go_ret
        exact ⟨rfl, HW1.out⟩
      · rw [decide_eq_false hyl, Bool.not_false, Bool.true_and] at hr
        rcases h1 : btw y 0 ((tl : Int) - 1) with - | -
        · have HT1 := Lib.hid (HT.out y W1 false h1)
          have hRF : R = false := by rw [← hr, h1]; rfl
          subst hRF
          clear hr h1
          go_wp2_with fail
          refine HT1.out.mono ?_
          rintro e w' ⟨rfl, hb2⟩
          go_wp2_with fail
          go_ret
          exact ⟨rfl, HW1.out.trans (hb2.mono HW1.out.size)⟩
        · have HT1 := Lib.hid (HT.out y W1 true h1)
          have HP1 := Lib.hid (HPR.out y h1)
          have hyb : 0 ≤ y ∧ y ≤ (tl : Int) - 1 := by unfold btw at h1; simpa using h1
          rw [h1, Bool.true_and] at hr
          rcases h2 : h.printB m y.toNat with - | -
          · have HP2 := Lib.hid (HP1.out false h2)
            have hRF : R = false := by rw [← hr, h2]; rfl
            subst hRF
            clear hr h1 h2 HP1
            go_wp2_with fail
            refine HT1.out.mono ?_
            rintro e w' ⟨rfl, hb2⟩
            have y0 := (hb2.cell (p := ⟨w.heap.size, 0, none⟩) hzw).trans x0
            have y1 := (hb2.cell (p := ⟨w.heap.size, 1, none⟩) hzw).trans x1
            have HB2 := Lib.hid hb2
            clear hb2 x0 x1
            go_wp2_with fail
            refine (HP2.out _ (HW1.out.trans (HB2.out.mono HW1.out.size))).mono ?_
            rintro e w3 ⟨rfl, hb3⟩
            go_wp2_with fail
            go_ret
            exact ⟨rfl, (HW1.out.trans (HB2.out.mono HW1.out.size)).trans (hb3.mono (HW1.out.trans (HB2.out.mono HW1.out.size)).size)⟩
          · have HP2 := Lib.hid (HP1.out true h2)
            rw [h2, Bool.true_and] at hr
            have HR2 := Lib.hid hr
            have hw1 : IntKind.i64.wrap (y + 1) = y + 1 := IntWalk.i64_in _ ⟨by omega, by omega⟩
            clear hr h1 h2 HP1
            go_wp2_with fail
            refine HT1.out.mono ?_
            rintro e w' ⟨rfl, hb2⟩
            have y0 := (hb2.cell (p := ⟨w.heap.size, 0, none⟩) hzw).trans x0
            have y1 := (hb2.cell (p := ⟨w.heap.size, 1, none⟩) hzw).trans x1
            have HB2 := Lib.hid hb2
            clear hb2 x0 x1
            go_wp2_with fail
            refine (HP2.out _ (HW1.out.trans (HB2.out.mono HW1.out.size))).mono ?_
            rintro e w3 ⟨rfl, hb3⟩
            have HB3 := Lib.hid hb3
            clear hb3
            go_wp2_with fail
            go_roundw
            case rel => exact ⟨k + 1, y + 1, by omega, by go_num, rfl, HR2.out, (HB.out.trans (HB2.out.mono HB.out.size)).trans (HB3.out.mono (HB.out.trans (HB2.out.mono HB.out.size)).size)⟩
            case measure => simp [intOf]; omega
    · obtain rfl : xl = k := by omega
      have hRT : R = true := by rw [← hr, HE.out]
      subst hRT
      clear hr hbw
      go_wp2_with fail
      go_ret
      exact ⟨rfl, HW1.out⟩
end Go.Proofs.Ytedfdhpggghjeaa
