/- Package changes: printsAt, plates, having. -/
import Derived.Test.YtedfdhpggghjeaaCJ
namespace Go.Proofs.Ytedfdhpggghjeaa
set_option linter.unusedVariables false
set_option linter.unusedSimpArgs false
open Go.RowKit Go.Shelf

set_option maxRecDepth 100000 in
set_option maxHeartbeats 8000000 in
theorem printsAt_any (h : CHouse) (ta : Option Addr) (tl tc : Nat) (ma : Option Addr) (ml mc : Nat) (k : Nat) (m : Int) (hk : k < h.things.length) (w : World) (hp : HAt w ta tl tc ma ml mc h) :
    Calls Try.prog 92 #[.agg #[.slice ta tl tc, .slice ma ml mc], .int .i64 k, .int .i64 m] w fun e w' => e = .returned (.bool (h.printB m k)) ∧ Below w.heap.size w w' := by
  have htl := hp.1.1
  obtain ⟨tb, tz, rfl, htB, htcell⟩ := hp.1.2.2 (by omega)
  obtain ⟨d0, d1, d2, d3⟩ := htcell k hk
  have hkt : (k : Int) < (tl : Int) := by omega
  have hk0 : (0 : Int) ≤ (k : Int) := by omega
  unfold CHouse.printB
  rw [List.getElem?_eq_getElem hk]
  simp only
  clear htcell hp htl
  generalize h.things[k] = x at *
  obtain ⟨xo, xa, xc, xp⟩ := x
  simp only at d0 d1 d2 d3 ⊢
  by_cases h1 : xp = 1
  · have he : (xp == 1) = true := by simp [h1]
    subst h1
    go_enter Try.func92, Try.ntmps92
    go_wp2_with fail
    go_ret
    exact ⟨ret_bool (by simp), (by repeat (first | exact Below.refl _ _ | (refine Below.alloc ?_ (by first | omega | (simp; omega) | simp) _) | (refine Below.setCell ?_ (by first | omega | (simp; omega) | simp) _) | refine Below.drew ?_))⟩
  · have he : (xp == 1) = false := by simpa using h1
    go_enter Try.func92, Try.ntmps92
    go_wp2_with fail
    go_ret
    exact ⟨ret_bool (by simp [h1]), (by repeat (first | exact Below.refl _ _ | (refine Below.alloc ?_ (by first | omega | (simp; omega) | simp) _) | (refine Below.setCell ?_ (by first | omega | (simp; omega) | simp) _) | refine Below.drew ?_))⟩
/-- A row of numbers that a call has made. -/
def RowPost (w : World) (e : Ending) (w' : World) (xs : List Int) : Prop := (∃ v, e = .returned v ∧ w'.ownsRow w.heap.size 3 1 v xs.length (xs.map (Value.int .i64))) ∧ Below w.heap.size w w'
theorem RowPost.ints {w w' : World} {e : Ending} {xs : List Int} (h : RowPost w e w' xs) : (∃ a c, e = .returned (.slice a xs.length c) ∧ IntsAt w' a xs.length xs) ∧ Below w.heap.size w w' := by
  obtain ⟨⟨v, rfl, ho⟩, hb⟩ := h
  obtain ⟨a, c, rfl, hi⟩ := own_ints ho rfl
  exact ⟨⟨a, c, rfl, hi⟩, hb⟩

set_option maxRecDepth 100000 in
set_option maxHeartbeats 8000000 in
theorem plates_row (h : CHouse) (ta : Option Addr) (tl tc : Nat) (ma : Option Addr) (ml mc : Nat) (h8 : h.things.length ≤ 8) (m : Int) (w : World) (hp : HAt w ta tl tc ma ml mc h) :
    Calls Try.prog 90 #[.agg #[.slice ta tl tc, .slice ma ml mc], .int .i64 m] w fun e w' => RowPost w e w' (h.plates m) := by
  have htl := hp.1.1
  have htm := hp.1.2.1
  unfold maxLen at htm
  have HPR0 := fun k (hk : k < h.things.length) b (hb : (h.printB m) k = b) W (hw : Below w.heap.size w W) => show Calls Try.prog 92 #[.agg #[.slice ta tl tc, .slice ma ml mc], .int .i64 k, .int .i64 m] W fun e w' => e = .returned (.bool b) ∧ Below W.heap.size W w' from hb ▸ printsAt_any h ta tl tc ma ml mc k m hk W (hp.below hw)
  unfold CHouse.plates
  obtain ⟨p, hpe⟩ : ∃ p : Nat → Bool, p = (h.printB m) := ⟨_, rfl⟩
  have HPR := Lib.hid (fun k (hk : k < h.things.length) b (hb : p k = b) W (hw : Below w.heap.size w W) => HPR0 k hk b (by rw [← hb, hpe]) W hw)
  rw [← hpe]
  have HN := Lib.hid (fun k => numsTo_next p k)
  have HLN := Lib.hid (fun k => numsTo_len p k)
  clear hpe HPR0
  have HTL := Lib.hid htl
  rw [htl]
  unfold RowPost
  have htl8 : tl ≤ 8 := by omega
  clear hp htl
  go_enter Try.func90, Try.ntmps90
  go_wp2_with fail
  obtain ⟨W0, hW0, hB0, ⟨g0_0, g0_1⟩, hz0⟩ : ∃ W0, (w.alloc (.cells #[.slice ta tl tc, .slice ma ml mc] 75)) = W0 ∧ Below w.heap.size w W0 ∧ (W0.cell? ⟨w.heap.size, 0, none⟩ = some (.slice ta tl tc) ∧ W0.cell? ⟨w.heap.size, 1, none⟩ = some (.slice ma ml mc)) ∧ W0.heap.size = w.heap.size + 1 :=
    ⟨_, rfl, (by repeat (first | exact Below.refl _ _ | (refine Below.alloc ?_ (by first | omega | (simp; omega) | simp) _) | (refine Below.setCell ?_ (by first | omega | (simp; omega) | simp) _) | refine Below.drew ?_)), ⟨by go_simp, by go_simp⟩, by simp⟩
  rw [hW0]
  clear hW0
  have HBW := Lib.hid hB0
  have q0_0 : w.heap.size < W0.heap.size := by omega
  clear hB0 hz0
  go_loopw [5, 11] (fun v i wr => ∃ k : Nat, k ≤ tl ∧ i = .int .i64 k ∧ wr.ownsRow W0.heap.size 3 1 v (numsTo p k).length ((numsTo p k).map (Value.int .i64)) ∧ Below W0.heap.size W0 wr) (fun _ i _ => tl - (intOf i).toNat)
  case atStart => exact ⟨0, by omega, rfl, ⟨rfl, .inl ⟨rfl, rfl⟩⟩, Below.refl _ _⟩
  case round =>
    obtain ⟨k, hk, rfl, hO, hB⟩ := hrel
    obtain ⟨o5, rfl⟩ : ∃ o5 : Value, o5 = u5 := ⟨_, rfl⟩
    obtain ⟨W1, rfl⟩ : ∃ W1 : World, W1 = wr := ⟨_, rfl⟩
    have HB := Lib.hid hB
    have HO := Lib.hid hO
    have x0 := (hB.cell (p := ⟨w.heap.size, 0, none⟩) q0_0).trans g0_0
    have x1 := (hB.cell (p := ⟨w.heap.size, 1, none⟩) q0_0).trans g0_1
    have hz1 := hB.size
    have hbw := HBW.out.trans (hB.mono HBW.out.size)
    have HW1 := Lib.hid hbw
    clear hO hB hbw
    by_cases hlt : k < tl
    · have hk2 : k < h.things.length := by rw [HTL.out]; exact hlt
      have hkl : (k : Int) < (tl : Int) := by omega
      have hk0 : (0 : Int) ≤ (k : Int) := by omega
      have hln := HLN.out k
      have hN := HN.out k
      rcases hv : p k with - | -
      · have HC := Lib.hid (HPR.out k hk2 false hv W1 HW1.out)
        rw [hv, if_neg (by simp)] at hN
        have HNK := Lib.hid hN
        clear hv hN
        go_wp2_with fail
        refine HC.out.mono ?_
        rintro e w' ⟨rfl, hb2⟩
        have HB2 := Lib.hid hb2
        go_wp2_with fail
        go_roundw
        case rel =>
          refine ⟨k + 1, by omega, by go_num, ?_, HB.out.trans (HB2.out.mono HB.out.size)⟩
          rw [HNK.out]
          exact HO.out.kept (grown_none HB2.out) (Classical.em _)
        case measure => simp [intOf]; omega
      · have HC := Lib.hid (HPR.out k hk2 true hv W1 HW1.out)
        rw [hv, if_pos rfl] at hN
        have HNK := Lib.hid hN
        clear hv hN
        generalize numsTo p k = xs at *
        have hk1000 : xs.length ≤ 1000 := by omega
        go_wp2_with fail
        refine HC.out.mono ?_
        rintro e w2 ⟨rfl, hb2⟩
        have HB2 := Lib.hid hb2
        have HO2 := Lib.hid (HO.out.kept (grown_none hb2) (Classical.em _))
        have hz2 := hb2.size
        clear hb2
        go_wp2_with (at_builtin; go_must (refine wpList_append_int _ W0.heap.size xs.length o5 (xs.map (Value.int .i64)) (k : Int) rfl _ _ rfl rfl ⟨_, rfl, ?_⟩ ?_ hk1000 ?_ ?_); go_must (focus (simp; done)); go_must (· exact HO2.out.kept (grown_none (by repeat (first | exact Below.refl _ _ | (refine Below.alloc ?_ (by first | omega | (simp; omega) | simp) _) | (refine Below.setCell ?_ (by first | omega | (simp; omega) | simp) _) | refine Below.drew ?_))) (Classical.em _)); go_must (focus (first | omega | (simp; omega))); intro v2 wF hoF hgF hnF; have HOF := Lib.hid hoF; have HGF := Lib.hid (gb_up2 (W := w2) (by repeat (first | exact Below.refl _ _ | (refine Below.alloc ?_ (by first | omega | (simp; omega) | simp) _) | (refine Below.setCell ?_ (by first | omega | (simp; omega) | simp) _) | refine Below.drew ?_)) hgF); clear hoF hgF hnF)
        go_roundw
        case rel =>
          refine ⟨k + 1, by omega, by go_num, ?_, (HB.out.trans (HB2.out.mono HB.out.size)).trans (grown_low HGF.out (by omega) (fun r e => own_low HO2.out r e))⟩
          rw [HNK.out, List.map_append, List.length_append]
          exact HOF.out
        case measure => simp [intOf]; omega
    · obtain rfl : tl = k := by omega
      go_wp2_with fail
      go_ret
      exact ⟨⟨_, rfl, own_base2 HO.out HBW.out.size⟩, HW1.out⟩
set_option maxRecDepth 100000 in
set_option maxHeartbeats 8000000 in
theorem having_row (h : CHouse) (ta : Option Addr) (tl tc : Nat) (ma : Option Addr) (ml mc : Nat) (ho : h.okT = true) (h8 : h.things.length ≤ 8) (c : Int) (w : World) (hp : HAt w ta tl tc ma ml mc h) :
    Calls Try.prog 72 #[.agg #[.slice ta tl tc, .slice ma ml mc], .int .i64 c] w fun e w' => RowPost w e w' (h.having c) := by
  have htl := hp.1.1
  have htm := hp.1.2.1
  unfold maxLen at htm
  have HPR0 := fun k (hk : k < h.things.length) b (hb : (fun k => h.hasB c k 99) k = b) W (hw : Below w.heap.size w W) => show Calls Try.prog 62 #[.agg #[.slice ta tl tc, .slice ma ml mc], .int .i64 k, .int .i64 c, .int .i64 99] W fun e w' => e = .returned (.bool b) ∧ Below W.heap.size W w' from hb ▸ has_any h ta tl tc ma ml mc ho c k 99 hk W (hp.below hw)
  unfold CHouse.having
  obtain ⟨p, hpe⟩ : ∃ p : Nat → Bool, p = (fun k => h.hasB c k 99) := ⟨_, rfl⟩
  have HPR := Lib.hid (fun k (hk : k < h.things.length) b (hb : p k = b) W (hw : Below w.heap.size w W) => HPR0 k hk b (by rw [← hb, hpe]) W hw)
  rw [← hpe]
  have HN := Lib.hid (fun k => numsTo_next p k)
  have HLN := Lib.hid (fun k => numsTo_len p k)
  clear hpe HPR0
  have HTL := Lib.hid htl
  rw [htl]
  unfold RowPost
  have htl8 : tl ≤ 8 := by omega
  clear hp htl
  go_enter Try.func72, Try.ntmps72
  go_wp2_with fail
  obtain ⟨W0, hW0, hB0, ⟨g0_0, g0_1⟩, hz0⟩ : ∃ W0, (w.alloc (.cells #[.slice ta tl tc, .slice ma ml mc] 75)) = W0 ∧ Below w.heap.size w W0 ∧ (W0.cell? ⟨w.heap.size, 0, none⟩ = some (.slice ta tl tc) ∧ W0.cell? ⟨w.heap.size, 1, none⟩ = some (.slice ma ml mc)) ∧ W0.heap.size = w.heap.size + 1 :=
    ⟨_, rfl, (by repeat (first | exact Below.refl _ _ | (refine Below.alloc ?_ (by first | omega | (simp; omega) | simp) _) | (refine Below.setCell ?_ (by first | omega | (simp; omega) | simp) _) | refine Below.drew ?_)), ⟨by go_simp, by go_simp⟩, by simp⟩
  rw [hW0]
  clear hW0
  have HBW := Lib.hid hB0
  have q0_0 : w.heap.size < W0.heap.size := by omega
  clear hB0 hz0
  go_loopw [5, 11] (fun v i wr => ∃ k : Nat, k ≤ tl ∧ i = .int .i64 k ∧ wr.ownsRow W0.heap.size 3 1 v (numsTo p k).length ((numsTo p k).map (Value.int .i64)) ∧ Below W0.heap.size W0 wr) (fun _ i _ => tl - (intOf i).toNat)
  case atStart => exact ⟨0, by omega, rfl, ⟨rfl, .inl ⟨rfl, rfl⟩⟩, Below.refl _ _⟩
  case round =>
    obtain ⟨k, hk, rfl, hO, hB⟩ := hrel
    obtain ⟨o5, rfl⟩ : ∃ o5 : Value, o5 = u5 := ⟨_, rfl⟩
    obtain ⟨W1, rfl⟩ : ∃ W1 : World, W1 = wr := ⟨_, rfl⟩
    have HB := Lib.hid hB
    have HO := Lib.hid hO
    have x0 := (hB.cell (p := ⟨w.heap.size, 0, none⟩) q0_0).trans g0_0
    have x1 := (hB.cell (p := ⟨w.heap.size, 1, none⟩) q0_0).trans g0_1
    have hz1 := hB.size
    have hbw := HBW.out.trans (hB.mono HBW.out.size)
    have HW1 := Lib.hid hbw
    clear hO hB hbw
    by_cases hlt : k < tl
    · have hk2 : k < h.things.length := by rw [HTL.out]; exact hlt
      have hkl : (k : Int) < (tl : Int) := by omega
      have hk0 : (0 : Int) ≤ (k : Int) := by omega
      have hln := HLN.out k
      have hN := HN.out k
      rcases hv : p k with - | -
      · have HC := Lib.hid (HPR.out k hk2 false hv W1 HW1.out)
        rw [hv, if_neg (by simp)] at hN
        have HNK := Lib.hid hN
        clear hv hN
        go_wp2_with fail
        refine HC.out.mono ?_
        rintro e w' ⟨rfl, hb2⟩
        have HB2 := Lib.hid hb2
        go_wp2_with fail
        go_roundw
        case rel =>
          refine ⟨k + 1, by omega, by go_num, ?_, HB.out.trans (HB2.out.mono HB.out.size)⟩
          rw [HNK.out]
          exact HO.out.kept (grown_none HB2.out) (Classical.em _)
        case measure => simp [intOf]; omega
      · have HC := Lib.hid (HPR.out k hk2 true hv W1 HW1.out)
        rw [hv, if_pos rfl] at hN
        have HNK := Lib.hid hN
        clear hv hN
        generalize numsTo p k = xs at *
        have hk1000 : xs.length ≤ 1000 := by omega
        go_wp2_with fail
        refine HC.out.mono ?_
        rintro e w2 ⟨rfl, hb2⟩
        have HB2 := Lib.hid hb2
        have HO2 := Lib.hid (HO.out.kept (grown_none hb2) (Classical.em _))
        have hz2 := hb2.size
        clear hb2
        go_wp2_with (at_builtin; go_must (refine wpList_append_int _ W0.heap.size xs.length o5 (xs.map (Value.int .i64)) (k : Int) rfl _ _ rfl rfl ⟨_, rfl, ?_⟩ ?_ hk1000 ?_ ?_); go_must (focus (simp; done)); go_must (· exact HO2.out.kept (grown_none (by repeat (first | exact Below.refl _ _ | (refine Below.alloc ?_ (by first | omega | (simp; omega) | simp) _) | (refine Below.setCell ?_ (by first | omega | (simp; omega) | simp) _) | refine Below.drew ?_))) (Classical.em _)); go_must (focus (first | omega | (simp; omega))); intro v2 wF hoF hgF hnF; have HOF := Lib.hid hoF; have HGF := Lib.hid (gb_up2 (W := w2) (by repeat (first | exact Below.refl _ _ | (refine Below.alloc ?_ (by first | omega | (simp; omega) | simp) _) | (refine Below.setCell ?_ (by first | omega | (simp; omega) | simp) _) | refine Below.drew ?_)) hgF); clear hoF hgF hnF)
        go_roundw
        case rel =>
          refine ⟨k + 1, by omega, by go_num, ?_, (HB.out.trans (HB2.out.mono HB.out.size)).trans (grown_low HGF.out (by omega) (fun r e => own_low HO2.out r e))⟩
          rw [HNK.out, List.map_append, List.length_append]
          exact HOF.out
        case measure => simp [intOf]; omega
    · obtain rfl : tl = k := by omega
      go_wp2_with fail
      go_ret
      exact ⟨⟨_, rfl, own_base2 HO.out HBW.out.size⟩, HW1.out⟩
end Go.Proofs.Ytedfdhpggghjeaa
