/- Package changes: has, madeWith, since. -/
import Derived.Test.YtedfdhpggghjeaaCD
namespace Go.Proofs.Ytedfdhpggghjeaa
set_option linter.unusedVariables false
set_option linter.unusedSimpArgs false
open Go.RowKit Go.Shelf

set_option maxRecDepth 100000 in
set_option maxHeartbeats 4000000 in
theorem has_via (h : CHouse) (ta : Option Addr) (tl tc : Nat) (ma : Option Addr) (ml mc : Nat) (c : Int) (j : Nat) (m s : Int) (HS0 : ∀ W, HAt W ta tl tc ma ml mc h → Calls Try.prog 68 #[.agg #[.slice ta tl tc, .slice ma ml mc], .int .i64 j, .int .i64 c] W fun e w' => e = .returned (.int .i64 s) ∧ Below W.heap.size W w') (w : World) (hp : HAt w ta tl tc ma ml mc h) :
    Calls Try.prog 62 #[.agg #[.slice ta tl tc, .slice ma ml mc], .int .i64 j, .int .i64 c, .int .i64 m] w fun e w' => e = .returned (.bool (decide (s ≤ m))) ∧ Below w.heap.size w w' := by
  have HS := Lib.hid (fun W (hb : Below w.heap.size w W) => HS0 W (hp.below hb))
  clear HS0 hp
  go_enter Try.func62, Try.ntmps62
  go_wp2_with fail
  obtain ⟨W0, hW0, hB0, ⟨g0_0, g0_1⟩, hz0⟩ : ∃ W0, (w.alloc (.cells #[.slice ta tl tc, .slice ma ml mc] 75)) = W0 ∧ Below w.heap.size w W0 ∧ (W0.cell? ⟨w.heap.size, 0, none⟩ = some (.slice ta tl tc) ∧ W0.cell? ⟨w.heap.size, 1, none⟩ = some (.slice ma ml mc)) ∧ W0.heap.size = w.heap.size + 1 :=
    ⟨_, rfl, (by repeat (first | exact Below.refl _ _ | (refine Below.alloc ?_ (by first | omega | (simp; omega) | simp) _) | (refine Below.setCell ?_ (by first | omega | (simp; omega) | simp) _) | refine Below.drew ?_)), ⟨by go_simp, by go_simp⟩, by simp⟩
  rw [hW0]
  clear hW0
  have HBW := Lib.hid hB0
  have q0_0 : w.heap.size < W0.heap.size := by omega
  clear hB0 hz0
  go_wp2_with fail
  refine (HS.out _ (HBW.out.trans (Below.mono (by repeat (first | exact Below.refl _ _ | (refine Below.alloc ?_ (by first | omega | (simp; omega) | simp) _) | (refine Below.setCell ?_ (by first | omega | (simp; omega) | simp) _) | refine Below.drew ?_)) HBW.out.size))).mono ?_
  rintro e v1 ⟨rfl, hb1⟩
  have hB1_0 : Below W0.heap.size W0 v1 := below_via (Lib.hid hb1) (by first | omega | (simp; done) | (simp; omega)) (by repeat (first | exact Below.refl _ _ | (refine Below.alloc ?_ (by first | omega | (simp; omega) | simp) _) | (refine Below.setCell ?_ (by first | omega | (simp; omega) | simp) _) | refine Below.drew ?_))
  have z1 := hb1.size
  (try simp at z1)
  have HB1 := Lib.hid hB1_0
  have y1 := hB1_0.size
  clear hb1 hB1_0 g0_0 g0_1 q0_0
  go_wp2_with fail
  go_ret
  exact ⟨rfl, HBW.out.trans (Below.mono (by repeat (first | exact Below.refl _ _ | with_reducible exact HB1.out | (refine Below.alloc ?_ (by first | omega | (simp; omega) | simp) _) | (refine Below.setCell ?_ (by first | omega | (simp; omega) | simp) _) | refine Below.drew ?_)) HBW.out.size)⟩
set_option maxRecDepth 100000 in
set_option maxHeartbeats 4000000 in
theorem made_via (h : CHouse) (ta : Option Addr) (tl tc : Nat) (ma : Option Addr) (ml mc : Nat) (ho : h.okT = true) (c : Int) (k : Nat) (hk : k < h.things.length) (HS0 : ∀ j : Nat, j < k → ∀ W, HAt W ta tl tc ma ml mc h → Calls Try.prog 68 #[.agg #[.slice ta tl tc, .slice ma ml mc], .int .i64 j, .int .i64 c] W fun e w' => e = .returned (.int .i64 (h.since c j)) ∧ Below W.heap.size W w') (w : World) (hp : HAt w ta tl tc ma ml mc h) :
    Calls Try.prog 87 #[.agg #[.slice ta tl tc, .slice ma ml mc], .int .i64 k, .int .i64 c] w fun e w' => e = .returned (.bool (h.made c h.things[k])) ∧ Below w.heap.size w w' := by
  have htl := hp.1.1
  have hb1 := (CHouse.okT_thing ho hk).1
  obtain ⟨tb, tz, rfl, htB, htcell⟩ := hp.1.2.2 (by omega)
  obtain ⟨d0, d1, d2, d3⟩ := htcell k hk
  have hkt : (k : Int) < (tl : Int) := by omega
  have hk0 : (0 : Int) ≤ (k : Int) := by omega
  have HH := Lib.hid (fun (j : Nat) (hj : j < k) (m : Int) W (hb : Below w.heap.size w W) => has_via h (some ⟨tb, tz, none⟩) tl tc ma ml mc c j m (h.since c j) (HS0 j hj) W (hp.below hb))
  unfold CHouse.made
  clear htcell hp HS0 ho htl
  generalize h.things[k] = x at *
  obtain ⟨xo, xa, xc, xp⟩ := x
  simp only at d0 d1 d2 d3 hb1 ⊢
  by_cases he : xo = -1
  · have hr : (decide (xo ≠ -1) && decide (h.since c xo.toNat ≤ xa)) = false := by simp [he]
    rw [hr]
    subst he
    clear hr hb1 HH
    go_enter Try.func87, Try.ntmps87
    go_wp2_with fail
    obtain ⟨W0, hW0, hB0, ⟨g0_0, g0_1⟩, hz0⟩ : ∃ W0, (w.alloc (.cells #[.slice (some ⟨tb, tz, none⟩) tl tc, .slice ma ml mc] 75)) = W0 ∧ Below w.heap.size w W0 ∧ (W0.cell? ⟨w.heap.size, 0, none⟩ = some (.slice (some ⟨tb, tz, none⟩) tl tc) ∧ W0.cell? ⟨w.heap.size, 1, none⟩ = some (.slice ma ml mc)) ∧ W0.heap.size = w.heap.size + 1 :=
      ⟨_, rfl, (by repeat (first | exact Below.refl _ _ | (refine Below.alloc ?_ (by first | omega | (simp; omega) | simp) _) | (refine Below.setCell ?_ (by first | omega | (simp; omega) | simp) _) | refine Below.drew ?_)), ⟨by go_simp, by go_simp⟩, by simp⟩
    rw [hW0]
    clear hW0
    have HBW := Lib.hid hB0
    have q0_0 : w.heap.size < W0.heap.size := by omega
    clear hB0 hz0
    have g0_2 : W0.cell? ⟨tb, tz + k * 4, none⟩ = some (.int .i64 (-1)) := (HBW.out.cell (p := ⟨tb, _, none⟩) htB).trans d0
    have g0_3 : W0.cell? ⟨tb, tz + k * 4 + 1, none⟩ = some (.int .i64 xa) := (HBW.out.cell (p := ⟨tb, _, none⟩) htB).trans d1
    have g0_4 : W0.cell? ⟨tb, tz + k * 4 + 2, none⟩ = some (.int .i64 xc) := (HBW.out.cell (p := ⟨tb, _, none⟩) htB).trans d2
    have g0_5 : W0.cell? ⟨tb, tz + k * 4 + 3, none⟩ = some (.int .i64 xp) := (HBW.out.cell (p := ⟨tb, _, none⟩) htB).trans d3
    have q0_1 : tb < W0.heap.size := Nat.lt_of_lt_of_le htB HBW.out.size
    go_wp2_with fail
    go_ret
    exact ⟨rfl, HBW.out.trans (Below.mono (by repeat (first | exact Below.refl _ _ | (refine Below.alloc ?_ (by first | omega | (simp; omega) | simp) _) | (refine Below.setCell ?_ (by first | omega | (simp; omega) | simp) _) | refine Below.drew ?_)) HBW.out.size)⟩
  · obtain ⟨j, rfl⟩ : ∃ j : Nat, xo = (j : Int) := ⟨xo.toNat, by omega⟩
    have hr : (decide ((j : Int) ≠ -1) && decide (h.since c (j : Int).toNat ≤ xa)) = decide (h.since c j ≤ xa) := by
      rw [decide_eq_true he, Int.toNat_natCast, Bool.true_and]
    rw [hr]
    have HH1 := Lib.hid (HH.out j (by omega) xa)
    have hn : ((j : Int) != -1) = true := by simp
    clear hr hb1 HH he
    go_enter Try.func87, Try.ntmps87
    go_wp2_with fail
    obtain ⟨W0, hW0, hB0, ⟨g0_0, g0_1⟩, hz0⟩ : ∃ W0, (w.alloc (.cells #[.slice (some ⟨tb, tz, none⟩) tl tc, .slice ma ml mc] 75)) = W0 ∧ Below w.heap.size w W0 ∧ (W0.cell? ⟨w.heap.size, 0, none⟩ = some (.slice (some ⟨tb, tz, none⟩) tl tc) ∧ W0.cell? ⟨w.heap.size, 1, none⟩ = some (.slice ma ml mc)) ∧ W0.heap.size = w.heap.size + 1 :=
      ⟨_, rfl, (by repeat (first | exact Below.refl _ _ | (refine Below.alloc ?_ (by first | omega | (simp; omega) | simp) _) | (refine Below.setCell ?_ (by first | omega | (simp; omega) | simp) _) | refine Below.drew ?_)), ⟨by go_simp, by go_simp⟩, by simp⟩
    rw [hW0]
    clear hW0
    have HBW := Lib.hid hB0
    have q0_0 : w.heap.size < W0.heap.size := by omega
    clear hB0 hz0
    have g0_2 : W0.cell? ⟨tb, tz + k * 4, none⟩ = some (.int .i64 j) := (HBW.out.cell (p := ⟨tb, _, none⟩) htB).trans d0
    have g0_3 : W0.cell? ⟨tb, tz + k * 4 + 1, none⟩ = some (.int .i64 xa) := (HBW.out.cell (p := ⟨tb, _, none⟩) htB).trans d1
    have g0_4 : W0.cell? ⟨tb, tz + k * 4 + 2, none⟩ = some (.int .i64 xc) := (HBW.out.cell (p := ⟨tb, _, none⟩) htB).trans d2
    have g0_5 : W0.cell? ⟨tb, tz + k * 4 + 3, none⟩ = some (.int .i64 xp) := (HBW.out.cell (p := ⟨tb, _, none⟩) htB).trans d3
    have q0_1 : tb < W0.heap.size := Nat.lt_of_lt_of_le htB HBW.out.size
    go_wp2_with fail
    refine (HH1.out _ (HBW.out.trans (Below.mono (by repeat (first | exact Below.refl _ _ | (refine Below.alloc ?_ (by first | omega | (simp; omega) | simp) _) | (refine Below.setCell ?_ (by first | omega | (simp; omega) | simp) _) | refine Below.drew ?_)) HBW.out.size))).mono ?_
    rintro e v1 ⟨rfl, hb1⟩
    have hB1_0 : Below W0.heap.size W0 v1 := below_via (Lib.hid hb1) (by first | omega | (simp; done) | (simp; omega)) (by repeat (first | exact Below.refl _ _ | (refine Below.alloc ?_ (by first | omega | (simp; omega) | simp) _) | (refine Below.setCell ?_ (by first | omega | (simp; omega) | simp) _) | refine Below.drew ?_))
    have z1 := hb1.size
    (try simp at z1)
    have HB1 := Lib.hid hB1_0
    have y1 := hB1_0.size
    clear hb1 hB1_0 g0_0 g0_1 g0_2 g0_3 g0_4 g0_5 q0_0 q0_1
    go_wp2_with fail
    go_ret
    exact ⟨rfl, HBW.out.trans (Below.mono (by repeat (first | exact Below.refl _ _ | with_reducible exact HB1.out | (refine Below.alloc ?_ (by first | omega | (simp; omega) | simp) _) | (refine Below.setCell ?_ (by first | omega | (simp; omega) | simp) _) | refine Below.drew ?_)) HBW.out.size)⟩
set_option maxRecDepth 100000 in
set_option maxHeartbeats 4000000 in
theorem since_any (h : CHouse) (ta : Option Addr) (tl tc : Nat) (ma : Option Addr) (ml mc : Nat) (ho : h.okT = true) (c : Int) (k : Nat) : k < h.things.length → ∀ (w : World), HAt w ta tl tc ma ml mc h →
    Calls Try.prog 68 #[.agg #[.slice ta tl tc, .slice ma ml mc], .int .i64 k, .int .i64 c] w fun e w' => e = .returned (.int .i64 (h.since c k)) ∧ Below w.heap.size w w' := by
  induction k using Nat.strongRecOn with
  | _ k ih =>
  intro hk w hp
  have HM := Lib.hid (fun W (hb : Below w.heap.size w W) => made_via h ta tl tc ma ml mc ho c k hk (fun j hj W hW => ih j hj (by omega) W hW) W (hp.below hb))
  have HF := Lib.hid (fun W (hb : Below w.heap.size w W) => first_any h ta tl tc ma ml mc k c W (hp.below hb))
  have HLT := Lib.hid (fun i => firstTo_lt h k c h.marks.length i)
  have htl := hp.1.1
  have hml := hp.2.1.1
  obtain ⟨tb, tz, rfl, htB, htcell⟩ := hp.1.2.2 (by omega)
  obtain ⟨d0, d1, d2, d3⟩ := htcell k hk
  have hkt : (k : Int) < (tl : Int) := by omega
  have hk0 : (0 : Int) ≤ (k : Int) := by omega
  have HMC := Lib.hid hp.2.1.2.2
  rw [since_eq ho c hk]
  unfold CHouse.firstA
  clear htcell ih ho htl
  have HX := Lib.hid (show ∀ b, h.made c h.things[k] = b → b = b from fun _ _ => rfl)
  rcases hmd : h.made c h.things[k] with - | -
  · rw [hmd] at HM
    rw [if_neg (by simp)]
    clear hmd HX d0 d1 d2 d3
    cases hf : h.first k c with
    | none =>
      rw [hf] at HF
      clear hp hf HLT HMC
      go_enter Try.func68, Try.ntmps68
      go_wp2_with fail
      obtain ⟨W0, hW0, hB0, ⟨g0_0, g0_1⟩, hz0⟩ : ∃ W0, (w.alloc (.cells #[.slice (some ⟨tb, tz, none⟩) tl tc, .slice ma ml mc] 75)) = W0 ∧ Below w.heap.size w W0 ∧ (W0.cell? ⟨w.heap.size, 0, none⟩ = some (.slice (some ⟨tb, tz, none⟩) tl tc) ∧ W0.cell? ⟨w.heap.size, 1, none⟩ = some (.slice ma ml mc)) ∧ W0.heap.size = w.heap.size + 1 :=
        ⟨_, rfl, (by repeat (first | exact Below.refl _ _ | (refine Below.alloc ?_ (by first | omega | (simp; omega) | simp) _) | (refine Below.setCell ?_ (by first | omega | (simp; omega) | simp) _) | refine Below.drew ?_)), ⟨by go_simp, by go_simp⟩, by simp⟩
      rw [hW0]
      clear hW0
      have HBW := Lib.hid hB0
      have q0_0 : w.heap.size < W0.heap.size := by omega
      clear hB0 hz0
      go_wp2_with fail
      refine (HM.out _ (HBW.out.trans (Below.mono (by repeat (first | exact Below.refl _ _ | (refine Below.alloc ?_ (by first | omega | (simp; omega) | simp) _) | (refine Below.setCell ?_ (by first | omega | (simp; omega) | simp) _) | refine Below.drew ?_)) HBW.out.size))).mono ?_
      rintro e v1 ⟨rfl, hb1⟩
      have hB1_0 : Below W0.heap.size W0 v1 := below_via (Lib.hid hb1) (by first | omega | (simp; done) | (simp; omega)) (by repeat (first | exact Below.refl _ _ | (refine Below.alloc ?_ (by first | omega | (simp; omega) | simp) _) | (refine Below.setCell ?_ (by first | omega | (simp; omega) | simp) _) | refine Below.drew ?_))
      have z1 := hb1.size
      (try simp at z1)
      obtain ⟨g1_0, g1_1⟩ : v1.cell? ⟨w.heap.size, 0, none⟩ = some (.slice (some ⟨tb, tz, none⟩) tl tc) ∧ v1.cell? ⟨w.heap.size, 1, none⟩ = some (.slice ma ml mc) :=
        ⟨(hb1.cell (p := ⟨w.heap.size, 0, none⟩) (by first | omega | (simp; done) | (simp; omega))).trans (by first | (go_simp; done) | (go_simp; exact set_same (u := .int .i64 0) (by go_simp; done))), (hb1.cell (p := ⟨w.heap.size, 1, none⟩) (by first | omega | (simp; done) | (simp; omega))).trans (by first | (go_simp; done) | (go_simp; exact set_same (u := .int .i64 0) (by go_simp; done)))⟩
      have q1_0 : w.heap.size < v1.heap.size := by first | omega | (simp at *; omega)
      have HB1 := Lib.hid hB1_0
      have y1 := hB1_0.size
      clear hb1 hB1_0 g0_0 g0_1 q0_0
      go_wp2_with fail
      refine (HF.out _ (HBW.out.trans (Below.mono (by repeat (first | exact Below.refl _ _ | with_reducible exact HB1.out | (refine Below.alloc ?_ (by first | omega | (simp; omega) | simp) _) | (refine Below.setCell ?_ (by first | omega | (simp; omega) | simp) _) | refine Below.drew ?_)) HBW.out.size))).mono ?_
      rintro e v2 ⟨rfl, hb2⟩
      have hB2_0 : Below W0.heap.size W0 v2 := below_via (Lib.hid hb2) (by first | omega | (simp; done) | (simp; omega)) (by repeat (first | exact Below.refl _ _ | with_reducible exact HB1.out | (refine Below.alloc ?_ (by first | omega | (simp; omega) | simp) _) | (refine Below.setCell ?_ (by first | omega | (simp; omega) | simp) _) | refine Below.drew ?_))
      have z2 := hb2.size
      (try simp at z2)
      have HB2 := Lib.hid hB2_0
      have y2 := hB2_0.size
      clear hb2 hB2_0 g1_0 g1_1 q1_0
      go_wp2_with fail
      go_ret
      exact ⟨rfl, HBW.out.trans (Below.mono (by repeat (first | exact Below.refl _ _ | with_reducible exact HB2.out | (refine Below.alloc ?_ (by first | omega | (simp; omega) | simp) _) | (refine Below.setCell ?_ (by first | omega | (simp; omega) | simp) _) | refine Below.drew ?_)) HBW.out.size)⟩
    | some i =>
      obtain ⟨-, hi, -⟩ := HLT.out i hf
      rw [hf] at HF
      obtain ⟨mb, mo, rfl, hmB, hmcell⟩ := HMC.out (by omega)
      obtain ⟨-, -, e2⟩ := hmcell i hi
      simp only [List.getElem?_eq_getElem hi, Option.map_some, Option.getD_some]
      have hil : (i : Int) < (ml : Int) := by omega
      have hi0 : (0 : Int) ≤ (i : Int) := by omega
      simp only [fstZ] at HF
      clear hp hf HLT HMC hmcell
      generalize h.marks[i].a = ia at *
      go_enter Try.func68, Try.ntmps68
      go_wp2_with fail
      obtain ⟨W0, hW0, hB0, ⟨g0_0, g0_1⟩, hz0⟩ : ∃ W0, (w.alloc (.cells #[.slice (some ⟨tb, tz, none⟩) tl tc, .slice (some ⟨mb, mo, none⟩) ml mc] 75)) = W0 ∧ Below w.heap.size w W0 ∧ (W0.cell? ⟨w.heap.size, 0, none⟩ = some (.slice (some ⟨tb, tz, none⟩) tl tc) ∧ W0.cell? ⟨w.heap.size, 1, none⟩ = some (.slice (some ⟨mb, mo, none⟩) ml mc)) ∧ W0.heap.size = w.heap.size + 1 :=
        ⟨_, rfl, (by repeat (first | exact Below.refl _ _ | (refine Below.alloc ?_ (by first | omega | (simp; omega) | simp) _) | (refine Below.setCell ?_ (by first | omega | (simp; omega) | simp) _) | refine Below.drew ?_)), ⟨by go_simp, by go_simp⟩, by simp⟩
      rw [hW0]
      clear hW0
      have HBW := Lib.hid hB0
      have q0_0 : w.heap.size < W0.heap.size := by omega
      clear hB0 hz0
      have g0_2 : W0.cell? ⟨mb, mo + i * 3 + 2, none⟩ = some (.int .i64 ia) := (HBW.out.cell (p := ⟨mb, _, none⟩) hmB).trans e2
      have q0_1 : mb < W0.heap.size := Nat.lt_of_lt_of_le hmB HBW.out.size
      go_wp2_with fail
      refine (HM.out _ (HBW.out.trans (Below.mono (by repeat (first | exact Below.refl _ _ | (refine Below.alloc ?_ (by first | omega | (simp; omega) | simp) _) | (refine Below.setCell ?_ (by first | omega | (simp; omega) | simp) _) | refine Below.drew ?_)) HBW.out.size))).mono ?_
      rintro e v1 ⟨rfl, hb1⟩
      have hB1_0 : Below W0.heap.size W0 v1 := below_via (Lib.hid hb1) (by first | omega | (simp; done) | (simp; omega)) (by repeat (first | exact Below.refl _ _ | (refine Below.alloc ?_ (by first | omega | (simp; omega) | simp) _) | (refine Below.setCell ?_ (by first | omega | (simp; omega) | simp) _) | refine Below.drew ?_))
      have z1 := hb1.size
      (try simp at z1)
      obtain ⟨g1_0, g1_1, g1_2⟩ : v1.cell? ⟨w.heap.size, 0, none⟩ = some (.slice (some ⟨tb, tz, none⟩) tl tc) ∧ v1.cell? ⟨w.heap.size, 1, none⟩ = some (.slice (some ⟨mb, mo, none⟩) ml mc) ∧ v1.cell? ⟨mb, mo + i * 3 + 2, none⟩ = some (.int .i64 ia) :=
        ⟨(hb1.cell (p := ⟨w.heap.size, 0, none⟩) (by first | omega | (simp; done) | (simp; omega))).trans (by first | (go_simp; done) | (go_simp; exact set_same (u := .int .i64 0) (by go_simp; done))), (hb1.cell (p := ⟨w.heap.size, 1, none⟩) (by first | omega | (simp; done) | (simp; omega))).trans (by first | (go_simp; done) | (go_simp; exact set_same (u := .int .i64 0) (by go_simp; done))), (hb1.cell (p := ⟨mb, mo + i * 3 + 2, none⟩) (by first | omega | (simp; done) | (simp; omega))).trans (by first | (go_simp; done) | (go_simp; exact set_same (u := .int .i64 0) (by go_simp; done)))⟩
      have q1_0 : w.heap.size < v1.heap.size := by first | omega | (simp at *; omega)
      have q1_1 : mb < v1.heap.size := by first | omega | (simp at *; omega)
      have HB1 := Lib.hid hB1_0
      have y1 := hB1_0.size
      clear hb1 hB1_0 g0_0 g0_1 g0_2 q0_0 q0_1
      go_wp2_with fail
      refine (HF.out _ (HBW.out.trans (Below.mono (by repeat (first | exact Below.refl _ _ | with_reducible exact HB1.out | (refine Below.alloc ?_ (by first | omega | (simp; omega) | simp) _) | (refine Below.setCell ?_ (by first | omega | (simp; omega) | simp) _) | refine Below.drew ?_)) HBW.out.size))).mono ?_
      rintro e v2 ⟨rfl, hb2⟩
      have hB2_0 : Below W0.heap.size W0 v2 := below_via (Lib.hid hb2) (by first | omega | (simp; done) | (simp; omega)) (by repeat (first | exact Below.refl _ _ | with_reducible exact HB1.out | (refine Below.alloc ?_ (by first | omega | (simp; omega) | simp) _) | (refine Below.setCell ?_ (by first | omega | (simp; omega) | simp) _) | refine Below.drew ?_))
      have z2 := hb2.size
      (try simp at z2)
      obtain ⟨g2_0, g2_1, g2_2⟩ : v2.cell? ⟨w.heap.size, 0, none⟩ = some (.slice (some ⟨tb, tz, none⟩) tl tc) ∧ v2.cell? ⟨w.heap.size, 1, none⟩ = some (.slice (some ⟨mb, mo, none⟩) ml mc) ∧ v2.cell? ⟨mb, mo + i * 3 + 2, none⟩ = some (.int .i64 ia) :=
        ⟨(hb2.cell (p := ⟨w.heap.size, 0, none⟩) (by first | omega | (simp; done) | (simp; omega))).trans (by first | (go_simp; done) | (go_simp; exact set_same (u := .int .i64 0) (by go_simp; done))), (hb2.cell (p := ⟨w.heap.size, 1, none⟩) (by first | omega | (simp; done) | (simp; omega))).trans (by first | (go_simp; done) | (go_simp; exact set_same (u := .int .i64 0) (by go_simp; done))), (hb2.cell (p := ⟨mb, mo + i * 3 + 2, none⟩) (by first | omega | (simp; done) | (simp; omega))).trans (by first | (go_simp; done) | (go_simp; exact set_same (u := .int .i64 0) (by go_simp; done)))⟩
      have q2_0 : w.heap.size < v2.heap.size := by first | omega | (simp at *; omega)
      have q2_1 : mb < v2.heap.size := by first | omega | (simp at *; omega)
      have HB2 := Lib.hid hB2_0
      have y2 := hB2_0.size
      clear hb2 hB2_0 g1_0 g1_1 g1_2 q1_0 q1_1
      go_wp2_with fail
      go_ret
      exact ⟨rfl, HBW.out.trans (Below.mono (by repeat (first | exact Below.refl _ _ | with_reducible exact HB2.out | (refine Below.alloc ?_ (by first | omega | (simp; omega) | simp) _) | (refine Below.setCell ?_ (by first | omega | (simp; omega) | simp) _) | refine Below.drew ?_)) HBW.out.size)⟩
  · rw [hmd] at HM
    rw [if_pos rfl]
    clear hmd HX HF HLT HMC hp
    generalize h.things[k] = x at *
    obtain ⟨xo, xa, xc, xp⟩ := x
    simp only at d0 d1 d2 d3 ⊢
    go_enter Try.func68, Try.ntmps68
    go_wp2_with fail
    obtain ⟨W0, hW0, hB0, ⟨g0_0, g0_1⟩, hz0⟩ : ∃ W0, (w.alloc (.cells #[.slice (some ⟨tb, tz, none⟩) tl tc, .slice ma ml mc] 75)) = W0 ∧ Below w.heap.size w W0 ∧ (W0.cell? ⟨w.heap.size, 0, none⟩ = some (.slice (some ⟨tb, tz, none⟩) tl tc) ∧ W0.cell? ⟨w.heap.size, 1, none⟩ = some (.slice ma ml mc)) ∧ W0.heap.size = w.heap.size + 1 :=
      ⟨_, rfl, (by repeat (first | exact Below.refl _ _ | (refine Below.alloc ?_ (by first | omega | (simp; omega) | simp) _) | (refine Below.setCell ?_ (by first | omega | (simp; omega) | simp) _) | refine Below.drew ?_)), ⟨by go_simp, by go_simp⟩, by simp⟩
    rw [hW0]
    clear hW0
    have HBW := Lib.hid hB0
    have q0_0 : w.heap.size < W0.heap.size := by omega
    clear hB0 hz0
    have g0_2 : W0.cell? ⟨tb, tz + k * 4, none⟩ = some (.int .i64 xo) := (HBW.out.cell (p := ⟨tb, _, none⟩) htB).trans d0
    have g0_3 : W0.cell? ⟨tb, tz + k * 4 + 1, none⟩ = some (.int .i64 xa) := (HBW.out.cell (p := ⟨tb, _, none⟩) htB).trans d1
    have g0_4 : W0.cell? ⟨tb, tz + k * 4 + 2, none⟩ = some (.int .i64 xc) := (HBW.out.cell (p := ⟨tb, _, none⟩) htB).trans d2
    have g0_5 : W0.cell? ⟨tb, tz + k * 4 + 3, none⟩ = some (.int .i64 xp) := (HBW.out.cell (p := ⟨tb, _, none⟩) htB).trans d3
    have q0_1 : tb < W0.heap.size := Nat.lt_of_lt_of_le htB HBW.out.size
    go_wp2_with fail
    refine (HM.out _ (HBW.out.trans (Below.mono (by repeat (first | exact Below.refl _ _ | (refine Below.alloc ?_ (by first | omega | (simp; omega) | simp) _) | (refine Below.setCell ?_ (by first | omega | (simp; omega) | simp) _) | refine Below.drew ?_)) HBW.out.size))).mono ?_
    rintro e v1 ⟨rfl, hb1⟩
    have hB1_0 : Below W0.heap.size W0 v1 := below_via (Lib.hid hb1) (by first | omega | (simp; done) | (simp; omega)) (by repeat (first | exact Below.refl _ _ | (refine Below.alloc ?_ (by first | omega | (simp; omega) | simp) _) | (refine Below.setCell ?_ (by first | omega | (simp; omega) | simp) _) | refine Below.drew ?_))
    have z1 := hb1.size
    (try simp at z1)
    obtain ⟨g1_0, g1_1, g1_2, g1_3, g1_4, g1_5⟩ : v1.cell? ⟨w.heap.size, 0, none⟩ = some (.slice (some ⟨tb, tz, none⟩) tl tc) ∧ v1.cell? ⟨w.heap.size, 1, none⟩ = some (.slice ma ml mc) ∧ v1.cell? ⟨tb, tz + k * 4, none⟩ = some (.int .i64 xo) ∧ v1.cell? ⟨tb, tz + k * 4 + 1, none⟩ = some (.int .i64 xa) ∧ v1.cell? ⟨tb, tz + k * 4 + 2, none⟩ = some (.int .i64 xc) ∧ v1.cell? ⟨tb, tz + k * 4 + 3, none⟩ = some (.int .i64 xp) :=
      ⟨(hb1.cell (p := ⟨w.heap.size, 0, none⟩) (by first | omega | (simp; done) | (simp; omega))).trans (by first | (go_simp; done) | (go_simp; exact set_same (u := .int .i64 0) (by go_simp; done))), (hb1.cell (p := ⟨w.heap.size, 1, none⟩) (by first | omega | (simp; done) | (simp; omega))).trans (by first | (go_simp; done) | (go_simp; exact set_same (u := .int .i64 0) (by go_simp; done))), (hb1.cell (p := ⟨tb, tz + k * 4, none⟩) (by first | omega | (simp; done) | (simp; omega))).trans (by first | (go_simp; done) | (go_simp; exact set_same (u := .int .i64 0) (by go_simp; done))), (hb1.cell (p := ⟨tb, tz + k * 4 + 1, none⟩) (by first | omega | (simp; done) | (simp; omega))).trans (by first | (go_simp; done) | (go_simp; exact set_same (u := .int .i64 0) (by go_simp; done))), (hb1.cell (p := ⟨tb, tz + k * 4 + 2, none⟩) (by first | omega | (simp; done) | (simp; omega))).trans (by first | (go_simp; done) | (go_simp; exact set_same (u := .int .i64 0) (by go_simp; done))), (hb1.cell (p := ⟨tb, tz + k * 4 + 3, none⟩) (by first | omega | (simp; done) | (simp; omega))).trans (by first | (go_simp; done) | (go_simp; exact set_same (u := .int .i64 0) (by go_simp; done)))⟩
    have q1_0 : w.heap.size < v1.heap.size := by first | omega | (simp at *; omega)
    have q1_1 : tb < v1.heap.size := by first | omega | (simp at *; omega)
    have HB1 := Lib.hid hB1_0
    have y1 := hB1_0.size
    clear hb1 hB1_0 g0_0 g0_1 g0_2 g0_3 g0_4 g0_5 q0_0 q0_1
    go_wp2_with fail
    go_ret
    exact ⟨rfl, HBW.out.trans (Below.mono (by repeat (first | exact Below.refl _ _ | with_reducible exact HB1.out | (refine Below.alloc ?_ (by first | omega | (simp; omega) | simp) _) | (refine Below.setCell ?_ (by first | omega | (simp; omega) | simp) _) | refine Below.drew ?_)) HBW.out.size)⟩
/-- Whether a thing has a change. -/
theorem has_any (h : CHouse) (ta : Option Addr) (tl tc : Nat) (ma : Option Addr) (ml mc : Nat) (ho : h.okT = true) (c : Int) (k : Nat) (m : Int) (hk : k < h.things.length) (w : World) (hp : HAt w ta tl tc ma ml mc h) :
    Calls Try.prog 62 #[.agg #[.slice ta tl tc, .slice ma ml mc], .int .i64 k, .int .i64 c, .int .i64 m] w fun e w' => e = .returned (.bool (h.hasB c k m)) ∧ Below w.heap.size w w' :=
  has_via h ta tl tc ma ml mc c k m (h.since c k) (fun W hW => since_any h ta tl tc ma ml mc ho c k hk W hW) w hp
end Go.Proofs.Ytedfdhpggghjeaa
