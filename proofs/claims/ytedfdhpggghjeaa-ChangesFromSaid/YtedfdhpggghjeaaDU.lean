/- Package changes: source, Source. -/
import Derived.Test.YtedfdhpggghjeaaCS
import Derived.Test.YtedfdhpggghjeaaDA
namespace Go.Proofs.Ytedfdhpggghjeaa
set_option linter.unusedVariables false
set_option linter.unusedSimpArgs false
open Go.RowKit Go.Shelf

/-- The mark by which a thing has a change at a minute: its own earliest one, if it is not later; otherwise that by which what it is made of had it then. -/
inductive Src (h : CHouse) (c : Int) : Nat → Int → Nat → Prop
  | here {k : Nat} {m : Int} {i : Nat} (hf : h.first k c = some i) (hi : i < h.marks.length) (ha : h.marks[i].a ≤ m) : Src h c k m i
  | up {k j : Nat} {m : Int} {i : Nat} (hk : k < h.things.length) (hf : ∀ i (hi : i < h.marks.length), h.first k c = some i → ¬ h.marks[i].a ≤ m) (hj : h.things[k].o = (j : Int)) (hs : h.since c j ≤ h.things[k].a) (hu : Src h c j h.things[k].a i) : Src h c k m i
theorem src_up {h : CHouse} (ho : h.okT = true) {c : Int} {k : Nat} (hk : k < h.things.length) {m : Int} (hm : m ≤ 99) (hs : h.since c k ≤ m) (hf : ∀ i (hi : i < h.marks.length), h.first k c = some i → ¬ h.marks[i].a ≤ m) : ∃ j : Nat, h.things[k].o = (j : Int) ∧ j < k ∧ h.since c j ≤ h.things[k].a ∧ h.things[k].a ≤ 99 := by
  obtain ⟨hb, ha, -⟩ := CHouse.okT_thing ho hk
  rw [since_eq ho c hk] at hs
  by_cases h1 : h.made c h.things[k] = true
  · unfold CHouse.made at h1
    simp only [Bool.and_eq_true, decide_eq_true_eq] at h1
    exact ⟨h.things[k].o.toNat, by omega, by omega, h1.2, ha.2⟩
  · rw [if_neg h1] at hs
    unfold CHouse.firstA at hs
    rcases hfi : h.first k c with - | i
    · rw [hfi] at hs; simp only at hs; omega
    · rw [hfi] at hs
      obtain ⟨-, hi, -⟩ := firstTo_lt h k c _ i hfi
      simp only [List.getElem?_eq_getElem hi, Option.map_some, Option.getD_some] at hs
      exact absurd hs (hf i hi hfi)

set_option maxRecDepth 100000 in
set_option maxHeartbeats 8000000 in
theorem source_any (h : CHouse) (ta : Option Addr) (tl tc : Nat) (ma : Option Addr) (ml mc : Nat) (ho : h.okT = true) (c : Int) (k : Nat) : k < h.things.length → ∀ (m : Int) (_ : m ≤ 99) (_ : h.since c k ≤ m) (w : World), HAt w ta tl tc ma ml mc h →
    Calls Try.prog 70 #[.agg #[.slice ta tl tc, .slice ma ml mc], .int .i64 k, .int .i64 c, .int .i64 m] w fun e w' => (∃ i : Nat, Src h c k m i ∧ e = .returned (.int .i64 i)) ∧ Below w.heap.size w w' := by
  induction k using Nat.strongRecOn with
  | _ k ih =>
  intro hk m hm hs w hp
  have HF := Lib.hid (fun W (hb : Below w.heap.size w W) => first_any h ta tl tc ma ml mc k c W (hp.below hb))
  have htl := hp.1.1
  have hml := hp.2.1.1
  have hup := src_up ho hk hm hs
  obtain ⟨tb, tz, rfl, htB, htcell⟩ := hp.1.2.2 (by omega)
  obtain ⟨d0, d1, d2, d3⟩ := htcell k hk
  have hkt : (k : Int) < (tl : Int) := by omega
  have hk0 : (0 : Int) ≤ (k : Int) := by omega
  have HMC := Lib.hid hp.2.1.2.2
  have HUP := Lib.hid (fun (hf : ∀ i (hi : i < h.marks.length), h.first k c = some i → ¬ h.marks[i].a ≤ m) => by
    obtain ⟨j, e1, e2, e3, e4⟩ := hup hf
    exact (show ∃ j : Nat, h.things[k].o = (j : Int) ∧ ∀ W, Below w.heap.size w W → Calls Try.prog 70 #[.agg #[.slice (some ⟨tb, tz, none⟩) tl tc, .slice ma ml mc], .int .i64 j, .int .i64 c, .int .i64 h.things[k].a] W fun e w' => (∃ i : Nat, Src h c k m i ∧ e = .returned (.int .i64 i)) ∧ Below W.heap.size W w' from
      ⟨j, e1, fun W hb => (ih j e2 (by omega) _ e4 e3 W (hp.below hb)).mono fun e w' ⟨⟨i, hi, he⟩, hb2⟩ => ⟨⟨i, Src.up hk hf e1 e3 hi, he⟩, hb2⟩⟩))
  clear htcell ih ho htl hup hs hm
  cases hf : h.first k c with
  | none =>
    obtain ⟨j, ej, hcj⟩ := HUP.out (fun i _ e => by rw [hf] at e; cases e)
    have HS := Lib.hid hcj
    rw [hf] at HF
    clear hp hf HMC HUP hcj
    generalize h.things[k] = x at *
    obtain ⟨xo, xa, xc, xp⟩ := x
    simp only at d0 d1 d2 d3 ej HS
    subst ej
    go_enter Try.func70, Try.ntmps70
    go_wp2_with fail
    obtain ⟨W0, hW0, hB0, ⟨g0_0, g0_1⟩, hz0⟩ : ∃ W0, (w.alloc (.cells #[.slice (some ⟨tb, tz, none⟩) tl tc, .slice ma ml mc] 75)) = W0 ∧ Below w.heap.size w W0 ∧ (W0.cell? ⟨w.heap.size, 0, none⟩ = some (.slice (some ⟨tb, tz, none⟩) tl tc) ∧ W0.cell? ⟨w.heap.size, 1, none⟩ = some (.slice ma ml mc)) ∧ W0.heap.size = w.heap.size + 1 :=
      ⟨_, rfl, (by repeat (first | exact Below.refl _ _ | (refine Below.alloc ?_ (by first | omega | (simp; omega) | simp) _) | (refine Below.setCell ?_ (by first | omega | (simp; omega) | simp) _) | refine Below.drew ?_)), ⟨by go_simp, by go_simp⟩, by simp⟩
    rw [hW0]
    clear hW0
    have HBW := Lib.hid hB0
    have q0_0 : w.heap.size < W0.heap.size := by omega
    clear hB0 hz0
    have g0_2 : W0.cell? ⟨tb, tz + k * 4, none⟩ = some (.int .i64 j) := (HBW.out.cell (p := ⟨tb, _, none⟩) htB).trans d0
    have g0_3 : W0.cell? ⟨tb, tz + k * 4 + 1, none⟩ = some (.int .i64 xa) := (HBW.out.cell (p := ⟨tb, _, none⟩) htB).trans d1
    have g0_4 : W0.cell? ⟨tb, tz + k * 4 + 2, none⟩ = some (.int .i64 xc) := (HBW.out.cell (p := ⟨tb, _, none⟩) htB).trans d2
    have g0_5 : W0.cell? ⟨tb, tz + k * 4 + 3, none⟩ = some (.int .i64 xp) := (HBW.out.cell (p := ⟨tb, _, none⟩) htB).trans d3
    have q0_1 : tb < W0.heap.size := Nat.lt_of_lt_of_le htB HBW.out.size
    go_wp2_with fail
    refine (HF.out _ (HBW.out.trans (Below.mono (by repeat (first | exact Below.refl _ _ | (refine Below.alloc ?_ (by first | omega | (simp; omega) | simp) _) | (refine Below.setCell ?_ (by first | omega | (simp; omega) | simp) _) | refine Below.drew ?_)) HBW.out.size))).mono ?_
    rintro e v1 ⟨rfl, hb1⟩
    have hB1_0 : Below W0.heap.size W0 v1 := below_via (Lib.hid hb1) (by first | omega | (simp; done) | (simp; omega)) (by repeat (first | exact Below.refl _ _ | (refine Below.alloc ?_ (by first | omega | (simp; omega) | simp) _) | (refine Below.setCell ?_ (by first | omega | (simp; omega) | simp) _) | refine Below.drew ?_))
    have z1 := hb1.size
    (try simp at z1)
    obtain ⟨g1_0, g1_1, g1_2, g1_3, g1_4, g1_5⟩ : v1.cell? ⟨w.heap.size, 0, none⟩ = some (.slice (some ⟨tb, tz, none⟩) tl tc) ∧ v1.cell? ⟨w.heap.size, 1, none⟩ = some (.slice ma ml mc) ∧ v1.cell? ⟨tb, tz + k * 4, none⟩ = some (.int .i64 j) ∧ v1.cell? ⟨tb, tz + k * 4 + 1, none⟩ = some (.int .i64 xa) ∧ v1.cell? ⟨tb, tz + k * 4 + 2, none⟩ = some (.int .i64 xc) ∧ v1.cell? ⟨tb, tz + k * 4 + 3, none⟩ = some (.int .i64 xp) :=
      ⟨(hb1.cell (p := ⟨w.heap.size, 0, none⟩) (by first | omega | (simp; done) | (simp; omega))).trans (by first | (go_simp; done) | (go_simp; exact set_same (u := .int .i64 0) (by go_simp; done))), (hb1.cell (p := ⟨w.heap.size, 1, none⟩) (by first | omega | (simp; done) | (simp; omega))).trans (by first | (go_simp; done) | (go_simp; exact set_same (u := .int .i64 0) (by go_simp; done))), (hb1.cell (p := ⟨tb, tz + k * 4, none⟩) (by first | omega | (simp; done) | (simp; omega))).trans (by first | (go_simp; done) | (go_simp; exact set_same (u := .int .i64 0) (by go_simp; done))), (hb1.cell (p := ⟨tb, tz + k * 4 + 1, none⟩) (by first | omega | (simp; done) | (simp; omega))).trans (by first | (go_simp; done) | (go_simp; exact set_same (u := .int .i64 0) (by go_simp; done))), (hb1.cell (p := ⟨tb, tz + k * 4 + 2, none⟩) (by first | omega | (simp; done) | (simp; omega))).trans (by first | (go_simp; done) | (go_simp; exact set_same (u := .int .i64 0) (by go_simp; done))), (hb1.cell (p := ⟨tb, tz + k * 4 + 3, none⟩) (by first | omega | (simp; done) | (simp; omega))).trans (by first | (go_simp; done) | (go_simp; exact set_same (u := .int .i64 0) (by go_simp; done)))⟩
    have q1_0 : w.heap.size < v1.heap.size := by first | omega | (simp at *; omega)
    have q1_1 : tb < v1.heap.size := by first | omega | (simp at *; omega)
    have HB1 := Lib.hid hB1_0
    have y1 := hB1_0.size
    clear hb1 hB1_0 g0_0 g0_1 g0_2 g0_3 g0_4 g0_5 q0_0 q0_1
    go_wp2_with fail
    refine (HS.out _ (HBW.out.trans (Below.mono (by repeat (first | exact Below.refl _ _ | with_reducible exact HB1.out | (refine Below.alloc ?_ (by first | omega | (simp; omega) | simp) _) | (refine Below.setCell ?_ (by first | omega | (simp; omega) | simp) _) | refine Below.drew ?_)) HBW.out.size))).mono ?_
    rintro e v2 ⟨⟨ri, hri, rfl⟩, hb2⟩
    have hB2_0 : Below W0.heap.size W0 v2 := below_via (Lib.hid hb2) (by first | omega | (simp; done) | (simp; omega)) (by repeat (first | exact Below.refl _ _ | with_reducible exact HB1.out | (refine Below.alloc ?_ (by first | omega | (simp; omega) | simp) _) | (refine Below.setCell ?_ (by first | omega | (simp; omega) | simp) _) | refine Below.drew ?_))
    have z2 := hb2.size
    (try simp at z2)
    have HB2 := Lib.hid hB2_0
    have y2 := hB2_0.size
    clear hb2 hB2_0 g1_0 g1_1 g1_2 g1_3 g1_4 g1_5 q1_0 q1_1
    go_wp2_with fail
    go_ret
    exact ⟨⟨ri, hri, rfl⟩, HBW.out.trans (Below.mono (by repeat (first | exact Below.refl _ _ | with_reducible exact HB2.out | (refine Below.alloc ?_ (by first | omega | (simp; omega) | simp) _) | (refine Below.setCell ?_ (by first | omega | (simp; omega) | simp) _) | refine Below.drew ?_)) HBW.out.size)⟩
  | some i =>
    obtain ⟨-, hi, -⟩ := firstTo_lt h k c _ i hf
    obtain ⟨mb, mo, rfl, hmB, hmcell⟩ := HMC.out (by omega)
    obtain ⟨-, -, e2⟩ := hmcell i hi
    have hil : (i : Int) < (ml : Int) := by omega
    have hi0 : (0 : Int) ≤ (i : Int) := by omega
    have HF' := HF
    rw [hf] at HF
    simp only [fstZ] at HF
    by_cases hle : h.marks[i].a ≤ m
    · have HSR := Lib.hid (Src.here hf hi hle)
      clear hp hf HMC HUP hmcell HF' d0 d1 d2 d3
      generalize h.marks[i].a = ia at *
      go_enter Try.func70, Try.ntmps70
      go_wp2_with fail
      obtain ⟨W0, hW0, hB0, ⟨g0_0, g0_1⟩, hz0⟩ : ∃ W0, (w.alloc (.cells #[.slice (some ⟨tb, tz, none⟩) tl tc, .slice (some ⟨mb, mo, none⟩) ml mc] 75)) = W0 ∧ Below w.heap.size w W0 ∧ (W0.cell? ⟨w.heap.size, 0, none⟩ = some (.slice (some ⟨tb, tz, none⟩) tl tc) ∧ W0.cell? ⟨w.heap.size, 1, none⟩ = some (.slice (some ⟨mb, mo, none⟩) ml mc)) ∧ W0.heap.size = w.heap.size + 1 :=
        ⟨_, rfl, (by repeat (first | exact Below.refl _ _ | (refine Below.alloc ?_ (by first | omega | (simp; omega) | simp) _) | (refine Below.setCell ?_ (by first | omega | (simp; omega) | simp) _) | refine Below.drew ?_)), ⟨by go_simp, by go_simp⟩, by simp⟩
      rw [hW0]
      clear hW0
      have HBW := Lib.hid hB0
      have q0_0 : w.heap.size < W0.heap.size := by omega
      clear hB0 hz0
      have g0_2 : W0.cell? ⟨mb, mo + i * 3 + 2, none⟩ = some (.int .i64 ia) := (HBW.out.cell (p := ⟨mb, _, none⟩) hmB).trans e2
      have q0_1 : mb < W0.heap.size := Nat.lt_of_lt_of_le hmB HBW.out.size
      go_wp2_with fail
      refine (HF.out _ (HBW.out.trans (Below.mono (by repeat (first | exact Below.refl _ _ | (refine Below.alloc ?_ (by first | omega | (simp; omega) | simp) _) | (refine Below.setCell ?_ (by first | omega | (simp; omega) | simp) _) | refine Below.drew ?_)) HBW.out.size))).mono ?_
      rintro e v1 ⟨rfl, hb1⟩
      have hB1_0 : Below W0.heap.size W0 v1 := below_via (Lib.hid hb1) (by first | omega | (simp; done) | (simp; omega)) (by repeat (first | exact Below.refl _ _ | (refine Below.alloc ?_ (by first | omega | (simp; omega) | simp) _) | (refine Below.setCell ?_ (by first | omega | (simp; omega) | simp) _) | refine Below.drew ?_))
      have z1 := hb1.size
      (try simp at z1)
      obtain ⟨g1_0, g1_1, g1_2⟩ : v1.cell? ⟨w.heap.size, 0, none⟩ = some (.slice (some ⟨tb, tz, none⟩) tl tc) ∧ v1.cell? ⟨w.heap.size, 1, none⟩ = some (.slice (some ⟨mb, mo, none⟩) ml mc) ∧ v1.cell? ⟨mb, mo + i * 3 + 2, none⟩ = some (.int .i64 ia) :=
        ⟨(hb1.cell (p := ⟨w.heap.size, 0, none⟩) (by first | omega | (simp; done) | (simp; omega))).trans (by first | (go_simp; done) | (go_simp; exact set_same (u := .int .i64 0) (by go_simp; done))), (hb1.cell (p := ⟨w.heap.size, 1, none⟩) (by first | omega | (simp; done) | (simp; omega))).trans (by first | (go_simp; done) | (go_simp; exact set_same (u := .int .i64 0) (by go_simp; done))), (hb1.cell (p := ⟨mb, mo + i * 3 + 2, none⟩) (by first | omega | (simp; done) | (simp; omega))).trans (by first | (go_simp; done) | (go_simp; exact set_same (u := .int .i64 0) (by go_simp; done)))⟩
      have q1_0 : w.heap.size < v1.heap.size := by first | omega | (simp at *; omega)
      have q1_1 : mb < v1.heap.size := by first | omega | (simp at *; omega)
      have HB1 := Lib.hid hB1_0
      have y1 := hB1_0.size
      clear hb1 hB1_0 g0_0 g0_1 g0_2 q0_0 q0_1
      go_wp2_with fail
      go_ret
      exact ⟨⟨i, HSR.out, rfl⟩, HBW.out.trans (Below.mono (by repeat (first | exact Below.refl _ _ | with_reducible exact HB1.out | (refine Below.alloc ?_ (by first | omega | (simp; omega) | simp) _) | (refine Below.setCell ?_ (by first | omega | (simp; omega) | simp) _) | refine Below.drew ?_)) HBW.out.size)⟩
    · obtain ⟨j, ej, hcj⟩ := HUP.out (fun i' hi' e => by rw [hf] at e; injection e with e; subst e; exact hle)
      have HS := Lib.hid hcj
      clear hp hf HMC HUP hmcell HF' hcj
      generalize h.marks[i].a = ia at *
      generalize h.things[k] = x at *
      obtain ⟨xo, xa, xc, xp⟩ := x
      simp only at d0 d1 d2 d3 ej HS
      subst ej
      go_enter Try.func70, Try.ntmps70
      go_wp2_with fail
      obtain ⟨W0, hW0, hB0, ⟨g0_0, g0_1⟩, hz0⟩ : ∃ W0, (w.alloc (.cells #[.slice (some ⟨tb, tz, none⟩) tl tc, .slice (some ⟨mb, mo, none⟩) ml mc] 75)) = W0 ∧ Below w.heap.size w W0 ∧ (W0.cell? ⟨w.heap.size, 0, none⟩ = some (.slice (some ⟨tb, tz, none⟩) tl tc) ∧ W0.cell? ⟨w.heap.size, 1, none⟩ = some (.slice (some ⟨mb, mo, none⟩) ml mc)) ∧ W0.heap.size = w.heap.size + 1 :=
        ⟨_, rfl, (by repeat (first | exact Below.refl _ _ | (refine Below.alloc ?_ (by first | omega | (simp; omega) | simp) _) | (refine Below.setCell ?_ (by first | omega | (simp; omega) | simp) _) | refine Below.drew ?_)), ⟨by go_simp, by go_simp⟩, by simp⟩
      rw [hW0]
      clear hW0
      have HBW := Lib.hid hB0
      have q0_0 : w.heap.size < W0.heap.size := by omega
      clear hB0 hz0
      have g0_2 : W0.cell? ⟨tb, tz + k * 4, none⟩ = some (.int .i64 j) := (HBW.out.cell (p := ⟨tb, _, none⟩) htB).trans d0
      have g0_3 : W0.cell? ⟨tb, tz + k * 4 + 1, none⟩ = some (.int .i64 xa) := (HBW.out.cell (p := ⟨tb, _, none⟩) htB).trans d1
      have g0_4 : W0.cell? ⟨tb, tz + k * 4 + 2, none⟩ = some (.int .i64 xc) := (HBW.out.cell (p := ⟨tb, _, none⟩) htB).trans d2
      have g0_5 : W0.cell? ⟨tb, tz + k * 4 + 3, none⟩ = some (.int .i64 xp) := (HBW.out.cell (p := ⟨tb, _, none⟩) htB).trans d3
      have q0_1 : tb < W0.heap.size := Nat.lt_of_lt_of_le htB HBW.out.size
      have g0_6 : W0.cell? ⟨mb, mo + i * 3 + 2, none⟩ = some (.int .i64 ia) := (HBW.out.cell (p := ⟨mb, _, none⟩) hmB).trans e2
      have q0_2 : mb < W0.heap.size := Nat.lt_of_lt_of_le hmB HBW.out.size
      go_wp2_with fail
      refine (HF.out _ (HBW.out.trans (Below.mono (by repeat (first | exact Below.refl _ _ | (refine Below.alloc ?_ (by first | omega | (simp; omega) | simp) _) | (refine Below.setCell ?_ (by first | omega | (simp; omega) | simp) _) | refine Below.drew ?_)) HBW.out.size))).mono ?_
      rintro e v1 ⟨rfl, hb1⟩
      have hB1_0 : Below W0.heap.size W0 v1 := below_via (Lib.hid hb1) (by first | omega | (simp; done) | (simp; omega)) (by repeat (first | exact Below.refl _ _ | (refine Below.alloc ?_ (by first | omega | (simp; omega) | simp) _) | (refine Below.setCell ?_ (by first | omega | (simp; omega) | simp) _) | refine Below.drew ?_))
      have z1 := hb1.size
      (try simp at z1)
      obtain ⟨g1_0, g1_1, g1_2, g1_3, g1_4, g1_5, g1_6⟩ : v1.cell? ⟨w.heap.size, 0, none⟩ = some (.slice (some ⟨tb, tz, none⟩) tl tc) ∧ v1.cell? ⟨w.heap.size, 1, none⟩ = some (.slice (some ⟨mb, mo, none⟩) ml mc) ∧ v1.cell? ⟨tb, tz + k * 4, none⟩ = some (.int .i64 j) ∧ v1.cell? ⟨tb, tz + k * 4 + 1, none⟩ = some (.int .i64 xa) ∧ v1.cell? ⟨tb, tz + k * 4 + 2, none⟩ = some (.int .i64 xc) ∧ v1.cell? ⟨tb, tz + k * 4 + 3, none⟩ = some (.int .i64 xp) ∧ v1.cell? ⟨mb, mo + i * 3 + 2, none⟩ = some (.int .i64 ia) :=
        ⟨(hb1.cell (p := ⟨w.heap.size, 0, none⟩) (by first | omega | (simp; done) | (simp; omega))).trans (by first | (go_simp; done) | (go_simp; exact set_same (u := .int .i64 0) (by go_simp; done))), (hb1.cell (p := ⟨w.heap.size, 1, none⟩) (by first | omega | (simp; done) | (simp; omega))).trans (by first | (go_simp; done) | (go_simp; exact set_same (u := .int .i64 0) (by go_simp; done))), (hb1.cell (p := ⟨tb, tz + k * 4, none⟩) (by first | omega | (simp; done) | (simp; omega))).trans (by first | (go_simp; done) | (go_simp; exact set_same (u := .int .i64 0) (by go_simp; done))), (hb1.cell (p := ⟨tb, tz + k * 4 + 1, none⟩) (by first | omega | (simp; done) | (simp; omega))).trans (by first | (go_simp; done) | (go_simp; exact set_same (u := .int .i64 0) (by go_simp; done))), (hb1.cell (p := ⟨tb, tz + k * 4 + 2, none⟩) (by first | omega | (simp; done) | (simp; omega))).trans (by first | (go_simp; done) | (go_simp; exact set_same (u := .int .i64 0) (by go_simp; done))), (hb1.cell (p := ⟨tb, tz + k * 4 + 3, none⟩) (by first | omega | (simp; done) | (simp; omega))).trans (by first | (go_simp; done) | (go_simp; exact set_same (u := .int .i64 0) (by go_simp; done))), (hb1.cell (p := ⟨mb, mo + i * 3 + 2, none⟩) (by first | omega | (simp; done) | (simp; omega))).trans (by first | (go_simp; done) | (go_simp; exact set_same (u := .int .i64 0) (by go_simp; done)))⟩
      have q1_0 : w.heap.size < v1.heap.size := by first | omega | (simp at *; omega)
      have q1_1 : tb < v1.heap.size := by first | omega | (simp at *; omega)
      have q1_2 : mb < v1.heap.size := by first | omega | (simp at *; omega)
      have HB1 := Lib.hid hB1_0
      have y1 := hB1_0.size
      clear hb1 hB1_0 g0_0 g0_1 g0_2 g0_3 g0_4 g0_5 g0_6 q0_0 q0_1 q0_2
      go_wp2_with fail
      refine (HS.out _ (HBW.out.trans (Below.mono (by repeat (first | exact Below.refl _ _ | with_reducible exact HB1.out | (refine Below.alloc ?_ (by first | omega | (simp; omega) | simp) _) | (refine Below.setCell ?_ (by first | omega | (simp; omega) | simp) _) | refine Below.drew ?_)) HBW.out.size))).mono ?_
      rintro e v2 ⟨⟨ri, hri, rfl⟩, hb2⟩
      have hB2_0 : Below W0.heap.size W0 v2 := below_via (Lib.hid hb2) (by first | omega | (simp; done) | (simp; omega)) (by repeat (first | exact Below.refl _ _ | with_reducible exact HB1.out | (refine Below.alloc ?_ (by first | omega | (simp; omega) | simp) _) | (refine Below.setCell ?_ (by first | omega | (simp; omega) | simp) _) | refine Below.drew ?_))
      have z2 := hb2.size
      (try simp at z2)
      have HB2 := Lib.hid hB2_0
      have y2 := hB2_0.size
      clear hb2 hB2_0 g1_0 g1_1 g1_2 g1_3 g1_4 g1_5 g1_6 q1_0 q1_1 q1_2
      go_wp2_with fail
      go_ret
      exact ⟨⟨ri, hri, rfl⟩, HBW.out.trans (Below.mono (by repeat (first | exact Below.refl _ _ | with_reducible exact HB2.out | (refine Below.alloc ?_ (by first | omega | (simp; omega) | simp) _) | (refine Below.setCell ?_ (by first | omega | (simp; omega) | simp) _) | refine Below.drew ?_)) HBW.out.size)⟩
set_option maxRecDepth 100000 in
set_option maxHeartbeats 8000000 in
theorem Source_yes (h : CHouse) (ta : Option Addr) (tl tc : Nat) (ma : Option Addr) (ml mc : Nat) (ho : h.ok = true) (k : Nat) (hk : k < h.things.length) (c : Int) (hc : btw c 0 2 = true) (w : World) (hp : HAt w ta tl tc ma ml mc h) :
    Calls Try.prog 24 #[.agg #[.slice ta tl tc, .slice ma ml mc], .int .i64 k, .int .i64 c] w fun e w' => ((h.since c k = 100 ∧ e = .returned (.tuple #[.int .i64 0, .int .i64 3])) ∨ (h.since c k ≠ 100 ∧ ∃ i : Nat, Src h c k (h.since c k) i ∧ e = .returned (.tuple #[.int .i64 i, .int .i64 0]))) ∧ Below w.heap.size w w' := by
  have HSI := Lib.hid (fun W (hb : Below w.heap.size w W) => Since_yes h ta tl tc ma ml mc ho k hk c hc W (hp.below hb))
  by_cases hs : h.since c k = 100
  · simp only [if_pos hs] at HSI
    clear hp
    go_enter Try.func24, Try.ntmps24
    go_wp2_with fail
    obtain ⟨W0, hW0, hB0, ⟨g0_0, g0_1⟩, hz0⟩ : ∃ W0, (w.alloc (.cells #[.slice ta tl tc, .slice ma ml mc] 25)) = W0 ∧ Below w.heap.size w W0 ∧ (W0.cell? ⟨w.heap.size, 0, none⟩ = some (.slice ta tl tc) ∧ W0.cell? ⟨w.heap.size, 1, none⟩ = some (.slice ma ml mc)) ∧ W0.heap.size = w.heap.size + 1 :=
      ⟨_, rfl, (by repeat (first | exact Below.refl _ _ | (refine Below.alloc ?_ (by first | omega | (simp; omega) | simp) _) | (refine Below.setCell ?_ (by first | omega | (simp; omega) | simp) _) | refine Below.drew ?_)), ⟨by go_simp, by go_simp⟩, by simp⟩
    rw [hW0]
    clear hW0
    have HBW := Lib.hid hB0
    have q0_0 : w.heap.size < W0.heap.size := by omega
    clear hB0 hz0
    go_wp2_with fail
    refine (HSI.out _ (HBW.out.trans (Below.mono (by repeat (first | exact Below.refl _ _ | (refine Below.alloc ?_ (by first | omega | (simp; omega) | simp) _) | (refine Below.setCell ?_ (by first | omega | (simp; omega) | simp) _) | refine Below.drew ?_)) HBW.out.size))).mono ?_
    rintro e v1 ⟨rfl, hb1⟩
    have hB1_0 : Below W0.heap.size W0 v1 := below_via (Lib.hid hb1) (by first | omega | (simp; done) | (simp; omega)) (by repeat (first | exact Below.refl _ _ | (refine Below.alloc ?_ (by first | omega | (simp; omega) | simp) _) | (refine Below.setCell ?_ (by first | omega | (simp; omega) | simp) _) | refine Below.drew ?_))
    have z1 := hb1.size
    (try simp at z1)
    have HB1 := Lib.hid hB1_0
    have y1 := hB1_0.size
    clear hb1 hB1_0 g0_0 g0_1 q0_0
    go_wp2_with fail
    go_ret2
    exact ⟨.inl ⟨hs, rfl⟩, HBW.out.trans (Below.mono (by repeat (first | exact Below.refl _ _ | with_reducible exact HB1.out | (refine Below.alloc ?_ (by first | omega | (simp; omega) | simp) _) | (refine Below.setCell ?_ (by first | omega | (simp; omega) | simp) _) | refine Below.drew ?_)) HBW.out.size)⟩
  · have h99 : h.since c k ≤ 99 := by
      have hT := CHouse.ok_T ho
      have ha := (CHouse.okT_thing hT hk).2.1.2
      rw [since_eq hT c hk] at hs ⊢
      by_cases hmd : h.made c h.things[k] = true
      · rw [if_pos hmd]; exact ha
      · rw [if_neg hmd] at hs ⊢
        rcases firstA_mem h k c with ⟨-, e⟩ | ⟨m, hm, -, -, e⟩
        · exact absurd e hs
        · rw [e]; exact (CHouse.ok_mark ho hm).2.2.2
    have HSO := Lib.hid (fun W (hb : Below w.heap.size w W) => source_any h ta tl tc ma ml mc (CHouse.ok_T ho) c k hk (h.since c k) h99 (Int.le_refl _) W (hp.below hb))
    simp only [if_neg hs] at HSI
    clear hp h99
    generalize hg : h.since c k = s at *
    go_enter Try.func24, Try.ntmps24
    go_wp2_with fail
    obtain ⟨W0, hW0, hB0, ⟨g0_0, g0_1⟩, hz0⟩ : ∃ W0, (w.alloc (.cells #[.slice ta tl tc, .slice ma ml mc] 25)) = W0 ∧ Below w.heap.size w W0 ∧ (W0.cell? ⟨w.heap.size, 0, none⟩ = some (.slice ta tl tc) ∧ W0.cell? ⟨w.heap.size, 1, none⟩ = some (.slice ma ml mc)) ∧ W0.heap.size = w.heap.size + 1 :=
      ⟨_, rfl, (by repeat (first | exact Below.refl _ _ | (refine Below.alloc ?_ (by first | omega | (simp; omega) | simp) _) | (refine Below.setCell ?_ (by first | omega | (simp; omega) | simp) _) | refine Below.drew ?_)), ⟨by go_simp, by go_simp⟩, by simp⟩
    rw [hW0]
    clear hW0
    have HBW := Lib.hid hB0
    have q0_0 : w.heap.size < W0.heap.size := by omega
    clear hB0 hz0
    go_wp2_with fail
    refine (HSI.out _ (HBW.out.trans (Below.mono (by repeat (first | exact Below.refl _ _ | (refine Below.alloc ?_ (by first | omega | (simp; omega) | simp) _) | (refine Below.setCell ?_ (by first | omega | (simp; omega) | simp) _) | refine Below.drew ?_)) HBW.out.size))).mono ?_
    rintro e v1 ⟨rfl, hb1⟩
    have hB1_0 : Below W0.heap.size W0 v1 := below_via (Lib.hid hb1) (by first | omega | (simp; done) | (simp; omega)) (by repeat (first | exact Below.refl _ _ | (refine Below.alloc ?_ (by first | omega | (simp; omega) | simp) _) | (refine Below.setCell ?_ (by first | omega | (simp; omega) | simp) _) | refine Below.drew ?_))
    have z1 := hb1.size
    (try simp at z1)
    obtain ⟨g1_0, g1_1⟩ : v1.cell? ⟨w.heap.size, 0, none⟩ = some (.slice ta tl tc) ∧ v1.cell? ⟨w.heap.size, 1, none⟩ = some (.slice ma ml mc) :=
      ⟨(hb1.cell (p := ⟨w.heap.size, 0, none⟩) (by first | omega | (simp; done) | (simp; omega))).trans (by first | (go_simp; done) | (go_simp; exact set_same (u := .int .i64 0) (by go_simp; done))), (hb1.cell (p := ⟨w.heap.size, 1, none⟩) (by first | omega | (simp; done) | (simp; omega))).trans (by first | (go_simp; done) | (go_simp; exact set_same (u := .int .i64 0) (by go_simp; done)))⟩
    have q1_0 : w.heap.size < v1.heap.size := by first | omega | (simp at *; omega)
    have HB1 := Lib.hid hB1_0
    have y1 := hB1_0.size
    clear hb1 hB1_0 g0_0 g0_1 q0_0
    go_wp2_with fail
    refine (HSO.out _ (HBW.out.trans (Below.mono (by repeat (first | exact Below.refl _ _ | with_reducible exact HB1.out | (refine Below.alloc ?_ (by first | omega | (simp; omega) | simp) _) | (refine Below.setCell ?_ (by first | omega | (simp; omega) | simp) _) | refine Below.drew ?_)) HBW.out.size))).mono ?_
    rintro e v2 ⟨⟨i, hi, rfl⟩, hb2⟩
    have hB2_0 : Below W0.heap.size W0 v2 := below_via (Lib.hid hb2) (by first | omega | (simp; done) | (simp; omega)) (by repeat (first | exact Below.refl _ _ | with_reducible exact HB1.out | (refine Below.alloc ?_ (by first | omega | (simp; omega) | simp) _) | (refine Below.setCell ?_ (by first | omega | (simp; omega) | simp) _) | refine Below.drew ?_))
    have z2 := hb2.size
    (try simp at z2)
    have HB2 := Lib.hid hB2_0
    have y2 := hB2_0.size
    clear hb2 hB2_0 g1_0 g1_1 q1_0
    go_wp2_with fail
    go_ret2
    exact ⟨.inr ⟨hs, i, hi, rfl⟩, HBW.out.trans (Below.mono (by repeat (first | exact Below.refl _ _ | with_reducible exact HB2.out | (refine Below.alloc ?_ (by first | omega | (simp; omega) | simp) _) | (refine Below.setCell ?_ (by first | omega | (simp; omega) | simp) _) | refine Below.drew ?_)) HBW.out.size)⟩
end Go.Proofs.Ytedfdhpggghjeaa
