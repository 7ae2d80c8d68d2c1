/- Package changes: invalidMark; ContainsFunc of the marks; valid, named, Check. -/
import Derived.Test.YtedfdhpggghjeaaCG
namespace Go.Proofs.Ytedfdhpggghjeaa
set_option linter.unusedVariables false
set_option linter.unusedSimpArgs false
open Go.RowKit Go.Shelf

set_option maxRecDepth 100000 in
set_option maxHeartbeats 8000000 in
theorem invalidMark_any (h : CHouse) (ta : Option Addr) (tl tc : Nat) (ma : Option Addr) (ml mc : Nat) (m : CMark) (w : World) (hp : HAt w ta tl tc ma ml mc h) :
    Calls Try.prog 103 #[.agg #[.slice ta tl tc, .slice ma ml mc], .agg #[.int .i64 m.c, .int .i64 m.t, .int .i64 m.a]] w fun e w' => e = .returned (.bool (!h.markB m)) ∧ Below w.heap.size w w' := by
  have htl := hp.1.1
  have htm := hp.1.2.1
  have HTC := Lib.hid hp.1.2.2
  have HT := Lib.hid (fun (n : Int) (W : World) b (hb : btw n 0 ((tl : Int) - 1) = b) => hasThing_is ta tl tc ma ml mc n W htm b hb)
  unfold CHouse.markB
  rw [htl]
  obtain ⟨mc', mt, mA⟩ := m
  simp only
  clear hp
  rcases h1 : btw mc' 0 2 with - | -
  · clear htm HTC htl
    go_enter Try.func103, Try.ntmps103
    go_wp2_with fail
    obtain ⟨W0, hW0, hB0, ⟨g0_0, g0_1, g0_2, g0_3, g0_4⟩, hz0⟩ : ∃ W0, ((w.alloc (.cells #[.slice ta tl tc, .slice ma ml mc] 75)).alloc (.cells #[.int .i64 mc', .int .i64 mt, .int .i64 mA] 52)) = W0 ∧ Below w.heap.size w W0 ∧ (W0.cell? ⟨w.heap.size, 0, none⟩ = some (.slice ta tl tc) ∧ W0.cell? ⟨w.heap.size, 1, none⟩ = some (.slice ma ml mc) ∧ W0.cell? ⟨w.heap.size + 1, 0, none⟩ = some (.int .i64 mc') ∧ W0.cell? ⟨w.heap.size + 1, 1, none⟩ = some (.int .i64 mt) ∧ W0.cell? ⟨w.heap.size + 1, 2, none⟩ = some (.int .i64 mA)) ∧ W0.heap.size = w.heap.size + 1 + 1 :=
      ⟨_, rfl, (by repeat (first | exact Below.refl _ _ | (refine Below.alloc ?_ (by first | omega | (simp; omega) | simp) _) | (refine Below.setCell ?_ (by first | omega | (simp; omega) | simp) _) | refine Below.drew ?_)), ⟨by go_simp, by go_simp, by go_simp, by go_simp, by go_simp⟩, by simp⟩
    rw [hW0]
    clear hW0
    have HBW := Lib.hid hB0
    have q0_0 : w.heap.size < W0.heap.size := by omega
    have q0_1 : w.heap.size + 1 < W0.heap.size := by omega
    clear hB0 hz0
    have HV1 : Below w.heap.size w W0 := (HBW.out.trans (Below.mono (by repeat (first | exact Below.refl _ _ | (refine Below.alloc ?_ (by first | omega | (simp; omega) | simp) _) | (refine Below.setCell ?_ (by first | omega | (simp; omega) | simp) _) | refine Below.drew ?_)) HBW.out.size))
    have HX1_2 := Lib.hid (fun W (h : Below W0.heap.size W0 W ∧ ∀ b o, b < W0.heap.size → W.cell? ⟨b, o, none⟩ = W0.cell? ⟨b, o, none⟩) => bothS1 (W0 := W0) (isChange_b _ false h1 W) h)
    clear HV1
    go_upto_region 1 with fail
    go_cut [4] (fun v4x wx => v4x = .bool true ∧ Below W0.heap.size W0 wx)
    case first =>
      refine wp_region_noPanic ?_
      refine wp_region_held_drew (S := (fun w' => Below W0.heap.size W0 w' ∧ ∀ b o, b < W0.heap.size → w'.cell? ⟨b, o, none⟩ = W0.cell? ⟨b, o, none⟩)) (by kernel_rfl) ?_ (fun hHeld => ?_)
      · (first | with_reducible assumption | ((repeat (first | with_reducible refine bothS_drew ?_ | with_reducible refine bothS_alloc _ ?_ | with_reducible refine bothS_set _ _ (by first | omega | (simp; omega) | simp) ?_)); first | with_reducible assumption | with_reducible exact Hid.out (by assumption) | with_reducible exact ⟨Below.refl _ _, fun _ _ _ => rfl⟩))
      refine takeH 0 ?_; (try simp only [Act.put, List.setIfInBounds_toArray, List.set_cons_zero, List.set_cons_succ])
      refine takeH 1 ?_; (try simp only [Act.put, List.setIfInBounds_toArray, List.set_cons_zero, List.set_cons_succ])
      refine readyH 2 (fun K hK => ?_); go_simp; (go_at_call 60; with_reducible refine (HX1_2.out _ ?_).mono ?_; (first | with_reducible assumption | ((repeat (first | with_reducible refine bothS_drew ?_ | with_reducible refine bothS_alloc _ ?_ | with_reducible refine bothS_set _ _ (by first | omega | (simp; omega) | simp) ?_)); first | with_reducible assumption | with_reducible exact Hid.out (by assumption) | with_reducible exact ⟨Below.refl _ _, fun _ _ _ => rfl⟩)); rintro e w' ⟨rfl, k, k1, k2, k3⟩; have HK := Lib.hid k; (try simp at k3); (try have k6 := Nat.lt_of_succ_le k3); (try have k7 := Nat.lt_of_succ_lt k6); (try have k8 := Nat.lt_of_succ_lt k3)); refine hK.out _ _ ?_ (fun hHeld => ?_); (· (first | with_reducible assumption | ((repeat (first | with_reducible refine bothS_drew ?_ | with_reducible refine bothS_alloc _ ?_ | with_reducible refine bothS_set _ _ (by first | omega | (simp; omega) | simp) ?_)); first | with_reducible assumption | with_reducible exact Hid.out (by assumption) | with_reducible exact ⟨Below.refl _ _, fun _ _ _ => rfl⟩))); clear hK K; (try simp only [Act.put, List.setIfInBounds_toArray, List.set_cons_zero, List.set_cons_succ])
      refine takeH 3 ?_; (try simp only [Act.put, List.setIfInBounds_toArray, List.set_cons_zero, List.set_cons_succ])
      refine takeH 4 ?_; (try simp only [Act.put, List.setIfInBounds_toArray, List.set_cons_zero, List.set_cons_succ])
      refine skipH 5 ?_; (try simp only [Act.put, List.setIfInBounds_toArray, List.set_cons_zero, List.set_cons_succ])
      refine skipH 6 ?_; (try simp only [Act.put, List.setIfInBounds_toArray, List.set_cons_zero, List.set_cons_succ])
      refine skipH 7 ?_; (try simp only [Act.put, List.setIfInBounds_toArray, List.set_cons_zero, List.set_cons_succ])
      refine skipH 8 ?_; (try simp only [Act.put, List.setIfInBounds_toArray, List.set_cons_zero, List.set_cons_succ])
      refine skipH 9 ?_; (try simp only [Act.put, List.setIfInBounds_toArray, List.set_cons_zero, List.set_cons_succ])
      refine takeH 10 ?_; (try simp only [Act.put, List.setIfInBounds_toArray, List.set_cons_zero, List.set_cons_succ])
      refine takeH 11 ?_; (try simp only [Act.put, List.setIfInBounds_toArray, List.set_cons_zero, List.set_cons_succ])
      refine skipH 12 ?_; (try simp only [Act.put, List.setIfInBounds_toArray, List.set_cons_zero, List.set_cons_succ])
      refine skipH 13 ?_; (try simp only [Act.put, List.setIfInBounds_toArray, List.set_cons_zero, List.set_cons_succ])
      refine skipH 14 ?_; (try simp only [Act.put, List.setIfInBounds_toArray, List.set_cons_zero, List.set_cons_succ])
      refine skipH 15 ?_; (try simp only [Act.put, List.setIfInBounds_toArray, List.set_cons_zero, List.set_cons_succ])
      refine skipH 16 ?_; (try simp only [Act.put, List.setIfInBounds_toArray, List.set_cons_zero, List.set_cons_succ])
      refine skipH 17 ?_; (try simp only [Act.put, List.setIfInBounds_toArray, List.set_cons_zero, List.set_cons_succ])
      refine skipH 18 ?_; (try simp only [Act.put, List.setIfInBounds_toArray, List.set_cons_zero, List.set_cons_succ])
      refine skipH 19 ?_; (try simp only [Act.put, List.setIfInBounds_toArray, List.set_cons_zero, List.set_cons_succ])
      refine skipH 20 ?_; (try simp only [Act.put, List.setIfInBounds_toArray, List.set_cons_zero, List.set_cons_succ])
      refine skipH 21 ?_; (try simp only [Act.put, List.setIfInBounds_toArray, List.set_cons_zero, List.set_cons_succ])
      refine skipH 22 ?_; (try simp only [Act.put, List.setIfInBounds_toArray, List.set_cons_zero, List.set_cons_succ])
      refine skipH 23 ?_; (try simp only [Act.put, List.setIfInBounds_toArray, List.set_cons_zero, List.set_cons_succ])
      refine takeH 24 ?_; (try simp only [Act.put, List.setIfInBounds_toArray, List.set_cons_zero, List.set_cons_succ])
      refine takeH 25 ?_; (try simp only [Act.put, List.setIfInBounds_toArray, List.set_cons_zero, List.set_cons_succ])
      refine wpAnyH_done (by kernel_rfl) ?_ _
      refine NoPanic.normal ?_
      go_wp2_with fail; go_meet; exact ⟨rfl, And.left (by assumption)⟩
    case rest =>
    obtain ⟨rfl, hb1⟩ := hcut
    obtain ⟨v1, rfl⟩ : ∃ v1 : World, v1 = wc := ⟨_, rfl⟩
    have hB1_0 : Below W0.heap.size W0 v1 := below_via (Lib.hid hb1) (by first | omega | (simp; done) | (simp; omega)) (by repeat (first | exact Below.refl _ _ | (refine Below.alloc ?_ (by first | omega | (simp; omega) | simp) _) | (refine Below.setCell ?_ (by first | omega | (simp; omega) | simp) _) | refine Below.drew ?_))
    have z1 := hb1.size
    (try simp at z1)
    obtain ⟨g1_0, g1_1, g1_2, g1_3, g1_4⟩ : v1.cell? ⟨w.heap.size, 0, none⟩ = some (.slice ta tl tc) ∧ v1.cell? ⟨w.heap.size, 1, none⟩ = some (.slice ma ml mc) ∧ v1.cell? ⟨w.heap.size + 1, 0, none⟩ = some (.int .i64 mc') ∧ v1.cell? ⟨w.heap.size + 1, 1, none⟩ = some (.int .i64 mt) ∧ v1.cell? ⟨w.heap.size + 1, 2, none⟩ = some (.int .i64 mA) :=
      ⟨(hb1.cell (p := ⟨w.heap.size, 0, none⟩) (by first | omega | (simp; done) | (simp; omega))).trans (by first | (go_simp; done) | (go_simp; exact set_same (u := .int .i64 0) (by go_simp; done))), (hb1.cell (p := ⟨w.heap.size, 1, none⟩) (by first | omega | (simp; done) | (simp; omega))).trans (by first | (go_simp; done) | (go_simp; exact set_same (u := .int .i64 0) (by go_simp; done))), (hb1.cell (p := ⟨w.heap.size + 1, 0, none⟩) (by first | omega | (simp; done) | (simp; omega))).trans (by first | (go_simp; done) | (go_simp; exact set_same (u := .int .i64 0) (by go_simp; done))), (hb1.cell (p := ⟨w.heap.size + 1, 1, none⟩) (by first | omega | (simp; done) | (simp; omega))).trans (by first | (go_simp; done) | (go_simp; exact set_same (u := .int .i64 0) (by go_simp; done))), (hb1.cell (p := ⟨w.heap.size + 1, 2, none⟩) (by first | omega | (simp; done) | (simp; omega))).trans (by first | (go_simp; done) | (go_simp; exact set_same (u := .int .i64 0) (by go_simp; done)))⟩
    have q1_0 : w.heap.size < v1.heap.size := by first | omega | (simp at *; omega)
    have q1_1 : w.heap.size + 1 < v1.heap.size := by first | omega | (simp at *; omega)
    have HB1 := Lib.hid hB1_0
    have y1 := hB1_0.size
    clear hb1 hB1_0 g0_0 g0_1 g0_2 g0_3 g0_4 q0_0 q0_1
    clear HX1_2
    go_wp2_with fail
    go_ret
    exact ⟨ret_bool (by simp), HBW.out.trans (Below.mono (by repeat (first | exact Below.refl _ _ | with_reducible exact HB1.out | (refine Below.alloc ?_ (by first | omega | (simp; omega) | simp) _) | (refine Below.setCell ?_ (by first | omega | (simp; omega) | simp) _) | refine Below.drew ?_)) HBW.out.size)⟩
  · rcases h2 : btw mt 0 ((tl : Int) - 1) with - | -
    · clear htm HTC htl
      go_enter Try.func103, Try.ntmps103
      go_wp2_with fail
      obtain ⟨W0, hW0, hB0, ⟨g0_0, g0_1, g0_2, g0_3, g0_4⟩, hz0⟩ : ∃ W0, ((w.alloc (.cells #[.slice ta tl tc, .slice ma ml mc] 75)).alloc (.cells #[.int .i64 mc', .int .i64 mt, .int .i64 mA] 52)) = W0 ∧ Below w.heap.size w W0 ∧ (W0.cell? ⟨w.heap.size, 0, none⟩ = some (.slice ta tl tc) ∧ W0.cell? ⟨w.heap.size, 1, none⟩ = some (.slice ma ml mc) ∧ W0.cell? ⟨w.heap.size + 1, 0, none⟩ = some (.int .i64 mc') ∧ W0.cell? ⟨w.heap.size + 1, 1, none⟩ = some (.int .i64 mt) ∧ W0.cell? ⟨w.heap.size + 1, 2, none⟩ = some (.int .i64 mA)) ∧ W0.heap.size = w.heap.size + 1 + 1 :=
        ⟨_, rfl, (by repeat (first | exact Below.refl _ _ | (refine Below.alloc ?_ (by first | omega | (simp; omega) | simp) _) | (refine Below.setCell ?_ (by first | omega | (simp; omega) | simp) _) | refine Below.drew ?_)), ⟨by go_simp, by go_simp, by go_simp, by go_simp, by go_simp⟩, by simp⟩
      rw [hW0]
      clear hW0
      have HBW := Lib.hid hB0
      have q0_0 : w.heap.size < W0.heap.size := by omega
      have q0_1 : w.heap.size + 1 < W0.heap.size := by omega
      clear hB0 hz0
      have HV1 : Below w.heap.size w W0 := (HBW.out.trans (Below.mono (by repeat (first | exact Below.refl _ _ | (refine Below.alloc ?_ (by first | omega | (simp; omega) | simp) _) | (refine Below.setCell ?_ (by first | omega | (simp; omega) | simp) _) | refine Below.drew ?_)) HBW.out.size))
      have HX1_2 := Lib.hid (fun W (h : Below W0.heap.size W0 W ∧ ∀ b o, b < W0.heap.size → W.cell? ⟨b, o, none⟩ = W0.cell? ⟨b, o, none⟩) => bothS1 (W0 := W0) (isChange_b _ true h1 W) h)
      have HX1_8 := Lib.hid (fun W (h : Below W0.heap.size W0 W ∧ ∀ b o, b < W0.heap.size → W.cell? ⟨b, o, none⟩ = W0.cell? ⟨b, o, none⟩) => bothS1 (W0 := W0) (HT.out _ W false h2) h)
      clear HV1
      go_upto_region 1 with fail
      go_cut [4] (fun v4x wx => v4x = .bool true ∧ Below W0.heap.size W0 wx)
      case first =>
        refine wp_region_noPanic ?_
        refine wp_region_held_drew (S := (fun w' => Below W0.heap.size W0 w' ∧ ∀ b o, b < W0.heap.size → w'.cell? ⟨b, o, none⟩ = W0.cell? ⟨b, o, none⟩)) (by kernel_rfl) ?_ (fun hHeld => ?_)
        · (first | with_reducible assumption | ((repeat (first | with_reducible refine bothS_drew ?_ | with_reducible refine bothS_alloc _ ?_ | with_reducible refine bothS_set _ _ (by first | omega | (simp; omega) | simp) ?_)); first | with_reducible assumption | with_reducible exact Hid.out (by assumption) | with_reducible exact ⟨Below.refl _ _, fun _ _ _ => rfl⟩))
        refine takeH 0 ?_; (try simp only [Act.put, List.setIfInBounds_toArray, List.set_cons_zero, List.set_cons_succ])
        refine takeH 1 ?_; (try simp only [Act.put, List.setIfInBounds_toArray, List.set_cons_zero, List.set_cons_succ])
        refine readyH 2 (fun K hK => ?_); go_simp; (go_at_call 60; with_reducible refine (HX1_2.out _ ?_).mono ?_; (first | with_reducible assumption | ((repeat (first | with_reducible refine bothS_drew ?_ | with_reducible refine bothS_alloc _ ?_ | with_reducible refine bothS_set _ _ (by first | omega | (simp; omega) | simp) ?_)); first | with_reducible assumption | with_reducible exact Hid.out (by assumption) | with_reducible exact ⟨Below.refl _ _, fun _ _ _ => rfl⟩)); rintro e w' ⟨rfl, k, k1, k2, k3⟩; have HK := Lib.hid k; (try simp at k3); (try have k6 := Nat.lt_of_succ_le k3); (try have k7 := Nat.lt_of_succ_lt k6); (try have k8 := Nat.lt_of_succ_lt k3)); refine hK.out _ _ ?_ (fun hHeld => ?_); (· (first | with_reducible assumption | ((repeat (first | with_reducible refine bothS_drew ?_ | with_reducible refine bothS_alloc _ ?_ | with_reducible refine bothS_set _ _ (by first | omega | (simp; omega) | simp) ?_)); first | with_reducible assumption | with_reducible exact Hid.out (by assumption) | with_reducible exact ⟨Below.refl _ _, fun _ _ _ => rfl⟩))); clear hK K; (try simp only [Act.put, List.setIfInBounds_toArray, List.set_cons_zero, List.set_cons_succ])
        refine takeH 3 ?_; (try simp only [Act.put, List.setIfInBounds_toArray, List.set_cons_zero, List.set_cons_succ])
        refine takeH 4 ?_; (try simp only [Act.put, List.setIfInBounds_toArray, List.set_cons_zero, List.set_cons_succ])
        refine takeH 5 ?_; (try simp only [Act.put, List.setIfInBounds_toArray, List.set_cons_zero, List.set_cons_succ])
        refine takeH 6 ?_; (try simp only [Act.put, List.setIfInBounds_toArray, List.set_cons_zero, List.set_cons_succ])
        refine takeH 7 ?_; (try simp only [Act.put, List.setIfInBounds_toArray, List.set_cons_zero, List.set_cons_succ])
        refine readyH 8 (fun K hK => ?_); go_simp; (go_at_call 59; with_reducible refine (HX1_8.out _ ?_).mono ?_; (first | with_reducible assumption | ((repeat (first | with_reducible refine bothS_drew ?_ | with_reducible refine bothS_alloc _ ?_ | with_reducible refine bothS_set _ _ (by first | omega | (simp; omega) | simp) ?_)); first | with_reducible assumption | with_reducible exact Hid.out (by assumption) | with_reducible exact ⟨Below.refl _ _, fun _ _ _ => rfl⟩)); rintro e w' ⟨rfl, k, k1, k2, k3⟩; have HK := Lib.hid k; (try simp at k3); (try have k6 := Nat.lt_of_succ_le k3); (try have k7 := Nat.lt_of_succ_lt k6); (try have k8 := Nat.lt_of_succ_lt k3)); refine hK.out _ _ ?_ (fun hHeld => ?_); (· (first | with_reducible assumption | ((repeat (first | with_reducible refine bothS_drew ?_ | with_reducible refine bothS_alloc _ ?_ | with_reducible refine bothS_set _ _ (by first | omega | (simp; omega) | simp) ?_)); first | with_reducible assumption | with_reducible exact Hid.out (by assumption) | with_reducible exact ⟨Below.refl _ _, fun _ _ _ => rfl⟩))); clear hK K; (try simp only [Act.put, List.setIfInBounds_toArray, List.set_cons_zero, List.set_cons_succ])
        refine takeH 9 ?_; (try simp only [Act.put, List.setIfInBounds_toArray, List.set_cons_zero, List.set_cons_succ])
        refine takeH 10 ?_; (try simp only [Act.put, List.setIfInBounds_toArray, List.set_cons_zero, List.set_cons_succ])
        refine takeH 11 ?_; (try simp only [Act.put, List.setIfInBounds_toArray, List.set_cons_zero, List.set_cons_succ])
        refine skipH 12 ?_; (try simp only [Act.put, List.setIfInBounds_toArray, List.set_cons_zero, List.set_cons_succ])
        refine skipH 13 ?_; (try simp only [Act.put, List.setIfInBounds_toArray, List.set_cons_zero, List.set_cons_succ])
        refine skipH 14 ?_; (try simp only [Act.put, List.setIfInBounds_toArray, List.set_cons_zero, List.set_cons_succ])
        refine skipH 15 ?_; (try simp only [Act.put, List.setIfInBounds_toArray, List.set_cons_zero, List.set_cons_succ])
        refine skipH 16 ?_; (try simp only [Act.put, List.setIfInBounds_toArray, List.set_cons_zero, List.set_cons_succ])
        refine skipH 17 ?_; (try simp only [Act.put, List.setIfInBounds_toArray, List.set_cons_zero, List.set_cons_succ])
        refine skipH 18 ?_; (try simp only [Act.put, List.setIfInBounds_toArray, List.set_cons_zero, List.set_cons_succ])
        refine skipH 19 ?_; (try simp only [Act.put, List.setIfInBounds_toArray, List.set_cons_zero, List.set_cons_succ])
        refine skipH 20 ?_; (try simp only [Act.put, List.setIfInBounds_toArray, List.set_cons_zero, List.set_cons_succ])
        refine skipH 21 ?_; (try simp only [Act.put, List.setIfInBounds_toArray, List.set_cons_zero, List.set_cons_succ])
        refine skipH 22 ?_; (try simp only [Act.put, List.setIfInBounds_toArray, List.set_cons_zero, List.set_cons_succ])
        refine skipH 23 ?_; (try simp only [Act.put, List.setIfInBounds_toArray, List.set_cons_zero, List.set_cons_succ])
        refine takeH 24 ?_; (try simp only [Act.put, List.setIfInBounds_toArray, List.set_cons_zero, List.set_cons_succ])
        refine takeH 25 ?_; (try simp only [Act.put, List.setIfInBounds_toArray, List.set_cons_zero, List.set_cons_succ])
        refine wpAnyH_done (by kernel_rfl) ?_ _
        refine NoPanic.normal ?_
        go_wp2_with fail; go_meet; exact ⟨rfl, And.left (by assumption)⟩
      case rest =>
      obtain ⟨rfl, hb1⟩ := hcut
      obtain ⟨v1, rfl⟩ : ∃ v1 : World, v1 = wc := ⟨_, rfl⟩
      have hB1_0 : Below W0.heap.size W0 v1 := below_via (Lib.hid hb1) (by first | omega | (simp; done) | (simp; omega)) (by repeat (first | exact Below.refl _ _ | (refine Below.alloc ?_ (by first | omega | (simp; omega) | simp) _) | (refine Below.setCell ?_ (by first | omega | (simp; omega) | simp) _) | refine Below.drew ?_))
      have z1 := hb1.size
      (try simp at z1)
      obtain ⟨g1_0, g1_1, g1_2, g1_3, g1_4⟩ : v1.cell? ⟨w.heap.size, 0, none⟩ = some (.slice ta tl tc) ∧ v1.cell? ⟨w.heap.size, 1, none⟩ = some (.slice ma ml mc) ∧ v1.cell? ⟨w.heap.size + 1, 0, none⟩ = some (.int .i64 mc') ∧ v1.cell? ⟨w.heap.size + 1, 1, none⟩ = some (.int .i64 mt) ∧ v1.cell? ⟨w.heap.size + 1, 2, none⟩ = some (.int .i64 mA) :=
        ⟨(hb1.cell (p := ⟨w.heap.size, 0, none⟩) (by first | omega | (simp; done) | (simp; omega))).trans (by first | (go_simp; done) | (go_simp; exact set_same (u := .int .i64 0) (by go_simp; done))), (hb1.cell (p := ⟨w.heap.size, 1, none⟩) (by first | omega | (simp; done) | (simp; omega))).trans (by first | (go_simp; done) | (go_simp; exact set_same (u := .int .i64 0) (by go_simp; done))), (hb1.cell (p := ⟨w.heap.size + 1, 0, none⟩) (by first | omega | (simp; done) | (simp; omega))).trans (by first | (go_simp; done) | (go_simp; exact set_same (u := .int .i64 0) (by go_simp; done))), (hb1.cell (p := ⟨w.heap.size + 1, 1, none⟩) (by first | omega | (simp; done) | (simp; omega))).trans (by first | (go_simp; done) | (go_simp; exact set_same (u := .int .i64 0) (by go_simp; done))), (hb1.cell (p := ⟨w.heap.size + 1, 2, none⟩) (by first | omega | (simp; done) | (simp; omega))).trans (by first | (go_simp; done) | (go_simp; exact set_same (u := .int .i64 0) (by go_simp; done)))⟩
      have q1_0 : w.heap.size < v1.heap.size := by first | omega | (simp at *; omega)
      have q1_1 : w.heap.size + 1 < v1.heap.size := by first | omega | (simp at *; omega)
      have HB1 := Lib.hid hB1_0
      have y1 := hB1_0.size
      clear hb1 hB1_0 g0_0 g0_1 g0_2 g0_3 g0_4 q0_0 q0_1
      clear HX1_2 HX1_8
      go_wp2_with fail
      go_ret
      exact ⟨ret_bool (by simp), HBW.out.trans (Below.mono (by repeat (first | exact Below.refl _ _ | with_reducible exact HB1.out | (refine Below.alloc ?_ (by first | omega | (simp; omega) | simp) _) | (refine Below.setCell ?_ (by first | omega | (simp; omega) | simp) _) | refine Below.drew ?_)) HBW.out.size)⟩
    · obtain ⟨j, rfl⟩ : ∃ j : Nat, mt = (j : Int) := ⟨mt.toNat, by unfold btw at h2; simp at h2; omega⟩
      have hj : j < h.things.length := by unfold btw at h2; simp at h2; omega
      obtain ⟨tb, tz, rfl, htB, htcell⟩ := HTC.out (by omega)
      obtain ⟨-, d1, -⟩ := htcell j hj
      have hjt : (j : Int) < (tl : Int) := by omega
      have hj0 : (0 : Int) ≤ (j : Int) := by omega
      rw [Int.toNat_natCast, List.getElem?_eq_getElem hj]
      simp only [Option.map_some, Option.getD_some]
      clear htm HTC htl htcell
      generalize h.things[j].a = ta' at *
      rcases h3 : btw mA ta' 99 with - | -
      · skip
        go_enter Try.func103, Try.ntmps103
        go_wp2_with fail
        obtain ⟨W0, hW0, hB0, ⟨g0_0, g0_1, g0_2, g0_3, g0_4⟩, hz0⟩ : ∃ W0, ((w.alloc (.cells #[.slice (some ⟨tb, tz, none⟩) tl tc, .slice ma ml mc] 75)).alloc (.cells #[.int .i64 mc', .int .i64 j, .int .i64 mA] 52)) = W0 ∧ Below w.heap.size w W0 ∧ (W0.cell? ⟨w.heap.size, 0, none⟩ = some (.slice (some ⟨tb, tz, none⟩) tl tc) ∧ W0.cell? ⟨w.heap.size, 1, none⟩ = some (.slice ma ml mc) ∧ W0.cell? ⟨w.heap.size + 1, 0, none⟩ = some (.int .i64 mc') ∧ W0.cell? ⟨w.heap.size + 1, 1, none⟩ = some (.int .i64 j) ∧ W0.cell? ⟨w.heap.size + 1, 2, none⟩ = some (.int .i64 mA)) ∧ W0.heap.size = w.heap.size + 1 + 1 :=
          ⟨_, rfl, (by repeat (first | exact Below.refl _ _ | (refine Below.alloc ?_ (by first | omega | (simp; omega) | simp) _) | (refine Below.setCell ?_ (by first | omega | (simp; omega) | simp) _) | refine Below.drew ?_)), ⟨by go_simp, by go_simp, by go_simp, by go_simp, by go_simp⟩, by simp⟩
        rw [hW0]
        clear hW0
        have HBW := Lib.hid hB0
        have q0_0 : w.heap.size < W0.heap.size := by omega
        have q0_1 : w.heap.size + 1 < W0.heap.size := by omega
        clear hB0 hz0
        have g0_5 : W0.cell? ⟨tb, tz + j * 4 + 1, none⟩ = some (.int .i64 ta') := (HBW.out.cell (p := ⟨tb, _, none⟩) htB).trans d1
        have q0_2 : tb < W0.heap.size := Nat.lt_of_lt_of_le htB HBW.out.size
        have HV1 : Below w.heap.size w W0 := (HBW.out.trans (Below.mono (by repeat (first | exact Below.refl _ _ | (refine Below.alloc ?_ (by first | omega | (simp; omega) | simp) _) | (refine Below.setCell ?_ (by first | omega | (simp; omega) | simp) _) | refine Below.drew ?_)) HBW.out.size))
        have HX1_2 := Lib.hid (fun W (h : Below W0.heap.size W0 W ∧ ∀ b o, b < W0.heap.size → W.cell? ⟨b, o, none⟩ = W0.cell? ⟨b, o, none⟩) => bothS1 (W0 := W0) (isChange_b _ true h1 W) h)
        have HX1_8 := Lib.hid (fun W (h : Below W0.heap.size W0 W ∧ ∀ b o, b < W0.heap.size → W.cell? ⟨b, o, none⟩ = W0.cell? ⟨b, o, none⟩) => bothS1 (W0 := W0) (HT.out _ W true h2) h)
        have HX1_22 := Lib.hid (fun W (h : Below W0.heap.size W0 W ∧ ∀ b o, b < W0.heap.size → W.cell? ⟨b, o, none⟩ = W0.cell? ⟨b, o, none⟩) => bothS1 (W0 := W0) (between_b _ _ _ false h3 W) h)
        clear HV1
        go_upto_region 1 with fail
        go_cut [4] (fun v4x wx => v4x = .bool true ∧ Below W0.heap.size W0 wx)
        case first =>
          refine wp_region_noPanic ?_
          refine wp_region_held_drew (S := (fun w' => Below W0.heap.size W0 w' ∧ ∀ b o, b < W0.heap.size → w'.cell? ⟨b, o, none⟩ = W0.cell? ⟨b, o, none⟩)) (by kernel_rfl) ?_ (fun hHeld => ?_)
          · (first | with_reducible assumption | ((repeat (first | with_reducible refine bothS_drew ?_ | with_reducible refine bothS_alloc _ ?_ | with_reducible refine bothS_set _ _ (by first | omega | (simp; omega) | simp) ?_)); first | with_reducible assumption | with_reducible exact Hid.out (by assumption) | with_reducible exact ⟨Below.refl _ _, fun _ _ _ => rfl⟩))
          refine takeH 0 ?_; (try simp only [Act.put, List.setIfInBounds_toArray, List.set_cons_zero, List.set_cons_succ])
          refine takeH 1 ?_; (try simp only [Act.put, List.setIfInBounds_toArray, List.set_cons_zero, List.set_cons_succ])
          refine readyH 2 (fun K hK => ?_); go_simp; (go_at_call 60; with_reducible refine (HX1_2.out _ ?_).mono ?_; (first | with_reducible assumption | ((repeat (first | with_reducible refine bothS_drew ?_ | with_reducible refine bothS_alloc _ ?_ | with_reducible refine bothS_set _ _ (by first | omega | (simp; omega) | simp) ?_)); first | with_reducible assumption | with_reducible exact Hid.out (by assumption) | with_reducible exact ⟨Below.refl _ _, fun _ _ _ => rfl⟩)); rintro e w' ⟨rfl, k, k1, k2, k3⟩; have HK := Lib.hid k; (try simp at k3); (try have k6 := Nat.lt_of_succ_le k3); (try have k7 := Nat.lt_of_succ_lt k6); (try have k8 := Nat.lt_of_succ_lt k3)); refine hK.out _ _ ?_ (fun hHeld => ?_); (· (first | with_reducible assumption | ((repeat (first | with_reducible refine bothS_drew ?_ | with_reducible refine bothS_alloc _ ?_ | with_reducible refine bothS_set _ _ (by first | omega | (simp; omega) | simp) ?_)); first | with_reducible assumption | with_reducible exact Hid.out (by assumption) | with_reducible exact ⟨Below.refl _ _, fun _ _ _ => rfl⟩))); clear hK K; (try simp only [Act.put, List.setIfInBounds_toArray, List.set_cons_zero, List.set_cons_succ])
          refine takeH 3 ?_; (try simp only [Act.put, List.setIfInBounds_toArray, List.set_cons_zero, List.set_cons_succ])
          refine takeH 4 ?_; (try simp only [Act.put, List.setIfInBounds_toArray, List.set_cons_zero, List.set_cons_succ])
          refine takeH 5 ?_; (try simp only [Act.put, List.setIfInBounds_toArray, List.set_cons_zero, List.set_cons_succ])
          refine takeH 6 ?_; (try simp only [Act.put, List.setIfInBounds_toArray, List.set_cons_zero, List.set_cons_succ])
          refine takeH 7 ?_; (try simp only [Act.put, List.setIfInBounds_toArray, List.set_cons_zero, List.set_cons_succ])
          refine readyH 8 (fun K hK => ?_); go_simp; (go_at_call 59; with_reducible refine (HX1_8.out _ ?_).mono ?_; (first | with_reducible assumption | ((repeat (first | with_reducible refine bothS_drew ?_ | with_reducible refine bothS_alloc _ ?_ | with_reducible refine bothS_set _ _ (by first | omega | (simp; omega) | simp) ?_)); first | with_reducible assumption | with_reducible exact Hid.out (by assumption) | with_reducible exact ⟨Below.refl _ _, fun _ _ _ => rfl⟩)); rintro e w' ⟨rfl, k, k1, k2, k3⟩; have HK := Lib.hid k; (try simp at k3); (try have k6 := Nat.lt_of_succ_le k3); (try have k7 := Nat.lt_of_succ_lt k6); (try have k8 := Nat.lt_of_succ_lt k3)); refine hK.out _ _ ?_ (fun hHeld => ?_); (· (first | with_reducible assumption | ((repeat (first | with_reducible refine bothS_drew ?_ | with_reducible refine bothS_alloc _ ?_ | with_reducible refine bothS_set _ _ (by first | omega | (simp; omega) | simp) ?_)); first | with_reducible assumption | with_reducible exact Hid.out (by assumption) | with_reducible exact ⟨Below.refl _ _, fun _ _ _ => rfl⟩))); clear hK K; (try simp only [Act.put, List.setIfInBounds_toArray, List.set_cons_zero, List.set_cons_succ])
          refine takeH 9 ?_; (try simp only [Act.put, List.setIfInBounds_toArray, List.set_cons_zero, List.set_cons_succ])
          refine takeH 10 ?_; (try simp only [Act.put, List.setIfInBounds_toArray, List.set_cons_zero, List.set_cons_succ])
          refine takeH 11 ?_; (try simp only [Act.put, List.setIfInBounds_toArray, List.set_cons_zero, List.set_cons_succ])
          refine takeH 12 ?_; (try simp only [Act.put, List.setIfInBounds_toArray, List.set_cons_zero, List.set_cons_succ])
          refine takeH 13 ?_; (try simp only [Act.put, List.setIfInBounds_toArray, List.set_cons_zero, List.set_cons_succ])
          refine takeH 14 ?_; (try simp only [Act.put, List.setIfInBounds_toArray, List.set_cons_zero, List.set_cons_succ])
          refine takeH 15 ?_; (try simp only [Act.put, List.setIfInBounds_toArray, List.set_cons_zero, List.set_cons_succ])
          refine takeH 16 ?_; (try simp only [Act.put, List.setIfInBounds_toArray, List.set_cons_zero, List.set_cons_succ])
          refine takeH 17 ?_; (try simp only [Act.put, List.setIfInBounds_toArray, List.set_cons_zero, List.set_cons_succ])
          refine takeH 18 ?_; (try simp only [Act.put, List.setIfInBounds_toArray, List.set_cons_zero, List.set_cons_succ])
          refine takeH 19 ?_; (try simp only [Act.put, List.setIfInBounds_toArray, List.set_cons_zero, List.set_cons_succ])
          refine takeH 20 ?_; (try simp only [Act.put, List.setIfInBounds_toArray, List.set_cons_zero, List.set_cons_succ])
          refine takeH 21 ?_; (try simp only [Act.put, List.setIfInBounds_toArray, List.set_cons_zero, List.set_cons_succ])
          refine readyH 22 (fun K hK => ?_); go_simp; (go_at_call 86; with_reducible refine (HX1_22.out _ ?_).mono ?_; (first | with_reducible assumption | ((repeat (first | with_reducible refine bothS_drew ?_ | with_reducible refine bothS_alloc _ ?_ | with_reducible refine bothS_set _ _ (by first | omega | (simp; omega) | simp) ?_)); first | with_reducible assumption | with_reducible exact Hid.out (by assumption) | with_reducible exact ⟨Below.refl _ _, fun _ _ _ => rfl⟩)); rintro e w' ⟨rfl, k, k1, k2, k3⟩; have HK := Lib.hid k; (try simp at k3); (try have k6 := Nat.lt_of_succ_le k3); (try have k7 := Nat.lt_of_succ_lt k6); (try have k8 := Nat.lt_of_succ_lt k3)); refine hK.out _ _ ?_ (fun hHeld => ?_); (· (first | with_reducible assumption | ((repeat (first | with_reducible refine bothS_drew ?_ | with_reducible refine bothS_alloc _ ?_ | with_reducible refine bothS_set _ _ (by first | omega | (simp; omega) | simp) ?_)); first | with_reducible assumption | with_reducible exact Hid.out (by assumption) | with_reducible exact ⟨Below.refl _ _, fun _ _ _ => rfl⟩))); clear hK K; (try simp only [Act.put, List.setIfInBounds_toArray, List.set_cons_zero, List.set_cons_succ])
          refine takeH 23 ?_; (try simp only [Act.put, List.setIfInBounds_toArray, List.set_cons_zero, List.set_cons_succ])
          refine takeH 24 ?_; (try simp only [Act.put, List.setIfInBounds_toArray, List.set_cons_zero, List.set_cons_succ])
          refine takeH 25 ?_; (try simp only [Act.put, List.setIfInBounds_toArray, List.set_cons_zero, List.set_cons_succ])
          refine wpAnyH_done (by kernel_rfl) ?_ _
          refine NoPanic.normal ?_
          go_wp2_with fail; go_meet; exact ⟨rfl, And.left (by assumption)⟩
        case rest =>
        obtain ⟨rfl, hb1⟩ := hcut
        obtain ⟨v1, rfl⟩ : ∃ v1 : World, v1 = wc := ⟨_, rfl⟩
        have hB1_0 : Below W0.heap.size W0 v1 := below_via (Lib.hid hb1) (by first | omega | (simp; done) | (simp; omega)) (by repeat (first | exact Below.refl _ _ | (refine Below.alloc ?_ (by first | omega | (simp; omega) | simp) _) | (refine Below.setCell ?_ (by first | omega | (simp; omega) | simp) _) | refine Below.drew ?_))
        have z1 := hb1.size
        (try simp at z1)
        obtain ⟨g1_0, g1_1, g1_2, g1_3, g1_4, g1_5⟩ : v1.cell? ⟨w.heap.size, 0, none⟩ = some (.slice (some ⟨tb, tz, none⟩) tl tc) ∧ v1.cell? ⟨w.heap.size, 1, none⟩ = some (.slice ma ml mc) ∧ v1.cell? ⟨w.heap.size + 1, 0, none⟩ = some (.int .i64 mc') ∧ v1.cell? ⟨w.heap.size + 1, 1, none⟩ = some (.int .i64 j) ∧ v1.cell? ⟨w.heap.size + 1, 2, none⟩ = some (.int .i64 mA) ∧ v1.cell? ⟨tb, tz + j * 4 + 1, none⟩ = some (.int .i64 ta') :=
          ⟨(hb1.cell (p := ⟨w.heap.size, 0, none⟩) (by first | omega | (simp; done) | (simp; omega))).trans (by first | (go_simp; done) | (go_simp; exact set_same (u := .int .i64 0) (by go_simp; done))), (hb1.cell (p := ⟨w.heap.size, 1, none⟩) (by first | omega | (simp; done) | (simp; omega))).trans (by first | (go_simp; done) | (go_simp; exact set_same (u := .int .i64 0) (by go_simp; done))), (hb1.cell (p := ⟨w.heap.size + 1, 0, none⟩) (by first | omega | (simp; done) | (simp; omega))).trans (by first | (go_simp; done) | (go_simp; exact set_same (u := .int .i64 0) (by go_simp; done))), (hb1.cell (p := ⟨w.heap.size + 1, 1, none⟩) (by first | omega | (simp; done) | (simp; omega))).trans (by first | (go_simp; done) | (go_simp; exact set_same (u := .int .i64 0) (by go_simp; done))), (hb1.cell (p := ⟨w.heap.size + 1, 2, none⟩) (by first | omega | (simp; done) | (simp; omega))).trans (by first | (go_simp; done) | (go_simp; exact set_same (u := .int .i64 0) (by go_simp; done))), (hb1.cell (p := ⟨tb, tz + j * 4 + 1, none⟩) (by first | omega | (simp; done) | (simp; omega))).trans (by first | (go_simp; done) | (go_simp; exact set_same (u := .int .i64 0) (by go_simp; done)))⟩
        have q1_0 : w.heap.size < v1.heap.size := by first | omega | (simp at *; omega)
        have q1_1 : w.heap.size + 1 < v1.heap.size := by first | omega | (simp at *; omega)
        have q1_2 : tb < v1.heap.size := by first | omega | (simp at *; omega)
        have HB1 := Lib.hid hB1_0
        have y1 := hB1_0.size
        clear hb1 hB1_0 g0_0 g0_1 g0_2 g0_3 g0_4 g0_5 q0_0 q0_1 q0_2
        clear HX1_2 HX1_8 HX1_22
        go_wp2_with fail
        go_ret
        exact ⟨ret_bool (by simp), HBW.out.trans (Below.mono (by repeat (first | exact Below.refl _ _ | with_reducible exact HB1.out | (refine Below.alloc ?_ (by first | omega | (simp; omega) | simp) _) | (refine Below.setCell ?_ (by first | omega | (simp; omega) | simp) _) | refine Below.drew ?_)) HBW.out.size)⟩
      · skip
        go_enter Try.func103, Try.ntmps103
        go_wp2_with fail
        obtain ⟨W0, hW0, hB0, ⟨g0_0, g0_1, g0_2, g0_3, g0_4⟩, hz0⟩ : ∃ W0, ((w.alloc (.cells #[.slice (some ⟨tb, tz, none⟩) tl tc, .slice ma ml mc] 75)).alloc (.cells #[.int .i64 mc', .int .i64 j, .int .i64 mA] 52)) = W0 ∧ Below w.heap.size w W0 ∧ (W0.cell? ⟨w.heap.size, 0, none⟩ = some (.slice (some ⟨tb, tz, none⟩) tl tc) ∧ W0.cell? ⟨w.heap.size, 1, none⟩ = some (.slice ma ml mc) ∧ W0.cell? ⟨w.heap.size + 1, 0, none⟩ = some (.int .i64 mc') ∧ W0.cell? ⟨w.heap.size + 1, 1, none⟩ = some (.int .i64 j) ∧ W0.cell? ⟨w.heap.size + 1, 2, none⟩ = some (.int .i64 mA)) ∧ W0.heap.size = w.heap.size + 1 + 1 :=
          ⟨_, rfl, (by repeat (first | exact Below.refl _ _ | (refine Below.alloc ?_ (by first | omega | (simp; omega) | simp) _) | (refine Below.setCell ?_ (by first | omega | (simp; omega) | simp) _) | refine Below.drew ?_)), ⟨by go_simp, by go_simp, by go_simp, by go_simp, by go_simp⟩, by simp⟩
        rw [hW0]
        clear hW0
        have HBW := Lib.hid hB0
        have q0_0 : w.heap.size < W0.heap.size := by omega
        have q0_1 : w.heap.size + 1 < W0.heap.size := by omega
        clear hB0 hz0
        have g0_5 : W0.cell? ⟨tb, tz + j * 4 + 1, none⟩ = some (.int .i64 ta') := (HBW.out.cell (p := ⟨tb, _, none⟩) htB).trans d1
        have q0_2 : tb < W0.heap.size := Nat.lt_of_lt_of_le htB HBW.out.size
        have HV1 : Below w.heap.size w W0 := (HBW.out.trans (Below.mono (by repeat (first | exact Below.refl _ _ | (refine Below.alloc ?_ (by first | omega | (simp; omega) | simp) _) | (refine Below.setCell ?_ (by first | omega | (simp; omega) | simp) _) | refine Below.drew ?_)) HBW.out.size))
        have HX1_2 := Lib.hid (fun W (h : Below W0.heap.size W0 W ∧ ∀ b o, b < W0.heap.size → W.cell? ⟨b, o, none⟩ = W0.cell? ⟨b, o, none⟩) => bothS1 (W0 := W0) (isChange_b _ true h1 W) h)
        have HX1_8 := Lib.hid (fun W (h : Below W0.heap.size W0 W ∧ ∀ b o, b < W0.heap.size → W.cell? ⟨b, o, none⟩ = W0.cell? ⟨b, o, none⟩) => bothS1 (W0 := W0) (HT.out _ W true h2) h)
        have HX1_22 := Lib.hid (fun W (h : Below W0.heap.size W0 W ∧ ∀ b o, b < W0.heap.size → W.cell? ⟨b, o, none⟩ = W0.cell? ⟨b, o, none⟩) => bothS1 (W0 := W0) (between_b _ _ _ true h3 W) h)
        clear HV1
        go_upto_region 1 with fail
        go_cut [4] (fun v4x wx => v4x = .bool false ∧ Below W0.heap.size W0 wx)
        case first =>
          refine wp_region_noPanic ?_
          refine wp_region_held_drew (S := (fun w' => Below W0.heap.size W0 w' ∧ ∀ b o, b < W0.heap.size → w'.cell? ⟨b, o, none⟩ = W0.cell? ⟨b, o, none⟩)) (by kernel_rfl) ?_ (fun hHeld => ?_)
          · (first | with_reducible assumption | ((repeat (first | with_reducible refine bothS_drew ?_ | with_reducible refine bothS_alloc _ ?_ | with_reducible refine bothS_set _ _ (by first | omega | (simp; omega) | simp) ?_)); first | with_reducible assumption | with_reducible exact Hid.out (by assumption) | with_reducible exact ⟨Below.refl _ _, fun _ _ _ => rfl⟩))
          refine takeH 0 ?_; (try simp only [Act.put, List.setIfInBounds_toArray, List.set_cons_zero, List.set_cons_succ])
          refine takeH 1 ?_; (try simp only [Act.put, List.setIfInBounds_toArray, List.set_cons_zero, List.set_cons_succ])
          refine readyH 2 (fun K hK => ?_); go_simp; (go_at_call 60; with_reducible refine (HX1_2.out _ ?_).mono ?_; (first | with_reducible assumption | ((repeat (first | with_reducible refine bothS_drew ?_ | with_reducible refine bothS_alloc _ ?_ | with_reducible refine bothS_set _ _ (by first | omega | (simp; omega) | simp) ?_)); first | with_reducible assumption | with_reducible exact Hid.out (by assumption) | with_reducible exact ⟨Below.refl _ _, fun _ _ _ => rfl⟩)); rintro e w' ⟨rfl, k, k1, k2, k3⟩; have HK := Lib.hid k; (try simp at k3); (try have k6 := Nat.lt_of_succ_le k3); (try have k7 := Nat.lt_of_succ_lt k6); (try have k8 := Nat.lt_of_succ_lt k3)); refine hK.out _ _ ?_ (fun hHeld => ?_); (· (first | with_reducible assumption | ((repeat (first | with_reducible refine bothS_drew ?_ | with_reducible refine bothS_alloc _ ?_ | with_reducible refine bothS_set _ _ (by first | omega | (simp; omega) | simp) ?_)); first | with_reducible assumption | with_reducible exact Hid.out (by assumption) | with_reducible exact ⟨Below.refl _ _, fun _ _ _ => rfl⟩))); clear hK K; (try simp only [Act.put, List.setIfInBounds_toArray, List.set_cons_zero, List.set_cons_succ])
          refine takeH 3 ?_; (try simp only [Act.put, List.setIfInBounds_toArray, List.set_cons_zero, List.set_cons_succ])
          refine takeH 4 ?_; (try simp only [Act.put, List.setIfInBounds_toArray, List.set_cons_zero, List.set_cons_succ])
          refine takeH 5 ?_; (try simp only [Act.put, List.setIfInBounds_toArray, List.set_cons_zero, List.set_cons_succ])
          refine takeH 6 ?_; (try simp only [Act.put, List.setIfInBounds_toArray, List.set_cons_zero, List.set_cons_succ])
          refine takeH 7 ?_; (try simp only [Act.put, List.setIfInBounds_toArray, List.set_cons_zero, List.set_cons_succ])
          refine readyH 8 (fun K hK => ?_); go_simp; (go_at_call 59; with_reducible refine (HX1_8.out _ ?_).mono ?_; (first | with_reducible assumption | ((repeat (first | with_reducible refine bothS_drew ?_ | with_reducible refine bothS_alloc _ ?_ | with_reducible refine bothS_set _ _ (by first | omega | (simp; omega) | simp) ?_)); first | with_reducible assumption | with_reducible exact Hid.out (by assumption) | with_reducible exact ⟨Below.refl _ _, fun _ _ _ => rfl⟩)); rintro e w' ⟨rfl, k, k1, k2, k3⟩; have HK := Lib.hid k; (try simp at k3); (try have k6 := Nat.lt_of_succ_le k3); (try have k7 := Nat.lt_of_succ_lt k6); (try have k8 := Nat.lt_of_succ_lt k3)); refine hK.out _ _ ?_ (fun hHeld => ?_); (· (first | with_reducible assumption | ((repeat (first | with_reducible refine bothS_drew ?_ | with_reducible refine bothS_alloc _ ?_ | with_reducible refine bothS_set _ _ (by first | omega | (simp; omega) | simp) ?_)); first | with_reducible assumption | with_reducible exact Hid.out (by assumption) | with_reducible exact ⟨Below.refl _ _, fun _ _ _ => rfl⟩))); clear hK K; (try simp only [Act.put, List.setIfInBounds_toArray, List.set_cons_zero, List.set_cons_succ])
          refine takeH 9 ?_; (try simp only [Act.put, List.setIfInBounds_toArray, List.set_cons_zero, List.set_cons_succ])
          refine takeH 10 ?_; (try simp only [Act.put, List.setIfInBounds_toArray, List.set_cons_zero, List.set_cons_succ])
          refine takeH 11 ?_; (try simp only [Act.put, List.setIfInBounds_toArray, List.set_cons_zero, List.set_cons_succ])
          refine takeH 12 ?_; (try simp only [Act.put, List.setIfInBounds_toArray, List.set_cons_zero, List.set_cons_succ])
          refine takeH 13 ?_; (try simp only [Act.put, List.setIfInBounds_toArray, List.set_cons_zero, List.set_cons_succ])
          refine takeH 14 ?_; (try simp only [Act.put, List.setIfInBounds_toArray, List.set_cons_zero, List.set_cons_succ])
          refine takeH 15 ?_; (try simp only [Act.put, List.setIfInBounds_toArray, List.set_cons_zero, List.set_cons_succ])
          refine takeH 16 ?_; (try simp only [Act.put, List.setIfInBounds_toArray, List.set_cons_zero, List.set_cons_succ])
          refine takeH 17 ?_; (try simp only [Act.put, List.setIfInBounds_toArray, List.set_cons_zero, List.set_cons_succ])
          refine takeH 18 ?_; (try simp only [Act.put, List.setIfInBounds_toArray, List.set_cons_zero, List.set_cons_succ])
          refine takeH 19 ?_; (try simp only [Act.put, List.setIfInBounds_toArray, List.set_cons_zero, List.set_cons_succ])
          refine takeH 20 ?_; (try simp only [Act.put, List.setIfInBounds_toArray, List.set_cons_zero, List.set_cons_succ])
          refine takeH 21 ?_; (try simp only [Act.put, List.setIfInBounds_toArray, List.set_cons_zero, List.set_cons_succ])
          refine readyH 22 (fun K hK => ?_); go_simp; (go_at_call 86; with_reducible refine (HX1_22.out _ ?_).mono ?_; (first | with_reducible assumption | ((repeat (first | with_reducible refine bothS_drew ?_ | with_reducible refine bothS_alloc _ ?_ | with_reducible refine bothS_set _ _ (by first | omega | (simp; omega) | simp) ?_)); first | with_reducible assumption | with_reducible exact Hid.out (by assumption) | with_reducible exact ⟨Below.refl _ _, fun _ _ _ => rfl⟩)); rintro e w' ⟨rfl, k, k1, k2, k3⟩; have HK := Lib.hid k; (try simp at k3); (try have k6 := Nat.lt_of_succ_le k3); (try have k7 := Nat.lt_of_succ_lt k6); (try have k8 := Nat.lt_of_succ_lt k3)); refine hK.out _ _ ?_ (fun hHeld => ?_); (· (first | with_reducible assumption | ((repeat (first | with_reducible refine bothS_drew ?_ | with_reducible refine bothS_alloc _ ?_ | with_reducible refine bothS_set _ _ (by first | omega | (simp; omega) | simp) ?_)); first | with_reducible assumption | with_reducible exact Hid.out (by assumption) | with_reducible exact ⟨Below.refl _ _, fun _ _ _ => rfl⟩))); clear hK K; (try simp only [Act.put, List.setIfInBounds_toArray, List.set_cons_zero, List.set_cons_succ])
          refine takeH 23 ?_; (try simp only [Act.put, List.setIfInBounds_toArray, List.set_cons_zero, List.set_cons_succ])
          refine takeH 24 ?_; (try simp only [Act.put, List.setIfInBounds_toArray, List.set_cons_zero, List.set_cons_succ])
          refine takeH 25 ?_; (try simp only [Act.put, List.setIfInBounds_toArray, List.set_cons_zero, List.set_cons_succ])
          refine wpAnyH_done (by kernel_rfl) ?_ _
          refine NoPanic.normal ?_
          go_wp2_with fail; go_meet; exact ⟨rfl, And.left (by assumption)⟩
        case rest =>
        obtain ⟨rfl, hb1⟩ := hcut
        obtain ⟨v1, rfl⟩ : ∃ v1 : World, v1 = wc := ⟨_, rfl⟩
        have hB1_0 : Below W0.heap.size W0 v1 := below_via (Lib.hid hb1) (by first | omega | (simp; done) | (simp; omega)) (by repeat (first | exact Below.refl _ _ | (refine Below.alloc ?_ (by first | omega | (simp; omega) | simp) _) | (refine Below.setCell ?_ (by first | omega | (simp; omega) | simp) _) | refine Below.drew ?_))
        have z1 := hb1.size
        (try simp at z1)
        obtain ⟨g1_0, g1_1, g1_2, g1_3, g1_4, g1_5⟩ : v1.cell? ⟨w.heap.size, 0, none⟩ = some (.slice (some ⟨tb, tz, none⟩) tl tc) ∧ v1.cell? ⟨w.heap.size, 1, none⟩ = some (.slice ma ml mc) ∧ v1.cell? ⟨w.heap.size + 1, 0, none⟩ = some (.int .i64 mc') ∧ v1.cell? ⟨w.heap.size + 1, 1, none⟩ = some (.int .i64 j) ∧ v1.cell? ⟨w.heap.size + 1, 2, none⟩ = some (.int .i64 mA) ∧ v1.cell? ⟨tb, tz + j * 4 + 1, none⟩ = some (.int .i64 ta') :=
          ⟨(hb1.cell (p := ⟨w.heap.size, 0, none⟩) (by first | omega | (simp; done) | (simp; omega))).trans (by first | (go_simp; done) | (go_simp; exact set_same (u := .int .i64 0) (by go_simp; done))), (hb1.cell (p := ⟨w.heap.size, 1, none⟩) (by first | omega | (simp; done) | (simp; omega))).trans (by first | (go_simp; done) | (go_simp; exact set_same (u := .int .i64 0) (by go_simp; done))), (hb1.cell (p := ⟨w.heap.size + 1, 0, none⟩) (by first | omega | (simp; done) | (simp; omega))).trans (by first | (go_simp; done) | (go_simp; exact set_same (u := .int .i64 0) (by go_simp; done))), (hb1.cell (p := ⟨w.heap.size + 1, 1, none⟩) (by first | omega | (simp; done) | (simp; omega))).trans (by first | (go_simp; done) | (go_simp; exact set_same (u := .int .i64 0) (by go_simp; done))), (hb1.cell (p := ⟨w.heap.size + 1, 2, none⟩) (by first | omega | (simp; done) | (simp; omega))).trans (by first | (go_simp; done) | (go_simp; exact set_same (u := .int .i64 0) (by go_simp; done))), (hb1.cell (p := ⟨tb, tz + j * 4 + 1, none⟩) (by first | omega | (simp; done) | (simp; omega))).trans (by first | (go_simp; done) | (go_simp; exact set_same (u := .int .i64 0) (by go_simp; done)))⟩
        have q1_0 : w.heap.size < v1.heap.size := by first | omega | (simp at *; omega)
        have q1_1 : w.heap.size + 1 < v1.heap.size := by first | omega | (simp at *; omega)
        have q1_2 : tb < v1.heap.size := by first | omega | (simp at *; omega)
        have HB1 := Lib.hid hB1_0
        have y1 := hB1_0.size
        clear hb1 hB1_0 g0_0 g0_1 g0_2 g0_3 g0_4 g0_5 q0_0 q0_1 q0_2
        clear HX1_2 HX1_8 HX1_22
        go_wp2_with fail
        go_ret
        exact ⟨ret_bool (by simp), HBW.out.trans (Below.mono (by repeat (first | exact Below.refl _ _ | with_reducible exact HB1.out | (refine Below.alloc ?_ (by first | omega | (simp; omega) | simp) _) | (refine Below.setCell ?_ (by first | omega | (simp; omega) | simp) _) | refine Below.drew ?_)) HBW.out.size)⟩
/-- Where the first mark is that does not stand, -1 if nowhere. -/
def CHouse.badI (h : CHouse) (ms : List CMark) : Int := match ms.findIdx? (fun m => !h.markB m) with
  | some i => (i : Int)
  | none => -1
theorem badI_at {h : CHouse} {ms : List CMark} {k : Nat} (hk : k < ms.length) (hb : h.markB ms[k] = false) (hall : ∀ i (hi : i < ms.length), i < k → h.markB ms[i] = true) : h.badI ms = (k : Int) := by
  have : ms.findIdx? (fun m => !h.markB m) = some k := by
    rw [List.findIdx?_eq_some_iff_getElem]
    exact ⟨hk, by simp [hb], fun j hj => by simp [hall j (by omega) hj]⟩
  unfold CHouse.badI; rw [this]
theorem badI_no {h : CHouse} {ms : List CMark} (hall : ∀ i (hi : i < ms.length), h.markB ms[i] = true) : h.badI ms = -1 := by
  have : ms.findIdx? (fun m => !h.markB m) = none := by
    rw [List.findIdx?_eq_none_iff]
    intro y hy
    obtain ⟨i, hi, rfl⟩ := List.mem_iff_getElem.1 hy
    simp [hall i hi]
  unfold CHouse.badI; rw [this]
theorem badI_all (h : CHouse) (ms : List CMark) : decide (0 ≤ h.badI ms) = !ms.all h.markB := by
  unfold CHouse.badI
  cases e : ms.findIdx? (fun m => !h.markB m) with
  | none =>
    rw [List.findIdx?_eq_none_iff] at e
    have : ms.all h.markB = true := List.all_eq_true.2 fun m hm => by simpa using e m hm
    rw [this]; rfl
  | some i =>
    obtain ⟨hi, hb, -⟩ := (List.findIdx?_eq_some_iff_getElem ..).1 e
    have : ms.all h.markB = false := List.all_eq_false.2 ⟨ms[i], List.getElem_mem hi, by simpa using hb⟩
    rw [this]; simp
set_option maxRecDepth 100000 in
set_option maxHeartbeats 8000000 in
theorem IndexMark_any (h : CHouse) (ta : Option Addr) (tl tc : Nat) (ma : Option Addr) (ml mc : Nat) (xa : Option Addr) (xl xc : Nat) (ms : List CMark) (w : World) (hp : HAt w ta tl tc ma ml mc h) (hx : MarksAt w xa xl ms) :
    Calls Try.prog 114 #[.slice xa xl xc, .func (.func 103) #[.agg #[.slice ta tl tc, .slice ma ml mc]] #[]] w fun e w' => e = .returned (.int .i64 (h.badI ms)) ∧ Below w.heap.size w w' := by
  obtain ⟨hxl, hxm, hxc⟩ := hx
  unfold maxLen at hxm
  have HXL := Lib.hid hxl
  have HXC := Lib.hid hxc
  have HIM := Lib.hid (fun m b (hb : (!h.markB m) = b) W (hw : Below w.heap.size w W) => show Calls Try.prog 103 #[.agg #[.slice ta tl tc, .slice ma ml mc], .agg #[.int .i64 m.c, .int .i64 m.t, .int .i64 m.a]] W fun e w' => e = .returned (.bool b) ∧ Below W.heap.size W w' from hb ▸ invalidMark_any h ta tl tc ma ml mc m W (hp.below hw))
  have HAT := Lib.hid (fun k (hk : k < ms.length) hb hall => badI_at (h := h) hk hb hall)
  have HNO := Lib.hid (fun hall => badI_no (h := h) (ms := ms) hall)
  clear hxl hxc hp
  go_enter Try.func114, Try.ntmps114
  go_wp2_with fail
  go_loopw [8] (fun i wr => ∃ k : Nat, k ≤ xl ∧ i = .int .i64 k ∧ (∀ i (hi : i < ms.length), i < k → h.markB ms[i] = true) ∧ Below w.heap.size w wr) (fun i _ => xl - (intOf i).toNat)
  case atStart => exact ⟨0, by omega, rfl, fun i _ h => by omega, Below.refl _ _⟩
  case round =>
    obtain ⟨k, hk, rfl, hall, hB⟩ := hrel
    obtain ⟨W1, rfl⟩ : ∃ W1 : World, W1 = wr := ⟨_, rfl⟩
    have HALL := Lib.hid hall
    have HB := Lib.hid hB
    clear hall
    by_cases hlt : k < xl
    · have hk2 : k < ms.length := by rw [HXL.out]; exact hlt
      obtain ⟨xb, xo, rfl, hxB, hxcell⟩ := HXC.out (by omega)
      obtain ⟨d0, d1, d2⟩ := hxcell k hk2
      have c0 := (hB.cell (p := ⟨xb, _, none⟩) hxB).trans d0
      have c1 := (hB.cell (p := ⟨xb, _, none⟩) hxB).trans d1
      have c2 := (hB.cell (p := ⟨xb, _, none⟩) hxB).trans d2
      have hkl : (k : Int) < (xl : Int) := by omega
      have hk0 : (0 : Int) ≤ (k : Int) := by omega
      clear hxcell d0 d1 d2 hB
      rcases hv : h.markB ms[k] with - | -
      · have HA := Lib.hid (HAT.out k hk2 hv HALL.out)
        have HC := Lib.hid (HIM.out ms[k] true (by rw [hv]; rfl) W1 HB.out)
        clear hv
        generalize ms[k] = m at *
        go_wp2_with fail
        refine HC.out.mono ?_
        rintro e w' ⟨rfl, hb2⟩
        go_wp2_with fail
        go_ret
        exact ⟨ret_i64 HA.out.symm, HB.out.trans (hb2.mono HB.out.size)⟩
      · have HN := Lib.hid (show ∀ i (hi : i < ms.length), i < k + 1 → h.markB ms[i] = true from fun i hi hik => by
          by_cases e : i = k
          · subst e; exact hv
          · exact HALL.out i hi (by omega))
        have HC := Lib.hid (HIM.out ms[k] false (by rw [hv]; rfl) W1 HB.out)
        clear hv
        generalize ms[k] = m at *
        go_wp2_with fail
        refine HC.out.mono ?_
        rintro e w' ⟨rfl, hb2⟩
        go_wp2_with fail
        go_roundw
        case rel => exact ⟨k + 1, by omega, by go_num, HN.out, HB.out.trans (hb2.mono HB.out.size)⟩
        case measure => simp [intOf]; omega
    · obtain rfl : xl = k := by omega
      have HR := Lib.hid (HNO.out (fun i hi => HALL.out i hi (by have := HXL.out; omega)))
      go_wp2_with fail
      go_ret
      exact ⟨ret_i64 HR.out.symm, HB.out⟩
set_option maxHeartbeats 1000000 in
theorem ContainsMark_any (h : CHouse) (ta : Option Addr) (tl tc : Nat) (ma : Option Addr) (ml mc : Nat) (xa : Option Addr) (xl xc : Nat) (ms : List CMark) (w : World) (hp : HAt w ta tl tc ma ml mc h) (hx : MarksAt w xa xl ms) :
    Calls Try.prog 102 #[.slice xa xl xc, .func (.func 103) #[.agg #[.slice ta tl tc, .slice ma ml mc]] #[]] w fun e w' => e = .returned (.bool (!ms.all h.markB)) ∧ Below w.heap.size w w' := by
  have HI := Lib.hid (IndexMark_any h ta tl tc ma ml mc xa xl xc ms w hp hx)
  have HR := Lib.hid (badI_all h ms)
  clear hp hx
  generalize h.badI ms = n at *
  go_enter Try.func102, Try.ntmps102
  go_wp2_with fail
  refine HI.out.mono ?_
  rintro e w' ⟨rfl, hb⟩
  go_wp2_with fail
  go_ret
  exact ⟨ret_bool HR.out, hb⟩
end Go.Proofs.Ytedfdhpggghjeaa
