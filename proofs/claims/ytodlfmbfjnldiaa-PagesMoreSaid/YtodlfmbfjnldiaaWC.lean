/- The law of more strips and more slack of pages: it holds. -/
import Derived.Test.YtodlfmbfjnldiaaWB
import Derived.Test.YtodlfmbfjnldiaaZY
import Derived.Test.YtodlfmbfjnldiaaUC
namespace Go.Proofs.Ytodlfmbfjnldiaa
set_option linter.unusedVariables false
set_option linter.unusedSimpArgs false
open Go.RowKit Go.Shelf

set_option maxRecDepth 100000 in
set_option maxHeartbeats 8000000 in
theorem more_p1 (f : PFrame) (sa : Option Addr) (sl sc : Nat) (pa : Option Addr) (pl pc : Nat) (ca : Option Addr) (cl cc : Nat) (kind slack : Int) (hr : f.ready = true) (hs : slack ≤ f.slack) (w : World) (hp : PAt w sa sl sc pa pl pc ca cl cc f) :
    Calls Try.prog 11 #[.agg #[.int .i64 f.len, .int .i64 f.slack, .slice sa sl sc, .slice pa pl pc, .slice ca cl cc], .int .i64 kind, .int .i64 slack] w fun e w' => e = .returned (.bool true) ∧ Below w.heap.size w w' := by
  have ho : f.ok = true := by unfold PFrame.ready at hr; simp only [Bool.and_eq_true] at hr; exact hr.2
  have HPP := Lib.hid (fun W (h : Below w.heap.size w W) => hp.below h)
  have HR1 := Lib.hid (fun W (h : Below w.heap.size w W) => ready_is f sa sl sc pa pl pc ca cl cc true hr W (hp.below h))
  obtain ⟨s1, s2, s3, s4⟩ := ok_sizes sa sl sc pa pl pc ca cl cc ho hp
  have HCP := Lib.hid (fun W (h : Below w.heap.size w W) => Copy_keeps f sa sl sc pa pl pc ca cl cc W (hp.below h) s1 s2 s3 s4)
  have HK := Lib.hid (fun W => works_any W)
  obtain ⟨hsl, hsm, hsc⟩ := hp.1
  unfold maxLen at hsm
  have HW := Lib.hid (fun b (h : btw kind 0 ((sl : Int) - 1) = b) W => Within_is kind 0 ((sl : Int) - 1) b h W)
  have hs' : ¬ f.slack < slack := by omega
  rcases h1 : btw kind 0 ((sl : Int) - 1) with - | -
  · have HWI := Lib.hid (HW.out _ h1)
    clear HW h1 hsc
    go_enter Try.func11, Try.ntmps11
    go_wp2_with fail
    obtain ⟨W0, hW0, hB0, ⟨g0_0, g0_1, g0_2, g0_3, g0_4⟩, hz0⟩ : ∃ W0, (w.alloc (.cells #[.int .i64 f.len, .int .i64 f.slack, .slice sa sl sc, .slice pa pl pc, .slice ca cl cc] 26)) = W0 ∧ Below w.heap.size w W0 ∧ (W0.cell? ⟨w.heap.size, 0, none⟩ = some (.int .i64 f.len) ∧ W0.cell? ⟨w.heap.size, 1, none⟩ = some (.int .i64 f.slack) ∧ W0.cell? ⟨w.heap.size, 2, none⟩ = some (.slice sa sl sc) ∧ W0.cell? ⟨w.heap.size, 3, none⟩ = some (.slice pa pl pc) ∧ W0.cell? ⟨w.heap.size, 4, none⟩ = some (.slice ca cl cc)) ∧ W0.heap.size = w.heap.size + 1 :=
      ⟨_, rfl, (by repeat (first | exact Below.refl _ _ | (refine Below.alloc ?_ (by first | omega | (simp; omega) | simp) _) | (refine Below.setCell ?_ (by first | omega | (simp; omega) | simp) _) | refine Below.drew ?_)), ⟨by go_simp, by go_simp, by go_simp, by go_simp, by go_simp⟩, by simp⟩
    rw [hW0]
    clear hW0
    have HBW := Lib.hid hB0
    have q0_0 : w.heap.size < W0.heap.size := by omega
    clear hB0 hz0
    go_wp2_with fail
    refine (HR1.out _ (HBW.out.trans (Below.mono (by repeat (first | exact Below.refl _ _ | (refine Below.alloc ?_ (by first | omega | (simp; omega) | simp) _) | (refine Below.setCell ?_ (by first | omega | (simp; omega) | simp) _) | refine Below.drew ?_)) HBW.out.size))).mono ?_
    rintro e v1 ⟨rfl, hb1⟩
    have hB1_0 : Below W0.heap.size W0 v1 := below_via (Lib.hid hb1) (by first | omega | (simp; done) | (simp; omega)) (by repeat (first | exact Below.refl _ _ | (refine Below.alloc ?_ (by first | omega | (simp; omega) | simp) _) | (refine Below.setCell ?_ (by first | omega | (simp; omega) | simp) _) | refine Below.drew ?_))
    have z1 := hb1.size
    (try simp at z1)
    obtain ⟨g1_0, g1_1, g1_2, g1_3, g1_4⟩ : v1.cell? ⟨w.heap.size, 0, none⟩ = some (.int .i64 f.len) ∧ v1.cell? ⟨w.heap.size, 1, none⟩ = some (.int .i64 f.slack) ∧ v1.cell? ⟨w.heap.size, 2, none⟩ = some (.slice sa sl sc) ∧ v1.cell? ⟨w.heap.size, 3, none⟩ = some (.slice pa pl pc) ∧ v1.cell? ⟨w.heap.size, 4, none⟩ = some (.slice ca cl cc) :=
      ⟨(hb1.cell (p := ⟨w.heap.size, 0, none⟩) (by first | omega | (simp; done) | (simp; omega))).trans (by first | (go_simp; done) | (go_simp; exact set_same (u := .int .i64 0) (by go_simp; done))), (hb1.cell (p := ⟨w.heap.size, 1, none⟩) (by first | omega | (simp; done) | (simp; omega))).trans (by first | (go_simp; done) | (go_simp; exact set_same (u := .int .i64 0) (by go_simp; done))), (hb1.cell (p := ⟨w.heap.size, 2, none⟩) (by first | omega | (simp; done) | (simp; omega))).trans (by first | (go_simp; done) | (go_simp; exact set_same (u := .int .i64 0) (by go_simp; done))), (hb1.cell (p := ⟨w.heap.size, 3, none⟩) (by first | omega | (simp; done) | (simp; omega))).trans (by first | (go_simp; done) | (go_simp; exact set_same (u := .int .i64 0) (by go_simp; done))), (hb1.cell (p := ⟨w.heap.size, 4, none⟩) (by first | omega | (simp; done) | (simp; omega))).trans (by first | (go_simp; done) | (go_simp; exact set_same (u := .int .i64 0) (by go_simp; done)))⟩
    have q1_0 : w.heap.size < v1.heap.size := by first | omega | (simp at *; omega)
    have HB1 := Lib.hid hB1_0
    have y1 := hB1_0.size
    clear hb1 hB1_0 g0_0 g0_1 g0_2 g0_3 g0_4 q0_0
    go_wp2_with fail
    refine (HWI.out _).mono ?_
    rintro e v' ⟨rfl, rfl⟩
    go_wp2_with fail
    refine (HK.out _).mono ?_
    rintro e v2 ⟨rfl, hb2⟩
    have hB2_0 : Below W0.heap.size W0 v2 := below_via (Lib.hid hb2) (by first | omega | (simp; done) | (simp; omega)) (by repeat (first | exact Below.refl _ _ | with_reducible exact HB1.out | (refine Below.alloc ?_ (by first | omega | (simp; omega) | simp) _) | (refine Below.setCell ?_ (by first | omega | (simp; omega) | simp) _) | refine Below.drew ?_))
    have z2 := hb2.size
    (try simp at z2)
    have HB2 := Lib.hid hB2_0
    have y2 := hB2_0.size
    clear hb2 hB2_0 g1_0 g1_1 g1_2 g1_3 g1_4 q1_0
    go_wp2_with fail
    go_ret
    exact ⟨rfl, HBW.out.trans (Below.mono (by repeat (first | exact Below.refl _ _ | with_reducible exact HB2.out | (refine Below.alloc ?_ (by first | omega | (simp; omega) | simp) _) | (refine Below.setCell ?_ (by first | omega | (simp; omega) | simp) _) | refine Below.drew ?_)) HBW.out.size)⟩
  · have HWI := Lib.hid (HW.out _ h1)
    obtain ⟨k, rfl⟩ : ∃ k : Nat, (k : Int) = kind := ⟨kind.toNat, by unfold btw at h1; simp at h1; omega⟩
    have hk : k < f.strips.length := by unfold btw at h1; simp at h1; omega
    have hkl : (k : Int) < (sl : Int) := by omega
    have hk0 : (0 : Int) ≤ (k : Int) := by omega
    obtain ⟨sb, so, rfl, hsb, hsc⟩ := hsc (by omega)
    obtain ⟨m, hm⟩ : ∃ m, f.many k = m := ⟨_, rfl⟩
    have hmb := many_bd ho k
    rw [hm] at hmb
    have hcell := (hsc k hk).2
    have hm2 : f.strips[k].m = m := by rw [← hm]; unfold PFrame.many; simp [hk]
    rw [hm2] at hcell
    have hwr : IntKind.i64.wrap (m + 1) = m + 1 := IntWalk.i64_in _ ⟨by omega, by omega⟩
    have HST := Lib.hid (fun W (h : Below w.heap.size w W) => show Calls Try.prog 66 #[.agg #[.int .i64 f.len, .int .i64 f.slack, .slice (some ⟨sb, so, none⟩) sl sc, .slice pa pl pc, .slice ca cl cc], .int .i64 k, .int .i64 (m + 1)] W fun e w' => (∃ ga gc ha hc ia ic, e = .returned (.agg #[.int .i64 f.len, .int .i64 f.slack, .slice ga sl gc, .slice ha pl hc, .slice ia cl ic]) ∧ (∀ W', KeepsUp W.heap.size w' W' → PAt W' ga sl gc ha pl hc ia cl ic (f.stocked k (m + 1)))) ∧ Below W.heap.size W w' from (Stocked_any f (some ⟨sb, so, none⟩) sl sc pa pl pc ca cl cc k hk (m + 1) W (hp.below h) s1 s2 s3 s4).mono fun e w' h => by obtain ⟨a, b, c, d, e', f', g1, g2, g3⟩ := h; exact ⟨⟨a, b, c, d, e', f', g1, g2⟩, g3⟩)
    clear HW h1 hsc hm2
    rcases hk2 : (f.stocked k (m + 1)).ready with - | -
    · skip
      go_enter Try.func11, Try.ntmps11
      go_wp2_with fail
      obtain ⟨W0, hW0, hB0, ⟨g0_0, g0_1, g0_2, g0_3, g0_4⟩, hz0⟩ : ∃ W0, (w.alloc (.cells #[.int .i64 f.len, .int .i64 f.slack, .slice (some ⟨sb, so, none⟩) sl sc, .slice pa pl pc, .slice ca cl cc] 26)) = W0 ∧ Below w.heap.size w W0 ∧ (W0.cell? ⟨w.heap.size, 0, none⟩ = some (.int .i64 f.len) ∧ W0.cell? ⟨w.heap.size, 1, none⟩ = some (.int .i64 f.slack) ∧ W0.cell? ⟨w.heap.size, 2, none⟩ = some (.slice (some ⟨sb, so, none⟩) sl sc) ∧ W0.cell? ⟨w.heap.size, 3, none⟩ = some (.slice pa pl pc) ∧ W0.cell? ⟨w.heap.size, 4, none⟩ = some (.slice ca cl cc)) ∧ W0.heap.size = w.heap.size + 1 :=
        ⟨_, rfl, (by repeat (first | exact Below.refl _ _ | (refine Below.alloc ?_ (by first | omega | (simp; omega) | simp) _) | (refine Below.setCell ?_ (by first | omega | (simp; omega) | simp) _) | refine Below.drew ?_)), ⟨by go_simp, by go_simp, by go_simp, by go_simp, by go_simp⟩, by simp⟩
      rw [hW0]
      clear hW0
      have HBW := Lib.hid hB0
      have q0_0 : w.heap.size < W0.heap.size := by omega
      clear hB0 hz0
      have g0_5 : W0.cell? ⟨sb, so + k * 2 + 1, none⟩ = some (.int .i64 m) := (HBW.out.cell (p := ⟨sb, so + k * 2 + 1, none⟩) hsb).trans hcell
      have q0_1 : sb < W0.heap.size := Nat.lt_of_lt_of_le hsb HBW.out.size
      go_wp2_with fail
      refine (HR1.out _ (HBW.out.trans (Below.mono (by repeat (first | exact Below.refl _ _ | (refine Below.alloc ?_ (by first | omega | (simp; omega) | simp) _) | (refine Below.setCell ?_ (by first | omega | (simp; omega) | simp) _) | refine Below.drew ?_)) HBW.out.size))).mono ?_
      rintro e v1 ⟨rfl, hb1⟩
      have hB1_0 : Below W0.heap.size W0 v1 := below_via (Lib.hid hb1) (by first | omega | (simp; done) | (simp; omega)) (by repeat (first | exact Below.refl _ _ | (refine Below.alloc ?_ (by first | omega | (simp; omega) | simp) _) | (refine Below.setCell ?_ (by first | omega | (simp; omega) | simp) _) | refine Below.drew ?_))
      have z1 := hb1.size
      (try simp at z1)
      obtain ⟨g1_0, g1_1, g1_2, g1_3, g1_4, g1_5⟩ : v1.cell? ⟨w.heap.size, 0, none⟩ = some (.int .i64 f.len) ∧ v1.cell? ⟨w.heap.size, 1, none⟩ = some (.int .i64 f.slack) ∧ v1.cell? ⟨w.heap.size, 2, none⟩ = some (.slice (some ⟨sb, so, none⟩) sl sc) ∧ v1.cell? ⟨w.heap.size, 3, none⟩ = some (.slice pa pl pc) ∧ v1.cell? ⟨w.heap.size, 4, none⟩ = some (.slice ca cl cc) ∧ v1.cell? ⟨sb, so + k * 2 + 1, none⟩ = some (.int .i64 m) :=
        ⟨(hb1.cell (p := ⟨w.heap.size, 0, none⟩) (by first | omega | (simp; done) | (simp; omega))).trans (by first | (go_simp; done) | (go_simp; exact set_same (u := .int .i64 0) (by go_simp; done))), (hb1.cell (p := ⟨w.heap.size, 1, none⟩) (by first | omega | (simp; done) | (simp; omega))).trans (by first | (go_simp; done) | (go_simp; exact set_same (u := .int .i64 0) (by go_simp; done))), (hb1.cell (p := ⟨w.heap.size, 2, none⟩) (by first | omega | (simp; done) | (simp; omega))).trans (by first | (go_simp; done) | (go_simp; exact set_same (u := .int .i64 0) (by go_simp; done))), (hb1.cell (p := ⟨w.heap.size, 3, none⟩) (by first | omega | (simp; done) | (simp; omega))).trans (by first | (go_simp; done) | (go_simp; exact set_same (u := .int .i64 0) (by go_simp; done))), (hb1.cell (p := ⟨w.heap.size, 4, none⟩) (by first | omega | (simp; done) | (simp; omega))).trans (by first | (go_simp; done) | (go_simp; exact set_same (u := .int .i64 0) (by go_simp; done))), (hb1.cell (p := ⟨sb, so + k * 2 + 1, none⟩) (by first | omega | (simp; done) | (simp; omega))).trans (by first | (go_simp; done) | (go_simp; exact set_same (u := .int .i64 0) (by go_simp; done)))⟩
      have q1_0 : w.heap.size < v1.heap.size := by first | omega | (simp at *; omega)
      have q1_1 : sb < v1.heap.size := by first | omega | (simp at *; omega)
      have HB1 := Lib.hid hB1_0
      have y1 := hB1_0.size
      clear hb1 hB1_0 g0_0 g0_1 g0_2 g0_3 g0_4 g0_5 q0_0 q0_1
      go_wp2_with fail
      refine (HWI.out _).mono ?_
      rintro e v' ⟨rfl, rfl⟩
      have HV2 : Below w.heap.size w v1 := (HBW.out.trans (Below.mono (by repeat (first | exact Below.refl _ _ | with_reducible exact HB1.out | (refine Below.alloc ?_ (by first | omega | (simp; omega) | simp) _) | (refine Below.setCell ?_ (by first | omega | (simp; omega) | simp) _) | refine Below.drew ?_)) HBW.out.size))
      have HX2 := Lib.hid (fun W (h : Below v1.heap.size v1 W ∧ ∀ b o, b < v1.heap.size → W.cell? ⟨b, o, none⟩ = v1.cell? ⟨b, o, none⟩) => bothM2 (W0 := v1) (HST.out W (HV2.trans (h.1.mono HV2.size))) h)
      clear HV2
      go_upto_region 10 with fail
      go_cut [8] (fun v8x wx => ∃ gb ja jc ka kc la lc, v8x = .pointer (some ⟨gb, 0, none⟩) ∧ (wx.cell? ⟨gb, 0, none⟩ = some (.int .i64 f.len) ∧ wx.cell? ⟨gb, 1, none⟩ = some (.int .i64 f.slack) ∧ wx.cell? ⟨gb, 2, none⟩ = some (.slice ja sl jc) ∧ wx.cell? ⟨gb, 3, none⟩ = some (.slice ka pl kc) ∧ wx.cell? ⟨gb, 4, none⟩ = some (.slice la cl lc)) ∧ gb < wx.heap.size ∧ v1.heap.size ≤ gb ∧ Below v1.heap.size v1 wx ∧ (∀ W', Below wx.heap.size wx W' → PAt W' ja sl jc ka pl kc la cl lc (f.stocked k (m + 1))))
      case first =>
        go_region_held3 (fun w' => Below v1.heap.size v1 w' ∧ ∀ b o, b < v1.heap.size → w'.cell? ⟨b, o, none⟩ = v1.cell? ⟨b, o, none⟩) (first | with_reducible assumption | ((repeat (first | with_reducible refine bothS_drew ?_ | with_reducible refine bothS_alloc _ ?_ | with_reducible refine bothS_set _ _ (by first | omega | (simp; omega) | simp) ?_)); first | with_reducible assumption | with_reducible exact Hid.out (by assumption) | with_reducible exact ⟨Below.refl _ _, fun _ _ _ => rfl⟩)) (first
          | (go_at_call 66; with_reducible refine (HX2.out _ ?_).mono ?_; (first | with_reducible assumption | ((repeat (first | with_reducible refine bothS_drew ?_ | with_reducible refine bothS_alloc _ ?_ | with_reducible refine bothS_set _ _ (by first | omega | (simp; omega) | simp) ?_)); first | with_reducible assumption | with_reducible exact Hid.out (by assumption) | with_reducible exact ⟨Below.refl _ _, fun _ _ _ => rfl⟩)); rintro e w' ⟨⟨ja, jc, ka, kc, la, lc, rfl, hK2⟩, k, k1, k2, k3⟩; have HK' := Lib.hid k; (try simp at k3); (try have k6 := Nat.lt_of_succ_le k3); (try have k7 := Nat.lt_of_succ_lt k6))
          | fail "no arm")
        all_goals (go_wp2_with fail; go_meet)
        all_goals refine ⟨_, _, _, _, _, _, _, rfl, ?_, ?_, ?_, And.left (by assumption), fun W' h => hK2 W' (KeepsUp.trans (by repeat (first | with_reducible exact KeepsUp.refl _ _ | (with_reducible refine KeepsUp.set ?_ (by first | exact .inl (by first | omega | (simp; done) | (simp; omega)) | exact .inr (by first | omega | (simp; done) | (simp; omega))) _) | with_reducible refine KeepsUp.alloc _ ?_ | with_reducible refine KeepsUp.drew ?_)) (KeepsUp.below h))⟩
        all_goals first | (refine ⟨?_, ?_, ?_, ?_, ?_⟩ <;> (go_simp; done)) | (with_reducible refine set5 _ _ _ _ _ ?_ ?_ ?_ ?_ ?_ <;> (go_simp; done)) | skip
        all_goals first | omega | (simp; done) | (simp; omega) | skip
      case rest =>
      obtain ⟨gb2, ja, jc, ka, kc, la, lc, rfl, ⟨c2_0, c2_1, c2_2, c2_3, c2_4⟩, hlt2, hge2, hb2, hO2⟩ := hcut
      obtain ⟨v2, rfl⟩ : ∃ v2 : World, v2 = wc := ⟨_, rfl⟩
      have hB2_0 : Below W0.heap.size W0 v2 := below_via (Lib.hid hb2) (by first | omega | (simp; done) | (simp; omega)) (by repeat (first | exact Below.refl _ _ | with_reducible exact HB1.out | (refine Below.alloc ?_ (by first | omega | (simp; omega) | simp) _) | (refine Below.setCell ?_ (by first | omega | (simp; omega) | simp) _) | refine Below.drew ?_))
      have z2 := hb2.size
      (try simp at z2)
      obtain ⟨g2_0, g2_1, g2_2, g2_3, g2_4, g2_5⟩ : v2.cell? ⟨w.heap.size, 0, none⟩ = some (.int .i64 f.len) ∧ v2.cell? ⟨w.heap.size, 1, none⟩ = some (.int .i64 f.slack) ∧ v2.cell? ⟨w.heap.size, 2, none⟩ = some (.slice (some ⟨sb, so, none⟩) sl sc) ∧ v2.cell? ⟨w.heap.size, 3, none⟩ = some (.slice pa pl pc) ∧ v2.cell? ⟨w.heap.size, 4, none⟩ = some (.slice ca cl cc) ∧ v2.cell? ⟨sb, so + k * 2 + 1, none⟩ = some (.int .i64 m) :=
        ⟨(hb2.cell (p := ⟨w.heap.size, 0, none⟩) (by first | omega | (simp; done) | (simp; omega))).trans (by first | (go_simp; done) | (go_simp; exact set_same (u := .int .i64 0) (by go_simp; done))), (hb2.cell (p := ⟨w.heap.size, 1, none⟩) (by first | omega | (simp; done) | (simp; omega))).trans (by first | (go_simp; done) | (go_simp; exact set_same (u := .int .i64 0) (by go_simp; done))), (hb2.cell (p := ⟨w.heap.size, 2, none⟩) (by first | omega | (simp; done) | (simp; omega))).trans (by first | (go_simp; done) | (go_simp; exact set_same (u := .int .i64 0) (by go_simp; done))), (hb2.cell (p := ⟨w.heap.size, 3, none⟩) (by first | omega | (simp; done) | (simp; omega))).trans (by first | (go_simp; done) | (go_simp; exact set_same (u := .int .i64 0) (by go_simp; done))), (hb2.cell (p := ⟨w.heap.size, 4, none⟩) (by first | omega | (simp; done) | (simp; omega))).trans (by first | (go_simp; done) | (go_simp; exact set_same (u := .int .i64 0) (by go_simp; done))), (hb2.cell (p := ⟨sb, so + k * 2 + 1, none⟩) (by first | omega | (simp; done) | (simp; omega))).trans (by first | (go_simp; done) | (go_simp; exact set_same (u := .int .i64 0) (by go_simp; done)))⟩
      have q2_0 : w.heap.size < v2.heap.size := by first | omega | (simp at *; omega)
      have q2_1 : sb < v2.heap.size := by first | omega | (simp at *; omega)
      have HB2 := Lib.hid hB2_0
      have y2 := hB2_0.size
      clear hb2 hB2_0 g1_0 g1_1 g1_2 g1_3 g1_4 g1_5 q1_0 q1_1
      have g2_6 := c2_0
      have g2_7 := c2_1
      have g2_8 := c2_2
      have g2_9 := c2_3
      have g2_10 := c2_4
      have q2_2 : gb2 < v2.heap.size := hlt2
      clear c2_0 c2_1 c2_2 c2_3 c2_4
      clear HX2
      have HO2 := Lib.hid hO2
      clear hO2
      have HR3 := Lib.hid (fun W (h : Below v2.heap.size v2 W) => show Calls Try.prog 48 #[.agg #[.int .i64 f.len, .int .i64 f.slack, .slice ja sl jc, .slice ka pl kc, .slice la cl lc]] W fun e w' => e = .returned (.bool false) ∧ Below W.heap.size W w' from ready_is (f.stocked k (m + 1)) ja sl jc ka pl kc la cl lc false hk2 W (HO2.out W h))
      go_wp2_with fail
      refine (HR3.out _ (by repeat (first | exact Below.refl _ _ | (refine Below.alloc ?_ (by first | omega | (simp; omega) | simp) _) | (refine Below.setCell ?_ (by first | omega | (simp; omega) | simp) _) | refine Below.drew ?_))).mono ?_
      rintro e v3 ⟨rfl, hb3⟩
      have hB3_0 : Below W0.heap.size W0 v3 := below_via (Lib.hid hb3) (by first | omega | (simp; done) | (simp; omega)) (by repeat (first | exact Below.refl _ _ | with_reducible exact HB2.out | (refine Below.alloc ?_ (by first | omega | (simp; omega) | simp) _) | (refine Below.setCell ?_ (by first | omega | (simp; omega) | simp) _) | refine Below.drew ?_))
      have hB3_1 : Below v2.heap.size v2 v3 := below_via (Lib.hid hb3) (by first | omega | (simp; done) | (simp; omega)) (by repeat (first | exact Below.refl _ _ | (refine Below.alloc ?_ (by first | omega | (simp; omega) | simp) _) | (refine Below.setCell ?_ (by first | omega | (simp; omega) | simp) _) | refine Below.drew ?_))
      have z3 := hb3.size
      (try simp at z3)
      obtain ⟨g3_0, g3_1, g3_2, g3_3, g3_4, g3_5, g3_6, g3_7, g3_8, g3_9, g3_10⟩ : v3.cell? ⟨w.heap.size, 0, none⟩ = some (.int .i64 f.len) ∧ v3.cell? ⟨w.heap.size, 1, none⟩ = some (.int .i64 f.slack) ∧ v3.cell? ⟨w.heap.size, 2, none⟩ = some (.slice (some ⟨sb, so, none⟩) sl sc) ∧ v3.cell? ⟨w.heap.size, 3, none⟩ = some (.slice pa pl pc) ∧ v3.cell? ⟨w.heap.size, 4, none⟩ = some (.slice ca cl cc) ∧ v3.cell? ⟨sb, so + k * 2 + 1, none⟩ = some (.int .i64 m) ∧ v3.cell? ⟨gb2, 0, none⟩ = some (.int .i64 f.len) ∧ v3.cell? ⟨gb2, 1, none⟩ = some (.int .i64 f.slack) ∧ v3.cell? ⟨gb2, 2, none⟩ = some (.slice ja sl jc) ∧ v3.cell? ⟨gb2, 3, none⟩ = some (.slice ka pl kc) ∧ v3.cell? ⟨gb2, 4, none⟩ = some (.slice la cl lc) :=
        ⟨(hb3.cell (p := ⟨w.heap.size, 0, none⟩) (by first | omega | (simp; done) | (simp; omega))).trans (by first | (go_simp; done) | (go_simp; exact set_same (u := .int .i64 0) (by go_simp; done))), (hb3.cell (p := ⟨w.heap.size, 1, none⟩) (by first | omega | (simp; done) | (simp; omega))).trans (by first | (go_simp; done) | (go_simp; exact set_same (u := .int .i64 0) (by go_simp; done))), (hb3.cell (p := ⟨w.heap.size, 2, none⟩) (by first | omega | (simp; done) | (simp; omega))).trans (by first | (go_simp; done) | (go_simp; exact set_same (u := .int .i64 0) (by go_simp; done))), (hb3.cell (p := ⟨w.heap.size, 3, none⟩) (by first | omega | (simp; done) | (simp; omega))).trans (by first | (go_simp; done) | (go_simp; exact set_same (u := .int .i64 0) (by go_simp; done))), (hb3.cell (p := ⟨w.heap.size, 4, none⟩) (by first | omega | (simp; done) | (simp; omega))).trans (by first | (go_simp; done) | (go_simp; exact set_same (u := .int .i64 0) (by go_simp; done))), (hb3.cell (p := ⟨sb, so + k * 2 + 1, none⟩) (by first | omega | (simp; done) | (simp; omega))).trans (by first | (go_simp; done) | (go_simp; exact set_same (u := .int .i64 0) (by go_simp; done))), (hb3.cell (p := ⟨gb2, 0, none⟩) (by first | omega | (simp; done) | (simp; omega))).trans (by first | (go_simp; done) | (go_simp; exact set_same (u := .int .i64 0) (by go_simp; done))), (hb3.cell (p := ⟨gb2, 1, none⟩) (by first | omega | (simp; done) | (simp; omega))).trans (by first | (go_simp; done) | (go_simp; exact set_same (u := .int .i64 0) (by go_simp; done))), (hb3.cell (p := ⟨gb2, 2, none⟩) (by first | omega | (simp; done) | (simp; omega))).trans (by first | (go_simp; done) | (go_simp; exact set_same (u := .int .i64 0) (by go_simp; done))), (hb3.cell (p := ⟨gb2, 3, none⟩) (by first | omega | (simp; done) | (simp; omega))).trans (by first | (go_simp; done) | (go_simp; exact set_same (u := .int .i64 0) (by go_simp; done))), (hb3.cell (p := ⟨gb2, 4, none⟩) (by first | omega | (simp; done) | (simp; omega))).trans (by first | (go_simp; done) | (go_simp; exact set_same (u := .int .i64 0) (by go_simp; done)))⟩
      have q3_0 : w.heap.size < v3.heap.size := by first | omega | (simp at *; omega)
      have q3_1 : sb < v3.heap.size := by first | omega | (simp at *; omega)
      have q3_2 : gb2 < v3.heap.size := by first | omega | (simp at *; omega)
      have HB3 := Lib.hid hB3_0
      have HD3 := Lib.hid hB3_1
      have y3 := hB3_0.size
      clear hb3 hB3_0 hB3_1 g2_0 g2_1 g2_2 g2_3 g2_4 g2_5 g2_6 g2_7 g2_8 g2_9 g2_10 q2_0 q2_1 q2_2
      go_wp2_with fail
      refine (HK.out _).mono ?_
      rintro e v4 ⟨rfl, hb4⟩
      have hB4_0 : Below W0.heap.size W0 v4 := below_via (Lib.hid hb4) (by first | omega | (simp; done) | (simp; omega)) (by repeat (first | exact Below.refl _ _ | with_reducible exact HB3.out | (refine Below.alloc ?_ (by first | omega | (simp; omega) | simp) _) | (refine Below.setCell ?_ (by first | omega | (simp; omega) | simp) _) | refine Below.drew ?_))
      have hB4_1 : Below v2.heap.size v2 v4 := below_via (Lib.hid hb4) (by first | omega | (simp; done) | (simp; omega)) (by repeat (first | exact Below.refl _ _ | with_reducible exact HD3.out | (refine Below.alloc ?_ (by first | omega | (simp; omega) | simp) _) | (refine Below.setCell ?_ (by first | omega | (simp; omega) | simp) _) | refine Below.drew ?_))
      have z4 := hb4.size
      (try simp at z4)
      have HB4 := Lib.hid hB4_0
      have HD4 := Lib.hid hB4_1
      have y4 := hB4_0.size
      clear hb4 hB4_0 hB4_1 g3_0 g3_1 g3_2 g3_3 g3_4 g3_5 g3_6 g3_7 g3_8 g3_9 g3_10 q3_0 q3_1 q3_2
      go_wp2_with fail
      go_ret
      exact ⟨rfl, HBW.out.trans (Below.mono (by repeat (first | exact Below.refl _ _ | with_reducible exact HB4.out | (refine Below.alloc ?_ (by first | omega | (simp; omega) | simp) _) | (refine Below.setCell ?_ (by first | omega | (simp; omega) | simp) _) | refine Below.drew ?_)) HBW.out.size)⟩
    · have hko : (f.stocked k (m + 1)).ok = true := by unfold PFrame.ready at hk2; simp only [Bool.and_eq_true] at hk2; exact hk2.2
      have hmore := more_strip ho k (by rw [hm]; exact hko)
      rw [hm] at hmore
      go_enter Try.func11, Try.ntmps11
      go_wp2_with fail
      obtain ⟨W0, hW0, hB0, ⟨g0_0, g0_1, g0_2, g0_3, g0_4⟩, hz0⟩ : ∃ W0, (w.alloc (.cells #[.int .i64 f.len, .int .i64 f.slack, .slice (some ⟨sb, so, none⟩) sl sc, .slice pa pl pc, .slice ca cl cc] 26)) = W0 ∧ Below w.heap.size w W0 ∧ (W0.cell? ⟨w.heap.size, 0, none⟩ = some (.int .i64 f.len) ∧ W0.cell? ⟨w.heap.size, 1, none⟩ = some (.int .i64 f.slack) ∧ W0.cell? ⟨w.heap.size, 2, none⟩ = some (.slice (some ⟨sb, so, none⟩) sl sc) ∧ W0.cell? ⟨w.heap.size, 3, none⟩ = some (.slice pa pl pc) ∧ W0.cell? ⟨w.heap.size, 4, none⟩ = some (.slice ca cl cc)) ∧ W0.heap.size = w.heap.size + 1 :=
        ⟨_, rfl, (by repeat (first | exact Below.refl _ _ | (refine Below.alloc ?_ (by first | omega | (simp; omega) | simp) _) | (refine Below.setCell ?_ (by first | omega | (simp; omega) | simp) _) | refine Below.drew ?_)), ⟨by go_simp, by go_simp, by go_simp, by go_simp, by go_simp⟩, by simp⟩
      rw [hW0]
      clear hW0
      have HBW := Lib.hid hB0
      have q0_0 : w.heap.size < W0.heap.size := by omega
      clear hB0 hz0
      have g0_5 : W0.cell? ⟨sb, so + k * 2 + 1, none⟩ = some (.int .i64 m) := (HBW.out.cell (p := ⟨sb, so + k * 2 + 1, none⟩) hsb).trans hcell
      have q0_1 : sb < W0.heap.size := Nat.lt_of_lt_of_le hsb HBW.out.size
      go_wp2_with fail
      refine (HR1.out _ (HBW.out.trans (Below.mono (by repeat (first | exact Below.refl _ _ | (refine Below.alloc ?_ (by first | omega | (simp; omega) | simp) _) | (refine Below.setCell ?_ (by first | omega | (simp; omega) | simp) _) | refine Below.drew ?_)) HBW.out.size))).mono ?_
      rintro e v1 ⟨rfl, hb1⟩
      have hB1_0 : Below W0.heap.size W0 v1 := below_via (Lib.hid hb1) (by first | omega | (simp; done) | (simp; omega)) (by repeat (first | exact Below.refl _ _ | (refine Below.alloc ?_ (by first | omega | (simp; omega) | simp) _) | (refine Below.setCell ?_ (by first | omega | (simp; omega) | simp) _) | refine Below.drew ?_))
      have z1 := hb1.size
      (try simp at z1)
      obtain ⟨g1_0, g1_1, g1_2, g1_3, g1_4, g1_5⟩ : v1.cell? ⟨w.heap.size, 0, none⟩ = some (.int .i64 f.len) ∧ v1.cell? ⟨w.heap.size, 1, none⟩ = some (.int .i64 f.slack) ∧ v1.cell? ⟨w.heap.size, 2, none⟩ = some (.slice (some ⟨sb, so, none⟩) sl sc) ∧ v1.cell? ⟨w.heap.size, 3, none⟩ = some (.slice pa pl pc) ∧ v1.cell? ⟨w.heap.size, 4, none⟩ = some (.slice ca cl cc) ∧ v1.cell? ⟨sb, so + k * 2 + 1, none⟩ = some (.int .i64 m) :=
        ⟨(hb1.cell (p := ⟨w.heap.size, 0, none⟩) (by first | omega | (simp; done) | (simp; omega))).trans (by first | (go_simp; done) | (go_simp; exact set_same (u := .int .i64 0) (by go_simp; done))), (hb1.cell (p := ⟨w.heap.size, 1, none⟩) (by first | omega | (simp; done) | (simp; omega))).trans (by first | (go_simp; done) | (go_simp; exact set_same (u := .int .i64 0) (by go_simp; done))), (hb1.cell (p := ⟨w.heap.size, 2, none⟩) (by first | omega | (simp; done) | (simp; omega))).trans (by first | (go_simp; done) | (go_simp; exact set_same (u := .int .i64 0) (by go_simp; done))), (hb1.cell (p := ⟨w.heap.size, 3, none⟩) (by first | omega | (simp; done) | (simp; omega))).trans (by first | (go_simp; done) | (go_simp; exact set_same (u := .int .i64 0) (by go_simp; done))), (hb1.cell (p := ⟨w.heap.size, 4, none⟩) (by first | omega | (simp; done) | (simp; omega))).trans (by first | (go_simp; done) | (go_simp; exact set_same (u := .int .i64 0) (by go_simp; done))), (hb1.cell (p := ⟨sb, so + k * 2 + 1, none⟩) (by first | omega | (simp; done) | (simp; omega))).trans (by first | (go_simp; done) | (go_simp; exact set_same (u := .int .i64 0) (by go_simp; done)))⟩
      have q1_0 : w.heap.size < v1.heap.size := by first | omega | (simp at *; omega)
      have q1_1 : sb < v1.heap.size := by first | omega | (simp at *; omega)
      have HB1 := Lib.hid hB1_0
      have y1 := hB1_0.size
      clear hb1 hB1_0 g0_0 g0_1 g0_2 g0_3 g0_4 g0_5 q0_0 q0_1
      go_wp2_with fail
      refine (HWI.out _).mono ?_
      rintro e v' ⟨rfl, rfl⟩
      have HV2 : Below w.heap.size w v1 := (HBW.out.trans (Below.mono (by repeat (first | exact Below.refl _ _ | with_reducible exact HB1.out | (refine Below.alloc ?_ (by first | omega | (simp; omega) | simp) _) | (refine Below.setCell ?_ (by first | omega | (simp; omega) | simp) _) | refine Below.drew ?_)) HBW.out.size))
      have HX2 := Lib.hid (fun W (h : Below v1.heap.size v1 W ∧ ∀ b o, b < v1.heap.size → W.cell? ⟨b, o, none⟩ = v1.cell? ⟨b, o, none⟩) => bothM2 (W0 := v1) (HST.out W (HV2.trans (h.1.mono HV2.size))) h)
      clear HV2
      go_upto_region 10 with fail
      go_cut [8] (fun v8x wx => ∃ gb ja jc ka kc la lc, v8x = .pointer (some ⟨gb, 0, none⟩) ∧ (wx.cell? ⟨gb, 0, none⟩ = some (.int .i64 f.len) ∧ wx.cell? ⟨gb, 1, none⟩ = some (.int .i64 f.slack) ∧ wx.cell? ⟨gb, 2, none⟩ = some (.slice ja sl jc) ∧ wx.cell? ⟨gb, 3, none⟩ = some (.slice ka pl kc) ∧ wx.cell? ⟨gb, 4, none⟩ = some (.slice la cl lc)) ∧ gb < wx.heap.size ∧ v1.heap.size ≤ gb ∧ Below v1.heap.size v1 wx ∧ (∀ W', Below wx.heap.size wx W' → PAt W' ja sl jc ka pl kc la cl lc (f.stocked k (m + 1))))
      case first =>
        go_region_held3 (fun w' => Below v1.heap.size v1 w' ∧ ∀ b o, b < v1.heap.size → w'.cell? ⟨b, o, none⟩ = v1.cell? ⟨b, o, none⟩) (first | with_reducible assumption | ((repeat (first | with_reducible refine bothS_drew ?_ | with_reducible refine bothS_alloc _ ?_ | with_reducible refine bothS_set _ _ (by first | omega | (simp; omega) | simp) ?_)); first | with_reducible assumption | with_reducible exact Hid.out (by assumption) | with_reducible exact ⟨Below.refl _ _, fun _ _ _ => rfl⟩)) (first
          | (go_at_call 66; with_reducible refine (HX2.out _ ?_).mono ?_; (first | with_reducible assumption | ((repeat (first | with_reducible refine bothS_drew ?_ | with_reducible refine bothS_alloc _ ?_ | with_reducible refine bothS_set _ _ (by first | omega | (simp; omega) | simp) ?_)); first | with_reducible assumption | with_reducible exact Hid.out (by assumption) | with_reducible exact ⟨Below.refl _ _, fun _ _ _ => rfl⟩)); rintro e w' ⟨⟨ja, jc, ka, kc, la, lc, rfl, hK2⟩, k, k1, k2, k3⟩; have HK' := Lib.hid k; (try simp at k3); (try have k6 := Nat.lt_of_succ_le k3); (try have k7 := Nat.lt_of_succ_lt k6))
          | fail "no arm")
        all_goals (go_wp2_with fail; go_meet)
        all_goals refine ⟨_, _, _, _, _, _, _, rfl, ?_, ?_, ?_, And.left (by assumption), fun W' h => hK2 W' (KeepsUp.trans (by repeat (first | with_reducible exact KeepsUp.refl _ _ | (with_reducible refine KeepsUp.set ?_ (by first | exact .inl (by first | omega | (simp; done) | (simp; omega)) | exact .inr (by first | omega | (simp; done) | (simp; omega))) _) | with_reducible refine KeepsUp.alloc _ ?_ | with_reducible refine KeepsUp.drew ?_)) (KeepsUp.below h))⟩
        all_goals first | (refine ⟨?_, ?_, ?_, ?_, ?_⟩ <;> (go_simp; done)) | (with_reducible refine set5 _ _ _ _ _ ?_ ?_ ?_ ?_ ?_ <;> (go_simp; done)) | skip
        all_goals first | omega | (simp; done) | (simp; omega) | skip
      case rest =>
      obtain ⟨gb2, ja, jc, ka, kc, la, lc, rfl, ⟨c2_0, c2_1, c2_2, c2_3, c2_4⟩, hlt2, hge2, hb2, hO2⟩ := hcut
      obtain ⟨v2, rfl⟩ : ∃ v2 : World, v2 = wc := ⟨_, rfl⟩
      have hB2_0 : Below W0.heap.size W0 v2 := below_via (Lib.hid hb2) (by first | omega | (simp; done) | (simp; omega)) (by repeat (first | exact Below.refl _ _ | with_reducible exact HB1.out | (refine Below.alloc ?_ (by first | omega | (simp; omega) | simp) _) | (refine Below.setCell ?_ (by first | omega | (simp; omega) | simp) _) | refine Below.drew ?_))
      have z2 := hb2.size
      (try simp at z2)
      obtain ⟨g2_0, g2_1, g2_2, g2_3, g2_4, g2_5⟩ : v2.cell? ⟨w.heap.size, 0, none⟩ = some (.int .i64 f.len) ∧ v2.cell? ⟨w.heap.size, 1, none⟩ = some (.int .i64 f.slack) ∧ v2.cell? ⟨w.heap.size, 2, none⟩ = some (.slice (some ⟨sb, so, none⟩) sl sc) ∧ v2.cell? ⟨w.heap.size, 3, none⟩ = some (.slice pa pl pc) ∧ v2.cell? ⟨w.heap.size, 4, none⟩ = some (.slice ca cl cc) ∧ v2.cell? ⟨sb, so + k * 2 + 1, none⟩ = some (.int .i64 m) :=
        ⟨(hb2.cell (p := ⟨w.heap.size, 0, none⟩) (by first | omega | (simp; done) | (simp; omega))).trans (by first | (go_simp; done) | (go_simp; exact set_same (u := .int .i64 0) (by go_simp; done))), (hb2.cell (p := ⟨w.heap.size, 1, none⟩) (by first | omega | (simp; done) | (simp; omega))).trans (by first | (go_simp; done) | (go_simp; exact set_same (u := .int .i64 0) (by go_simp; done))), (hb2.cell (p := ⟨w.heap.size, 2, none⟩) (by first | omega | (simp; done) | (simp; omega))).trans (by first | (go_simp; done) | (go_simp; exact set_same (u := .int .i64 0) (by go_simp; done))), (hb2.cell (p := ⟨w.heap.size, 3, none⟩) (by first | omega | (simp; done) | (simp; omega))).trans (by first | (go_simp; done) | (go_simp; exact set_same (u := .int .i64 0) (by go_simp; done))), (hb2.cell (p := ⟨w.heap.size, 4, none⟩) (by first | omega | (simp; done) | (simp; omega))).trans (by first | (go_simp; done) | (go_simp; exact set_same (u := .int .i64 0) (by go_simp; done))), (hb2.cell (p := ⟨sb, so + k * 2 + 1, none⟩) (by first | omega | (simp; done) | (simp; omega))).trans (by first | (go_simp; done) | (go_simp; exact set_same (u := .int .i64 0) (by go_simp; done)))⟩
      have q2_0 : w.heap.size < v2.heap.size := by first | omega | (simp at *; omega)
      have q2_1 : sb < v2.heap.size := by first | omega | (simp at *; omega)
      have HB2 := Lib.hid hB2_0
      have y2 := hB2_0.size
      clear hb2 hB2_0 g1_0 g1_1 g1_2 g1_3 g1_4 g1_5 q1_0 q1_1
      have g2_6 := c2_0
      have g2_7 := c2_1
      have g2_8 := c2_2
      have g2_9 := c2_3
      have g2_10 := c2_4
      have q2_2 : gb2 < v2.heap.size := hlt2
      clear c2_0 c2_1 c2_2 c2_3 c2_4
      clear HX2
      have HO2 := Lib.hid hO2
      clear hO2
      have HR3 := Lib.hid (fun W (h : Below v2.heap.size v2 W) => show Calls Try.prog 48 #[.agg #[.int .i64 f.len, .int .i64 f.slack, .slice ja sl jc, .slice ka pl kc, .slice la cl lc]] W fun e w' => e = .returned (.bool true) ∧ Below W.heap.size W w' from ready_is (f.stocked k (m + 1)) ja sl jc ka pl kc la cl lc true hk2 W (HO2.out W h))
      go_wp2_with fail
      refine (HR3.out _ (by repeat (first | exact Below.refl _ _ | (refine Below.alloc ?_ (by first | omega | (simp; omega) | simp) _) | (refine Below.setCell ?_ (by first | omega | (simp; omega) | simp) _) | refine Below.drew ?_))).mono ?_
      rintro e v3 ⟨rfl, hb3⟩
      have hB3_0 : Below W0.heap.size W0 v3 := below_via (Lib.hid hb3) (by first | omega | (simp; done) | (simp; omega)) (by repeat (first | exact Below.refl _ _ | with_reducible exact HB2.out | (refine Below.alloc ?_ (by first | omega | (simp; omega) | simp) _) | (refine Below.setCell ?_ (by first | omega | (simp; omega) | simp) _) | refine Below.drew ?_))
      have hB3_1 : Below v2.heap.size v2 v3 := below_via (Lib.hid hb3) (by first | omega | (simp; done) | (simp; omega)) (by repeat (first | exact Below.refl _ _ | (refine Below.alloc ?_ (by first | omega | (simp; omega) | simp) _) | (refine Below.setCell ?_ (by first | omega | (simp; omega) | simp) _) | refine Below.drew ?_))
      have z3 := hb3.size
      (try simp at z3)
      obtain ⟨g3_0, g3_1, g3_2, g3_3, g3_4, g3_5, g3_6, g3_7, g3_8, g3_9, g3_10⟩ : v3.cell? ⟨w.heap.size, 0, none⟩ = some (.int .i64 f.len) ∧ v3.cell? ⟨w.heap.size, 1, none⟩ = some (.int .i64 f.slack) ∧ v3.cell? ⟨w.heap.size, 2, none⟩ = some (.slice (some ⟨sb, so, none⟩) sl sc) ∧ v3.cell? ⟨w.heap.size, 3, none⟩ = some (.slice pa pl pc) ∧ v3.cell? ⟨w.heap.size, 4, none⟩ = some (.slice ca cl cc) ∧ v3.cell? ⟨sb, so + k * 2 + 1, none⟩ = some (.int .i64 m) ∧ v3.cell? ⟨gb2, 0, none⟩ = some (.int .i64 f.len) ∧ v3.cell? ⟨gb2, 1, none⟩ = some (.int .i64 f.slack) ∧ v3.cell? ⟨gb2, 2, none⟩ = some (.slice ja sl jc) ∧ v3.cell? ⟨gb2, 3, none⟩ = some (.slice ka pl kc) ∧ v3.cell? ⟨gb2, 4, none⟩ = some (.slice la cl lc) :=
        ⟨(hb3.cell (p := ⟨w.heap.size, 0, none⟩) (by first | omega | (simp; done) | (simp; omega))).trans (by first | (go_simp; done) | (go_simp; exact set_same (u := .int .i64 0) (by go_simp; done))), (hb3.cell (p := ⟨w.heap.size, 1, none⟩) (by first | omega | (simp; done) | (simp; omega))).trans (by first | (go_simp; done) | (go_simp; exact set_same (u := .int .i64 0) (by go_simp; done))), (hb3.cell (p := ⟨w.heap.size, 2, none⟩) (by first | omega | (simp; done) | (simp; omega))).trans (by first | (go_simp; done) | (go_simp; exact set_same (u := .int .i64 0) (by go_simp; done))), (hb3.cell (p := ⟨w.heap.size, 3, none⟩) (by first | omega | (simp; done) | (simp; omega))).trans (by first | (go_simp; done) | (go_simp; exact set_same (u := .int .i64 0) (by go_simp; done))), (hb3.cell (p := ⟨w.heap.size, 4, none⟩) (by first | omega | (simp; done) | (simp; omega))).trans (by first | (go_simp; done) | (go_simp; exact set_same (u := .int .i64 0) (by go_simp; done))), (hb3.cell (p := ⟨sb, so + k * 2 + 1, none⟩) (by first | omega | (simp; done) | (simp; omega))).trans (by first | (go_simp; done) | (go_simp; exact set_same (u := .int .i64 0) (by go_simp; done))), (hb3.cell (p := ⟨gb2, 0, none⟩) (by first | omega | (simp; done) | (simp; omega))).trans (by first | (go_simp; done) | (go_simp; exact set_same (u := .int .i64 0) (by go_simp; done))), (hb3.cell (p := ⟨gb2, 1, none⟩) (by first | omega | (simp; done) | (simp; omega))).trans (by first | (go_simp; done) | (go_simp; exact set_same (u := .int .i64 0) (by go_simp; done))), (hb3.cell (p := ⟨gb2, 2, none⟩) (by first | omega | (simp; done) | (simp; omega))).trans (by first | (go_simp; done) | (go_simp; exact set_same (u := .int .i64 0) (by go_simp; done))), (hb3.cell (p := ⟨gb2, 3, none⟩) (by first | omega | (simp; done) | (simp; omega))).trans (by first | (go_simp; done) | (go_simp; exact set_same (u := .int .i64 0) (by go_simp; done))), (hb3.cell (p := ⟨gb2, 4, none⟩) (by first | omega | (simp; done) | (simp; omega))).trans (by first | (go_simp; done) | (go_simp; exact set_same (u := .int .i64 0) (by go_simp; done)))⟩
      have q3_0 : w.heap.size < v3.heap.size := by first | omega | (simp at *; omega)
      have q3_1 : sb < v3.heap.size := by first | omega | (simp at *; omega)
      have q3_2 : gb2 < v3.heap.size := by first | omega | (simp at *; omega)
      have HB3 := Lib.hid hB3_0
      have HD3 := Lib.hid hB3_1
      have y3 := hB3_0.size
      clear hb3 hB3_0 hB3_1 g2_0 g2_1 g2_2 g2_3 g2_4 g2_5 g2_6 g2_7 g2_8 g2_9 g2_10 q2_0 q2_1 q2_2
      have HBF := Lib.hid (fun W (h : Below v2.heap.size v2 W) (h' : Below w.heap.size w W) => show Calls Try.prog 65 #[.agg #[.int .i64 f.len, .int .i64 f.slack, .slice ja sl jc, .slice ka pl kc, .slice la cl lc], .agg #[.int .i64 f.len, .int .i64 f.slack, .slice (some ⟨sb, so, none⟩) sl sc, .slice pa pl pc, .slice ca cl cc]] W fun e w' => e = .returned (.bool true) ∧ Below W.heap.size W w' from better_any (f.stocked k (m + 1)) f ja sl jc ka pl kc la cl lc (some ⟨sb, so, none⟩) sl sc pa pl pc ca cl cc hko ho hmore W (HO2.out W h) (HPP.out W h'))
      go_wp2_with fail
      refine (HBF.out _ (by repeat (first | exact Below.refl _ _ | with_reducible exact HD3.out | (refine Below.alloc ?_ (by first | omega | (simp; omega) | simp) _) | (refine Below.setCell ?_ (by first | omega | (simp; omega) | simp) _) | refine Below.drew ?_)) (HBW.out.trans (Below.mono (by repeat (first | exact Below.refl _ _ | with_reducible exact HB3.out | (refine Below.alloc ?_ (by first | omega | (simp; omega) | simp) _) | (refine Below.setCell ?_ (by first | omega | (simp; omega) | simp) _) | refine Below.drew ?_)) HBW.out.size))).mono ?_
      rintro e v4 ⟨rfl, hb4⟩
      have hB4_0 : Below W0.heap.size W0 v4 := below_via (Lib.hid hb4) (by first | omega | (simp; done) | (simp; omega)) (by repeat (first | exact Below.refl _ _ | with_reducible exact HB3.out | (refine Below.alloc ?_ (by first | omega | (simp; omega) | simp) _) | (refine Below.setCell ?_ (by first | omega | (simp; omega) | simp) _) | refine Below.drew ?_))
      have hB4_1 : Below v2.heap.size v2 v4 := below_via (Lib.hid hb4) (by first | omega | (simp; done) | (simp; omega)) (by repeat (first | exact Below.refl _ _ | with_reducible exact HD3.out | (refine Below.alloc ?_ (by first | omega | (simp; omega) | simp) _) | (refine Below.setCell ?_ (by first | omega | (simp; omega) | simp) _) | refine Below.drew ?_))
      have z4 := hb4.size
      (try simp at z4)
      obtain ⟨g4_0, g4_1, g4_2, g4_3, g4_4, g4_5, g4_6, g4_7, g4_8, g4_9, g4_10⟩ : v4.cell? ⟨w.heap.size, 0, none⟩ = some (.int .i64 f.len) ∧ v4.cell? ⟨w.heap.size, 1, none⟩ = some (.int .i64 f.slack) ∧ v4.cell? ⟨w.heap.size, 2, none⟩ = some (.slice (some ⟨sb, so, none⟩) sl sc) ∧ v4.cell? ⟨w.heap.size, 3, none⟩ = some (.slice pa pl pc) ∧ v4.cell? ⟨w.heap.size, 4, none⟩ = some (.slice ca cl cc) ∧ v4.cell? ⟨sb, so + k * 2 + 1, none⟩ = some (.int .i64 m) ∧ v4.cell? ⟨gb2, 0, none⟩ = some (.int .i64 f.len) ∧ v4.cell? ⟨gb2, 1, none⟩ = some (.int .i64 f.slack) ∧ v4.cell? ⟨gb2, 2, none⟩ = some (.slice ja sl jc) ∧ v4.cell? ⟨gb2, 3, none⟩ = some (.slice ka pl kc) ∧ v4.cell? ⟨gb2, 4, none⟩ = some (.slice la cl lc) :=
        ⟨(hb4.cell (p := ⟨w.heap.size, 0, none⟩) (by first | omega | (simp; done) | (simp; omega))).trans (by first | (go_simp; done) | (go_simp; exact set_same (u := .int .i64 0) (by go_simp; done))), (hb4.cell (p := ⟨w.heap.size, 1, none⟩) (by first | omega | (simp; done) | (simp; omega))).trans (by first | (go_simp; done) | (go_simp; exact set_same (u := .int .i64 0) (by go_simp; done))), (hb4.cell (p := ⟨w.heap.size, 2, none⟩) (by first | omega | (simp; done) | (simp; omega))).trans (by first | (go_simp; done) | (go_simp; exact set_same (u := .int .i64 0) (by go_simp; done))), (hb4.cell (p := ⟨w.heap.size, 3, none⟩) (by first | omega | (simp; done) | (simp; omega))).trans (by first | (go_simp; done) | (go_simp; exact set_same (u := .int .i64 0) (by go_simp; done))), (hb4.cell (p := ⟨w.heap.size, 4, none⟩) (by first | omega | (simp; done) | (simp; omega))).trans (by first | (go_simp; done) | (go_simp; exact set_same (u := .int .i64 0) (by go_simp; done))), (hb4.cell (p := ⟨sb, so + k * 2 + 1, none⟩) (by first | omega | (simp; done) | (simp; omega))).trans (by first | (go_simp; done) | (go_simp; exact set_same (u := .int .i64 0) (by go_simp; done))), (hb4.cell (p := ⟨gb2, 0, none⟩) (by first | omega | (simp; done) | (simp; omega))).trans (by first | (go_simp; done) | (go_simp; exact set_same (u := .int .i64 0) (by go_simp; done))), (hb4.cell (p := ⟨gb2, 1, none⟩) (by first | omega | (simp; done) | (simp; omega))).trans (by first | (go_simp; done) | (go_simp; exact set_same (u := .int .i64 0) (by go_simp; done))), (hb4.cell (p := ⟨gb2, 2, none⟩) (by first | omega | (simp; done) | (simp; omega))).trans (by first | (go_simp; done) | (go_simp; exact set_same (u := .int .i64 0) (by go_simp; done))), (hb4.cell (p := ⟨gb2, 3, none⟩) (by first | omega | (simp; done) | (simp; omega))).trans (by first | (go_simp; done) | (go_simp; exact set_same (u := .int .i64 0) (by go_simp; done))), (hb4.cell (p := ⟨gb2, 4, none⟩) (by first | omega | (simp; done) | (simp; omega))).trans (by first | (go_simp; done) | (go_simp; exact set_same (u := .int .i64 0) (by go_simp; done)))⟩
      have q4_0 : w.heap.size < v4.heap.size := by first | omega | (simp at *; omega)
      have q4_1 : sb < v4.heap.size := by first | omega | (simp at *; omega)
      have q4_2 : gb2 < v4.heap.size := by first | omega | (simp at *; omega)
      have HB4 := Lib.hid hB4_0
      have HD4 := Lib.hid hB4_1
      have y4 := hB4_0.size
      clear hb4 hB4_0 hB4_1 g3_0 g3_1 g3_2 g3_3 g3_4 g3_5 g3_6 g3_7 g3_8 g3_9 g3_10 q3_0 q3_1 q3_2
      go_wp2_with fail
      refine (HK.out _).mono ?_
      rintro e v5 ⟨rfl, hb5⟩
      have hB5_0 : Below W0.heap.size W0 v5 := below_via (Lib.hid hb5) (by first | omega | (simp; done) | (simp; omega)) (by repeat (first | exact Below.refl _ _ | with_reducible exact HB4.out | (refine Below.alloc ?_ (by first | omega | (simp; omega) | simp) _) | (refine Below.setCell ?_ (by first | omega | (simp; omega) | simp) _) | refine Below.drew ?_))
      have hB5_1 : Below v2.heap.size v2 v5 := below_via (Lib.hid hb5) (by first | omega | (simp; done) | (simp; omega)) (by repeat (first | exact Below.refl _ _ | with_reducible exact HD4.out | (refine Below.alloc ?_ (by first | omega | (simp; omega) | simp) _) | (refine Below.setCell ?_ (by first | omega | (simp; omega) | simp) _) | refine Below.drew ?_))
      have z5 := hb5.size
      (try simp at z5)
      have HB5 := Lib.hid hB5_0
      have HD5 := Lib.hid hB5_1
      have y5 := hB5_0.size
      clear hb5 hB5_0 hB5_1 g4_0 g4_1 g4_2 g4_3 g4_4 g4_5 g4_6 g4_7 g4_8 g4_9 g4_10 q4_0 q4_1 q4_2
      go_wp2_with fail
      go_ret
      exact ⟨rfl, HBW.out.trans (Below.mono (by repeat (first | exact Below.refl _ _ | with_reducible exact HB5.out | (refine Below.alloc ?_ (by first | omega | (simp; omega) | simp) _) | (refine Below.setCell ?_ (by first | omega | (simp; omega) | simp) _) | refine Below.drew ?_)) HBW.out.size)⟩

set_option maxRecDepth 100000 in
set_option maxHeartbeats 8000000 in
theorem more_p2 (f : PFrame) (sa : Option Addr) (sl sc : Nat) (pa : Option Addr) (pl pc : Nat) (ca : Option Addr) (cl cc : Nat) (kind slack : Int) (hr : f.ready = true) (hs : f.slack < slack) (hs2 : (f.slacked slack).ready = false) (w : World) (hp : PAt w sa sl sc pa pl pc ca cl cc f) :
    Calls Try.prog 11 #[.agg #[.int .i64 f.len, .int .i64 f.slack, .slice sa sl sc, .slice pa pl pc, .slice ca cl cc], .int .i64 kind, .int .i64 slack] w fun e w' => e = .returned (.bool true) ∧ Below w.heap.size w w' := by
  have ho : f.ok = true := by unfold PFrame.ready at hr; simp only [Bool.and_eq_true] at hr; exact hr.2
  have HPP := Lib.hid (fun W (h : Below w.heap.size w W) => hp.below h)
  have HR1 := Lib.hid (fun W (h : Below w.heap.size w W) => ready_is f sa sl sc pa pl pc ca cl cc true hr W (hp.below h))
  obtain ⟨s1, s2, s3, s4⟩ := ok_sizes sa sl sc pa pl pc ca cl cc ho hp
  have HCP := Lib.hid (fun W (h : Below w.heap.size w W) => Copy_keeps f sa sl sc pa pl pc ca cl cc W (hp.below h) s1 s2 s3 s4)
  have HK := Lib.hid (fun W => works_any W)
  obtain ⟨hsl, hsm, hsc⟩ := hp.1
  unfold maxLen at hsm
  have HW := Lib.hid (fun b (h : btw kind 0 ((sl : Int) - 1) = b) W => Within_is kind 0 ((sl : Int) - 1) b h W)
  rcases h1 : btw kind 0 ((sl : Int) - 1) with - | -
  · have HWI := Lib.hid (HW.out _ h1)
    clear HW h1 hsc
    go_enter Try.func11, Try.ntmps11
    go_wp2_with fail
    obtain ⟨W0, hW0, hB0, ⟨g0_0, g0_1, g0_2, g0_3, g0_4⟩, hz0⟩ : ∃ W0, (w.alloc (.cells #[.int .i64 f.len, .int .i64 f.slack, .slice sa sl sc, .slice pa pl pc, .slice ca cl cc] 26)) = W0 ∧ Below w.heap.size w W0 ∧ (W0.cell? ⟨w.heap.size, 0, none⟩ = some (.int .i64 f.len) ∧ W0.cell? ⟨w.heap.size, 1, none⟩ = some (.int .i64 f.slack) ∧ W0.cell? ⟨w.heap.size, 2, none⟩ = some (.slice sa sl sc) ∧ W0.cell? ⟨w.heap.size, 3, none⟩ = some (.slice pa pl pc) ∧ W0.cell? ⟨w.heap.size, 4, none⟩ = some (.slice ca cl cc)) ∧ W0.heap.size = w.heap.size + 1 :=
      ⟨_, rfl, (by repeat (first | exact Below.refl _ _ | (refine Below.alloc ?_ (by first | omega | (simp; omega) | simp) _) | (refine Below.setCell ?_ (by first | omega | (simp; omega) | simp) _) | refine Below.drew ?_)), ⟨by go_simp, by go_simp, by go_simp, by go_simp, by go_simp⟩, by simp⟩
    rw [hW0]
    clear hW0
    have HBW := Lib.hid hB0
    have q0_0 : w.heap.size < W0.heap.size := by omega
    clear hB0 hz0
    go_wp2_with fail
    refine (HR1.out _ (HBW.out.trans (Below.mono (by repeat (first | exact Below.refl _ _ | (refine Below.alloc ?_ (by first | omega | (simp; omega) | simp) _) | (refine Below.setCell ?_ (by first | omega | (simp; omega) | simp) _) | refine Below.drew ?_)) HBW.out.size))).mono ?_
    rintro e v1 ⟨rfl, hb1⟩
    have hB1_0 : Below W0.heap.size W0 v1 := below_via (Lib.hid hb1) (by first | omega | (simp; done) | (simp; omega)) (by repeat (first | exact Below.refl _ _ | (refine Below.alloc ?_ (by first | omega | (simp; omega) | simp) _) | (refine Below.setCell ?_ (by first | omega | (simp; omega) | simp) _) | refine Below.drew ?_))
    have z1 := hb1.size
    (try simp at z1)
    obtain ⟨g1_0, g1_1, g1_2, g1_3, g1_4⟩ : v1.cell? ⟨w.heap.size, 0, none⟩ = some (.int .i64 f.len) ∧ v1.cell? ⟨w.heap.size, 1, none⟩ = some (.int .i64 f.slack) ∧ v1.cell? ⟨w.heap.size, 2, none⟩ = some (.slice sa sl sc) ∧ v1.cell? ⟨w.heap.size, 3, none⟩ = some (.slice pa pl pc) ∧ v1.cell? ⟨w.heap.size, 4, none⟩ = some (.slice ca cl cc) :=
      ⟨(hb1.cell (p := ⟨w.heap.size, 0, none⟩) (by first | omega | (simp; done) | (simp; omega))).trans (by first | (go_simp; done) | (go_simp; exact set_same (u := .int .i64 0) (by go_simp; done))), (hb1.cell (p := ⟨w.heap.size, 1, none⟩) (by first | omega | (simp; done) | (simp; omega))).trans (by first | (go_simp; done) | (go_simp; exact set_same (u := .int .i64 0) (by go_simp; done))), (hb1.cell (p := ⟨w.heap.size, 2, none⟩) (by first | omega | (simp; done) | (simp; omega))).trans (by first | (go_simp; done) | (go_simp; exact set_same (u := .int .i64 0) (by go_simp; done))), (hb1.cell (p := ⟨w.heap.size, 3, none⟩) (by first | omega | (simp; done) | (simp; omega))).trans (by first | (go_simp; done) | (go_simp; exact set_same (u := .int .i64 0) (by go_simp; done))), (hb1.cell (p := ⟨w.heap.size, 4, none⟩) (by first | omega | (simp; done) | (simp; omega))).trans (by first | (go_simp; done) | (go_simp; exact set_same (u := .int .i64 0) (by go_simp; done)))⟩
    have q1_0 : w.heap.size < v1.heap.size := by first | omega | (simp at *; omega)
    have HB1 := Lib.hid hB1_0
    have y1 := hB1_0.size
    clear hb1 hB1_0 g0_0 g0_1 g0_2 g0_3 g0_4 q0_0
    go_wp2_with fail
    refine (HCP.out _ (HBW.out.trans (Below.mono (by repeat (first | exact Below.refl _ _ | with_reducible exact HB1.out | (refine Below.alloc ?_ (by first | omega | (simp; omega) | simp) _) | (refine Below.setCell ?_ (by first | omega | (simp; omega) | simp) _) | refine Below.drew ?_)) HBW.out.size))).mono ?_
    rintro e v2 ⟨ga, gc, ha, hc, ia, ic, rfl, hK, hb2⟩
    have hB2_0 : Below W0.heap.size W0 v2 := below_via (Lib.hid hb2) (by first | omega | (simp; done) | (simp; omega)) (by repeat (first | exact Below.refl _ _ | with_reducible exact HB1.out | (refine Below.alloc ?_ (by first | omega | (simp; omega) | simp) _) | (refine Below.setCell ?_ (by first | omega | (simp; omega) | simp) _) | refine Below.drew ?_))
    have z2 := hb2.size
    (try simp at z2)
    obtain ⟨g2_0, g2_1, g2_2, g2_3, g2_4⟩ : v2.cell? ⟨w.heap.size, 0, none⟩ = some (.int .i64 f.len) ∧ v2.cell? ⟨w.heap.size, 1, none⟩ = some (.int .i64 f.slack) ∧ v2.cell? ⟨w.heap.size, 2, none⟩ = some (.slice sa sl sc) ∧ v2.cell? ⟨w.heap.size, 3, none⟩ = some (.slice pa pl pc) ∧ v2.cell? ⟨w.heap.size, 4, none⟩ = some (.slice ca cl cc) :=
      ⟨(hb2.cell (p := ⟨w.heap.size, 0, none⟩) (by first | omega | (simp; done) | (simp; omega))).trans (by first | (go_simp; done) | (go_simp; exact set_same (u := .int .i64 0) (by go_simp; done))), (hb2.cell (p := ⟨w.heap.size, 1, none⟩) (by first | omega | (simp; done) | (simp; omega))).trans (by first | (go_simp; done) | (go_simp; exact set_same (u := .int .i64 0) (by go_simp; done))), (hb2.cell (p := ⟨w.heap.size, 2, none⟩) (by first | omega | (simp; done) | (simp; omega))).trans (by first | (go_simp; done) | (go_simp; exact set_same (u := .int .i64 0) (by go_simp; done))), (hb2.cell (p := ⟨w.heap.size, 3, none⟩) (by first | omega | (simp; done) | (simp; omega))).trans (by first | (go_simp; done) | (go_simp; exact set_same (u := .int .i64 0) (by go_simp; done))), (hb2.cell (p := ⟨w.heap.size, 4, none⟩) (by first | omega | (simp; done) | (simp; omega))).trans (by first | (go_simp; done) | (go_simp; exact set_same (u := .int .i64 0) (by go_simp; done)))⟩
    have q2_0 : w.heap.size < v2.heap.size := by first | omega | (simp at *; omega)
    have HB2 := Lib.hid hB2_0
    have y2 := hB2_0.size
    clear hb2 hB2_0 g1_0 g1_1 g1_2 g1_3 g1_4 q1_0
    have HO := Lib.hid (fun W (h : Below v2.heap.size v2 W) => hK W (KeepsUp.below h))
    clear hK
    have HR2 := Lib.hid (fun W (h : Below v2.heap.size v2 W) => show Calls Try.prog 48 #[.agg #[.int .i64 f.len, .int .i64 slack, .slice ga sl gc, .slice ha pl hc, .slice ia cl ic]] W fun e w' => e = .returned (.bool false) ∧ Below W.heap.size W w' from ready_is (f.slacked slack) ga sl gc ha pl hc ia cl ic false hs2 W (HO.out W h))
    go_wp2_with fail
    refine (HR2.out _ (by repeat (first | exact Below.refl _ _ | (refine Below.alloc ?_ (by first | omega | (simp; omega) | simp) _) | (refine Below.setCell ?_ (by first | omega | (simp; omega) | simp) _) | refine Below.drew ?_))).mono ?_
    rintro e v3 ⟨rfl, hb3⟩
    have hB3_0 : Below W0.heap.size W0 v3 := below_via (Lib.hid hb3) (by first | omega | (simp; done) | (simp; omega)) (by repeat (first | exact Below.refl _ _ | with_reducible exact HB2.out | (refine Below.alloc ?_ (by first | omega | (simp; omega) | simp) _) | (refine Below.setCell ?_ (by first | omega | (simp; omega) | simp) _) | refine Below.drew ?_))
    have hB3_1 : Below v2.heap.size v2 v3 := below_via (Lib.hid hb3) (by first | omega | (simp; done) | (simp; omega)) (by repeat (first | exact Below.refl _ _ | (refine Below.alloc ?_ (by first | omega | (simp; omega) | simp) _) | (refine Below.setCell ?_ (by first | omega | (simp; omega) | simp) _) | refine Below.drew ?_))
    have z3 := hb3.size
    (try simp at z3)
    obtain ⟨g3_0, g3_1, g3_2, g3_3, g3_4, g3_5, g3_6, g3_7, g3_8, g3_9⟩ : v3.cell? ⟨w.heap.size, 0, none⟩ = some (.int .i64 f.len) ∧ v3.cell? ⟨w.heap.size, 1, none⟩ = some (.int .i64 f.slack) ∧ v3.cell? ⟨w.heap.size, 2, none⟩ = some (.slice sa sl sc) ∧ v3.cell? ⟨w.heap.size, 3, none⟩ = some (.slice pa pl pc) ∧ v3.cell? ⟨w.heap.size, 4, none⟩ = some (.slice ca cl cc) ∧ v3.cell? ⟨v2.heap.size, 0, none⟩ = some (.int .i64 f.len) ∧ v3.cell? ⟨v2.heap.size, 1, none⟩ = some (.int .i64 slack) ∧ v3.cell? ⟨v2.heap.size, 2, none⟩ = some (.slice ga sl gc) ∧ v3.cell? ⟨v2.heap.size, 3, none⟩ = some (.slice ha pl hc) ∧ v3.cell? ⟨v2.heap.size, 4, none⟩ = some (.slice ia cl ic) :=
      ⟨(hb3.cell (p := ⟨w.heap.size, 0, none⟩) (by first | omega | (simp; done) | (simp; omega))).trans (by first | (go_simp; done) | (go_simp; exact set_same (u := .int .i64 0) (by go_simp; done))), (hb3.cell (p := ⟨w.heap.size, 1, none⟩) (by first | omega | (simp; done) | (simp; omega))).trans (by first | (go_simp; done) | (go_simp; exact set_same (u := .int .i64 0) (by go_simp; done))), (hb3.cell (p := ⟨w.heap.size, 2, none⟩) (by first | omega | (simp; done) | (simp; omega))).trans (by first | (go_simp; done) | (go_simp; exact set_same (u := .int .i64 0) (by go_simp; done))), (hb3.cell (p := ⟨w.heap.size, 3, none⟩) (by first | omega | (simp; done) | (simp; omega))).trans (by first | (go_simp; done) | (go_simp; exact set_same (u := .int .i64 0) (by go_simp; done))), (hb3.cell (p := ⟨w.heap.size, 4, none⟩) (by first | omega | (simp; done) | (simp; omega))).trans (by first | (go_simp; done) | (go_simp; exact set_same (u := .int .i64 0) (by go_simp; done))), (hb3.cell (p := ⟨v2.heap.size, 0, none⟩) (by first | omega | (simp; done) | (simp; omega))).trans (by first | (go_simp; done) | (go_simp; exact set_same (u := .int .i64 0) (by go_simp; done))), (hb3.cell (p := ⟨v2.heap.size, 1, none⟩) (by first | omega | (simp; done) | (simp; omega))).trans (by first | (go_simp; done) | (go_simp; exact set_same (u := .int .i64 0) (by go_simp; done))), (hb3.cell (p := ⟨v2.heap.size, 2, none⟩) (by first | omega | (simp; done) | (simp; omega))).trans (by first | (go_simp; done) | (go_simp; exact set_same (u := .int .i64 0) (by go_simp; done))), (hb3.cell (p := ⟨v2.heap.size, 3, none⟩) (by first | omega | (simp; done) | (simp; omega))).trans (by first | (go_simp; done) | (go_simp; exact set_same (u := .int .i64 0) (by go_simp; done))), (hb3.cell (p := ⟨v2.heap.size, 4, none⟩) (by first | omega | (simp; done) | (simp; omega))).trans (by first | (go_simp; done) | (go_simp; exact set_same (u := .int .i64 0) (by go_simp; done)))⟩
    have q3_0 : w.heap.size < v3.heap.size := by first | omega | (simp at *; omega)
    have q3_1 : v2.heap.size < v3.heap.size := by first | omega | (simp at *; omega)
    have HB3 := Lib.hid hB3_0
    have HC3 := Lib.hid hB3_1
    have y3 := hB3_0.size
    clear hb3 hB3_0 hB3_1 g2_0 g2_1 g2_2 g2_3 g2_4 q2_0
    go_wp2_with fail
    refine (HWI.out _).mono ?_
    rintro e v' ⟨rfl, rfl⟩
    go_wp2_with fail
    refine (HK.out _).mono ?_
    rintro e v4 ⟨rfl, hb4⟩
    have hB4_0 : Below W0.heap.size W0 v4 := below_via (Lib.hid hb4) (by first | omega | (simp; done) | (simp; omega)) (by repeat (first | exact Below.refl _ _ | with_reducible exact HB3.out | (refine Below.alloc ?_ (by first | omega | (simp; omega) | simp) _) | (refine Below.setCell ?_ (by first | omega | (simp; omega) | simp) _) | refine Below.drew ?_))
    have hB4_1 : Below v2.heap.size v2 v4 := below_via (Lib.hid hb4) (by first | omega | (simp; done) | (simp; omega)) (by repeat (first | exact Below.refl _ _ | with_reducible exact HC3.out | (refine Below.alloc ?_ (by first | omega | (simp; omega) | simp) _) | (refine Below.setCell ?_ (by first | omega | (simp; omega) | simp) _) | refine Below.drew ?_))
    have z4 := hb4.size
    (try simp at z4)
    have HB4 := Lib.hid hB4_0
    have HC4 := Lib.hid hB4_1
    have y4 := hB4_0.size
    clear hb4 hB4_0 hB4_1 g3_0 g3_1 g3_2 g3_3 g3_4 g3_5 g3_6 g3_7 g3_8 g3_9 q3_0 q3_1
    go_wp2_with fail
    go_ret
    exact ⟨rfl, HBW.out.trans (Below.mono (by repeat (first | exact Below.refl _ _ | with_reducible exact HB4.out | (refine Below.alloc ?_ (by first | omega | (simp; omega) | simp) _) | (refine Below.setCell ?_ (by first | omega | (simp; omega) | simp) _) | refine Below.drew ?_)) HBW.out.size)⟩
  · have HWI := Lib.hid (HW.out _ h1)
    obtain ⟨k, rfl⟩ : ∃ k : Nat, (k : Int) = kind := ⟨kind.toNat, by unfold btw at h1; simp at h1; omega⟩
    have hk : k < f.strips.length := by unfold btw at h1; simp at h1; omega
    have hkl : (k : Int) < (sl : Int) := by omega
    have hk0 : (0 : Int) ≤ (k : Int) := by omega
    obtain ⟨sb, so, rfl, hsb, hsc⟩ := hsc (by omega)
    obtain ⟨m, hm⟩ : ∃ m, f.many k = m := ⟨_, rfl⟩
    have hmb := many_bd ho k
    rw [hm] at hmb
    have hcell := (hsc k hk).2
    have hm2 : f.strips[k].m = m := by rw [← hm]; unfold PFrame.many; simp [hk]
    rw [hm2] at hcell
    have hwr : IntKind.i64.wrap (m + 1) = m + 1 := IntWalk.i64_in _ ⟨by omega, by omega⟩
    have HST := Lib.hid (fun W (h : Below w.heap.size w W) => show Calls Try.prog 66 #[.agg #[.int .i64 f.len, .int .i64 f.slack, .slice (some ⟨sb, so, none⟩) sl sc, .slice pa pl pc, .slice ca cl cc], .int .i64 k, .int .i64 (m + 1)] W fun e w' => (∃ ga gc ha hc ia ic, e = .returned (.agg #[.int .i64 f.len, .int .i64 f.slack, .slice ga sl gc, .slice ha pl hc, .slice ia cl ic]) ∧ (∀ W', KeepsUp W.heap.size w' W' → PAt W' ga sl gc ha pl hc ia cl ic (f.stocked k (m + 1)))) ∧ Below W.heap.size W w' from (Stocked_any f (some ⟨sb, so, none⟩) sl sc pa pl pc ca cl cc k hk (m + 1) W (hp.below h) s1 s2 s3 s4).mono fun e w' h => by obtain ⟨a, b, c, d, e', f', g1, g2, g3⟩ := h; exact ⟨⟨a, b, c, d, e', f', g1, g2⟩, g3⟩)
    clear HW h1 hsc hm2
    rcases hk2 : (f.stocked k (m + 1)).ready with - | -
    · skip
      go_enter Try.func11, Try.ntmps11
      go_wp2_with fail
      obtain ⟨W0, hW0, hB0, ⟨g0_0, g0_1, g0_2, g0_3, g0_4⟩, hz0⟩ : ∃ W0, (w.alloc (.cells #[.int .i64 f.len, .int .i64 f.slack, .slice (some ⟨sb, so, none⟩) sl sc, .slice pa pl pc, .slice ca cl cc] 26)) = W0 ∧ Below w.heap.size w W0 ∧ (W0.cell? ⟨w.heap.size, 0, none⟩ = some (.int .i64 f.len) ∧ W0.cell? ⟨w.heap.size, 1, none⟩ = some (.int .i64 f.slack) ∧ W0.cell? ⟨w.heap.size, 2, none⟩ = some (.slice (some ⟨sb, so, none⟩) sl sc) ∧ W0.cell? ⟨w.heap.size, 3, none⟩ = some (.slice pa pl pc) ∧ W0.cell? ⟨w.heap.size, 4, none⟩ = some (.slice ca cl cc)) ∧ W0.heap.size = w.heap.size + 1 :=
        ⟨_, rfl, (by repeat (first | exact Below.refl _ _ | (refine Below.alloc ?_ (by first | omega | (simp; omega) | simp) _) | (refine Below.setCell ?_ (by first | omega | (simp; omega) | simp) _) | refine Below.drew ?_)), ⟨by go_simp, by go_simp, by go_simp, by go_simp, by go_simp⟩, by simp⟩
      rw [hW0]
      clear hW0
      have HBW := Lib.hid hB0
      have q0_0 : w.heap.size < W0.heap.size := by omega
      clear hB0 hz0
      have g0_5 : W0.cell? ⟨sb, so + k * 2 + 1, none⟩ = some (.int .i64 m) := (HBW.out.cell (p := ⟨sb, so + k * 2 + 1, none⟩) hsb).trans hcell
      have q0_1 : sb < W0.heap.size := Nat.lt_of_lt_of_le hsb HBW.out.size
      go_wp2_with fail
      refine (HR1.out _ (HBW.out.trans (Below.mono (by repeat (first | exact Below.refl _ _ | (refine Below.alloc ?_ (by first | omega | (simp; omega) | simp) _) | (refine Below.setCell ?_ (by first | omega | (simp; omega) | simp) _) | refine Below.drew ?_)) HBW.out.size))).mono ?_
      rintro e v1 ⟨rfl, hb1⟩
      have hB1_0 : Below W0.heap.size W0 v1 := below_via (Lib.hid hb1) (by first | omega | (simp; done) | (simp; omega)) (by repeat (first | exact Below.refl _ _ | (refine Below.alloc ?_ (by first | omega | (simp; omega) | simp) _) | (refine Below.setCell ?_ (by first | omega | (simp; omega) | simp) _) | refine Below.drew ?_))
      have z1 := hb1.size
      (try simp at z1)
      obtain ⟨g1_0, g1_1, g1_2, g1_3, g1_4, g1_5⟩ : v1.cell? ⟨w.heap.size, 0, none⟩ = some (.int .i64 f.len) ∧ v1.cell? ⟨w.heap.size, 1, none⟩ = some (.int .i64 f.slack) ∧ v1.cell? ⟨w.heap.size, 2, none⟩ = some (.slice (some ⟨sb, so, none⟩) sl sc) ∧ v1.cell? ⟨w.heap.size, 3, none⟩ = some (.slice pa pl pc) ∧ v1.cell? ⟨w.heap.size, 4, none⟩ = some (.slice ca cl cc) ∧ v1.cell? ⟨sb, so + k * 2 + 1, none⟩ = some (.int .i64 m) :=
        ⟨(hb1.cell (p := ⟨w.heap.size, 0, none⟩) (by first | omega | (simp; done) | (simp; omega))).trans (by first | (go_simp; done) | (go_simp; exact set_same (u := .int .i64 0) (by go_simp; done))), (hb1.cell (p := ⟨w.heap.size, 1, none⟩) (by first | omega | (simp; done) | (simp; omega))).trans (by first | (go_simp; done) | (go_simp; exact set_same (u := .int .i64 0) (by go_simp; done))), (hb1.cell (p := ⟨w.heap.size, 2, none⟩) (by first | omega | (simp; done) | (simp; omega))).trans (by first | (go_simp; done) | (go_simp; exact set_same (u := .int .i64 0) (by go_simp; done))), (hb1.cell (p := ⟨w.heap.size, 3, none⟩) (by first | omega | (simp; done) | (simp; omega))).trans (by first | (go_simp; done) | (go_simp; exact set_same (u := .int .i64 0) (by go_simp; done))), (hb1.cell (p := ⟨w.heap.size, 4, none⟩) (by first | omega | (simp; done) | (simp; omega))).trans (by first | (go_simp; done) | (go_simp; exact set_same (u := .int .i64 0) (by go_simp; done))), (hb1.cell (p := ⟨sb, so + k * 2 + 1, none⟩) (by first | omega | (simp; done) | (simp; omega))).trans (by first | (go_simp; done) | (go_simp; exact set_same (u := .int .i64 0) (by go_simp; done)))⟩
      have q1_0 : w.heap.size < v1.heap.size := by first | omega | (simp at *; omega)
      have q1_1 : sb < v1.heap.size := by first | omega | (simp at *; omega)
      have HB1 := Lib.hid hB1_0
      have y1 := hB1_0.size
      clear hb1 hB1_0 g0_0 g0_1 g0_2 g0_3 g0_4 g0_5 q0_0 q0_1
      go_wp2_with fail
      refine (HCP.out _ (HBW.out.trans (Below.mono (by repeat (first | exact Below.refl _ _ | with_reducible exact HB1.out | (refine Below.alloc ?_ (by first | omega | (simp; omega) | simp) _) | (refine Below.setCell ?_ (by first | omega | (simp; omega) | simp) _) | refine Below.drew ?_)) HBW.out.size))).mono ?_
      rintro e v2 ⟨ga, gc, ha, hc, ia, ic, rfl, hK, hb2⟩
      have hB2_0 : Below W0.heap.size W0 v2 := below_via (Lib.hid hb2) (by first | omega | (simp; done) | (simp; omega)) (by repeat (first | exact Below.refl _ _ | with_reducible exact HB1.out | (refine Below.alloc ?_ (by first | omega | (simp; omega) | simp) _) | (refine Below.setCell ?_ (by first | omega | (simp; omega) | simp) _) | refine Below.drew ?_))
      have z2 := hb2.size
      (try simp at z2)
      obtain ⟨g2_0, g2_1, g2_2, g2_3, g2_4, g2_5⟩ : v2.cell? ⟨w.heap.size, 0, none⟩ = some (.int .i64 f.len) ∧ v2.cell? ⟨w.heap.size, 1, none⟩ = some (.int .i64 f.slack) ∧ v2.cell? ⟨w.heap.size, 2, none⟩ = some (.slice (some ⟨sb, so, none⟩) sl sc) ∧ v2.cell? ⟨w.heap.size, 3, none⟩ = some (.slice pa pl pc) ∧ v2.cell? ⟨w.heap.size, 4, none⟩ = some (.slice ca cl cc) ∧ v2.cell? ⟨sb, so + k * 2 + 1, none⟩ = some (.int .i64 m) :=
        ⟨(hb2.cell (p := ⟨w.heap.size, 0, none⟩) (by first | omega | (simp; done) | (simp; omega))).trans (by first | (go_simp; done) | (go_simp; exact set_same (u := .int .i64 0) (by go_simp; done))), (hb2.cell (p := ⟨w.heap.size, 1, none⟩) (by first | omega | (simp; done) | (simp; omega))).trans (by first | (go_simp; done) | (go_simp; exact set_same (u := .int .i64 0) (by go_simp; done))), (hb2.cell (p := ⟨w.heap.size, 2, none⟩) (by first | omega | (simp; done) | (simp; omega))).trans (by first | (go_simp; done) | (go_simp; exact set_same (u := .int .i64 0) (by go_simp; done))), (hb2.cell (p := ⟨w.heap.size, 3, none⟩) (by first | omega | (simp; done) | (simp; omega))).trans (by first | (go_simp; done) | (go_simp; exact set_same (u := .int .i64 0) (by go_simp; done))), (hb2.cell (p := ⟨w.heap.size, 4, none⟩) (by first | omega | (simp; done) | (simp; omega))).trans (by first | (go_simp; done) | (go_simp; exact set_same (u := .int .i64 0) (by go_simp; done))), (hb2.cell (p := ⟨sb, so + k * 2 + 1, none⟩) (by first | omega | (simp; done) | (simp; omega))).trans (by first | (go_simp; done) | (go_simp; exact set_same (u := .int .i64 0) (by go_simp; done)))⟩
      have q2_0 : w.heap.size < v2.heap.size := by first | omega | (simp at *; omega)
      have q2_1 : sb < v2.heap.size := by first | omega | (simp at *; omega)
      have HB2 := Lib.hid hB2_0
      have y2 := hB2_0.size
      clear hb2 hB2_0 g1_0 g1_1 g1_2 g1_3 g1_4 g1_5 q1_0 q1_1
      have HO := Lib.hid (fun W (h : Below v2.heap.size v2 W) => hK W (KeepsUp.below h))
      clear hK
      have HR2 := Lib.hid (fun W (h : Below v2.heap.size v2 W) => show Calls Try.prog 48 #[.agg #[.int .i64 f.len, .int .i64 slack, .slice ga sl gc, .slice ha pl hc, .slice ia cl ic]] W fun e w' => e = .returned (.bool false) ∧ Below W.heap.size W w' from ready_is (f.slacked slack) ga sl gc ha pl hc ia cl ic false hs2 W (HO.out W h))
      go_wp2_with fail
      refine (HR2.out _ (by repeat (first | exact Below.refl _ _ | (refine Below.alloc ?_ (by first | omega | (simp; omega) | simp) _) | (refine Below.setCell ?_ (by first | omega | (simp; omega) | simp) _) | refine Below.drew ?_))).mono ?_
      rintro e v3 ⟨rfl, hb3⟩
      have hB3_0 : Below W0.heap.size W0 v3 := below_via (Lib.hid hb3) (by first | omega | (simp; done) | (simp; omega)) (by repeat (first | exact Below.refl _ _ | with_reducible exact HB2.out | (refine Below.alloc ?_ (by first | omega | (simp; omega) | simp) _) | (refine Below.setCell ?_ (by first | omega | (simp; omega) | simp) _) | refine Below.drew ?_))
      have hB3_1 : Below v2.heap.size v2 v3 := below_via (Lib.hid hb3) (by first | omega | (simp; done) | (simp; omega)) (by repeat (first | exact Below.refl _ _ | (refine Below.alloc ?_ (by first | omega | (simp; omega) | simp) _) | (refine Below.setCell ?_ (by first | omega | (simp; omega) | simp) _) | refine Below.drew ?_))
      have z3 := hb3.size
      (try simp at z3)
      obtain ⟨g3_0, g3_1, g3_2, g3_3, g3_4, g3_5, g3_6, g3_7, g3_8, g3_9, g3_10⟩ : v3.cell? ⟨w.heap.size, 0, none⟩ = some (.int .i64 f.len) ∧ v3.cell? ⟨w.heap.size, 1, none⟩ = some (.int .i64 f.slack) ∧ v3.cell? ⟨w.heap.size, 2, none⟩ = some (.slice (some ⟨sb, so, none⟩) sl sc) ∧ v3.cell? ⟨w.heap.size, 3, none⟩ = some (.slice pa pl pc) ∧ v3.cell? ⟨w.heap.size, 4, none⟩ = some (.slice ca cl cc) ∧ v3.cell? ⟨sb, so + k * 2 + 1, none⟩ = some (.int .i64 m) ∧ v3.cell? ⟨v2.heap.size, 0, none⟩ = some (.int .i64 f.len) ∧ v3.cell? ⟨v2.heap.size, 1, none⟩ = some (.int .i64 slack) ∧ v3.cell? ⟨v2.heap.size, 2, none⟩ = some (.slice ga sl gc) ∧ v3.cell? ⟨v2.heap.size, 3, none⟩ = some (.slice ha pl hc) ∧ v3.cell? ⟨v2.heap.size, 4, none⟩ = some (.slice ia cl ic) :=
        ⟨(hb3.cell (p := ⟨w.heap.size, 0, none⟩) (by first | omega | (simp; done) | (simp; omega))).trans (by first | (go_simp; done) | (go_simp; exact set_same (u := .int .i64 0) (by go_simp; done))), (hb3.cell (p := ⟨w.heap.size, 1, none⟩) (by first | omega | (simp; done) | (simp; omega))).trans (by first | (go_simp; done) | (go_simp; exact set_same (u := .int .i64 0) (by go_simp; done))), (hb3.cell (p := ⟨w.heap.size, 2, none⟩) (by first | omega | (simp; done) | (simp; omega))).trans (by first | (go_simp; done) | (go_simp; exact set_same (u := .int .i64 0) (by go_simp; done))), (hb3.cell (p := ⟨w.heap.size, 3, none⟩) (by first | omega | (simp; done) | (simp; omega))).trans (by first | (go_simp; done) | (go_simp; exact set_same (u := .int .i64 0) (by go_simp; done))), (hb3.cell (p := ⟨w.heap.size, 4, none⟩) (by first | omega | (simp; done) | (simp; omega))).trans (by first | (go_simp; done) | (go_simp; exact set_same (u := .int .i64 0) (by go_simp; done))), (hb3.cell (p := ⟨sb, so + k * 2 + 1, none⟩) (by first | omega | (simp; done) | (simp; omega))).trans (by first | (go_simp; done) | (go_simp; exact set_same (u := .int .i64 0) (by go_simp; done))), (hb3.cell (p := ⟨v2.heap.size, 0, none⟩) (by first | omega | (simp; done) | (simp; omega))).trans (by first | (go_simp; done) | (go_simp; exact set_same (u := .int .i64 0) (by go_simp; done))), (hb3.cell (p := ⟨v2.heap.size, 1, none⟩) (by first | omega | (simp; done) | (simp; omega))).trans (by first | (go_simp; done) | (go_simp; exact set_same (u := .int .i64 0) (by go_simp; done))), (hb3.cell (p := ⟨v2.heap.size, 2, none⟩) (by first | omega | (simp; done) | (simp; omega))).trans (by first | (go_simp; done) | (go_simp; exact set_same (u := .int .i64 0) (by go_simp; done))), (hb3.cell (p := ⟨v2.heap.size, 3, none⟩) (by first | omega | (simp; done) | (simp; omega))).trans (by first | (go_simp; done) | (go_simp; exact set_same (u := .int .i64 0) (by go_simp; done))), (hb3.cell (p := ⟨v2.heap.size, 4, none⟩) (by first | omega | (simp; done) | (simp; omega))).trans (by first | (go_simp; done) | (go_simp; exact set_same (u := .int .i64 0) (by go_simp; done)))⟩
      have q3_0 : w.heap.size < v3.heap.size := by first | omega | (simp at *; omega)
      have q3_1 : sb < v3.heap.size := by first | omega | (simp at *; omega)
      have q3_2 : v2.heap.size < v3.heap.size := by first | omega | (simp at *; omega)
      have HB3 := Lib.hid hB3_0
      have HC3 := Lib.hid hB3_1
      have y3 := hB3_0.size
      clear hb3 hB3_0 hB3_1 g2_0 g2_1 g2_2 g2_3 g2_4 g2_5 q2_0 q2_1
      go_wp2_with fail
      refine (HWI.out _).mono ?_
      rintro e v' ⟨rfl, rfl⟩
      have HV4 : Below w.heap.size w v3 := (HBW.out.trans (Below.mono (by repeat (first | exact Below.refl _ _ | with_reducible exact HB3.out | (refine Below.alloc ?_ (by first | omega | (simp; omega) | simp) _) | (refine Below.setCell ?_ (by first | omega | (simp; omega) | simp) _) | refine Below.drew ?_)) HBW.out.size))
      have HX4 := Lib.hid (fun W (h : Below v3.heap.size v3 W ∧ ∀ b o, b < v3.heap.size → W.cell? ⟨b, o, none⟩ = v3.cell? ⟨b, o, none⟩) => bothM2 (W0 := v3) (HST.out W (HV4.trans (h.1.mono HV4.size))) h)
      clear HV4
      go_upto_region 10 with fail
      go_cut [8] (fun v8x wx => ∃ gb ja jc ka kc la lc, v8x = .pointer (some ⟨gb, 0, none⟩) ∧ (wx.cell? ⟨gb, 0, none⟩ = some (.int .i64 f.len) ∧ wx.cell? ⟨gb, 1, none⟩ = some (.int .i64 f.slack) ∧ wx.cell? ⟨gb, 2, none⟩ = some (.slice ja sl jc) ∧ wx.cell? ⟨gb, 3, none⟩ = some (.slice ka pl kc) ∧ wx.cell? ⟨gb, 4, none⟩ = some (.slice la cl lc)) ∧ gb < wx.heap.size ∧ v3.heap.size ≤ gb ∧ Below v3.heap.size v3 wx ∧ (∀ W', Below wx.heap.size wx W' → PAt W' ja sl jc ka pl kc la cl lc (f.stocked k (m + 1))))
      case first =>
        go_region_held3 (fun w' => Below v3.heap.size v3 w' ∧ ∀ b o, b < v3.heap.size → w'.cell? ⟨b, o, none⟩ = v3.cell? ⟨b, o, none⟩) (first | with_reducible assumption | ((repeat (first | with_reducible refine bothS_drew ?_ | with_reducible refine bothS_alloc _ ?_ | with_reducible refine bothS_set _ _ (by first | omega | (simp; omega) | simp) ?_)); first | with_reducible assumption | with_reducible exact Hid.out (by assumption) | with_reducible exact ⟨Below.refl _ _, fun _ _ _ => rfl⟩)) (first
          | (go_at_call 66; with_reducible refine (HX4.out _ ?_).mono ?_; (first | with_reducible assumption | ((repeat (first | with_reducible refine bothS_drew ?_ | with_reducible refine bothS_alloc _ ?_ | with_reducible refine bothS_set _ _ (by first | omega | (simp; omega) | simp) ?_)); first | with_reducible assumption | with_reducible exact Hid.out (by assumption) | with_reducible exact ⟨Below.refl _ _, fun _ _ _ => rfl⟩)); rintro e w' ⟨⟨ja, jc, ka, kc, la, lc, rfl, hK2⟩, k, k1, k2, k3⟩; have HK' := Lib.hid k; (try simp at k3); (try have k6 := Nat.lt_of_succ_le k3); (try have k7 := Nat.lt_of_succ_lt k6))
          | fail "no arm")
        all_goals (go_wp2_with fail; go_meet)
        all_goals refine ⟨_, _, _, _, _, _, _, rfl, ?_, ?_, ?_, And.left (by assumption), fun W' h => hK2 W' (KeepsUp.trans (by repeat (first | with_reducible exact KeepsUp.refl _ _ | (with_reducible refine KeepsUp.set ?_ (by first | exact .inl (by first | omega | (simp; done) | (simp; omega)) | exact .inr (by first | omega | (simp; done) | (simp; omega))) _) | with_reducible refine KeepsUp.alloc _ ?_ | with_reducible refine KeepsUp.drew ?_)) (KeepsUp.below h))⟩
        all_goals first | (refine ⟨?_, ?_, ?_, ?_, ?_⟩ <;> (go_simp; done)) | (with_reducible refine set5 _ _ _ _ _ ?_ ?_ ?_ ?_ ?_ <;> (go_simp; done)) | skip
        all_goals first | omega | (simp; done) | (simp; omega) | skip
      case rest =>
      obtain ⟨gb4, ja, jc, ka, kc, la, lc, rfl, ⟨c4_0, c4_1, c4_2, c4_3, c4_4⟩, hlt4, hge4, hb4, hO2⟩ := hcut
      obtain ⟨v4, rfl⟩ : ∃ v4 : World, v4 = wc := ⟨_, rfl⟩
      have hB4_0 : Below W0.heap.size W0 v4 := below_via (Lib.hid hb4) (by first | omega | (simp; done) | (simp; omega)) (by repeat (first | exact Below.refl _ _ | with_reducible exact HB3.out | (refine Below.alloc ?_ (by first | omega | (simp; omega) | simp) _) | (refine Below.setCell ?_ (by first | omega | (simp; omega) | simp) _) | refine Below.drew ?_))
      have hB4_1 : Below v2.heap.size v2 v4 := below_via (Lib.hid hb4) (by first | omega | (simp; done) | (simp; omega)) (by repeat (first | exact Below.refl _ _ | with_reducible exact HC3.out | (refine Below.alloc ?_ (by first | omega | (simp; omega) | simp) _) | (refine Below.setCell ?_ (by first | omega | (simp; omega) | simp) _) | refine Below.drew ?_))
      have z4 := hb4.size
      (try simp at z4)
      obtain ⟨g4_0, g4_1, g4_2, g4_3, g4_4, g4_5, g4_6, g4_7, g4_8, g4_9, g4_10⟩ : v4.cell? ⟨w.heap.size, 0, none⟩ = some (.int .i64 f.len) ∧ v4.cell? ⟨w.heap.size, 1, none⟩ = some (.int .i64 f.slack) ∧ v4.cell? ⟨w.heap.size, 2, none⟩ = some (.slice (some ⟨sb, so, none⟩) sl sc) ∧ v4.cell? ⟨w.heap.size, 3, none⟩ = some (.slice pa pl pc) ∧ v4.cell? ⟨w.heap.size, 4, none⟩ = some (.slice ca cl cc) ∧ v4.cell? ⟨sb, so + k * 2 + 1, none⟩ = some (.int .i64 m) ∧ v4.cell? ⟨v2.heap.size, 0, none⟩ = some (.int .i64 f.len) ∧ v4.cell? ⟨v2.heap.size, 1, none⟩ = some (.int .i64 slack) ∧ v4.cell? ⟨v2.heap.size, 2, none⟩ = some (.slice ga sl gc) ∧ v4.cell? ⟨v2.heap.size, 3, none⟩ = some (.slice ha pl hc) ∧ v4.cell? ⟨v2.heap.size, 4, none⟩ = some (.slice ia cl ic) :=
        ⟨(hb4.cell (p := ⟨w.heap.size, 0, none⟩) (by first | omega | (simp; done) | (simp; omega))).trans (by first | (go_simp; done) | (go_simp; exact set_same (u := .int .i64 0) (by go_simp; done))), (hb4.cell (p := ⟨w.heap.size, 1, none⟩) (by first | omega | (simp; done) | (simp; omega))).trans (by first | (go_simp; done) | (go_simp; exact set_same (u := .int .i64 0) (by go_simp; done))), (hb4.cell (p := ⟨w.heap.size, 2, none⟩) (by first | omega | (simp; done) | (simp; omega))).trans (by first | (go_simp; done) | (go_simp; exact set_same (u := .int .i64 0) (by go_simp; done))), (hb4.cell (p := ⟨w.heap.size, 3, none⟩) (by first | omega | (simp; done) | (simp; omega))).trans (by first | (go_simp; done) | (go_simp; exact set_same (u := .int .i64 0) (by go_simp; done))), (hb4.cell (p := ⟨w.heap.size, 4, none⟩) (by first | omega | (simp; done) | (simp; omega))).trans (by first | (go_simp; done) | (go_simp; exact set_same (u := .int .i64 0) (by go_simp; done))), (hb4.cell (p := ⟨sb, so + k * 2 + 1, none⟩) (by first | omega | (simp; done) | (simp; omega))).trans (by first | (go_simp; done) | (go_simp; exact set_same (u := .int .i64 0) (by go_simp; done))), (hb4.cell (p := ⟨v2.heap.size, 0, none⟩) (by first | omega | (simp; done) | (simp; omega))).trans (by first | (go_simp; done) | (go_simp; exact set_same (u := .int .i64 0) (by go_simp; done))), (hb4.cell (p := ⟨v2.heap.size, 1, none⟩) (by first | omega | (simp; done) | (simp; omega))).trans (by first | (go_simp; done) | (go_simp; exact set_same (u := .int .i64 0) (by go_simp; done))), (hb4.cell (p := ⟨v2.heap.size, 2, none⟩) (by first | omega | (simp; done) | (simp; omega))).trans (by first | (go_simp; done) | (go_simp; exact set_same (u := .int .i64 0) (by go_simp; done))), (hb4.cell (p := ⟨v2.heap.size, 3, none⟩) (by first | omega | (simp; done) | (simp; omega))).trans (by first | (go_simp; done) | (go_simp; exact set_same (u := .int .i64 0) (by go_simp; done))), (hb4.cell (p := ⟨v2.heap.size, 4, none⟩) (by first | omega | (simp; done) | (simp; omega))).trans (by first | (go_simp; done) | (go_simp; exact set_same (u := .int .i64 0) (by go_simp; done)))⟩
      have q4_0 : w.heap.size < v4.heap.size := by first | omega | (simp at *; omega)
      have q4_1 : sb < v4.heap.size := by first | omega | (simp at *; omega)
      have q4_2 : v2.heap.size < v4.heap.size := by first | omega | (simp at *; omega)
      have HB4 := Lib.hid hB4_0
      have HC4 := Lib.hid hB4_1
      have y4 := hB4_0.size
      clear hb4 hB4_0 hB4_1 g3_0 g3_1 g3_2 g3_3 g3_4 g3_5 g3_6 g3_7 g3_8 g3_9 g3_10 q3_0 q3_1 q3_2
      have g4_11 := c4_0
      have g4_12 := c4_1
      have g4_13 := c4_2
      have g4_14 := c4_3
      have g4_15 := c4_4
      have q4_3 : gb4 < v4.heap.size := hlt4
      clear c4_0 c4_1 c4_2 c4_3 c4_4
      clear HX4
      have HO2 := Lib.hid hO2
      clear hO2
      have HR3 := Lib.hid (fun W (h : Below v4.heap.size v4 W) => show Calls Try.prog 48 #[.agg #[.int .i64 f.len, .int .i64 f.slack, .slice ja sl jc, .slice ka pl kc, .slice la cl lc]] W fun e w' => e = .returned (.bool false) ∧ Below W.heap.size W w' from ready_is (f.stocked k (m + 1)) ja sl jc ka pl kc la cl lc false hk2 W (HO2.out W h))
      go_wp2_with fail
      refine (HR3.out _ (by repeat (first | exact Below.refl _ _ | (refine Below.alloc ?_ (by first | omega | (simp; omega) | simp) _) | (refine Below.setCell ?_ (by first | omega | (simp; omega) | simp) _) | refine Below.drew ?_))).mono ?_
      rintro e v5 ⟨rfl, hb5⟩
      have hB5_0 : Below W0.heap.size W0 v5 := below_via (Lib.hid hb5) (by first | omega | (simp; done) | (simp; omega)) (by repeat (first | exact Below.refl _ _ | with_reducible exact HB4.out | (refine Below.alloc ?_ (by first | omega | (simp; omega) | simp) _) | (refine Below.setCell ?_ (by first | omega | (simp; omega) | simp) _) | refine Below.drew ?_))
      have hB5_1 : Below v2.heap.size v2 v5 := below_via (Lib.hid hb5) (by first | omega | (simp; done) | (simp; omega)) (by repeat (first | exact Below.refl _ _ | with_reducible exact HC4.out | (refine Below.alloc ?_ (by first | omega | (simp; omega) | simp) _) | (refine Below.setCell ?_ (by first | omega | (simp; omega) | simp) _) | refine Below.drew ?_))
      have hB5_2 : Below v4.heap.size v4 v5 := below_via (Lib.hid hb5) (by first | omega | (simp; done) | (simp; omega)) (by repeat (first | exact Below.refl _ _ | (refine Below.alloc ?_ (by first | omega | (simp; omega) | simp) _) | (refine Below.setCell ?_ (by first | omega | (simp; omega) | simp) _) | refine Below.drew ?_))
      have z5 := hb5.size
      (try simp at z5)
      obtain ⟨g5_0, g5_1, g5_2, g5_3, g5_4, g5_5, g5_6, g5_7, g5_8, g5_9, g5_10, g5_11, g5_12, g5_13, g5_14, g5_15⟩ : v5.cell? ⟨w.heap.size, 0, none⟩ = some (.int .i64 f.len) ∧ v5.cell? ⟨w.heap.size, 1, none⟩ = some (.int .i64 f.slack) ∧ v5.cell? ⟨w.heap.size, 2, none⟩ = some (.slice (some ⟨sb, so, none⟩) sl sc) ∧ v5.cell? ⟨w.heap.size, 3, none⟩ = some (.slice pa pl pc) ∧ v5.cell? ⟨w.heap.size, 4, none⟩ = some (.slice ca cl cc) ∧ v5.cell? ⟨sb, so + k * 2 + 1, none⟩ = some (.int .i64 m) ∧ v5.cell? ⟨v2.heap.size, 0, none⟩ = some (.int .i64 f.len) ∧ v5.cell? ⟨v2.heap.size, 1, none⟩ = some (.int .i64 slack) ∧ v5.cell? ⟨v2.heap.size, 2, none⟩ = some (.slice ga sl gc) ∧ v5.cell? ⟨v2.heap.size, 3, none⟩ = some (.slice ha pl hc) ∧ v5.cell? ⟨v2.heap.size, 4, none⟩ = some (.slice ia cl ic) ∧ v5.cell? ⟨gb4, 0, none⟩ = some (.int .i64 f.len) ∧ v5.cell? ⟨gb4, 1, none⟩ = some (.int .i64 f.slack) ∧ v5.cell? ⟨gb4, 2, none⟩ = some (.slice ja sl jc) ∧ v5.cell? ⟨gb4, 3, none⟩ = some (.slice ka pl kc) ∧ v5.cell? ⟨gb4, 4, none⟩ = some (.slice la cl lc) :=
        ⟨(hb5.cell (p := ⟨w.heap.size, 0, none⟩) (by first | omega | (simp; done) | (simp; omega))).trans (by first | (go_simp; done) | (go_simp; exact set_same (u := .int .i64 0) (by go_simp; done))), (hb5.cell (p := ⟨w.heap.size, 1, none⟩) (by first | omega | (simp; done) | (simp; omega))).trans (by first | (go_simp; done) | (go_simp; exact set_same (u := .int .i64 0) (by go_simp; done))), (hb5.cell (p := ⟨w.heap.size, 2, none⟩) (by first | omega | (simp; done) | (simp; omega))).trans (by first | (go_simp; done) | (go_simp; exact set_same (u := .int .i64 0) (by go_simp; done))), (hb5.cell (p := ⟨w.heap.size, 3, none⟩) (by first | omega | (simp; done) | (simp; omega))).trans (by first | (go_simp; done) | (go_simp; exact set_same (u := .int .i64 0) (by go_simp; done))), (hb5.cell (p := ⟨w.heap.size, 4, none⟩) (by first | omega | (simp; done) | (simp; omega))).trans (by first | (go_simp; done) | (go_simp; exact set_same (u := .int .i64 0) (by go_simp; done))), (hb5.cell (p := ⟨sb, so + k * 2 + 1, none⟩) (by first | omega | (simp; done) | (simp; omega))).trans (by first | (go_simp; done) | (go_simp; exact set_same (u := .int .i64 0) (by go_simp; done))), (hb5.cell (p := ⟨v2.heap.size, 0, none⟩) (by first | omega | (simp; done) | (simp; omega))).trans (by first | (go_simp; done) | (go_simp; exact set_same (u := .int .i64 0) (by go_simp; done))), (hb5.cell (p := ⟨v2.heap.size, 1, none⟩) (by first | omega | (simp; done) | (simp; omega))).trans (by first | (go_simp; done) | (go_simp; exact set_same (u := .int .i64 0) (by go_simp; done))), (hb5.cell (p := ⟨v2.heap.size, 2, none⟩) (by first | omega | (simp; done) | (simp; omega))).trans (by first | (go_simp; done) | (go_simp; exact set_same (u := .int .i64 0) (by go_simp; done))), (hb5.cell (p := ⟨v2.heap.size, 3, none⟩) (by first | omega | (simp; done) | (simp; omega))).trans (by first | (go_simp; done) | (go_simp; exact set_same (u := .int .i64 0) (by go_simp; done))), (hb5.cell (p := ⟨v2.heap.size, 4, none⟩) (by first | omega | (simp; done) | (simp; omega))).trans (by first | (go_simp; done) | (go_simp; exact set_same (u := .int .i64 0) (by go_simp; done))), (hb5.cell (p := ⟨gb4, 0, none⟩) (by first | omega | (simp; done) | (simp; omega))).trans (by first | (go_simp; done) | (go_simp; exact set_same (u := .int .i64 0) (by go_simp; done))), (hb5.cell (p := ⟨gb4, 1, none⟩) (by first | omega | (simp; done) | (simp; omega))).trans (by first | (go_simp; done) | (go_simp; exact set_same (u := .int .i64 0) (by go_simp; done))), (hb5.cell (p := ⟨gb4, 2, none⟩) (by first | omega | (simp; done) | (simp; omega))).trans (by first | (go_simp; done) | (go_simp; exact set_same (u := .int .i64 0) (by go_simp; done))), (hb5.cell (p := ⟨gb4, 3, none⟩) (by first | omega | (simp; done) | (simp; omega))).trans (by first | (go_simp; done) | (go_simp; exact set_same (u := .int .i64 0) (by go_simp; done))), (hb5.cell (p := ⟨gb4, 4, none⟩) (by first | omega | (simp; done) | (simp; omega))).trans (by first | (go_simp; done) | (go_simp; exact set_same (u := .int .i64 0) (by go_simp; done)))⟩
      have q5_0 : w.heap.size < v5.heap.size := by first | omega | (simp at *; omega)
      have q5_1 : sb < v5.heap.size := by first | omega | (simp at *; omega)
      have q5_2 : v2.heap.size < v5.heap.size := by first | omega | (simp at *; omega)
      have q5_3 : gb4 < v5.heap.size := by first | omega | (simp at *; omega)
      have HB5 := Lib.hid hB5_0
      have HC5 := Lib.hid hB5_1
      have HD5 := Lib.hid hB5_2
      have y5 := hB5_0.size
      clear hb5 hB5_0 hB5_1 hB5_2 g4_0 g4_1 g4_2 g4_3 g4_4 g4_5 g4_6 g4_7 g4_8 g4_9 g4_10 g4_11 g4_12 g4_13 g4_14 g4_15 q4_0 q4_1 q4_2 q4_3
      go_wp2_with fail
      refine (HK.out _).mono ?_
      rintro e v6 ⟨rfl, hb6⟩
      have hB6_0 : Below W0.heap.size W0 v6 := below_via (Lib.hid hb6) (by first | omega | (simp; done) | (simp; omega)) (by repeat (first | exact Below.refl _ _ | with_reducible exact HB5.out | (refine Below.alloc ?_ (by first | omega | (simp; omega) | simp) _) | (refine Below.setCell ?_ (by first | omega | (simp; omega) | simp) _) | refine Below.drew ?_))
      have hB6_1 : Below v2.heap.size v2 v6 := below_via (Lib.hid hb6) (by first | omega | (simp; done) | (simp; omega)) (by repeat (first | exact Below.refl _ _ | with_reducible exact HC5.out | (refine Below.alloc ?_ (by first | omega | (simp; omega) | simp) _) | (refine Below.setCell ?_ (by first | omega | (simp; omega) | simp) _) | refine Below.drew ?_))
      have hB6_2 : Below v4.heap.size v4 v6 := below_via (Lib.hid hb6) (by first | omega | (simp; done) | (simp; omega)) (by repeat (first | exact Below.refl _ _ | with_reducible exact HD5.out | (refine Below.alloc ?_ (by first | omega | (simp; omega) | simp) _) | (refine Below.setCell ?_ (by first | omega | (simp; omega) | simp) _) | refine Below.drew ?_))
      have z6 := hb6.size
      (try simp at z6)
      have HB6 := Lib.hid hB6_0
      have HC6 := Lib.hid hB6_1
      have HD6 := Lib.hid hB6_2
      have y6 := hB6_0.size
      clear hb6 hB6_0 hB6_1 hB6_2 g5_0 g5_1 g5_2 g5_3 g5_4 g5_5 g5_6 g5_7 g5_8 g5_9 g5_10 g5_11 g5_12 g5_13 g5_14 g5_15 q5_0 q5_1 q5_2 q5_3
      go_wp2_with fail
      go_ret
      exact ⟨rfl, HBW.out.trans (Below.mono (by repeat (first | exact Below.refl _ _ | with_reducible exact HB6.out | (refine Below.alloc ?_ (by first | omega | (simp; omega) | simp) _) | (refine Below.setCell ?_ (by first | omega | (simp; omega) | simp) _) | refine Below.drew ?_)) HBW.out.size)⟩
    · have hko : (f.stocked k (m + 1)).ok = true := by unfold PFrame.ready at hk2; simp only [Bool.and_eq_true] at hk2; exact hk2.2
      have hmore := more_strip ho k (by rw [hm]; exact hko)
      rw [hm] at hmore
      go_enter Try.func11, Try.ntmps11
      go_wp2_with fail
      obtain ⟨W0, hW0, hB0, ⟨g0_0, g0_1, g0_2, g0_3, g0_4⟩, hz0⟩ : ∃ W0, (w.alloc (.cells #[.int .i64 f.len, .int .i64 f.slack, .slice (some ⟨sb, so, none⟩) sl sc, .slice pa pl pc, .slice ca cl cc] 26)) = W0 ∧ Below w.heap.size w W0 ∧ (W0.cell? ⟨w.heap.size, 0, none⟩ = some (.int .i64 f.len) ∧ W0.cell? ⟨w.heap.size, 1, none⟩ = some (.int .i64 f.slack) ∧ W0.cell? ⟨w.heap.size, 2, none⟩ = some (.slice (some ⟨sb, so, none⟩) sl sc) ∧ W0.cell? ⟨w.heap.size, 3, none⟩ = some (.slice pa pl pc) ∧ W0.cell? ⟨w.heap.size, 4, none⟩ = some (.slice ca cl cc)) ∧ W0.heap.size = w.heap.size + 1 :=
        ⟨_, rfl, (by repeat (first | exact Below.refl _ _ | (refine Below.alloc ?_ (by first | omega | (simp; omega) | simp) _) | (refine Below.setCell ?_ (by first | omega | (simp; omega) | simp) _) | refine Below.drew ?_)), ⟨by go_simp, by go_simp, by go_simp, by go_simp, by go_simp⟩, by simp⟩
      rw [hW0]
      clear hW0
      have HBW := Lib.hid hB0
      have q0_0 : w.heap.size < W0.heap.size := by omega
      clear hB0 hz0
      have g0_5 : W0.cell? ⟨sb, so + k * 2 + 1, none⟩ = some (.int .i64 m) := (HBW.out.cell (p := ⟨sb, so + k * 2 + 1, none⟩) hsb).trans hcell
      have q0_1 : sb < W0.heap.size := Nat.lt_of_lt_of_le hsb HBW.out.size
      go_wp2_with fail
      refine (HR1.out _ (HBW.out.trans (Below.mono (by repeat (first | exact Below.refl _ _ | (refine Below.alloc ?_ (by first | omega | (simp; omega) | simp) _) | (refine Below.setCell ?_ (by first | omega | (simp; omega) | simp) _) | refine Below.drew ?_)) HBW.out.size))).mono ?_
      rintro e v1 ⟨rfl, hb1⟩
      have hB1_0 : Below W0.heap.size W0 v1 := below_via (Lib.hid hb1) (by first | omega | (simp; done) | (simp; omega)) (by repeat (first | exact Below.refl _ _ | (refine Below.alloc ?_ (by first | omega | (simp; omega) | simp) _) | (refine Below.setCell ?_ (by first | omega | (simp; omega) | simp) _) | refine Below.drew ?_))
      have z1 := hb1.size
      (try simp at z1)
      obtain ⟨g1_0, g1_1, g1_2, g1_3, g1_4, g1_5⟩ : v1.cell? ⟨w.heap.size, 0, none⟩ = some (.int .i64 f.len) ∧ v1.cell? ⟨w.heap.size, 1, none⟩ = some (.int .i64 f.slack) ∧ v1.cell? ⟨w.heap.size, 2, none⟩ = some (.slice (some ⟨sb, so, none⟩) sl sc) ∧ v1.cell? ⟨w.heap.size, 3, none⟩ = some (.slice pa pl pc) ∧ v1.cell? ⟨w.heap.size, 4, none⟩ = some (.slice ca cl cc) ∧ v1.cell? ⟨sb, so + k * 2 + 1, none⟩ = some (.int .i64 m) :=
        ⟨(hb1.cell (p := ⟨w.heap.size, 0, none⟩) (by first | omega | (simp; done) | (simp; omega))).trans (by first | (go_simp; done) | (go_simp; exact set_same (u := .int .i64 0) (by go_simp; done))), (hb1.cell (p := ⟨w.heap.size, 1, none⟩) (by first | omega | (simp; done) | (simp; omega))).trans (by first | (go_simp; done) | (go_simp; exact set_same (u := .int .i64 0) (by go_simp; done))), (hb1.cell (p := ⟨w.heap.size, 2, none⟩) (by first | omega | (simp; done) | (simp; omega))).trans (by first | (go_simp; done) | (go_simp; exact set_same (u := .int .i64 0) (by go_simp; done))), (hb1.cell (p := ⟨w.heap.size, 3, none⟩) (by first | omega | (simp; done) | (simp; omega))).trans (by first | (go_simp; done) | (go_simp; exact set_same (u := .int .i64 0) (by go_simp; done))), (hb1.cell (p := ⟨w.heap.size, 4, none⟩) (by first | omega | (simp; done) | (simp; omega))).trans (by first | (go_simp; done) | (go_simp; exact set_same (u := .int .i64 0) (by go_simp; done))), (hb1.cell (p := ⟨sb, so + k * 2 + 1, none⟩) (by first | omega | (simp; done) | (simp; omega))).trans (by first | (go_simp; done) | (go_simp; exact set_same (u := .int .i64 0) (by go_simp; done)))⟩
      have q1_0 : w.heap.size < v1.heap.size := by first | omega | (simp at *; omega)
      have q1_1 : sb < v1.heap.size := by first | omega | (simp at *; omega)
      have HB1 := Lib.hid hB1_0
      have y1 := hB1_0.size
      clear hb1 hB1_0 g0_0 g0_1 g0_2 g0_3 g0_4 g0_5 q0_0 q0_1
      go_wp2_with fail
      refine (HCP.out _ (HBW.out.trans (Below.mono (by repeat (first | exact Below.refl _ _ | with_reducible exact HB1.out | (refine Below.alloc ?_ (by first | omega | (simp; omega) | simp) _) | (refine Below.setCell ?_ (by first | omega | (simp; omega) | simp) _) | refine Below.drew ?_)) HBW.out.size))).mono ?_
      rintro e v2 ⟨ga, gc, ha, hc, ia, ic, rfl, hK, hb2⟩
      have hB2_0 : Below W0.heap.size W0 v2 := below_via (Lib.hid hb2) (by first | omega | (simp; done) | (simp; omega)) (by repeat (first | exact Below.refl _ _ | with_reducible exact HB1.out | (refine Below.alloc ?_ (by first | omega | (simp; omega) | simp) _) | (refine Below.setCell ?_ (by first | omega | (simp; omega) | simp) _) | refine Below.drew ?_))
      have z2 := hb2.size
      (try simp at z2)
      obtain ⟨g2_0, g2_1, g2_2, g2_3, g2_4, g2_5⟩ : v2.cell? ⟨w.heap.size, 0, none⟩ = some (.int .i64 f.len) ∧ v2.cell? ⟨w.heap.size, 1, none⟩ = some (.int .i64 f.slack) ∧ v2.cell? ⟨w.heap.size, 2, none⟩ = some (.slice (some ⟨sb, so, none⟩) sl sc) ∧ v2.cell? ⟨w.heap.size, 3, none⟩ = some (.slice pa pl pc) ∧ v2.cell? ⟨w.heap.size, 4, none⟩ = some (.slice ca cl cc) ∧ v2.cell? ⟨sb, so + k * 2 + 1, none⟩ = some (.int .i64 m) :=
        ⟨(hb2.cell (p := ⟨w.heap.size, 0, none⟩) (by first | omega | (simp; done) | (simp; omega))).trans (by first | (go_simp; done) | (go_simp; exact set_same (u := .int .i64 0) (by go_simp; done))), (hb2.cell (p := ⟨w.heap.size, 1, none⟩) (by first | omega | (simp; done) | (simp; omega))).trans (by first | (go_simp; done) | (go_simp; exact set_same (u := .int .i64 0) (by go_simp; done))), (hb2.cell (p := ⟨w.heap.size, 2, none⟩) (by first | omega | (simp; done) | (simp; omega))).trans (by first | (go_simp; done) | (go_simp; exact set_same (u := .int .i64 0) (by go_simp; done))), (hb2.cell (p := ⟨w.heap.size, 3, none⟩) (by first | omega | (simp; done) | (simp; omega))).trans (by first | (go_simp; done) | (go_simp; exact set_same (u := .int .i64 0) (by go_simp; done))), (hb2.cell (p := ⟨w.heap.size, 4, none⟩) (by first | omega | (simp; done) | (simp; omega))).trans (by first | (go_simp; done) | (go_simp; exact set_same (u := .int .i64 0) (by go_simp; done))), (hb2.cell (p := ⟨sb, so + k * 2 + 1, none⟩) (by first | omega | (simp; done) | (simp; omega))).trans (by first | (go_simp; done) | (go_simp; exact set_same (u := .int .i64 0) (by go_simp; done)))⟩
      have q2_0 : w.heap.size < v2.heap.size := by first | omega | (simp at *; omega)
      have q2_1 : sb < v2.heap.size := by first | omega | (simp at *; omega)
      have HB2 := Lib.hid hB2_0
      have y2 := hB2_0.size
      clear hb2 hB2_0 g1_0 g1_1 g1_2 g1_3 g1_4 g1_5 q1_0 q1_1
      have HO := Lib.hid (fun W (h : Below v2.heap.size v2 W) => hK W (KeepsUp.below h))
      clear hK
      have HR2 := Lib.hid (fun W (h : Below v2.heap.size v2 W) => show Calls Try.prog 48 #[.agg #[.int .i64 f.len, .int .i64 slack, .slice ga sl gc, .slice ha pl hc, .slice ia cl ic]] W fun e w' => e = .returned (.bool false) ∧ Below W.heap.size W w' from ready_is (f.slacked slack) ga sl gc ha pl hc ia cl ic false hs2 W (HO.out W h))
      go_wp2_with fail
      refine (HR2.out _ (by repeat (first | exact Below.refl _ _ | (refine Below.alloc ?_ (by first | omega | (simp; omega) | simp) _) | (refine Below.setCell ?_ (by first | omega | (simp; omega) | simp) _) | refine Below.drew ?_))).mono ?_
      rintro e v3 ⟨rfl, hb3⟩
      have hB3_0 : Below W0.heap.size W0 v3 := below_via (Lib.hid hb3) (by first | omega | (simp; done) | (simp; omega)) (by repeat (first | exact Below.refl _ _ | with_reducible exact HB2.out | (refine Below.alloc ?_ (by first | omega | (simp; omega) | simp) _) | (refine Below.setCell ?_ (by first | omega | (simp; omega) | simp) _) | refine Below.drew ?_))
      have hB3_1 : Below v2.heap.size v2 v3 := below_via (Lib.hid hb3) (by first | omega | (simp; done) | (simp; omega)) (by repeat (first | exact Below.refl _ _ | (refine Below.alloc ?_ (by first | omega | (simp; omega) | simp) _) | (refine Below.setCell ?_ (by first | omega | (simp; omega) | simp) _) | refine Below.drew ?_))
      have z3 := hb3.size
      (try simp at z3)
      obtain ⟨g3_0, g3_1, g3_2, g3_3, g3_4, g3_5, g3_6, g3_7, g3_8, g3_9, g3_10⟩ : v3.cell? ⟨w.heap.size, 0, none⟩ = some (.int .i64 f.len) ∧ v3.cell? ⟨w.heap.size, 1, none⟩ = some (.int .i64 f.slack) ∧ v3.cell? ⟨w.heap.size, 2, none⟩ = some (.slice (some ⟨sb, so, none⟩) sl sc) ∧ v3.cell? ⟨w.heap.size, 3, none⟩ = some (.slice pa pl pc) ∧ v3.cell? ⟨w.heap.size, 4, none⟩ = some (.slice ca cl cc) ∧ v3.cell? ⟨sb, so + k * 2 + 1, none⟩ = some (.int .i64 m) ∧ v3.cell? ⟨v2.heap.size, 0, none⟩ = some (.int .i64 f.len) ∧ v3.cell? ⟨v2.heap.size, 1, none⟩ = some (.int .i64 slack) ∧ v3.cell? ⟨v2.heap.size, 2, none⟩ = some (.slice ga sl gc) ∧ v3.cell? ⟨v2.heap.size, 3, none⟩ = some (.slice ha pl hc) ∧ v3.cell? ⟨v2.heap.size, 4, none⟩ = some (.slice ia cl ic) :=
        ⟨(hb3.cell (p := ⟨w.heap.size, 0, none⟩) (by first | omega | (simp; done) | (simp; omega))).trans (by first | (go_simp; done) | (go_simp; exact set_same (u := .int .i64 0) (by go_simp; done))), (hb3.cell (p := ⟨w.heap.size, 1, none⟩) (by first | omega | (simp; done) | (simp; omega))).trans (by first | (go_simp; done) | (go_simp; exact set_same (u := .int .i64 0) (by go_simp; done))), (hb3.cell (p := ⟨w.heap.size, 2, none⟩) (by first | omega | (simp; done) | (simp; omega))).trans (by first | (go_simp; done) | (go_simp; exact set_same (u := .int .i64 0) (by go_simp; done))), (hb3.cell (p := ⟨w.heap.size, 3, none⟩) (by first | omega | (simp; done) | (simp; omega))).trans (by first | (go_simp; done) | (go_simp; exact set_same (u := .int .i64 0) (by go_simp; done))), (hb3.cell (p := ⟨w.heap.size, 4, none⟩) (by first | omega | (simp; done) | (simp; omega))).trans (by first | (go_simp; done) | (go_simp; exact set_same (u := .int .i64 0) (by go_simp; done))), (hb3.cell (p := ⟨sb, so + k * 2 + 1, none⟩) (by first | omega | (simp; done) | (simp; omega))).trans (by first | (go_simp; done) | (go_simp; exact set_same (u := .int .i64 0) (by go_simp; done))), (hb3.cell (p := ⟨v2.heap.size, 0, none⟩) (by first | omega | (simp; done) | (simp; omega))).trans (by first | (go_simp; done) | (go_simp; exact set_same (u := .int .i64 0) (by go_simp; done))), (hb3.cell (p := ⟨v2.heap.size, 1, none⟩) (by first | omega | (simp; done) | (simp; omega))).trans (by first | (go_simp; done) | (go_simp; exact set_same (u := .int .i64 0) (by go_simp; done))), (hb3.cell (p := ⟨v2.heap.size, 2, none⟩) (by first | omega | (simp; done) | (simp; omega))).trans (by first | (go_simp; done) | (go_simp; exact set_same (u := .int .i64 0) (by go_simp; done))), (hb3.cell (p := ⟨v2.heap.size, 3, none⟩) (by first | omega | (simp; done) | (simp; omega))).trans (by first | (go_simp; done) | (go_simp; exact set_same (u := .int .i64 0) (by go_simp; done))), (hb3.cell (p := ⟨v2.heap.size, 4, none⟩) (by first | omega | (simp; done) | (simp; omega))).trans (by first | (go_simp; done) | (go_simp; exact set_same (u := .int .i64 0) (by go_simp; done)))⟩
      have q3_0 : w.heap.size < v3.heap.size := by first | omega | (simp at *; omega)
      have q3_1 : sb < v3.heap.size := by first | omega | (simp at *; omega)
      have q3_2 : v2.heap.size < v3.heap.size := by first | omega | (simp at *; omega)
      have HB3 := Lib.hid hB3_0
      have HC3 := Lib.hid hB3_1
      have y3 := hB3_0.size
      clear hb3 hB3_0 hB3_1 g2_0 g2_1 g2_2 g2_3 g2_4 g2_5 q2_0 q2_1
      go_wp2_with fail
      refine (HWI.out _).mono ?_
      rintro e v' ⟨rfl, rfl⟩
      have HV4 : Below w.heap.size w v3 := (HBW.out.trans (Below.mono (by repeat (first | exact Below.refl _ _ | with_reducible exact HB3.out | (refine Below.alloc ?_ (by first | omega | (simp; omega) | simp) _) | (refine Below.setCell ?_ (by first | omega | (simp; omega) | simp) _) | refine Below.drew ?_)) HBW.out.size))
      have HX4 := Lib.hid (fun W (h : Below v3.heap.size v3 W ∧ ∀ b o, b < v3.heap.size → W.cell? ⟨b, o, none⟩ = v3.cell? ⟨b, o, none⟩) => bothM2 (W0 := v3) (HST.out W (HV4.trans (h.1.mono HV4.size))) h)
      clear HV4
      go_upto_region 10 with fail
      go_cut [8] (fun v8x wx => ∃ gb ja jc ka kc la lc, v8x = .pointer (some ⟨gb, 0, none⟩) ∧ (wx.cell? ⟨gb, 0, none⟩ = some (.int .i64 f.len) ∧ wx.cell? ⟨gb, 1, none⟩ = some (.int .i64 f.slack) ∧ wx.cell? ⟨gb, 2, none⟩ = some (.slice ja sl jc) ∧ wx.cell? ⟨gb, 3, none⟩ = some (.slice ka pl kc) ∧ wx.cell? ⟨gb, 4, none⟩ = some (.slice la cl lc)) ∧ gb < wx.heap.size ∧ v3.heap.size ≤ gb ∧ Below v3.heap.size v3 wx ∧ (∀ W', Below wx.heap.size wx W' → PAt W' ja sl jc ka pl kc la cl lc (f.stocked k (m + 1))))
      case first =>
        go_region_held3 (fun w' => Below v3.heap.size v3 w' ∧ ∀ b o, b < v3.heap.size → w'.cell? ⟨b, o, none⟩ = v3.cell? ⟨b, o, none⟩) (first | with_reducible assumption | ((repeat (first | with_reducible refine bothS_drew ?_ | with_reducible refine bothS_alloc _ ?_ | with_reducible refine bothS_set _ _ (by first | omega | (simp; omega) | simp) ?_)); first | with_reducible assumption | with_reducible exact Hid.out (by assumption) | with_reducible exact ⟨Below.refl _ _, fun _ _ _ => rfl⟩)) (first
          | (go_at_call 66; with_reducible refine (HX4.out _ ?_).mono ?_; (first | with_reducible assumption | ((repeat (first | with_reducible refine bothS_drew ?_ | with_reducible refine bothS_alloc _ ?_ | with_reducible refine bothS_set _ _ (by first | omega | (simp; omega) | simp) ?_)); first | with_reducible assumption | with_reducible exact Hid.out (by assumption) | with_reducible exact ⟨Below.refl _ _, fun _ _ _ => rfl⟩)); rintro e w' ⟨⟨ja, jc, ka, kc, la, lc, rfl, hK2⟩, k, k1, k2, k3⟩; have HK' := Lib.hid k; (try simp at k3); (try have k6 := Nat.lt_of_succ_le k3); (try have k7 := Nat.lt_of_succ_lt k6))
          | fail "no arm")
        all_goals (go_wp2_with fail; go_meet)
        all_goals refine ⟨_, _, _, _, _, _, _, rfl, ?_, ?_, ?_, And.left (by assumption), fun W' h => hK2 W' (KeepsUp.trans (by repeat (first | with_reducible exact KeepsUp.refl _ _ | (with_reducible refine KeepsUp.set ?_ (by first | exact .inl (by first | omega | (simp; done) | (simp; omega)) | exact .inr (by first | omega | (simp; done) | (simp; omega))) _) | with_reducible refine KeepsUp.alloc _ ?_ | with_reducible refine KeepsUp.drew ?_)) (KeepsUp.below h))⟩
        all_goals first | (refine ⟨?_, ?_, ?_, ?_, ?_⟩ <;> (go_simp; done)) | (with_reducible refine set5 _ _ _ _ _ ?_ ?_ ?_ ?_ ?_ <;> (go_simp; done)) | skip
        all_goals first | omega | (simp; done) | (simp; omega) | skip
      case rest =>
      obtain ⟨gb4, ja, jc, ka, kc, la, lc, rfl, ⟨c4_0, c4_1, c4_2, c4_3, c4_4⟩, hlt4, hge4, hb4, hO2⟩ := hcut
      obtain ⟨v4, rfl⟩ : ∃ v4 : World, v4 = wc := ⟨_, rfl⟩
      have hB4_0 : Below W0.heap.size W0 v4 := below_via (Lib.hid hb4) (by first | omega | (simp; done) | (simp; omega)) (by repeat (first | exact Below.refl _ _ | with_reducible exact HB3.out | (refine Below.alloc ?_ (by first | omega | (simp; omega) | simp) _) | (refine Below.setCell ?_ (by first | omega | (simp; omega) | simp) _) | refine Below.drew ?_))
      have hB4_1 : Below v2.heap.size v2 v4 := below_via (Lib.hid hb4) (by first | omega | (simp; done) | (simp; omega)) (by repeat (first | exact Below.refl _ _ | with_reducible exact HC3.out | (refine Below.alloc ?_ (by first | omega | (simp; omega) | simp) _) | (refine Below.setCell ?_ (by first | omega | (simp; omega) | simp) _) | refine Below.drew ?_))
      have z4 := hb4.size
      (try simp at z4)
      obtain ⟨g4_0, g4_1, g4_2, g4_3, g4_4, g4_5, g4_6, g4_7, g4_8, g4_9, g4_10⟩ : v4.cell? ⟨w.heap.size, 0, none⟩ = some (.int .i64 f.len) ∧ v4.cell? ⟨w.heap.size, 1, none⟩ = some (.int .i64 f.slack) ∧ v4.cell? ⟨w.heap.size, 2, none⟩ = some (.slice (some ⟨sb, so, none⟩) sl sc) ∧ v4.cell? ⟨w.heap.size, 3, none⟩ = some (.slice pa pl pc) ∧ v4.cell? ⟨w.heap.size, 4, none⟩ = some (.slice ca cl cc) ∧ v4.cell? ⟨sb, so + k * 2 + 1, none⟩ = some (.int .i64 m) ∧ v4.cell? ⟨v2.heap.size, 0, none⟩ = some (.int .i64 f.len) ∧ v4.cell? ⟨v2.heap.size, 1, none⟩ = some (.int .i64 slack) ∧ v4.cell? ⟨v2.heap.size, 2, none⟩ = some (.slice ga sl gc) ∧ v4.cell? ⟨v2.heap.size, 3, none⟩ = some (.slice ha pl hc) ∧ v4.cell? ⟨v2.heap.size, 4, none⟩ = some (.slice ia cl ic) :=
        ⟨(hb4.cell (p := ⟨w.heap.size, 0, none⟩) (by first | omega | (simp; done) | (simp; omega))).trans (by first | (go_simp; done) | (go_simp; exact set_same (u := .int .i64 0) (by go_simp; done))), (hb4.cell (p := ⟨w.heap.size, 1, none⟩) (by first | omega | (simp; done) | (simp; omega))).trans (by first | (go_simp; done) | (go_simp; exact set_same (u := .int .i64 0) (by go_simp; done))), (hb4.cell (p := ⟨w.heap.size, 2, none⟩) (by first | omega | (simp; done) | (simp; omega))).trans (by first | (go_simp; done) | (go_simp; exact set_same (u := .int .i64 0) (by go_simp; done))), (hb4.cell (p := ⟨w.heap.size, 3, none⟩) (by first | omega | (simp; done) | (simp; omega))).trans (by first | (go_simp; done) | (go_simp; exact set_same (u := .int .i64 0) (by go_simp; done))), (hb4.cell (p := ⟨w.heap.size, 4, none⟩) (by first | omega | (simp; done) | (simp; omega))).trans (by first | (go_simp; done) | (go_simp; exact set_same (u := .int .i64 0) (by go_simp; done))), (hb4.cell (p := ⟨sb, so + k * 2 + 1, none⟩) (by first | omega | (simp; done) | (simp; omega))).trans (by first | (go_simp; done) | (go_simp; exact set_same (u := .int .i64 0) (by go_simp; done))), (hb4.cell (p := ⟨v2.heap.size, 0, none⟩) (by first | omega | (simp; done) | (simp; omega))).trans (by first | (go_simp; done) | (go_simp; exact set_same (u := .int .i64 0) (by go_simp; done))), (hb4.cell (p := ⟨v2.heap.size, 1, none⟩) (by first | omega | (simp; done) | (simp; omega))).trans (by first | (go_simp; done) | (go_simp; exact set_same (u := .int .i64 0) (by go_simp; done))), (hb4.cell (p := ⟨v2.heap.size, 2, none⟩) (by first | omega | (simp; done) | (simp; omega))).trans (by first | (go_simp; done) | (go_simp; exact set_same (u := .int .i64 0) (by go_simp; done))), (hb4.cell (p := ⟨v2.heap.size, 3, none⟩) (by first | omega | (simp; done) | (simp; omega))).trans (by first | (go_simp; done) | (go_simp; exact set_same (u := .int .i64 0) (by go_simp; done))), (hb4.cell (p := ⟨v2.heap.size, 4, none⟩) (by first | omega | (simp; done) | (simp; omega))).trans (by first | (go_simp; done) | (go_simp; exact set_same (u := .int .i64 0) (by go_simp; done)))⟩
      have q4_0 : w.heap.size < v4.heap.size := by first | omega | (simp at *; omega)
      have q4_1 : sb < v4.heap.size := by first | omega | (simp at *; omega)
      have q4_2 : v2.heap.size < v4.heap.size := by first | omega | (simp at *; omega)
      have HB4 := Lib.hid hB4_0
      have HC4 := Lib.hid hB4_1
      have y4 := hB4_0.size
      clear hb4 hB4_0 hB4_1 g3_0 g3_1 g3_2 g3_3 g3_4 g3_5 g3_6 g3_7 g3_8 g3_9 g3_10 q3_0 q3_1 q3_2
      have g4_11 := c4_0
      have g4_12 := c4_1
      have g4_13 := c4_2
      have g4_14 := c4_3
      have g4_15 := c4_4
      have q4_3 : gb4 < v4.heap.size := hlt4
      clear c4_0 c4_1 c4_2 c4_3 c4_4
      clear HX4
      have HO2 := Lib.hid hO2
      clear hO2
      have HR3 := Lib.hid (fun W (h : Below v4.heap.size v4 W) => show Calls Try.prog 48 #[.agg #[.int .i64 f.len, .int .i64 f.slack, .slice ja sl jc, .slice ka pl kc, .slice la cl lc]] W fun e w' => e = .returned (.bool true) ∧ Below W.heap.size W w' from ready_is (f.stocked k (m + 1)) ja sl jc ka pl kc la cl lc true hk2 W (HO2.out W h))
      go_wp2_with fail
      refine (HR3.out _ (by repeat (first | exact Below.refl _ _ | (refine Below.alloc ?_ (by first | omega | (simp; omega) | simp) _) | (refine Below.setCell ?_ (by first | omega | (simp; omega) | simp) _) | refine Below.drew ?_))).mono ?_
      rintro e v5 ⟨rfl, hb5⟩
      have hB5_0 : Below W0.heap.size W0 v5 := below_via (Lib.hid hb5) (by first | omega | (simp; done) | (simp; omega)) (by repeat (first | exact Below.refl _ _ | with_reducible exact HB4.out | (refine Below.alloc ?_ (by first | omega | (simp; omega) | simp) _) | (refine Below.setCell ?_ (by first | omega | (simp; omega) | simp) _) | refine Below.drew ?_))
      have hB5_1 : Below v2.heap.size v2 v5 := below_via (Lib.hid hb5) (by first | omega | (simp; done) | (simp; omega)) (by repeat (first | exact Below.refl _ _ | with_reducible exact HC4.out | (refine Below.alloc ?_ (by first | omega | (simp; omega) | simp) _) | (refine Below.setCell ?_ (by first | omega | (simp; omega) | simp) _) | refine Below.drew ?_))
      have hB5_2 : Below v4.heap.size v4 v5 := below_via (Lib.hid hb5) (by first | omega | (simp; done) | (simp; omega)) (by repeat (first | exact Below.refl _ _ | (refine Below.alloc ?_ (by first | omega | (simp; omega) | simp) _) | (refine Below.setCell ?_ (by first | omega | (simp; omega) | simp) _) | refine Below.drew ?_))
      have z5 := hb5.size
      (try simp at z5)
      obtain ⟨g5_0, g5_1, g5_2, g5_3, g5_4, g5_5, g5_6, g5_7, g5_8, g5_9, g5_10, g5_11, g5_12, g5_13, g5_14, g5_15⟩ : v5.cell? ⟨w.heap.size, 0, none⟩ = some (.int .i64 f.len) ∧ v5.cell? ⟨w.heap.size, 1, none⟩ = some (.int .i64 f.slack) ∧ v5.cell? ⟨w.heap.size, 2, none⟩ = some (.slice (some ⟨sb, so, none⟩) sl sc) ∧ v5.cell? ⟨w.heap.size, 3, none⟩ = some (.slice pa pl pc) ∧ v5.cell? ⟨w.heap.size, 4, none⟩ = some (.slice ca cl cc) ∧ v5.cell? ⟨sb, so + k * 2 + 1, none⟩ = some (.int .i64 m) ∧ v5.cell? ⟨v2.heap.size, 0, none⟩ = some (.int .i64 f.len) ∧ v5.cell? ⟨v2.heap.size, 1, none⟩ = some (.int .i64 slack) ∧ v5.cell? ⟨v2.heap.size, 2, none⟩ = some (.slice ga sl gc) ∧ v5.cell? ⟨v2.heap.size, 3, none⟩ = some (.slice ha pl hc) ∧ v5.cell? ⟨v2.heap.size, 4, none⟩ = some (.slice ia cl ic) ∧ v5.cell? ⟨gb4, 0, none⟩ = some (.int .i64 f.len) ∧ v5.cell? ⟨gb4, 1, none⟩ = some (.int .i64 f.slack) ∧ v5.cell? ⟨gb4, 2, none⟩ = some (.slice ja sl jc) ∧ v5.cell? ⟨gb4, 3, none⟩ = some (.slice ka pl kc) ∧ v5.cell? ⟨gb4, 4, none⟩ = some (.slice la cl lc) :=
        ⟨(hb5.cell (p := ⟨w.heap.size, 0, none⟩) (by first | omega | (simp; done) | (simp; omega))).trans (by first | (go_simp; done) | (go_simp; exact set_same (u := .int .i64 0) (by go_simp; done))), (hb5.cell (p := ⟨w.heap.size, 1, none⟩) (by first | omega | (simp; done) | (simp; omega))).trans (by first | (go_simp; done) | (go_simp; exact set_same (u := .int .i64 0) (by go_simp; done))), (hb5.cell (p := ⟨w.heap.size, 2, none⟩) (by first | omega | (simp; done) | (simp; omega))).trans (by first | (go_simp; done) | (go_simp; exact set_same (u := .int .i64 0) (by go_simp; done))), (hb5.cell (p := ⟨w.heap.size, 3, none⟩) (by first | omega | (simp; done) | (simp; omega))).trans (by first | (go_simp; done) | (go_simp; exact set_same (u := .int .i64 0) (by go_simp; done))), (hb5.cell (p := ⟨w.heap.size, 4, none⟩) (by first | omega | (simp; done) | (simp; omega))).trans (by first | (go_simp; done) | (go_simp; exact set_same (u := .int .i64 0) (by go_simp; done))), (hb5.cell (p := ⟨sb, so + k * 2 + 1, none⟩) (by first | omega | (simp; done) | (simp; omega))).trans (by first | (go_simp; done) | (go_simp; exact set_same (u := .int .i64 0) (by go_simp; done))), (hb5.cell (p := ⟨v2.heap.size, 0, none⟩) (by first | omega | (simp; done) | (simp; omega))).trans (by first | (go_simp; done) | (go_simp; exact set_same (u := .int .i64 0) (by go_simp; done))), (hb5.cell (p := ⟨v2.heap.size, 1, none⟩) (by first | omega | (simp; done) | (simp; omega))).trans (by first | (go_simp; done) | (go_simp; exact set_same (u := .int .i64 0) (by go_simp; done))), (hb5.cell (p := ⟨v2.heap.size, 2, none⟩) (by first | omega | (simp; done) | (simp; omega))).trans (by first | (go_simp; done) | (go_simp; exact set_same (u := .int .i64 0) (by go_simp; done))), (hb5.cell (p := ⟨v2.heap.size, 3, none⟩) (by first | omega | (simp; done) | (simp; omega))).trans (by first | (go_simp; done) | (go_simp; exact set_same (u := .int .i64 0) (by go_simp; done))), (hb5.cell (p := ⟨v2.heap.size, 4, none⟩) (by first | omega | (simp; done) | (simp; omega))).trans (by first | (go_simp; done) | (go_simp; exact set_same (u := .int .i64 0) (by go_simp; done))), (hb5.cell (p := ⟨gb4, 0, none⟩) (by first | omega | (simp; done) | (simp; omega))).trans (by first | (go_simp; done) | (go_simp; exact set_same (u := .int .i64 0) (by go_simp; done))), (hb5.cell (p := ⟨gb4, 1, none⟩) (by first | omega | (simp; done) | (simp; omega))).trans (by first | (go_simp; done) | (go_simp; exact set_same (u := .int .i64 0) (by go_simp; done))), (hb5.cell (p := ⟨gb4, 2, none⟩) (by first | omega | (simp; done) | (simp; omega))).trans (by first | (go_simp; done) | (go_simp; exact set_same (u := .int .i64 0) (by go_simp; done))), (hb5.cell (p := ⟨gb4, 3, none⟩) (by first | omega | (simp; done) | (simp; omega))).trans (by first | (go_simp; done) | (go_simp; exact set_same (u := .int .i64 0) (by go_simp; done))), (hb5.cell (p := ⟨gb4, 4, none⟩) (by first | omega | (simp; done) | (simp; omega))).trans (by first | (go_simp; done) | (go_simp; exact set_same (u := .int .i64 0) (by go_simp; done)))⟩
      have q5_0 : w.heap.size < v5.heap.size := by first | omega | (simp at *; omega)
      have q5_1 : sb < v5.heap.size := by first | omega | (simp at *; omega)
      have q5_2 : v2.heap.size < v5.heap.size := by first | omega | (simp at *; omega)
      have q5_3 : gb4 < v5.heap.size := by first | omega | (simp at *; omega)
      have HB5 := Lib.hid hB5_0
      have HC5 := Lib.hid hB5_1
      have HD5 := Lib.hid hB5_2
      have y5 := hB5_0.size
      clear hb5 hB5_0 hB5_1 hB5_2 g4_0 g4_1 g4_2 g4_3 g4_4 g4_5 g4_6 g4_7 g4_8 g4_9 g4_10 g4_11 g4_12 g4_13 g4_14 g4_15 q4_0 q4_1 q4_2 q4_3
      have HBF := Lib.hid (fun W (h : Below v4.heap.size v4 W) (h' : Below w.heap.size w W) => show Calls Try.prog 65 #[.agg #[.int .i64 f.len, .int .i64 f.slack, .slice ja sl jc, .slice ka pl kc, .slice la cl lc], .agg #[.int .i64 f.len, .int .i64 f.slack, .slice (some ⟨sb, so, none⟩) sl sc, .slice pa pl pc, .slice ca cl cc]] W fun e w' => e = .returned (.bool true) ∧ Below W.heap.size W w' from better_any (f.stocked k (m + 1)) f ja sl jc ka pl kc la cl lc (some ⟨sb, so, none⟩) sl sc pa pl pc ca cl cc hko ho hmore W (HO2.out W h) (HPP.out W h'))
      go_wp2_with fail
      refine (HBF.out _ (by repeat (first | exact Below.refl _ _ | with_reducible exact HD5.out | (refine Below.alloc ?_ (by first | omega | (simp; omega) | simp) _) | (refine Below.setCell ?_ (by first | omega | (simp; omega) | simp) _) | refine Below.drew ?_)) (HBW.out.trans (Below.mono (by repeat (first | exact Below.refl _ _ | with_reducible exact HB5.out | (refine Below.alloc ?_ (by first | omega | (simp; omega) | simp) _) | (refine Below.setCell ?_ (by first | omega | (simp; omega) | simp) _) | refine Below.drew ?_)) HBW.out.size))).mono ?_
      rintro e v6 ⟨rfl, hb6⟩
      have hB6_0 : Below W0.heap.size W0 v6 := below_via (Lib.hid hb6) (by first | omega | (simp; done) | (simp; omega)) (by repeat (first | exact Below.refl _ _ | with_reducible exact HB5.out | (refine Below.alloc ?_ (by first | omega | (simp; omega) | simp) _) | (refine Below.setCell ?_ (by first | omega | (simp; omega) | simp) _) | refine Below.drew ?_))
      have hB6_1 : Below v2.heap.size v2 v6 := below_via (Lib.hid hb6) (by first | omega | (simp; done) | (simp; omega)) (by repeat (first | exact Below.refl _ _ | with_reducible exact HC5.out | (refine Below.alloc ?_ (by first | omega | (simp; omega) | simp) _) | (refine Below.setCell ?_ (by first | omega | (simp; omega) | simp) _) | refine Below.drew ?_))
      have hB6_2 : Below v4.heap.size v4 v6 := below_via (Lib.hid hb6) (by first | omega | (simp; done) | (simp; omega)) (by repeat (first | exact Below.refl _ _ | with_reducible exact HD5.out | (refine Below.alloc ?_ (by first | omega | (simp; omega) | simp) _) | (refine Below.setCell ?_ (by first | omega | (simp; omega) | simp) _) | refine Below.drew ?_))
      have z6 := hb6.size
      (try simp at z6)
      obtain ⟨g6_0, g6_1, g6_2, g6_3, g6_4, g6_5, g6_6, g6_7, g6_8, g6_9, g6_10, g6_11, g6_12, g6_13, g6_14, g6_15⟩ : v6.cell? ⟨w.heap.size, 0, none⟩ = some (.int .i64 f.len) ∧ v6.cell? ⟨w.heap.size, 1, none⟩ = some (.int .i64 f.slack) ∧ v6.cell? ⟨w.heap.size, 2, none⟩ = some (.slice (some ⟨sb, so, none⟩) sl sc) ∧ v6.cell? ⟨w.heap.size, 3, none⟩ = some (.slice pa pl pc) ∧ v6.cell? ⟨w.heap.size, 4, none⟩ = some (.slice ca cl cc) ∧ v6.cell? ⟨sb, so + k * 2 + 1, none⟩ = some (.int .i64 m) ∧ v6.cell? ⟨v2.heap.size, 0, none⟩ = some (.int .i64 f.len) ∧ v6.cell? ⟨v2.heap.size, 1, none⟩ = some (.int .i64 slack) ∧ v6.cell? ⟨v2.heap.size, 2, none⟩ = some (.slice ga sl gc) ∧ v6.cell? ⟨v2.heap.size, 3, none⟩ = some (.slice ha pl hc) ∧ v6.cell? ⟨v2.heap.size, 4, none⟩ = some (.slice ia cl ic) ∧ v6.cell? ⟨gb4, 0, none⟩ = some (.int .i64 f.len) ∧ v6.cell? ⟨gb4, 1, none⟩ = some (.int .i64 f.slack) ∧ v6.cell? ⟨gb4, 2, none⟩ = some (.slice ja sl jc) ∧ v6.cell? ⟨gb4, 3, none⟩ = some (.slice ka pl kc) ∧ v6.cell? ⟨gb4, 4, none⟩ = some (.slice la cl lc) :=
        ⟨(hb6.cell (p := ⟨w.heap.size, 0, none⟩) (by first | omega | (simp; done) | (simp; omega))).trans (by first | (go_simp; done) | (go_simp; exact set_same (u := .int .i64 0) (by go_simp; done))), (hb6.cell (p := ⟨w.heap.size, 1, none⟩) (by first | omega | (simp; done) | (simp; omega))).trans (by first | (go_simp; done) | (go_simp; exact set_same (u := .int .i64 0) (by go_simp; done))), (hb6.cell (p := ⟨w.heap.size, 2, none⟩) (by first | omega | (simp; done) | (simp; omega))).trans (by first | (go_simp; done) | (go_simp; exact set_same (u := .int .i64 0) (by go_simp; done))), (hb6.cell (p := ⟨w.heap.size, 3, none⟩) (by first | omega | (simp; done) | (simp; omega))).trans (by first | (go_simp; done) | (go_simp; exact set_same (u := .int .i64 0) (by go_simp; done))), (hb6.cell (p := ⟨w.heap.size, 4, none⟩) (by first | omega | (simp; done) | (simp; omega))).trans (by first | (go_simp; done) | (go_simp; exact set_same (u := .int .i64 0) (by go_simp; done))), (hb6.cell (p := ⟨sb, so + k * 2 + 1, none⟩) (by first | omega | (simp; done) | (simp; omega))).trans (by first | (go_simp; done) | (go_simp; exact set_same (u := .int .i64 0) (by go_simp; done))), (hb6.cell (p := ⟨v2.heap.size, 0, none⟩) (by first | omega | (simp; done) | (simp; omega))).trans (by first | (go_simp; done) | (go_simp; exact set_same (u := .int .i64 0) (by go_simp; done))), (hb6.cell (p := ⟨v2.heap.size, 1, none⟩) (by first | omega | (simp; done) | (simp; omega))).trans (by first | (go_simp; done) | (go_simp; exact set_same (u := .int .i64 0) (by go_simp; done))), (hb6.cell (p := ⟨v2.heap.size, 2, none⟩) (by first | omega | (simp; done) | (simp; omega))).trans (by first | (go_simp; done) | (go_simp; exact set_same (u := .int .i64 0) (by go_simp; done))), (hb6.cell (p := ⟨v2.heap.size, 3, none⟩) (by first | omega | (simp; done) | (simp; omega))).trans (by first | (go_simp; done) | (go_simp; exact set_same (u := .int .i64 0) (by go_simp; done))), (hb6.cell (p := ⟨v2.heap.size, 4, none⟩) (by first | omega | (simp; done) | (simp; omega))).trans (by first | (go_simp; done) | (go_simp; exact set_same (u := .int .i64 0) (by go_simp; done))), (hb6.cell (p := ⟨gb4, 0, none⟩) (by first | omega | (simp; done) | (simp; omega))).trans (by first | (go_simp; done) | (go_simp; exact set_same (u := .int .i64 0) (by go_simp; done))), (hb6.cell (p := ⟨gb4, 1, none⟩) (by first | omega | (simp; done) | (simp; omega))).trans (by first | (go_simp; done) | (go_simp; exact set_same (u := .int .i64 0) (by go_simp; done))), (hb6.cell (p := ⟨gb4, 2, none⟩) (by first | omega | (simp; done) | (simp; omega))).trans (by first | (go_simp; done) | (go_simp; exact set_same (u := .int .i64 0) (by go_simp; done))), (hb6.cell (p := ⟨gb4, 3, none⟩) (by first | omega | (simp; done) | (simp; omega))).trans (by first | (go_simp; done) | (go_simp; exact set_same (u := .int .i64 0) (by go_simp; done))), (hb6.cell (p := ⟨gb4, 4, none⟩) (by first | omega | (simp; done) | (simp; omega))).trans (by first | (go_simp; done) | (go_simp; exact set_same (u := .int .i64 0) (by go_simp; done)))⟩
      have q6_0 : w.heap.size < v6.heap.size := by first | omega | (simp at *; omega)
      have q6_1 : sb < v6.heap.size := by first | omega | (simp at *; omega)
      have q6_2 : v2.heap.size < v6.heap.size := by first | omega | (simp at *; omega)
      have q6_3 : gb4 < v6.heap.size := by first | omega | (simp at *; omega)
      have HB6 := Lib.hid hB6_0
      have HC6 := Lib.hid hB6_1
      have HD6 := Lib.hid hB6_2
      have y6 := hB6_0.size
      clear hb6 hB6_0 hB6_1 hB6_2 g5_0 g5_1 g5_2 g5_3 g5_4 g5_5 g5_6 g5_7 g5_8 g5_9 g5_10 g5_11 g5_12 g5_13 g5_14 g5_15 q5_0 q5_1 q5_2 q5_3
      go_wp2_with fail
      refine (HK.out _).mono ?_
      rintro e v7 ⟨rfl, hb7⟩
      have hB7_0 : Below W0.heap.size W0 v7 := below_via (Lib.hid hb7) (by first | omega | (simp; done) | (simp; omega)) (by repeat (first | exact Below.refl _ _ | with_reducible exact HB6.out | (refine Below.alloc ?_ (by first | omega | (simp; omega) | simp) _) | (refine Below.setCell ?_ (by first | omega | (simp; omega) | simp) _) | refine Below.drew ?_))
      have hB7_1 : Below v2.heap.size v2 v7 := below_via (Lib.hid hb7) (by first | omega | (simp; done) | (simp; omega)) (by repeat (first | exact Below.refl _ _ | with_reducible exact HC6.out | (refine Below.alloc ?_ (by first | omega | (simp; omega) | simp) _) | (refine Below.setCell ?_ (by first | omega | (simp; omega) | simp) _) | refine Below.drew ?_))
      have hB7_2 : Below v4.heap.size v4 v7 := below_via (Lib.hid hb7) (by first | omega | (simp; done) | (simp; omega)) (by repeat (first | exact Below.refl _ _ | with_reducible exact HD6.out | (refine Below.alloc ?_ (by first | omega | (simp; omega) | simp) _) | (refine Below.setCell ?_ (by first | omega | (simp; omega) | simp) _) | refine Below.drew ?_))
      have z7 := hb7.size
      (try simp at z7)
      have HB7 := Lib.hid hB7_0
      have HC7 := Lib.hid hB7_1
      have HD7 := Lib.hid hB7_2
      have y7 := hB7_0.size
      clear hb7 hB7_0 hB7_1 hB7_2 g6_0 g6_1 g6_2 g6_3 g6_4 g6_5 g6_6 g6_7 g6_8 g6_9 g6_10 g6_11 g6_12 g6_13 g6_14 g6_15 q6_0 q6_1 q6_2 q6_3
      go_wp2_with fail
      go_ret
      exact ⟨rfl, HBW.out.trans (Below.mono (by repeat (first | exact Below.refl _ _ | with_reducible exact HB7.out | (refine Below.alloc ?_ (by first | omega | (simp; omega) | simp) _) | (refine Below.setCell ?_ (by first | omega | (simp; omega) | simp) _) | refine Below.drew ?_)) HBW.out.size)⟩

set_option maxRecDepth 100000 in
set_option maxHeartbeats 8000000 in
theorem more_p3 (f : PFrame) (sa : Option Addr) (sl sc : Nat) (pa : Option Addr) (pl pc : Nat) (ca : Option Addr) (cl cc : Nat) (kind slack : Int) (hr : f.ready = true) (hs : f.slack < slack) (hs2 : (f.slacked slack).ready = true) (w : World) (hp : PAt w sa sl sc pa pl pc ca cl cc f) :
    Calls Try.prog 11 #[.agg #[.int .i64 f.len, .int .i64 f.slack, .slice sa sl sc, .slice pa pl pc, .slice ca cl cc], .int .i64 kind, .int .i64 slack] w fun e w' => e = .returned (.bool true) ∧ Below w.heap.size w w' := by
  have ho : f.ok = true := by unfold PFrame.ready at hr; simp only [Bool.and_eq_true] at hr; exact hr.2
  have HPP := Lib.hid (fun W (h : Below w.heap.size w W) => hp.below h)
  have HR1 := Lib.hid (fun W (h : Below w.heap.size w W) => ready_is f sa sl sc pa pl pc ca cl cc true hr W (hp.below h))
  obtain ⟨s1, s2, s3, s4⟩ := ok_sizes sa sl sc pa pl pc ca cl cc ho hp
  have HCP := Lib.hid (fun W (h : Below w.heap.size w W) => Copy_keeps f sa sl sc pa pl pc ca cl cc W (hp.below h) s1 s2 s3 s4)
  have HK := Lib.hid (fun W => works_any W)
  obtain ⟨hsl, hsm, hsc⟩ := hp.1
  unfold maxLen at hsm
  have HW := Lib.hid (fun b (h : btw kind 0 ((sl : Int) - 1) = b) W => Within_is kind 0 ((sl : Int) - 1) b h W)
  have hso : (f.slacked slack).ok = true := by unfold PFrame.ready at hs2; simp only [Bool.and_eq_true] at hs2; exact hs2.2
  rcases h1 : btw kind 0 ((sl : Int) - 1) with - | -
  · have HWI := Lib.hid (HW.out _ h1)
    clear HW h1 hsc
    go_enter Try.func11, Try.ntmps11
    go_wp2_with fail
    obtain ⟨W0, hW0, hB0, ⟨g0_0, g0_1, g0_2, g0_3, g0_4⟩, hz0⟩ : ∃ W0, (w.alloc (.cells #[.int .i64 f.len, .int .i64 f.slack, .slice sa sl sc, .slice pa pl pc, .slice ca cl cc] 26)) = W0 ∧ Below w.heap.size w W0 ∧ (W0.cell? ⟨w.heap.size, 0, none⟩ = some (.int .i64 f.len) ∧ W0.cell? ⟨w.heap.size, 1, none⟩ = some (.int .i64 f.slack) ∧ W0.cell? ⟨w.heap.size, 2, none⟩ = some (.slice sa sl sc) ∧ W0.cell? ⟨w.heap.size, 3, none⟩ = some (.slice pa pl pc) ∧ W0.cell? ⟨w.heap.size, 4, none⟩ = some (.slice ca cl cc)) ∧ W0.heap.size = w.heap.size + 1 :=
      ⟨_, rfl, (by repeat (first | exact Below.refl _ _ | (refine Below.alloc ?_ (by first | omega | (simp; omega) | simp) _) | (refine Below.setCell ?_ (by first | omega | (simp; omega) | simp) _) | refine Below.drew ?_)), ⟨by go_simp, by go_simp, by go_simp, by go_simp, by go_simp⟩, by simp⟩
    rw [hW0]
    clear hW0
    have HBW := Lib.hid hB0
    have q0_0 : w.heap.size < W0.heap.size := by omega
    clear hB0 hz0
    go_wp2_with fail
    refine (HR1.out _ (HBW.out.trans (Below.mono (by repeat (first | exact Below.refl _ _ | (refine Below.alloc ?_ (by first | omega | (simp; omega) | simp) _) | (refine Below.setCell ?_ (by first | omega | (simp; omega) | simp) _) | refine Below.drew ?_)) HBW.out.size))).mono ?_
    rintro e v1 ⟨rfl, hb1⟩
    have hB1_0 : Below W0.heap.size W0 v1 := below_via (Lib.hid hb1) (by first | omega | (simp; done) | (simp; omega)) (by repeat (first | exact Below.refl _ _ | (refine Below.alloc ?_ (by first | omega | (simp; omega) | simp) _) | (refine Below.setCell ?_ (by first | omega | (simp; omega) | simp) _) | refine Below.drew ?_))
    have z1 := hb1.size
    (try simp at z1)
    obtain ⟨g1_0, g1_1, g1_2, g1_3, g1_4⟩ : v1.cell? ⟨w.heap.size, 0, none⟩ = some (.int .i64 f.len) ∧ v1.cell? ⟨w.heap.size, 1, none⟩ = some (.int .i64 f.slack) ∧ v1.cell? ⟨w.heap.size, 2, none⟩ = some (.slice sa sl sc) ∧ v1.cell? ⟨w.heap.size, 3, none⟩ = some (.slice pa pl pc) ∧ v1.cell? ⟨w.heap.size, 4, none⟩ = some (.slice ca cl cc) :=
      ⟨(hb1.cell (p := ⟨w.heap.size, 0, none⟩) (by first | omega | (simp; done) | (simp; omega))).trans (by first | (go_simp; done) | (go_simp; exact set_same (u := .int .i64 0) (by go_simp; done))), (hb1.cell (p := ⟨w.heap.size, 1, none⟩) (by first | omega | (simp; done) | (simp; omega))).trans (by first | (go_simp; done) | (go_simp; exact set_same (u := .int .i64 0) (by go_simp; done))), (hb1.cell (p := ⟨w.heap.size, 2, none⟩) (by first | omega | (simp; done) | (simp; omega))).trans (by first | (go_simp; done) | (go_simp; exact set_same (u := .int .i64 0) (by go_simp; done))), (hb1.cell (p := ⟨w.heap.size, 3, none⟩) (by first | omega | (simp; done) | (simp; omega))).trans (by first | (go_simp; done) | (go_simp; exact set_same (u := .int .i64 0) (by go_simp; done))), (hb1.cell (p := ⟨w.heap.size, 4, none⟩) (by first | omega | (simp; done) | (simp; omega))).trans (by first | (go_simp; done) | (go_simp; exact set_same (u := .int .i64 0) (by go_simp; done)))⟩
    have q1_0 : w.heap.size < v1.heap.size := by first | omega | (simp at *; omega)
    have HB1 := Lib.hid hB1_0
    have y1 := hB1_0.size
    clear hb1 hB1_0 g0_0 g0_1 g0_2 g0_3 g0_4 q0_0
    go_wp2_with fail
    refine (HCP.out _ (HBW.out.trans (Below.mono (by repeat (first | exact Below.refl _ _ | with_reducible exact HB1.out | (refine Below.alloc ?_ (by first | omega | (simp; omega) | simp) _) | (refine Below.setCell ?_ (by first | omega | (simp; omega) | simp) _) | refine Below.drew ?_)) HBW.out.size))).mono ?_
    rintro e v2 ⟨ga, gc, ha, hc, ia, ic, rfl, hK, hb2⟩
    have hB2_0 : Below W0.heap.size W0 v2 := below_via (Lib.hid hb2) (by first | omega | (simp; done) | (simp; omega)) (by repeat (first | exact Below.refl _ _ | with_reducible exact HB1.out | (refine Below.alloc ?_ (by first | omega | (simp; omega) | simp) _) | (refine Below.setCell ?_ (by first | omega | (simp; omega) | simp) _) | refine Below.drew ?_))
    have z2 := hb2.size
    (try simp at z2)
    obtain ⟨g2_0, g2_1, g2_2, g2_3, g2_4⟩ : v2.cell? ⟨w.heap.size, 0, none⟩ = some (.int .i64 f.len) ∧ v2.cell? ⟨w.heap.size, 1, none⟩ = some (.int .i64 f.slack) ∧ v2.cell? ⟨w.heap.size, 2, none⟩ = some (.slice sa sl sc) ∧ v2.cell? ⟨w.heap.size, 3, none⟩ = some (.slice pa pl pc) ∧ v2.cell? ⟨w.heap.size, 4, none⟩ = some (.slice ca cl cc) :=
      ⟨(hb2.cell (p := ⟨w.heap.size, 0, none⟩) (by first | omega | (simp; done) | (simp; omega))).trans (by first | (go_simp; done) | (go_simp; exact set_same (u := .int .i64 0) (by go_simp; done))), (hb2.cell (p := ⟨w.heap.size, 1, none⟩) (by first | omega | (simp; done) | (simp; omega))).trans (by first | (go_simp; done) | (go_simp; exact set_same (u := .int .i64 0) (by go_simp; done))), (hb2.cell (p := ⟨w.heap.size, 2, none⟩) (by first | omega | (simp; done) | (simp; omega))).trans (by first | (go_simp; done) | (go_simp; exact set_same (u := .int .i64 0) (by go_simp; done))), (hb2.cell (p := ⟨w.heap.size, 3, none⟩) (by first | omega | (simp; done) | (simp; omega))).trans (by first | (go_simp; done) | (go_simp; exact set_same (u := .int .i64 0) (by go_simp; done))), (hb2.cell (p := ⟨w.heap.size, 4, none⟩) (by first | omega | (simp; done) | (simp; omega))).trans (by first | (go_simp; done) | (go_simp; exact set_same (u := .int .i64 0) (by go_simp; done)))⟩
    have q2_0 : w.heap.size < v2.heap.size := by first | omega | (simp at *; omega)
    have HB2 := Lib.hid hB2_0
    have y2 := hB2_0.size
    clear hb2 hB2_0 g1_0 g1_1 g1_2 g1_3 g1_4 q1_0
    have HO := Lib.hid (fun W (h : Below v2.heap.size v2 W) => hK W (KeepsUp.below h))
    clear hK
    have HR2 := Lib.hid (fun W (h : Below v2.heap.size v2 W) => show Calls Try.prog 48 #[.agg #[.int .i64 f.len, .int .i64 slack, .slice ga sl gc, .slice ha pl hc, .slice ia cl ic]] W fun e w' => e = .returned (.bool true) ∧ Below W.heap.size W w' from ready_is (f.slacked slack) ga sl gc ha pl hc ia cl ic true hs2 W (HO.out W h))
    go_wp2_with fail
    refine (HR2.out _ (by repeat (first | exact Below.refl _ _ | (refine Below.alloc ?_ (by first | omega | (simp; omega) | simp) _) | (refine Below.setCell ?_ (by first | omega | (simp; omega) | simp) _) | refine Below.drew ?_))).mono ?_
    rintro e v3 ⟨rfl, hb3⟩
    have hB3_0 : Below W0.heap.size W0 v3 := below_via (Lib.hid hb3) (by first | omega | (simp; done) | (simp; omega)) (by repeat (first | exact Below.refl _ _ | with_reducible exact HB2.out | (refine Below.alloc ?_ (by first | omega | (simp; omega) | simp) _) | (refine Below.setCell ?_ (by first | omega | (simp; omega) | simp) _) | refine Below.drew ?_))
    have hB3_1 : Below v2.heap.size v2 v3 := below_via (Lib.hid hb3) (by first | omega | (simp; done) | (simp; omega)) (by repeat (first | exact Below.refl _ _ | (refine Below.alloc ?_ (by first | omega | (simp; omega) | simp) _) | (refine Below.setCell ?_ (by first | omega | (simp; omega) | simp) _) | refine Below.drew ?_))
    have z3 := hb3.size
    (try simp at z3)
    obtain ⟨g3_0, g3_1, g3_2, g3_3, g3_4, g3_5, g3_6, g3_7, g3_8, g3_9⟩ : v3.cell? ⟨w.heap.size, 0, none⟩ = some (.int .i64 f.len) ∧ v3.cell? ⟨w.heap.size, 1, none⟩ = some (.int .i64 f.slack) ∧ v3.cell? ⟨w.heap.size, 2, none⟩ = some (.slice sa sl sc) ∧ v3.cell? ⟨w.heap.size, 3, none⟩ = some (.slice pa pl pc) ∧ v3.cell? ⟨w.heap.size, 4, none⟩ = some (.slice ca cl cc) ∧ v3.cell? ⟨v2.heap.size, 0, none⟩ = some (.int .i64 f.len) ∧ v3.cell? ⟨v2.heap.size, 1, none⟩ = some (.int .i64 slack) ∧ v3.cell? ⟨v2.heap.size, 2, none⟩ = some (.slice ga sl gc) ∧ v3.cell? ⟨v2.heap.size, 3, none⟩ = some (.slice ha pl hc) ∧ v3.cell? ⟨v2.heap.size, 4, none⟩ = some (.slice ia cl ic) :=
      ⟨(hb3.cell (p := ⟨w.heap.size, 0, none⟩) (by first | omega | (simp; done) | (simp; omega))).trans (by first | (go_simp; done) | (go_simp; exact set_same (u := .int .i64 0) (by go_simp; done))), (hb3.cell (p := ⟨w.heap.size, 1, none⟩) (by first | omega | (simp; done) | (simp; omega))).trans (by first | (go_simp; done) | (go_simp; exact set_same (u := .int .i64 0) (by go_simp; done))), (hb3.cell (p := ⟨w.heap.size, 2, none⟩) (by first | omega | (simp; done) | (simp; omega))).trans (by first | (go_simp; done) | (go_simp; exact set_same (u := .int .i64 0) (by go_simp; done))), (hb3.cell (p := ⟨w.heap.size, 3, none⟩) (by first | omega | (simp; done) | (simp; omega))).trans (by first | (go_simp; done) | (go_simp; exact set_same (u := .int .i64 0) (by go_simp; done))), (hb3.cell (p := ⟨w.heap.size, 4, none⟩) (by first | omega | (simp; done) | (simp; omega))).trans (by first | (go_simp; done) | (go_simp; exact set_same (u := .int .i64 0) (by go_simp; done))), (hb3.cell (p := ⟨v2.heap.size, 0, none⟩) (by first | omega | (simp; done) | (simp; omega))).trans (by first | (go_simp; done) | (go_simp; exact set_same (u := .int .i64 0) (by go_simp; done))), (hb3.cell (p := ⟨v2.heap.size, 1, none⟩) (by first | omega | (simp; done) | (simp; omega))).trans (by first | (go_simp; done) | (go_simp; exact set_same (u := .int .i64 0) (by go_simp; done))), (hb3.cell (p := ⟨v2.heap.size, 2, none⟩) (by first | omega | (simp; done) | (simp; omega))).trans (by first | (go_simp; done) | (go_simp; exact set_same (u := .int .i64 0) (by go_simp; done))), (hb3.cell (p := ⟨v2.heap.size, 3, none⟩) (by first | omega | (simp; done) | (simp; omega))).trans (by first | (go_simp; done) | (go_simp; exact set_same (u := .int .i64 0) (by go_simp; done))), (hb3.cell (p := ⟨v2.heap.size, 4, none⟩) (by first | omega | (simp; done) | (simp; omega))).trans (by first | (go_simp; done) | (go_simp; exact set_same (u := .int .i64 0) (by go_simp; done)))⟩
    have q3_0 : w.heap.size < v3.heap.size := by first | omega | (simp at *; omega)
    have q3_1 : v2.heap.size < v3.heap.size := by first | omega | (simp at *; omega)
    have HB3 := Lib.hid hB3_0
    have HC3 := Lib.hid hB3_1
    have y3 := hB3_0.size
    clear hb3 hB3_0 hB3_1 g2_0 g2_1 g2_2 g2_3 g2_4 q2_0
    have HBE := Lib.hid (fun W (h : Below v2.heap.size v2 W) (h' : Below w.heap.size w W) => show Calls Try.prog 65 #[.agg #[.int .i64 f.len, .int .i64 slack, .slice ga sl gc, .slice ha pl hc, .slice ia cl ic], .agg #[.int .i64 f.len, .int .i64 f.slack, .slice sa sl sc, .slice pa pl pc, .slice ca cl cc]] W fun e w' => e = .returned (.bool true) ∧ Below W.heap.size W w' from better_any (f.slacked slack) f ga sl gc ha pl hc ia cl ic sa sl sc pa pl pc ca cl cc hso ho (more_slack ho slack (by omega) hso) W (HO.out W h) (HPP.out W h'))
    go_wp2_with fail
    refine (HBE.out _ (by repeat (first | exact Below.refl _ _ | with_reducible exact HC3.out | (refine Below.alloc ?_ (by first | omega | (simp; omega) | simp) _) | (refine Below.setCell ?_ (by first | omega | (simp; omega) | simp) _) | refine Below.drew ?_)) (HBW.out.trans (Below.mono (by repeat (first | exact Below.refl _ _ | with_reducible exact HB3.out | (refine Below.alloc ?_ (by first | omega | (simp; omega) | simp) _) | (refine Below.setCell ?_ (by first | omega | (simp; omega) | simp) _) | refine Below.drew ?_)) HBW.out.size))).mono ?_
    rintro e v4 ⟨rfl, hb4⟩
    have hB4_0 : Below W0.heap.size W0 v4 := below_via (Lib.hid hb4) (by first | omega | (simp; done) | (simp; omega)) (by repeat (first | exact Below.refl _ _ | with_reducible exact HB3.out | (refine Below.alloc ?_ (by first | omega | (simp; omega) | simp) _) | (refine Below.setCell ?_ (by first | omega | (simp; omega) | simp) _) | refine Below.drew ?_))
    have hB4_1 : Below v2.heap.size v2 v4 := below_via (Lib.hid hb4) (by first | omega | (simp; done) | (simp; omega)) (by repeat (first | exact Below.refl _ _ | with_reducible exact HC3.out | (refine Below.alloc ?_ (by first | omega | (simp; omega) | simp) _) | (refine Below.setCell ?_ (by first | omega | (simp; omega) | simp) _) | refine Below.drew ?_))
    have z4 := hb4.size
    (try simp at z4)
    obtain ⟨g4_0, g4_1, g4_2, g4_3, g4_4, g4_5, g4_6, g4_7, g4_8, g4_9⟩ : v4.cell? ⟨w.heap.size, 0, none⟩ = some (.int .i64 f.len) ∧ v4.cell? ⟨w.heap.size, 1, none⟩ = some (.int .i64 f.slack) ∧ v4.cell? ⟨w.heap.size, 2, none⟩ = some (.slice sa sl sc) ∧ v4.cell? ⟨w.heap.size, 3, none⟩ = some (.slice pa pl pc) ∧ v4.cell? ⟨w.heap.size, 4, none⟩ = some (.slice ca cl cc) ∧ v4.cell? ⟨v2.heap.size, 0, none⟩ = some (.int .i64 f.len) ∧ v4.cell? ⟨v2.heap.size, 1, none⟩ = some (.int .i64 slack) ∧ v4.cell? ⟨v2.heap.size, 2, none⟩ = some (.slice ga sl gc) ∧ v4.cell? ⟨v2.heap.size, 3, none⟩ = some (.slice ha pl hc) ∧ v4.cell? ⟨v2.heap.size, 4, none⟩ = some (.slice ia cl ic) :=
      ⟨(hb4.cell (p := ⟨w.heap.size, 0, none⟩) (by first | omega | (simp; done) | (simp; omega))).trans (by first | (go_simp; done) | (go_simp; exact set_same (u := .int .i64 0) (by go_simp; done))), (hb4.cell (p := ⟨w.heap.size, 1, none⟩) (by first | omega | (simp; done) | (simp; omega))).trans (by first | (go_simp; done) | (go_simp; exact set_same (u := .int .i64 0) (by go_simp; done))), (hb4.cell (p := ⟨w.heap.size, 2, none⟩) (by first | omega | (simp; done) | (simp; omega))).trans (by first | (go_simp; done) | (go_simp; exact set_same (u := .int .i64 0) (by go_simp; done))), (hb4.cell (p := ⟨w.heap.size, 3, none⟩) (by first | omega | (simp; done) | (simp; omega))).trans (by first | (go_simp; done) | (go_simp; exact set_same (u := .int .i64 0) (by go_simp; done))), (hb4.cell (p := ⟨w.heap.size, 4, none⟩) (by first | omega | (simp; done) | (simp; omega))).trans (by first | (go_simp; done) | (go_simp; exact set_same (u := .int .i64 0) (by go_simp; done))), (hb4.cell (p := ⟨v2.heap.size, 0, none⟩) (by first | omega | (simp; done) | (simp; omega))).trans (by first | (go_simp; done) | (go_simp; exact set_same (u := .int .i64 0) (by go_simp; done))), (hb4.cell (p := ⟨v2.heap.size, 1, none⟩) (by first | omega | (simp; done) | (simp; omega))).trans (by first | (go_simp; done) | (go_simp; exact set_same (u := .int .i64 0) (by go_simp; done))), (hb4.cell (p := ⟨v2.heap.size, 2, none⟩) (by first | omega | (simp; done) | (simp; omega))).trans (by first | (go_simp; done) | (go_simp; exact set_same (u := .int .i64 0) (by go_simp; done))), (hb4.cell (p := ⟨v2.heap.size, 3, none⟩) (by first | omega | (simp; done) | (simp; omega))).trans (by first | (go_simp; done) | (go_simp; exact set_same (u := .int .i64 0) (by go_simp; done))), (hb4.cell (p := ⟨v2.heap.size, 4, none⟩) (by first | omega | (simp; done) | (simp; omega))).trans (by first | (go_simp; done) | (go_simp; exact set_same (u := .int .i64 0) (by go_simp; done)))⟩
    have q4_0 : w.heap.size < v4.heap.size := by first | omega | (simp at *; omega)
    have q4_1 : v2.heap.size < v4.heap.size := by first | omega | (simp at *; omega)
    have HB4 := Lib.hid hB4_0
    have HC4 := Lib.hid hB4_1
    have y4 := hB4_0.size
    clear hb4 hB4_0 hB4_1 g3_0 g3_1 g3_2 g3_3 g3_4 g3_5 g3_6 g3_7 g3_8 g3_9 q3_0 q3_1
    go_wp2_with fail
    refine (HWI.out _).mono ?_
    rintro e v' ⟨rfl, rfl⟩
    go_wp2_with fail
    refine (HK.out _).mono ?_
    rintro e v5 ⟨rfl, hb5⟩
    have hB5_0 : Below W0.heap.size W0 v5 := below_via (Lib.hid hb5) (by first | omega | (simp; done) | (simp; omega)) (by repeat (first | exact Below.refl _ _ | with_reducible exact HB4.out | (refine Below.alloc ?_ (by first | omega | (simp; omega) | simp) _) | (refine Below.setCell ?_ (by first | omega | (simp; omega) | simp) _) | refine Below.drew ?_))
    have hB5_1 : Below v2.heap.size v2 v5 := below_via (Lib.hid hb5) (by first | omega | (simp; done) | (simp; omega)) (by repeat (first | exact Below.refl _ _ | with_reducible exact HC4.out | (refine Below.alloc ?_ (by first | omega | (simp; omega) | simp) _) | (refine Below.setCell ?_ (by first | omega | (simp; omega) | simp) _) | refine Below.drew ?_))
    have z5 := hb5.size
    (try simp at z5)
    have HB5 := Lib.hid hB5_0
    have HC5 := Lib.hid hB5_1
    have y5 := hB5_0.size
    clear hb5 hB5_0 hB5_1 g4_0 g4_1 g4_2 g4_3 g4_4 g4_5 g4_6 g4_7 g4_8 g4_9 q4_0 q4_1
    go_wp2_with fail
    go_ret
    exact ⟨rfl, HBW.out.trans (Below.mono (by repeat (first | exact Below.refl _ _ | with_reducible exact HB5.out | (refine Below.alloc ?_ (by first | omega | (simp; omega) | simp) _) | (refine Below.setCell ?_ (by first | omega | (simp; omega) | simp) _) | refine Below.drew ?_)) HBW.out.size)⟩
  · have HWI := Lib.hid (HW.out _ h1)
    obtain ⟨k, rfl⟩ : ∃ k : Nat, (k : Int) = kind := ⟨kind.toNat, by unfold btw at h1; simp at h1; omega⟩
    have hk : k < f.strips.length := by unfold btw at h1; simp at h1; omega
    have hkl : (k : Int) < (sl : Int) := by omega
    have hk0 : (0 : Int) ≤ (k : Int) := by omega
    obtain ⟨sb, so, rfl, hsb, hsc⟩ := hsc (by omega)
    obtain ⟨m, hm⟩ : ∃ m, f.many k = m := ⟨_, rfl⟩
    have hmb := many_bd ho k
    rw [hm] at hmb
    have hcell := (hsc k hk).2
    have hm2 : f.strips[k].m = m := by rw [← hm]; unfold PFrame.many; simp [hk]
    rw [hm2] at hcell
    have hwr : IntKind.i64.wrap (m + 1) = m + 1 := IntWalk.i64_in _ ⟨by omega, by omega⟩
    have HST := Lib.hid (fun W (h : Below w.heap.size w W) => show Calls Try.prog 66 #[.agg #[.int .i64 f.len, .int .i64 f.slack, .slice (some ⟨sb, so, none⟩) sl sc, .slice pa pl pc, .slice ca cl cc], .int .i64 k, .int .i64 (m + 1)] W fun e w' => (∃ ga gc ha hc ia ic, e = .returned (.agg #[.int .i64 f.len, .int .i64 f.slack, .slice ga sl gc, .slice ha pl hc, .slice ia cl ic]) ∧ (∀ W', KeepsUp W.heap.size w' W' → PAt W' ga sl gc ha pl hc ia cl ic (f.stocked k (m + 1)))) ∧ Below W.heap.size W w' from (Stocked_any f (some ⟨sb, so, none⟩) sl sc pa pl pc ca cl cc k hk (m + 1) W (hp.below h) s1 s2 s3 s4).mono fun e w' h => by obtain ⟨a, b, c, d, e', f', g1, g2, g3⟩ := h; exact ⟨⟨a, b, c, d, e', f', g1, g2⟩, g3⟩)
    clear HW h1 hsc hm2
    rcases hk2 : (f.stocked k (m + 1)).ready with - | -
    · skip
      go_enter Try.func11, Try.ntmps11
      go_wp2_with fail
      obtain ⟨W0, hW0, hB0, ⟨g0_0, g0_1, g0_2, g0_3, g0_4⟩, hz0⟩ : ∃ W0, (w.alloc (.cells #[.int .i64 f.len, .int .i64 f.slack, .slice (some ⟨sb, so, none⟩) sl sc, .slice pa pl pc, .slice ca cl cc] 26)) = W0 ∧ Below w.heap.size w W0 ∧ (W0.cell? ⟨w.heap.size, 0, none⟩ = some (.int .i64 f.len) ∧ W0.cell? ⟨w.heap.size, 1, none⟩ = some (.int .i64 f.slack) ∧ W0.cell? ⟨w.heap.size, 2, none⟩ = some (.slice (some ⟨sb, so, none⟩) sl sc) ∧ W0.cell? ⟨w.heap.size, 3, none⟩ = some (.slice pa pl pc) ∧ W0.cell? ⟨w.heap.size, 4, none⟩ = some (.slice ca cl cc)) ∧ W0.heap.size = w.heap.size + 1 :=
        ⟨_, rfl, (by repeat (first | exact Below.refl _ _ | (refine Below.alloc ?_ (by first | omega | (simp; omega) | simp) _) | (refine Below.setCell ?_ (by first | omega | (simp; omega) | simp) _) | refine Below.drew ?_)), ⟨by go_simp, by go_simp, by go_simp, by go_simp, by go_simp⟩, by simp⟩
      rw [hW0]
      clear hW0
      have HBW := Lib.hid hB0
      have q0_0 : w.heap.size < W0.heap.size := by omega
      clear hB0 hz0
      have g0_5 : W0.cell? ⟨sb, so + k * 2 + 1, none⟩ = some (.int .i64 m) := (HBW.out.cell (p := ⟨sb, so + k * 2 + 1, none⟩) hsb).trans hcell
      have q0_1 : sb < W0.heap.size := Nat.lt_of_lt_of_le hsb HBW.out.size
      go_wp2_with fail
      refine (HR1.out _ (HBW.out.trans (Below.mono (by repeat (first | exact Below.refl _ _ | (refine Below.alloc ?_ (by first | omega | (simp; omega) | simp) _) | (refine Below.setCell ?_ (by first | omega | (simp; omega) | simp) _) | refine Below.drew ?_)) HBW.out.size))).mono ?_
      rintro e v1 ⟨rfl, hb1⟩
      have hB1_0 : Below W0.heap.size W0 v1 := below_via (Lib.hid hb1) (by first | omega | (simp; done) | (simp; omega)) (by repeat (first | exact Below.refl _ _ | (refine Below.alloc ?_ (by first | omega | (simp; omega) | simp) _) | (refine Below.setCell ?_ (by first | omega | (simp; omega) | simp) _) | refine Below.drew ?_))
      have z1 := hb1.size
      (try simp at z1)
      obtain ⟨g1_0, g1_1, g1_2, g1_3, g1_4, g1_5⟩ : v1.cell? ⟨w.heap.size, 0, none⟩ = some (.int .i64 f.len) ∧ v1.cell? ⟨w.heap.size, 1, none⟩ = some (.int .i64 f.slack) ∧ v1.cell? ⟨w.heap.size, 2, none⟩ = some (.slice (some ⟨sb, so, none⟩) sl sc) ∧ v1.cell? ⟨w.heap.size, 3, none⟩ = some (.slice pa pl pc) ∧ v1.cell? ⟨w.heap.size, 4, none⟩ = some (.slice ca cl cc) ∧ v1.cell? ⟨sb, so + k * 2 + 1, none⟩ = some (.int .i64 m) :=
        ⟨(hb1.cell (p := ⟨w.heap.size, 0, none⟩) (by first | omega | (simp; done) | (simp; omega))).trans (by first | (go_simp; done) | (go_simp; exact set_same (u := .int .i64 0) (by go_simp; done))), (hb1.cell (p := ⟨w.heap.size, 1, none⟩) (by first | omega | (simp; done) | (simp; omega))).trans (by first | (go_simp; done) | (go_simp; exact set_same (u := .int .i64 0) (by go_simp; done))), (hb1.cell (p := ⟨w.heap.size, 2, none⟩) (by first | omega | (simp; done) | (simp; omega))).trans (by first | (go_simp; done) | (go_simp; exact set_same (u := .int .i64 0) (by go_simp; done))), (hb1.cell (p := ⟨w.heap.size, 3, none⟩) (by first | omega | (simp; done) | (simp; omega))).trans (by first | (go_simp; done) | (go_simp; exact set_same (u := .int .i64 0) (by go_simp; done))), (hb1.cell (p := ⟨w.heap.size, 4, none⟩) (by first | omega | (simp; done) | (simp; omega))).trans (by first | (go_simp; done) | (go_simp; exact set_same (u := .int .i64 0) (by go_simp; done))), (hb1.cell (p := ⟨sb, so + k * 2 + 1, none⟩) (by first | omega | (simp; done) | (simp; omega))).trans (by first | (go_simp; done) | (go_simp; exact set_same (u := .int .i64 0) (by go_simp; done)))⟩
      have q1_0 : w.heap.size < v1.heap.size := by first | omega | (simp at *; omega)
      have q1_1 : sb < v1.heap.size := by first | omega | (simp at *; omega)
      have HB1 := Lib.hid hB1_0
      have y1 := hB1_0.size
      clear hb1 hB1_0 g0_0 g0_1 g0_2 g0_3 g0_4 g0_5 q0_0 q0_1
      go_wp2_with fail
      refine (HCP.out _ (HBW.out.trans (Below.mono (by repeat (first | exact Below.refl _ _ | with_reducible exact HB1.out | (refine Below.alloc ?_ (by first | omega | (simp; omega) | simp) _) | (refine Below.setCell ?_ (by first | omega | (simp; omega) | simp) _) | refine Below.drew ?_)) HBW.out.size))).mono ?_
      rintro e v2 ⟨ga, gc, ha, hc, ia, ic, rfl, hK, hb2⟩
      have hB2_0 : Below W0.heap.size W0 v2 := below_via (Lib.hid hb2) (by first | omega | (simp; done) | (simp; omega)) (by repeat (first | exact Below.refl _ _ | with_reducible exact HB1.out | (refine Below.alloc ?_ (by first | omega | (simp; omega) | simp) _) | (refine Below.setCell ?_ (by first | omega | (simp; omega) | simp) _) | refine Below.drew ?_))
      have z2 := hb2.size
      (try simp at z2)
      obtain ⟨g2_0, g2_1, g2_2, g2_3, g2_4, g2_5⟩ : v2.cell? ⟨w.heap.size, 0, none⟩ = some (.int .i64 f.len) ∧ v2.cell? ⟨w.heap.size, 1, none⟩ = some (.int .i64 f.slack) ∧ v2.cell? ⟨w.heap.size, 2, none⟩ = some (.slice (some ⟨sb, so, none⟩) sl sc) ∧ v2.cell? ⟨w.heap.size, 3, none⟩ = some (.slice pa pl pc) ∧ v2.cell? ⟨w.heap.size, 4, none⟩ = some (.slice ca cl cc) ∧ v2.cell? ⟨sb, so + k * 2 + 1, none⟩ = some (.int .i64 m) :=
        ⟨(hb2.cell (p := ⟨w.heap.size, 0, none⟩) (by first | omega | (simp; done) | (simp; omega))).trans (by first | (go_simp; done) | (go_simp; exact set_same (u := .int .i64 0) (by go_simp; done))), (hb2.cell (p := ⟨w.heap.size, 1, none⟩) (by first | omega | (simp; done) | (simp; omega))).trans (by first | (go_simp; done) | (go_simp; exact set_same (u := .int .i64 0) (by go_simp; done))), (hb2.cell (p := ⟨w.heap.size, 2, none⟩) (by first | omega | (simp; done) | (simp; omega))).trans (by first | (go_simp; done) | (go_simp; exact set_same (u := .int .i64 0) (by go_simp; done))), (hb2.cell (p := ⟨w.heap.size, 3, none⟩) (by first | omega | (simp; done) | (simp; omega))).trans (by first | (go_simp; done) | (go_simp; exact set_same (u := .int .i64 0) (by go_simp; done))), (hb2.cell (p := ⟨w.heap.size, 4, none⟩) (by first | omega | (simp; done) | (simp; omega))).trans (by first | (go_simp; done) | (go_simp; exact set_same (u := .int .i64 0) (by go_simp; done))), (hb2.cell (p := ⟨sb, so + k * 2 + 1, none⟩) (by first | omega | (simp; done) | (simp; omega))).trans (by first | (go_simp; done) | (go_simp; exact set_same (u := .int .i64 0) (by go_simp; done)))⟩
      have q2_0 : w.heap.size < v2.heap.size := by first | omega | (simp at *; omega)
      have q2_1 : sb < v2.heap.size := by first | omega | (simp at *; omega)
      have HB2 := Lib.hid hB2_0
      have y2 := hB2_0.size
      clear hb2 hB2_0 g1_0 g1_1 g1_2 g1_3 g1_4 g1_5 q1_0 q1_1
      have HO := Lib.hid (fun W (h : Below v2.heap.size v2 W) => hK W (KeepsUp.below h))
      clear hK
      have HR2 := Lib.hid (fun W (h : Below v2.heap.size v2 W) => show Calls Try.prog 48 #[.agg #[.int .i64 f.len, .int .i64 slack, .slice ga sl gc, .slice ha pl hc, .slice ia cl ic]] W fun e w' => e = .returned (.bool true) ∧ Below W.heap.size W w' from ready_is (f.slacked slack) ga sl gc ha pl hc ia cl ic true hs2 W (HO.out W h))
      go_wp2_with fail
      refine (HR2.out _ (by repeat (first | exact Below.refl _ _ | (refine Below.alloc ?_ (by first | omega | (simp; omega) | simp) _) | (refine Below.setCell ?_ (by first | omega | (simp; omega) | simp) _) | refine Below.drew ?_))).mono ?_
      rintro e v3 ⟨rfl, hb3⟩
      have hB3_0 : Below W0.heap.size W0 v3 := below_via (Lib.hid hb3) (by first | omega | (simp; done) | (simp; omega)) (by repeat (first | exact Below.refl _ _ | with_reducible exact HB2.out | (refine Below.alloc ?_ (by first | omega | (simp; omega) | simp) _) | (refine Below.setCell ?_ (by first | omega | (simp; omega) | simp) _) | refine Below.drew ?_))
      have hB3_1 : Below v2.heap.size v2 v3 := below_via (Lib.hid hb3) (by first | omega | (simp; done) | (simp; omega)) (by repeat (first | exact Below.refl _ _ | (refine Below.alloc ?_ (by first | omega | (simp; omega) | simp) _) | (refine Below.setCell ?_ (by first | omega | (simp; omega) | simp) _) | refine Below.drew ?_))
      have z3 := hb3.size
      (try simp at z3)
      obtain ⟨g3_0, g3_1, g3_2, g3_3, g3_4, g3_5, g3_6, g3_7, g3_8, g3_9, g3_10⟩ : v3.cell? ⟨w.heap.size, 0, none⟩ = some (.int .i64 f.len) ∧ v3.cell? ⟨w.heap.size, 1, none⟩ = some (.int .i64 f.slack) ∧ v3.cell? ⟨w.heap.size, 2, none⟩ = some (.slice (some ⟨sb, so, none⟩) sl sc) ∧ v3.cell? ⟨w.heap.size, 3, none⟩ = some (.slice pa pl pc) ∧ v3.cell? ⟨w.heap.size, 4, none⟩ = some (.slice ca cl cc) ∧ v3.cell? ⟨sb, so + k * 2 + 1, none⟩ = some (.int .i64 m) ∧ v3.cell? ⟨v2.heap.size, 0, none⟩ = some (.int .i64 f.len) ∧ v3.cell? ⟨v2.heap.size, 1, none⟩ = some (.int .i64 slack) ∧ v3.cell? ⟨v2.heap.size, 2, none⟩ = some (.slice ga sl gc) ∧ v3.cell? ⟨v2.heap.size, 3, none⟩ = some (.slice ha pl hc) ∧ v3.cell? ⟨v2.heap.size, 4, none⟩ = some (.slice ia cl ic) :=
        ⟨(hb3.cell (p := ⟨w.heap.size, 0, none⟩) (by first | omega | (simp; done) | (simp; omega))).trans (by first | (go_simp; done) | (go_simp; exact set_same (u := .int .i64 0) (by go_simp; done))), (hb3.cell (p := ⟨w.heap.size, 1, none⟩) (by first | omega | (simp; done) | (simp; omega))).trans (by first | (go_simp; done) | (go_simp; exact set_same (u := .int .i64 0) (by go_simp; done))), (hb3.cell (p := ⟨w.heap.size, 2, none⟩) (by first | omega | (simp; done) | (simp; omega))).trans (by first | (go_simp; done) | (go_simp; exact set_same (u := .int .i64 0) (by go_simp; done))), (hb3.cell (p := ⟨w.heap.size, 3, none⟩) (by first | omega | (simp; done) | (simp; omega))).trans (by first | (go_simp; done) | (go_simp; exact set_same (u := .int .i64 0) (by go_simp; done))), (hb3.cell (p := ⟨w.heap.size, 4, none⟩) (by first | omega | (simp; done) | (simp; omega))).trans (by first | (go_simp; done) | (go_simp; exact set_same (u := .int .i64 0) (by go_simp; done))), (hb3.cell (p := ⟨sb, so + k * 2 + 1, none⟩) (by first | omega | (simp; done) | (simp; omega))).trans (by first | (go_simp; done) | (go_simp; exact set_same (u := .int .i64 0) (by go_simp; done))), (hb3.cell (p := ⟨v2.heap.size, 0, none⟩) (by first | omega | (simp; done) | (simp; omega))).trans (by first | (go_simp; done) | (go_simp; exact set_same (u := .int .i64 0) (by go_simp; done))), (hb3.cell (p := ⟨v2.heap.size, 1, none⟩) (by first | omega | (simp; done) | (simp; omega))).trans (by first | (go_simp; done) | (go_simp; exact set_same (u := .int .i64 0) (by go_simp; done))), (hb3.cell (p := ⟨v2.heap.size, 2, none⟩) (by first | omega | (simp; done) | (simp; omega))).trans (by first | (go_simp; done) | (go_simp; exact set_same (u := .int .i64 0) (by go_simp; done))), (hb3.cell (p := ⟨v2.heap.size, 3, none⟩) (by first | omega | (simp; done) | (simp; omega))).trans (by first | (go_simp; done) | (go_simp; exact set_same (u := .int .i64 0) (by go_simp; done))), (hb3.cell (p := ⟨v2.heap.size, 4, none⟩) (by first | omega | (simp; done) | (simp; omega))).trans (by first | (go_simp; done) | (go_simp; exact set_same (u := .int .i64 0) (by go_simp; done)))⟩
      have q3_0 : w.heap.size < v3.heap.size := by first | omega | (simp at *; omega)
      have q3_1 : sb < v3.heap.size := by first | omega | (simp at *; omega)
      have q3_2 : v2.heap.size < v3.heap.size := by first | omega | (simp at *; omega)
      have HB3 := Lib.hid hB3_0
      have HC3 := Lib.hid hB3_1
      have y3 := hB3_0.size
      clear hb3 hB3_0 hB3_1 g2_0 g2_1 g2_2 g2_3 g2_4 g2_5 q2_0 q2_1
      have HBE := Lib.hid (fun W (h : Below v2.heap.size v2 W) (h' : Below w.heap.size w W) => show Calls Try.prog 65 #[.agg #[.int .i64 f.len, .int .i64 slack, .slice ga sl gc, .slice ha pl hc, .slice ia cl ic], .agg #[.int .i64 f.len, .int .i64 f.slack, .slice (some ⟨sb, so, none⟩) sl sc, .slice pa pl pc, .slice ca cl cc]] W fun e w' => e = .returned (.bool true) ∧ Below W.heap.size W w' from better_any (f.slacked slack) f ga sl gc ha pl hc ia cl ic (some ⟨sb, so, none⟩) sl sc pa pl pc ca cl cc hso ho (more_slack ho slack (by omega) hso) W (HO.out W h) (HPP.out W h'))
      go_wp2_with fail
      refine (HBE.out _ (by repeat (first | exact Below.refl _ _ | with_reducible exact HC3.out | (refine Below.alloc ?_ (by first | omega | (simp; omega) | simp) _) | (refine Below.setCell ?_ (by first | omega | (simp; omega) | simp) _) | refine Below.drew ?_)) (HBW.out.trans (Below.mono (by repeat (first | exact Below.refl _ _ | with_reducible exact HB3.out | (refine Below.alloc ?_ (by first | omega | (simp; omega) | simp) _) | (refine Below.setCell ?_ (by first | omega | (simp; omega) | simp) _) | refine Below.drew ?_)) HBW.out.size))).mono ?_
      rintro e v4 ⟨rfl, hb4⟩
      have hB4_0 : Below W0.heap.size W0 v4 := below_via (Lib.hid hb4) (by first | omega | (simp; done) | (simp; omega)) (by repeat (first | exact Below.refl _ _ | with_reducible exact HB3.out | (refine Below.alloc ?_ (by first | omega | (simp; omega) | simp) _) | (refine Below.setCell ?_ (by first | omega | (simp; omega) | simp) _) | refine Below.drew ?_))
      have hB4_1 : Below v2.heap.size v2 v4 := below_via (Lib.hid hb4) (by first | omega | (simp; done) | (simp; omega)) (by repeat (first | exact Below.refl _ _ | with_reducible exact HC3.out | (refine Below.alloc ?_ (by first | omega | (simp; omega) | simp) _) | (refine Below.setCell ?_ (by first | omega | (simp; omega) | simp) _) | refine Below.drew ?_))
      have z4 := hb4.size
      (try simp at z4)
      obtain ⟨g4_0, g4_1, g4_2, g4_3, g4_4, g4_5, g4_6, g4_7, g4_8, g4_9, g4_10⟩ : v4.cell? ⟨w.heap.size, 0, none⟩ = some (.int .i64 f.len) ∧ v4.cell? ⟨w.heap.size, 1, none⟩ = some (.int .i64 f.slack) ∧ v4.cell? ⟨w.heap.size, 2, none⟩ = some (.slice (some ⟨sb, so, none⟩) sl sc) ∧ v4.cell? ⟨w.heap.size, 3, none⟩ = some (.slice pa pl pc) ∧ v4.cell? ⟨w.heap.size, 4, none⟩ = some (.slice ca cl cc) ∧ v4.cell? ⟨sb, so + k * 2 + 1, none⟩ = some (.int .i64 m) ∧ v4.cell? ⟨v2.heap.size, 0, none⟩ = some (.int .i64 f.len) ∧ v4.cell? ⟨v2.heap.size, 1, none⟩ = some (.int .i64 slack) ∧ v4.cell? ⟨v2.heap.size, 2, none⟩ = some (.slice ga sl gc) ∧ v4.cell? ⟨v2.heap.size, 3, none⟩ = some (.slice ha pl hc) ∧ v4.cell? ⟨v2.heap.size, 4, none⟩ = some (.slice ia cl ic) :=
        ⟨(hb4.cell (p := ⟨w.heap.size, 0, none⟩) (by first | omega | (simp; done) | (simp; omega))).trans (by first | (go_simp; done) | (go_simp; exact set_same (u := .int .i64 0) (by go_simp; done))), (hb4.cell (p := ⟨w.heap.size, 1, none⟩) (by first | omega | (simp; done) | (simp; omega))).trans (by first | (go_simp; done) | (go_simp; exact set_same (u := .int .i64 0) (by go_simp; done))), (hb4.cell (p := ⟨w.heap.size, 2, none⟩) (by first | omega | (simp; done) | (simp; omega))).trans (by first | (go_simp; done) | (go_simp; exact set_same (u := .int .i64 0) (by go_simp; done))), (hb4.cell (p := ⟨w.heap.size, 3, none⟩) (by first | omega | (simp; done) | (simp; omega))).trans (by first | (go_simp; done) | (go_simp; exact set_same (u := .int .i64 0) (by go_simp; done))), (hb4.cell (p := ⟨w.heap.size, 4, none⟩) (by first | omega | (simp; done) | (simp; omega))).trans (by first | (go_simp; done) | (go_simp; exact set_same (u := .int .i64 0) (by go_simp; done))), (hb4.cell (p := ⟨sb, so + k * 2 + 1, none⟩) (by first | omega | (simp; done) | (simp; omega))).trans (by first | (go_simp; done) | (go_simp; exact set_same (u := .int .i64 0) (by go_simp; done))), (hb4.cell (p := ⟨v2.heap.size, 0, none⟩) (by first | omega | (simp; done) | (simp; omega))).trans (by first | (go_simp; done) | (go_simp; exact set_same (u := .int .i64 0) (by go_simp; done))), (hb4.cell (p := ⟨v2.heap.size, 1, none⟩) (by first | omega | (simp; done) | (simp; omega))).trans (by first | (go_simp; done) | (go_simp; exact set_same (u := .int .i64 0) (by go_simp; done))), (hb4.cell (p := ⟨v2.heap.size, 2, none⟩) (by first | omega | (simp; done) | (simp; omega))).trans (by first | (go_simp; done) | (go_simp; exact set_same (u := .int .i64 0) (by go_simp; done))), (hb4.cell (p := ⟨v2.heap.size, 3, none⟩) (by first | omega | (simp; done) | (simp; omega))).trans (by first | (go_simp; done) | (go_simp; exact set_same (u := .int .i64 0) (by go_simp; done))), (hb4.cell (p := ⟨v2.heap.size, 4, none⟩) (by first | omega | (simp; done) | (simp; omega))).trans (by first | (go_simp; done) | (go_simp; exact set_same (u := .int .i64 0) (by go_simp; done)))⟩
      have q4_0 : w.heap.size < v4.heap.size := by first | omega | (simp at *; omega)
      have q4_1 : sb < v4.heap.size := by first | omega | (simp at *; omega)
      have q4_2 : v2.heap.size < v4.heap.size := by first | omega | (simp at *; omega)
      have HB4 := Lib.hid hB4_0
      have HC4 := Lib.hid hB4_1
      have y4 := hB4_0.size
      clear hb4 hB4_0 hB4_1 g3_0 g3_1 g3_2 g3_3 g3_4 g3_5 g3_6 g3_7 g3_8 g3_9 g3_10 q3_0 q3_1 q3_2
      go_wp2_with fail
      refine (HWI.out _).mono ?_
      rintro e v' ⟨rfl, rfl⟩
      have HV5 : Below w.heap.size w v4 := (HBW.out.trans (Below.mono (by repeat (first | exact Below.refl _ _ | with_reducible exact HB4.out | (refine Below.alloc ?_ (by first | omega | (simp; omega) | simp) _) | (refine Below.setCell ?_ (by first | omega | (simp; omega) | simp) _) | refine Below.drew ?_)) HBW.out.size))
      have HX5 := Lib.hid (fun W (h : Below v4.heap.size v4 W ∧ ∀ b o, b < v4.heap.size → W.cell? ⟨b, o, none⟩ = v4.cell? ⟨b, o, none⟩) => bothM2 (W0 := v4) (HST.out W (HV5.trans (h.1.mono HV5.size))) h)
      clear HV5
      go_upto_region 10 with fail
      go_cut [8] (fun v8x wx => ∃ gb ja jc ka kc la lc, v8x = .pointer (some ⟨gb, 0, none⟩) ∧ (wx.cell? ⟨gb, 0, none⟩ = some (.int .i64 f.len) ∧ wx.cell? ⟨gb, 1, none⟩ = some (.int .i64 f.slack) ∧ wx.cell? ⟨gb, 2, none⟩ = some (.slice ja sl jc) ∧ wx.cell? ⟨gb, 3, none⟩ = some (.slice ka pl kc) ∧ wx.cell? ⟨gb, 4, none⟩ = some (.slice la cl lc)) ∧ gb < wx.heap.size ∧ v4.heap.size ≤ gb ∧ Below v4.heap.size v4 wx ∧ (∀ W', Below wx.heap.size wx W' → PAt W' ja sl jc ka pl kc la cl lc (f.stocked k (m + 1))))
      case first =>
        go_region_held3 (fun w' => Below v4.heap.size v4 w' ∧ ∀ b o, b < v4.heap.size → w'.cell? ⟨b, o, none⟩ = v4.cell? ⟨b, o, none⟩) (first | with_reducible assumption | ((repeat (first | with_reducible refine bothS_drew ?_ | with_reducible refine bothS_alloc _ ?_ | with_reducible refine bothS_set _ _ (by first | omega | (simp; omega) | simp) ?_)); first | with_reducible assumption | with_reducible exact Hid.out (by assumption) | with_reducible exact ⟨Below.refl _ _, fun _ _ _ => rfl⟩)) (first
          | (go_at_call 66; with_reducible refine (HX5.out _ ?_).mono ?_; (first | with_reducible assumption | ((repeat (first | with_reducible refine bothS_drew ?_ | with_reducible refine bothS_alloc _ ?_ | with_reducible refine bothS_set _ _ (by first | omega | (simp; omega) | simp) ?_)); first | with_reducible assumption | with_reducible exact Hid.out (by assumption) | with_reducible exact ⟨Below.refl _ _, fun _ _ _ => rfl⟩)); rintro e w' ⟨⟨ja, jc, ka, kc, la, lc, rfl, hK2⟩, k, k1, k2, k3⟩; have HK' := Lib.hid k; (try simp at k3); (try have k6 := Nat.lt_of_succ_le k3); (try have k7 := Nat.lt_of_succ_lt k6))
          | fail "no arm")
        all_goals (go_wp2_with fail; go_meet)
        all_goals refine ⟨_, _, _, _, _, _, _, rfl, ?_, ?_, ?_, And.left (by assumption), fun W' h => hK2 W' (KeepsUp.trans (by repeat (first | with_reducible exact KeepsUp.refl _ _ | (with_reducible refine KeepsUp.set ?_ (by first | exact .inl (by first | omega | (simp; done) | (simp; omega)) | exact .inr (by first | omega | (simp; done) | (simp; omega))) _) | with_reducible refine KeepsUp.alloc _ ?_ | with_reducible refine KeepsUp.drew ?_)) (KeepsUp.below h))⟩
        all_goals first | (refine ⟨?_, ?_, ?_, ?_, ?_⟩ <;> (go_simp; done)) | (with_reducible refine set5 _ _ _ _ _ ?_ ?_ ?_ ?_ ?_ <;> (go_simp; done)) | skip
        all_goals first | omega | (simp; done) | (simp; omega) | skip
      case rest =>
      obtain ⟨gb5, ja, jc, ka, kc, la, lc, rfl, ⟨c5_0, c5_1, c5_2, c5_3, c5_4⟩, hlt5, hge5, hb5, hO2⟩ := hcut
      obtain ⟨v5, rfl⟩ : ∃ v5 : World, v5 = wc := ⟨_, rfl⟩
      have hB5_0 : Below W0.heap.size W0 v5 := below_via (Lib.hid hb5) (by first | omega | (simp; done) | (simp; omega)) (by repeat (first | exact Below.refl _ _ | with_reducible exact HB4.out | (refine Below.alloc ?_ (by first | omega | (simp; omega) | simp) _) | (refine Below.setCell ?_ (by first | omega | (simp; omega) | simp) _) | refine Below.drew ?_))
      have hB5_1 : Below v2.heap.size v2 v5 := below_via (Lib.hid hb5) (by first | omega | (simp; done) | (simp; omega)) (by repeat (first | exact Below.refl _ _ | with_reducible exact HC4.out | (refine Below.alloc ?_ (by first | omega | (simp; omega) | simp) _) | (refine Below.setCell ?_ (by first | omega | (simp; omega) | simp) _) | refine Below.drew ?_))
      have z5 := hb5.size
      (try simp at z5)
      obtain ⟨g5_0, g5_1, g5_2, g5_3, g5_4, g5_5, g5_6, g5_7, g5_8, g5_9, g5_10⟩ : v5.cell? ⟨w.heap.size, 0, none⟩ = some (.int .i64 f.len) ∧ v5.cell? ⟨w.heap.size, 1, none⟩ = some (.int .i64 f.slack) ∧ v5.cell? ⟨w.heap.size, 2, none⟩ = some (.slice (some ⟨sb, so, none⟩) sl sc) ∧ v5.cell? ⟨w.heap.size, 3, none⟩ = some (.slice pa pl pc) ∧ v5.cell? ⟨w.heap.size, 4, none⟩ = some (.slice ca cl cc) ∧ v5.cell? ⟨sb, so + k * 2 + 1, none⟩ = some (.int .i64 m) ∧ v5.cell? ⟨v2.heap.size, 0, none⟩ = some (.int .i64 f.len) ∧ v5.cell? ⟨v2.heap.size, 1, none⟩ = some (.int .i64 slack) ∧ v5.cell? ⟨v2.heap.size, 2, none⟩ = some (.slice ga sl gc) ∧ v5.cell? ⟨v2.heap.size, 3, none⟩ = some (.slice ha pl hc) ∧ v5.cell? ⟨v2.heap.size, 4, none⟩ = some (.slice ia cl ic) :=
        ⟨(hb5.cell (p := ⟨w.heap.size, 0, none⟩) (by first | omega | (simp; done) | (simp; omega))).trans (by first | (go_simp; done) | (go_simp; exact set_same (u := .int .i64 0) (by go_simp; done))), (hb5.cell (p := ⟨w.heap.size, 1, none⟩) (by first | omega | (simp; done) | (simp; omega))).trans (by first | (go_simp; done) | (go_simp; exact set_same (u := .int .i64 0) (by go_simp; done))), (hb5.cell (p := ⟨w.heap.size, 2, none⟩) (by first | omega | (simp; done) | (simp; omega))).trans (by first | (go_simp; done) | (go_simp; exact set_same (u := .int .i64 0) (by go_simp; done))), (hb5.cell (p := ⟨w.heap.size, 3, none⟩) (by first | omega | (simp; done) | (simp; omega))).trans (by first | (go_simp; done) | (go_simp; exact set_same (u := .int .i64 0) (by go_simp; done))), (hb5.cell (p := ⟨w.heap.size, 4, none⟩) (by first | omega | (simp; done) | (simp; omega))).trans (by first | (go_simp; done) | (go_simp; exact set_same (u := .int .i64 0) (by go_simp; done))), (hb5.cell (p := ⟨sb, so + k * 2 + 1, none⟩) (by first | omega | (simp; done) | (simp; omega))).trans (by first | (go_simp; done) | (go_simp; exact set_same (u := .int .i64 0) (by go_simp; done))), (hb5.cell (p := ⟨v2.heap.size, 0, none⟩) (by first | omega | (simp; done) | (simp; omega))).trans (by first | (go_simp; done) | (go_simp; exact set_same (u := .int .i64 0) (by go_simp; done))), (hb5.cell (p := ⟨v2.heap.size, 1, none⟩) (by first | omega | (simp; done) | (simp; omega))).trans (by first | (go_simp; done) | (go_simp; exact set_same (u := .int .i64 0) (by go_simp; done))), (hb5.cell (p := ⟨v2.heap.size, 2, none⟩) (by first | omega | (simp; done) | (simp; omega))).trans (by first | (go_simp; done) | (go_simp; exact set_same (u := .int .i64 0) (by go_simp; done))), (hb5.cell (p := ⟨v2.heap.size, 3, none⟩) (by first | omega | (simp; done) | (simp; omega))).trans (by first | (go_simp; done) | (go_simp; exact set_same (u := .int .i64 0) (by go_simp; done))), (hb5.cell (p := ⟨v2.heap.size, 4, none⟩) (by first | omega | (simp; done) | (simp; omega))).trans (by first | (go_simp; done) | (go_simp; exact set_same (u := .int .i64 0) (by go_simp; done)))⟩
      have q5_0 : w.heap.size < v5.heap.size := by first | omega | (simp at *; omega)
      have q5_1 : sb < v5.heap.size := by first | omega | (simp at *; omega)
      have q5_2 : v2.heap.size < v5.heap.size := by first | omega | (simp at *; omega)
      have HB5 := Lib.hid hB5_0
      have HC5 := Lib.hid hB5_1
      have y5 := hB5_0.size
      clear hb5 hB5_0 hB5_1 g4_0 g4_1 g4_2 g4_3 g4_4 g4_5 g4_6 g4_7 g4_8 g4_9 g4_10 q4_0 q4_1 q4_2
      have g5_11 := c5_0
      have g5_12 := c5_1
      have g5_13 := c5_2
      have g5_14 := c5_3
      have g5_15 := c5_4
      have q5_3 : gb5 < v5.heap.size := hlt5
      clear c5_0 c5_1 c5_2 c5_3 c5_4
      clear HX5
      have HO2 := Lib.hid hO2
      clear hO2
      have HR3 := Lib.hid (fun W (h : Below v5.heap.size v5 W) => show Calls Try.prog 48 #[.agg #[.int .i64 f.len, .int .i64 f.slack, .slice ja sl jc, .slice ka pl kc, .slice la cl lc]] W fun e w' => e = .returned (.bool false) ∧ Below W.heap.size W w' from ready_is (f.stocked k (m + 1)) ja sl jc ka pl kc la cl lc false hk2 W (HO2.out W h))
      go_wp2_with fail
      refine (HR3.out _ (by repeat (first | exact Below.refl _ _ | (refine Below.alloc ?_ (by first | omega | (simp; omega) | simp) _) | (refine Below.setCell ?_ (by first | omega | (simp; omega) | simp) _) | refine Below.drew ?_))).mono ?_
      rintro e v6 ⟨rfl, hb6⟩
      have hB6_0 : Below W0.heap.size W0 v6 := below_via (Lib.hid hb6) (by first | omega | (simp; done) | (simp; omega)) (by repeat (first | exact Below.refl _ _ | with_reducible exact HB5.out | (refine Below.alloc ?_ (by first | omega | (simp; omega) | simp) _) | (refine Below.setCell ?_ (by first | omega | (simp; omega) | simp) _) | refine Below.drew ?_))
      have hB6_1 : Below v2.heap.size v2 v6 := below_via (Lib.hid hb6) (by first | omega | (simp; done) | (simp; omega)) (by repeat (first | exact Below.refl _ _ | with_reducible exact HC5.out | (refine Below.alloc ?_ (by first | omega | (simp; omega) | simp) _) | (refine Below.setCell ?_ (by first | omega | (simp; omega) | simp) _) | refine Below.drew ?_))
      have hB6_2 : Below v5.heap.size v5 v6 := below_via (Lib.hid hb6) (by first | omega | (simp; done) | (simp; omega)) (by repeat (first | exact Below.refl _ _ | (refine Below.alloc ?_ (by first | omega | (simp; omega) | simp) _) | (refine Below.setCell ?_ (by first | omega | (simp; omega) | simp) _) | refine Below.drew ?_))
      have z6 := hb6.size
      (try simp at z6)
      obtain ⟨g6_0, g6_1, g6_2, g6_3, g6_4, g6_5, g6_6, g6_7, g6_8, g6_9, g6_10, g6_11, g6_12, g6_13, g6_14, g6_15⟩ : v6.cell? ⟨w.heap.size, 0, none⟩ = some (.int .i64 f.len) ∧ v6.cell? ⟨w.heap.size, 1, none⟩ = some (.int .i64 f.slack) ∧ v6.cell? ⟨w.heap.size, 2, none⟩ = some (.slice (some ⟨sb, so, none⟩) sl sc) ∧ v6.cell? ⟨w.heap.size, 3, none⟩ = some (.slice pa pl pc) ∧ v6.cell? ⟨w.heap.size, 4, none⟩ = some (.slice ca cl cc) ∧ v6.cell? ⟨sb, so + k * 2 + 1, none⟩ = some (.int .i64 m) ∧ v6.cell? ⟨v2.heap.size, 0, none⟩ = some (.int .i64 f.len) ∧ v6.cell? ⟨v2.heap.size, 1, none⟩ = some (.int .i64 slack) ∧ v6.cell? ⟨v2.heap.size, 2, none⟩ = some (.slice ga sl gc) ∧ v6.cell? ⟨v2.heap.size, 3, none⟩ = some (.slice ha pl hc) ∧ v6.cell? ⟨v2.heap.size, 4, none⟩ = some (.slice ia cl ic) ∧ v6.cell? ⟨gb5, 0, none⟩ = some (.int .i64 f.len) ∧ v6.cell? ⟨gb5, 1, none⟩ = some (.int .i64 f.slack) ∧ v6.cell? ⟨gb5, 2, none⟩ = some (.slice ja sl jc) ∧ v6.cell? ⟨gb5, 3, none⟩ = some (.slice ka pl kc) ∧ v6.cell? ⟨gb5, 4, none⟩ = some (.slice la cl lc) :=
        ⟨(hb6.cell (p := ⟨w.heap.size, 0, none⟩) (by first | omega | (simp; done) | (simp; omega))).trans (by first | (go_simp; done) | (go_simp; exact set_same (u := .int .i64 0) (by go_simp; done))), (hb6.cell (p := ⟨w.heap.size, 1, none⟩) (by first | omega | (simp; done) | (simp; omega))).trans (by first | (go_simp; done) | (go_simp; exact set_same (u := .int .i64 0) (by go_simp; done))), (hb6.cell (p := ⟨w.heap.size, 2, none⟩) (by first | omega | (simp; done) | (simp; omega))).trans (by first | (go_simp; done) | (go_simp; exact set_same (u := .int .i64 0) (by go_simp; done))), (hb6.cell (p := ⟨w.heap.size, 3, none⟩) (by first | omega | (simp; done) | (simp; omega))).trans (by first | (go_simp; done) | (go_simp; exact set_same (u := .int .i64 0) (by go_simp; done))), (hb6.cell (p := ⟨w.heap.size, 4, none⟩) (by first | omega | (simp; done) | (simp; omega))).trans (by first | (go_simp; done) | (go_simp; exact set_same (u := .int .i64 0) (by go_simp; done))), (hb6.cell (p := ⟨sb, so + k * 2 + 1, none⟩) (by first | omega | (simp; done) | (simp; omega))).trans (by first | (go_simp; done) | (go_simp; exact set_same (u := .int .i64 0) (by go_simp; done))), (hb6.cell (p := ⟨v2.heap.size, 0, none⟩) (by first | omega | (simp; done) | (simp; omega))).trans (by first | (go_simp; done) | (go_simp; exact set_same (u := .int .i64 0) (by go_simp; done))), (hb6.cell (p := ⟨v2.heap.size, 1, none⟩) (by first | omega | (simp; done) | (simp; omega))).trans (by first | (go_simp; done) | (go_simp; exact set_same (u := .int .i64 0) (by go_simp; done))), (hb6.cell (p := ⟨v2.heap.size, 2, none⟩) (by first | omega | (simp; done) | (simp; omega))).trans (by first | (go_simp; done) | (go_simp; exact set_same (u := .int .i64 0) (by go_simp; done))), (hb6.cell (p := ⟨v2.heap.size, 3, none⟩) (by first | omega | (simp; done) | (simp; omega))).trans (by first | (go_simp; done) | (go_simp; exact set_same (u := .int .i64 0) (by go_simp; done))), (hb6.cell (p := ⟨v2.heap.size, 4, none⟩) (by first | omega | (simp; done) | (simp; omega))).trans (by first | (go_simp; done) | (go_simp; exact set_same (u := .int .i64 0) (by go_simp; done))), (hb6.cell (p := ⟨gb5, 0, none⟩) (by first | omega | (simp; done) | (simp; omega))).trans (by first | (go_simp; done) | (go_simp; exact set_same (u := .int .i64 0) (by go_simp; done))), (hb6.cell (p := ⟨gb5, 1, none⟩) (by first | omega | (simp; done) | (simp; omega))).trans (by first | (go_simp; done) | (go_simp; exact set_same (u := .int .i64 0) (by go_simp; done))), (hb6.cell (p := ⟨gb5, 2, none⟩) (by first | omega | (simp; done) | (simp; omega))).trans (by first | (go_simp; done) | (go_simp; exact set_same (u := .int .i64 0) (by go_simp; done))), (hb6.cell (p := ⟨gb5, 3, none⟩) (by first | omega | (simp; done) | (simp; omega))).trans (by first | (go_simp; done) | (go_simp; exact set_same (u := .int .i64 0) (by go_simp; done))), (hb6.cell (p := ⟨gb5, 4, none⟩) (by first | omega | (simp; done) | (simp; omega))).trans (by first | (go_simp; done) | (go_simp; exact set_same (u := .int .i64 0) (by go_simp; done)))⟩
      have q6_0 : w.heap.size < v6.heap.size := by first | omega | (simp at *; omega)
      have q6_1 : sb < v6.heap.size := by first | omega | (simp at *; omega)
      have q6_2 : v2.heap.size < v6.heap.size := by first | omega | (simp at *; omega)
      have q6_3 : gb5 < v6.heap.size := by first | omega | (simp at *; omega)
      have HB6 := Lib.hid hB6_0
      have HC6 := Lib.hid hB6_1
      have HD6 := Lib.hid hB6_2
      have y6 := hB6_0.size
      clear hb6 hB6_0 hB6_1 hB6_2 g5_0 g5_1 g5_2 g5_3 g5_4 g5_5 g5_6 g5_7 g5_8 g5_9 g5_10 g5_11 g5_12 g5_13 g5_14 g5_15 q5_0 q5_1 q5_2 q5_3
      go_wp2_with fail
      refine (HK.out _).mono ?_
      rintro e v7 ⟨rfl, hb7⟩
      have hB7_0 : Below W0.heap.size W0 v7 := below_via (Lib.hid hb7) (by first | omega | (simp; done) | (simp; omega)) (by repeat (first | exact Below.refl _ _ | with_reducible exact HB6.out | (refine Below.alloc ?_ (by first | omega | (simp; omega) | simp) _) | (refine Below.setCell ?_ (by first | omega | (simp; omega) | simp) _) | refine Below.drew ?_))
      have hB7_1 : Below v2.heap.size v2 v7 := below_via (Lib.hid hb7) (by first | omega | (simp; done) | (simp; omega)) (by repeat (first | exact Below.refl _ _ | with_reducible exact HC6.out | (refine Below.alloc ?_ (by first | omega | (simp; omega) | simp) _) | (refine Below.setCell ?_ (by first | omega | (simp; omega) | simp) _) | refine Below.drew ?_))
      have hB7_2 : Below v5.heap.size v5 v7 := below_via (Lib.hid hb7) (by first | omega | (simp; done) | (simp; omega)) (by repeat (first | exact Below.refl _ _ | with_reducible exact HD6.out | (refine Below.alloc ?_ (by first | omega | (simp; omega) | simp) _) | (refine Below.setCell ?_ (by first | omega | (simp; omega) | simp) _) | refine Below.drew ?_))
      have z7 := hb7.size
      (try simp at z7)
      have HB7 := Lib.hid hB7_0
      have HC7 := Lib.hid hB7_1
      have HD7 := Lib.hid hB7_2
      have y7 := hB7_0.size
      clear hb7 hB7_0 hB7_1 hB7_2 g6_0 g6_1 g6_2 g6_3 g6_4 g6_5 g6_6 g6_7 g6_8 g6_9 g6_10 g6_11 g6_12 g6_13 g6_14 g6_15 q6_0 q6_1 q6_2 q6_3
      go_wp2_with fail
      go_ret
      exact ⟨rfl, HBW.out.trans (Below.mono (by repeat (first | exact Below.refl _ _ | with_reducible exact HB7.out | (refine Below.alloc ?_ (by first | omega | (simp; omega) | simp) _) | (refine Below.setCell ?_ (by first | omega | (simp; omega) | simp) _) | refine Below.drew ?_)) HBW.out.size)⟩
    · have hko : (f.stocked k (m + 1)).ok = true := by unfold PFrame.ready at hk2; simp only [Bool.and_eq_true] at hk2; exact hk2.2
      have hmore := more_strip ho k (by rw [hm]; exact hko)
      rw [hm] at hmore
      go_enter Try.func11, Try.ntmps11
      go_wp2_with fail
      obtain ⟨W0, hW0, hB0, ⟨g0_0, g0_1, g0_2, g0_3, g0_4⟩, hz0⟩ : ∃ W0, (w.alloc (.cells #[.int .i64 f.len, .int .i64 f.slack, .slice (some ⟨sb, so, none⟩) sl sc, .slice pa pl pc, .slice ca cl cc] 26)) = W0 ∧ Below w.heap.size w W0 ∧ (W0.cell? ⟨w.heap.size, 0, none⟩ = some (.int .i64 f.len) ∧ W0.cell? ⟨w.heap.size, 1, none⟩ = some (.int .i64 f.slack) ∧ W0.cell? ⟨w.heap.size, 2, none⟩ = some (.slice (some ⟨sb, so, none⟩) sl sc) ∧ W0.cell? ⟨w.heap.size, 3, none⟩ = some (.slice pa pl pc) ∧ W0.cell? ⟨w.heap.size, 4, none⟩ = some (.slice ca cl cc)) ∧ W0.heap.size = w.heap.size + 1 :=
        ⟨_, rfl, (by repeat (first | exact Below.refl _ _ | (refine Below.alloc ?_ (by first | omega | (simp; omega) | simp) _) | (refine Below.setCell ?_ (by first | omega | (simp; omega) | simp) _) | refine Below.drew ?_)), ⟨by go_simp, by go_simp, by go_simp, by go_simp, by go_simp⟩, by simp⟩
      rw [hW0]
      clear hW0
      have HBW := Lib.hid hB0
      have q0_0 : w.heap.size < W0.heap.size := by omega
      clear hB0 hz0
      have g0_5 : W0.cell? ⟨sb, so + k * 2 + 1, none⟩ = some (.int .i64 m) := (HBW.out.cell (p := ⟨sb, so + k * 2 + 1, none⟩) hsb).trans hcell
      have q0_1 : sb < W0.heap.size := Nat.lt_of_lt_of_le hsb HBW.out.size
      go_wp2_with fail
      refine (HR1.out _ (HBW.out.trans (Below.mono (by repeat (first | exact Below.refl _ _ | (refine Below.alloc ?_ (by first | omega | (simp; omega) | simp) _) | (refine Below.setCell ?_ (by first | omega | (simp; omega) | simp) _) | refine Below.drew ?_)) HBW.out.size))).mono ?_
      rintro e v1 ⟨rfl, hb1⟩
      have hB1_0 : Below W0.heap.size W0 v1 := below_via (Lib.hid hb1) (by first | omega | (simp; done) | (simp; omega)) (by repeat (first | exact Below.refl _ _ | (refine Below.alloc ?_ (by first | omega | (simp; omega) | simp) _) | (refine Below.setCell ?_ (by first | omega | (simp; omega) | simp) _) | refine Below.drew ?_))
      have z1 := hb1.size
      (try simp at z1)
      obtain ⟨g1_0, g1_1, g1_2, g1_3, g1_4, g1_5⟩ : v1.cell? ⟨w.heap.size, 0, none⟩ = some (.int .i64 f.len) ∧ v1.cell? ⟨w.heap.size, 1, none⟩ = some (.int .i64 f.slack) ∧ v1.cell? ⟨w.heap.size, 2, none⟩ = some (.slice (some ⟨sb, so, none⟩) sl sc) ∧ v1.cell? ⟨w.heap.size, 3, none⟩ = some (.slice pa pl pc) ∧ v1.cell? ⟨w.heap.size, 4, none⟩ = some (.slice ca cl cc) ∧ v1.cell? ⟨sb, so + k * 2 + 1, none⟩ = some (.int .i64 m) :=
        ⟨(hb1.cell (p := ⟨w.heap.size, 0, none⟩) (by first | omega | (simp; done) | (simp; omega))).trans (by first | (go_simp; done) | (go_simp; exact set_same (u := .int .i64 0) (by go_simp; done))), (hb1.cell (p := ⟨w.heap.size, 1, none⟩) (by first | omega | (simp; done) | (simp; omega))).trans (by first | (go_simp; done) | (go_simp; exact set_same (u := .int .i64 0) (by go_simp; done))), (hb1.cell (p := ⟨w.heap.size, 2, none⟩) (by first | omega | (simp; done) | (simp; omega))).trans (by first | (go_simp; done) | (go_simp; exact set_same (u := .int .i64 0) (by go_simp; done))), (hb1.cell (p := ⟨w.heap.size, 3, none⟩) (by first | omega | (simp; done) | (simp; omega))).trans (by first | (go_simp; done) | (go_simp; exact set_same (u := .int .i64 0) (by go_simp; done))), (hb1.cell (p := ⟨w.heap.size, 4, none⟩) (by first | omega | (simp; done) | (simp; omega))).trans (by first | (go_simp; done) | (go_simp; exact set_same (u := .int .i64 0) (by go_simp; done))), (hb1.cell (p := ⟨sb, so + k * 2 + 1, none⟩) (by first | omega | (simp; done) | (simp; omega))).trans (by first | (go_simp; done) | (go_simp; exact set_same (u := .int .i64 0) (by go_simp; done)))⟩
      have q1_0 : w.heap.size < v1.heap.size := by first | omega | (simp at *; omega)
      have q1_1 : sb < v1.heap.size := by first | omega | (simp at *; omega)
      have HB1 := Lib.hid hB1_0
      have y1 := hB1_0.size
      clear hb1 hB1_0 g0_0 g0_1 g0_2 g0_3 g0_4 g0_5 q0_0 q0_1
      go_wp2_with fail
      refine (HCP.out _ (HBW.out.trans (Below.mono (by repeat (first | exact Below.refl _ _ | with_reducible exact HB1.out | (refine Below.alloc ?_ (by first | omega | (simp; omega) | simp) _) | (refine Below.setCell ?_ (by first | omega | (simp; omega) | simp) _) | refine Below.drew ?_)) HBW.out.size))).mono ?_
      rintro e v2 ⟨ga, gc, ha, hc, ia, ic, rfl, hK, hb2⟩
      have hB2_0 : Below W0.heap.size W0 v2 := below_via (Lib.hid hb2) (by first | omega | (simp; done) | (simp; omega)) (by repeat (first | exact Below.refl _ _ | with_reducible exact HB1.out | (refine Below.alloc ?_ (by first | omega | (simp; omega) | simp) _) | (refine Below.setCell ?_ (by first | omega | (simp; omega) | simp) _) | refine Below.drew ?_))
      have z2 := hb2.size
      (try simp at z2)
      obtain ⟨g2_0, g2_1, g2_2, g2_3, g2_4, g2_5⟩ : v2.cell? ⟨w.heap.size, 0, none⟩ = some (.int .i64 f.len) ∧ v2.cell? ⟨w.heap.size, 1, none⟩ = some (.int .i64 f.slack) ∧ v2.cell? ⟨w.heap.size, 2, none⟩ = some (.slice (some ⟨sb, so, none⟩) sl sc) ∧ v2.cell? ⟨w.heap.size, 3, none⟩ = some (.slice pa pl pc) ∧ v2.cell? ⟨w.heap.size, 4, none⟩ = some (.slice ca cl cc) ∧ v2.cell? ⟨sb, so + k * 2 + 1, none⟩ = some (.int .i64 m) :=
        ⟨(hb2.cell (p := ⟨w.heap.size, 0, none⟩) (by first | omega | (simp; done) | (simp; omega))).trans (by first | (go_simp; done) | (go_simp; exact set_same (u := .int .i64 0) (by go_simp; done))), (hb2.cell (p := ⟨w.heap.size, 1, none⟩) (by first | omega | (simp; done) | (simp; omega))).trans (by first | (go_simp; done) | (go_simp; exact set_same (u := .int .i64 0) (by go_simp; done))), (hb2.cell (p := ⟨w.heap.size, 2, none⟩) (by first | omega | (simp; done) | (simp; omega))).trans (by first | (go_simp; done) | (go_simp; exact set_same (u := .int .i64 0) (by go_simp; done))), (hb2.cell (p := ⟨w.heap.size, 3, none⟩) (by first | omega | (simp; done) | (simp; omega))).trans (by first | (go_simp; done) | (go_simp; exact set_same (u := .int .i64 0) (by go_simp; done))), (hb2.cell (p := ⟨w.heap.size, 4, none⟩) (by first | omega | (simp; done) | (simp; omega))).trans (by first | (go_simp; done) | (go_simp; exact set_same (u := .int .i64 0) (by go_simp; done))), (hb2.cell (p := ⟨sb, so + k * 2 + 1, none⟩) (by first | omega | (simp; done) | (simp; omega))).trans (by first | (go_simp; done) | (go_simp; exact set_same (u := .int .i64 0) (by go_simp; done)))⟩
      have q2_0 : w.heap.size < v2.heap.size := by first | omega | (simp at *; omega)
      have q2_1 : sb < v2.heap.size := by first | omega | (simp at *; omega)
      have HB2 := Lib.hid hB2_0
      have y2 := hB2_0.size
      clear hb2 hB2_0 g1_0 g1_1 g1_2 g1_3 g1_4 g1_5 q1_0 q1_1
      have HO := Lib.hid (fun W (h : Below v2.heap.size v2 W) => hK W (KeepsUp.below h))
      clear hK
      have HR2 := Lib.hid (fun W (h : Below v2.heap.size v2 W) => show Calls Try.prog 48 #[.agg #[.int .i64 f.len, .int .i64 slack, .slice ga sl gc, .slice ha pl hc, .slice ia cl ic]] W fun e w' => e = .returned (.bool true) ∧ Below W.heap.size W w' from ready_is (f.slacked slack) ga sl gc ha pl hc ia cl ic true hs2 W (HO.out W h))
      go_wp2_with fail
      refine (HR2.out _ (by repeat (first | exact Below.refl _ _ | (refine Below.alloc ?_ (by first | omega | (simp; omega) | simp) _) | (refine Below.setCell ?_ (by first | omega | (simp; omega) | simp) _) | refine Below.drew ?_))).mono ?_
      rintro e v3 ⟨rfl, hb3⟩
      have hB3_0 : Below W0.heap.size W0 v3 := below_via (Lib.hid hb3) (by first | omega | (simp; done) | (simp; omega)) (by repeat (first | exact Below.refl _ _ | with_reducible exact HB2.out | (refine Below.alloc ?_ (by first | omega | (simp; omega) | simp) _) | (refine Below.setCell ?_ (by first | omega | (simp; omega) | simp) _) | refine Below.drew ?_))
      have hB3_1 : Below v2.heap.size v2 v3 := below_via (Lib.hid hb3) (by first | omega | (simp; done) | (simp; omega)) (by repeat (first | exact Below.refl _ _ | (refine Below.alloc ?_ (by first | omega | (simp; omega) | simp) _) | (refine Below.setCell ?_ (by first | omega | (simp; omega) | simp) _) | refine Below.drew ?_))
      have z3 := hb3.size
      (try simp at z3)
      obtain ⟨g3_0, g3_1, g3_2, g3_3, g3_4, g3_5, g3_6, g3_7, g3_8, g3_9, g3_10⟩ : v3.cell? ⟨w.heap.size, 0, none⟩ = some (.int .i64 f.len) ∧ v3.cell? ⟨w.heap.size, 1, none⟩ = some (.int .i64 f.slack) ∧ v3.cell? ⟨w.heap.size, 2, none⟩ = some (.slice (some ⟨sb, so, none⟩) sl sc) ∧ v3.cell? ⟨w.heap.size, 3, none⟩ = some (.slice pa pl pc) ∧ v3.cell? ⟨w.heap.size, 4, none⟩ = some (.slice ca cl cc) ∧ v3.cell? ⟨sb, so + k * 2 + 1, none⟩ = some (.int .i64 m) ∧ v3.cell? ⟨v2.heap.size, 0, none⟩ = some (.int .i64 f.len) ∧ v3.cell? ⟨v2.heap.size, 1, none⟩ = some (.int .i64 slack) ∧ v3.cell? ⟨v2.heap.size, 2, none⟩ = some (.slice ga sl gc) ∧ v3.cell? ⟨v2.heap.size, 3, none⟩ = some (.slice ha pl hc) ∧ v3.cell? ⟨v2.heap.size, 4, none⟩ = some (.slice ia cl ic) :=
        ⟨(hb3.cell (p := ⟨w.heap.size, 0, none⟩) (by first | omega | (simp; done) | (simp; omega))).trans (by first | (go_simp; done) | (go_simp; exact set_same (u := .int .i64 0) (by go_simp; done))), (hb3.cell (p := ⟨w.heap.size, 1, none⟩) (by first | omega | (simp; done) | (simp; omega))).trans (by first | (go_simp; done) | (go_simp; exact set_same (u := .int .i64 0) (by go_simp; done))), (hb3.cell (p := ⟨w.heap.size, 2, none⟩) (by first | omega | (simp; done) | (simp; omega))).trans (by first | (go_simp; done) | (go_simp; exact set_same (u := .int .i64 0) (by go_simp; done))), (hb3.cell (p := ⟨w.heap.size, 3, none⟩) (by first | omega | (simp; done) | (simp; omega))).trans (by first | (go_simp; done) | (go_simp; exact set_same (u := .int .i64 0) (by go_simp; done))), (hb3.cell (p := ⟨w.heap.size, 4, none⟩) (by first | omega | (simp; done) | (simp; omega))).trans (by first | (go_simp; done) | (go_simp; exact set_same (u := .int .i64 0) (by go_simp; done))), (hb3.cell (p := ⟨sb, so + k * 2 + 1, none⟩) (by first | omega | (simp; done) | (simp; omega))).trans (by first | (go_simp; done) | (go_simp; exact set_same (u := .int .i64 0) (by go_simp; done))), (hb3.cell (p := ⟨v2.heap.size, 0, none⟩) (by first | omega | (simp; done) | (simp; omega))).trans (by first | (go_simp; done) | (go_simp; exact set_same (u := .int .i64 0) (by go_simp; done))), (hb3.cell (p := ⟨v2.heap.size, 1, none⟩) (by first | omega | (simp; done) | (simp; omega))).trans (by first | (go_simp; done) | (go_simp; exact set_same (u := .int .i64 0) (by go_simp; done))), (hb3.cell (p := ⟨v2.heap.size, 2, none⟩) (by first | omega | (simp; done) | (simp; omega))).trans (by first | (go_simp; done) | (go_simp; exact set_same (u := .int .i64 0) (by go_simp; done))), (hb3.cell (p := ⟨v2.heap.size, 3, none⟩) (by first | omega | (simp; done) | (simp; omega))).trans (by first | (go_simp; done) | (go_simp; exact set_same (u := .int .i64 0) (by go_simp; done))), (hb3.cell (p := ⟨v2.heap.size, 4, none⟩) (by first | omega | (simp; done) | (simp; omega))).trans (by first | (go_simp; done) | (go_simp; exact set_same (u := .int .i64 0) (by go_simp; done)))⟩
      have q3_0 : w.heap.size < v3.heap.size := by first | omega | (simp at *; omega)
      have q3_1 : sb < v3.heap.size := by first | omega | (simp at *; omega)
      have q3_2 : v2.heap.size < v3.heap.size := by first | omega | (simp at *; omega)
      have HB3 := Lib.hid hB3_0
      have HC3 := Lib.hid hB3_1
      have y3 := hB3_0.size
      clear hb3 hB3_0 hB3_1 g2_0 g2_1 g2_2 g2_3 g2_4 g2_5 q2_0 q2_1
      have HBE := Lib.hid (fun W (h : Below v2.heap.size v2 W) (h' : Below w.heap.size w W) => show Calls Try.prog 65 #[.agg #[.int .i64 f.len, .int .i64 slack, .slice ga sl gc, .slice ha pl hc, .slice ia cl ic], .agg #[.int .i64 f.len, .int .i64 f.slack, .slice (some ⟨sb, so, none⟩) sl sc, .slice pa pl pc, .slice ca cl cc]] W fun e w' => e = .returned (.bool true) ∧ Below W.heap.size W w' from better_any (f.slacked slack) f ga sl gc ha pl hc ia cl ic (some ⟨sb, so, none⟩) sl sc pa pl pc ca cl cc hso ho (more_slack ho slack (by omega) hso) W (HO.out W h) (HPP.out W h'))
      go_wp2_with fail
      refine (HBE.out _ (by repeat (first | exact Below.refl _ _ | with_reducible exact HC3.out | (refine Below.alloc ?_ (by first | omega | (simp; omega) | simp) _) | (refine Below.setCell ?_ (by first | omega | (simp; omega) | simp) _) | refine Below.drew ?_)) (HBW.out.trans (Below.mono (by repeat (first | exact Below.refl _ _ | with_reducible exact HB3.out | (refine Below.alloc ?_ (by first | omega | (simp; omega) | simp) _) | (refine Below.setCell ?_ (by first | omega | (simp; omega) | simp) _) | refine Below.drew ?_)) HBW.out.size))).mono ?_
      rintro e v4 ⟨rfl, hb4⟩
      have hB4_0 : Below W0.heap.size W0 v4 := below_via (Lib.hid hb4) (by first | omega | (simp; done) | (simp; omega)) (by repeat (first | exact Below.refl _ _ | with_reducible exact HB3.out | (refine Below.alloc ?_ (by first | omega | (simp; omega) | simp) _) | (refine Below.setCell ?_ (by first | omega | (simp; omega) | simp) _) | refine Below.drew ?_))
      have hB4_1 : Below v2.heap.size v2 v4 := below_via (Lib.hid hb4) (by first | omega | (simp; done) | (simp; omega)) (by repeat (first | exact Below.refl _ _ | with_reducible exact HC3.out | (refine Below.alloc ?_ (by first | omega | (simp; omega) | simp) _) | (refine Below.setCell ?_ (by first | omega | (simp; omega) | simp) _) | refine Below.drew ?_))
      have z4 := hb4.size
      (try simp at z4)
      obtain ⟨g4_0, g4_1, g4_2, g4_3, g4_4, g4_5, g4_6, g4_7, g4_8, g4_9, g4_10⟩ : v4.cell? ⟨w.heap.size, 0, none⟩ = some (.int .i64 f.len) ∧ v4.cell? ⟨w.heap.size, 1, none⟩ = some (.int .i64 f.slack) ∧ v4.cell? ⟨w.heap.size, 2, none⟩ = some (.slice (some ⟨sb, so, none⟩) sl sc) ∧ v4.cell? ⟨w.heap.size, 3, none⟩ = some (.slice pa pl pc) ∧ v4.cell? ⟨w.heap.size, 4, none⟩ = some (.slice ca cl cc) ∧ v4.cell? ⟨sb, so + k * 2 + 1, none⟩ = some (.int .i64 m) ∧ v4.cell? ⟨v2.heap.size, 0, none⟩ = some (.int .i64 f.len) ∧ v4.cell? ⟨v2.heap.size, 1, none⟩ = some (.int .i64 slack) ∧ v4.cell? ⟨v2.heap.size, 2, none⟩ = some (.slice ga sl gc) ∧ v4.cell? ⟨v2.heap.size, 3, none⟩ = some (.slice ha pl hc) ∧ v4.cell? ⟨v2.heap.size, 4, none⟩ = some (.slice ia cl ic) :=
        ⟨(hb4.cell (p := ⟨w.heap.size, 0, none⟩) (by first | omega | (simp; done) | (simp; omega))).trans (by first | (go_simp; done) | (go_simp; exact set_same (u := .int .i64 0) (by go_simp; done))), (hb4.cell (p := ⟨w.heap.size, 1, none⟩) (by first | omega | (simp; done) | (simp; omega))).trans (by first | (go_simp; done) | (go_simp; exact set_same (u := .int .i64 0) (by go_simp; done))), (hb4.cell (p := ⟨w.heap.size, 2, none⟩) (by first | omega | (simp; done) | (simp; omega))).trans (by first | (go_simp; done) | (go_simp; exact set_same (u := .int .i64 0) (by go_simp; done))), (hb4.cell (p := ⟨w.heap.size, 3, none⟩) (by first | omega | (simp; done) | (simp; omega))).trans (by first | (go_simp; done) | (go_simp; exact set_same (u := .int .i64 0) (by go_simp; done))), (hb4.cell (p := ⟨w.heap.size, 4, none⟩) (by first | omega | (simp; done) | (simp; omega))).trans (by first | (go_simp; done) | (go_simp; exact set_same (u := .int .i64 0) (by go_simp; done))), (hb4.cell (p := ⟨sb, so + k * 2 + 1, none⟩) (by first | omega | (simp; done) | (simp; omega))).trans (by first | (go_simp; done) | (go_simp; exact set_same (u := .int .i64 0) (by go_simp; done))), (hb4.cell (p := ⟨v2.heap.size, 0, none⟩) (by first | omega | (simp; done) | (simp; omega))).trans (by first | (go_simp; done) | (go_simp; exact set_same (u := .int .i64 0) (by go_simp; done))), (hb4.cell (p := ⟨v2.heap.size, 1, none⟩) (by first | omega | (simp; done) | (simp; omega))).trans (by first | (go_simp; done) | (go_simp; exact set_same (u := .int .i64 0) (by go_simp; done))), (hb4.cell (p := ⟨v2.heap.size, 2, none⟩) (by first | omega | (simp; done) | (simp; omega))).trans (by first | (go_simp; done) | (go_simp; exact set_same (u := .int .i64 0) (by go_simp; done))), (hb4.cell (p := ⟨v2.heap.size, 3, none⟩) (by first | omega | (simp; done) | (simp; omega))).trans (by first | (go_simp; done) | (go_simp; exact set_same (u := .int .i64 0) (by go_simp; done))), (hb4.cell (p := ⟨v2.heap.size, 4, none⟩) (by first | omega | (simp; done) | (simp; omega))).trans (by first | (go_simp; done) | (go_simp; exact set_same (u := .int .i64 0) (by go_simp; done)))⟩
      have q4_0 : w.heap.size < v4.heap.size := by first | omega | (simp at *; omega)
      have q4_1 : sb < v4.heap.size := by first | omega | (simp at *; omega)
      have q4_2 : v2.heap.size < v4.heap.size := by first | omega | (simp at *; omega)
      have HB4 := Lib.hid hB4_0
      have HC4 := Lib.hid hB4_1
      have y4 := hB4_0.size
      clear hb4 hB4_0 hB4_1 g3_0 g3_1 g3_2 g3_3 g3_4 g3_5 g3_6 g3_7 g3_8 g3_9 g3_10 q3_0 q3_1 q3_2
      go_wp2_with fail
      refine (HWI.out _).mono ?_
      rintro e v' ⟨rfl, rfl⟩
      have HV5 : Below w.heap.size w v4 := (HBW.out.trans (Below.mono (by repeat (first | exact Below.refl _ _ | with_reducible exact HB4.out | (refine Below.alloc ?_ (by first | omega | (simp; omega) | simp) _) | (refine Below.setCell ?_ (by first | omega | (simp; omega) | simp) _) | refine Below.drew ?_)) HBW.out.size))
      have HX5 := Lib.hid (fun W (h : Below v4.heap.size v4 W ∧ ∀ b o, b < v4.heap.size → W.cell? ⟨b, o, none⟩ = v4.cell? ⟨b, o, none⟩) => bothM2 (W0 := v4) (HST.out W (HV5.trans (h.1.mono HV5.size))) h)
      clear HV5
      go_upto_region 10 with fail
      go_cut [8] (fun v8x wx => ∃ gb ja jc ka kc la lc, v8x = .pointer (some ⟨gb, 0, none⟩) ∧ (wx.cell? ⟨gb, 0, none⟩ = some (.int .i64 f.len) ∧ wx.cell? ⟨gb, 1, none⟩ = some (.int .i64 f.slack) ∧ wx.cell? ⟨gb, 2, none⟩ = some (.slice ja sl jc) ∧ wx.cell? ⟨gb, 3, none⟩ = some (.slice ka pl kc) ∧ wx.cell? ⟨gb, 4, none⟩ = some (.slice la cl lc)) ∧ gb < wx.heap.size ∧ v4.heap.size ≤ gb ∧ Below v4.heap.size v4 wx ∧ (∀ W', Below wx.heap.size wx W' → PAt W' ja sl jc ka pl kc la cl lc (f.stocked k (m + 1))))
      case first =>
        go_region_held3 (fun w' => Below v4.heap.size v4 w' ∧ ∀ b o, b < v4.heap.size → w'.cell? ⟨b, o, none⟩ = v4.cell? ⟨b, o, none⟩) (first | with_reducible assumption | ((repeat (first | with_reducible refine bothS_drew ?_ | with_reducible refine bothS_alloc _ ?_ | with_reducible refine bothS_set _ _ (by first | omega | (simp; omega) | simp) ?_)); first | with_reducible assumption | with_reducible exact Hid.out (by assumption) | with_reducible exact ⟨Below.refl _ _, fun _ _ _ => rfl⟩)) (first
          | (go_at_call 66; with_reducible refine (HX5.out _ ?_).mono ?_; (first | with_reducible assumption | ((repeat (first | with_reducible refine bothS_drew ?_ | with_reducible refine bothS_alloc _ ?_ | with_reducible refine bothS_set _ _ (by first | omega | (simp; omega) | simp) ?_)); first | with_reducible assumption | with_reducible exact Hid.out (by assumption) | with_reducible exact ⟨Below.refl _ _, fun _ _ _ => rfl⟩)); rintro e w' ⟨⟨ja, jc, ka, kc, la, lc, rfl, hK2⟩, k, k1, k2, k3⟩; have HK' := Lib.hid k; (try simp at k3); (try have k6 := Nat.lt_of_succ_le k3); (try have k7 := Nat.lt_of_succ_lt k6))
          | fail "no arm")
        all_goals (go_wp2_with fail; go_meet)
        all_goals refine ⟨_, _, _, _, _, _, _, rfl, ?_, ?_, ?_, And.left (by assumption), fun W' h => hK2 W' (KeepsUp.trans (by repeat (first | with_reducible exact KeepsUp.refl _ _ | (with_reducible refine KeepsUp.set ?_ (by first | exact .inl (by first | omega | (simp; done) | (simp; omega)) | exact .inr (by first | omega | (simp; done) | (simp; omega))) _) | with_reducible refine KeepsUp.alloc _ ?_ | with_reducible refine KeepsUp.drew ?_)) (KeepsUp.below h))⟩
        all_goals first | (refine ⟨?_, ?_, ?_, ?_, ?_⟩ <;> (go_simp; done)) | (with_reducible refine set5 _ _ _ _ _ ?_ ?_ ?_ ?_ ?_ <;> (go_simp; done)) | skip
        all_goals first | omega | (simp; done) | (simp; omega) | skip
      case rest =>
      obtain ⟨gb5, ja, jc, ka, kc, la, lc, rfl, ⟨c5_0, c5_1, c5_2, c5_3, c5_4⟩, hlt5, hge5, hb5, hO2⟩ := hcut
      obtain ⟨v5, rfl⟩ : ∃ v5 : World, v5 = wc := ⟨_, rfl⟩
      have hB5_0 : Below W0.heap.size W0 v5 := below_via (Lib.hid hb5) (by first | omega | (simp; done) | (simp; omega)) (by repeat (first | exact Below.refl _ _ | with_reducible exact HB4.out | (refine Below.alloc ?_ (by first | omega | (simp; omega) | simp) _) | (refine Below.setCell ?_ (by first | omega | (simp; omega) | simp) _) | refine Below.drew ?_))
      have hB5_1 : Below v2.heap.size v2 v5 := below_via (Lib.hid hb5) (by first | omega | (simp; done) | (simp; omega)) (by repeat (first | exact Below.refl _ _ | with_reducible exact HC4.out | (refine Below.alloc ?_ (by first | omega | (simp; omega) | simp) _) | (refine Below.setCell ?_ (by first | omega | (simp; omega) | simp) _) | refine Below.drew ?_))
      have z5 := hb5.size
      (try simp at z5)
      obtain ⟨g5_0, g5_1, g5_2, g5_3, g5_4, g5_5, g5_6, g5_7, g5_8, g5_9, g5_10⟩ : v5.cell? ⟨w.heap.size, 0, none⟩ = some (.int .i64 f.len) ∧ v5.cell? ⟨w.heap.size, 1, none⟩ = some (.int .i64 f.slack) ∧ v5.cell? ⟨w.heap.size, 2, none⟩ = some (.slice (some ⟨sb, so, none⟩) sl sc) ∧ v5.cell? ⟨w.heap.size, 3, none⟩ = some (.slice pa pl pc) ∧ v5.cell? ⟨w.heap.size, 4, none⟩ = some (.slice ca cl cc) ∧ v5.cell? ⟨sb, so + k * 2 + 1, none⟩ = some (.int .i64 m) ∧ v5.cell? ⟨v2.heap.size, 0, none⟩ = some (.int .i64 f.len) ∧ v5.cell? ⟨v2.heap.size, 1, none⟩ = some (.int .i64 slack) ∧ v5.cell? ⟨v2.heap.size, 2, none⟩ = some (.slice ga sl gc) ∧ v5.cell? ⟨v2.heap.size, 3, none⟩ = some (.slice ha pl hc) ∧ v5.cell? ⟨v2.heap.size, 4, none⟩ = some (.slice ia cl ic) :=
        ⟨(hb5.cell (p := ⟨w.heap.size, 0, none⟩) (by first | omega | (simp; done) | (simp; omega))).trans (by first | (go_simp; done) | (go_simp; exact set_same (u := .int .i64 0) (by go_simp; done))), (hb5.cell (p := ⟨w.heap.size, 1, none⟩) (by first | omega | (simp; done) | (simp; omega))).trans (by first | (go_simp; done) | (go_simp; exact set_same (u := .int .i64 0) (by go_simp; done))), (hb5.cell (p := ⟨w.heap.size, 2, none⟩) (by first | omega | (simp; done) | (simp; omega))).trans (by first | (go_simp; done) | (go_simp; exact set_same (u := .int .i64 0) (by go_simp; done))), (hb5.cell (p := ⟨w.heap.size, 3, none⟩) (by first | omega | (simp; done) | (simp; omega))).trans (by first | (go_simp; done) | (go_simp; exact set_same (u := .int .i64 0) (by go_simp; done))), (hb5.cell (p := ⟨w.heap.size, 4, none⟩) (by first | omega | (simp; done) | (simp; omega))).trans (by first | (go_simp; done) | (go_simp; exact set_same (u := .int .i64 0) (by go_simp; done))), (hb5.cell (p := ⟨sb, so + k * 2 + 1, none⟩) (by first | omega | (simp; done) | (simp; omega))).trans (by first | (go_simp; done) | (go_simp; exact set_same (u := .int .i64 0) (by go_simp; done))), (hb5.cell (p := ⟨v2.heap.size, 0, none⟩) (by first | omega | (simp; done) | (simp; omega))).trans (by first | (go_simp; done) | (go_simp; exact set_same (u := .int .i64 0) (by go_simp; done))), (hb5.cell (p := ⟨v2.heap.size, 1, none⟩) (by first | omega | (simp; done) | (simp; omega))).trans (by first | (go_simp; done) | (go_simp; exact set_same (u := .int .i64 0) (by go_simp; done))), (hb5.cell (p := ⟨v2.heap.size, 2, none⟩) (by first | omega | (simp; done) | (simp; omega))).trans (by first | (go_simp; done) | (go_simp; exact set_same (u := .int .i64 0) (by go_simp; done))), (hb5.cell (p := ⟨v2.heap.size, 3, none⟩) (by first | omega | (simp; done) | (simp; omega))).trans (by first | (go_simp; done) | (go_simp; exact set_same (u := .int .i64 0) (by go_simp; done))), (hb5.cell (p := ⟨v2.heap.size, 4, none⟩) (by first | omega | (simp; done) | (simp; omega))).trans (by first | (go_simp; done) | (go_simp; exact set_same (u := .int .i64 0) (by go_simp; done)))⟩
      have q5_0 : w.heap.size < v5.heap.size := by first | omega | (simp at *; omega)
      have q5_1 : sb < v5.heap.size := by first | omega | (simp at *; omega)
      have q5_2 : v2.heap.size < v5.heap.size := by first | omega | (simp at *; omega)
      have HB5 := Lib.hid hB5_0
      have HC5 := Lib.hid hB5_1
      have y5 := hB5_0.size
      clear hb5 hB5_0 hB5_1 g4_0 g4_1 g4_2 g4_3 g4_4 g4_5 g4_6 g4_7 g4_8 g4_9 g4_10 q4_0 q4_1 q4_2
      have g5_11 := c5_0
      have g5_12 := c5_1
      have g5_13 := c5_2
      have g5_14 := c5_3
      have g5_15 := c5_4
      have q5_3 : gb5 < v5.heap.size := hlt5
      clear c5_0 c5_1 c5_2 c5_3 c5_4
      clear HX5
      have HO2 := Lib.hid hO2
      clear hO2
      have HR3 := Lib.hid (fun W (h : Below v5.heap.size v5 W) => show Calls Try.prog 48 #[.agg #[.int .i64 f.len, .int .i64 f.slack, .slice ja sl jc, .slice ka pl kc, .slice la cl lc]] W fun e w' => e = .returned (.bool true) ∧ Below W.heap.size W w' from ready_is (f.stocked k (m + 1)) ja sl jc ka pl kc la cl lc true hk2 W (HO2.out W h))
      go_wp2_with fail
      refine (HR3.out _ (by repeat (first | exact Below.refl _ _ | (refine Below.alloc ?_ (by first | omega | (simp; omega) | simp) _) | (refine Below.setCell ?_ (by first | omega | (simp; omega) | simp) _) | refine Below.drew ?_))).mono ?_
      rintro e v6 ⟨rfl, hb6⟩
      have hB6_0 : Below W0.heap.size W0 v6 := below_via (Lib.hid hb6) (by first | omega | (simp; done) | (simp; omega)) (by repeat (first | exact Below.refl _ _ | with_reducible exact HB5.out | (refine Below.alloc ?_ (by first | omega | (simp; omega) | simp) _) | (refine Below.setCell ?_ (by first | omega | (simp; omega) | simp) _) | refine Below.drew ?_))
      have hB6_1 : Below v2.heap.size v2 v6 := below_via (Lib.hid hb6) (by first | omega | (simp; done) | (simp; omega)) (by repeat (first | exact Below.refl _ _ | with_reducible exact HC5.out | (refine Below.alloc ?_ (by first | omega | (simp; omega) | simp) _) | (refine Below.setCell ?_ (by first | omega | (simp; omega) | simp) _) | refine Below.drew ?_))
      have hB6_2 : Below v5.heap.size v5 v6 := below_via (Lib.hid hb6) (by first | omega | (simp; done) | (simp; omega)) (by repeat (first | exact Below.refl _ _ | (refine Below.alloc ?_ (by first | omega | (simp; omega) | simp) _) | (refine Below.setCell ?_ (by first | omega | (simp; omega) | simp) _) | refine Below.drew ?_))
      have z6 := hb6.size
      (try simp at z6)
      obtain ⟨g6_0, g6_1, g6_2, g6_3, g6_4, g6_5, g6_6, g6_7, g6_8, g6_9, g6_10, g6_11, g6_12, g6_13, g6_14, g6_15⟩ : v6.cell? ⟨w.heap.size, 0, none⟩ = some (.int .i64 f.len) ∧ v6.cell? ⟨w.heap.size, 1, none⟩ = some (.int .i64 f.slack) ∧ v6.cell? ⟨w.heap.size, 2, none⟩ = some (.slice (some ⟨sb, so, none⟩) sl sc) ∧ v6.cell? ⟨w.heap.size, 3, none⟩ = some (.slice pa pl pc) ∧ v6.cell? ⟨w.heap.size, 4, none⟩ = some (.slice ca cl cc) ∧ v6.cell? ⟨sb, so + k * 2 + 1, none⟩ = some (.int .i64 m) ∧ v6.cell? ⟨v2.heap.size, 0, none⟩ = some (.int .i64 f.len) ∧ v6.cell? ⟨v2.heap.size, 1, none⟩ = some (.int .i64 slack) ∧ v6.cell? ⟨v2.heap.size, 2, none⟩ = some (.slice ga sl gc) ∧ v6.cell? ⟨v2.heap.size, 3, none⟩ = some (.slice ha pl hc) ∧ v6.cell? ⟨v2.heap.size, 4, none⟩ = some (.slice ia cl ic) ∧ v6.cell? ⟨gb5, 0, none⟩ = some (.int .i64 f.len) ∧ v6.cell? ⟨gb5, 1, none⟩ = some (.int .i64 f.slack) ∧ v6.cell? ⟨gb5, 2, none⟩ = some (.slice ja sl jc) ∧ v6.cell? ⟨gb5, 3, none⟩ = some (.slice ka pl kc) ∧ v6.cell? ⟨gb5, 4, none⟩ = some (.slice la cl lc) :=
        ⟨(hb6.cell (p := ⟨w.heap.size, 0, none⟩) (by first | omega | (simp; done) | (simp; omega))).trans (by first | (go_simp; done) | (go_simp; exact set_same (u := .int .i64 0) (by go_simp; done))), (hb6.cell (p := ⟨w.heap.size, 1, none⟩) (by first | omega | (simp; done) | (simp; omega))).trans (by first | (go_simp; done) | (go_simp; exact set_same (u := .int .i64 0) (by go_simp; done))), (hb6.cell (p := ⟨w.heap.size, 2, none⟩) (by first | omega | (simp; done) | (simp; omega))).trans (by first | (go_simp; done) | (go_simp; exact set_same (u := .int .i64 0) (by go_simp; done))), (hb6.cell (p := ⟨w.heap.size, 3, none⟩) (by first | omega | (simp; done) | (simp; omega))).trans (by first | (go_simp; done) | (go_simp; exact set_same (u := .int .i64 0) (by go_simp; done))), (hb6.cell (p := ⟨w.heap.size, 4, none⟩) (by first | omega | (simp; done) | (simp; omega))).trans (by first | (go_simp; done) | (go_simp; exact set_same (u := .int .i64 0) (by go_simp; done))), (hb6.cell (p := ⟨sb, so + k * 2 + 1, none⟩) (by first | omega | (simp; done) | (simp; omega))).trans (by first | (go_simp; done) | (go_simp; exact set_same (u := .int .i64 0) (by go_simp; done))), (hb6.cell (p := ⟨v2.heap.size, 0, none⟩) (by first | omega | (simp; done) | (simp; omega))).trans (by first | (go_simp; done) | (go_simp; exact set_same (u := .int .i64 0) (by go_simp; done))), (hb6.cell (p := ⟨v2.heap.size, 1, none⟩) (by first | omega | (simp; done) | (simp; omega))).trans (by first | (go_simp; done) | (go_simp; exact set_same (u := .int .i64 0) (by go_simp; done))), (hb6.cell (p := ⟨v2.heap.size, 2, none⟩) (by first | omega | (simp; done) | (simp; omega))).trans (by first | (go_simp; done) | (go_simp; exact set_same (u := .int .i64 0) (by go_simp; done))), (hb6.cell (p := ⟨v2.heap.size, 3, none⟩) (by first | omega | (simp; done) | (simp; omega))).trans (by first | (go_simp; done) | (go_simp; exact set_same (u := .int .i64 0) (by go_simp; done))), (hb6.cell (p := ⟨v2.heap.size, 4, none⟩) (by first | omega | (simp; done) | (simp; omega))).trans (by first | (go_simp; done) | (go_simp; exact set_same (u := .int .i64 0) (by go_simp; done))), (hb6.cell (p := ⟨gb5, 0, none⟩) (by first | omega | (simp; done) | (simp; omega))).trans (by first | (go_simp; done) | (go_simp; exact set_same (u := .int .i64 0) (by go_simp; done))), (hb6.cell (p := ⟨gb5, 1, none⟩) (by first | omega | (simp; done) | (simp; omega))).trans (by first | (go_simp; done) | (go_simp; exact set_same (u := .int .i64 0) (by go_simp; done))), (hb6.cell (p := ⟨gb5, 2, none⟩) (by first | omega | (simp; done) | (simp; omega))).trans (by first | (go_simp; done) | (go_simp; exact set_same (u := .int .i64 0) (by go_simp; done))), (hb6.cell (p := ⟨gb5, 3, none⟩) (by first | omega | (simp; done) | (simp; omega))).trans (by first | (go_simp; done) | (go_simp; exact set_same (u := .int .i64 0) (by go_simp; done))), (hb6.cell (p := ⟨gb5, 4, none⟩) (by first | omega | (simp; done) | (simp; omega))).trans (by first | (go_simp; done) | (go_simp; exact set_same (u := .int .i64 0) (by go_simp; done)))⟩
      have q6_0 : w.heap.size < v6.heap.size := by first | omega | (simp at *; omega)
      have q6_1 : sb < v6.heap.size := by first | omega | (simp at *; omega)
      have q6_2 : v2.heap.size < v6.heap.size := by first | omega | (simp at *; omega)
      have q6_3 : gb5 < v6.heap.size := by first | omega | (simp at *; omega)
      have HB6 := Lib.hid hB6_0
      have HC6 := Lib.hid hB6_1
      have HD6 := Lib.hid hB6_2
      have y6 := hB6_0.size
      clear hb6 hB6_0 hB6_1 hB6_2 g5_0 g5_1 g5_2 g5_3 g5_4 g5_5 g5_6 g5_7 g5_8 g5_9 g5_10 g5_11 g5_12 g5_13 g5_14 g5_15 q5_0 q5_1 q5_2 q5_3
      have HBF := Lib.hid (fun W (h : Below v5.heap.size v5 W) (h' : Below w.heap.size w W) => show Calls Try.prog 65 #[.agg #[.int .i64 f.len, .int .i64 f.slack, .slice ja sl jc, .slice ka pl kc, .slice la cl lc], .agg #[.int .i64 f.len, .int .i64 f.slack, .slice (some ⟨sb, so, none⟩) sl sc, .slice pa pl pc, .slice ca cl cc]] W fun e w' => e = .returned (.bool true) ∧ Below W.heap.size W w' from better_any (f.stocked k (m + 1)) f ja sl jc ka pl kc la cl lc (some ⟨sb, so, none⟩) sl sc pa pl pc ca cl cc hko ho hmore W (HO2.out W h) (HPP.out W h'))
      go_wp2_with fail
      refine (HBF.out _ (by repeat (first | exact Below.refl _ _ | with_reducible exact HD6.out | (refine Below.alloc ?_ (by first | omega | (simp; omega) | simp) _) | (refine Below.setCell ?_ (by first | omega | (simp; omega) | simp) _) | refine Below.drew ?_)) (HBW.out.trans (Below.mono (by repeat (first | exact Below.refl _ _ | with_reducible exact HB6.out | (refine Below.alloc ?_ (by first | omega | (simp; omega) | simp) _) | (refine Below.setCell ?_ (by first | omega | (simp; omega) | simp) _) | refine Below.drew ?_)) HBW.out.size))).mono ?_
      rintro e v7 ⟨rfl, hb7⟩
      have hB7_0 : Below W0.heap.size W0 v7 := below_via (Lib.hid hb7) (by first | omega | (simp; done) | (simp; omega)) (by repeat (first | exact Below.refl _ _ | with_reducible exact HB6.out | (refine Below.alloc ?_ (by first | omega | (simp; omega) | simp) _) | (refine Below.setCell ?_ (by first | omega | (simp; omega) | simp) _) | refine Below.drew ?_))
      have hB7_1 : Below v2.heap.size v2 v7 := below_via (Lib.hid hb7) (by first | omega | (simp; done) | (simp; omega)) (by repeat (first | exact Below.refl _ _ | with_reducible exact HC6.out | (refine Below.alloc ?_ (by first | omega | (simp; omega) | simp) _) | (refine Below.setCell ?_ (by first | omega | (simp; omega) | simp) _) | refine Below.drew ?_))
      have hB7_2 : Below v5.heap.size v5 v7 := below_via (Lib.hid hb7) (by first | omega | (simp; done) | (simp; omega)) (by repeat (first | exact Below.refl _ _ | with_reducible exact HD6.out | (refine Below.alloc ?_ (by first | omega | (simp; omega) | simp) _) | (refine Below.setCell ?_ (by first | omega | (simp; omega) | simp) _) | refine Below.drew ?_))
      have z7 := hb7.size
      (try simp at z7)
      obtain ⟨g7_0, g7_1, g7_2, g7_3, g7_4, g7_5, g7_6, g7_7, g7_8, g7_9, g7_10, g7_11, g7_12, g7_13, g7_14, g7_15⟩ : v7.cell? ⟨w.heap.size, 0, none⟩ = some (.int .i64 f.len) ∧ v7.cell? ⟨w.heap.size, 1, none⟩ = some (.int .i64 f.slack) ∧ v7.cell? ⟨w.heap.size, 2, none⟩ = some (.slice (some ⟨sb, so, none⟩) sl sc) ∧ v7.cell? ⟨w.heap.size, 3, none⟩ = some (.slice pa pl pc) ∧ v7.cell? ⟨w.heap.size, 4, none⟩ = some (.slice ca cl cc) ∧ v7.cell? ⟨sb, so + k * 2 + 1, none⟩ = some (.int .i64 m) ∧ v7.cell? ⟨v2.heap.size, 0, none⟩ = some (.int .i64 f.len) ∧ v7.cell? ⟨v2.heap.size, 1, none⟩ = some (.int .i64 slack) ∧ v7.cell? ⟨v2.heap.size, 2, none⟩ = some (.slice ga sl gc) ∧ v7.cell? ⟨v2.heap.size, 3, none⟩ = some (.slice ha pl hc) ∧ v7.cell? ⟨v2.heap.size, 4, none⟩ = some (.slice ia cl ic) ∧ v7.cell? ⟨gb5, 0, none⟩ = some (.int .i64 f.len) ∧ v7.cell? ⟨gb5, 1, none⟩ = some (.int .i64 f.slack) ∧ v7.cell? ⟨gb5, 2, none⟩ = some (.slice ja sl jc) ∧ v7.cell? ⟨gb5, 3, none⟩ = some (.slice ka pl kc) ∧ v7.cell? ⟨gb5, 4, none⟩ = some (.slice la cl lc) :=
        ⟨(hb7.cell (p := ⟨w.heap.size, 0, none⟩) (by first | omega | (simp; done) | (simp; omega))).trans (by first | (go_simp; done) | (go_simp; exact set_same (u := .int .i64 0) (by go_simp; done))), (hb7.cell (p := ⟨w.heap.size, 1, none⟩) (by first | omega | (simp; done) | (simp; omega))).trans (by first | (go_simp; done) | (go_simp; exact set_same (u := .int .i64 0) (by go_simp; done))), (hb7.cell (p := ⟨w.heap.size, 2, none⟩) (by first | omega | (simp; done) | (simp; omega))).trans (by first | (go_simp; done) | (go_simp; exact set_same (u := .int .i64 0) (by go_simp; done))), (hb7.cell (p := ⟨w.heap.size, 3, none⟩) (by first | omega | (simp; done) | (simp; omega))).trans (by first | (go_simp; done) | (go_simp; exact set_same (u := .int .i64 0) (by go_simp; done))), (hb7.cell (p := ⟨w.heap.size, 4, none⟩) (by first | omega | (simp; done) | (simp; omega))).trans (by first | (go_simp; done) | (go_simp; exact set_same (u := .int .i64 0) (by go_simp; done))), (hb7.cell (p := ⟨sb, so + k * 2 + 1, none⟩) (by first | omega | (simp; done) | (simp; omega))).trans (by first | (go_simp; done) | (go_simp; exact set_same (u := .int .i64 0) (by go_simp; done))), (hb7.cell (p := ⟨v2.heap.size, 0, none⟩) (by first | omega | (simp; done) | (simp; omega))).trans (by first | (go_simp; done) | (go_simp; exact set_same (u := .int .i64 0) (by go_simp; done))), (hb7.cell (p := ⟨v2.heap.size, 1, none⟩) (by first | omega | (simp; done) | (simp; omega))).trans (by first | (go_simp; done) | (go_simp; exact set_same (u := .int .i64 0) (by go_simp; done))), (hb7.cell (p := ⟨v2.heap.size, 2, none⟩) (by first | omega | (simp; done) | (simp; omega))).trans (by first | (go_simp; done) | (go_simp; exact set_same (u := .int .i64 0) (by go_simp; done))), (hb7.cell (p := ⟨v2.heap.size, 3, none⟩) (by first | omega | (simp; done) | (simp; omega))).trans (by first | (go_simp; done) | (go_simp; exact set_same (u := .int .i64 0) (by go_simp; done))), (hb7.cell (p := ⟨v2.heap.size, 4, none⟩) (by first | omega | (simp; done) | (simp; omega))).trans (by first | (go_simp; done) | (go_simp; exact set_same (u := .int .i64 0) (by go_simp; done))), (hb7.cell (p := ⟨gb5, 0, none⟩) (by first | omega | (simp; done) | (simp; omega))).trans (by first | (go_simp; done) | (go_simp; exact set_same (u := .int .i64 0) (by go_simp; done))), (hb7.cell (p := ⟨gb5, 1, none⟩) (by first | omega | (simp; done) | (simp; omega))).trans (by first | (go_simp; done) | (go_simp; exact set_same (u := .int .i64 0) (by go_simp; done))), (hb7.cell (p := ⟨gb5, 2, none⟩) (by first | omega | (simp; done) | (simp; omega))).trans (by first | (go_simp; done) | (go_simp; exact set_same (u := .int .i64 0) (by go_simp; done))), (hb7.cell (p := ⟨gb5, 3, none⟩) (by first | omega | (simp; done) | (simp; omega))).trans (by first | (go_simp; done) | (go_simp; exact set_same (u := .int .i64 0) (by go_simp; done))), (hb7.cell (p := ⟨gb5, 4, none⟩) (by first | omega | (simp; done) | (simp; omega))).trans (by first | (go_simp; done) | (go_simp; exact set_same (u := .int .i64 0) (by go_simp; done)))⟩
      have q7_0 : w.heap.size < v7.heap.size := by first | omega | (simp at *; omega)
      have q7_1 : sb < v7.heap.size := by first | omega | (simp at *; omega)
      have q7_2 : v2.heap.size < v7.heap.size := by first | omega | (simp at *; omega)
      have q7_3 : gb5 < v7.heap.size := by first | omega | (simp at *; omega)
      have HB7 := Lib.hid hB7_0
      have HC7 := Lib.hid hB7_1
      have HD7 := Lib.hid hB7_2
      have y7 := hB7_0.size
      clear hb7 hB7_0 hB7_1 hB7_2 g6_0 g6_1 g6_2 g6_3 g6_4 g6_5 g6_6 g6_7 g6_8 g6_9 g6_10 g6_11 g6_12 g6_13 g6_14 g6_15 q6_0 q6_1 q6_2 q6_3
      go_wp2_with fail
      refine (HK.out _).mono ?_
      rintro e v8 ⟨rfl, hb8⟩
      have hB8_0 : Below W0.heap.size W0 v8 := below_via (Lib.hid hb8) (by first | omega | (simp; done) | (simp; omega)) (by repeat (first | exact Below.refl _ _ | with_reducible exact HB7.out | (refine Below.alloc ?_ (by first | omega | (simp; omega) | simp) _) | (refine Below.setCell ?_ (by first | omega | (simp; omega) | simp) _) | refine Below.drew ?_))
      have hB8_1 : Below v2.heap.size v2 v8 := below_via (Lib.hid hb8) (by first | omega | (simp; done) | (simp; omega)) (by repeat (first | exact Below.refl _ _ | with_reducible exact HC7.out | (refine Below.alloc ?_ (by first | omega | (simp; omega) | simp) _) | (refine Below.setCell ?_ (by first | omega | (simp; omega) | simp) _) | refine Below.drew ?_))
      have hB8_2 : Below v5.heap.size v5 v8 := below_via (Lib.hid hb8) (by first | omega | (simp; done) | (simp; omega)) (by repeat (first | exact Below.refl _ _ | with_reducible exact HD7.out | (refine Below.alloc ?_ (by first | omega | (simp; omega) | simp) _) | (refine Below.setCell ?_ (by first | omega | (simp; omega) | simp) _) | refine Below.drew ?_))
      have z8 := hb8.size
      (try simp at z8)
      have HB8 := Lib.hid hB8_0
      have HC8 := Lib.hid hB8_1
      have HD8 := Lib.hid hB8_2
      have y8 := hB8_0.size
      clear hb8 hB8_0 hB8_1 hB8_2 g7_0 g7_1 g7_2 g7_3 g7_4 g7_5 g7_6 g7_7 g7_8 g7_9 g7_10 g7_11 g7_12 g7_13 g7_14 g7_15 q7_0 q7_1 q7_2 q7_3
      go_wp2_with fail
      go_ret
      exact ⟨rfl, HBW.out.trans (Below.mono (by repeat (first | exact Below.refl _ _ | with_reducible exact HB8.out | (refine Below.alloc ?_ (by first | omega | (simp; omega) | simp) _) | (refine Below.setCell ?_ (by first | omega | (simp; omega) | simp) _) | refine Below.drew ?_)) HBW.out.size)⟩

set_option maxRecDepth 100000 in
set_option maxHeartbeats 8000000 in
theorem PagesMore_any (f : PFrame) (sa : Option Addr) (sl sc : Nat) (pa : Option Addr) (pl pc : Nat) (ca : Option Addr) (cl cc : Nat) (kind slack : Int) (w : World) (hp : PAt w sa sl sc pa pl pc ca cl cc f) :
    Calls Try.prog 11 #[.agg #[.int .i64 f.len, .int .i64 f.slack, .slice sa sl sc, .slice pa pl pc, .slice ca cl cc], .int .i64 kind, .int .i64 slack] w fun e w' => e = .returned (.bool true) ∧ Below w.heap.size w w' := by
  rcases hr : f.ready with - | -
  · have HR1 := Lib.hid (fun W (h : Below w.heap.size w W) => ready_is f sa sl sc pa pl pc ca cl cc false hr W (hp.below h))
    have HK := Lib.hid (fun W => works_any W)
    clear hr hp
    go_enter Try.func11, Try.ntmps11
    go_wp2_with fail
    obtain ⟨W0, hW0, hB0, ⟨g0_0, g0_1, g0_2, g0_3, g0_4⟩, hz0⟩ : ∃ W0, (w.alloc (.cells #[.int .i64 f.len, .int .i64 f.slack, .slice sa sl sc, .slice pa pl pc, .slice ca cl cc] 26)) = W0 ∧ Below w.heap.size w W0 ∧ (W0.cell? ⟨w.heap.size, 0, none⟩ = some (.int .i64 f.len) ∧ W0.cell? ⟨w.heap.size, 1, none⟩ = some (.int .i64 f.slack) ∧ W0.cell? ⟨w.heap.size, 2, none⟩ = some (.slice sa sl sc) ∧ W0.cell? ⟨w.heap.size, 3, none⟩ = some (.slice pa pl pc) ∧ W0.cell? ⟨w.heap.size, 4, none⟩ = some (.slice ca cl cc)) ∧ W0.heap.size = w.heap.size + 1 :=
      ⟨_, rfl, (by repeat (first | exact Below.refl _ _ | (refine Below.alloc ?_ (by first | omega | (simp; omega) | simp) _) | (refine Below.setCell ?_ (by first | omega | (simp; omega) | simp) _) | refine Below.drew ?_)), ⟨by go_simp, by go_simp, by go_simp, by go_simp, by go_simp⟩, by simp⟩
    rw [hW0]
    clear hW0
    have HBW := Lib.hid hB0
    have q0_0 : w.heap.size < W0.heap.size := by omega
    clear hB0 hz0
    go_wp2_with fail
    refine (HR1.out _ (HBW.out.trans (Below.mono (by repeat (first | exact Below.refl _ _ | (refine Below.alloc ?_ (by first | omega | (simp; omega) | simp) _) | (refine Below.setCell ?_ (by first | omega | (simp; omega) | simp) _) | refine Below.drew ?_)) HBW.out.size))).mono ?_
    rintro e v1 ⟨rfl, hb1⟩
    have hB1_0 : Below W0.heap.size W0 v1 := below_via (Lib.hid hb1) (by first | omega | (simp; done) | (simp; omega)) (by repeat (first | exact Below.refl _ _ | (refine Below.alloc ?_ (by first | omega | (simp; omega) | simp) _) | (refine Below.setCell ?_ (by first | omega | (simp; omega) | simp) _) | refine Below.drew ?_))
    have z1 := hb1.size
    (try simp at z1)
    obtain ⟨g1_0, g1_1, g1_2, g1_3, g1_4⟩ : v1.cell? ⟨w.heap.size, 0, none⟩ = some (.int .i64 f.len) ∧ v1.cell? ⟨w.heap.size, 1, none⟩ = some (.int .i64 f.slack) ∧ v1.cell? ⟨w.heap.size, 2, none⟩ = some (.slice sa sl sc) ∧ v1.cell? ⟨w.heap.size, 3, none⟩ = some (.slice pa pl pc) ∧ v1.cell? ⟨w.heap.size, 4, none⟩ = some (.slice ca cl cc) :=
      ⟨(hb1.cell (p := ⟨w.heap.size, 0, none⟩) (by first | omega | (simp; done) | (simp; omega))).trans (by first | (go_simp; done) | (go_simp; exact set_same (u := .int .i64 0) (by go_simp; done))), (hb1.cell (p := ⟨w.heap.size, 1, none⟩) (by first | omega | (simp; done) | (simp; omega))).trans (by first | (go_simp; done) | (go_simp; exact set_same (u := .int .i64 0) (by go_simp; done))), (hb1.cell (p := ⟨w.heap.size, 2, none⟩) (by first | omega | (simp; done) | (simp; omega))).trans (by first | (go_simp; done) | (go_simp; exact set_same (u := .int .i64 0) (by go_simp; done))), (hb1.cell (p := ⟨w.heap.size, 3, none⟩) (by first | omega | (simp; done) | (simp; omega))).trans (by first | (go_simp; done) | (go_simp; exact set_same (u := .int .i64 0) (by go_simp; done))), (hb1.cell (p := ⟨w.heap.size, 4, none⟩) (by first | omega | (simp; done) | (simp; omega))).trans (by first | (go_simp; done) | (go_simp; exact set_same (u := .int .i64 0) (by go_simp; done)))⟩
    have q1_0 : w.heap.size < v1.heap.size := by first | omega | (simp at *; omega)
    have HB1 := Lib.hid hB1_0
    have y1 := hB1_0.size
    clear hb1 hB1_0 g0_0 g0_1 g0_2 g0_3 g0_4 q0_0
    go_wp2_with fail
    refine (HK.out _).mono ?_
    rintro e v2 ⟨rfl, hb2⟩
    have hB2_0 : Below W0.heap.size W0 v2 := below_via (Lib.hid hb2) (by first | omega | (simp; done) | (simp; omega)) (by repeat (first | exact Below.refl _ _ | with_reducible exact HB1.out | (refine Below.alloc ?_ (by first | omega | (simp; omega) | simp) _) | (refine Below.setCell ?_ (by first | omega | (simp; omega) | simp) _) | refine Below.drew ?_))
    have z2 := hb2.size
    (try simp at z2)
    have HB2 := Lib.hid hB2_0
    have y2 := hB2_0.size
    clear hb2 hB2_0 g1_0 g1_1 g1_2 g1_3 g1_4 q1_0
    go_wp2_with fail
    go_ret
    exact ⟨rfl, HBW.out.trans (Below.mono (by repeat (first | exact Below.refl _ _ | with_reducible exact HB2.out | (refine Below.alloc ?_ (by first | omega | (simp; omega) | simp) _) | (refine Below.setCell ?_ (by first | omega | (simp; omega) | simp) _) | refine Below.drew ?_)) HBW.out.size)⟩
  · by_cases hs : slack ≤ f.slack
    · exact more_p1 f sa sl sc pa pl pc ca cl cc kind slack hr hs w hp
    · rcases hs2 : (f.slacked slack).ready with - | -
      · exact more_p2 f sa sl sc pa pl pc ca cl cc kind slack hr (by omega) hs2 w hp
      · exact more_p3 f sa sl sc pa pl pc ca cl cc kind slack hr (by omega) hs2 w hp
end Go.Proofs.Ytodlfmbfjnldiaa
