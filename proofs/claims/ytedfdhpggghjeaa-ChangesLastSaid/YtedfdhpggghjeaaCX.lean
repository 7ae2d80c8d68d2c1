/- Package changes: altered. -/
import Derived.Test.YtedfdhpggghjeaaCQ
namespace Go.Proofs.Ytedfdhpggghjeaa
set_option linter.unusedVariables false
set_option linter.unusedSimpArgs false
open Go.RowKit Go.Shelf

set_option maxRecDepth 100000 in
set_option maxHeartbeats 8000000 in
theorem altered_any (h : CHouse) (ta : Option Addr) (tl tc : Nat) (ma : Option Addr) (ml mc : Nat) (ho : h.okT = true) (xa : Option Addr) (xl xc : Nat) (xs : List Int) (c now : Int) (hin : ∀ y ∈ xs, 0 ≤ y ∧ y < (h.things.length : Int)) (hx8 : xl ≤ 8) (hm8 : ml ≤ 40) (w : World) (hp : HAt w ta tl tc ma ml mc h) (hx : IntsAt w xa xl xs) :
    Calls Try.prog 108 #[.agg #[.slice ta tl tc, .slice ma ml mc], .slice xa xl xc, .int .i64 c, .int .i64 now] w fun e w' => (∃ na nl nc, e = .returned (.agg #[.slice ta tl tc, .slice na nl nc]) ∧ HAt w' ta tl tc na nl nc (h.alter c now xs)) ∧ Below w.heap.size w w' := by
  obtain ⟨hxl, -, hxc⟩ := hx
  have htl := hp.1.1
  have hmc := hp.2.2
  have HTC := Lib.hid hp.1.2.2
  have HTA := Lib.hid (fun W (hb : Below w.heap.size w W) => hp.1.below hb)
  have HM0 := Lib.hid hp.2.1
  have HXC := Lib.hid hxc
  have HXL := Lib.hid hxl
  have HIN := Lib.hid (fun k (hk : k < xs.length) => hin _ (List.getElem_mem hk))
  have HMN := Lib.hid (fun k (hk : k < xs.length) => show h.marks ++ (xs.take (k + 1)).map (h.markOf c now) = (h.marks ++ (xs.take k).map (h.markOf c now)) ++ [h.markOf c now xs[k]] from by
    rw [List.take_succ_eq_append_getElem hk, List.map_append, List.append_assoc]; rfl)
  have HML := Lib.hid (fun k (hk : k ≤ xs.length) => show (h.marks ++ (xs.take k).map (h.markOf c now)).length = ml + k from by rw [List.length_append, hp.2.1.1, List.length_map, List.length_take]; omega)
  have HEND := Lib.hid (show h.alter c now xs = { h with marks := h.marks ++ (xs.take xl).map (h.markOf c now) } from by rw [alter_is, List.take_of_length_le (by omega)])
  clear hp hxc hin hxl
  go_enter Try.func108, Try.ntmps108
  go_wp2_with fail
  obtain ⟨W0, hW0, hB0, ⟨g0, g1, g2, g3⟩, ⟨e0, e1, e2, e3⟩, hz0⟩ : ∃ W0, (w.alloc (.cells #[.slice ta tl tc, .slice ma ml mc] 75)).alloc (.cells #[.slice none 0 0, .slice none 0 0] 75) = W0 ∧ Below w.heap.size w W0 ∧ (W0.cell? ⟨w.heap.size, 0, none⟩ = some (.slice ta tl tc) ∧ W0.cell? ⟨w.heap.size, 1, none⟩ = some (.slice ma ml mc) ∧ W0.frozen? ⟨w.heap.size, 0, none⟩ = false ∧ W0.frozen? ⟨w.heap.size, 1, none⟩ = false) ∧
      (W0.cell? ⟨w.heap.size + 1, 0, none⟩ = some (.slice none 0 0) ∧ W0.cell? ⟨w.heap.size + 1, 1, none⟩ = some (.slice none 0 0) ∧ W0.frozen? ⟨w.heap.size + 1, 0, none⟩ = false ∧ W0.frozen? ⟨w.heap.size + 1, 1, none⟩ = false) ∧ W0.heap.size = w.heap.size + 2 :=
    ⟨_, rfl, (by repeat (first | exact Below.refl _ _ | (refine Below.alloc ?_ (by first | omega | (simp; omega) | simp) _) | (refine Below.setCell ?_ (by first | omega | (simp; omega) | simp) _) | refine Below.drew ?_)), ⟨by go_simp, by go_simp, by go_simp, by go_simp⟩, ⟨by go_simp, by go_simp, by go_simp, by go_simp⟩, by simp⟩
  rw [hW0]
  clear hW0
  have HBW := Lib.hid hB0
  have HG := Lib.hid (And.intro g0 (And.intro g1 (And.intro g2 g3)))
  have HE := Lib.hid (And.intro e0 (And.intro e1 (And.intro e2 e3)))
  have HMS := Lib.hid (show MRow w.heap.size W0 ma ml (h.marks ++ (xs.take 0).map (h.markOf c now)) from by
    refine ⟨by simpa using HM0.out.below hB0, fun h0 ad e => .inl ?_⟩
    obtain ⟨b, o, e', hb, -⟩ := HM0.out.2.2 h0
    rw [e] at e'; injection e' with e'; rw [e']; exact hb)
  clear hB0 g0 g1 g2 g3 e0 e1 e2 e3
  go_loopw [14] (fun i wr => ∃ (k : Nat) (na : Option Addr) (nl nc : Nat), k ≤ xl ∧ i = .int .i64 k ∧ nl = ml + k ∧ (wr.cell? ⟨w.heap.size, 0, none⟩ = some (.slice ta tl tc) ∧ wr.cell? ⟨w.heap.size, 1, none⟩ = some (.slice na nl nc) ∧ wr.frozen? ⟨w.heap.size, 0, none⟩ = false ∧ wr.frozen? ⟨w.heap.size, 1, none⟩ = false) ∧
    (wr.cell? ⟨w.heap.size + 1, 0, none⟩ = some (.slice none 0 0) ∧ wr.cell? ⟨w.heap.size + 1, 1, none⟩ = some (.slice none 0 0) ∧ wr.frozen? ⟨w.heap.size + 1, 0, none⟩ = false ∧ wr.frozen? ⟨w.heap.size + 1, 1, none⟩ = false) ∧ MRow w.heap.size wr na nl (h.marks ++ (xs.take k).map (h.markOf c now)) ∧ (nl ≤ nc ∧ nc ≤ maxLen) ∧ w.heap.size + 1 < wr.heap.size ∧ Below w.heap.size W0 wr) (fun i _ => xl - (intOf i).toNat)
  case atStart => exact ⟨0, ma, ml, mc, by omega, rfl, rfl, HG.out, HE.out, HMS.out, hmc, by omega, Below.refl _ _⟩
  case round =>
    obtain ⟨k, na, nl, nc, hk, rfl, hnl, ⟨x0, x1, x2, x3⟩, hr4, hM, hcc, hz1, hB⟩ := hrel
    obtain ⟨W1, rfl⟩ : ∃ W1 : World, W1 = wr := ⟨_, rfl⟩
    have HB := Lib.hid hB
    have HR4 := Lib.hid hr4
    have HM := Lib.hid hM
    have hbw := HBW.out.trans hB
    have HW1 := Lib.hid hbw
    have hcm : nc ≤ 9223372036854775807 := by have := hcc.2; unfold maxLen at this; omega
    have hcl := hcc.1
    clear hB hr4 hM hcc
    by_cases hlt : k < xl
    · have hk2 : k < xs.length := by rw [HXL.out]; exact hlt
      obtain ⟨xb, xo, rfl, hxB, hxcell⟩ := HXC.out (by omega)
      have cx := (hbw.cell (p := ⟨xb, xo + k, none⟩) hxB).trans (hxcell k hk2)
      have hy := HIN.out k hk2
      have hMN := HMN.out k hk2
      clear hxcell
      generalize xs[k] = y at *
      obtain ⟨j, rfl⟩ : ∃ j : Nat, y = (j : Int) := ⟨y.toNat, by omega⟩
      have hj : j < h.things.length := by omega
      obtain ⟨tb, tz, rfl, htB, htcell⟩ := HTC.out (by omega)
      obtain ⟨-, d1, -⟩ := htcell j hj
      have ct := (hbw.cell (p := ⟨tb, tz + j * 4 + 1, none⟩) htB).trans d1
      have hmo : h.markOf c now (j : Int) = ⟨c, j, max now h.things[j].a⟩ := by
        unfold CHouse.markOf; rw [Int.toNat_natCast, List.getElem?_eq_getElem hj]; rfl
      rw [hmo] at hMN
      have HMK := Lib.hid hMN
      have hkl : (k : Int) < (xl : Int) := by omega
      have hk0 : (0 : Int) ≤ (k : Int) := by omega
      have hjl : (j : Int) < (tl : Int) := by omega
      have hj0 : (0 : Int) ≤ (j : Int) := by omega
      have hxW : xb < W1.heap.size := by have := hbw.size; omega
      have htW : tb < W1.heap.size := by have := hbw.size; omega
      have hwW : w.heap.size < W1.heap.size := by omega
      have hnl1 : nl ≤ 1000 := by omega
      have HNL := Lib.hid hnl
      clear htcell d1 hmo hMN hbw hnl
      generalize h.things[j].a = ta' at *
      generalize h.marks ++ (xs.take k).map (h.markOf c now) = ms at *
      go_upto_region 5 with fail
      obtain ⟨mx, hmx⟩ : ∃ mx, (if now < ta' then ta' else now) = mx := ⟨_, rfl⟩
      have hmx2 : max now ta' = mx := by rw [← hmx]; split <;> omega
      rw [hmx]
      have HMK2 := HMK
      rw [hmx2] at HMK2
      obtain ⟨V, hV, hbV, ⟨v0, v1, v2, v3⟩, ⟨m0, m1, m2⟩, hzV⟩ : ∃ V, W1.alloc (.cells #[.int .i64 c, .int .i64 j, .int .i64 mx] 52) = V ∧ Below W1.heap.size W1 V ∧ (V.cell? ⟨w.heap.size, 0, none⟩ = some (.slice (some ⟨tb, tz, none⟩) tl tc) ∧ V.cell? ⟨w.heap.size, 1, none⟩ = some (.slice na nl nc) ∧ V.frozen? ⟨w.heap.size, 0, none⟩ = false ∧ V.frozen? ⟨w.heap.size, 1, none⟩ = false) ∧ (V.cell? ⟨W1.heap.size, 0, none⟩ = some (.int .i64 c) ∧ V.cell? ⟨W1.heap.size, 1, none⟩ = some (.int .i64 j) ∧ V.cell? ⟨W1.heap.size, 2, none⟩ = some (.int .i64 mx)) ∧ W1.heap.size < V.heap.size :=
        ⟨_, rfl, (by repeat (first | exact Below.refl _ _ | (refine Below.alloc ?_ (by first | omega | (simp; omega) | simp) _) | (refine Below.setCell ?_ (by first | omega | (simp; omega) | simp) _) | refine Below.drew ?_)), ⟨by go_simp, by go_simp, by go_simp, by go_simp⟩, ⟨by go_simp, by go_simp, by go_simp⟩, by simp⟩
      rw [hV]
      have HBV := Lib.hid hbV
      have HMV := Lib.hid (HM.out.1.below hbV)
      have hwV : w.heap.size < V.heap.size := by omega
      clear hV hbV x0 x1 x2 x3 cx ct hmx hmx2 HMK
      have H1C := Lib.hid (show ∀ u ∈ CMark.cells ⟨c, j, mx⟩, u.oneCell' = true from fun u hu => by simp [CMark.cells] at hu; rcases hu with rfl | rfl | rfl <;> rfl)
      have hne12 : ¬ W1.heap.size = w.heap.size := by omega
      refine wp_region_noPanic ?_
      refine wp_region_held_drew (S := (fun w' => V.grownBy w' (some w.heap.size) ∧ ∀ b o, b < V.heap.size → ¬ b = w.heap.size → w'.cell? ⟨b, o, none⟩ = V.cell? ⟨b, o, none⟩)) (by kernel_rfl) ?_ (fun hHeld => ?_)
      · (first | with_reducible assumption | ((repeat (first | with_reducible refine gS_drew ?_ | with_reducible refine gS_alloc _ ?_ | with_reducible refine gS_set _ _ ?_)); first | with_reducible assumption | with_reducible exact gS_of (gbx_refl _ _)))
      refine takeH 0 ?_; (try simp only [Act.put, List.setIfInBounds_toArray, List.set_cons_zero, List.set_cons_succ])
      refine takeH 1 ?_; (try simp only [Act.put, List.setIfInBounds_toArray, List.set_cons_zero, List.set_cons_succ])
      refine takeH 3 ?_; (try simp only [Act.put, List.setIfInBounds_toArray, List.set_cons_zero, List.set_cons_succ])
      refine takeH 4 ?_; (try simp only [Act.put, List.setIfInBounds_toArray, List.set_cons_zero, List.set_cons_succ])
      refine takeH 7 ?_; (try simp only [Act.put, List.setIfInBounds_toArray, List.set_cons_zero, List.set_cons_succ])
      refine takeH 8 ?_; (try simp only [Act.put, List.setIfInBounds_toArray, List.set_cons_zero, List.set_cons_succ])
      refine takeH 12 ?_; (try simp only [Act.put, List.setIfInBounds_toArray, List.set_cons_zero, List.set_cons_succ])
      refine wpAnyH_ready (rs := [2, 5, 9, 13]) (by kernel_rfl) (by simp) ?_
      refine AllReadyH.cons (o := ?_) ?_ (fun K hK => ?_) ?_
      rotate_left 1
      · simp only [List.getElem?_toArray, List.getElem?_cons_succ, List.getElem?_cons_zero]; with_reducible rfl
      rotate_left 1
      refine AllReadyH.cons (o := ?_) ?_ (fun K hK => ?_) ?_
      rotate_left 1
      · simp only [List.getElem?_toArray, List.getElem?_cons_succ, List.getElem?_cons_zero]; with_reducible rfl
      rotate_left 1
      refine AllReadyH.cons (o := ?_) ?_ (fun K hK => ?_) ?_
      rotate_left 1
      · simp only [List.getElem?_toArray, List.getElem?_cons_succ, List.getElem?_cons_zero]; with_reducible rfl
      rotate_left 1
      refine AllReadyH.cons (o := ?_) ?_ (fun K hK => ?_) AllReadyH.nil
      rotate_left 1
      · simp only [List.getElem?_toArray, List.getElem?_cons_succ, List.getElem?_cons_zero]; with_reducible rfl
      rotate_left 1
      · go_simp; refine hK.out _ _ ?_ (fun hHeld => ?_); (· (first | with_reducible assumption | ((repeat (first | with_reducible refine gS_drew ?_ | with_reducible refine gS_alloc _ ?_ | with_reducible refine gS_set _ _ ?_)); first | with_reducible assumption | with_reducible exact gS_of (gbx_refl _ _)))); clear hK K; (try simp only [Act.put, List.setIfInBounds_toArray, List.set_cons_zero, List.set_cons_succ])
        refine wpAnyH_ready (rs := [5, 9, 13]) (by kernel_rfl) (by simp) ?_
        refine AllReadyH.cons (o := ?_) ?_ (fun K hK => ?_) ?_
        rotate_left 1
        · simp only [List.getElem?_toArray, List.getElem?_cons_succ, List.getElem?_cons_zero]; with_reducible rfl
        rotate_left 1
        refine AllReadyH.cons (o := ?_) ?_ (fun K hK => ?_) ?_
        rotate_left 1
        · simp only [List.getElem?_toArray, List.getElem?_cons_succ, List.getElem?_cons_zero]; with_reducible rfl
        rotate_left 1
        refine AllReadyH.cons (o := ?_) ?_ (fun K hK => ?_) AllReadyH.nil
        rotate_left 1
        · simp only [List.getElem?_toArray, List.getElem?_cons_succ, List.getElem?_cons_zero]; with_reducible rfl
        rotate_left 1
        · go_simp; refine hK.out _ _ ?_ (fun hHeld => ?_); (· (first | with_reducible assumption | ((repeat (first | with_reducible refine gS_drew ?_ | with_reducible refine gS_alloc _ ?_ | with_reducible refine gS_set _ _ ?_)); first | with_reducible assumption | with_reducible exact gS_of (gbx_refl _ _)))); clear hK K; (try simp only [Act.put, List.setIfInBounds_toArray, List.set_cons_zero, List.set_cons_succ])
          refine takeH 6 ?_; (try simp only [Act.put, List.setIfInBounds_toArray, List.set_cons_zero, List.set_cons_succ])
          refine wpAnyH_ready (rs := [9, 13]) (by kernel_rfl) (by simp) ?_
          refine AllReadyH.cons (o := ?_) ?_ (fun K hK => ?_) ?_
          rotate_left 1
          · simp only [List.getElem?_toArray, List.getElem?_cons_succ, List.getElem?_cons_zero]; with_reducible rfl
          rotate_left 1
          refine AllReadyH.cons (o := ?_) ?_ (fun K hK => ?_) AllReadyH.nil
          rotate_left 1
          · simp only [List.getElem?_toArray, List.getElem?_cons_succ, List.getElem?_cons_zero]; with_reducible rfl
          rotate_left 1
          · go_simp; refine hK.out _ _ ?_ (fun hHeld => ?_); (· (first | with_reducible assumption | ((repeat (first | with_reducible refine gS_drew ?_ | with_reducible refine gS_alloc _ ?_ | with_reducible refine gS_set _ _ ?_)); first | with_reducible assumption | with_reducible exact gS_of (gbx_refl _ _)))); clear hK K; (try simp only [Act.put, List.setIfInBounds_toArray, List.set_cons_zero, List.set_cons_succ])
            refine takeH 10 ?_; (try simp only [Act.put, List.setIfInBounds_toArray, List.set_cons_zero, List.set_cons_succ])
            refine takeH 11 ?_; (try simp only [Act.put, List.setIfInBounds_toArray, List.set_cons_zero, List.set_cons_succ])
            refine readyH 13 (fun K hK => ?_); go_simp; skip; refine hK.out _ _ ?_ (fun hHeld => ?_); (· (first | with_reducible assumption | ((repeat (first | with_reducible refine gS_drew ?_ | with_reducible refine gS_alloc _ ?_ | with_reducible refine gS_set _ _ ?_)); first | with_reducible assumption | with_reducible exact gS_of (gbx_refl _ _)))); clear hK K; (try simp only [Act.put, List.setIfInBounds_toArray, List.set_cons_zero, List.set_cons_succ])
            refine readyH 14 (fun K hK => ?_); ((with_reducible refine step_append_full _ 23 52 (.agg #[.int .i64 0, .int .i64 0, .int .i64 0]) 3 24 Try.underlying23 Try.info52 rfl (by decide) (by decide) na nl (ms.flatMap CMark.cells) (CMark.cells ⟨c, j, mx⟩) (marks_src HMV.out).1 hnl1 rfl H1C.out rfl _ _ rfl ?_ ?_ ?_ ?_); (· rfl); (· exact ⟨_, rfl, src3 (by go_simp) (by go_simp) (by go_simp)⟩); (· exact (marks_src (HMV.out.below (by repeat (first | exact Below.refl _ _ | (refine Below.alloc ?_ (by first | omega | (simp; omega) | simp) _) | (refine Below.setCell ?_ (by first | omega | (simp; omega) | simp) _) | refine Below.drew ?_)))).2); intro v' wB hown hgr; have hX : Below V.heap.size V wB := ((by repeat (first | exact Below.refl _ _ | (refine Below.alloc ?_ (by first | omega | (simp; omega) | simp) _) | (refine Below.setCell ?_ (by first | omega | (simp; omega) | simp) _) | refine Below.drew ?_)) : Below V.heap.size V _).trans (grown_low hgr (by first | omega | (simp; done) | (simp; omega)) (fun r e => by cases e)); have f0 := (hX.cell (p := ⟨w.heap.size, 0, none⟩) hwV).trans v0; have f1 := (hX.cell (p := ⟨w.heap.size, 1, none⟩) hwV).trans v1; have f2 := (hX.frozen (p := ⟨w.heap.size, 0, none⟩) hwV).trans v2; have f3 := (hX.frozen (p := ⟨w.heap.size, 1, none⟩) hwV).trans v3; have HX := Lib.hid hX; have hown2 : wB.ownsRow V.heap.size 52 3 v' (nl + 1) (ms.flatMap CMark.cells ++ CMark.cells ⟨c, j, mx⟩) := own_base2 hown (by first | omega | (simp; done) | (simp; omega)); rw [← flat_snoc] at hown2; obtain ⟨a2, c2, rfl, hm2, hc2⟩ := marks_own hown2; have HO2 := Lib.hid hown2; have HC2 := Lib.hid hc2; have hwB : w.heap.size < wB.heap.size := Nat.lt_of_lt_of_le hwV hX.size; have kS := gS_of (grow_gb HX.out (some w.heap.size)); clear hown hown2 hgr hX hm2 hc2); refine hK.out _ _ ?_ (fun hHeld => ?_); (· (first | with_reducible assumption | ((repeat (first | with_reducible refine gS_drew ?_ | with_reducible refine gS_alloc _ ?_ | with_reducible refine gS_set _ _ ?_)); first | with_reducible assumption | with_reducible exact gS_of (gbx_refl _ _)))); clear hK K; (try simp only [Act.put, List.setIfInBounds_toArray, List.set_cons_zero, List.set_cons_succ])
            refine takeH 15 ?_; (try simp only [Act.put, List.setIfInBounds_toArray, List.set_cons_zero, List.set_cons_succ])
            refine takeH 16 ?_; (try simp only [Act.put, List.setIfInBounds_toArray, List.set_cons_zero, List.set_cons_succ])
            refine readyH 17 (fun K hK => ?_); go_simp; skip; refine hK.out _ _ ?_ (fun hHeld => ?_); (· (first | with_reducible assumption | ((repeat (first | with_reducible refine gS_drew ?_ | with_reducible refine gS_alloc _ ?_ | with_reducible refine gS_set _ _ ?_)); first | with_reducible assumption | with_reducible exact gS_of (gbx_refl _ _)))); clear hK K; (try simp only [Act.put, List.setIfInBounds_toArray, List.set_cons_zero, List.set_cons_succ])
            refine wpAnyH_done (by kernel_rfl) ?_ _
            refine NoPanic.normal ?_
            go_wp2_with fail
            go_roundw
            case rel =>
              have hr := HR4.out
              have hz2 := HX.out.size
              have HBB := HBV.out.trans (HX.out.mono HBV.out.size)
              refine ⟨k + 1, a2, nl + 1, c2, by omega, by go_num, by have := HNL.out; omega, ⟨by go_simp, by go_simp, by go_simp, by go_simp⟩, ?_, ?_, HC2.out, by simp; omega, ?_⟩
              · have q0 := (HBB.cell (p := ⟨w.heap.size + 1, 0, none⟩) hz1).trans hr.1
                have q1 := (HBB.cell (p := ⟨w.heap.size + 1, 1, none⟩) hz1).trans hr.2.1
                have q2 := (HBB.frozen (p := ⟨w.heap.size + 1, 0, none⟩) hz1).trans hr.2.2.1
                have q3 := (HBB.frozen (p := ⟨w.heap.size + 1, 1, none⟩) hz1).trans hr.2.2.2
                exact ⟨by go_simp, by go_simp, by go_simp, by go_simp⟩
              · rw [HMK2.out]
                obtain ⟨a3, c3, e3, hm3, -⟩ := marks_own (HO2.out.kept (gbx_set (b := w.heap.size) (grow_gb (Below.refl _ _) _) 1 (.slice a2 (nl + 1) c2)) (Or.inr (fun e => by have := own_low HO2.out _ e; omega)))
                injection e3 with e3
                subst e3
                refine ⟨hm3, fun h0 ad e => .inr ?_⟩
                have := own_low HO2.out ad.block (by rw [e]; rfl)
                omega
              · have hBB := HB.out.trans (HBB.mono (by omega))
                exact (by repeat (first | assumption | exact Below.refl _ _ | (refine Below.alloc ?_ (by first | omega | (simp; omega) | simp) _) | (refine Below.setCell ?_ (by first | omega | (simp; omega) | simp) _) | refine Below.drew ?_))
            case measure => simp [intOf]; omega
          · go_simp; refine hK.out _ _ ?_ (fun hHeld => ?_); (· (first | with_reducible assumption | ((repeat (first | with_reducible refine gS_drew ?_ | with_reducible refine gS_alloc _ ?_ | with_reducible refine gS_set _ _ ?_)); first | with_reducible assumption | with_reducible exact gS_of (gbx_refl _ _)))); clear hK K; (try simp only [Act.put, List.setIfInBounds_toArray, List.set_cons_zero, List.set_cons_succ])
            refine readyH 9 (fun K hK => ?_); go_simp; skip; refine hK.out _ _ ?_ (fun hHeld => ?_); (· (first | with_reducible assumption | ((repeat (first | with_reducible refine gS_drew ?_ | with_reducible refine gS_alloc _ ?_ | with_reducible refine gS_set _ _ ?_)); first | with_reducible assumption | with_reducible exact gS_of (gbx_refl _ _)))); clear hK K; (try simp only [Act.put, List.setIfInBounds_toArray, List.set_cons_zero, List.set_cons_succ])
            refine takeH 10 ?_; (try simp only [Act.put, List.setIfInBounds_toArray, List.set_cons_zero, List.set_cons_succ])
            refine takeH 11 ?_; (try simp only [Act.put, List.setIfInBounds_toArray, List.set_cons_zero, List.set_cons_succ])
            refine readyH 14 (fun K hK => ?_); ((with_reducible refine step_append_full _ 23 52 (.agg #[.int .i64 0, .int .i64 0, .int .i64 0]) 3 24 Try.underlying23 Try.info52 rfl (by decide) (by decide) na nl (ms.flatMap CMark.cells) (CMark.cells ⟨c, j, mx⟩) (marks_src HMV.out).1 hnl1 rfl H1C.out rfl _ _ rfl ?_ ?_ ?_ ?_); (· rfl); (· exact ⟨_, rfl, src3 (by go_simp) (by go_simp) (by go_simp)⟩); (· exact (marks_src (HMV.out.below (by repeat (first | exact Below.refl _ _ | (refine Below.alloc ?_ (by first | omega | (simp; omega) | simp) _) | (refine Below.setCell ?_ (by first | omega | (simp; omega) | simp) _) | refine Below.drew ?_)))).2); intro v' wB hown hgr; have hX : Below V.heap.size V wB := ((by repeat (first | exact Below.refl _ _ | (refine Below.alloc ?_ (by first | omega | (simp; omega) | simp) _) | (refine Below.setCell ?_ (by first | omega | (simp; omega) | simp) _) | refine Below.drew ?_)) : Below V.heap.size V _).trans (grown_low hgr (by first | omega | (simp; done) | (simp; omega)) (fun r e => by cases e)); have f0 := (hX.cell (p := ⟨w.heap.size, 0, none⟩) hwV).trans v0; have f1 := (hX.cell (p := ⟨w.heap.size, 1, none⟩) hwV).trans v1; have f2 := (hX.frozen (p := ⟨w.heap.size, 0, none⟩) hwV).trans v2; have f3 := (hX.frozen (p := ⟨w.heap.size, 1, none⟩) hwV).trans v3; have HX := Lib.hid hX; have hown2 : wB.ownsRow V.heap.size 52 3 v' (nl + 1) (ms.flatMap CMark.cells ++ CMark.cells ⟨c, j, mx⟩) := own_base2 hown (by first | omega | (simp; done) | (simp; omega)); rw [← flat_snoc] at hown2; obtain ⟨a2, c2, rfl, hm2, hc2⟩ := marks_own hown2; have HO2 := Lib.hid hown2; have HC2 := Lib.hid hc2; have hwB : w.heap.size < wB.heap.size := Nat.lt_of_lt_of_le hwV hX.size; have kS := gS_of (grow_gb HX.out (some w.heap.size)); clear hown hown2 hgr hX hm2 hc2); refine hK.out _ _ ?_ (fun hHeld => ?_); (· (first | with_reducible assumption | ((repeat (first | with_reducible refine gS_drew ?_ | with_reducible refine gS_alloc _ ?_ | with_reducible refine gS_set _ _ ?_)); first | with_reducible assumption | with_reducible exact gS_of (gbx_refl _ _)))); clear hK K; (try simp only [Act.put, List.setIfInBounds_toArray, List.set_cons_zero, List.set_cons_succ])
            refine takeH 15 ?_; (try simp only [Act.put, List.setIfInBounds_toArray, List.set_cons_zero, List.set_cons_succ])
            refine takeH 16 ?_; (try simp only [Act.put, List.setIfInBounds_toArray, List.set_cons_zero, List.set_cons_succ])
            refine readyH 17 (fun K hK => ?_); go_simp; skip; refine hK.out _ _ ?_ (fun hHeld => ?_); (· (first | with_reducible assumption | ((repeat (first | with_reducible refine gS_drew ?_ | with_reducible refine gS_alloc _ ?_ | with_reducible refine gS_set _ _ ?_)); first | with_reducible assumption | with_reducible exact gS_of (gbx_refl _ _)))); clear hK K; (try simp only [Act.put, List.setIfInBounds_toArray, List.set_cons_zero, List.set_cons_succ])
            refine wpAnyH_done (by kernel_rfl) ?_ _
            refine NoPanic.normal ?_
            go_wp2_with fail
            go_roundw
            case rel =>
              have hr := HR4.out
              have hz2 := HX.out.size
              have HBB := HBV.out.trans (HX.out.mono HBV.out.size)
              refine ⟨k + 1, a2, nl + 1, c2, by omega, by go_num, by have := HNL.out; omega, ⟨by go_simp, by go_simp, by go_simp, by go_simp⟩, ?_, ?_, HC2.out, by simp; omega, ?_⟩
              · have q0 := (HBB.cell (p := ⟨w.heap.size + 1, 0, none⟩) hz1).trans hr.1
                have q1 := (HBB.cell (p := ⟨w.heap.size + 1, 1, none⟩) hz1).trans hr.2.1
                have q2 := (HBB.frozen (p := ⟨w.heap.size + 1, 0, none⟩) hz1).trans hr.2.2.1
                have q3 := (HBB.frozen (p := ⟨w.heap.size + 1, 1, none⟩) hz1).trans hr.2.2.2
                exact ⟨by go_simp, by go_simp, by go_simp, by go_simp⟩
              · rw [HMK2.out]
                obtain ⟨a3, c3, e3, hm3, -⟩ := marks_own (HO2.out.kept (gbx_set (b := w.heap.size) (grow_gb (Below.refl _ _) _) 1 (.slice a2 (nl + 1) c2)) (Or.inr (fun e => by have := own_low HO2.out _ e; omega)))
                injection e3 with e3
                subst e3
                refine ⟨hm3, fun h0 ad e => .inr ?_⟩
                have := own_low HO2.out ad.block (by rw [e]; rfl)
                omega
              · have hBB := HB.out.trans (HBB.mono (by omega))
                exact (by repeat (first | assumption | exact Below.refl _ _ | (refine Below.alloc ?_ (by first | omega | (simp; omega) | simp) _) | (refine Below.setCell ?_ (by first | omega | (simp; omega) | simp) _) | refine Below.drew ?_))
            case measure => simp [intOf]; omega
        · go_simp; refine hK.out _ _ ?_ (fun hHeld => ?_); (· (first | with_reducible assumption | ((repeat (first | with_reducible refine gS_drew ?_ | with_reducible refine gS_alloc _ ?_ | with_reducible refine gS_set _ _ ?_)); first | with_reducible assumption | with_reducible exact gS_of (gbx_refl _ _)))); clear hK K; (try simp only [Act.put, List.setIfInBounds_toArray, List.set_cons_zero, List.set_cons_succ])
          refine takeH 10 ?_; (try simp only [Act.put, List.setIfInBounds_toArray, List.set_cons_zero, List.set_cons_succ])
          refine wpAnyH_ready (rs := [5, 13]) (by kernel_rfl) (by simp) ?_
          refine AllReadyH.cons (o := ?_) ?_ (fun K hK => ?_) ?_
          rotate_left 1
          · simp only [List.getElem?_toArray, List.getElem?_cons_succ, List.getElem?_cons_zero]; with_reducible rfl
          rotate_left 1
          refine AllReadyH.cons (o := ?_) ?_ (fun K hK => ?_) AllReadyH.nil
          rotate_left 1
          · simp only [List.getElem?_toArray, List.getElem?_cons_succ, List.getElem?_cons_zero]; with_reducible rfl
          rotate_left 1
          · go_simp; refine hK.out _ _ ?_ (fun hHeld => ?_); (· (first | with_reducible assumption | ((repeat (first | with_reducible refine gS_drew ?_ | with_reducible refine gS_alloc _ ?_ | with_reducible refine gS_set _ _ ?_)); first | with_reducible assumption | with_reducible exact gS_of (gbx_refl _ _)))); clear hK K; (try simp only [Act.put, List.setIfInBounds_toArray, List.set_cons_zero, List.set_cons_succ])
            refine takeH 6 ?_; (try simp only [Act.put, List.setIfInBounds_toArray, List.set_cons_zero, List.set_cons_succ])
            refine takeH 11 ?_; (try simp only [Act.put, List.setIfInBounds_toArray, List.set_cons_zero, List.set_cons_succ])
            refine readyH 13 (fun K hK => ?_); go_simp; skip; refine hK.out _ _ ?_ (fun hHeld => ?_); (· (first | with_reducible assumption | ((repeat (first | with_reducible refine gS_drew ?_ | with_reducible refine gS_alloc _ ?_ | with_reducible refine gS_set _ _ ?_)); first | with_reducible assumption | with_reducible exact gS_of (gbx_refl _ _)))); clear hK K; (try simp only [Act.put, List.setIfInBounds_toArray, List.set_cons_zero, List.set_cons_succ])
            refine readyH 14 (fun K hK => ?_); ((with_reducible refine step_append_full _ 23 52 (.agg #[.int .i64 0, .int .i64 0, .int .i64 0]) 3 24 Try.underlying23 Try.info52 rfl (by decide) (by decide) na nl (ms.flatMap CMark.cells) (CMark.cells ⟨c, j, mx⟩) (marks_src HMV.out).1 hnl1 rfl H1C.out rfl _ _ rfl ?_ ?_ ?_ ?_); (· rfl); (· exact ⟨_, rfl, src3 (by go_simp) (by go_simp) (by go_simp)⟩); (· exact (marks_src (HMV.out.below (by repeat (first | exact Below.refl _ _ | (refine Below.alloc ?_ (by first | omega | (simp; omega) | simp) _) | (refine Below.setCell ?_ (by first | omega | (simp; omega) | simp) _) | refine Below.drew ?_)))).2); intro v' wB hown hgr; have hX : Below V.heap.size V wB := ((by repeat (first | exact Below.refl _ _ | (refine Below.alloc ?_ (by first | omega | (simp; omega) | simp) _) | (refine Below.setCell ?_ (by first | omega | (simp; omega) | simp) _) | refine Below.drew ?_)) : Below V.heap.size V _).trans (grown_low hgr (by first | omega | (simp; done) | (simp; omega)) (fun r e => by cases e)); have f0 := (hX.cell (p := ⟨w.heap.size, 0, none⟩) hwV).trans v0; have f1 := (hX.cell (p := ⟨w.heap.size, 1, none⟩) hwV).trans v1; have f2 := (hX.frozen (p := ⟨w.heap.size, 0, none⟩) hwV).trans v2; have f3 := (hX.frozen (p := ⟨w.heap.size, 1, none⟩) hwV).trans v3; have HX := Lib.hid hX; have hown2 : wB.ownsRow V.heap.size 52 3 v' (nl + 1) (ms.flatMap CMark.cells ++ CMark.cells ⟨c, j, mx⟩) := own_base2 hown (by first | omega | (simp; done) | (simp; omega)); rw [← flat_snoc] at hown2; obtain ⟨a2, c2, rfl, hm2, hc2⟩ := marks_own hown2; have HO2 := Lib.hid hown2; have HC2 := Lib.hid hc2; have hwB : w.heap.size < wB.heap.size := Nat.lt_of_lt_of_le hwV hX.size; have kS := gS_of (grow_gb HX.out (some w.heap.size)); clear hown hown2 hgr hX hm2 hc2); refine hK.out _ _ ?_ (fun hHeld => ?_); (· (first | with_reducible assumption | ((repeat (first | with_reducible refine gS_drew ?_ | with_reducible refine gS_alloc _ ?_ | with_reducible refine gS_set _ _ ?_)); first | with_reducible assumption | with_reducible exact gS_of (gbx_refl _ _)))); clear hK K; (try simp only [Act.put, List.setIfInBounds_toArray, List.set_cons_zero, List.set_cons_succ])
            refine takeH 15 ?_; (try simp only [Act.put, List.setIfInBounds_toArray, List.set_cons_zero, List.set_cons_succ])
            refine takeH 16 ?_; (try simp only [Act.put, List.setIfInBounds_toArray, List.set_cons_zero, List.set_cons_succ])
            refine readyH 17 (fun K hK => ?_); go_simp; skip; refine hK.out _ _ ?_ (fun hHeld => ?_); (· (first | with_reducible assumption | ((repeat (first | with_reducible refine gS_drew ?_ | with_reducible refine gS_alloc _ ?_ | with_reducible refine gS_set _ _ ?_)); first | with_reducible assumption | with_reducible exact gS_of (gbx_refl _ _)))); clear hK K; (try simp only [Act.put, List.setIfInBounds_toArray, List.set_cons_zero, List.set_cons_succ])
            refine wpAnyH_done (by kernel_rfl) ?_ _
            refine NoPanic.normal ?_
            go_wp2_with fail
            go_roundw
            case rel =>
              have hr := HR4.out
              have hz2 := HX.out.size
              have HBB := HBV.out.trans (HX.out.mono HBV.out.size)
              refine ⟨k + 1, a2, nl + 1, c2, by omega, by go_num, by have := HNL.out; omega, ⟨by go_simp, by go_simp, by go_simp, by go_simp⟩, ?_, ?_, HC2.out, by simp; omega, ?_⟩
              · have q0 := (HBB.cell (p := ⟨w.heap.size + 1, 0, none⟩) hz1).trans hr.1
                have q1 := (HBB.cell (p := ⟨w.heap.size + 1, 1, none⟩) hz1).trans hr.2.1
                have q2 := (HBB.frozen (p := ⟨w.heap.size + 1, 0, none⟩) hz1).trans hr.2.2.1
                have q3 := (HBB.frozen (p := ⟨w.heap.size + 1, 1, none⟩) hz1).trans hr.2.2.2
                exact ⟨by go_simp, by go_simp, by go_simp, by go_simp⟩
              · rw [HMK2.out]
                obtain ⟨a3, c3, e3, hm3, -⟩ := marks_own (HO2.out.kept (gbx_set (b := w.heap.size) (grow_gb (Below.refl _ _) _) 1 (.slice a2 (nl + 1) c2)) (Or.inr (fun e => by have := own_low HO2.out _ e; omega)))
                injection e3 with e3
                subst e3
                refine ⟨hm3, fun h0 ad e => .inr ?_⟩
                have := own_low HO2.out ad.block (by rw [e]; rfl)
                omega
              · have hBB := HB.out.trans (HBB.mono (by omega))
                exact (by repeat (first | assumption | exact Below.refl _ _ | (refine Below.alloc ?_ (by first | omega | (simp; omega) | simp) _) | (refine Below.setCell ?_ (by first | omega | (simp; omega) | simp) _) | refine Below.drew ?_))
            case measure => simp [intOf]; omega
          · go_simp; refine hK.out _ _ ?_ (fun hHeld => ?_); (· (first | with_reducible assumption | ((repeat (first | with_reducible refine gS_drew ?_ | with_reducible refine gS_alloc _ ?_ | with_reducible refine gS_set _ _ ?_)); first | with_reducible assumption | with_reducible exact gS_of (gbx_refl _ _)))); clear hK K; (try simp only [Act.put, List.setIfInBounds_toArray, List.set_cons_zero, List.set_cons_succ])
            refine readyH 5 (fun K hK => ?_); go_simp; skip; refine hK.out _ _ ?_ (fun hHeld => ?_); (· (first | with_reducible assumption | ((repeat (first | with_reducible refine gS_drew ?_ | with_reducible refine gS_alloc _ ?_ | with_reducible refine gS_set _ _ ?_)); first | with_reducible assumption | with_reducible exact gS_of (gbx_refl _ _)))); clear hK K; (try simp only [Act.put, List.setIfInBounds_toArray, List.set_cons_zero, List.set_cons_succ])
            refine takeH 6 ?_; (try simp only [Act.put, List.setIfInBounds_toArray, List.set_cons_zero, List.set_cons_succ])
            refine takeH 11 ?_; (try simp only [Act.put, List.setIfInBounds_toArray, List.set_cons_zero, List.set_cons_succ])
            refine readyH 14 (fun K hK => ?_); ((with_reducible refine step_append_full _ 23 52 (.agg #[.int .i64 0, .int .i64 0, .int .i64 0]) 3 24 Try.underlying23 Try.info52 rfl (by decide) (by decide) na nl (ms.flatMap CMark.cells) (CMark.cells ⟨c, j, mx⟩) (marks_src HMV.out).1 hnl1 rfl H1C.out rfl _ _ rfl ?_ ?_ ?_ ?_); (· rfl); (· exact ⟨_, rfl, src3 (by go_simp) (by go_simp) (by go_simp)⟩); (· exact (marks_src (HMV.out.below (by repeat (first | exact Below.refl _ _ | (refine Below.alloc ?_ (by first | omega | (simp; omega) | simp) _) | (refine Below.setCell ?_ (by first | omega | (simp; omega) | simp) _) | refine Below.drew ?_)))).2); intro v' wB hown hgr; have hX : Below V.heap.size V wB := ((by repeat (first | exact Below.refl _ _ | (refine Below.alloc ?_ (by first | omega | (simp; omega) | simp) _) | (refine Below.setCell ?_ (by first | omega | (simp; omega) | simp) _) | refine Below.drew ?_)) : Below V.heap.size V _).trans (grown_low hgr (by first | omega | (simp; done) | (simp; omega)) (fun r e => by cases e)); have f0 := (hX.cell (p := ⟨w.heap.size, 0, none⟩) hwV).trans v0; have f1 := (hX.cell (p := ⟨w.heap.size, 1, none⟩) hwV).trans v1; have f2 := (hX.frozen (p := ⟨w.heap.size, 0, none⟩) hwV).trans v2; have f3 := (hX.frozen (p := ⟨w.heap.size, 1, none⟩) hwV).trans v3; have HX := Lib.hid hX; have hown2 : wB.ownsRow V.heap.size 52 3 v' (nl + 1) (ms.flatMap CMark.cells ++ CMark.cells ⟨c, j, mx⟩) := own_base2 hown (by first | omega | (simp; done) | (simp; omega)); rw [← flat_snoc] at hown2; obtain ⟨a2, c2, rfl, hm2, hc2⟩ := marks_own hown2; have HO2 := Lib.hid hown2; have HC2 := Lib.hid hc2; have hwB : w.heap.size < wB.heap.size := Nat.lt_of_lt_of_le hwV hX.size; have kS := gS_of (grow_gb HX.out (some w.heap.size)); clear hown hown2 hgr hX hm2 hc2); refine hK.out _ _ ?_ (fun hHeld => ?_); (· (first | with_reducible assumption | ((repeat (first | with_reducible refine gS_drew ?_ | with_reducible refine gS_alloc _ ?_ | with_reducible refine gS_set _ _ ?_)); first | with_reducible assumption | with_reducible exact gS_of (gbx_refl _ _)))); clear hK K; (try simp only [Act.put, List.setIfInBounds_toArray, List.set_cons_zero, List.set_cons_succ])
            refine takeH 15 ?_; (try simp only [Act.put, List.setIfInBounds_toArray, List.set_cons_zero, List.set_cons_succ])
            refine takeH 16 ?_; (try simp only [Act.put, List.setIfInBounds_toArray, List.set_cons_zero, List.set_cons_succ])
            refine readyH 17 (fun K hK => ?_); go_simp; skip; refine hK.out _ _ ?_ (fun hHeld => ?_); (· (first | with_reducible assumption | ((repeat (first | with_reducible refine gS_drew ?_ | with_reducible refine gS_alloc _ ?_ | with_reducible refine gS_set _ _ ?_)); first | with_reducible assumption | with_reducible exact gS_of (gbx_refl _ _)))); clear hK K; (try simp only [Act.put, List.setIfInBounds_toArray, List.set_cons_zero, List.set_cons_succ])
            refine wpAnyH_done (by kernel_rfl) ?_ _
            refine NoPanic.normal ?_
            go_wp2_with fail
            go_roundw
            case rel =>
              have hr := HR4.out
              have hz2 := HX.out.size
              have HBB := HBV.out.trans (HX.out.mono HBV.out.size)
              refine ⟨k + 1, a2, nl + 1, c2, by omega, by go_num, by have := HNL.out; omega, ⟨by go_simp, by go_simp, by go_simp, by go_simp⟩, ?_, ?_, HC2.out, by simp; omega, ?_⟩
              · have q0 := (HBB.cell (p := ⟨w.heap.size + 1, 0, none⟩) hz1).trans hr.1
                have q1 := (HBB.cell (p := ⟨w.heap.size + 1, 1, none⟩) hz1).trans hr.2.1
                have q2 := (HBB.frozen (p := ⟨w.heap.size + 1, 0, none⟩) hz1).trans hr.2.2.1
                have q3 := (HBB.frozen (p := ⟨w.heap.size + 1, 1, none⟩) hz1).trans hr.2.2.2
                exact ⟨by go_simp, by go_simp, by go_simp, by go_simp⟩
              · rw [HMK2.out]
                obtain ⟨a3, c3, e3, hm3, -⟩ := marks_own (HO2.out.kept (gbx_set (b := w.heap.size) (grow_gb (Below.refl _ _) _) 1 (.slice a2 (nl + 1) c2)) (Or.inr (fun e => by have := own_low HO2.out _ e; omega)))
                injection e3 with e3
                subst e3
                refine ⟨hm3, fun h0 ad e => .inr ?_⟩
                have := own_low HO2.out ad.block (by rw [e]; rfl)
                omega
              · have hBB := HB.out.trans (HBB.mono (by omega))
                exact (by repeat (first | assumption | exact Below.refl _ _ | (refine Below.alloc ?_ (by first | omega | (simp; omega) | simp) _) | (refine Below.setCell ?_ (by first | omega | (simp; omega) | simp) _) | refine Below.drew ?_))
            case measure => simp [intOf]; omega
        · go_simp; refine hK.out _ _ ?_ (fun hHeld => ?_); (· (first | with_reducible assumption | ((repeat (first | with_reducible refine gS_drew ?_ | with_reducible refine gS_alloc _ ?_ | with_reducible refine gS_set _ _ ?_)); first | with_reducible assumption | with_reducible exact gS_of (gbx_refl _ _)))); clear hK K; (try simp only [Act.put, List.setIfInBounds_toArray, List.set_cons_zero, List.set_cons_succ])
          refine wpAnyH_ready (rs := [5, 9]) (by kernel_rfl) (by simp) ?_
          refine AllReadyH.cons (o := ?_) ?_ (fun K hK => ?_) ?_
          rotate_left 1
          · simp only [List.getElem?_toArray, List.getElem?_cons_succ, List.getElem?_cons_zero]; with_reducible rfl
          rotate_left 1
          refine AllReadyH.cons (o := ?_) ?_ (fun K hK => ?_) AllReadyH.nil
          rotate_left 1
          · simp only [List.getElem?_toArray, List.getElem?_cons_succ, List.getElem?_cons_zero]; with_reducible rfl
          rotate_left 1
          · go_simp; refine hK.out _ _ ?_ (fun hHeld => ?_); (· (first | with_reducible assumption | ((repeat (first | with_reducible refine gS_drew ?_ | with_reducible refine gS_alloc _ ?_ | with_reducible refine gS_set _ _ ?_)); first | with_reducible assumption | with_reducible exact gS_of (gbx_refl _ _)))); clear hK K; (try simp only [Act.put, List.setIfInBounds_toArray, List.set_cons_zero, List.set_cons_succ])
            refine takeH 6 ?_; (try simp only [Act.put, List.setIfInBounds_toArray, List.set_cons_zero, List.set_cons_succ])
            refine readyH 9 (fun K hK => ?_); go_simp; skip; refine hK.out _ _ ?_ (fun hHeld => ?_); (· (first | with_reducible assumption | ((repeat (first | with_reducible refine gS_drew ?_ | with_reducible refine gS_alloc _ ?_ | with_reducible refine gS_set _ _ ?_)); first | with_reducible assumption | with_reducible exact gS_of (gbx_refl _ _)))); clear hK K; (try simp only [Act.put, List.setIfInBounds_toArray, List.set_cons_zero, List.set_cons_succ])
            refine takeH 10 ?_; (try simp only [Act.put, List.setIfInBounds_toArray, List.set_cons_zero, List.set_cons_succ])
            refine takeH 11 ?_; (try simp only [Act.put, List.setIfInBounds_toArray, List.set_cons_zero, List.set_cons_succ])
            refine readyH 14 (fun K hK => ?_); ((with_reducible refine step_append_full _ 23 52 (.agg #[.int .i64 0, .int .i64 0, .int .i64 0]) 3 24 Try.underlying23 Try.info52 rfl (by decide) (by decide) na nl (ms.flatMap CMark.cells) (CMark.cells ⟨c, j, mx⟩) (marks_src HMV.out).1 hnl1 rfl H1C.out rfl _ _ rfl ?_ ?_ ?_ ?_); (· rfl); (· exact ⟨_, rfl, src3 (by go_simp) (by go_simp) (by go_simp)⟩); (· exact (marks_src (HMV.out.below (by repeat (first | exact Below.refl _ _ | (refine Below.alloc ?_ (by first | omega | (simp; omega) | simp) _) | (refine Below.setCell ?_ (by first | omega | (simp; omega) | simp) _) | refine Below.drew ?_)))).2); intro v' wB hown hgr; have hX : Below V.heap.size V wB := ((by repeat (first | exact Below.refl _ _ | (refine Below.alloc ?_ (by first | omega | (simp; omega) | simp) _) | (refine Below.setCell ?_ (by first | omega | (simp; omega) | simp) _) | refine Below.drew ?_)) : Below V.heap.size V _).trans (grown_low hgr (by first | omega | (simp; done) | (simp; omega)) (fun r e => by cases e)); have f0 := (hX.cell (p := ⟨w.heap.size, 0, none⟩) hwV).trans v0; have f1 := (hX.cell (p := ⟨w.heap.size, 1, none⟩) hwV).trans v1; have f2 := (hX.frozen (p := ⟨w.heap.size, 0, none⟩) hwV).trans v2; have f3 := (hX.frozen (p := ⟨w.heap.size, 1, none⟩) hwV).trans v3; have HX := Lib.hid hX; have hown2 : wB.ownsRow V.heap.size 52 3 v' (nl + 1) (ms.flatMap CMark.cells ++ CMark.cells ⟨c, j, mx⟩) := own_base2 hown (by first | omega | (simp; done) | (simp; omega)); rw [← flat_snoc] at hown2; obtain ⟨a2, c2, rfl, hm2, hc2⟩ := marks_own hown2; have HO2 := Lib.hid hown2; have HC2 := Lib.hid hc2; have hwB : w.heap.size < wB.heap.size := Nat.lt_of_lt_of_le hwV hX.size; have kS := gS_of (grow_gb HX.out (some w.heap.size)); clear hown hown2 hgr hX hm2 hc2); refine hK.out _ _ ?_ (fun hHeld => ?_); (· (first | with_reducible assumption | ((repeat (first | with_reducible refine gS_drew ?_ | with_reducible refine gS_alloc _ ?_ | with_reducible refine gS_set _ _ ?_)); first | with_reducible assumption | with_reducible exact gS_of (gbx_refl _ _)))); clear hK K; (try simp only [Act.put, List.setIfInBounds_toArray, List.set_cons_zero, List.set_cons_succ])
            refine takeH 15 ?_; (try simp only [Act.put, List.setIfInBounds_toArray, List.set_cons_zero, List.set_cons_succ])
            refine takeH 16 ?_; (try simp only [Act.put, List.setIfInBounds_toArray, List.set_cons_zero, List.set_cons_succ])
            refine readyH 17 (fun K hK => ?_); go_simp; skip; refine hK.out _ _ ?_ (fun hHeld => ?_); (· (first | with_reducible assumption | ((repeat (first | with_reducible refine gS_drew ?_ | with_reducible refine gS_alloc _ ?_ | with_reducible refine gS_set _ _ ?_)); first | with_reducible assumption | with_reducible exact gS_of (gbx_refl _ _)))); clear hK K; (try simp only [Act.put, List.setIfInBounds_toArray, List.set_cons_zero, List.set_cons_succ])
            refine wpAnyH_done (by kernel_rfl) ?_ _
            refine NoPanic.normal ?_
            go_wp2_with fail
            go_roundw
            case rel =>
              have hr := HR4.out
              have hz2 := HX.out.size
              have HBB := HBV.out.trans (HX.out.mono HBV.out.size)
              refine ⟨k + 1, a2, nl + 1, c2, by omega, by go_num, by have := HNL.out; omega, ⟨by go_simp, by go_simp, by go_simp, by go_simp⟩, ?_, ?_, HC2.out, by simp; omega, ?_⟩
              · have q0 := (HBB.cell (p := ⟨w.heap.size + 1, 0, none⟩) hz1).trans hr.1
                have q1 := (HBB.cell (p := ⟨w.heap.size + 1, 1, none⟩) hz1).trans hr.2.1
                have q2 := (HBB.frozen (p := ⟨w.heap.size + 1, 0, none⟩) hz1).trans hr.2.2.1
                have q3 := (HBB.frozen (p := ⟨w.heap.size + 1, 1, none⟩) hz1).trans hr.2.2.2
                exact ⟨by go_simp, by go_simp, by go_simp, by go_simp⟩
              · rw [HMK2.out]
                obtain ⟨a3, c3, e3, hm3, -⟩ := marks_own (HO2.out.kept (gbx_set (b := w.heap.size) (grow_gb (Below.refl _ _) _) 1 (.slice a2 (nl + 1) c2)) (Or.inr (fun e => by have := own_low HO2.out _ e; omega)))
                injection e3 with e3
                subst e3
                refine ⟨hm3, fun h0 ad e => .inr ?_⟩
                have := own_low HO2.out ad.block (by rw [e]; rfl)
                omega
              · have hBB := HB.out.trans (HBB.mono (by omega))
                exact (by repeat (first | assumption | exact Below.refl _ _ | (refine Below.alloc ?_ (by first | omega | (simp; omega) | simp) _) | (refine Below.setCell ?_ (by first | omega | (simp; omega) | simp) _) | refine Below.drew ?_))
            case measure => simp [intOf]; omega
          · go_simp; refine hK.out _ _ ?_ (fun hHeld => ?_); (· (first | with_reducible assumption | ((repeat (first | with_reducible refine gS_drew ?_ | with_reducible refine gS_alloc _ ?_ | with_reducible refine gS_set _ _ ?_)); first | with_reducible assumption | with_reducible exact gS_of (gbx_refl _ _)))); clear hK K; (try simp only [Act.put, List.setIfInBounds_toArray, List.set_cons_zero, List.set_cons_succ])
            refine takeH 10 ?_; (try simp only [Act.put, List.setIfInBounds_toArray, List.set_cons_zero, List.set_cons_succ])
            refine readyH 5 (fun K hK => ?_); go_simp; skip; refine hK.out _ _ ?_ (fun hHeld => ?_); (· (first | with_reducible assumption | ((repeat (first | with_reducible refine gS_drew ?_ | with_reducible refine gS_alloc _ ?_ | with_reducible refine gS_set _ _ ?_)); first | with_reducible assumption | with_reducible exact gS_of (gbx_refl _ _)))); clear hK K; (try simp only [Act.put, List.setIfInBounds_toArray, List.set_cons_zero, List.set_cons_succ])
            refine takeH 6 ?_; (try simp only [Act.put, List.setIfInBounds_toArray, List.set_cons_zero, List.set_cons_succ])
            refine takeH 11 ?_; (try simp only [Act.put, List.setIfInBounds_toArray, List.set_cons_zero, List.set_cons_succ])
            refine readyH 14 (fun K hK => ?_); ((with_reducible refine step_append_full _ 23 52 (.agg #[.int .i64 0, .int .i64 0, .int .i64 0]) 3 24 Try.underlying23 Try.info52 rfl (by decide) (by decide) na nl (ms.flatMap CMark.cells) (CMark.cells ⟨c, j, mx⟩) (marks_src HMV.out).1 hnl1 rfl H1C.out rfl _ _ rfl ?_ ?_ ?_ ?_); (· rfl); (· exact ⟨_, rfl, src3 (by go_simp) (by go_simp) (by go_simp)⟩); (· exact (marks_src (HMV.out.below (by repeat (first | exact Below.refl _ _ | (refine Below.alloc ?_ (by first | omega | (simp; omega) | simp) _) | (refine Below.setCell ?_ (by first | omega | (simp; omega) | simp) _) | refine Below.drew ?_)))).2); intro v' wB hown hgr; have hX : Below V.heap.size V wB := ((by repeat (first | exact Below.refl _ _ | (refine Below.alloc ?_ (by first | omega | (simp; omega) | simp) _) | (refine Below.setCell ?_ (by first | omega | (simp; omega) | simp) _) | refine Below.drew ?_)) : Below V.heap.size V _).trans (grown_low hgr (by first | omega | (simp; done) | (simp; omega)) (fun r e => by cases e)); have f0 := (hX.cell (p := ⟨w.heap.size, 0, none⟩) hwV).trans v0; have f1 := (hX.cell (p := ⟨w.heap.size, 1, none⟩) hwV).trans v1; have f2 := (hX.frozen (p := ⟨w.heap.size, 0, none⟩) hwV).trans v2; have f3 := (hX.frozen (p := ⟨w.heap.size, 1, none⟩) hwV).trans v3; have HX := Lib.hid hX; have hown2 : wB.ownsRow V.heap.size 52 3 v' (nl + 1) (ms.flatMap CMark.cells ++ CMark.cells ⟨c, j, mx⟩) := own_base2 hown (by first | omega | (simp; done) | (simp; omega)); rw [← flat_snoc] at hown2; obtain ⟨a2, c2, rfl, hm2, hc2⟩ := marks_own hown2; have HO2 := Lib.hid hown2; have HC2 := Lib.hid hc2; have hwB : w.heap.size < wB.heap.size := Nat.lt_of_lt_of_le hwV hX.size; have kS := gS_of (grow_gb HX.out (some w.heap.size)); clear hown hown2 hgr hX hm2 hc2); refine hK.out _ _ ?_ (fun hHeld => ?_); (· (first | with_reducible assumption | ((repeat (first | with_reducible refine gS_drew ?_ | with_reducible refine gS_alloc _ ?_ | with_reducible refine gS_set _ _ ?_)); first | with_reducible assumption | with_reducible exact gS_of (gbx_refl _ _)))); clear hK K; (try simp only [Act.put, List.setIfInBounds_toArray, List.set_cons_zero, List.set_cons_succ])
            refine takeH 15 ?_; (try simp only [Act.put, List.setIfInBounds_toArray, List.set_cons_zero, List.set_cons_succ])
            refine takeH 16 ?_; (try simp only [Act.put, List.setIfInBounds_toArray, List.set_cons_zero, List.set_cons_succ])
            refine readyH 17 (fun K hK => ?_); go_simp; skip; refine hK.out _ _ ?_ (fun hHeld => ?_); (· (first | with_reducible assumption | ((repeat (first | with_reducible refine gS_drew ?_ | with_reducible refine gS_alloc _ ?_ | with_reducible refine gS_set _ _ ?_)); first | with_reducible assumption | with_reducible exact gS_of (gbx_refl _ _)))); clear hK K; (try simp only [Act.put, List.setIfInBounds_toArray, List.set_cons_zero, List.set_cons_succ])
            refine wpAnyH_done (by kernel_rfl) ?_ _
            refine NoPanic.normal ?_
            go_wp2_with fail
            go_roundw
            case rel =>
              have hr := HR4.out
              have hz2 := HX.out.size
              have HBB := HBV.out.trans (HX.out.mono HBV.out.size)
              refine ⟨k + 1, a2, nl + 1, c2, by omega, by go_num, by have := HNL.out; omega, ⟨by go_simp, by go_simp, by go_simp, by go_simp⟩, ?_, ?_, HC2.out, by simp; omega, ?_⟩
              · have q0 := (HBB.cell (p := ⟨w.heap.size + 1, 0, none⟩) hz1).trans hr.1
                have q1 := (HBB.cell (p := ⟨w.heap.size + 1, 1, none⟩) hz1).trans hr.2.1
                have q2 := (HBB.frozen (p := ⟨w.heap.size + 1, 0, none⟩) hz1).trans hr.2.2.1
                have q3 := (HBB.frozen (p := ⟨w.heap.size + 1, 1, none⟩) hz1).trans hr.2.2.2
                exact ⟨by go_simp, by go_simp, by go_simp, by go_simp⟩
              · rw [HMK2.out]
                obtain ⟨a3, c3, e3, hm3, -⟩ := marks_own (HO2.out.kept (gbx_set (b := w.heap.size) (grow_gb (Below.refl _ _) _) 1 (.slice a2 (nl + 1) c2)) (Or.inr (fun e => by have := own_low HO2.out _ e; omega)))
                injection e3 with e3
                subst e3
                refine ⟨hm3, fun h0 ad e => .inr ?_⟩
                have := own_low HO2.out ad.block (by rw [e]; rfl)
                omega
              · have hBB := HB.out.trans (HBB.mono (by omega))
                exact (by repeat (first | assumption | exact Below.refl _ _ | (refine Below.alloc ?_ (by first | omega | (simp; omega) | simp) _) | (refine Below.setCell ?_ (by first | omega | (simp; omega) | simp) _) | refine Below.drew ?_))
            case measure => simp [intOf]; omega
      · go_simp; refine hK.out _ _ ?_ (fun hHeld => ?_); (· (first | with_reducible assumption | ((repeat (first | with_reducible refine gS_drew ?_ | with_reducible refine gS_alloc _ ?_ | with_reducible refine gS_set _ _ ?_)); first | with_reducible assumption | with_reducible exact gS_of (gbx_refl _ _)))); clear hK K; (try simp only [Act.put, List.setIfInBounds_toArray, List.set_cons_zero, List.set_cons_succ])
        refine takeH 6 ?_; (try simp only [Act.put, List.setIfInBounds_toArray, List.set_cons_zero, List.set_cons_succ])
        refine wpAnyH_ready (rs := [2, 9, 13]) (by kernel_rfl) (by simp) ?_
        refine AllReadyH.cons (o := ?_) ?_ (fun K hK => ?_) ?_
        rotate_left 1
        · simp only [List.getElem?_toArray, List.getElem?_cons_succ, List.getElem?_cons_zero]; with_reducible rfl
        rotate_left 1
        refine AllReadyH.cons (o := ?_) ?_ (fun K hK => ?_) ?_
        rotate_left 1
        · simp only [List.getElem?_toArray, List.getElem?_cons_succ, List.getElem?_cons_zero]; with_reducible rfl
        rotate_left 1
        refine AllReadyH.cons (o := ?_) ?_ (fun K hK => ?_) AllReadyH.nil
        rotate_left 1
        · simp only [List.getElem?_toArray, List.getElem?_cons_succ, List.getElem?_cons_zero]; with_reducible rfl
        rotate_left 1
        · go_simp; refine hK.out _ _ ?_ (fun hHeld => ?_); (· (first | with_reducible assumption | ((repeat (first | with_reducible refine gS_drew ?_ | with_reducible refine gS_alloc _ ?_ | with_reducible refine gS_set _ _ ?_)); first | with_reducible assumption | with_reducible exact gS_of (gbx_refl _ _)))); clear hK K; (try simp only [Act.put, List.setIfInBounds_toArray, List.set_cons_zero, List.set_cons_succ])
          refine wpAnyH_ready (rs := [9, 13]) (by kernel_rfl) (by simp) ?_
          refine AllReadyH.cons (o := ?_) ?_ (fun K hK => ?_) ?_
          rotate_left 1
          · simp only [List.getElem?_toArray, List.getElem?_cons_succ, List.getElem?_cons_zero]; with_reducible rfl
          rotate_left 1
          refine AllReadyH.cons (o := ?_) ?_ (fun K hK => ?_) AllReadyH.nil
          rotate_left 1
          · simp only [List.getElem?_toArray, List.getElem?_cons_succ, List.getElem?_cons_zero]; with_reducible rfl
          rotate_left 1
          · go_simp; refine hK.out _ _ ?_ (fun hHeld => ?_); (· (first | with_reducible assumption | ((repeat (first | with_reducible refine gS_drew ?_ | with_reducible refine gS_alloc _ ?_ | with_reducible refine gS_set _ _ ?_)); first | with_reducible assumption | with_reducible exact gS_of (gbx_refl _ _)))); clear hK K; (try simp only [Act.put, List.setIfInBounds_toArray, List.set_cons_zero, List.set_cons_succ])
            refine takeH 10 ?_; (try simp only [Act.put, List.setIfInBounds_toArray, List.set_cons_zero, List.set_cons_succ])
            refine takeH 11 ?_; (try simp only [Act.put, List.setIfInBounds_toArray, List.set_cons_zero, List.set_cons_succ])
            refine readyH 13 (fun K hK => ?_); go_simp; skip; refine hK.out _ _ ?_ (fun hHeld => ?_); (· (first | with_reducible assumption | ((repeat (first | with_reducible refine gS_drew ?_ | with_reducible refine gS_alloc _ ?_ | with_reducible refine gS_set _ _ ?_)); first | with_reducible assumption | with_reducible exact gS_of (gbx_refl _ _)))); clear hK K; (try simp only [Act.put, List.setIfInBounds_toArray, List.set_cons_zero, List.set_cons_succ])
            refine readyH 14 (fun K hK => ?_); ((with_reducible refine step_append_full _ 23 52 (.agg #[.int .i64 0, .int .i64 0, .int .i64 0]) 3 24 Try.underlying23 Try.info52 rfl (by decide) (by decide) na nl (ms.flatMap CMark.cells) (CMark.cells ⟨c, j, mx⟩) (marks_src HMV.out).1 hnl1 rfl H1C.out rfl _ _ rfl ?_ ?_ ?_ ?_); (· rfl); (· exact ⟨_, rfl, src3 (by go_simp) (by go_simp) (by go_simp)⟩); (· exact (marks_src (HMV.out.below (by repeat (first | exact Below.refl _ _ | (refine Below.alloc ?_ (by first | omega | (simp; omega) | simp) _) | (refine Below.setCell ?_ (by first | omega | (simp; omega) | simp) _) | refine Below.drew ?_)))).2); intro v' wB hown hgr; have hX : Below V.heap.size V wB := ((by repeat (first | exact Below.refl _ _ | (refine Below.alloc ?_ (by first | omega | (simp; omega) | simp) _) | (refine Below.setCell ?_ (by first | omega | (simp; omega) | simp) _) | refine Below.drew ?_)) : Below V.heap.size V _).trans (grown_low hgr (by first | omega | (simp; done) | (simp; omega)) (fun r e => by cases e)); have f0 := (hX.cell (p := ⟨w.heap.size, 0, none⟩) hwV).trans v0; have f1 := (hX.cell (p := ⟨w.heap.size, 1, none⟩) hwV).trans v1; have f2 := (hX.frozen (p := ⟨w.heap.size, 0, none⟩) hwV).trans v2; have f3 := (hX.frozen (p := ⟨w.heap.size, 1, none⟩) hwV).trans v3; have HX := Lib.hid hX; have hown2 : wB.ownsRow V.heap.size 52 3 v' (nl + 1) (ms.flatMap CMark.cells ++ CMark.cells ⟨c, j, mx⟩) := own_base2 hown (by first | omega | (simp; done) | (simp; omega)); rw [← flat_snoc] at hown2; obtain ⟨a2, c2, rfl, hm2, hc2⟩ := marks_own hown2; have HO2 := Lib.hid hown2; have HC2 := Lib.hid hc2; have hwB : w.heap.size < wB.heap.size := Nat.lt_of_lt_of_le hwV hX.size; have kS := gS_of (grow_gb HX.out (some w.heap.size)); clear hown hown2 hgr hX hm2 hc2); refine hK.out _ _ ?_ (fun hHeld => ?_); (· (first | with_reducible assumption | ((repeat (first | with_reducible refine gS_drew ?_ | with_reducible refine gS_alloc _ ?_ | with_reducible refine gS_set _ _ ?_)); first | with_reducible assumption | with_reducible exact gS_of (gbx_refl _ _)))); clear hK K; (try simp only [Act.put, List.setIfInBounds_toArray, List.set_cons_zero, List.set_cons_succ])
            refine takeH 15 ?_; (try simp only [Act.put, List.setIfInBounds_toArray, List.set_cons_zero, List.set_cons_succ])
            refine takeH 16 ?_; (try simp only [Act.put, List.setIfInBounds_toArray, List.set_cons_zero, List.set_cons_succ])
            refine readyH 17 (fun K hK => ?_); go_simp; skip; refine hK.out _ _ ?_ (fun hHeld => ?_); (· (first | with_reducible assumption | ((repeat (first | with_reducible refine gS_drew ?_ | with_reducible refine gS_alloc _ ?_ | with_reducible refine gS_set _ _ ?_)); first | with_reducible assumption | with_reducible exact gS_of (gbx_refl _ _)))); clear hK K; (try simp only [Act.put, List.setIfInBounds_toArray, List.set_cons_zero, List.set_cons_succ])
            refine wpAnyH_done (by kernel_rfl) ?_ _
            refine NoPanic.normal ?_
            go_wp2_with fail
            go_roundw
            case rel =>
              have hr := HR4.out
              have hz2 := HX.out.size
              have HBB := HBV.out.trans (HX.out.mono HBV.out.size)
              refine ⟨k + 1, a2, nl + 1, c2, by omega, by go_num, by have := HNL.out; omega, ⟨by go_simp, by go_simp, by go_simp, by go_simp⟩, ?_, ?_, HC2.out, by simp; omega, ?_⟩
              · have q0 := (HBB.cell (p := ⟨w.heap.size + 1, 0, none⟩) hz1).trans hr.1
                have q1 := (HBB.cell (p := ⟨w.heap.size + 1, 1, none⟩) hz1).trans hr.2.1
                have q2 := (HBB.frozen (p := ⟨w.heap.size + 1, 0, none⟩) hz1).trans hr.2.2.1
                have q3 := (HBB.frozen (p := ⟨w.heap.size + 1, 1, none⟩) hz1).trans hr.2.2.2
                exact ⟨by go_simp, by go_simp, by go_simp, by go_simp⟩
              · rw [HMK2.out]
                obtain ⟨a3, c3, e3, hm3, -⟩ := marks_own (HO2.out.kept (gbx_set (b := w.heap.size) (grow_gb (Below.refl _ _) _) 1 (.slice a2 (nl + 1) c2)) (Or.inr (fun e => by have := own_low HO2.out _ e; omega)))
                injection e3 with e3
                subst e3
                refine ⟨hm3, fun h0 ad e => .inr ?_⟩
                have := own_low HO2.out ad.block (by rw [e]; rfl)
                omega
              · have hBB := HB.out.trans (HBB.mono (by omega))
                exact (by repeat (first | assumption | exact Below.refl _ _ | (refine Below.alloc ?_ (by first | omega | (simp; omega) | simp) _) | (refine Below.setCell ?_ (by first | omega | (simp; omega) | simp) _) | refine Below.drew ?_))
            case measure => simp [intOf]; omega
          · go_simp; refine hK.out _ _ ?_ (fun hHeld => ?_); (· (first | with_reducible assumption | ((repeat (first | with_reducible refine gS_drew ?_ | with_reducible refine gS_alloc _ ?_ | with_reducible refine gS_set _ _ ?_)); first | with_reducible assumption | with_reducible exact gS_of (gbx_refl _ _)))); clear hK K; (try simp only [Act.put, List.setIfInBounds_toArray, List.set_cons_zero, List.set_cons_succ])
            refine readyH 9 (fun K hK => ?_); go_simp; skip; refine hK.out _ _ ?_ (fun hHeld => ?_); (· (first | with_reducible assumption | ((repeat (first | with_reducible refine gS_drew ?_ | with_reducible refine gS_alloc _ ?_ | with_reducible refine gS_set _ _ ?_)); first | with_reducible assumption | with_reducible exact gS_of (gbx_refl _ _)))); clear hK K; (try simp only [Act.put, List.setIfInBounds_toArray, List.set_cons_zero, List.set_cons_succ])
            refine takeH 10 ?_; (try simp only [Act.put, List.setIfInBounds_toArray, List.set_cons_zero, List.set_cons_succ])
            refine takeH 11 ?_; (try simp only [Act.put, List.setIfInBounds_toArray, List.set_cons_zero, List.set_cons_succ])
            refine readyH 14 (fun K hK => ?_); ((with_reducible refine step_append_full _ 23 52 (.agg #[.int .i64 0, .int .i64 0, .int .i64 0]) 3 24 Try.underlying23 Try.info52 rfl (by decide) (by decide) na nl (ms.flatMap CMark.cells) (CMark.cells ⟨c, j, mx⟩) (marks_src HMV.out).1 hnl1 rfl H1C.out rfl _ _ rfl ?_ ?_ ?_ ?_); (· rfl); (· exact ⟨_, rfl, src3 (by go_simp) (by go_simp) (by go_simp)⟩); (· exact (marks_src (HMV.out.below (by repeat (first | exact Below.refl _ _ | (refine Below.alloc ?_ (by first | omega | (simp; omega) | simp) _) | (refine Below.setCell ?_ (by first | omega | (simp; omega) | simp) _) | refine Below.drew ?_)))).2); intro v' wB hown hgr; have hX : Below V.heap.size V wB := ((by repeat (first | exact Below.refl _ _ | (refine Below.alloc ?_ (by first | omega | (simp; omega) | simp) _) | (refine Below.setCell ?_ (by first | omega | (simp; omega) | simp) _) | refine Below.drew ?_)) : Below V.heap.size V _).trans (grown_low hgr (by first | omega | (simp; done) | (simp; omega)) (fun r e => by cases e)); have f0 := (hX.cell (p := ⟨w.heap.size, 0, none⟩) hwV).trans v0; have f1 := (hX.cell (p := ⟨w.heap.size, 1, none⟩) hwV).trans v1; have f2 := (hX.frozen (p := ⟨w.heap.size, 0, none⟩) hwV).trans v2; have f3 := (hX.frozen (p := ⟨w.heap.size, 1, none⟩) hwV).trans v3; have HX := Lib.hid hX; have hown2 : wB.ownsRow V.heap.size 52 3 v' (nl + 1) (ms.flatMap CMark.cells ++ CMark.cells ⟨c, j, mx⟩) := own_base2 hown (by first | omega | (simp; done) | (simp; omega)); rw [← flat_snoc] at hown2; obtain ⟨a2, c2, rfl, hm2, hc2⟩ := marks_own hown2; have HO2 := Lib.hid hown2; have HC2 := Lib.hid hc2; have hwB : w.heap.size < wB.heap.size := Nat.lt_of_lt_of_le hwV hX.size; have kS := gS_of (grow_gb HX.out (some w.heap.size)); clear hown hown2 hgr hX hm2 hc2); refine hK.out _ _ ?_ (fun hHeld => ?_); (· (first | with_reducible assumption | ((repeat (first | with_reducible refine gS_drew ?_ | with_reducible refine gS_alloc _ ?_ | with_reducible refine gS_set _ _ ?_)); first | with_reducible assumption | with_reducible exact gS_of (gbx_refl _ _)))); clear hK K; (try simp only [Act.put, List.setIfInBounds_toArray, List.set_cons_zero, List.set_cons_succ])
            refine takeH 15 ?_; (try simp only [Act.put, List.setIfInBounds_toArray, List.set_cons_zero, List.set_cons_succ])
            refine takeH 16 ?_; (try simp only [Act.put, List.setIfInBounds_toArray, List.set_cons_zero, List.set_cons_succ])
            refine readyH 17 (fun K hK => ?_); go_simp; skip; refine hK.out _ _ ?_ (fun hHeld => ?_); (· (first | with_reducible assumption | ((repeat (first | with_reducible refine gS_drew ?_ | with_reducible refine gS_alloc _ ?_ | with_reducible refine gS_set _ _ ?_)); first | with_reducible assumption | with_reducible exact gS_of (gbx_refl _ _)))); clear hK K; (try simp only [Act.put, List.setIfInBounds_toArray, List.set_cons_zero, List.set_cons_succ])
            refine wpAnyH_done (by kernel_rfl) ?_ _
            refine NoPanic.normal ?_
            go_wp2_with fail
            go_roundw
            case rel =>
              have hr := HR4.out
              have hz2 := HX.out.size
              have HBB := HBV.out.trans (HX.out.mono HBV.out.size)
              refine ⟨k + 1, a2, nl + 1, c2, by omega, by go_num, by have := HNL.out; omega, ⟨by go_simp, by go_simp, by go_simp, by go_simp⟩, ?_, ?_, HC2.out, by simp; omega, ?_⟩
              · have q0 := (HBB.cell (p := ⟨w.heap.size + 1, 0, none⟩) hz1).trans hr.1
                have q1 := (HBB.cell (p := ⟨w.heap.size + 1, 1, none⟩) hz1).trans hr.2.1
                have q2 := (HBB.frozen (p := ⟨w.heap.size + 1, 0, none⟩) hz1).trans hr.2.2.1
                have q3 := (HBB.frozen (p := ⟨w.heap.size + 1, 1, none⟩) hz1).trans hr.2.2.2
                exact ⟨by go_simp, by go_simp, by go_simp, by go_simp⟩
              · rw [HMK2.out]
                obtain ⟨a3, c3, e3, hm3, -⟩ := marks_own (HO2.out.kept (gbx_set (b := w.heap.size) (grow_gb (Below.refl _ _) _) 1 (.slice a2 (nl + 1) c2)) (Or.inr (fun e => by have := own_low HO2.out _ e; omega)))
                injection e3 with e3
                subst e3
                refine ⟨hm3, fun h0 ad e => .inr ?_⟩
                have := own_low HO2.out ad.block (by rw [e]; rfl)
                omega
              · have hBB := HB.out.trans (HBB.mono (by omega))
                exact (by repeat (first | assumption | exact Below.refl _ _ | (refine Below.alloc ?_ (by first | omega | (simp; omega) | simp) _) | (refine Below.setCell ?_ (by first | omega | (simp; omega) | simp) _) | refine Below.drew ?_))
            case measure => simp [intOf]; omega
        · go_simp; refine hK.out _ _ ?_ (fun hHeld => ?_); (· (first | with_reducible assumption | ((repeat (first | with_reducible refine gS_drew ?_ | with_reducible refine gS_alloc _ ?_ | with_reducible refine gS_set _ _ ?_)); first | with_reducible assumption | with_reducible exact gS_of (gbx_refl _ _)))); clear hK K; (try simp only [Act.put, List.setIfInBounds_toArray, List.set_cons_zero, List.set_cons_succ])
          refine takeH 10 ?_; (try simp only [Act.put, List.setIfInBounds_toArray, List.set_cons_zero, List.set_cons_succ])
          refine wpAnyH_ready (rs := [2, 13]) (by kernel_rfl) (by simp) ?_
          refine AllReadyH.cons (o := ?_) ?_ (fun K hK => ?_) ?_
          rotate_left 1
          · simp only [List.getElem?_toArray, List.getElem?_cons_succ, List.getElem?_cons_zero]; with_reducible rfl
          rotate_left 1
          refine AllReadyH.cons (o := ?_) ?_ (fun K hK => ?_) AllReadyH.nil
          rotate_left 1
          · simp only [List.getElem?_toArray, List.getElem?_cons_succ, List.getElem?_cons_zero]; with_reducible rfl
          rotate_left 1
          · go_simp; refine hK.out _ _ ?_ (fun hHeld => ?_); (· (first | with_reducible assumption | ((repeat (first | with_reducible refine gS_drew ?_ | with_reducible refine gS_alloc _ ?_ | with_reducible refine gS_set _ _ ?_)); first | with_reducible assumption | with_reducible exact gS_of (gbx_refl _ _)))); clear hK K; (try simp only [Act.put, List.setIfInBounds_toArray, List.set_cons_zero, List.set_cons_succ])
            refine takeH 11 ?_; (try simp only [Act.put, List.setIfInBounds_toArray, List.set_cons_zero, List.set_cons_succ])
            refine readyH 13 (fun K hK => ?_); go_simp; skip; refine hK.out _ _ ?_ (fun hHeld => ?_); (· (first | with_reducible assumption | ((repeat (first | with_reducible refine gS_drew ?_ | with_reducible refine gS_alloc _ ?_ | with_reducible refine gS_set _ _ ?_)); first | with_reducible assumption | with_reducible exact gS_of (gbx_refl _ _)))); clear hK K; (try simp only [Act.put, List.setIfInBounds_toArray, List.set_cons_zero, List.set_cons_succ])
            refine readyH 14 (fun K hK => ?_); ((with_reducible refine step_append_full _ 23 52 (.agg #[.int .i64 0, .int .i64 0, .int .i64 0]) 3 24 Try.underlying23 Try.info52 rfl (by decide) (by decide) na nl (ms.flatMap CMark.cells) (CMark.cells ⟨c, j, mx⟩) (marks_src HMV.out).1 hnl1 rfl H1C.out rfl _ _ rfl ?_ ?_ ?_ ?_); (· rfl); (· exact ⟨_, rfl, src3 (by go_simp) (by go_simp) (by go_simp)⟩); (· exact (marks_src (HMV.out.below (by repeat (first | exact Below.refl _ _ | (refine Below.alloc ?_ (by first | omega | (simp; omega) | simp) _) | (refine Below.setCell ?_ (by first | omega | (simp; omega) | simp) _) | refine Below.drew ?_)))).2); intro v' wB hown hgr; have hX : Below V.heap.size V wB := ((by repeat (first | exact Below.refl _ _ | (refine Below.alloc ?_ (by first | omega | (simp; omega) | simp) _) | (refine Below.setCell ?_ (by first | omega | (simp; omega) | simp) _) | refine Below.drew ?_)) : Below V.heap.size V _).trans (grown_low hgr (by first | omega | (simp; done) | (simp; omega)) (fun r e => by cases e)); have f0 := (hX.cell (p := ⟨w.heap.size, 0, none⟩) hwV).trans v0; have f1 := (hX.cell (p := ⟨w.heap.size, 1, none⟩) hwV).trans v1; have f2 := (hX.frozen (p := ⟨w.heap.size, 0, none⟩) hwV).trans v2; have f3 := (hX.frozen (p := ⟨w.heap.size, 1, none⟩) hwV).trans v3; have HX := Lib.hid hX; have hown2 : wB.ownsRow V.heap.size 52 3 v' (nl + 1) (ms.flatMap CMark.cells ++ CMark.cells ⟨c, j, mx⟩) := own_base2 hown (by first | omega | (simp; done) | (simp; omega)); rw [← flat_snoc] at hown2; obtain ⟨a2, c2, rfl, hm2, hc2⟩ := marks_own hown2; have HO2 := Lib.hid hown2; have HC2 := Lib.hid hc2; have hwB : w.heap.size < wB.heap.size := Nat.lt_of_lt_of_le hwV hX.size; have kS := gS_of (grow_gb HX.out (some w.heap.size)); clear hown hown2 hgr hX hm2 hc2); refine hK.out _ _ ?_ (fun hHeld => ?_); (· (first | with_reducible assumption | ((repeat (first | with_reducible refine gS_drew ?_ | with_reducible refine gS_alloc _ ?_ | with_reducible refine gS_set _ _ ?_)); first | with_reducible assumption | with_reducible exact gS_of (gbx_refl _ _)))); clear hK K; (try simp only [Act.put, List.setIfInBounds_toArray, List.set_cons_zero, List.set_cons_succ])
            refine takeH 15 ?_; (try simp only [Act.put, List.setIfInBounds_toArray, List.set_cons_zero, List.set_cons_succ])
            refine takeH 16 ?_; (try simp only [Act.put, List.setIfInBounds_toArray, List.set_cons_zero, List.set_cons_succ])
            refine readyH 17 (fun K hK => ?_); go_simp; skip; refine hK.out _ _ ?_ (fun hHeld => ?_); (· (first | with_reducible assumption | ((repeat (first | with_reducible refine gS_drew ?_ | with_reducible refine gS_alloc _ ?_ | with_reducible refine gS_set _ _ ?_)); first | with_reducible assumption | with_reducible exact gS_of (gbx_refl _ _)))); clear hK K; (try simp only [Act.put, List.setIfInBounds_toArray, List.set_cons_zero, List.set_cons_succ])
            refine wpAnyH_done (by kernel_rfl) ?_ _
            refine NoPanic.normal ?_
            go_wp2_with fail
            go_roundw
            case rel =>
              have hr := HR4.out
              have hz2 := HX.out.size
              have HBB := HBV.out.trans (HX.out.mono HBV.out.size)
              refine ⟨k + 1, a2, nl + 1, c2, by omega, by go_num, by have := HNL.out; omega, ⟨by go_simp, by go_simp, by go_simp, by go_simp⟩, ?_, ?_, HC2.out, by simp; omega, ?_⟩
              · have q0 := (HBB.cell (p := ⟨w.heap.size + 1, 0, none⟩) hz1).trans hr.1
                have q1 := (HBB.cell (p := ⟨w.heap.size + 1, 1, none⟩) hz1).trans hr.2.1
                have q2 := (HBB.frozen (p := ⟨w.heap.size + 1, 0, none⟩) hz1).trans hr.2.2.1
                have q3 := (HBB.frozen (p := ⟨w.heap.size + 1, 1, none⟩) hz1).trans hr.2.2.2
                exact ⟨by go_simp, by go_simp, by go_simp, by go_simp⟩
              · rw [HMK2.out]
                obtain ⟨a3, c3, e3, hm3, -⟩ := marks_own (HO2.out.kept (gbx_set (b := w.heap.size) (grow_gb (Below.refl _ _) _) 1 (.slice a2 (nl + 1) c2)) (Or.inr (fun e => by have := own_low HO2.out _ e; omega)))
                injection e3 with e3
                subst e3
                refine ⟨hm3, fun h0 ad e => .inr ?_⟩
                have := own_low HO2.out ad.block (by rw [e]; rfl)
                omega
              · have hBB := HB.out.trans (HBB.mono (by omega))
                exact (by repeat (first | assumption | exact Below.refl _ _ | (refine Below.alloc ?_ (by first | omega | (simp; omega) | simp) _) | (refine Below.setCell ?_ (by first | omega | (simp; omega) | simp) _) | refine Below.drew ?_))
            case measure => simp [intOf]; omega
          · go_simp; refine hK.out _ _ ?_ (fun hHeld => ?_); (· (first | with_reducible assumption | ((repeat (first | with_reducible refine gS_drew ?_ | with_reducible refine gS_alloc _ ?_ | with_reducible refine gS_set _ _ ?_)); first | with_reducible assumption | with_reducible exact gS_of (gbx_refl _ _)))); clear hK K; (try simp only [Act.put, List.setIfInBounds_toArray, List.set_cons_zero, List.set_cons_succ])
            refine readyH 2 (fun K hK => ?_); go_simp; skip; refine hK.out _ _ ?_ (fun hHeld => ?_); (· (first | with_reducible assumption | ((repeat (first | with_reducible refine gS_drew ?_ | with_reducible refine gS_alloc _ ?_ | with_reducible refine gS_set _ _ ?_)); first | with_reducible assumption | with_reducible exact gS_of (gbx_refl _ _)))); clear hK K; (try simp only [Act.put, List.setIfInBounds_toArray, List.set_cons_zero, List.set_cons_succ])
            refine takeH 11 ?_; (try simp only [Act.put, List.setIfInBounds_toArray, List.set_cons_zero, List.set_cons_succ])
            refine readyH 14 (fun K hK => ?_); ((with_reducible refine step_append_full _ 23 52 (.agg #[.int .i64 0, .int .i64 0, .int .i64 0]) 3 24 Try.underlying23 Try.info52 rfl (by decide) (by decide) na nl (ms.flatMap CMark.cells) (CMark.cells ⟨c, j, mx⟩) (marks_src HMV.out).1 hnl1 rfl H1C.out rfl _ _ rfl ?_ ?_ ?_ ?_); (· rfl); (· exact ⟨_, rfl, src3 (by go_simp) (by go_simp) (by go_simp)⟩); (· exact (marks_src (HMV.out.below (by repeat (first | exact Below.refl _ _ | (refine Below.alloc ?_ (by first | omega | (simp; omega) | simp) _) | (refine Below.setCell ?_ (by first | omega | (simp; omega) | simp) _) | refine Below.drew ?_)))).2); intro v' wB hown hgr; have hX : Below V.heap.size V wB := ((by repeat (first | exact Below.refl _ _ | (refine Below.alloc ?_ (by first | omega | (simp; omega) | simp) _) | (refine Below.setCell ?_ (by first | omega | (simp; omega) | simp) _) | refine Below.drew ?_)) : Below V.heap.size V _).trans (grown_low hgr (by first | omega | (simp; done) | (simp; omega)) (fun r e => by cases e)); have f0 := (hX.cell (p := ⟨w.heap.size, 0, none⟩) hwV).trans v0; have f1 := (hX.cell (p := ⟨w.heap.size, 1, none⟩) hwV).trans v1; have f2 := (hX.frozen (p := ⟨w.heap.size, 0, none⟩) hwV).trans v2; have f3 := (hX.frozen (p := ⟨w.heap.size, 1, none⟩) hwV).trans v3; have HX := Lib.hid hX; have hown2 : wB.ownsRow V.heap.size 52 3 v' (nl + 1) (ms.flatMap CMark.cells ++ CMark.cells ⟨c, j, mx⟩) := own_base2 hown (by first | omega | (simp; done) | (simp; omega)); rw [← flat_snoc] at hown2; obtain ⟨a2, c2, rfl, hm2, hc2⟩ := marks_own hown2; have HO2 := Lib.hid hown2; have HC2 := Lib.hid hc2; have hwB : w.heap.size < wB.heap.size := Nat.lt_of_lt_of_le hwV hX.size; have kS := gS_of (grow_gb HX.out (some w.heap.size)); clear hown hown2 hgr hX hm2 hc2); refine hK.out _ _ ?_ (fun hHeld => ?_); (· (first | with_reducible assumption | ((repeat (first | with_reducible refine gS_drew ?_ | with_reducible refine gS_alloc _ ?_ | with_reducible refine gS_set _ _ ?_)); first | with_reducible assumption | with_reducible exact gS_of (gbx_refl _ _)))); clear hK K; (try simp only [Act.put, List.setIfInBounds_toArray, List.set_cons_zero, List.set_cons_succ])
            refine takeH 15 ?_; (try simp only [Act.put, List.setIfInBounds_toArray, List.set_cons_zero, List.set_cons_succ])
            refine takeH 16 ?_; (try simp only [Act.put, List.setIfInBounds_toArray, List.set_cons_zero, List.set_cons_succ])
            refine readyH 17 (fun K hK => ?_); go_simp; skip; refine hK.out _ _ ?_ (fun hHeld => ?_); (· (first | with_reducible assumption | ((repeat (first | with_reducible refine gS_drew ?_ | with_reducible refine gS_alloc _ ?_ | with_reducible refine gS_set _ _ ?_)); first | with_reducible assumption | with_reducible exact gS_of (gbx_refl _ _)))); clear hK K; (try simp only [Act.put, List.setIfInBounds_toArray, List.set_cons_zero, List.set_cons_succ])
            refine wpAnyH_done (by kernel_rfl) ?_ _
            refine NoPanic.normal ?_
            go_wp2_with fail
            go_roundw
            case rel =>
              have hr := HR4.out
              have hz2 := HX.out.size
              have HBB := HBV.out.trans (HX.out.mono HBV.out.size)
              refine ⟨k + 1, a2, nl + 1, c2, by omega, by go_num, by have := HNL.out; omega, ⟨by go_simp, by go_simp, by go_simp, by go_simp⟩, ?_, ?_, HC2.out, by simp; omega, ?_⟩
              · have q0 := (HBB.cell (p := ⟨w.heap.size + 1, 0, none⟩) hz1).trans hr.1
                have q1 := (HBB.cell (p := ⟨w.heap.size + 1, 1, none⟩) hz1).trans hr.2.1
                have q2 := (HBB.frozen (p := ⟨w.heap.size + 1, 0, none⟩) hz1).trans hr.2.2.1
                have q3 := (HBB.frozen (p := ⟨w.heap.size + 1, 1, none⟩) hz1).trans hr.2.2.2
                exact ⟨by go_simp, by go_simp, by go_simp, by go_simp⟩
              · rw [HMK2.out]
                obtain ⟨a3, c3, e3, hm3, -⟩ := marks_own (HO2.out.kept (gbx_set (b := w.heap.size) (grow_gb (Below.refl _ _) _) 1 (.slice a2 (nl + 1) c2)) (Or.inr (fun e => by have := own_low HO2.out _ e; omega)))
                injection e3 with e3
                subst e3
                refine ⟨hm3, fun h0 ad e => .inr ?_⟩
                have := own_low HO2.out ad.block (by rw [e]; rfl)
                omega
              · have hBB := HB.out.trans (HBB.mono (by omega))
                exact (by repeat (first | assumption | exact Below.refl _ _ | (refine Below.alloc ?_ (by first | omega | (simp; omega) | simp) _) | (refine Below.setCell ?_ (by first | omega | (simp; omega) | simp) _) | refine Below.drew ?_))
            case measure => simp [intOf]; omega
        · go_simp; refine hK.out _ _ ?_ (fun hHeld => ?_); (· (first | with_reducible assumption | ((repeat (first | with_reducible refine gS_drew ?_ | with_reducible refine gS_alloc _ ?_ | with_reducible refine gS_set _ _ ?_)); first | with_reducible assumption | with_reducible exact gS_of (gbx_refl _ _)))); clear hK K; (try simp only [Act.put, List.setIfInBounds_toArray, List.set_cons_zero, List.set_cons_succ])
          refine wpAnyH_ready (rs := [2, 9]) (by kernel_rfl) (by simp) ?_
          refine AllReadyH.cons (o := ?_) ?_ (fun K hK => ?_) ?_
          rotate_left 1
          · simp only [List.getElem?_toArray, List.getElem?_cons_succ, List.getElem?_cons_zero]; with_reducible rfl
          rotate_left 1
          refine AllReadyH.cons (o := ?_) ?_ (fun K hK => ?_) AllReadyH.nil
          rotate_left 1
          · simp only [List.getElem?_toArray, List.getElem?_cons_succ, List.getElem?_cons_zero]; with_reducible rfl
          rotate_left 1
          · go_simp; refine hK.out _ _ ?_ (fun hHeld => ?_); (· (first | with_reducible assumption | ((repeat (first | with_reducible refine gS_drew ?_ | with_reducible refine gS_alloc _ ?_ | with_reducible refine gS_set _ _ ?_)); first | with_reducible assumption | with_reducible exact gS_of (gbx_refl _ _)))); clear hK K; (try simp only [Act.put, List.setIfInBounds_toArray, List.set_cons_zero, List.set_cons_succ])
            refine readyH 9 (fun K hK => ?_); go_simp; skip; refine hK.out _ _ ?_ (fun hHeld => ?_); (· (first | with_reducible assumption | ((repeat (first | with_reducible refine gS_drew ?_ | with_reducible refine gS_alloc _ ?_ | with_reducible refine gS_set _ _ ?_)); first | with_reducible assumption | with_reducible exact gS_of (gbx_refl _ _)))); clear hK K; (try simp only [Act.put, List.setIfInBounds_toArray, List.set_cons_zero, List.set_cons_succ])
            refine takeH 10 ?_; (try simp only [Act.put, List.setIfInBounds_toArray, List.set_cons_zero, List.set_cons_succ])
            refine takeH 11 ?_; (try simp only [Act.put, List.setIfInBounds_toArray, List.set_cons_zero, List.set_cons_succ])
            refine readyH 14 (fun K hK => ?_); ((with_reducible refine step_append_full _ 23 52 (.agg #[.int .i64 0, .int .i64 0, .int .i64 0]) 3 24 Try.underlying23 Try.info52 rfl (by decide) (by decide) na nl (ms.flatMap CMark.cells) (CMark.cells ⟨c, j, mx⟩) (marks_src HMV.out).1 hnl1 rfl H1C.out rfl _ _ rfl ?_ ?_ ?_ ?_); (· rfl); (· exact ⟨_, rfl, src3 (by go_simp) (by go_simp) (by go_simp)⟩); (· exact (marks_src (HMV.out.below (by repeat (first | exact Below.refl _ _ | (refine Below.alloc ?_ (by first | omega | (simp; omega) | simp) _) | (refine Below.setCell ?_ (by first | omega | (simp; omega) | simp) _) | refine Below.drew ?_)))).2); intro v' wB hown hgr; have hX : Below V.heap.size V wB := ((by repeat (first | exact Below.refl _ _ | (refine Below.alloc ?_ (by first | omega | (simp; omega) | simp) _) | (refine Below.setCell ?_ (by first | omega | (simp; omega) | simp) _) | refine Below.drew ?_)) : Below V.heap.size V _).trans (grown_low hgr (by first | omega | (simp; done) | (simp; omega)) (fun r e => by cases e)); have f0 := (hX.cell (p := ⟨w.heap.size, 0, none⟩) hwV).trans v0; have f1 := (hX.cell (p := ⟨w.heap.size, 1, none⟩) hwV).trans v1; have f2 := (hX.frozen (p := ⟨w.heap.size, 0, none⟩) hwV).trans v2; have f3 := (hX.frozen (p := ⟨w.heap.size, 1, none⟩) hwV).trans v3; have HX := Lib.hid hX; have hown2 : wB.ownsRow V.heap.size 52 3 v' (nl + 1) (ms.flatMap CMark.cells ++ CMark.cells ⟨c, j, mx⟩) := own_base2 hown (by first | omega | (simp; done) | (simp; omega)); rw [← flat_snoc] at hown2; obtain ⟨a2, c2, rfl, hm2, hc2⟩ := marks_own hown2; have HO2 := Lib.hid hown2; have HC2 := Lib.hid hc2; have hwB : w.heap.size < wB.heap.size := Nat.lt_of_lt_of_le hwV hX.size; have kS := gS_of (grow_gb HX.out (some w.heap.size)); clear hown hown2 hgr hX hm2 hc2); refine hK.out _ _ ?_ (fun hHeld => ?_); (· (first | with_reducible assumption | ((repeat (first | with_reducible refine gS_drew ?_ | with_reducible refine gS_alloc _ ?_ | with_reducible refine gS_set _ _ ?_)); first | with_reducible assumption | with_reducible exact gS_of (gbx_refl _ _)))); clear hK K; (try simp only [Act.put, List.setIfInBounds_toArray, List.set_cons_zero, List.set_cons_succ])
            refine takeH 15 ?_; (try simp only [Act.put, List.setIfInBounds_toArray, List.set_cons_zero, List.set_cons_succ])
            refine takeH 16 ?_; (try simp only [Act.put, List.setIfInBounds_toArray, List.set_cons_zero, List.set_cons_succ])
            refine readyH 17 (fun K hK => ?_); go_simp; skip; refine hK.out _ _ ?_ (fun hHeld => ?_); (· (first | with_reducible assumption | ((repeat (first | with_reducible refine gS_drew ?_ | with_reducible refine gS_alloc _ ?_ | with_reducible refine gS_set _ _ ?_)); first | with_reducible assumption | with_reducible exact gS_of (gbx_refl _ _)))); clear hK K; (try simp only [Act.put, List.setIfInBounds_toArray, List.set_cons_zero, List.set_cons_succ])
            refine wpAnyH_done (by kernel_rfl) ?_ _
            refine NoPanic.normal ?_
            go_wp2_with fail
            go_roundw
            case rel =>
              have hr := HR4.out
              have hz2 := HX.out.size
              have HBB := HBV.out.trans (HX.out.mono HBV.out.size)
              refine ⟨k + 1, a2, nl + 1, c2, by omega, by go_num, by have := HNL.out; omega, ⟨by go_simp, by go_simp, by go_simp, by go_simp⟩, ?_, ?_, HC2.out, by simp; omega, ?_⟩
              · have q0 := (HBB.cell (p := ⟨w.heap.size + 1, 0, none⟩) hz1).trans hr.1
                have q1 := (HBB.cell (p := ⟨w.heap.size + 1, 1, none⟩) hz1).trans hr.2.1
                have q2 := (HBB.frozen (p := ⟨w.heap.size + 1, 0, none⟩) hz1).trans hr.2.2.1
                have q3 := (HBB.frozen (p := ⟨w.heap.size + 1, 1, none⟩) hz1).trans hr.2.2.2
                exact ⟨by go_simp, by go_simp, by go_simp, by go_simp⟩
              · rw [HMK2.out]
                obtain ⟨a3, c3, e3, hm3, -⟩ := marks_own (HO2.out.kept (gbx_set (b := w.heap.size) (grow_gb (Below.refl _ _) _) 1 (.slice a2 (nl + 1) c2)) (Or.inr (fun e => by have := own_low HO2.out _ e; omega)))
                injection e3 with e3
                subst e3
                refine ⟨hm3, fun h0 ad e => .inr ?_⟩
                have := own_low HO2.out ad.block (by rw [e]; rfl)
                omega
              · have hBB := HB.out.trans (HBB.mono (by omega))
                exact (by repeat (first | assumption | exact Below.refl _ _ | (refine Below.alloc ?_ (by first | omega | (simp; omega) | simp) _) | (refine Below.setCell ?_ (by first | omega | (simp; omega) | simp) _) | refine Below.drew ?_))
            case measure => simp [intOf]; omega
          · go_simp; refine hK.out _ _ ?_ (fun hHeld => ?_); (· (first | with_reducible assumption | ((repeat (first | with_reducible refine gS_drew ?_ | with_reducible refine gS_alloc _ ?_ | with_reducible refine gS_set _ _ ?_)); first | with_reducible assumption | with_reducible exact gS_of (gbx_refl _ _)))); clear hK K; (try simp only [Act.put, List.setIfInBounds_toArray, List.set_cons_zero, List.set_cons_succ])
            refine takeH 10 ?_; (try simp only [Act.put, List.setIfInBounds_toArray, List.set_cons_zero, List.set_cons_succ])
            refine readyH 2 (fun K hK => ?_); go_simp; skip; refine hK.out _ _ ?_ (fun hHeld => ?_); (· (first | with_reducible assumption | ((repeat (first | with_reducible refine gS_drew ?_ | with_reducible refine gS_alloc _ ?_ | with_reducible refine gS_set _ _ ?_)); first | with_reducible assumption | with_reducible exact gS_of (gbx_refl _ _)))); clear hK K; (try simp only [Act.put, List.setIfInBounds_toArray, List.set_cons_zero, List.set_cons_succ])
            refine takeH 11 ?_; (try simp only [Act.put, List.setIfInBounds_toArray, List.set_cons_zero, List.set_cons_succ])
            refine readyH 14 (fun K hK => ?_); ((with_reducible refine step_append_full _ 23 52 (.agg #[.int .i64 0, .int .i64 0, .int .i64 0]) 3 24 Try.underlying23 Try.info52 rfl (by decide) (by decide) na nl (ms.flatMap CMark.cells) (CMark.cells ⟨c, j, mx⟩) (marks_src HMV.out).1 hnl1 rfl H1C.out rfl _ _ rfl ?_ ?_ ?_ ?_); (· rfl); (· exact ⟨_, rfl, src3 (by go_simp) (by go_simp) (by go_simp)⟩); (· exact (marks_src (HMV.out.below (by repeat (first | exact Below.refl _ _ | (refine Below.alloc ?_ (by first | omega | (simp; omega) | simp) _) | (refine Below.setCell ?_ (by first | omega | (simp; omega) | simp) _) | refine Below.drew ?_)))).2); intro v' wB hown hgr; have hX : Below V.heap.size V wB := ((by repeat (first | exact Below.refl _ _ | (refine Below.alloc ?_ (by first | omega | (simp; omega) | simp) _) | (refine Below.setCell ?_ (by first | omega | (simp; omega) | simp) _) | refine Below.drew ?_)) : Below V.heap.size V _).trans (grown_low hgr (by first | omega | (simp; done) | (simp; omega)) (fun r e => by cases e)); have f0 := (hX.cell (p := ⟨w.heap.size, 0, none⟩) hwV).trans v0; have f1 := (hX.cell (p := ⟨w.heap.size, 1, none⟩) hwV).trans v1; have f2 := (hX.frozen (p := ⟨w.heap.size, 0, none⟩) hwV).trans v2; have f3 := (hX.frozen (p := ⟨w.heap.size, 1, none⟩) hwV).trans v3; have HX := Lib.hid hX; have hown2 : wB.ownsRow V.heap.size 52 3 v' (nl + 1) (ms.flatMap CMark.cells ++ CMark.cells ⟨c, j, mx⟩) := own_base2 hown (by first | omega | (simp; done) | (simp; omega)); rw [← flat_snoc] at hown2; obtain ⟨a2, c2, rfl, hm2, hc2⟩ := marks_own hown2; have HO2 := Lib.hid hown2; have HC2 := Lib.hid hc2; have hwB : w.heap.size < wB.heap.size := Nat.lt_of_lt_of_le hwV hX.size; have kS := gS_of (grow_gb HX.out (some w.heap.size)); clear hown hown2 hgr hX hm2 hc2); refine hK.out _ _ ?_ (fun hHeld => ?_); (· (first | with_reducible assumption | ((repeat (first | with_reducible refine gS_drew ?_ | with_reducible refine gS_alloc _ ?_ | with_reducible refine gS_set _ _ ?_)); first | with_reducible assumption | with_reducible exact gS_of (gbx_refl _ _)))); clear hK K; (try simp only [Act.put, List.setIfInBounds_toArray, List.set_cons_zero, List.set_cons_succ])
            refine takeH 15 ?_; (try simp only [Act.put, List.setIfInBounds_toArray, List.set_cons_zero, List.set_cons_succ])
            refine takeH 16 ?_; (try simp only [Act.put, List.setIfInBounds_toArray, List.set_cons_zero, List.set_cons_succ])
            refine readyH 17 (fun K hK => ?_); go_simp; skip; refine hK.out _ _ ?_ (fun hHeld => ?_); (· (first | with_reducible assumption | ((repeat (first | with_reducible refine gS_drew ?_ | with_reducible refine gS_alloc _ ?_ | with_reducible refine gS_set _ _ ?_)); first | with_reducible assumption | with_reducible exact gS_of (gbx_refl _ _)))); clear hK K; (try simp only [Act.put, List.setIfInBounds_toArray, List.set_cons_zero, List.set_cons_succ])
            refine wpAnyH_done (by kernel_rfl) ?_ _
            refine NoPanic.normal ?_
            go_wp2_with fail
            go_roundw
            case rel =>
              have hr := HR4.out
              have hz2 := HX.out.size
              have HBB := HBV.out.trans (HX.out.mono HBV.out.size)
              refine ⟨k + 1, a2, nl + 1, c2, by omega, by go_num, by have := HNL.out; omega, ⟨by go_simp, by go_simp, by go_simp, by go_simp⟩, ?_, ?_, HC2.out, by simp; omega, ?_⟩
              · have q0 := (HBB.cell (p := ⟨w.heap.size + 1, 0, none⟩) hz1).trans hr.1
                have q1 := (HBB.cell (p := ⟨w.heap.size + 1, 1, none⟩) hz1).trans hr.2.1
                have q2 := (HBB.frozen (p := ⟨w.heap.size + 1, 0, none⟩) hz1).trans hr.2.2.1
                have q3 := (HBB.frozen (p := ⟨w.heap.size + 1, 1, none⟩) hz1).trans hr.2.2.2
                exact ⟨by go_simp, by go_simp, by go_simp, by go_simp⟩
              · rw [HMK2.out]
                obtain ⟨a3, c3, e3, hm3, -⟩ := marks_own (HO2.out.kept (gbx_set (b := w.heap.size) (grow_gb (Below.refl _ _) _) 1 (.slice a2 (nl + 1) c2)) (Or.inr (fun e => by have := own_low HO2.out _ e; omega)))
                injection e3 with e3
                subst e3
                refine ⟨hm3, fun h0 ad e => .inr ?_⟩
                have := own_low HO2.out ad.block (by rw [e]; rfl)
                omega
              · have hBB := HB.out.trans (HBB.mono (by omega))
                exact (by repeat (first | assumption | exact Below.refl _ _ | (refine Below.alloc ?_ (by first | omega | (simp; omega) | simp) _) | (refine Below.setCell ?_ (by first | omega | (simp; omega) | simp) _) | refine Below.drew ?_))
            case measure => simp [intOf]; omega
      · go_simp; refine hK.out _ _ ?_ (fun hHeld => ?_); (· (first | with_reducible assumption | ((repeat (first | with_reducible refine gS_drew ?_ | with_reducible refine gS_alloc _ ?_ | with_reducible refine gS_set _ _ ?_)); first | with_reducible assumption | with_reducible exact gS_of (gbx_refl _ _)))); clear hK K; (try simp only [Act.put, List.setIfInBounds_toArray, List.set_cons_zero, List.set_cons_succ])
        refine takeH 10 ?_; (try simp only [Act.put, List.setIfInBounds_toArray, List.set_cons_zero, List.set_cons_succ])
        refine wpAnyH_ready (rs := [2, 5, 13]) (by kernel_rfl) (by simp) ?_
        refine AllReadyH.cons (o := ?_) ?_ (fun K hK => ?_) ?_
        rotate_left 1
        · simp only [List.getElem?_toArray, List.getElem?_cons_succ, List.getElem?_cons_zero]; with_reducible rfl
        rotate_left 1
        refine AllReadyH.cons (o := ?_) ?_ (fun K hK => ?_) ?_
        rotate_left 1
        · simp only [List.getElem?_toArray, List.getElem?_cons_succ, List.getElem?_cons_zero]; with_reducible rfl
        rotate_left 1
        refine AllReadyH.cons (o := ?_) ?_ (fun K hK => ?_) AllReadyH.nil
        rotate_left 1
        · simp only [List.getElem?_toArray, List.getElem?_cons_succ, List.getElem?_cons_zero]; with_reducible rfl
        rotate_left 1
        · go_simp; refine hK.out _ _ ?_ (fun hHeld => ?_); (· (first | with_reducible assumption | ((repeat (first | with_reducible refine gS_drew ?_ | with_reducible refine gS_alloc _ ?_ | with_reducible refine gS_set _ _ ?_)); first | with_reducible assumption | with_reducible exact gS_of (gbx_refl _ _)))); clear hK K; (try simp only [Act.put, List.setIfInBounds_toArray, List.set_cons_zero, List.set_cons_succ])
          refine wpAnyH_ready (rs := [5, 13]) (by kernel_rfl) (by simp) ?_
          refine AllReadyH.cons (o := ?_) ?_ (fun K hK => ?_) ?_
          rotate_left 1
          · simp only [List.getElem?_toArray, List.getElem?_cons_succ, List.getElem?_cons_zero]; with_reducible rfl
          rotate_left 1
          refine AllReadyH.cons (o := ?_) ?_ (fun K hK => ?_) AllReadyH.nil
          rotate_left 1
          · simp only [List.getElem?_toArray, List.getElem?_cons_succ, List.getElem?_cons_zero]; with_reducible rfl
          rotate_left 1
          · go_simp; refine hK.out _ _ ?_ (fun hHeld => ?_); (· (first | with_reducible assumption | ((repeat (first | with_reducible refine gS_drew ?_ | with_reducible refine gS_alloc _ ?_ | with_reducible refine gS_set _ _ ?_)); first | with_reducible assumption | with_reducible exact gS_of (gbx_refl _ _)))); clear hK K; (try simp only [Act.put, List.setIfInBounds_toArray, List.set_cons_zero, List.set_cons_succ])
            refine takeH 6 ?_; (try simp only [Act.put, List.setIfInBounds_toArray, List.set_cons_zero, List.set_cons_succ])
            refine takeH 11 ?_; (try simp only [Act.put, List.setIfInBounds_toArray, List.set_cons_zero, List.set_cons_succ])
            refine readyH 13 (fun K hK => ?_); go_simp; skip; refine hK.out _ _ ?_ (fun hHeld => ?_); (· (first | with_reducible assumption | ((repeat (first | with_reducible refine gS_drew ?_ | with_reducible refine gS_alloc _ ?_ | with_reducible refine gS_set _ _ ?_)); first | with_reducible assumption | with_reducible exact gS_of (gbx_refl _ _)))); clear hK K; (try simp only [Act.put, List.setIfInBounds_toArray, List.set_cons_zero, List.set_cons_succ])
            refine readyH 14 (fun K hK => ?_); ((with_reducible refine step_append_full _ 23 52 (.agg #[.int .i64 0, .int .i64 0, .int .i64 0]) 3 24 Try.underlying23 Try.info52 rfl (by decide) (by decide) na nl (ms.flatMap CMark.cells) (CMark.cells ⟨c, j, mx⟩) (marks_src HMV.out).1 hnl1 rfl H1C.out rfl _ _ rfl ?_ ?_ ?_ ?_); (· rfl); (· exact ⟨_, rfl, src3 (by go_simp) (by go_simp) (by go_simp)⟩); (· exact (marks_src (HMV.out.below (by repeat (first | exact Below.refl _ _ | (refine Below.alloc ?_ (by first | omega | (simp; omega) | simp) _) | (refine Below.setCell ?_ (by first | omega | (simp; omega) | simp) _) | refine Below.drew ?_)))).2); intro v' wB hown hgr; have hX : Below V.heap.size V wB := ((by repeat (first | exact Below.refl _ _ | (refine Below.alloc ?_ (by first | omega | (simp; omega) | simp) _) | (refine Below.setCell ?_ (by first | omega | (simp; omega) | simp) _) | refine Below.drew ?_)) : Below V.heap.size V _).trans (grown_low hgr (by first | omega | (simp; done) | (simp; omega)) (fun r e => by cases e)); have f0 := (hX.cell (p := ⟨w.heap.size, 0, none⟩) hwV).trans v0; have f1 := (hX.cell (p := ⟨w.heap.size, 1, none⟩) hwV).trans v1; have f2 := (hX.frozen (p := ⟨w.heap.size, 0, none⟩) hwV).trans v2; have f3 := (hX.frozen (p := ⟨w.heap.size, 1, none⟩) hwV).trans v3; have HX := Lib.hid hX; have hown2 : wB.ownsRow V.heap.size 52 3 v' (nl + 1) (ms.flatMap CMark.cells ++ CMark.cells ⟨c, j, mx⟩) := own_base2 hown (by first | omega | (simp; done) | (simp; omega)); rw [← flat_snoc] at hown2; obtain ⟨a2, c2, rfl, hm2, hc2⟩ := marks_own hown2; have HO2 := Lib.hid hown2; have HC2 := Lib.hid hc2; have hwB : w.heap.size < wB.heap.size := Nat.lt_of_lt_of_le hwV hX.size; have kS := gS_of (grow_gb HX.out (some w.heap.size)); clear hown hown2 hgr hX hm2 hc2); refine hK.out _ _ ?_ (fun hHeld => ?_); (· (first | with_reducible assumption | ((repeat (first | with_reducible refine gS_drew ?_ | with_reducible refine gS_alloc _ ?_ | with_reducible refine gS_set _ _ ?_)); first | with_reducible assumption | with_reducible exact gS_of (gbx_refl _ _)))); clear hK K; (try simp only [Act.put, List.setIfInBounds_toArray, List.set_cons_zero, List.set_cons_succ])
            refine takeH 15 ?_; (try simp only [Act.put, List.setIfInBounds_toArray, List.set_cons_zero, List.set_cons_succ])
            refine takeH 16 ?_; (try simp only [Act.put, List.setIfInBounds_toArray, List.set_cons_zero, List.set_cons_succ])
            refine readyH 17 (fun K hK => ?_); go_simp; skip; refine hK.out _ _ ?_ (fun hHeld => ?_); (· (first | with_reducible assumption | ((repeat (first | with_reducible refine gS_drew ?_ | with_reducible refine gS_alloc _ ?_ | with_reducible refine gS_set _ _ ?_)); first | with_reducible assumption | with_reducible exact gS_of (gbx_refl _ _)))); clear hK K; (try simp only [Act.put, List.setIfInBounds_toArray, List.set_cons_zero, List.set_cons_succ])
            refine wpAnyH_done (by kernel_rfl) ?_ _
            refine NoPanic.normal ?_
            go_wp2_with fail
            go_roundw
            case rel =>
              have hr := HR4.out
              have hz2 := HX.out.size
              have HBB := HBV.out.trans (HX.out.mono HBV.out.size)
              refine ⟨k + 1, a2, nl + 1, c2, by omega, by go_num, by have := HNL.out; omega, ⟨by go_simp, by go_simp, by go_simp, by go_simp⟩, ?_, ?_, HC2.out, by simp; omega, ?_⟩
              · have q0 := (HBB.cell (p := ⟨w.heap.size + 1, 0, none⟩) hz1).trans hr.1
                have q1 := (HBB.cell (p := ⟨w.heap.size + 1, 1, none⟩) hz1).trans hr.2.1
                have q2 := (HBB.frozen (p := ⟨w.heap.size + 1, 0, none⟩) hz1).trans hr.2.2.1
                have q3 := (HBB.frozen (p := ⟨w.heap.size + 1, 1, none⟩) hz1).trans hr.2.2.2
                exact ⟨by go_simp, by go_simp, by go_simp, by go_simp⟩
              · rw [HMK2.out]
                obtain ⟨a3, c3, e3, hm3, -⟩ := marks_own (HO2.out.kept (gbx_set (b := w.heap.size) (grow_gb (Below.refl _ _) _) 1 (.slice a2 (nl + 1) c2)) (Or.inr (fun e => by have := own_low HO2.out _ e; omega)))
                injection e3 with e3
                subst e3
                refine ⟨hm3, fun h0 ad e => .inr ?_⟩
                have := own_low HO2.out ad.block (by rw [e]; rfl)
                omega
              · have hBB := HB.out.trans (HBB.mono (by omega))
                exact (by repeat (first | assumption | exact Below.refl _ _ | (refine Below.alloc ?_ (by first | omega | (simp; omega) | simp) _) | (refine Below.setCell ?_ (by first | omega | (simp; omega) | simp) _) | refine Below.drew ?_))
            case measure => simp [intOf]; omega
          · go_simp; refine hK.out _ _ ?_ (fun hHeld => ?_); (· (first | with_reducible assumption | ((repeat (first | with_reducible refine gS_drew ?_ | with_reducible refine gS_alloc _ ?_ | with_reducible refine gS_set _ _ ?_)); first | with_reducible assumption | with_reducible exact gS_of (gbx_refl _ _)))); clear hK K; (try simp only [Act.put, List.setIfInBounds_toArray, List.set_cons_zero, List.set_cons_succ])
            refine readyH 5 (fun K hK => ?_); go_simp; skip; refine hK.out _ _ ?_ (fun hHeld => ?_); (· (first | with_reducible assumption | ((repeat (first | with_reducible refine gS_drew ?_ | with_reducible refine gS_alloc _ ?_ | with_reducible refine gS_set _ _ ?_)); first | with_reducible assumption | with_reducible exact gS_of (gbx_refl _ _)))); clear hK K; (try simp only [Act.put, List.setIfInBounds_toArray, List.set_cons_zero, List.set_cons_succ])
            refine takeH 6 ?_; (try simp only [Act.put, List.setIfInBounds_toArray, List.set_cons_zero, List.set_cons_succ])
            refine takeH 11 ?_; (try simp only [Act.put, List.setIfInBounds_toArray, List.set_cons_zero, List.set_cons_succ])
            refine readyH 14 (fun K hK => ?_); ((with_reducible refine step_append_full _ 23 52 (.agg #[.int .i64 0, .int .i64 0, .int .i64 0]) 3 24 Try.underlying23 Try.info52 rfl (by decide) (by decide) na nl (ms.flatMap CMark.cells) (CMark.cells ⟨c, j, mx⟩) (marks_src HMV.out).1 hnl1 rfl H1C.out rfl _ _ rfl ?_ ?_ ?_ ?_); (· rfl); (· exact ⟨_, rfl, src3 (by go_simp) (by go_simp) (by go_simp)⟩); (· exact (marks_src (HMV.out.below (by repeat (first | exact Below.refl _ _ | (refine Below.alloc ?_ (by first | omega | (simp; omega) | simp) _) | (refine Below.setCell ?_ (by first | omega | (simp; omega) | simp) _) | refine Below.drew ?_)))).2); intro v' wB hown hgr; have hX : Below V.heap.size V wB := ((by repeat (first | exact Below.refl _ _ | (refine Below.alloc ?_ (by first | omega | (simp; omega) | simp) _) | (refine Below.setCell ?_ (by first | omega | (simp; omega) | simp) _) | refine Below.drew ?_)) : Below V.heap.size V _).trans (grown_low hgr (by first | omega | (simp; done) | (simp; omega)) (fun r e => by cases e)); have f0 := (hX.cell (p := ⟨w.heap.size, 0, none⟩) hwV).trans v0; have f1 := (hX.cell (p := ⟨w.heap.size, 1, none⟩) hwV).trans v1; have f2 := (hX.frozen (p := ⟨w.heap.size, 0, none⟩) hwV).trans v2; have f3 := (hX.frozen (p := ⟨w.heap.size, 1, none⟩) hwV).trans v3; have HX := Lib.hid hX; have hown2 : wB.ownsRow V.heap.size 52 3 v' (nl + 1) (ms.flatMap CMark.cells ++ CMark.cells ⟨c, j, mx⟩) := own_base2 hown (by first | omega | (simp; done) | (simp; omega)); rw [← flat_snoc] at hown2; obtain ⟨a2, c2, rfl, hm2, hc2⟩ := marks_own hown2; have HO2 := Lib.hid hown2; have HC2 := Lib.hid hc2; have hwB : w.heap.size < wB.heap.size := Nat.lt_of_lt_of_le hwV hX.size; have kS := gS_of (grow_gb HX.out (some w.heap.size)); clear hown hown2 hgr hX hm2 hc2); refine hK.out _ _ ?_ (fun hHeld => ?_); (· (first | with_reducible assumption | ((repeat (first | with_reducible refine gS_drew ?_ | with_reducible refine gS_alloc _ ?_ | with_reducible refine gS_set _ _ ?_)); first | with_reducible assumption | with_reducible exact gS_of (gbx_refl _ _)))); clear hK K; (try simp only [Act.put, List.setIfInBounds_toArray, List.set_cons_zero, List.set_cons_succ])
            refine takeH 15 ?_; (try simp only [Act.put, List.setIfInBounds_toArray, List.set_cons_zero, List.set_cons_succ])
            refine takeH 16 ?_; (try simp only [Act.put, List.setIfInBounds_toArray, List.set_cons_zero, List.set_cons_succ])
            refine readyH 17 (fun K hK => ?_); go_simp; skip; refine hK.out _ _ ?_ (fun hHeld => ?_); (· (first | with_reducible assumption | ((repeat (first | with_reducible refine gS_drew ?_ | with_reducible refine gS_alloc _ ?_ | with_reducible refine gS_set _ _ ?_)); first | with_reducible assumption | with_reducible exact gS_of (gbx_refl _ _)))); clear hK K; (try simp only [Act.put, List.setIfInBounds_toArray, List.set_cons_zero, List.set_cons_succ])
            refine wpAnyH_done (by kernel_rfl) ?_ _
            refine NoPanic.normal ?_
            go_wp2_with fail
            go_roundw
            case rel =>
              have hr := HR4.out
              have hz2 := HX.out.size
              have HBB := HBV.out.trans (HX.out.mono HBV.out.size)
              refine ⟨k + 1, a2, nl + 1, c2, by omega, by go_num, by have := HNL.out; omega, ⟨by go_simp, by go_simp, by go_simp, by go_simp⟩, ?_, ?_, HC2.out, by simp; omega, ?_⟩
              · have q0 := (HBB.cell (p := ⟨w.heap.size + 1, 0, none⟩) hz1).trans hr.1
                have q1 := (HBB.cell (p := ⟨w.heap.size + 1, 1, none⟩) hz1).trans hr.2.1
                have q2 := (HBB.frozen (p := ⟨w.heap.size + 1, 0, none⟩) hz1).trans hr.2.2.1
                have q3 := (HBB.frozen (p := ⟨w.heap.size + 1, 1, none⟩) hz1).trans hr.2.2.2
                exact ⟨by go_simp, by go_simp, by go_simp, by go_simp⟩
              · rw [HMK2.out]
                obtain ⟨a3, c3, e3, hm3, -⟩ := marks_own (HO2.out.kept (gbx_set (b := w.heap.size) (grow_gb (Below.refl _ _) _) 1 (.slice a2 (nl + 1) c2)) (Or.inr (fun e => by have := own_low HO2.out _ e; omega)))
                injection e3 with e3
                subst e3
                refine ⟨hm3, fun h0 ad e => .inr ?_⟩
                have := own_low HO2.out ad.block (by rw [e]; rfl)
                omega
              · have hBB := HB.out.trans (HBB.mono (by omega))
                exact (by repeat (first | assumption | exact Below.refl _ _ | (refine Below.alloc ?_ (by first | omega | (simp; omega) | simp) _) | (refine Below.setCell ?_ (by first | omega | (simp; omega) | simp) _) | refine Below.drew ?_))
            case measure => simp [intOf]; omega
        · go_simp; refine hK.out _ _ ?_ (fun hHeld => ?_); (· (first | with_reducible assumption | ((repeat (first | with_reducible refine gS_drew ?_ | with_reducible refine gS_alloc _ ?_ | with_reducible refine gS_set _ _ ?_)); first | with_reducible assumption | with_reducible exact gS_of (gbx_refl _ _)))); clear hK K; (try simp only [Act.put, List.setIfInBounds_toArray, List.set_cons_zero, List.set_cons_succ])
          refine takeH 6 ?_; (try simp only [Act.put, List.setIfInBounds_toArray, List.set_cons_zero, List.set_cons_succ])
          refine wpAnyH_ready (rs := [2, 13]) (by kernel_rfl) (by simp) ?_
          refine AllReadyH.cons (o := ?_) ?_ (fun K hK => ?_) ?_
          rotate_left 1
          · simp only [List.getElem?_toArray, List.getElem?_cons_succ, List.getElem?_cons_zero]; with_reducible rfl
          rotate_left 1
          refine AllReadyH.cons (o := ?_) ?_ (fun K hK => ?_) AllReadyH.nil
          rotate_left 1
          · simp only [List.getElem?_toArray, List.getElem?_cons_succ, List.getElem?_cons_zero]; with_reducible rfl
          rotate_left 1
          · go_simp; refine hK.out _ _ ?_ (fun hHeld => ?_); (· (first | with_reducible assumption | ((repeat (first | with_reducible refine gS_drew ?_ | with_reducible refine gS_alloc _ ?_ | with_reducible refine gS_set _ _ ?_)); first | with_reducible assumption | with_reducible exact gS_of (gbx_refl _ _)))); clear hK K; (try simp only [Act.put, List.setIfInBounds_toArray, List.set_cons_zero, List.set_cons_succ])
            refine takeH 11 ?_; (try simp only [Act.put, List.setIfInBounds_toArray, List.set_cons_zero, List.set_cons_succ])
            refine readyH 13 (fun K hK => ?_); go_simp; skip; refine hK.out _ _ ?_ (fun hHeld => ?_); (· (first | with_reducible assumption | ((repeat (first | with_reducible refine gS_drew ?_ | with_reducible refine gS_alloc _ ?_ | with_reducible refine gS_set _ _ ?_)); first | with_reducible assumption | with_reducible exact gS_of (gbx_refl _ _)))); clear hK K; (try simp only [Act.put, List.setIfInBounds_toArray, List.set_cons_zero, List.set_cons_succ])
            refine readyH 14 (fun K hK => ?_); ((with_reducible refine step_append_full _ 23 52 (.agg #[.int .i64 0, .int .i64 0, .int .i64 0]) 3 24 Try.underlying23 Try.info52 rfl (by decide) (by decide) na nl (ms.flatMap CMark.cells) (CMark.cells ⟨c, j, mx⟩) (marks_src HMV.out).1 hnl1 rfl H1C.out rfl _ _ rfl ?_ ?_ ?_ ?_); (· rfl); (· exact ⟨_, rfl, src3 (by go_simp) (by go_simp) (by go_simp)⟩); (· exact (marks_src (HMV.out.below (by repeat (first | exact Below.refl _ _ | (refine Below.alloc ?_ (by first | omega | (simp; omega) | simp) _) | (refine Below.setCell ?_ (by first | omega | (simp; omega) | simp) _) | refine Below.drew ?_)))).2); intro v' wB hown hgr; have hX : Below V.heap.size V wB := ((by repeat (first | exact Below.refl _ _ | (refine Below.alloc ?_ (by first | omega | (simp; omega) | simp) _) | (refine Below.setCell ?_ (by first | omega | (simp; omega) | simp) _) | refine Below.drew ?_)) : Below V.heap.size V _).trans (grown_low hgr (by first | omega | (simp; done) | (simp; omega)) (fun r e => by cases e)); have f0 := (hX.cell (p := ⟨w.heap.size, 0, none⟩) hwV).trans v0; have f1 := (hX.cell (p := ⟨w.heap.size, 1, none⟩) hwV).trans v1; have f2 := (hX.frozen (p := ⟨w.heap.size, 0, none⟩) hwV).trans v2; have f3 := (hX.frozen (p := ⟨w.heap.size, 1, none⟩) hwV).trans v3; have HX := Lib.hid hX; have hown2 : wB.ownsRow V.heap.size 52 3 v' (nl + 1) (ms.flatMap CMark.cells ++ CMark.cells ⟨c, j, mx⟩) := own_base2 hown (by first | omega | (simp; done) | (simp; omega)); rw [← flat_snoc] at hown2; obtain ⟨a2, c2, rfl, hm2, hc2⟩ := marks_own hown2; have HO2 := Lib.hid hown2; have HC2 := Lib.hid hc2; have hwB : w.heap.size < wB.heap.size := Nat.lt_of_lt_of_le hwV hX.size; have kS := gS_of (grow_gb HX.out (some w.heap.size)); clear hown hown2 hgr hX hm2 hc2); refine hK.out _ _ ?_ (fun hHeld => ?_); (· (first | with_reducible assumption | ((repeat (first | with_reducible refine gS_drew ?_ | with_reducible refine gS_alloc _ ?_ | with_reducible refine gS_set _ _ ?_)); first | with_reducible assumption | with_reducible exact gS_of (gbx_refl _ _)))); clear hK K; (try simp only [Act.put, List.setIfInBounds_toArray, List.set_cons_zero, List.set_cons_succ])
            refine takeH 15 ?_; (try simp only [Act.put, List.setIfInBounds_toArray, List.set_cons_zero, List.set_cons_succ])
            refine takeH 16 ?_; (try simp only [Act.put, List.setIfInBounds_toArray, List.set_cons_zero, List.set_cons_succ])
            refine readyH 17 (fun K hK => ?_); go_simp; skip; refine hK.out _ _ ?_ (fun hHeld => ?_); (· (first | with_reducible assumption | ((repeat (first | with_reducible refine gS_drew ?_ | with_reducible refine gS_alloc _ ?_ | with_reducible refine gS_set _ _ ?_)); first | with_reducible assumption | with_reducible exact gS_of (gbx_refl _ _)))); clear hK K; (try simp only [Act.put, List.setIfInBounds_toArray, List.set_cons_zero, List.set_cons_succ])
            refine wpAnyH_done (by kernel_rfl) ?_ _
            refine NoPanic.normal ?_
            go_wp2_with fail
            go_roundw
            case rel =>
              have hr := HR4.out
              have hz2 := HX.out.size
              have HBB := HBV.out.trans (HX.out.mono HBV.out.size)
              refine ⟨k + 1, a2, nl + 1, c2, by omega, by go_num, by have := HNL.out; omega, ⟨by go_simp, by go_simp, by go_simp, by go_simp⟩, ?_, ?_, HC2.out, by simp; omega, ?_⟩
              · have q0 := (HBB.cell (p := ⟨w.heap.size + 1, 0, none⟩) hz1).trans hr.1
                have q1 := (HBB.cell (p := ⟨w.heap.size + 1, 1, none⟩) hz1).trans hr.2.1
                have q2 := (HBB.frozen (p := ⟨w.heap.size + 1, 0, none⟩) hz1).trans hr.2.2.1
                have q3 := (HBB.frozen (p := ⟨w.heap.size + 1, 1, none⟩) hz1).trans hr.2.2.2
                exact ⟨by go_simp, by go_simp, by go_simp, by go_simp⟩
              · rw [HMK2.out]
                obtain ⟨a3, c3, e3, hm3, -⟩ := marks_own (HO2.out.kept (gbx_set (b := w.heap.size) (grow_gb (Below.refl _ _) _) 1 (.slice a2 (nl + 1) c2)) (Or.inr (fun e => by have := own_low HO2.out _ e; omega)))
                injection e3 with e3
                subst e3
                refine ⟨hm3, fun h0 ad e => .inr ?_⟩
                have := own_low HO2.out ad.block (by rw [e]; rfl)
                omega
              · have hBB := HB.out.trans (HBB.mono (by omega))
                exact (by repeat (first | assumption | exact Below.refl _ _ | (refine Below.alloc ?_ (by first | omega | (simp; omega) | simp) _) | (refine Below.setCell ?_ (by first | omega | (simp; omega) | simp) _) | refine Below.drew ?_))
            case measure => simp [intOf]; omega
          · go_simp; refine hK.out _ _ ?_ (fun hHeld => ?_); (· (first | with_reducible assumption | ((repeat (first | with_reducible refine gS_drew ?_ | with_reducible refine gS_alloc _ ?_ | with_reducible refine gS_set _ _ ?_)); first | with_reducible assumption | with_reducible exact gS_of (gbx_refl _ _)))); clear hK K; (try simp only [Act.put, List.setIfInBounds_toArray, List.set_cons_zero, List.set_cons_succ])
            refine readyH 2 (fun K hK => ?_); go_simp; skip; refine hK.out _ _ ?_ (fun hHeld => ?_); (· (first | with_reducible assumption | ((repeat (first | with_reducible refine gS_drew ?_ | with_reducible refine gS_alloc _ ?_ | with_reducible refine gS_set _ _ ?_)); first | with_reducible assumption | with_reducible exact gS_of (gbx_refl _ _)))); clear hK K; (try simp only [Act.put, List.setIfInBounds_toArray, List.set_cons_zero, List.set_cons_succ])
            refine takeH 11 ?_; (try simp only [Act.put, List.setIfInBounds_toArray, List.set_cons_zero, List.set_cons_succ])
            refine readyH 14 (fun K hK => ?_); ((with_reducible refine step_append_full _ 23 52 (.agg #[.int .i64 0, .int .i64 0, .int .i64 0]) 3 24 Try.underlying23 Try.info52 rfl (by decide) (by decide) na nl (ms.flatMap CMark.cells) (CMark.cells ⟨c, j, mx⟩) (marks_src HMV.out).1 hnl1 rfl H1C.out rfl _ _ rfl ?_ ?_ ?_ ?_); (· rfl); (· exact ⟨_, rfl, src3 (by go_simp) (by go_simp) (by go_simp)⟩); (· exact (marks_src (HMV.out.below (by repeat (first | exact Below.refl _ _ | (refine Below.alloc ?_ (by first | omega | (simp; omega) | simp) _) | (refine Below.setCell ?_ (by first | omega | (simp; omega) | simp) _) | refine Below.drew ?_)))).2); intro v' wB hown hgr; have hX : Below V.heap.size V wB := ((by repeat (first | exact Below.refl _ _ | (refine Below.alloc ?_ (by first | omega | (simp; omega) | simp) _) | (refine Below.setCell ?_ (by first | omega | (simp; omega) | simp) _) | refine Below.drew ?_)) : Below V.heap.size V _).trans (grown_low hgr (by first | omega | (simp; done) | (simp; omega)) (fun r e => by cases e)); have f0 := (hX.cell (p := ⟨w.heap.size, 0, none⟩) hwV).trans v0; have f1 := (hX.cell (p := ⟨w.heap.size, 1, none⟩) hwV).trans v1; have f2 := (hX.frozen (p := ⟨w.heap.size, 0, none⟩) hwV).trans v2; have f3 := (hX.frozen (p := ⟨w.heap.size, 1, none⟩) hwV).trans v3; have HX := Lib.hid hX; have hown2 : wB.ownsRow V.heap.size 52 3 v' (nl + 1) (ms.flatMap CMark.cells ++ CMark.cells ⟨c, j, mx⟩) := own_base2 hown (by first | omega | (simp; done) | (simp; omega)); rw [← flat_snoc] at hown2; obtain ⟨a2, c2, rfl, hm2, hc2⟩ := marks_own hown2; have HO2 := Lib.hid hown2; have HC2 := Lib.hid hc2; have hwB : w.heap.size < wB.heap.size := Nat.lt_of_lt_of_le hwV hX.size; have kS := gS_of (grow_gb HX.out (some w.heap.size)); clear hown hown2 hgr hX hm2 hc2); refine hK.out _ _ ?_ (fun hHeld => ?_); (· (first | with_reducible assumption | ((repeat (first | with_reducible refine gS_drew ?_ | with_reducible refine gS_alloc _ ?_ | with_reducible refine gS_set _ _ ?_)); first | with_reducible assumption | with_reducible exact gS_of (gbx_refl _ _)))); clear hK K; (try simp only [Act.put, List.setIfInBounds_toArray, List.set_cons_zero, List.set_cons_succ])
            refine takeH 15 ?_; (try simp only [Act.put, List.setIfInBounds_toArray, List.set_cons_zero, List.set_cons_succ])
            refine takeH 16 ?_; (try simp only [Act.put, List.setIfInBounds_toArray, List.set_cons_zero, List.set_cons_succ])
            refine readyH 17 (fun K hK => ?_); go_simp; skip; refine hK.out _ _ ?_ (fun hHeld => ?_); (· (first | with_reducible assumption | ((repeat (first | with_reducible refine gS_drew ?_ | with_reducible refine gS_alloc _ ?_ | with_reducible refine gS_set _ _ ?_)); first | with_reducible assumption | with_reducible exact gS_of (gbx_refl _ _)))); clear hK K; (try simp only [Act.put, List.setIfInBounds_toArray, List.set_cons_zero, List.set_cons_succ])
            refine wpAnyH_done (by kernel_rfl) ?_ _
            refine NoPanic.normal ?_
            go_wp2_with fail
            go_roundw
            case rel =>
              have hr := HR4.out
              have hz2 := HX.out.size
              have HBB := HBV.out.trans (HX.out.mono HBV.out.size)
              refine ⟨k + 1, a2, nl + 1, c2, by omega, by go_num, by have := HNL.out; omega, ⟨by go_simp, by go_simp, by go_simp, by go_simp⟩, ?_, ?_, HC2.out, by simp; omega, ?_⟩
              · have q0 := (HBB.cell (p := ⟨w.heap.size + 1, 0, none⟩) hz1).trans hr.1
                have q1 := (HBB.cell (p := ⟨w.heap.size + 1, 1, none⟩) hz1).trans hr.2.1
                have q2 := (HBB.frozen (p := ⟨w.heap.size + 1, 0, none⟩) hz1).trans hr.2.2.1
                have q3 := (HBB.frozen (p := ⟨w.heap.size + 1, 1, none⟩) hz1).trans hr.2.2.2
                exact ⟨by go_simp, by go_simp, by go_simp, by go_simp⟩
              · rw [HMK2.out]
                obtain ⟨a3, c3, e3, hm3, -⟩ := marks_own (HO2.out.kept (gbx_set (b := w.heap.size) (grow_gb (Below.refl _ _) _) 1 (.slice a2 (nl + 1) c2)) (Or.inr (fun e => by have := own_low HO2.out _ e; omega)))
                injection e3 with e3
                subst e3
                refine ⟨hm3, fun h0 ad e => .inr ?_⟩
                have := own_low HO2.out ad.block (by rw [e]; rfl)
                omega
              · have hBB := HB.out.trans (HBB.mono (by omega))
                exact (by repeat (first | assumption | exact Below.refl _ _ | (refine Below.alloc ?_ (by first | omega | (simp; omega) | simp) _) | (refine Below.setCell ?_ (by first | omega | (simp; omega) | simp) _) | refine Below.drew ?_))
            case measure => simp [intOf]; omega
        · go_simp; refine hK.out _ _ ?_ (fun hHeld => ?_); (· (first | with_reducible assumption | ((repeat (first | with_reducible refine gS_drew ?_ | with_reducible refine gS_alloc _ ?_ | with_reducible refine gS_set _ _ ?_)); first | with_reducible assumption | with_reducible exact gS_of (gbx_refl _ _)))); clear hK K; (try simp only [Act.put, List.setIfInBounds_toArray, List.set_cons_zero, List.set_cons_succ])
          refine wpAnyH_ready (rs := [2, 5]) (by kernel_rfl) (by simp) ?_
          refine AllReadyH.cons (o := ?_) ?_ (fun K hK => ?_) ?_
          rotate_left 1
          · simp only [List.getElem?_toArray, List.getElem?_cons_succ, List.getElem?_cons_zero]; with_reducible rfl
          rotate_left 1
          refine AllReadyH.cons (o := ?_) ?_ (fun K hK => ?_) AllReadyH.nil
          rotate_left 1
          · simp only [List.getElem?_toArray, List.getElem?_cons_succ, List.getElem?_cons_zero]; with_reducible rfl
          rotate_left 1
          · go_simp; refine hK.out _ _ ?_ (fun hHeld => ?_); (· (first | with_reducible assumption | ((repeat (first | with_reducible refine gS_drew ?_ | with_reducible refine gS_alloc _ ?_ | with_reducible refine gS_set _ _ ?_)); first | with_reducible assumption | with_reducible exact gS_of (gbx_refl _ _)))); clear hK K; (try simp only [Act.put, List.setIfInBounds_toArray, List.set_cons_zero, List.set_cons_succ])
            refine readyH 5 (fun K hK => ?_); go_simp; skip; refine hK.out _ _ ?_ (fun hHeld => ?_); (· (first | with_reducible assumption | ((repeat (first | with_reducible refine gS_drew ?_ | with_reducible refine gS_alloc _ ?_ | with_reducible refine gS_set _ _ ?_)); first | with_reducible assumption | with_reducible exact gS_of (gbx_refl _ _)))); clear hK K; (try simp only [Act.put, List.setIfInBounds_toArray, List.set_cons_zero, List.set_cons_succ])
            refine takeH 6 ?_; (try simp only [Act.put, List.setIfInBounds_toArray, List.set_cons_zero, List.set_cons_succ])
            refine takeH 11 ?_; (try simp only [Act.put, List.setIfInBounds_toArray, List.set_cons_zero, List.set_cons_succ])
            refine readyH 14 (fun K hK => ?_); ((with_reducible refine step_append_full _ 23 52 (.agg #[.int .i64 0, .int .i64 0, .int .i64 0]) 3 24 Try.underlying23 Try.info52 rfl (by decide) (by decide) na nl (ms.flatMap CMark.cells) (CMark.cells ⟨c, j, mx⟩) (marks_src HMV.out).1 hnl1 rfl H1C.out rfl _ _ rfl ?_ ?_ ?_ ?_); (· rfl); (· exact ⟨_, rfl, src3 (by go_simp) (by go_simp) (by go_simp)⟩); (· exact (marks_src (HMV.out.below (by repeat (first | exact Below.refl _ _ | (refine Below.alloc ?_ (by first | omega | (simp; omega) | simp) _) | (refine Below.setCell ?_ (by first | omega | (simp; omega) | simp) _) | refine Below.drew ?_)))).2); intro v' wB hown hgr; have hX : Below V.heap.size V wB := ((by repeat (first | exact Below.refl _ _ | (refine Below.alloc ?_ (by first | omega | (simp; omega) | simp) _) | (refine Below.setCell ?_ (by first | omega | (simp; omega) | simp) _) | refine Below.drew ?_)) : Below V.heap.size V _).trans (grown_low hgr (by first | omega | (simp; done) | (simp; omega)) (fun r e => by cases e)); have f0 := (hX.cell (p := ⟨w.heap.size, 0, none⟩) hwV).trans v0; have f1 := (hX.cell (p := ⟨w.heap.size, 1, none⟩) hwV).trans v1; have f2 := (hX.frozen (p := ⟨w.heap.size, 0, none⟩) hwV).trans v2; have f3 := (hX.frozen (p := ⟨w.heap.size, 1, none⟩) hwV).trans v3; have HX := Lib.hid hX; have hown2 : wB.ownsRow V.heap.size 52 3 v' (nl + 1) (ms.flatMap CMark.cells ++ CMark.cells ⟨c, j, mx⟩) := own_base2 hown (by first | omega | (simp; done) | (simp; omega)); rw [← flat_snoc] at hown2; obtain ⟨a2, c2, rfl, hm2, hc2⟩ := marks_own hown2; have HO2 := Lib.hid hown2; have HC2 := Lib.hid hc2; have hwB : w.heap.size < wB.heap.size := Nat.lt_of_lt_of_le hwV hX.size; have kS := gS_of (grow_gb HX.out (some w.heap.size)); clear hown hown2 hgr hX hm2 hc2); refine hK.out _ _ ?_ (fun hHeld => ?_); (· (first | with_reducible assumption | ((repeat (first | with_reducible refine gS_drew ?_ | with_reducible refine gS_alloc _ ?_ | with_reducible refine gS_set _ _ ?_)); first | with_reducible assumption | with_reducible exact gS_of (gbx_refl _ _)))); clear hK K; (try simp only [Act.put, List.setIfInBounds_toArray, List.set_cons_zero, List.set_cons_succ])
            refine takeH 15 ?_; (try simp only [Act.put, List.setIfInBounds_toArray, List.set_cons_zero, List.set_cons_succ])
            refine takeH 16 ?_; (try simp only [Act.put, List.setIfInBounds_toArray, List.set_cons_zero, List.set_cons_succ])
            refine readyH 17 (fun K hK => ?_); go_simp; skip; refine hK.out _ _ ?_ (fun hHeld => ?_); (· (first | with_reducible assumption | ((repeat (first | with_reducible refine gS_drew ?_ | with_reducible refine gS_alloc _ ?_ | with_reducible refine gS_set _ _ ?_)); first | with_reducible assumption | with_reducible exact gS_of (gbx_refl _ _)))); clear hK K; (try simp only [Act.put, List.setIfInBounds_toArray, List.set_cons_zero, List.set_cons_succ])
            refine wpAnyH_done (by kernel_rfl) ?_ _
            refine NoPanic.normal ?_
            go_wp2_with fail
            go_roundw
            case rel =>
              have hr := HR4.out
              have hz2 := HX.out.size
              have HBB := HBV.out.trans (HX.out.mono HBV.out.size)
              refine ⟨k + 1, a2, nl + 1, c2, by omega, by go_num, by have := HNL.out; omega, ⟨by go_simp, by go_simp, by go_simp, by go_simp⟩, ?_, ?_, HC2.out, by simp; omega, ?_⟩
              · have q0 := (HBB.cell (p := ⟨w.heap.size + 1, 0, none⟩) hz1).trans hr.1
                have q1 := (HBB.cell (p := ⟨w.heap.size + 1, 1, none⟩) hz1).trans hr.2.1
                have q2 := (HBB.frozen (p := ⟨w.heap.size + 1, 0, none⟩) hz1).trans hr.2.2.1
                have q3 := (HBB.frozen (p := ⟨w.heap.size + 1, 1, none⟩) hz1).trans hr.2.2.2
                exact ⟨by go_simp, by go_simp, by go_simp, by go_simp⟩
              · rw [HMK2.out]
                obtain ⟨a3, c3, e3, hm3, -⟩ := marks_own (HO2.out.kept (gbx_set (b := w.heap.size) (grow_gb (Below.refl _ _) _) 1 (.slice a2 (nl + 1) c2)) (Or.inr (fun e => by have := own_low HO2.out _ e; omega)))
                injection e3 with e3
                subst e3
                refine ⟨hm3, fun h0 ad e => .inr ?_⟩
                have := own_low HO2.out ad.block (by rw [e]; rfl)
                omega
              · have hBB := HB.out.trans (HBB.mono (by omega))
                exact (by repeat (first | assumption | exact Below.refl _ _ | (refine Below.alloc ?_ (by first | omega | (simp; omega) | simp) _) | (refine Below.setCell ?_ (by first | omega | (simp; omega) | simp) _) | refine Below.drew ?_))
            case measure => simp [intOf]; omega
          · go_simp; refine hK.out _ _ ?_ (fun hHeld => ?_); (· (first | with_reducible assumption | ((repeat (first | with_reducible refine gS_drew ?_ | with_reducible refine gS_alloc _ ?_ | with_reducible refine gS_set _ _ ?_)); first | with_reducible assumption | with_reducible exact gS_of (gbx_refl _ _)))); clear hK K; (try simp only [Act.put, List.setIfInBounds_toArray, List.set_cons_zero, List.set_cons_succ])
            refine takeH 6 ?_; (try simp only [Act.put, List.setIfInBounds_toArray, List.set_cons_zero, List.set_cons_succ])
            refine readyH 2 (fun K hK => ?_); go_simp; skip; refine hK.out _ _ ?_ (fun hHeld => ?_); (· (first | with_reducible assumption | ((repeat (first | with_reducible refine gS_drew ?_ | with_reducible refine gS_alloc _ ?_ | with_reducible refine gS_set _ _ ?_)); first | with_reducible assumption | with_reducible exact gS_of (gbx_refl _ _)))); clear hK K; (try simp only [Act.put, List.setIfInBounds_toArray, List.set_cons_zero, List.set_cons_succ])
            refine takeH 11 ?_; (try simp only [Act.put, List.setIfInBounds_toArray, List.set_cons_zero, List.set_cons_succ])
            refine readyH 14 (fun K hK => ?_); ((with_reducible refine step_append_full _ 23 52 (.agg #[.int .i64 0, .int .i64 0, .int .i64 0]) 3 24 Try.underlying23 Try.info52 rfl (by decide) (by decide) na nl (ms.flatMap CMark.cells) (CMark.cells ⟨c, j, mx⟩) (marks_src HMV.out).1 hnl1 rfl H1C.out rfl _ _ rfl ?_ ?_ ?_ ?_); (· rfl); (· exact ⟨_, rfl, src3 (by go_simp) (by go_simp) (by go_simp)⟩); (· exact (marks_src (HMV.out.below (by repeat (first | exact Below.refl _ _ | (refine Below.alloc ?_ (by first | omega | (simp; omega) | simp) _) | (refine Below.setCell ?_ (by first | omega | (simp; omega) | simp) _) | refine Below.drew ?_)))).2); intro v' wB hown hgr; have hX : Below V.heap.size V wB := ((by repeat (first | exact Below.refl _ _ | (refine Below.alloc ?_ (by first | omega | (simp; omega) | simp) _) | (refine Below.setCell ?_ (by first | omega | (simp; omega) | simp) _) | refine Below.drew ?_)) : Below V.heap.size V _).trans (grown_low hgr (by first | omega | (simp; done) | (simp; omega)) (fun r e => by cases e)); have f0 := (hX.cell (p := ⟨w.heap.size, 0, none⟩) hwV).trans v0; have f1 := (hX.cell (p := ⟨w.heap.size, 1, none⟩) hwV).trans v1; have f2 := (hX.frozen (p := ⟨w.heap.size, 0, none⟩) hwV).trans v2; have f3 := (hX.frozen (p := ⟨w.heap.size, 1, none⟩) hwV).trans v3; have HX := Lib.hid hX; have hown2 : wB.ownsRow V.heap.size 52 3 v' (nl + 1) (ms.flatMap CMark.cells ++ CMark.cells ⟨c, j, mx⟩) := own_base2 hown (by first | omega | (simp; done) | (simp; omega)); rw [← flat_snoc] at hown2; obtain ⟨a2, c2, rfl, hm2, hc2⟩ := marks_own hown2; have HO2 := Lib.hid hown2; have HC2 := Lib.hid hc2; have hwB : w.heap.size < wB.heap.size := Nat.lt_of_lt_of_le hwV hX.size; have kS := gS_of (grow_gb HX.out (some w.heap.size)); clear hown hown2 hgr hX hm2 hc2); refine hK.out _ _ ?_ (fun hHeld => ?_); (· (first | with_reducible assumption | ((repeat (first | with_reducible refine gS_drew ?_ | with_reducible refine gS_alloc _ ?_ | with_reducible refine gS_set _ _ ?_)); first | with_reducible assumption | with_reducible exact gS_of (gbx_refl _ _)))); clear hK K; (try simp only [Act.put, List.setIfInBounds_toArray, List.set_cons_zero, List.set_cons_succ])
            refine takeH 15 ?_; (try simp only [Act.put, List.setIfInBounds_toArray, List.set_cons_zero, List.set_cons_succ])
            refine takeH 16 ?_; (try simp only [Act.put, List.setIfInBounds_toArray, List.set_cons_zero, List.set_cons_succ])
            refine readyH 17 (fun K hK => ?_); go_simp; skip; refine hK.out _ _ ?_ (fun hHeld => ?_); (· (first | with_reducible assumption | ((repeat (first | with_reducible refine gS_drew ?_ | with_reducible refine gS_alloc _ ?_ | with_reducible refine gS_set _ _ ?_)); first | with_reducible assumption | with_reducible exact gS_of (gbx_refl _ _)))); clear hK K; (try simp only [Act.put, List.setIfInBounds_toArray, List.set_cons_zero, List.set_cons_succ])
            refine wpAnyH_done (by kernel_rfl) ?_ _
            refine NoPanic.normal ?_
            go_wp2_with fail
            go_roundw
            case rel =>
              have hr := HR4.out
              have hz2 := HX.out.size
              have HBB := HBV.out.trans (HX.out.mono HBV.out.size)
              refine ⟨k + 1, a2, nl + 1, c2, by omega, by go_num, by have := HNL.out; omega, ⟨by go_simp, by go_simp, by go_simp, by go_simp⟩, ?_, ?_, HC2.out, by simp; omega, ?_⟩
              · have q0 := (HBB.cell (p := ⟨w.heap.size + 1, 0, none⟩) hz1).trans hr.1
                have q1 := (HBB.cell (p := ⟨w.heap.size + 1, 1, none⟩) hz1).trans hr.2.1
                have q2 := (HBB.frozen (p := ⟨w.heap.size + 1, 0, none⟩) hz1).trans hr.2.2.1
                have q3 := (HBB.frozen (p := ⟨w.heap.size + 1, 1, none⟩) hz1).trans hr.2.2.2
                exact ⟨by go_simp, by go_simp, by go_simp, by go_simp⟩
              · rw [HMK2.out]
                obtain ⟨a3, c3, e3, hm3, -⟩ := marks_own (HO2.out.kept (gbx_set (b := w.heap.size) (grow_gb (Below.refl _ _) _) 1 (.slice a2 (nl + 1) c2)) (Or.inr (fun e => by have := own_low HO2.out _ e; omega)))
                injection e3 with e3
                subst e3
                refine ⟨hm3, fun h0 ad e => .inr ?_⟩
                have := own_low HO2.out ad.block (by rw [e]; rfl)
                omega
              · have hBB := HB.out.trans (HBB.mono (by omega))
                exact (by repeat (first | assumption | exact Below.refl _ _ | (refine Below.alloc ?_ (by first | omega | (simp; omega) | simp) _) | (refine Below.setCell ?_ (by first | omega | (simp; omega) | simp) _) | refine Below.drew ?_))
            case measure => simp [intOf]; omega
      · go_simp; refine hK.out _ _ ?_ (fun hHeld => ?_); (· (first | with_reducible assumption | ((repeat (first | with_reducible refine gS_drew ?_ | with_reducible refine gS_alloc _ ?_ | with_reducible refine gS_set _ _ ?_)); first | with_reducible assumption | with_reducible exact gS_of (gbx_refl _ _)))); clear hK K; (try simp only [Act.put, List.setIfInBounds_toArray, List.set_cons_zero, List.set_cons_succ])
        refine wpAnyH_ready (rs := [2, 5, 9]) (by kernel_rfl) (by simp) ?_
        refine AllReadyH.cons (o := ?_) ?_ (fun K hK => ?_) ?_
        rotate_left 1
        · simp only [List.getElem?_toArray, List.getElem?_cons_succ, List.getElem?_cons_zero]; with_reducible rfl
        rotate_left 1
        refine AllReadyH.cons (o := ?_) ?_ (fun K hK => ?_) ?_
        rotate_left 1
        · simp only [List.getElem?_toArray, List.getElem?_cons_succ, List.getElem?_cons_zero]; with_reducible rfl
        rotate_left 1
        refine AllReadyH.cons (o := ?_) ?_ (fun K hK => ?_) AllReadyH.nil
        rotate_left 1
        · simp only [List.getElem?_toArray, List.getElem?_cons_succ, List.getElem?_cons_zero]; with_reducible rfl
        rotate_left 1
        · go_simp; refine hK.out _ _ ?_ (fun hHeld => ?_); (· (first | with_reducible assumption | ((repeat (first | with_reducible refine gS_drew ?_ | with_reducible refine gS_alloc _ ?_ | with_reducible refine gS_set _ _ ?_)); first | with_reducible assumption | with_reducible exact gS_of (gbx_refl _ _)))); clear hK K; (try simp only [Act.put, List.setIfInBounds_toArray, List.set_cons_zero, List.set_cons_succ])
          refine wpAnyH_ready (rs := [5, 9]) (by kernel_rfl) (by simp) ?_
          refine AllReadyH.cons (o := ?_) ?_ (fun K hK => ?_) ?_
          rotate_left 1
          · simp only [List.getElem?_toArray, List.getElem?_cons_succ, List.getElem?_cons_zero]; with_reducible rfl
          rotate_left 1
          refine AllReadyH.cons (o := ?_) ?_ (fun K hK => ?_) AllReadyH.nil
          rotate_left 1
          · simp only [List.getElem?_toArray, List.getElem?_cons_succ, List.getElem?_cons_zero]; with_reducible rfl
          rotate_left 1
          · go_simp; refine hK.out _ _ ?_ (fun hHeld => ?_); (· (first | with_reducible assumption | ((repeat (first | with_reducible refine gS_drew ?_ | with_reducible refine gS_alloc _ ?_ | with_reducible refine gS_set _ _ ?_)); first | with_reducible assumption | with_reducible exact gS_of (gbx_refl _ _)))); clear hK K; (try simp only [Act.put, List.setIfInBounds_toArray, List.set_cons_zero, List.set_cons_succ])
            refine takeH 6 ?_; (try simp only [Act.put, List.setIfInBounds_toArray, List.set_cons_zero, List.set_cons_succ])
            refine readyH 9 (fun K hK => ?_); go_simp; skip; refine hK.out _ _ ?_ (fun hHeld => ?_); (· (first | with_reducible assumption | ((repeat (first | with_reducible refine gS_drew ?_ | with_reducible refine gS_alloc _ ?_ | with_reducible refine gS_set _ _ ?_)); first | with_reducible assumption | with_reducible exact gS_of (gbx_refl _ _)))); clear hK K; (try simp only [Act.put, List.setIfInBounds_toArray, List.set_cons_zero, List.set_cons_succ])
            refine takeH 10 ?_; (try simp only [Act.put, List.setIfInBounds_toArray, List.set_cons_zero, List.set_cons_succ])
            refine takeH 11 ?_; (try simp only [Act.put, List.setIfInBounds_toArray, List.set_cons_zero, List.set_cons_succ])
            refine readyH 14 (fun K hK => ?_); ((with_reducible refine step_append_full _ 23 52 (.agg #[.int .i64 0, .int .i64 0, .int .i64 0]) 3 24 Try.underlying23 Try.info52 rfl (by decide) (by decide) na nl (ms.flatMap CMark.cells) (CMark.cells ⟨c, j, mx⟩) (marks_src HMV.out).1 hnl1 rfl H1C.out rfl _ _ rfl ?_ ?_ ?_ ?_); (· rfl); (· exact ⟨_, rfl, src3 (by go_simp) (by go_simp) (by go_simp)⟩); (· exact (marks_src (HMV.out.below (by repeat (first | exact Below.refl _ _ | (refine Below.alloc ?_ (by first | omega | (simp; omega) | simp) _) | (refine Below.setCell ?_ (by first | omega | (simp; omega) | simp) _) | refine Below.drew ?_)))).2); intro v' wB hown hgr; have hX : Below V.heap.size V wB := ((by repeat (first | exact Below.refl _ _ | (refine Below.alloc ?_ (by first | omega | (simp; omega) | simp) _) | (refine Below.setCell ?_ (by first | omega | (simp; omega) | simp) _) | refine Below.drew ?_)) : Below V.heap.size V _).trans (grown_low hgr (by first | omega | (simp; done) | (simp; omega)) (fun r e => by cases e)); have f0 := (hX.cell (p := ⟨w.heap.size, 0, none⟩) hwV).trans v0; have f1 := (hX.cell (p := ⟨w.heap.size, 1, none⟩) hwV).trans v1; have f2 := (hX.frozen (p := ⟨w.heap.size, 0, none⟩) hwV).trans v2; have f3 := (hX.frozen (p := ⟨w.heap.size, 1, none⟩) hwV).trans v3; have HX := Lib.hid hX; have hown2 : wB.ownsRow V.heap.size 52 3 v' (nl + 1) (ms.flatMap CMark.cells ++ CMark.cells ⟨c, j, mx⟩) := own_base2 hown (by first | omega | (simp; done) | (simp; omega)); rw [← flat_snoc] at hown2; obtain ⟨a2, c2, rfl, hm2, hc2⟩ := marks_own hown2; have HO2 := Lib.hid hown2; have HC2 := Lib.hid hc2; have hwB : w.heap.size < wB.heap.size := Nat.lt_of_lt_of_le hwV hX.size; have kS := gS_of (grow_gb HX.out (some w.heap.size)); clear hown hown2 hgr hX hm2 hc2); refine hK.out _ _ ?_ (fun hHeld => ?_); (· (first | with_reducible assumption | ((repeat (first | with_reducible refine gS_drew ?_ | with_reducible refine gS_alloc _ ?_ | with_reducible refine gS_set _ _ ?_)); first | with_reducible assumption | with_reducible exact gS_of (gbx_refl _ _)))); clear hK K; (try simp only [Act.put, List.setIfInBounds_toArray, List.set_cons_zero, List.set_cons_succ])
            refine takeH 15 ?_; (try simp only [Act.put, List.setIfInBounds_toArray, List.set_cons_zero, List.set_cons_succ])
            refine takeH 16 ?_; (try simp only [Act.put, List.setIfInBounds_toArray, List.set_cons_zero, List.set_cons_succ])
            refine readyH 17 (fun K hK => ?_); go_simp; skip; refine hK.out _ _ ?_ (fun hHeld => ?_); (· (first | with_reducible assumption | ((repeat (first | with_reducible refine gS_drew ?_ | with_reducible refine gS_alloc _ ?_ | with_reducible refine gS_set _ _ ?_)); first | with_reducible assumption | with_reducible exact gS_of (gbx_refl _ _)))); clear hK K; (try simp only [Act.put, List.setIfInBounds_toArray, List.set_cons_zero, List.set_cons_succ])
            refine wpAnyH_done (by kernel_rfl) ?_ _
            refine NoPanic.normal ?_
            go_wp2_with fail
            go_roundw
            case rel =>
              have hr := HR4.out
              have hz2 := HX.out.size
              have HBB := HBV.out.trans (HX.out.mono HBV.out.size)
              refine ⟨k + 1, a2, nl + 1, c2, by omega, by go_num, by have := HNL.out; omega, ⟨by go_simp, by go_simp, by go_simp, by go_simp⟩, ?_, ?_, HC2.out, by simp; omega, ?_⟩
              · have q0 := (HBB.cell (p := ⟨w.heap.size + 1, 0, none⟩) hz1).trans hr.1
                have q1 := (HBB.cell (p := ⟨w.heap.size + 1, 1, none⟩) hz1).trans hr.2.1
                have q2 := (HBB.frozen (p := ⟨w.heap.size + 1, 0, none⟩) hz1).trans hr.2.2.1
                have q3 := (HBB.frozen (p := ⟨w.heap.size + 1, 1, none⟩) hz1).trans hr.2.2.2
                exact ⟨by go_simp, by go_simp, by go_simp, by go_simp⟩
              · rw [HMK2.out]
                obtain ⟨a3, c3, e3, hm3, -⟩ := marks_own (HO2.out.kept (gbx_set (b := w.heap.size) (grow_gb (Below.refl _ _) _) 1 (.slice a2 (nl + 1) c2)) (Or.inr (fun e => by have := own_low HO2.out _ e; omega)))
                injection e3 with e3
                subst e3
                refine ⟨hm3, fun h0 ad e => .inr ?_⟩
                have := own_low HO2.out ad.block (by rw [e]; rfl)
                omega
              · have hBB := HB.out.trans (HBB.mono (by omega))
                exact (by repeat (first | assumption | exact Below.refl _ _ | (refine Below.alloc ?_ (by first | omega | (simp; omega) | simp) _) | (refine Below.setCell ?_ (by first | omega | (simp; omega) | simp) _) | refine Below.drew ?_))
            case measure => simp [intOf]; omega
          · go_simp; refine hK.out _ _ ?_ (fun hHeld => ?_); (· (first | with_reducible assumption | ((repeat (first | with_reducible refine gS_drew ?_ | with_reducible refine gS_alloc _ ?_ | with_reducible refine gS_set _ _ ?_)); first | with_reducible assumption | with_reducible exact gS_of (gbx_refl _ _)))); clear hK K; (try simp only [Act.put, List.setIfInBounds_toArray, List.set_cons_zero, List.set_cons_succ])
            refine takeH 10 ?_; (try simp only [Act.put, List.setIfInBounds_toArray, List.set_cons_zero, List.set_cons_succ])
            refine readyH 5 (fun K hK => ?_); go_simp; skip; refine hK.out _ _ ?_ (fun hHeld => ?_); (· (first | with_reducible assumption | ((repeat (first | with_reducible refine gS_drew ?_ | with_reducible refine gS_alloc _ ?_ | with_reducible refine gS_set _ _ ?_)); first | with_reducible assumption | with_reducible exact gS_of (gbx_refl _ _)))); clear hK K; (try simp only [Act.put, List.setIfInBounds_toArray, List.set_cons_zero, List.set_cons_succ])
            refine takeH 6 ?_; (try simp only [Act.put, List.setIfInBounds_toArray, List.set_cons_zero, List.set_cons_succ])
            refine takeH 11 ?_; (try simp only [Act.put, List.setIfInBounds_toArray, List.set_cons_zero, List.set_cons_succ])
            refine readyH 14 (fun K hK => ?_); ((with_reducible refine step_append_full _ 23 52 (.agg #[.int .i64 0, .int .i64 0, .int .i64 0]) 3 24 Try.underlying23 Try.info52 rfl (by decide) (by decide) na nl (ms.flatMap CMark.cells) (CMark.cells ⟨c, j, mx⟩) (marks_src HMV.out).1 hnl1 rfl H1C.out rfl _ _ rfl ?_ ?_ ?_ ?_); (· rfl); (· exact ⟨_, rfl, src3 (by go_simp) (by go_simp) (by go_simp)⟩); (· exact (marks_src (HMV.out.below (by repeat (first | exact Below.refl _ _ | (refine Below.alloc ?_ (by first | omega | (simp; omega) | simp) _) | (refine Below.setCell ?_ (by first | omega | (simp; omega) | simp) _) | refine Below.drew ?_)))).2); intro v' wB hown hgr; have hX : Below V.heap.size V wB := ((by repeat (first | exact Below.refl _ _ | (refine Below.alloc ?_ (by first | omega | (simp; omega) | simp) _) | (refine Below.setCell ?_ (by first | omega | (simp; omega) | simp) _) | refine Below.drew ?_)) : Below V.heap.size V _).trans (grown_low hgr (by first | omega | (simp; done) | (simp; omega)) (fun r e => by cases e)); have f0 := (hX.cell (p := ⟨w.heap.size, 0, none⟩) hwV).trans v0; have f1 := (hX.cell (p := ⟨w.heap.size, 1, none⟩) hwV).trans v1; have f2 := (hX.frozen (p := ⟨w.heap.size, 0, none⟩) hwV).trans v2; have f3 := (hX.frozen (p := ⟨w.heap.size, 1, none⟩) hwV).trans v3; have HX := Lib.hid hX; have hown2 : wB.ownsRow V.heap.size 52 3 v' (nl + 1) (ms.flatMap CMark.cells ++ CMark.cells ⟨c, j, mx⟩) := own_base2 hown (by first | omega | (simp; done) | (simp; omega)); rw [← flat_snoc] at hown2; obtain ⟨a2, c2, rfl, hm2, hc2⟩ := marks_own hown2; have HO2 := Lib.hid hown2; have HC2 := Lib.hid hc2; have hwB : w.heap.size < wB.heap.size := Nat.lt_of_lt_of_le hwV hX.size; have kS := gS_of (grow_gb HX.out (some w.heap.size)); clear hown hown2 hgr hX hm2 hc2); refine hK.out _ _ ?_ (fun hHeld => ?_); (· (first | with_reducible assumption | ((repeat (first | with_reducible refine gS_drew ?_ | with_reducible refine gS_alloc _ ?_ | with_reducible refine gS_set _ _ ?_)); first | with_reducible assumption | with_reducible exact gS_of (gbx_refl _ _)))); clear hK K; (try simp only [Act.put, List.setIfInBounds_toArray, List.set_cons_zero, List.set_cons_succ])
            refine takeH 15 ?_; (try simp only [Act.put, List.setIfInBounds_toArray, List.set_cons_zero, List.set_cons_succ])
            refine takeH 16 ?_; (try simp only [Act.put, List.setIfInBounds_toArray, List.set_cons_zero, List.set_cons_succ])
            refine readyH 17 (fun K hK => ?_); go_simp; skip; refine hK.out _ _ ?_ (fun hHeld => ?_); (· (first | with_reducible assumption | ((repeat (first | with_reducible refine gS_drew ?_ | with_reducible refine gS_alloc _ ?_ | with_reducible refine gS_set _ _ ?_)); first | with_reducible assumption | with_reducible exact gS_of (gbx_refl _ _)))); clear hK K; (try simp only [Act.put, List.setIfInBounds_toArray, List.set_cons_zero, List.set_cons_succ])
            refine wpAnyH_done (by kernel_rfl) ?_ _
            refine NoPanic.normal ?_
            go_wp2_with fail
            go_roundw
            case rel =>
              have hr := HR4.out
              have hz2 := HX.out.size
              have HBB := HBV.out.trans (HX.out.mono HBV.out.size)
              refine ⟨k + 1, a2, nl + 1, c2, by omega, by go_num, by have := HNL.out; omega, ⟨by go_simp, by go_simp, by go_simp, by go_simp⟩, ?_, ?_, HC2.out, by simp; omega, ?_⟩
              · have q0 := (HBB.cell (p := ⟨w.heap.size + 1, 0, none⟩) hz1).trans hr.1
                have q1 := (HBB.cell (p := ⟨w.heap.size + 1, 1, none⟩) hz1).trans hr.2.1
                have q2 := (HBB.frozen (p := ⟨w.heap.size + 1, 0, none⟩) hz1).trans hr.2.2.1
                have q3 := (HBB.frozen (p := ⟨w.heap.size + 1, 1, none⟩) hz1).trans hr.2.2.2
                exact ⟨by go_simp, by go_simp, by go_simp, by go_simp⟩
              · rw [HMK2.out]
                obtain ⟨a3, c3, e3, hm3, -⟩ := marks_own (HO2.out.kept (gbx_set (b := w.heap.size) (grow_gb (Below.refl _ _) _) 1 (.slice a2 (nl + 1) c2)) (Or.inr (fun e => by have := own_low HO2.out _ e; omega)))
                injection e3 with e3
                subst e3
                refine ⟨hm3, fun h0 ad e => .inr ?_⟩
                have := own_low HO2.out ad.block (by rw [e]; rfl)
                omega
              · have hBB := HB.out.trans (HBB.mono (by omega))
                exact (by repeat (first | assumption | exact Below.refl _ _ | (refine Below.alloc ?_ (by first | omega | (simp; omega) | simp) _) | (refine Below.setCell ?_ (by first | omega | (simp; omega) | simp) _) | refine Below.drew ?_))
            case measure => simp [intOf]; omega
        · go_simp; refine hK.out _ _ ?_ (fun hHeld => ?_); (· (first | with_reducible assumption | ((repeat (first | with_reducible refine gS_drew ?_ | with_reducible refine gS_alloc _ ?_ | with_reducible refine gS_set _ _ ?_)); first | with_reducible assumption | with_reducible exact gS_of (gbx_refl _ _)))); clear hK K; (try simp only [Act.put, List.setIfInBounds_toArray, List.set_cons_zero, List.set_cons_succ])
          refine takeH 6 ?_; (try simp only [Act.put, List.setIfInBounds_toArray, List.set_cons_zero, List.set_cons_succ])
          refine wpAnyH_ready (rs := [2, 9]) (by kernel_rfl) (by simp) ?_
          refine AllReadyH.cons (o := ?_) ?_ (fun K hK => ?_) ?_
          rotate_left 1
          · simp only [List.getElem?_toArray, List.getElem?_cons_succ, List.getElem?_cons_zero]; with_reducible rfl
          rotate_left 1
          refine AllReadyH.cons (o := ?_) ?_ (fun K hK => ?_) AllReadyH.nil
          rotate_left 1
          · simp only [List.getElem?_toArray, List.getElem?_cons_succ, List.getElem?_cons_zero]; with_reducible rfl
          rotate_left 1
          · go_simp; refine hK.out _ _ ?_ (fun hHeld => ?_); (· (first | with_reducible assumption | ((repeat (first | with_reducible refine gS_drew ?_ | with_reducible refine gS_alloc _ ?_ | with_reducible refine gS_set _ _ ?_)); first | with_reducible assumption | with_reducible exact gS_of (gbx_refl _ _)))); clear hK K; (try simp only [Act.put, List.setIfInBounds_toArray, List.set_cons_zero, List.set_cons_succ])
            refine readyH 9 (fun K hK => ?_); go_simp; skip; refine hK.out _ _ ?_ (fun hHeld => ?_); (· (first | with_reducible assumption | ((repeat (first | with_reducible refine gS_drew ?_ | with_reducible refine gS_alloc _ ?_ | with_reducible refine gS_set _ _ ?_)); first | with_reducible assumption | with_reducible exact gS_of (gbx_refl _ _)))); clear hK K; (try simp only [Act.put, List.setIfInBounds_toArray, List.set_cons_zero, List.set_cons_succ])
            refine takeH 10 ?_; (try simp only [Act.put, List.setIfInBounds_toArray, List.set_cons_zero, List.set_cons_succ])
            refine takeH 11 ?_; (try simp only [Act.put, List.setIfInBounds_toArray, List.set_cons_zero, List.set_cons_succ])
            refine readyH 14 (fun K hK => ?_); ((with_reducible refine step_append_full _ 23 52 (.agg #[.int .i64 0, .int .i64 0, .int .i64 0]) 3 24 Try.underlying23 Try.info52 rfl (by decide) (by decide) na nl (ms.flatMap CMark.cells) (CMark.cells ⟨c, j, mx⟩) (marks_src HMV.out).1 hnl1 rfl H1C.out rfl _ _ rfl ?_ ?_ ?_ ?_); (· rfl); (· exact ⟨_, rfl, src3 (by go_simp) (by go_simp) (by go_simp)⟩); (· exact (marks_src (HMV.out.below (by repeat (first | exact Below.refl _ _ | (refine Below.alloc ?_ (by first | omega | (simp; omega) | simp) _) | (refine Below.setCell ?_ (by first | omega | (simp; omega) | simp) _) | refine Below.drew ?_)))).2); intro v' wB hown hgr; have hX : Below V.heap.size V wB := ((by repeat (first | exact Below.refl _ _ | (refine Below.alloc ?_ (by first | omega | (simp; omega) | simp) _) | (refine Below.setCell ?_ (by first | omega | (simp; omega) | simp) _) | refine Below.drew ?_)) : Below V.heap.size V _).trans (grown_low hgr (by first | omega | (simp; done) | (simp; omega)) (fun r e => by cases e)); have f0 := (hX.cell (p := ⟨w.heap.size, 0, none⟩) hwV).trans v0; have f1 := (hX.cell (p := ⟨w.heap.size, 1, none⟩) hwV).trans v1; have f2 := (hX.frozen (p := ⟨w.heap.size, 0, none⟩) hwV).trans v2; have f3 := (hX.frozen (p := ⟨w.heap.size, 1, none⟩) hwV).trans v3; have HX := Lib.hid hX; have hown2 : wB.ownsRow V.heap.size 52 3 v' (nl + 1) (ms.flatMap CMark.cells ++ CMark.cells ⟨c, j, mx⟩) := own_base2 hown (by first | omega | (simp; done) | (simp; omega)); rw [← flat_snoc] at hown2; obtain ⟨a2, c2, rfl, hm2, hc2⟩ := marks_own hown2; have HO2 := Lib.hid hown2; have HC2 := Lib.hid hc2; have hwB : w.heap.size < wB.heap.size := Nat.lt_of_lt_of_le hwV hX.size; have kS := gS_of (grow_gb HX.out (some w.heap.size)); clear hown hown2 hgr hX hm2 hc2); refine hK.out _ _ ?_ (fun hHeld => ?_); (· (first | with_reducible assumption | ((repeat (first | with_reducible refine gS_drew ?_ | with_reducible refine gS_alloc _ ?_ | with_reducible refine gS_set _ _ ?_)); first | with_reducible assumption | with_reducible exact gS_of (gbx_refl _ _)))); clear hK K; (try simp only [Act.put, List.setIfInBounds_toArray, List.set_cons_zero, List.set_cons_succ])
            refine takeH 15 ?_; (try simp only [Act.put, List.setIfInBounds_toArray, List.set_cons_zero, List.set_cons_succ])
            refine takeH 16 ?_; (try simp only [Act.put, List.setIfInBounds_toArray, List.set_cons_zero, List.set_cons_succ])
            refine readyH 17 (fun K hK => ?_); go_simp; skip; refine hK.out _ _ ?_ (fun hHeld => ?_); (· (first | with_reducible assumption | ((repeat (first | with_reducible refine gS_drew ?_ | with_reducible refine gS_alloc _ ?_ | with_reducible refine gS_set _ _ ?_)); first | with_reducible assumption | with_reducible exact gS_of (gbx_refl _ _)))); clear hK K; (try simp only [Act.put, List.setIfInBounds_toArray, List.set_cons_zero, List.set_cons_succ])
            refine wpAnyH_done (by kernel_rfl) ?_ _
            refine NoPanic.normal ?_
            go_wp2_with fail
            go_roundw
            case rel =>
              have hr := HR4.out
              have hz2 := HX.out.size
              have HBB := HBV.out.trans (HX.out.mono HBV.out.size)
              refine ⟨k + 1, a2, nl + 1, c2, by omega, by go_num, by have := HNL.out; omega, ⟨by go_simp, by go_simp, by go_simp, by go_simp⟩, ?_, ?_, HC2.out, by simp; omega, ?_⟩
              · have q0 := (HBB.cell (p := ⟨w.heap.size + 1, 0, none⟩) hz1).trans hr.1
                have q1 := (HBB.cell (p := ⟨w.heap.size + 1, 1, none⟩) hz1).trans hr.2.1
                have q2 := (HBB.frozen (p := ⟨w.heap.size + 1, 0, none⟩) hz1).trans hr.2.2.1
                have q3 := (HBB.frozen (p := ⟨w.heap.size + 1, 1, none⟩) hz1).trans hr.2.2.2
                exact ⟨by go_simp, by go_simp, by go_simp, by go_simp⟩
              · rw [HMK2.out]
                obtain ⟨a3, c3, e3, hm3, -⟩ := marks_own (HO2.out.kept (gbx_set (b := w.heap.size) (grow_gb (Below.refl _ _) _) 1 (.slice a2 (nl + 1) c2)) (Or.inr (fun e => by have := own_low HO2.out _ e; omega)))
                injection e3 with e3
                subst e3
                refine ⟨hm3, fun h0 ad e => .inr ?_⟩
                have := own_low HO2.out ad.block (by rw [e]; rfl)
                omega
              · have hBB := HB.out.trans (HBB.mono (by omega))
                exact (by repeat (first | assumption | exact Below.refl _ _ | (refine Below.alloc ?_ (by first | omega | (simp; omega) | simp) _) | (refine Below.setCell ?_ (by first | omega | (simp; omega) | simp) _) | refine Below.drew ?_))
            case measure => simp [intOf]; omega
          · go_simp; refine hK.out _ _ ?_ (fun hHeld => ?_); (· (first | with_reducible assumption | ((repeat (first | with_reducible refine gS_drew ?_ | with_reducible refine gS_alloc _ ?_ | with_reducible refine gS_set _ _ ?_)); first | with_reducible assumption | with_reducible exact gS_of (gbx_refl _ _)))); clear hK K; (try simp only [Act.put, List.setIfInBounds_toArray, List.set_cons_zero, List.set_cons_succ])
            refine takeH 10 ?_; (try simp only [Act.put, List.setIfInBounds_toArray, List.set_cons_zero, List.set_cons_succ])
            refine readyH 2 (fun K hK => ?_); go_simp; skip; refine hK.out _ _ ?_ (fun hHeld => ?_); (· (first | with_reducible assumption | ((repeat (first | with_reducible refine gS_drew ?_ | with_reducible refine gS_alloc _ ?_ | with_reducible refine gS_set _ _ ?_)); first | with_reducible assumption | with_reducible exact gS_of (gbx_refl _ _)))); clear hK K; (try simp only [Act.put, List.setIfInBounds_toArray, List.set_cons_zero, List.set_cons_succ])
            refine takeH 11 ?_; (try simp only [Act.put, List.setIfInBounds_toArray, List.set_cons_zero, List.set_cons_succ])
            refine readyH 14 (fun K hK => ?_); ((with_reducible refine step_append_full _ 23 52 (.agg #[.int .i64 0, .int .i64 0, .int .i64 0]) 3 24 Try.underlying23 Try.info52 rfl (by decide) (by decide) na nl (ms.flatMap CMark.cells) (CMark.cells ⟨c, j, mx⟩) (marks_src HMV.out).1 hnl1 rfl H1C.out rfl _ _ rfl ?_ ?_ ?_ ?_); (· rfl); (· exact ⟨_, rfl, src3 (by go_simp) (by go_simp) (by go_simp)⟩); (· exact (marks_src (HMV.out.below (by repeat (first | exact Below.refl _ _ | (refine Below.alloc ?_ (by first | omega | (simp; omega) | simp) _) | (refine Below.setCell ?_ (by first | omega | (simp; omega) | simp) _) | refine Below.drew ?_)))).2); intro v' wB hown hgr; have hX : Below V.heap.size V wB := ((by repeat (first | exact Below.refl _ _ | (refine Below.alloc ?_ (by first | omega | (simp; omega) | simp) _) | (refine Below.setCell ?_ (by first | omega | (simp; omega) | simp) _) | refine Below.drew ?_)) : Below V.heap.size V _).trans (grown_low hgr (by first | omega | (simp; done) | (simp; omega)) (fun r e => by cases e)); have f0 := (hX.cell (p := ⟨w.heap.size, 0, none⟩) hwV).trans v0; have f1 := (hX.cell (p := ⟨w.heap.size, 1, none⟩) hwV).trans v1; have f2 := (hX.frozen (p := ⟨w.heap.size, 0, none⟩) hwV).trans v2; have f3 := (hX.frozen (p := ⟨w.heap.size, 1, none⟩) hwV).trans v3; have HX := Lib.hid hX; have hown2 : wB.ownsRow V.heap.size 52 3 v' (nl + 1) (ms.flatMap CMark.cells ++ CMark.cells ⟨c, j, mx⟩) := own_base2 hown (by first | omega | (simp; done) | (simp; omega)); rw [← flat_snoc] at hown2; obtain ⟨a2, c2, rfl, hm2, hc2⟩ := marks_own hown2; have HO2 := Lib.hid hown2; have HC2 := Lib.hid hc2; have hwB : w.heap.size < wB.heap.size := Nat.lt_of_lt_of_le hwV hX.size; have kS := gS_of (grow_gb HX.out (some w.heap.size)); clear hown hown2 hgr hX hm2 hc2); refine hK.out _ _ ?_ (fun hHeld => ?_); (· (first | with_reducible assumption | ((repeat (first | with_reducible refine gS_drew ?_ | with_reducible refine gS_alloc _ ?_ | with_reducible refine gS_set _ _ ?_)); first | with_reducible assumption | with_reducible exact gS_of (gbx_refl _ _)))); clear hK K; (try simp only [Act.put, List.setIfInBounds_toArray, List.set_cons_zero, List.set_cons_succ])
            refine takeH 15 ?_; (try simp only [Act.put, List.setIfInBounds_toArray, List.set_cons_zero, List.set_cons_succ])
            refine takeH 16 ?_; (try simp only [Act.put, List.setIfInBounds_toArray, List.set_cons_zero, List.set_cons_succ])
            refine readyH 17 (fun K hK => ?_); go_simp; skip; refine hK.out _ _ ?_ (fun hHeld => ?_); (· (first | with_reducible assumption | ((repeat (first | with_reducible refine gS_drew ?_ | with_reducible refine gS_alloc _ ?_ | with_reducible refine gS_set _ _ ?_)); first | with_reducible assumption | with_reducible exact gS_of (gbx_refl _ _)))); clear hK K; (try simp only [Act.put, List.setIfInBounds_toArray, List.set_cons_zero, List.set_cons_succ])
            refine wpAnyH_done (by kernel_rfl) ?_ _
            refine NoPanic.normal ?_
            go_wp2_with fail
            go_roundw
            case rel =>
              have hr := HR4.out
              have hz2 := HX.out.size
              have HBB := HBV.out.trans (HX.out.mono HBV.out.size)
              refine ⟨k + 1, a2, nl + 1, c2, by omega, by go_num, by have := HNL.out; omega, ⟨by go_simp, by go_simp, by go_simp, by go_simp⟩, ?_, ?_, HC2.out, by simp; omega, ?_⟩
              · have q0 := (HBB.cell (p := ⟨w.heap.size + 1, 0, none⟩) hz1).trans hr.1
                have q1 := (HBB.cell (p := ⟨w.heap.size + 1, 1, none⟩) hz1).trans hr.2.1
                have q2 := (HBB.frozen (p := ⟨w.heap.size + 1, 0, none⟩) hz1).trans hr.2.2.1
                have q3 := (HBB.frozen (p := ⟨w.heap.size + 1, 1, none⟩) hz1).trans hr.2.2.2
                exact ⟨by go_simp, by go_simp, by go_simp, by go_simp⟩
              · rw [HMK2.out]
                obtain ⟨a3, c3, e3, hm3, -⟩ := marks_own (HO2.out.kept (gbx_set (b := w.heap.size) (grow_gb (Below.refl _ _) _) 1 (.slice a2 (nl + 1) c2)) (Or.inr (fun e => by have := own_low HO2.out _ e; omega)))
                injection e3 with e3
                subst e3
                refine ⟨hm3, fun h0 ad e => .inr ?_⟩
                have := own_low HO2.out ad.block (by rw [e]; rfl)
                omega
              · have hBB := HB.out.trans (HBB.mono (by omega))
                exact (by repeat (first | assumption | exact Below.refl _ _ | (refine Below.alloc ?_ (by first | omega | (simp; omega) | simp) _) | (refine Below.setCell ?_ (by first | omega | (simp; omega) | simp) _) | refine Below.drew ?_))
            case measure => simp [intOf]; omega
        · go_simp; refine hK.out _ _ ?_ (fun hHeld => ?_); (· (first | with_reducible assumption | ((repeat (first | with_reducible refine gS_drew ?_ | with_reducible refine gS_alloc _ ?_ | with_reducible refine gS_set _ _ ?_)); first | with_reducible assumption | with_reducible exact gS_of (gbx_refl _ _)))); clear hK K; (try simp only [Act.put, List.setIfInBounds_toArray, List.set_cons_zero, List.set_cons_succ])
          refine takeH 10 ?_; (try simp only [Act.put, List.setIfInBounds_toArray, List.set_cons_zero, List.set_cons_succ])
          refine wpAnyH_ready (rs := [2, 5]) (by kernel_rfl) (by simp) ?_
          refine AllReadyH.cons (o := ?_) ?_ (fun K hK => ?_) ?_
          rotate_left 1
          · simp only [List.getElem?_toArray, List.getElem?_cons_succ, List.getElem?_cons_zero]; with_reducible rfl
          rotate_left 1
          refine AllReadyH.cons (o := ?_) ?_ (fun K hK => ?_) AllReadyH.nil
          rotate_left 1
          · simp only [List.getElem?_toArray, List.getElem?_cons_succ, List.getElem?_cons_zero]; with_reducible rfl
          rotate_left 1
          · go_simp; refine hK.out _ _ ?_ (fun hHeld => ?_); (· (first | with_reducible assumption | ((repeat (first | with_reducible refine gS_drew ?_ | with_reducible refine gS_alloc _ ?_ | with_reducible refine gS_set _ _ ?_)); first | with_reducible assumption | with_reducible exact gS_of (gbx_refl _ _)))); clear hK K; (try simp only [Act.put, List.setIfInBounds_toArray, List.set_cons_zero, List.set_cons_succ])
            refine readyH 5 (fun K hK => ?_); go_simp; skip; refine hK.out _ _ ?_ (fun hHeld => ?_); (· (first | with_reducible assumption | ((repeat (first | with_reducible refine gS_drew ?_ | with_reducible refine gS_alloc _ ?_ | with_reducible refine gS_set _ _ ?_)); first | with_reducible assumption | with_reducible exact gS_of (gbx_refl _ _)))); clear hK K; (try simp only [Act.put, List.setIfInBounds_toArray, List.set_cons_zero, List.set_cons_succ])
            refine takeH 6 ?_; (try simp only [Act.put, List.setIfInBounds_toArray, List.set_cons_zero, List.set_cons_succ])
            refine takeH 11 ?_; (try simp only [Act.put, List.setIfInBounds_toArray, List.set_cons_zero, List.set_cons_succ])
            refine readyH 14 (fun K hK => ?_); ((with_reducible refine step_append_full _ 23 52 (.agg #[.int .i64 0, .int .i64 0, .int .i64 0]) 3 24 Try.underlying23 Try.info52 rfl (by decide) (by decide) na nl (ms.flatMap CMark.cells) (CMark.cells ⟨c, j, mx⟩) (marks_src HMV.out).1 hnl1 rfl H1C.out rfl _ _ rfl ?_ ?_ ?_ ?_); (· rfl); (· exact ⟨_, rfl, src3 (by go_simp) (by go_simp) (by go_simp)⟩); (· exact (marks_src (HMV.out.below (by repeat (first | exact Below.refl _ _ | (refine Below.alloc ?_ (by first | omega | (simp; omega) | simp) _) | (refine Below.setCell ?_ (by first | omega | (simp; omega) | simp) _) | refine Below.drew ?_)))).2); intro v' wB hown hgr; have hX : Below V.heap.size V wB := ((by repeat (first | exact Below.refl _ _ | (refine Below.alloc ?_ (by first | omega | (simp; omega) | simp) _) | (refine Below.setCell ?_ (by first | omega | (simp; omega) | simp) _) | refine Below.drew ?_)) : Below V.heap.size V _).trans (grown_low hgr (by first | omega | (simp; done) | (simp; omega)) (fun r e => by cases e)); have f0 := (hX.cell (p := ⟨w.heap.size, 0, none⟩) hwV).trans v0; have f1 := (hX.cell (p := ⟨w.heap.size, 1, none⟩) hwV).trans v1; have f2 := (hX.frozen (p := ⟨w.heap.size, 0, none⟩) hwV).trans v2; have f3 := (hX.frozen (p := ⟨w.heap.size, 1, none⟩) hwV).trans v3; have HX := Lib.hid hX; have hown2 : wB.ownsRow V.heap.size 52 3 v' (nl + 1) (ms.flatMap CMark.cells ++ CMark.cells ⟨c, j, mx⟩) := own_base2 hown (by first | omega | (simp; done) | (simp; omega)); rw [← flat_snoc] at hown2; obtain ⟨a2, c2, rfl, hm2, hc2⟩ := marks_own hown2; have HO2 := Lib.hid hown2; have HC2 := Lib.hid hc2; have hwB : w.heap.size < wB.heap.size := Nat.lt_of_lt_of_le hwV hX.size; have kS := gS_of (grow_gb HX.out (some w.heap.size)); clear hown hown2 hgr hX hm2 hc2); refine hK.out _ _ ?_ (fun hHeld => ?_); (· (first | with_reducible assumption | ((repeat (first | with_reducible refine gS_drew ?_ | with_reducible refine gS_alloc _ ?_ | with_reducible refine gS_set _ _ ?_)); first | with_reducible assumption | with_reducible exact gS_of (gbx_refl _ _)))); clear hK K; (try simp only [Act.put, List.setIfInBounds_toArray, List.set_cons_zero, List.set_cons_succ])
            refine takeH 15 ?_; (try simp only [Act.put, List.setIfInBounds_toArray, List.set_cons_zero, List.set_cons_succ])
            refine takeH 16 ?_; (try simp only [Act.put, List.setIfInBounds_toArray, List.set_cons_zero, List.set_cons_succ])
            refine readyH 17 (fun K hK => ?_); go_simp; skip; refine hK.out _ _ ?_ (fun hHeld => ?_); (· (first | with_reducible assumption | ((repeat (first | with_reducible refine gS_drew ?_ | with_reducible refine gS_alloc _ ?_ | with_reducible refine gS_set _ _ ?_)); first | with_reducible assumption | with_reducible exact gS_of (gbx_refl _ _)))); clear hK K; (try simp only [Act.put, List.setIfInBounds_toArray, List.set_cons_zero, List.set_cons_succ])
            refine wpAnyH_done (by kernel_rfl) ?_ _
            refine NoPanic.normal ?_
            go_wp2_with fail
            go_roundw
            case rel =>
              have hr := HR4.out
              have hz2 := HX.out.size
              have HBB := HBV.out.trans (HX.out.mono HBV.out.size)
              refine ⟨k + 1, a2, nl + 1, c2, by omega, by go_num, by have := HNL.out; omega, ⟨by go_simp, by go_simp, by go_simp, by go_simp⟩, ?_, ?_, HC2.out, by simp; omega, ?_⟩
              · have q0 := (HBB.cell (p := ⟨w.heap.size + 1, 0, none⟩) hz1).trans hr.1
                have q1 := (HBB.cell (p := ⟨w.heap.size + 1, 1, none⟩) hz1).trans hr.2.1
                have q2 := (HBB.frozen (p := ⟨w.heap.size + 1, 0, none⟩) hz1).trans hr.2.2.1
                have q3 := (HBB.frozen (p := ⟨w.heap.size + 1, 1, none⟩) hz1).trans hr.2.2.2
                exact ⟨by go_simp, by go_simp, by go_simp, by go_simp⟩
              · rw [HMK2.out]
                obtain ⟨a3, c3, e3, hm3, -⟩ := marks_own (HO2.out.kept (gbx_set (b := w.heap.size) (grow_gb (Below.refl _ _) _) 1 (.slice a2 (nl + 1) c2)) (Or.inr (fun e => by have := own_low HO2.out _ e; omega)))
                injection e3 with e3
                subst e3
                refine ⟨hm3, fun h0 ad e => .inr ?_⟩
                have := own_low HO2.out ad.block (by rw [e]; rfl)
                omega
              · have hBB := HB.out.trans (HBB.mono (by omega))
                exact (by repeat (first | assumption | exact Below.refl _ _ | (refine Below.alloc ?_ (by first | omega | (simp; omega) | simp) _) | (refine Below.setCell ?_ (by first | omega | (simp; omega) | simp) _) | refine Below.drew ?_))
            case measure => simp [intOf]; omega
          · go_simp; refine hK.out _ _ ?_ (fun hHeld => ?_); (· (first | with_reducible assumption | ((repeat (first | with_reducible refine gS_drew ?_ | with_reducible refine gS_alloc _ ?_ | with_reducible refine gS_set _ _ ?_)); first | with_reducible assumption | with_reducible exact gS_of (gbx_refl _ _)))); clear hK K; (try simp only [Act.put, List.setIfInBounds_toArray, List.set_cons_zero, List.set_cons_succ])
            refine takeH 6 ?_; (try simp only [Act.put, List.setIfInBounds_toArray, List.set_cons_zero, List.set_cons_succ])
            refine readyH 2 (fun K hK => ?_); go_simp; skip; refine hK.out _ _ ?_ (fun hHeld => ?_); (· (first | with_reducible assumption | ((repeat (first | with_reducible refine gS_drew ?_ | with_reducible refine gS_alloc _ ?_ | with_reducible refine gS_set _ _ ?_)); first | with_reducible assumption | with_reducible exact gS_of (gbx_refl _ _)))); clear hK K; (try simp only [Act.put, List.setIfInBounds_toArray, List.set_cons_zero, List.set_cons_succ])
            refine takeH 11 ?_; (try simp only [Act.put, List.setIfInBounds_toArray, List.set_cons_zero, List.set_cons_succ])
            refine readyH 14 (fun K hK => ?_); ((with_reducible refine step_append_full _ 23 52 (.agg #[.int .i64 0, .int .i64 0, .int .i64 0]) 3 24 Try.underlying23 Try.info52 rfl (by decide) (by decide) na nl (ms.flatMap CMark.cells) (CMark.cells ⟨c, j, mx⟩) (marks_src HMV.out).1 hnl1 rfl H1C.out rfl _ _ rfl ?_ ?_ ?_ ?_); (· rfl); (· exact ⟨_, rfl, src3 (by go_simp) (by go_simp) (by go_simp)⟩); (· exact (marks_src (HMV.out.below (by repeat (first | exact Below.refl _ _ | (refine Below.alloc ?_ (by first | omega | (simp; omega) | simp) _) | (refine Below.setCell ?_ (by first | omega | (simp; omega) | simp) _) | refine Below.drew ?_)))).2); intro v' wB hown hgr; have hX : Below V.heap.size V wB := ((by repeat (first | exact Below.refl _ _ | (refine Below.alloc ?_ (by first | omega | (simp; omega) | simp) _) | (refine Below.setCell ?_ (by first | omega | (simp; omega) | simp) _) | refine Below.drew ?_)) : Below V.heap.size V _).trans (grown_low hgr (by first | omega | (simp; done) | (simp; omega)) (fun r e => by cases e)); have f0 := (hX.cell (p := ⟨w.heap.size, 0, none⟩) hwV).trans v0; have f1 := (hX.cell (p := ⟨w.heap.size, 1, none⟩) hwV).trans v1; have f2 := (hX.frozen (p := ⟨w.heap.size, 0, none⟩) hwV).trans v2; have f3 := (hX.frozen (p := ⟨w.heap.size, 1, none⟩) hwV).trans v3; have HX := Lib.hid hX; have hown2 : wB.ownsRow V.heap.size 52 3 v' (nl + 1) (ms.flatMap CMark.cells ++ CMark.cells ⟨c, j, mx⟩) := own_base2 hown (by first | omega | (simp; done) | (simp; omega)); rw [← flat_snoc] at hown2; obtain ⟨a2, c2, rfl, hm2, hc2⟩ := marks_own hown2; have HO2 := Lib.hid hown2; have HC2 := Lib.hid hc2; have hwB : w.heap.size < wB.heap.size := Nat.lt_of_lt_of_le hwV hX.size; have kS := gS_of (grow_gb HX.out (some w.heap.size)); clear hown hown2 hgr hX hm2 hc2); refine hK.out _ _ ?_ (fun hHeld => ?_); (· (first | with_reducible assumption | ((repeat (first | with_reducible refine gS_drew ?_ | with_reducible refine gS_alloc _ ?_ | with_reducible refine gS_set _ _ ?_)); first | with_reducible assumption | with_reducible exact gS_of (gbx_refl _ _)))); clear hK K; (try simp only [Act.put, List.setIfInBounds_toArray, List.set_cons_zero, List.set_cons_succ])
            refine takeH 15 ?_; (try simp only [Act.put, List.setIfInBounds_toArray, List.set_cons_zero, List.set_cons_succ])
            refine takeH 16 ?_; (try simp only [Act.put, List.setIfInBounds_toArray, List.set_cons_zero, List.set_cons_succ])
            refine readyH 17 (fun K hK => ?_); go_simp; skip; refine hK.out _ _ ?_ (fun hHeld => ?_); (· (first | with_reducible assumption | ((repeat (first | with_reducible refine gS_drew ?_ | with_reducible refine gS_alloc _ ?_ | with_reducible refine gS_set _ _ ?_)); first | with_reducible assumption | with_reducible exact gS_of (gbx_refl _ _)))); clear hK K; (try simp only [Act.put, List.setIfInBounds_toArray, List.set_cons_zero, List.set_cons_succ])
            refine wpAnyH_done (by kernel_rfl) ?_ _
            refine NoPanic.normal ?_
            go_wp2_with fail
            go_roundw
            case rel =>
              have hr := HR4.out
              have hz2 := HX.out.size
              have HBB := HBV.out.trans (HX.out.mono HBV.out.size)
              refine ⟨k + 1, a2, nl + 1, c2, by omega, by go_num, by have := HNL.out; omega, ⟨by go_simp, by go_simp, by go_simp, by go_simp⟩, ?_, ?_, HC2.out, by simp; omega, ?_⟩
              · have q0 := (HBB.cell (p := ⟨w.heap.size + 1, 0, none⟩) hz1).trans hr.1
                have q1 := (HBB.cell (p := ⟨w.heap.size + 1, 1, none⟩) hz1).trans hr.2.1
                have q2 := (HBB.frozen (p := ⟨w.heap.size + 1, 0, none⟩) hz1).trans hr.2.2.1
                have q3 := (HBB.frozen (p := ⟨w.heap.size + 1, 1, none⟩) hz1).trans hr.2.2.2
                exact ⟨by go_simp, by go_simp, by go_simp, by go_simp⟩
              · rw [HMK2.out]
                obtain ⟨a3, c3, e3, hm3, -⟩ := marks_own (HO2.out.kept (gbx_set (b := w.heap.size) (grow_gb (Below.refl _ _) _) 1 (.slice a2 (nl + 1) c2)) (Or.inr (fun e => by have := own_low HO2.out _ e; omega)))
                injection e3 with e3
                subst e3
                refine ⟨hm3, fun h0 ad e => .inr ?_⟩
                have := own_low HO2.out ad.block (by rw [e]; rfl)
                omega
              · have hBB := HB.out.trans (HBB.mono (by omega))
                exact (by repeat (first | assumption | exact Below.refl _ _ | (refine Below.alloc ?_ (by first | omega | (simp; omega) | simp) _) | (refine Below.setCell ?_ (by first | omega | (simp; omega) | simp) _) | refine Below.drew ?_))
            case measure => simp [intOf]; omega
    · obtain rfl : xl = k := by omega
      have HF := Lib.hid (show ∀ b0 b1, HAt ((W1.setCell ⟨w.heap.size + 1, 0, none⟩ b0).setCell ⟨w.heap.size + 1, 1, none⟩ b1) ta tl tc na nl nc (h.alter c now xs) from fun b0 b1 => by
        rw [HEND.out]
        have hne : 0 < nl → ∀ ad, na = some ad → ad.block ≠ w.heap.size + 1 := fun h0 ad e => by have := HM.out.2 h0 ad e; omega
        have hBB := HW1.out
        exact ⟨HTA.out _ (by repeat (first | assumption | exact Below.refl _ _ | (refine Below.alloc ?_ (by first | omega | (simp; omega) | simp) _) | (refine Below.setCell ?_ (by first | omega | (simp; omega) | simp) _) | refine Below.drew ?_)), (HM.out.1.set _ _ _ hne).set _ _ _ hne, hcl, by unfold maxLen; omega⟩)
      obtain ⟨r0, r1, r2, r3⟩ := HR4.out
      have hzz : w.heap.size < W1.heap.size := by omega
      go_wp2_with fail
      refine bodyPost_ret (v := .agg #[.slice ta tl tc, .slice na nl nc]) (by simp [results, Try.results108, go_sem, *]) rfl ⟨⟨na, nl, nc, rfl, HF.out _ _⟩, by have hBB := hbw; exact (by repeat (first | assumption | exact Below.refl _ _ | (refine Below.alloc ?_ (by first | omega | (simp; omega) | simp) _) | (refine Below.setCell ?_ (by first | omega | (simp; omega) | simp) _) | refine Below.drew ?_))⟩
end Go.Proofs.Ytedfdhpggghjeaa
