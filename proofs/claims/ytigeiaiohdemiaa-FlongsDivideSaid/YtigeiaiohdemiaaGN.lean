/- Flongs: the reference's LeftOf, sureOf, inWorlds, KnownOf. -/
import Derived.Test.YtigeiaiohdemiaaGI
namespace Go.Proofs.Ytigeiaiohdemiaa
set_option linter.unusedVariables false
set_option linter.unusedSimpArgs false
open Go.RowKit

theorem which_get (s : FShop) : ∀ k, k ≤ s.worlds.length → ∀ i (h : i < (whichTo s k).length), ∃ j, ∃ hj : j < s.worlds.length, (whichTo s k)[i] = (j : Int) ∧ agreeB s.moulds s.worlds[j] = true ∧ (s.agreeTo k)[i]? = some s.worlds[j]
  | 0, _, i, h => by simp [whichTo] at h
  | k + 1, hk, i, h => by
    have hk2 : k < s.worlds.length := by omega
    have e1 := whichTo_next hk2
    have e2 := agreeTo_next s k hk2
    have e3 := which_len (s := s) k (by omega)
    rcases hg : agreeB s.moulds s.worlds[k] with - | -
    · rw [hg] at e1 e2
      simp at e1 e2
      rw [e2]
      obtain ⟨j, hj, h1, h2⟩ := which_get s k (by omega) i (by rw [← e1]; exact h)
      exact ⟨j, hj, by simp only [e1]; exact h1, h2⟩
    · rw [hg] at e1 e2
      simp at e1 e2
      by_cases hi : i < (whichTo s k).length
      · obtain ⟨j, hj, h1, h2, h3⟩ := which_get s k (by omega) i hi
        refine ⟨j, hj, ?_, h2, ?_⟩
        · simp only [e1]; rw [List.getElem_append_left hi]; exact h1
        · rw [e2, List.getElem?_append_left (by omega)]; exact h3
      · have hi2 : i = (whichTo s k).length := by
          have : i < (whichTo s (k + 1)).length := h
          rw [e1] at this; simp at this; omega
        subst hi2
        refine ⟨k, hk2, ?_, hg, ?_⟩
        · simp only [e1]; rw [List.getElem_append_right (Nat.le_refl _)]; simp
        · rw [e2, e3, List.getElem?_append_right (Nat.le_refl _)]; simp
theorem which_cst (s : FShop) (i : Nat) (h : i < s.which.length) (h2 : i < s.left.length) : ∃ j, ∃ hj : j < s.worlds.length, s.which[i] = (j : Int) ∧ agreeB s.moulds s.worlds[j] = true ∧ s.left[i] = cst s.moulds s.worlds[j] := by
  obtain ⟨j, hj, h3, h4, h5⟩ := which_get s s.worlds.length (Nat.le_refl _) i h
  refine ⟨j, hj, h3, h4, ?_⟩
  rw [agreeTo_all s _ rfl] at h5
  have h6 : s.left[i]? = some (cst s.moulds s.worlds[j]) := by rw [FShop.left, List.getElem?_map, h5]; rfl
  rw [List.getElem?_eq_getElem h2] at h6
  exact Option.some.inj h6
/-- What is left of a mould in the i-th world that agrees. -/
theorem LeftIn_which (s : FShop) (ma : Option Addr) (ml mc : Nat) (wa : Option Addr) (wl wc : Nat) (na : Option Addr) (nl nc : Nat) (i m : Nat) (hi : i < s.which.length) (hi2 : i < s.left.length) (hm : m < s.moulds.length) (ho : s.ok = true) (w : World) (hp : FAt w ma ml mc wa wl wc na nl nc s) :
    Calls Try.prog 22 #[.agg #[.slice ma ml mc, .slice wa wl wc, .slice na nl nc, .int .i64 s.fresh], .int .i64 s.which[i], .int .i64 m] w fun e w' => e = .returned (.int .i64 (s.left[i] m)) ∧ Below w.heap.size w w' := by
  obtain ⟨j, hj, h1, -, h2⟩ := which_cst s i hi hi2
  rw [h1, h2]
  exact LeftIn_is s ma ml mc wa wl wc na nl nc j m hj hm ho w hp
theorem HoldsIn_which (s : FShop) (ma : Option Addr) (ml mc : Nat) (wa : Option Addr) (wl wc : Nat) (na : Option Addr) (nl nc : Nat) (xa : Option Addr) (xl xc : Nat) (x : List Int) (i : Nat) (hi : i < s.which.length) (hi2 : i < s.left.length) (ho : s.ok = true) (w : World) (hp : FAt w ma ml mc wa wl wc na nl nc s) (hx : IntsAt w xa xl x) (hxm : x.length = s.moulds.length) :
    Calls Try.prog 26 #[.agg #[.slice ma ml mc, .slice wa wl wc, .slice na nl nc, .int .i64 s.fresh], .slice xa xl xc, .int .i64 s.which[i]] w fun e w' => e = .returned (.bool (holdB s.left[i] x)) ∧ Below w.heap.size w w' := by
  obtain ⟨j, hj, h1, -, h2⟩ := which_cst s i hi hi2
  rw [h1, h2]
  exact HoldsIn_any s ma ml mc wa wl wc na nl nc xa xl xc x j hj ho w hp hx hxm

theorem name1kf (w : World) (ds : Array Value) (U : TypeId) :
    ∃ W0, w.alloc (.cells ds U) = W0 ∧ Below w.heap.size w W0 ∧ (∀ i, W0.cell? ⟨w.heap.size, i, none⟩ = ds[i]?) ∧ (∀ i, W0.frozen? ⟨w.heap.size, i, none⟩ = false) ∧ w.heap.size < W0.heap.size :=
  ⟨_, rfl, (by repeat (first | exact Below.refl _ _ | (refine Below.alloc ?_ (by first | omega | (simp; omega) | simp) _) | (refine Below.setCell ?_ (by first | omega | (simp; omega) | simp) _) | refine Below.drew ?_)), fun i => World.cell?_alloc_new w _ _ i, fun i => by go_simp, by simp⟩
theorem loTo_one {L : List (Nat → Int)} (h : 0 < L.length) (m : Nat) : loTo L m 1 = L[0] m := by
  rw [loTo_next (k := 0) h]
  show min ((L.headD fun _ => 0) m) (L[0] m) = L[0] m
  rw [headD_get h]; omega
theorem hiTo_one {L : List (Nat → Int)} (h : 0 < L.length) (m : Nat) : hiTo L m 1 = L[0] m := by
  rw [hiTo_next (k := 0) h]
  show max ((L.headD fun _ => 0) m) (L[0] m) = L[0] m
  rw [headD_get h]; omega

set_option maxRecDepth 100000 in
set_option maxHeartbeats 4000000 in
theorem refLeftOf_is (s : FShop) (ma : Option Addr) (ml mc : Nat) (wa : Option Addr) (wl wc : Nat) (na : Option Addr) (nl nc : Nat) (m : Nat) (hm : m < s.moulds.length) (ho : s.ok = true) (hl0 : 0 < s.left.length) (w : World) (hp : FAt w ma ml mc wa wl wc na nl nc s) :
    Calls Try.prog 79 #[.agg #[.slice ma ml mc, .slice wa wl wc, .slice na nl nc, .int .i64 s.fresh], .int .i64 m] w fun e w' => e = .returned (.agg #[.int .i64 (loOf s.left m), .int .i64 (hiOf s.left m)]) ∧ Below w.heap.size w w' := by
  have HWO := Lib.hid (fun W (hb : Below w.heap.size w W) => refWorldsOf_any s ma ml mc wa wl wc na nl nc W (hp.below hb) ho)
  have HLI := Lib.hid (fun i (hi : i < s.which.length) (hi2 : i < s.left.length) W (hb : Below w.heap.size w W) => LeftIn_which s ma ml mc wa wl wc na nl nc i m hi hi2 hm ho W (hp.below hb))
  have hwl := which_left s
  have hw0 : 0 < s.which.length := by omega
  have hlf := left_few ho
  clear hp hm ho
  generalize s.which = wh at *
  generalize s.left = L at *
  go_enter Try.func79, Try.ntmps79
  go_wp2_with fail
  obtain ⟨W0, hW0, hB0, hr0, hg0, -, hgf, hz0⟩ := name2e w #[.slice ma ml mc, .slice wa wl wc, .slice na nl nc, .int .i64 s.fresh] 26 #[.int .i64 0, .int .i64 0] 39
  rw [hW0]
  clear hW0
  obtain ⟨x0, x1, x2, x3⟩ : W0.cell? ⟨w.heap.size, 0, none⟩ = some (.slice ma ml mc) ∧ W0.cell? ⟨w.heap.size, 1, none⟩ = some (.slice wa wl wc) ∧ W0.cell? ⟨w.heap.size, 2, none⟩ = some (.slice na nl nc) ∧ W0.cell? ⟨w.heap.size, 3, none⟩ = some (.int .i64 s.fresh) := ⟨hr0 0, hr0 1, hr0 2, hr0 3⟩
  have z0 : w.heap.size < W0.heap.size := by omega
  have z1 : w.heap.size + 1 < W0.heap.size := by omega
  have HB0 := Lib.hid hB0
  have HR0 := Lib.hid hr0
  have HG0 := Lib.hid hg0
  have HGF := Lib.hid hgf
  clear hB0 hr0 hg0 hgf hz0
  refine (HWO.out _ HB0.out).mono ?_
  rintro e w1 ⟨la, lc, rfl, hli, hb1⟩
  clear x0 x1 x2 x3
  have HB1 := Lib.hid hb1
  obtain ⟨x0, x1, x2, x3⟩ : w1.cell? ⟨w.heap.size, 0, none⟩ = some (.slice ma ml mc) ∧ w1.cell? ⟨w.heap.size, 1, none⟩ = some (.slice wa wl wc) ∧ w1.cell? ⟨w.heap.size, 2, none⟩ = some (.slice na nl nc) ∧ w1.cell? ⟨w.heap.size, 3, none⟩ = some (.int .i64 s.fresh) := ⟨(hb1.cell (p := ⟨w.heap.size, 0, none⟩) z0).trans (HR0.out 0), (hb1.cell (p := ⟨w.heap.size, 1, none⟩) z0).trans (HR0.out 1), (hb1.cell (p := ⟨w.heap.size, 2, none⟩) z0).trans (HR0.out 2), (hb1.cell (p := ⟨w.heap.size, 3, none⟩) z0).trans (HR0.out 3)⟩
  obtain ⟨hll, hlm, hlc⟩ := hli
  obtain ⟨lb, lo, rfl, hlb, hlcell⟩ := hlc hw0
  have HLC := Lib.hid hlcell
  have c0 := hlcell 0 hw0
  rw [Nat.add_zero] at c0
  have q0 : w.heap.size < w1.heap.size := Nat.lt_of_lt_of_le z0 hb1.size
  have hbw := HB0.out.trans (hb1.mono HB0.out.size)
  have h0l : 0 < L.length := hl0
  have HLX := Lib.hid (fun W (h : Below w1.heap.size w1 W ∧ ∀ b o, b < w1.heap.size → W.cell? ⟨b, o, none⟩ = w1.cell? ⟨b, o, none⟩) => bothS1 (W0 := w1) (HLI.out 0 hw0 hl0 W (hbw.trans (h.1.mono hbw.size))) h)
  have HBW := Lib.hid hbw
  have HL1 := Lib.hid (loTo_one h0l m)
  have HH1 := Lib.hid (hiTo_one h0l m)
  have hw0' : (0 : Int) < (wh.length : Int) := by omega
  clear hb1 hlcell hbw hll hlm hlc
  obtain ⟨n0, hn0⟩ : ∃ n0, L[0] m = n0 := ⟨_, rfl⟩
  rw [hn0] at HLX HL1 HH1
  obtain ⟨i0, hi0⟩ : ∃ i0, wh[0] = i0 := ⟨_, rfl⟩
  rw [hi0] at HLX c0
  clear hn0 hi0
  go_upto_region 2 with fail
  go_cut [6] (fun v wx => v = .int .i64 n0 ∧ Below w1.heap.size w1 wx)
  case first =>
    go_region_held3 (fun w' => Below w1.heap.size w1 w' ∧ ∀ b o, b < w1.heap.size → w'.cell? ⟨b, o, none⟩ = w1.cell? ⟨b, o, none⟩) (first | with_reducible assumption | ((repeat (first | with_reducible refine bothS_drew ?_ | with_reducible refine bothS_alloc _ ?_ | with_reducible refine bothS_set _ _ (by first | omega | (simp; omega) | simp) ?_)); first | with_reducible assumption | with_reducible exact Hid.out (by assumption) | with_reducible exact ⟨Below.refl _ _, fun _ _ _ => rfl⟩)) (first | (go_at_call 22; with_reducible refine (HLX.out _ ?_).mono ?_; (first | with_reducible assumption | ((repeat (first | with_reducible refine bothS_drew ?_ | with_reducible refine bothS_alloc _ ?_ | with_reducible refine bothS_set _ _ (by first | omega | (simp; omega) | simp) ?_)); first | with_reducible assumption | with_reducible exact Hid.out (by assumption) | with_reducible exact ⟨Below.refl _ _, fun _ _ _ => rfl⟩)); rintro e w' ⟨rfl, k, k1, k2, k3⟩; have HK := Lib.hid k; (try simp at k3); (try have k6 := Nat.lt_of_succ_le k3); (try have k7 := Nat.lt_of_succ_lt k6); (try have k8 := Nat.lt_of_succ_lt k3)) | fail "no arm")
    all_goals (go_wp2_with fail; go_meet; exact ⟨rfl, And.left (by assumption)⟩)
  case rest =>
  obtain ⟨rfl, hB2⟩ := hcut
  obtain ⟨w2, rfl⟩ : ∃ w2 : World, w2 = wc := ⟨_, rfl⟩
  have HB2 := Lib.hid (HB1.out.trans (hB2.mono HB1.out.size))
  have q2 : lb < w2.heap.size := Nat.lt_of_lt_of_le hlb hB2.size
  have q3 : w.heap.size < w2.heap.size := Nat.lt_of_lt_of_le q0 hB2.size
  have q4 : w.heap.size + 1 < w2.heap.size := Nat.lt_of_lt_of_le z1 HB2.out.size
  have HLC2 := Lib.hid (fun k (hk : k < wh.length) => (hB2.cell (p := ⟨lb, lo + k, none⟩) hlb).trans (HLC.out k hk))
  clear hB2 c0 HLX HLC
  clear x0 x1 x2 x3
  go_wp2_with fail
  obtain ⟨W3, hW3, hB3, hs3, hf3, hz3⟩ := name1kf w2 #[.int .i64 n0, .int .i64 n0] 39
  rw [hW3]
  clear hW3
  have HB3 := Lib.hid hB3
  have HW3 := Lib.hid (HB2.out.trans (hB3.mono HB2.out.size))
  have HLC3 := Lib.hid (fun k (hk : k < wh.length) => (hB3.cell (p := ⟨lb, lo + k, none⟩) q2).trans (HLC2.out k hk))
  obtain ⟨g, hg⟩ : ∃ g, g = w2.heap.size := ⟨_, rfl⟩
  rw [← hg]
  rw [← hg] at hs3 hf3 hz3
  have hlbg : lb < g := by omega
  have hwg : w.heap.size < g := by omega
  have hwg1 : w.heap.size + 1 < g := by omega
  have hWg : W0.heap.size ≤ g := by rw [hg]; exact HB2.out.size
  clear hg hB3 HLC2 q2 q3 q4
  have HS3 := Lib.hid hs3
  have HF3 := Lib.hid hf3
  clear hs3 hf3
  go_loopw [8] (fun i wr => ∃ k : Nat, 1 ≤ k ∧ k ≤ wh.length ∧ i = .int .i64 k ∧ wr.cell? ⟨g, 0, none⟩ = some (.int .i64 (loTo L m k)) ∧ wr.cell? ⟨g, 1, none⟩ = some (.int .i64 (hiTo L m k)) ∧ wr.frozen? ⟨g, 0, none⟩ = false ∧ wr.frozen? ⟨g, 1, none⟩ = false ∧ g < wr.heap.size ∧ Below g W3 wr) (fun i _ => wh.length - (intOf i).toNat)
  case atStart => exact ⟨1, by omega, by omega, rfl, by rw [HL1.out]; exact HS3.out 0, by rw [HH1.out]; exact HS3.out 1, HF3.out 0, HF3.out 1, hz3, Below.refl _ _⟩
  case round =>
    obtain ⟨k, hk1, hk, rfl, l0, l1, y0, y1, hzr, hB⟩ := hrel
    obtain ⟨W4, rfl⟩ : ∃ W4 : World, W4 = wr := ⟨_, rfl⟩
    have HB := Lib.hid hB
    have hcellb := fun i => (hB.cell (p := ⟨w.heap.size, i, none⟩) hwg).trans ((HW3.out.cell (p := ⟨w.heap.size, i, none⟩) z0).trans (HR0.out i))
    obtain ⟨x0, x1, x2, x3⟩ : W4.cell? ⟨w.heap.size, 0, none⟩ = some (.slice ma ml mc) ∧ W4.cell? ⟨w.heap.size, 1, none⟩ = some (.slice wa wl wc) ∧ W4.cell? ⟨w.heap.size, 2, none⟩ = some (.slice na nl nc) ∧ W4.cell? ⟨w.heap.size, 3, none⟩ = some (.int .i64 s.fresh) := ⟨hcellb 0, hcellb 1, hcellb 2, hcellb 3⟩
    have hbw : Below w.heap.size w W4 := HB0.out.trans ((HW3.out.trans (hB.mono hWg)).mono HB0.out.size)
    clear hcellb
    by_cases hlt : k < wh.length
    · have hkL : k < L.length := by omega
      have c0 := (hB.cell (p := ⟨lb, lo + k, none⟩) hlbg).trans (HLC3.out k hlt)
      have hlbW : lb < W4.heap.size := by omega
      have hwW : w.heap.size < W4.heap.size := by omega
      have HLX := Lib.hid (fun W (h : Below W4.heap.size W4 W ∧ ∀ b o, b < W4.heap.size → W.cell? ⟨b, o, none⟩ = W4.cell? ⟨b, o, none⟩) => bothS1 (W0 := W4) (HLI.out k hlt hkL W (hbw.trans (h.1.mono hbw.size))) h)
      have HL := Lib.hid (loTo_next (m := m) hkL)
      have HH := Lib.hid (hiTo_next (m := m) hkL)
      have hkl : (k : Int) < (wh.length : Int) := by omega
      have hk0 : (0 : Int) ≤ (k : Int) := by omega
      clear hB hbw
      obtain ⟨nk, hnk⟩ : ∃ nk, L[k] m = nk := ⟨_, rfl⟩
      rw [hnk] at HLX HL HH
      obtain ⟨ik, hik⟩ : ∃ ik, wh[k] = ik := ⟨_, rfl⟩
      rw [hik] at HLX c0
      clear hnk hik
      go_upto_region 7 with fail
      go_cut [9] (fun v wx => v = .int .i64 nk ∧ Below W4.heap.size W4 wx)
      case first =>
        clear l0 l1 y0 y1
        go_region_held3 (fun w' => Below W4.heap.size W4 w' ∧ ∀ b o, b < W4.heap.size → w'.cell? ⟨b, o, none⟩ = W4.cell? ⟨b, o, none⟩) (first | with_reducible assumption | ((repeat (first | with_reducible refine bothS_drew ?_ | with_reducible refine bothS_alloc _ ?_ | with_reducible refine bothS_set _ _ (by first | omega | (simp; omega) | simp) ?_)); first | with_reducible assumption | with_reducible exact Hid.out (by assumption) | with_reducible exact ⟨Below.refl _ _, fun _ _ _ => rfl⟩)) (first | (go_at_call 22; with_reducible refine (HLX.out _ ?_).mono ?_; (first | with_reducible assumption | ((repeat (first | with_reducible refine bothS_drew ?_ | with_reducible refine bothS_alloc _ ?_ | with_reducible refine bothS_set _ _ (by first | omega | (simp; omega) | simp) ?_)); first | with_reducible assumption | with_reducible exact Hid.out (by assumption) | with_reducible exact ⟨Below.refl _ _, fun _ _ _ => rfl⟩)); rintro e w' ⟨rfl, k, k1, k2, k3⟩; have HK := Lib.hid k; (try simp at k3); (try have k6 := Nat.lt_of_succ_le k3); (try have k7 := Nat.lt_of_succ_lt k6); (try have k8 := Nat.lt_of_succ_lt k3)) | fail "no arm")
        all_goals (go_wp2_with fail; go_meet; exact ⟨rfl, And.left (by assumption)⟩)
      case rest =>
      obtain ⟨rfl, hB5⟩ := hcut
      obtain ⟨w5, rfl⟩ : ∃ w5 : World, w5 = wc := ⟨_, rfl⟩
      have m0 := (hB5.cell (p := ⟨g, 0, none⟩) hzr).trans l0
      have m1 := (hB5.cell (p := ⟨g, 1, none⟩) hzr).trans l1
      have f0 := (hB5.frozen (p := ⟨g, 0, none⟩) hzr).trans y0
      have f1 := (hB5.frozen (p := ⟨g, 1, none⟩) hzr).trans y1
      have hz5 : g < w5.heap.size := Nat.lt_of_lt_of_le hzr hB5.size
      have HB5 := Lib.hid (HB.out.trans (hB5.mono (Nat.le_of_lt hzr)))
      clear hB5 l0 l1 y0 y1 c0 HLX
      clear x0 x1 x2 x3
      generalize hlo : loTo L m k = lo' at *
      generalize hhi : hiTo L m k = hi' at *
      rcases Int.lt_or_le nk lo' with h1 | h1 <;> rcases Int.lt_or_le hi' nk with h2 | h2
      all_goals
        go_wp2_with fail
        go_roundw
        case rel =>
          refine ⟨k + 1, by omega, by omega, by go_num, ?_, ?_, by go_simp, by go_simp, by simp; omega, ?_⟩
          · rw [HL.out]; go_simp; omega
          · rw [HH.out]; go_simp; omega
          · have hBB := HB5.out
            exact (by repeat (first | assumption | exact Below.refl _ _ | (refine Below.alloc ?_ (by first | omega | (simp; omega) | simp) _) | (refine Below.setCell ?_ (by first | omega | (simp; omega) | simp) _) | refine Below.drew ?_))
        case measure => simp [intOf]; omega
    · obtain rfl : wh.length = k := by omega
      have r0 := (hB.cell (p := ⟨w.heap.size + 1, 0, none⟩) hwg1).trans ((HW3.out.cell (p := ⟨w.heap.size + 1, 0, none⟩) z1).trans (HG0.out 0))
      have r1 := (hB.cell (p := ⟨w.heap.size + 1, 1, none⟩) hwg1).trans ((HW3.out.cell (p := ⟨w.heap.size + 1, 1, none⟩) z1).trans (HG0.out 1))
      have r2 := (hB.frozen (p := ⟨w.heap.size + 1, 0, none⟩) hwg1).trans ((HW3.out.frozen (p := ⟨w.heap.size + 1, 0, none⟩) z1).trans (HGF.out 0))
      have r3 := (hB.frozen (p := ⟨w.heap.size + 1, 1, none⟩) hwg1).trans ((HW3.out.frozen (p := ⟨w.heap.size + 1, 1, none⟩) z1).trans (HGF.out 1))
      have e1 : loOf L m = loTo L m wh.length := by rw [loOf, hwl]
      have e2 : hiOf L m = hiTo L m wh.length := by rw [hiOf, hwl]
      have HE := Lib.hid (And.intro e1 e2)
      have HBW2 := Lib.hid hbw
      clear hB hbw e1 e2
      generalize loTo L m wh.length = lo' at *
      generalize hiTo L m wh.length = hi' at *
      go_wp2_with fail
      refine bodyPost_ret (v := .agg #[.int .i64 lo', .int .i64 hi']) (by simp [results, Try.results79, go_sem, l0, l1, r0, r1, r2, r3]) rfl ⟨by rw [HE.out.1, HE.out.2], ?_⟩
      exact Below.setCell (Below.setCell HBW2.out (by simp) _) (by simp) _
end Go.Proofs.Ytigeiaiohdemiaa
