/- Package pages: Grow. -/
import Derived.Test.YtcklhojeneejiaaZQ
import Derived.Test.YtcklhojeneejiaaYG
namespace Go.Proofs.Ytcklhojeneejiaa
set_option linter.unusedVariables false
set_option linter.unusedSimpArgs false
open Go.RowKit Go.Shelf

theorem high_ok {f : PFrame} (ho : f.ok = true) (k : Nat) (h : Int) (h1 : f.lo k ≤ h) (h2 : h ≤ 99) : (f.high k h).ok = true := by
  have hlo := PFrame.lo_bd ho (k : Int)
  have hpy := pay_bd ho k
  unfold PFrame.ok at ho ⊢
  simp only [Bool.and_eq_true] at ho ⊢
  obtain ⟨⟨⟨⟨⟨a1, a2⟩, a3⟩, a4⟩, a5⟩, a6⟩ := ho
  refine ⟨⟨⟨⟨⟨a1, a2⟩, ?_⟩, a4⟩, ?_⟩, ?_⟩
  · unfold PFrame.few PFrame.high at *; simpa using a3
  · refine List.all_eq_true.2 fun p hp => ?_
    unfold PFrame.high at hp
    rcases List.mem_or_eq_of_mem_set hp with h3 | h3
    · exact List.all_eq_true.1 a5 _ h3
    · subst h3
      unfold pieceB btw
      simp
      omega
  · unfold PFrame.placed PFrame.flat PFrame.high at *; simpa using a6
/-- The greatest High from lo + n - 1 down with which the page can be locked. -/
def PFrame.growFrom (f : PFrame) (k : Nat) : Nat → Option Int
  | 0 => none
  | n + 1 => if (f.high k (f.lo k + n)).locks 0 then some (f.lo k + n) else PFrame.growFrom f k n
def PFrame.growR (f : PFrame) (k : Nat) : Int × Int := match f.growFrom k (100 - f.lo k).toNat with
  | none => (0, 3)
  | some h => (h, 0)
def PFrame.pieceE (f : PFrame) (p : Int) : Int := f.name (btw p 0 ((f.pieces.length : Int) - 1))

set_option maxRecDepth 100000 in
set_option maxHeartbeats 4000000 in
theorem Grow_no (f : PFrame) (sa : Option Addr) (sl sc : Nat) (pa : Option Addr) (pl pc : Nat) (ca : Option Addr) (cl cc : Nat) (p v : Int) (hv : f.pieceE p = v) (h0 : v ≠ 0) (w : World) (hp : PAt w sa sl sc pa pl pc ca cl cc f) :
    Calls Try.prog 42 #[.agg #[.int .i64 f.len, .int .i64 f.slack, .slice sa sl sc, .slice pa pl pc, .slice ca cl cc], .int .i64 p] w fun e w' => e = .returned (.tuple #[.int .i64 0, .int .i64 v]) ∧ Below w.heap.size w w' := by
  have hpm := hp.2.1.2.1
  have hpl := hp.2.1.1
  obtain ⟨r, hr⟩ : ∃ r, btw p 0 ((pl : Int) - 1) = r := ⟨_, rfl⟩
  have HH := Lib.hid (fun W => hasPiece_is f sa sl sc pa pl pc ca cl cc p W hpm r hr)
  have HA := Lib.hid (fun W (hb : Below w.heap.size w W) => named_is f sa sl sc pa pl pc ca cl cc r v (by rw [← hv, PFrame.pieceE, hpl, hr]) W (hp.below hb))
  have e2 : (v != 0) = true := by simpa using h0
  clear hp hv hpm hpl hr
  go_enter Try.func42, Try.ntmps42
  go_wp2_with fail
  obtain ⟨W0, hW0, hB0, ha0, hs0, hz0⟩ := name2c w #[.int .i64 f.len, .int .i64 f.slack, .slice sa sl sc, .slice pa pl pc, .slice ca cl cc] 26 #[.int .i64 f.len, .int .i64 f.slack, .slice sa sl sc, .slice pa pl pc, .slice ca cl cc] 87
  rw [hW0]
  clear hW0
  have HHX := Lib.hid (fun W (h : Below W0.heap.size W0 W ∧ ∀ b o, b < W0.heap.size → W.cell? ⟨b, o, none⟩ = W0.cell? ⟨b, o, none⟩) => bothS1 (W0 := W0) (HH.out W) h)
  have HAN := Lib.hid (fun W (h : Below W0.heap.size W0 W ∧ ∀ b o, b < W0.heap.size → W.cell? ⟨b, o, none⟩ = W0.cell? ⟨b, o, none⟩) => bothS1 (W0 := W0) (HA.out W (hB0.trans (h.1.mono hB0.size))) h)
  obtain ⟨x0, x1, x2, x3, x4⟩ : W0.cell? ⟨w.heap.size + 1, 0, none⟩ = some (.int .i64 f.len) ∧ W0.cell? ⟨w.heap.size + 1, 1, none⟩ = some (.int .i64 f.slack) ∧ W0.cell? ⟨w.heap.size + 1, 2, none⟩ = some (.slice sa sl sc) ∧ W0.cell? ⟨w.heap.size + 1, 3, none⟩ = some (.slice pa pl pc) ∧ W0.cell? ⟨w.heap.size + 1, 4, none⟩ = some (.slice ca cl cc) := ⟨hs0 0, hs0 1, hs0 2, hs0 3, hs0 4⟩
  have z1 : w.heap.size + 1 < W0.heap.size := by omega
  have HB0 := Lib.hid hB0
  have HA0 := Lib.hid ha0
  have HS0 := Lib.hid hs0
  clear hB0 ha0 hs0 hz0
  go_upto_region 2 with fail
  go_cut [7] (fun v7 wx => v7 = .int .i64 v ∧ Below W0.heap.size W0 wx)
  case first =>
    go_region_held3 (fun w' => Below W0.heap.size W0 w' ∧ ∀ b o, b < W0.heap.size → w'.cell? ⟨b, o, none⟩ = W0.cell? ⟨b, o, none⟩) (first | with_reducible assumption | ((repeat (first | with_reducible refine bothS_drew ?_ | with_reducible refine bothS_alloc _ ?_ | with_reducible refine bothS_set _ _ (by first | omega | (simp; omega) | simp) ?_)); first | with_reducible assumption | with_reducible exact Hid.out (by assumption) | with_reducible exact ⟨Below.refl _ _, fun _ _ _ => rfl⟩)) (first | (go_at_call 98; with_reducible refine (HHX.out _ ?_).mono ?_; (first | with_reducible assumption | ((repeat (first | with_reducible refine bothS_drew ?_ | with_reducible refine bothS_alloc _ ?_ | with_reducible refine bothS_set _ _ (by first | omega | (simp; omega) | simp) ?_)); first | with_reducible assumption | with_reducible exact Hid.out (by assumption) | with_reducible exact ⟨Below.refl _ _, fun _ _ _ => rfl⟩)); rintro e w' ⟨rfl, k, k1, k2, k3⟩; have HK := Lib.hid k; (try simp at k3); (try have k6 := Nat.lt_of_succ_le k3); (try have k7 := Nat.lt_of_succ_lt k6); (try have k8 := Nat.lt_of_succ_lt k3)) | (go_at_call 74; with_reducible refine (HAN.out _ ?_).mono ?_; (first | with_reducible assumption | ((repeat (first | with_reducible refine bothS_drew ?_ | with_reducible refine bothS_alloc _ ?_ | with_reducible refine bothS_set _ _ (by first | omega | (simp; omega) | simp) ?_)); first | with_reducible assumption | with_reducible exact Hid.out (by assumption) | with_reducible exact ⟨Below.refl _ _, fun _ _ _ => rfl⟩)); rintro e w' ⟨rfl, k, k1, k2, k3⟩; have HK := Lib.hid k; (try simp at k3); (try have k6 := Nat.lt_of_succ_le k3); (try have k7 := Nat.lt_of_succ_lt k6); (try have k8 := Nat.lt_of_succ_lt k3)) | fail "no arm")
    all_goals (go_wp2_with fail; go_meet; exact ⟨rfl, And.left (by assumption)⟩)
  case rest =>
  obtain ⟨rfl, hB1⟩ := hcut
  obtain ⟨w1, rfl⟩ : ∃ w1 : World, w1 = wc := ⟨_, rfl⟩
  have HBW := Lib.hid (HB0.out.trans (hB1.mono HB0.out.size))
  clear hB1
  go_wp2_with fail
  go_ret2
  exact ⟨rfl, HBW.out⟩

set_option maxRecDepth 100000 in
set_option maxHeartbeats 8000000 in
theorem Grow_yes (f : PFrame) (sa : Option Addr) (sl sc : Nat) (pa : Option Addr) (pl pc : Nat) (ca : Option Addr) (cl cc : Nat) (ho : f.ok = true) (k : Nat) (hk : k < f.pieces.length) (w : World) (hp : PAt w sa sl sc pa pl pc ca cl cc f) :
    Calls Try.prog 42 #[.agg #[.int .i64 f.len, .int .i64 f.slack, .slice sa sl sc, .slice pa pl pc, .slice ca cl cc], .int .i64 k] w fun e w' => e = .returned (.tuple #[.int .i64 (f.growR k).1, .int .i64 (f.growR k).2]) ∧ Below w.heap.size w w' := by
  have hpm := hp.2.1.2.1
  have hpl := hp.2.1.1
  obtain ⟨v, hv⟩ : ∃ v : Int, v = 0 := ⟨_, rfl⟩
  have HH := Lib.hid (fun W => hasPiece_is f sa sl sc pa pl pc ca cl cc (k : Int) W hpm true (by unfold btw; simp; omega))
  have HA := Lib.hid (fun W (hb : Below w.heap.size w W) => named_is f sa sl sc pa pl pc ca cl cc true v (by rw [hv]; simp [PFrame.name, ho]) W (hp.below hb))
  have HWH := Lib.hid (fun h W (hb : Below w.heap.size w W) => withHigh_any f sa sl sc pa pl pc ca cl cc ho k hk h W (hp.below hb))
  have HLK := Lib.hid (fun h (h1 : f.lo k ≤ h) (h2 : h ≤ 99) b (hl : (f.high k h).locks 0 = b) ga gc W (hb : PAt W sa sl sc ga pl gc ca cl cc (f.high k h)) => (hl ▸ locks_any (f.high k h) sa sl sc ga pl gc ca cl cc (high_ok ho k h h1 h2) 0 (by decide) W hb : Calls Try.prog 94 #[.agg #[.int .i64 f.len, .int .i64 f.slack, .slice sa sl sc, .slice ga pl gc, .slice ca cl cc], .int .i64 0] W fun e w' => e = .returned (.bool b) ∧ Below W.heap.size W w'))
  have hlo := PFrame.lo_bd ho (k : Int)
  have HLO := Lib.hid (show f.lo k = f.pieces[k].lo by unfold PFrame.lo; simp [hk])
  obtain ⟨pb, po, hpa, hpB, hpcell⟩ := hp.2.1.2.2 (by omega)
  have HPX := Lib.hid hpa
  have hc0 := (hpcell k hk).1
  rw [← HLO.out] at hc0
  obtain ⟨N, hN⟩ : ∃ N, (100 - f.lo k).toNat = N := ⟨_, rfl⟩
  have HGR := Lib.hid (show f.growR k = match f.growFrom k N with | none => (0, 3) | some h => (h, 0) by unfold PFrame.growR; rw [hN])
  have HGF := Lib.hid (show ∀ n b, (f.high k (f.lo k + (n : Nat))).locks 0 = b → f.growFrom k (n + 1) = if b then some (f.lo k + (n : Nat)) else f.growFrom k n from fun n b h => by rw [PFrame.growFrom, h])
  have hkl : (k : Int) < (pl : Int) := by omega
  have hk0 : (0 : Int) ≤ (k : Int) := by omega
  have HV := Lib.hid hv
  clear hp hpm hv hpcell hpa
  obtain ⟨lo, hle⟩ : ∃ lo, f.lo k = lo := ⟨_, rfl⟩
  rw [hle] at hlo hc0 hN HGF
  have HLE := Lib.hid hle
  clear hle
  go_enter Try.func42, Try.ntmps42
  go_wp2_with fail
  obtain ⟨W0, hW0, hB0, ha0, hs0, hz0⟩ := name2c w #[.int .i64 f.len, .int .i64 f.slack, .slice sa sl sc, .slice pa pl pc, .slice ca cl cc] 26 #[.int .i64 f.len, .int .i64 f.slack, .slice sa sl sc, .slice pa pl pc, .slice ca cl cc] 87
  rw [hW0]
  clear hW0
  have HHX := Lib.hid (fun W (h : Below W0.heap.size W0 W ∧ ∀ b o, b < W0.heap.size → W.cell? ⟨b, o, none⟩ = W0.cell? ⟨b, o, none⟩) => bothS1 (W0 := W0) (HH.out W) h)
  have HAN := Lib.hid (fun W (h : Below W0.heap.size W0 W ∧ ∀ b o, b < W0.heap.size → W.cell? ⟨b, o, none⟩ = W0.cell? ⟨b, o, none⟩) => bothS1 (W0 := W0) (HA.out W (hB0.trans (h.1.mono hB0.size))) h)
  obtain ⟨x0, x1, x2, x3, x4⟩ : W0.cell? ⟨w.heap.size + 1, 0, none⟩ = some (.int .i64 f.len) ∧ W0.cell? ⟨w.heap.size + 1, 1, none⟩ = some (.int .i64 f.slack) ∧ W0.cell? ⟨w.heap.size + 1, 2, none⟩ = some (.slice sa sl sc) ∧ W0.cell? ⟨w.heap.size + 1, 3, none⟩ = some (.slice pa pl pc) ∧ W0.cell? ⟨w.heap.size + 1, 4, none⟩ = some (.slice ca cl cc) := ⟨hs0 0, hs0 1, hs0 2, hs0 3, hs0 4⟩
  have z1 : w.heap.size + 1 < W0.heap.size := by omega
  have HB0 := Lib.hid hB0
  have HA0 := Lib.hid ha0
  have HS0 := Lib.hid hs0
  clear hB0 ha0 hs0 hz0
  go_upto_region 2 with fail
  go_cut [7] (fun v7 wx => v7 = .int .i64 v ∧ Below W0.heap.size W0 wx)
  case first =>
    go_region_held3 (fun w' => Below W0.heap.size W0 w' ∧ ∀ b o, b < W0.heap.size → w'.cell? ⟨b, o, none⟩ = W0.cell? ⟨b, o, none⟩) (first | with_reducible assumption | ((repeat (first | with_reducible refine bothS_drew ?_ | with_reducible refine bothS_alloc _ ?_ | with_reducible refine bothS_set _ _ (by first | omega | (simp; omega) | simp) ?_)); first | with_reducible assumption | with_reducible exact Hid.out (by assumption) | with_reducible exact ⟨Below.refl _ _, fun _ _ _ => rfl⟩)) (first | (go_at_call 98; with_reducible refine (HHX.out _ ?_).mono ?_; (first | with_reducible assumption | ((repeat (first | with_reducible refine bothS_drew ?_ | with_reducible refine bothS_alloc _ ?_ | with_reducible refine bothS_set _ _ (by first | omega | (simp; omega) | simp) ?_)); first | with_reducible assumption | with_reducible exact Hid.out (by assumption) | with_reducible exact ⟨Below.refl _ _, fun _ _ _ => rfl⟩)); rintro e w' ⟨rfl, k, k1, k2, k3⟩; have HK := Lib.hid k; (try simp at k3); (try have k6 := Nat.lt_of_succ_le k3); (try have k7 := Nat.lt_of_succ_lt k6); (try have k8 := Nat.lt_of_succ_lt k3)) | (go_at_call 74; with_reducible refine (HAN.out _ ?_).mono ?_; (first | with_reducible assumption | ((repeat (first | with_reducible refine bothS_drew ?_ | with_reducible refine bothS_alloc _ ?_ | with_reducible refine bothS_set _ _ (by first | omega | (simp; omega) | simp) ?_)); first | with_reducible assumption | with_reducible exact Hid.out (by assumption) | with_reducible exact ⟨Below.refl _ _, fun _ _ _ => rfl⟩)); rintro e w' ⟨rfl, k, k1, k2, k3⟩; have HK := Lib.hid k; (try simp at k3); (try have k6 := Nat.lt_of_succ_le k3); (try have k7 := Nat.lt_of_succ_lt k6); (try have k8 := Nat.lt_of_succ_lt k3)) | fail "no arm")
    all_goals (go_wp2_with fail; go_meet; exact ⟨rfl, And.left (by assumption)⟩)
  case rest =>
  obtain ⟨rfl, hB1⟩ := hcut
  obtain ⟨w1, rfl⟩ : ∃ w1 : World, w1 = wc := ⟨_, rfl⟩
  obtain rfl := HV.out
  have hpa := HPX.out
  subst hpa
  have HB1 := Lib.hid hB1
  clear hB1 x0 x1 x2 x3 x4
  go_wp2_with fail
  go_loopw [8] (fun v8 wr => ∃ n : Nat, v8 = .int .i64 (lo + n - 1) ∧ n ≤ N ∧ f.growFrom k N = f.growFrom k n ∧ Below W0.heap.size W0 wr) (fun v8 _ => (intOf v8 - lo + 1).toNat)
  case atStart => exact ⟨N, by congr 1; omega, Nat.le_refl _, rfl, HB1.out⟩
  case round =>
    obtain ⟨n, rfl, hn, hg, hbr⟩ := hrel
    obtain ⟨x0, x1, x2, x3, x4⟩ : wr.cell? ⟨w.heap.size + 1, 0, none⟩ = some (.int .i64 f.len) ∧ wr.cell? ⟨w.heap.size + 1, 1, none⟩ = some (.int .i64 f.slack) ∧ wr.cell? ⟨w.heap.size + 1, 2, none⟩ = some (.slice sa sl sc) ∧ wr.cell? ⟨w.heap.size + 1, 3, none⟩ = some (.slice (some ⟨pb, po, none⟩) pl pc) ∧ wr.cell? ⟨w.heap.size + 1, 4, none⟩ = some (.slice ca cl cc) := ⟨(hbr.cell (p := ⟨w.heap.size + 1, 0, none⟩) z1).trans (HS0.out 0), (hbr.cell (p := ⟨w.heap.size + 1, 1, none⟩) z1).trans (HS0.out 1), (hbr.cell (p := ⟨w.heap.size + 1, 2, none⟩) z1).trans (HS0.out 2), (hbr.cell (p := ⟨w.heap.size + 1, 3, none⟩) z1).trans (HS0.out 3), (hbr.cell (p := ⟨w.heap.size + 1, 4, none⟩) z1).trans (HS0.out 4)⟩
    have q3 := (hbr.cell (p := ⟨w.heap.size, 3, none⟩) (by show w.heap.size < _; omega)).trans (HA0.out 3)
    simp only [List.getElem?_toArray, List.getElem?_cons_zero, List.getElem?_cons_succ] at q3
    have HBW := Lib.hid (HB0.out.trans (hbr.mono HB0.out.size))
    have hcl := (HBW.out.cell (p := ⟨pb, po + k * 3, none⟩) hpB).trans hc0
    have HBR := Lib.hid hbr
    have HG := Lib.hid hg
    clear hbr hg
    cases n with
    | zero =>
      have HR := Lib.hid (show f.growR k = (0, 3) by rw [HGR.out, HG.out]; rfl)
      have hge : ¬ (lo + ((0 : Nat) : Int) - 1) ≥ lo := by omega
      go_wp2_with fail
      go_ret2
      rw [HR.out]
      exact ⟨rfl, HBW.out⟩
    | succ m =>
      have e1 : lo + ((m + 1 : Nat) : Int) - 1 = lo + (m : Int) := by omega
      rw [e1]
      have hge : lo + (m : Int) ≥ lo := by omega
      have hm1 : f.lo k ≤ lo + (m : Int) := by rw [HLE.out]; omega
      have hm2 : lo + (m : Int) ≤ 99 := by omega
      rcases hl : (f.high k (lo + (m : Int))).locks 0 with - | -
      · have HGN := Lib.hid (HGF.out m false hl)
        have HL := Lib.hid (fun ga gc W hb => HLK.out (lo + (m : Int)) hm1 hm2 false hl ga gc W hb)
        clear hl
        go_wp2_with (first
          | (go_at_call 99; refine (HWH.out _ _ HBW.out).mono ?_; rintro e wH ⟨ga, gc, rfl, hpH, hbH⟩; have HPH := Lib.hid hpH; have HBH := Lib.hid hbH; clear hpH hbH)
          | (go_at_call 94; refine (HL.out _ _ _ HPH.out).mono ?_; rintro e wL ⟨rfl, hbL⟩; have hall := HBR.out.trans (((HBH.out).trans (hbL.mono HBH.out.size)).mono HBR.out.size)))
        refine ⟨⟨m, rfl, by omega, by rw [HG.out, HGN.out]; rfl, hall⟩, by simp [intOf]; omega⟩
      · have HGN := Lib.hid (HGF.out m true hl)
        have HL := Lib.hid (fun ga gc W hb => HLK.out (lo + (m : Int)) hm1 hm2 true hl ga gc W hb)
        clear hl
        go_wp2_with (first
          | (go_at_call 99; refine (HWH.out _ _ HBW.out).mono ?_; rintro e wH ⟨ga, gc, rfl, hpH, hbH⟩; have HPH := Lib.hid hpH; have HBH := Lib.hid hbH; clear hpH hbH)
          | (go_at_call 94; refine (HL.out _ _ _ HPH.out).mono ?_; rintro e wL ⟨rfl, hbL⟩; have hall := HBR.out.trans (((HBH.out).trans (hbL.mono HBH.out.size)).mono HBR.out.size)))
        have HR := Lib.hid (show f.growR k = (lo + (m : Int), 0) by rw [HGR.out, HG.out, HGN.out]; rfl)
        go_ret2
        rw [HR.out]
        exact ⟨rfl, HB0.out.trans (hall.mono HB0.out.size)⟩
end Go.Proofs.Ytcklhojeneejiaa
