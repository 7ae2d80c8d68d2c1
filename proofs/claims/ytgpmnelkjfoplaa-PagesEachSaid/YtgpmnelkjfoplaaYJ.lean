/- Package pages: Gap. -/
import Derived.Test.YtgpmnelkjfoplaaYI
namespace Go.Proofs.Ytgpmnelkjfoplaa
set_option linter.unusedVariables false
set_option linter.unusedSimpArgs false
open Go.RowKit

def PFrame.gapE (f : PFrame) (one other : Int) : Int := f.name (btw one 0 ((f.pieces.length : Int) - 1) && btw other 0 ((f.pieces.length : Int) - 1))
def GapPost2 (f : PFrame) (one other : Int) (e : Ending) : Prop :=
  ∃ ci a di b, f.at one ci a ∧ f.at other di b ∧ e = .returned (.tuple #[.agg #[.int .i64 (f.gapLo (f.ahead ci a) (f.ahead di b)), .int .i64 (f.gapHi (f.ahead ci a) (f.ahead di b))], .int .i64 0])
set_option maxRecDepth 100000 in
set_option maxHeartbeats 4000000 in
theorem Gap_no (f : PFrame) (sa : Option Addr) (sl sc : Nat) (pa : Option Addr) (pl pc : Nat) (ca : Option Addr) (cl cc : Nat) (one other v : Int) (hv : f.gapE one other = v) (h0 : v ≠ 0) (w : World) (hp : PAt w sa sl sc pa pl pc ca cl cc f) :
    Calls Try.prog 44 #[.agg #[.int .i64 f.len, .int .i64 f.slack, .slice sa sl sc, .slice pa pl pc, .slice ca cl cc], .int .i64 one, .int .i64 other] w fun e w' => e = .returned (.tuple #[.agg #[.int .i64 0, .int .i64 0], .int .i64 v]) ∧ Below w.heap.size w w' := by
  have hpm := hp.2.1.2.1
  have hpl := hp.2.1.1
  obtain ⟨r, hr⟩ : ∃ r, btw one 0 ((pl : Int) - 1) = r := ⟨_, rfl⟩
  obtain ⟨q, hq⟩ : ∃ q, btw other 0 ((pl : Int) - 1) = q := ⟨_, rfl⟩
  have HH := Lib.hid (fun W => hasPiece_is f sa sl sc pa pl pc ca cl cc one W hpm r hr)
  have HS := Lib.hid (fun W => hasPiece_is f sa sl sc pa pl pc ca cl cc other W hpm q hq)
  have HA := Lib.hid (fun W (hb : Below w.heap.size w W) => named_is f sa sl sc pa pl pc ca cl cc (r && q) v (by rw [← hv, PFrame.gapE, hpl, hr, hq]) W (hp.below hb))
  have e2 : (v != 0) = true := by simpa using h0
  clear hp hv hpm hpl hr hq
  cases r
  · simp only [Bool.false_and] at HA
    go_enter Try.func44, Try.ntmps44
    go_wp2_with fail
    obtain ⟨W0, hW0, hB0, ha0, hr0, hs0, hrf, -, hz0⟩ := name3 w #[.int .i64 f.len, .int .i64 f.slack, .slice sa sl sc, .slice pa pl pc, .slice ca cl cc] 26 #[.int .i64 0, .int .i64 0] 32 #[.int .i64 f.len, .int .i64 f.slack, .slice sa sl sc, .slice pa pl pc, .slice ca cl cc] 87
    rw [hW0]
    clear hW0
    have HHX := Lib.hid (fun W (h : Below W0.heap.size W0 W ∧ ∀ b o, b < W0.heap.size → W.cell? ⟨b, o, none⟩ = W0.cell? ⟨b, o, none⟩) => bothS1 (W0 := W0) (HH.out W) h)
    have HSX := Lib.hid (fun W (h : Below W0.heap.size W0 W ∧ ∀ b o, b < W0.heap.size → W.cell? ⟨b, o, none⟩ = W0.cell? ⟨b, o, none⟩) => bothS1 (W0 := W0) (HS.out W) h)
    have HAN := Lib.hid (fun W (h : Below W0.heap.size W0 W ∧ ∀ b o, b < W0.heap.size → W.cell? ⟨b, o, none⟩ = W0.cell? ⟨b, o, none⟩) => bothS1 (W0 := W0) (HA.out W (hB0.trans (h.1.mono hB0.size))) h)
    obtain ⟨x0, x1, x2, x3, x4⟩ : W0.cell? ⟨w.heap.size + 1 + 1, 0, none⟩ = some (.int .i64 f.len) ∧ W0.cell? ⟨w.heap.size + 1 + 1, 1, none⟩ = some (.int .i64 f.slack) ∧ W0.cell? ⟨w.heap.size + 1 + 1, 2, none⟩ = some (.slice sa sl sc) ∧ W0.cell? ⟨w.heap.size + 1 + 1, 3, none⟩ = some (.slice pa pl pc) ∧ W0.cell? ⟨w.heap.size + 1 + 1, 4, none⟩ = some (.slice ca cl cc) := ⟨hs0 0, hs0 1, hs0 2, hs0 3, hs0 4⟩
    have z1 : w.heap.size + 1 < W0.heap.size := by omega
    have z2 : w.heap.size + 1 + 1 < W0.heap.size := by omega
    have HB0 := Lib.hid hB0
    have HR0 := Lib.hid hr0
    have HRF := Lib.hid hrf
    have HS0 := Lib.hid hs0
    clear hB0 hr0 hrf ha0 hs0 hz0
    go_upto_region 2 with fail
    go_cut [9] (fun v9 wx => v9 = .int .i64 v ∧ Below W0.heap.size W0 wx)
    case first =>
      refine wp_region_noPanic ?_
      refine wp_region_held_drew (S := (fun w' => Below W0.heap.size W0 w' ∧ ∀ b o, b < W0.heap.size → w'.cell? ⟨b, o, none⟩ = W0.cell? ⟨b, o, none⟩)) (by kernel_rfl) ?_ (fun hHeld => ?_)
      · (first | with_reducible assumption | ((repeat (first | with_reducible refine bothS_drew ?_ | with_reducible refine bothS_alloc _ ?_ | with_reducible refine bothS_set _ _ (by first | omega | (simp; omega) | simp) ?_)); first | with_reducible assumption | with_reducible exact Hid.out (by assumption) | with_reducible exact ⟨Below.refl _ _, fun _ _ _ => rfl⟩))
      refine wpAnyH_take (i := 0) (oi := ?_) (v := ?_) ?_ ?_ ?_ ?_ ?_ ?_ ?_ ?_; rotate_left 2; (· simp only [List.getElem?_toArray, List.getElem?_cons_succ, List.getElem?_cons_zero]; with_reducible rfl); (· kernel_rfl); (· kernel_rfl); (· kernel_rfl); (· exact fun _ _ _ h => h); (· refine Or.inl ⟨by rfl, ?_⟩; intro w hSw; (try dsimp only at hSw); go_simp; try with_reducible rfl); (· assumption); (try simp only [Act.put, List.setIfInBounds_toArray, List.set_cons_zero, List.set_cons_succ])
      refine wpAnyH_take (i := 1) (oi := ?_) (v := ?_) ?_ ?_ ?_ ?_ ?_ ?_ ?_ ?_; rotate_left 2; (· simp only [List.getElem?_toArray, List.getElem?_cons_succ, List.getElem?_cons_zero]; with_reducible rfl); (· kernel_rfl); (· kernel_rfl); (· kernel_rfl); (· exact fun _ _ _ h => h); (· refine Or.inl ⟨by rfl, ?_⟩; intro w hSw; (try dsimp only at hSw); go_simp; try with_reducible rfl); (· assumption); (try simp only [Act.put, List.setIfInBounds_toArray, List.set_cons_zero, List.set_cons_succ])
      refine wpAnyH_take (i := 2) (oi := ?_) (v := ?_) ?_ ?_ ?_ ?_ ?_ ?_ ?_ ?_; rotate_left 2; (· simp only [List.getElem?_toArray, List.getElem?_cons_succ, List.getElem?_cons_zero]; with_reducible rfl); (· kernel_rfl); (· kernel_rfl); (· kernel_rfl); (· exact fun _ _ _ h => h); (· refine Or.inl ⟨by rfl, ?_⟩; intro w hSw; (try dsimp only at hSw); go_simp; try with_reducible rfl); (· assumption); (try simp only [Act.put, List.setIfInBounds_toArray, List.set_cons_zero, List.set_cons_succ])
      refine wpAnyH_ready (rs := [3]) (by kernel_rfl) (by simp) ?_; refine AllReadyH.cons (o := ?_) ?_ (fun K hK => ?_) AllReadyH.nil; rotate_left 1; (· simp only [List.getElem?_toArray, List.getElem?_cons_succ, List.getElem?_cons_zero]; with_reducible rfl); go_simp; (go_at_call 98; with_reducible refine (HHX.out _ ?_).mono ?_; (first | with_reducible assumption | ((repeat (first | with_reducible refine bothS_drew ?_ | with_reducible refine bothS_alloc _ ?_ | with_reducible refine bothS_set _ _ (by first | omega | (simp; omega) | simp) ?_)); first | with_reducible assumption | with_reducible exact Hid.out (by assumption) | with_reducible exact ⟨Below.refl _ _, fun _ _ _ => rfl⟩)); rintro e w' ⟨rfl, k, k1, k2, k3⟩; have HK := Lib.hid k; (try simp at k3); (try have k6 := Nat.lt_of_succ_le k3); (try have k7 := Nat.lt_of_succ_lt k6); (try have k8 := Nat.lt_of_succ_lt k3)); refine hK.out _ _ ?_ (fun hHeld => ?_); (· (first | with_reducible assumption | ((repeat (first | with_reducible refine bothS_drew ?_ | with_reducible refine bothS_alloc _ ?_ | with_reducible refine bothS_set _ _ (by first | omega | (simp; omega) | simp) ?_)); first | with_reducible assumption | with_reducible exact Hid.out (by assumption) | with_reducible exact ⟨Below.refl _ _, fun _ _ _ => rfl⟩))); clear hK K; (try simp only [Act.put, List.setIfInBounds_toArray, List.set_cons_zero, List.set_cons_succ])
      refine wpAnyH_take (i := 4) (oi := ?_) (v := ?_) ?_ ?_ ?_ ?_ ?_ ?_ ?_ ?_; rotate_left 2; (· simp only [List.getElem?_toArray, List.getElem?_cons_succ, List.getElem?_cons_zero]; with_reducible rfl); (· kernel_rfl); (· kernel_rfl); (· kernel_rfl); (· exact fun _ _ _ h => h); (· refine Or.inl ⟨by rfl, ?_⟩; intro w hSw; (try dsimp only at hSw); go_simp; try with_reducible rfl); (· assumption); (try simp only [Act.put, List.setIfInBounds_toArray, List.set_cons_zero, List.set_cons_succ])
      refine wpAnyH_take (i := 5) (oi := ?_) (v := undef) ?_ ?_ ?_ ?_ ?_ ?_ ?_ ?_; rotate_left 1; (· simp only [List.getElem?_toArray, List.getElem?_cons_succ, List.getElem?_cons_zero]; with_reducible rfl); (· kernel_rfl); (· kernel_rfl); (· kernel_rfl); (· exact fun _ _ _ h => h); (· exact Or.inr ⟨by rfl, rfl⟩); (· assumption); (try simp only [Act.put, List.setIfInBounds_toArray, List.set_cons_zero, List.set_cons_succ])
      refine wpAnyH_take (i := 6) (oi := ?_) (v := undef) ?_ ?_ ?_ ?_ ?_ ?_ ?_ ?_; rotate_left 1; (· simp only [List.getElem?_toArray, List.getElem?_cons_succ, List.getElem?_cons_zero]; with_reducible rfl); (· kernel_rfl); (· kernel_rfl); (· kernel_rfl); (· exact fun _ _ _ h => h); (· exact Or.inr ⟨by rfl, rfl⟩); (· assumption); (try simp only [Act.put, List.setIfInBounds_toArray, List.set_cons_zero, List.set_cons_succ])
      refine wpAnyH_take (i := 7) (oi := ?_) (v := undef) ?_ ?_ ?_ ?_ ?_ ?_ ?_ ?_; rotate_left 1; (· simp only [List.getElem?_toArray, List.getElem?_cons_succ, List.getElem?_cons_zero]; with_reducible rfl); (· kernel_rfl); (· kernel_rfl); (· kernel_rfl); (· exact fun _ _ _ h => h); (· exact Or.inr ⟨by rfl, rfl⟩); (· assumption); (try simp only [Act.put, List.setIfInBounds_toArray, List.set_cons_zero, List.set_cons_succ])
      refine wpAnyH_take (i := 8) (oi := ?_) (v := ?_) ?_ ?_ ?_ ?_ ?_ ?_ ?_ ?_; rotate_left 2; (· simp only [List.getElem?_toArray, List.getElem?_cons_succ, List.getElem?_cons_zero]; with_reducible rfl); (· kernel_rfl); (· kernel_rfl); (· kernel_rfl); (· exact fun _ _ _ h => h); (· refine Or.inl ⟨by rfl, ?_⟩; intro w hSw; (try dsimp only at hSw); go_simp; try with_reducible rfl); (· assumption); (try simp only [Act.put, List.setIfInBounds_toArray, List.set_cons_zero, List.set_cons_succ])
      refine wpAnyH_ready (rs := [9]) (by kernel_rfl) (by simp) ?_; refine AllReadyH.cons (o := ?_) ?_ (fun K hK => ?_) AllReadyH.nil; rotate_left 1; (· simp only [List.getElem?_toArray, List.getElem?_cons_succ, List.getElem?_cons_zero]; with_reducible rfl); go_simp; (go_at_call 74; with_reducible refine (HAN.out _ ?_).mono ?_; (first | with_reducible assumption | ((repeat (first | with_reducible refine bothS_drew ?_ | with_reducible refine bothS_alloc _ ?_ | with_reducible refine bothS_set _ _ (by first | omega | (simp; omega) | simp) ?_)); first | with_reducible assumption | with_reducible exact Hid.out (by assumption) | with_reducible exact ⟨Below.refl _ _, fun _ _ _ => rfl⟩)); rintro e w' ⟨rfl, k, k1, k2, k3⟩; have HK := Lib.hid k; (try simp at k3); (try have k6 := Nat.lt_of_succ_le k3); (try have k7 := Nat.lt_of_succ_lt k6); (try have k8 := Nat.lt_of_succ_lt k3)); refine hK.out _ _ ?_ (fun hHeld => ?_); (· (first | with_reducible assumption | ((repeat (first | with_reducible refine bothS_drew ?_ | with_reducible refine bothS_alloc _ ?_ | with_reducible refine bothS_set _ _ (by first | omega | (simp; omega) | simp) ?_)); first | with_reducible assumption | with_reducible exact Hid.out (by assumption) | with_reducible exact ⟨Below.refl _ _, fun _ _ _ => rfl⟩))); clear hK K; (try simp only [Act.put, List.setIfInBounds_toArray, List.set_cons_zero, List.set_cons_succ])
      refine wpAnyH_take (i := 10) (oi := ?_) (v := ?_) ?_ ?_ ?_ ?_ ?_ ?_ ?_ ?_; rotate_left 2; (· simp only [List.getElem?_toArray, List.getElem?_cons_succ, List.getElem?_cons_zero]; with_reducible rfl); (· kernel_rfl); (· kernel_rfl); (· kernel_rfl); (· exact fun _ _ _ h => h); (· refine Or.inl ⟨by rfl, ?_⟩; intro w hSw; (try dsimp only at hSw); go_simp; try with_reducible rfl); (· assumption); (try simp only [Act.put, List.setIfInBounds_toArray, List.set_cons_zero, List.set_cons_succ])
      refine wpAnyH_done (by kernel_rfl) ?_ _
      refine NoPanic.normal ?_
      go_wp2_with fail; go_meet; exact ⟨rfl, And.left (by assumption)⟩
    case rest =>
    obtain ⟨rfl, hB1⟩ := hcut
    obtain ⟨w1, rfl⟩ : ∃ w1 : World, w1 = wc := ⟨_, rfl⟩
    have r0 := (hB1.cell (p := ⟨w.heap.size + 1, 0, none⟩) z1).trans (HR0.out 0)
    have r1 := (hB1.cell (p := ⟨w.heap.size + 1, 1, none⟩) z1).trans (HR0.out 1)
    have r2 := (hB1.frozen (p := ⟨w.heap.size + 1, 0, none⟩) z1).trans (HRF.out 0)
    have r3 := (hB1.frozen (p := ⟨w.heap.size + 1, 1, none⟩) z1).trans (HRF.out 1)
    have HBW := Lib.hid (HB0.out.trans (hB1.mono HB0.out.size))
    clear hB1
    go_wp2_with fail
    refine bodyPost_ret (v := .tuple #[.agg #[.int .i64 0, .int .i64 0], .int .i64 v]) (by simp [results, Try.results44, go_sem, *]) rfl ⟨rfl, ?_⟩
    have hBB := HBW.out
    exact (by repeat (first | assumption | exact Below.refl _ _ | (refine Below.alloc ?_ (by first | omega | (simp; omega) | simp) _) | (refine Below.setCell ?_ (by first | omega | (simp; omega) | simp) _) | refine Below.drew ?_))
  · simp only [Bool.true_and] at HA
    go_enter Try.func44, Try.ntmps44
    go_wp2_with fail
    obtain ⟨W0, hW0, hB0, ha0, hr0, hs0, hrf, -, hz0⟩ := name3 w #[.int .i64 f.len, .int .i64 f.slack, .slice sa sl sc, .slice pa pl pc, .slice ca cl cc] 26 #[.int .i64 0, .int .i64 0] 32 #[.int .i64 f.len, .int .i64 f.slack, .slice sa sl sc, .slice pa pl pc, .slice ca cl cc] 87
    rw [hW0]
    clear hW0
    have HHX := Lib.hid (fun W (h : Below W0.heap.size W0 W ∧ ∀ b o, b < W0.heap.size → W.cell? ⟨b, o, none⟩ = W0.cell? ⟨b, o, none⟩) => bothS1 (W0 := W0) (HH.out W) h)
    have HSX := Lib.hid (fun W (h : Below W0.heap.size W0 W ∧ ∀ b o, b < W0.heap.size → W.cell? ⟨b, o, none⟩ = W0.cell? ⟨b, o, none⟩) => bothS1 (W0 := W0) (HS.out W) h)
    have HAN := Lib.hid (fun W (h : Below W0.heap.size W0 W ∧ ∀ b o, b < W0.heap.size → W.cell? ⟨b, o, none⟩ = W0.cell? ⟨b, o, none⟩) => bothS1 (W0 := W0) (HA.out W (hB0.trans (h.1.mono hB0.size))) h)
    obtain ⟨x0, x1, x2, x3, x4⟩ : W0.cell? ⟨w.heap.size + 1 + 1, 0, none⟩ = some (.int .i64 f.len) ∧ W0.cell? ⟨w.heap.size + 1 + 1, 1, none⟩ = some (.int .i64 f.slack) ∧ W0.cell? ⟨w.heap.size + 1 + 1, 2, none⟩ = some (.slice sa sl sc) ∧ W0.cell? ⟨w.heap.size + 1 + 1, 3, none⟩ = some (.slice pa pl pc) ∧ W0.cell? ⟨w.heap.size + 1 + 1, 4, none⟩ = some (.slice ca cl cc) := ⟨hs0 0, hs0 1, hs0 2, hs0 3, hs0 4⟩
    have z1 : w.heap.size + 1 < W0.heap.size := by omega
    have z2 : w.heap.size + 1 + 1 < W0.heap.size := by omega
    have HB0 := Lib.hid hB0
    have HR0 := Lib.hid hr0
    have HRF := Lib.hid hrf
    have HS0 := Lib.hid hs0
    clear hB0 hr0 hrf ha0 hs0 hz0
    go_upto_region 2 with fail
    go_cut [9] (fun v9 wx => v9 = .int .i64 v ∧ Below W0.heap.size W0 wx)
    case first =>
      go_region_held3 (fun w' => Below W0.heap.size W0 w' ∧ ∀ b o, b < W0.heap.size → w'.cell? ⟨b, o, none⟩ = W0.cell? ⟨b, o, none⟩) (first | with_reducible assumption | ((repeat (first | with_reducible refine bothS_drew ?_ | with_reducible refine bothS_alloc _ ?_ | with_reducible refine bothS_set _ _ (by first | omega | (simp; omega) | simp) ?_)); first | with_reducible assumption | with_reducible exact Hid.out (by assumption) | with_reducible exact ⟨Below.refl _ _, fun _ _ _ => rfl⟩)) (first | (go_at_call 98; with_reducible refine (HHX.out _ ?_).mono ?_; (first | with_reducible assumption | ((repeat (first | with_reducible refine bothS_drew ?_ | with_reducible refine bothS_alloc _ ?_ | with_reducible refine bothS_set _ _ (by first | omega | (simp; omega) | simp) ?_)); first | with_reducible assumption | with_reducible exact Hid.out (by assumption) | with_reducible exact ⟨Below.refl _ _, fun _ _ _ => rfl⟩)); rintro e w' ⟨rfl, k, k1, k2, k3⟩; have HK := Lib.hid k; (try simp at k3); (try have k6 := Nat.lt_of_succ_le k3); (try have k7 := Nat.lt_of_succ_lt k6); (try have k8 := Nat.lt_of_succ_lt k3)) | (go_at_call 98; with_reducible refine (HSX.out _ ?_).mono ?_; (first | with_reducible assumption | ((repeat (first | with_reducible refine bothS_drew ?_ | with_reducible refine bothS_alloc _ ?_ | with_reducible refine bothS_set _ _ (by first | omega | (simp; omega) | simp) ?_)); first | with_reducible assumption | with_reducible exact Hid.out (by assumption) | with_reducible exact ⟨Below.refl _ _, fun _ _ _ => rfl⟩)); rintro e w' ⟨rfl, k, k1, k2, k3⟩; have HK := Lib.hid k; (try simp at k3); (try have k6 := Nat.lt_of_succ_le k3); (try have k7 := Nat.lt_of_succ_lt k6); (try have k8 := Nat.lt_of_succ_lt k3)) | (go_at_call 74; with_reducible refine (HAN.out _ ?_).mono ?_; (first | with_reducible assumption | ((repeat (first | with_reducible refine bothS_drew ?_ | with_reducible refine bothS_alloc _ ?_ | with_reducible refine bothS_set _ _ (by first | omega | (simp; omega) | simp) ?_)); first | with_reducible assumption | with_reducible exact Hid.out (by assumption) | with_reducible exact ⟨Below.refl _ _, fun _ _ _ => rfl⟩)); rintro e w' ⟨rfl, k, k1, k2, k3⟩; have HK := Lib.hid k; (try simp at k3); (try have k6 := Nat.lt_of_succ_le k3); (try have k7 := Nat.lt_of_succ_lt k6); (try have k8 := Nat.lt_of_succ_lt k3)) | fail "no arm")
      all_goals (go_wp2_with fail; go_meet; exact ⟨rfl, And.left (by assumption)⟩)
    case rest =>
    obtain ⟨rfl, hB1⟩ := hcut
    obtain ⟨w1, rfl⟩ : ∃ w1 : World, w1 = wc := ⟨_, rfl⟩
    have r0 := (hB1.cell (p := ⟨w.heap.size + 1, 0, none⟩) z1).trans (HR0.out 0)
    have r1 := (hB1.cell (p := ⟨w.heap.size + 1, 1, none⟩) z1).trans (HR0.out 1)
    have r2 := (hB1.frozen (p := ⟨w.heap.size + 1, 0, none⟩) z1).trans (HRF.out 0)
    have r3 := (hB1.frozen (p := ⟨w.heap.size + 1, 1, none⟩) z1).trans (HRF.out 1)
    have HBW := Lib.hid (HB0.out.trans (hB1.mono HB0.out.size))
    clear hB1
    go_wp2_with fail
    refine bodyPost_ret (v := .tuple #[.agg #[.int .i64 0, .int .i64 0], .int .i64 v]) (by simp [results, Try.results44, go_sem, *]) rfl ⟨rfl, ?_⟩
    have hBB := HBW.out
    exact (by repeat (first | assumption | exact Below.refl _ _ | (refine Below.alloc ?_ (by first | omega | (simp; omega) | simp) _) | (refine Below.setCell ?_ (by first | omega | (simp; omega) | simp) _) | refine Below.drew ?_))

set_option maxRecDepth 100000 in
set_option maxHeartbeats 4000000 in
theorem Gap_yes (f : PFrame) (sa : Option Addr) (sl sc : Nat) (pa : Option Addr) (pl pc : Nat) (ca : Option Addr) (cl cc : Nat) (one other : Int) (ho : f.ok = true) (h0 : 0 ≤ one) (hn : one < (f.pieces.length : Int)) (h1 : 0 ≤ other) (hn1 : other < (f.pieces.length : Int)) (w : World) (hp : PAt w sa sl sc pa pl pc ca cl cc f) :
    Calls Try.prog 44 #[.agg #[.int .i64 f.len, .int .i64 f.slack, .slice sa sl sc, .slice pa pl pc, .slice ca cl cc], .int .i64 one, .int .i64 other] w fun e w' => GapPost2 f one other e ∧ Below w.heap.size w w' := by
  have hpm := hp.2.1.2.1
  have hpl := hp.2.1.1
  obtain ⟨v, hv⟩ : ∃ v : Int, v = 0 := ⟨_, rfl⟩
  have HH := Lib.hid (fun W => hasPiece_is f sa sl sc pa pl pc ca cl cc one W hpm true (by unfold btw; simp; omega))
  have HS := Lib.hid (fun W => hasPiece_is f sa sl sc pa pl pc ca cl cc other W hpm true (by unfold btw; simp; omega))
  have HA := Lib.hid (fun W (hb : Below w.heap.size w W) => named_is f sa sl sc pa pl pc ca cl cc true v (by rw [hv]; simp [PFrame.name, ho]) W (hp.below hb))
  have HG := Lib.hid (fun W (hb : Below w.heap.size w W) => gap_any f sa sl sc pa pl pc ca cl cc one other ho h0 hn h1 hn1 W (hp.below hb))
  have HV := Lib.hid hv
  clear hp hpm hpl ho h0 hn h1 hn1 hv
  go_enter Try.func44, Try.ntmps44
  go_wp2_with fail
  obtain ⟨W0, hW0, hB0, ha0, hr0, hs0, hrf, -, hz0⟩ := name3 w #[.int .i64 f.len, .int .i64 f.slack, .slice sa sl sc, .slice pa pl pc, .slice ca cl cc] 26 #[.int .i64 0, .int .i64 0] 32 #[.int .i64 f.len, .int .i64 f.slack, .slice sa sl sc, .slice pa pl pc, .slice ca cl cc] 87
  rw [hW0]
  clear hW0
  have HHX := Lib.hid (fun W (h : Below W0.heap.size W0 W ∧ ∀ b o, b < W0.heap.size → W.cell? ⟨b, o, none⟩ = W0.cell? ⟨b, o, none⟩) => bothS1 (W0 := W0) (HH.out W) h)
  have HSX := Lib.hid (fun W (h : Below W0.heap.size W0 W ∧ ∀ b o, b < W0.heap.size → W.cell? ⟨b, o, none⟩ = W0.cell? ⟨b, o, none⟩) => bothS1 (W0 := W0) (HS.out W) h)
  have HAN := Lib.hid (fun W (h : Below W0.heap.size W0 W ∧ ∀ b o, b < W0.heap.size → W.cell? ⟨b, o, none⟩ = W0.cell? ⟨b, o, none⟩) => bothS1 (W0 := W0) (HA.out W (hB0.trans (h.1.mono hB0.size))) h)
  obtain ⟨x0, x1, x2, x3, x4⟩ : W0.cell? ⟨w.heap.size + 1 + 1, 0, none⟩ = some (.int .i64 f.len) ∧ W0.cell? ⟨w.heap.size + 1 + 1, 1, none⟩ = some (.int .i64 f.slack) ∧ W0.cell? ⟨w.heap.size + 1 + 1, 2, none⟩ = some (.slice sa sl sc) ∧ W0.cell? ⟨w.heap.size + 1 + 1, 3, none⟩ = some (.slice pa pl pc) ∧ W0.cell? ⟨w.heap.size + 1 + 1, 4, none⟩ = some (.slice ca cl cc) := ⟨hs0 0, hs0 1, hs0 2, hs0 3, hs0 4⟩
  have z1 : w.heap.size + 1 < W0.heap.size := by omega
  have z2 : w.heap.size + 1 + 1 < W0.heap.size := by omega
  have HB0 := Lib.hid hB0
  have HR0 := Lib.hid hr0
  have HRF := Lib.hid hrf
  have HS0 := Lib.hid hs0
  clear hB0 hr0 hrf ha0 hs0 hz0
  go_upto_region 2 with fail
  go_cut [9] (fun v9 wx => v9 = .int .i64 v ∧ Below W0.heap.size W0 wx)
  case first =>
    go_region_held3 (fun w' => Below W0.heap.size W0 w' ∧ ∀ b o, b < W0.heap.size → w'.cell? ⟨b, o, none⟩ = W0.cell? ⟨b, o, none⟩) (first | with_reducible assumption | ((repeat (first | with_reducible refine bothS_drew ?_ | with_reducible refine bothS_alloc _ ?_ | with_reducible refine bothS_set _ _ (by first | omega | (simp; omega) | simp) ?_)); first | with_reducible assumption | with_reducible exact Hid.out (by assumption) | with_reducible exact ⟨Below.refl _ _, fun _ _ _ => rfl⟩)) (first | (go_at_call 98; with_reducible refine (HHX.out _ ?_).mono ?_; (first | with_reducible assumption | ((repeat (first | with_reducible refine bothS_drew ?_ | with_reducible refine bothS_alloc _ ?_ | with_reducible refine bothS_set _ _ (by first | omega | (simp; omega) | simp) ?_)); first | with_reducible assumption | with_reducible exact Hid.out (by assumption) | with_reducible exact ⟨Below.refl _ _, fun _ _ _ => rfl⟩)); rintro e w' ⟨rfl, k, k1, k2, k3⟩; have HK := Lib.hid k; (try simp at k3); (try have k6 := Nat.lt_of_succ_le k3); (try have k7 := Nat.lt_of_succ_lt k6); (try have k8 := Nat.lt_of_succ_lt k3)) | (go_at_call 98; with_reducible refine (HSX.out _ ?_).mono ?_; (first | with_reducible assumption | ((repeat (first | with_reducible refine bothS_drew ?_ | with_reducible refine bothS_alloc _ ?_ | with_reducible refine bothS_set _ _ (by first | omega | (simp; omega) | simp) ?_)); first | with_reducible assumption | with_reducible exact Hid.out (by assumption) | with_reducible exact ⟨Below.refl _ _, fun _ _ _ => rfl⟩)); rintro e w' ⟨rfl, k, k1, k2, k3⟩; have HK := Lib.hid k; (try simp at k3); (try have k6 := Nat.lt_of_succ_le k3); (try have k7 := Nat.lt_of_succ_lt k6); (try have k8 := Nat.lt_of_succ_lt k3)) | (go_at_call 74; with_reducible refine (HAN.out _ ?_).mono ?_; (first | with_reducible assumption | ((repeat (first | with_reducible refine bothS_drew ?_ | with_reducible refine bothS_alloc _ ?_ | with_reducible refine bothS_set _ _ (by first | omega | (simp; omega) | simp) ?_)); first | with_reducible assumption | with_reducible exact Hid.out (by assumption) | with_reducible exact ⟨Below.refl _ _, fun _ _ _ => rfl⟩)); rintro e w' ⟨rfl, k, k1, k2, k3⟩; have HK := Lib.hid k; (try simp at k3); (try have k6 := Nat.lt_of_succ_le k3); (try have k7 := Nat.lt_of_succ_lt k6); (try have k8 := Nat.lt_of_succ_lt k3)) | fail "no arm")
    all_goals (go_wp2_with fail; go_meet; exact ⟨rfl, And.left (by assumption)⟩)
  case rest =>
  obtain ⟨rfl, hB1⟩ := hcut
  obtain ⟨w1, rfl⟩ : ∃ w1 : World, w1 = wc := ⟨_, rfl⟩
  have r0 := (hB1.cell (p := ⟨w.heap.size + 1, 0, none⟩) z1).trans (HR0.out 0)
  have r1 := (hB1.cell (p := ⟨w.heap.size + 1, 1, none⟩) z1).trans (HR0.out 1)
  have r2 := (hB1.frozen (p := ⟨w.heap.size + 1, 0, none⟩) z1).trans (HRF.out 0)
  have r3 := (hB1.frozen (p := ⟨w.heap.size + 1, 1, none⟩) z1).trans (HRF.out 1)
  obtain rfl := HV.out
  clear HV x0 x1 x2 x3 x4
  obtain ⟨x0, x1, x2, x3, x4⟩ : w1.cell? ⟨w.heap.size + 1 + 1, 0, none⟩ = some (.int .i64 f.len) ∧ w1.cell? ⟨w.heap.size + 1 + 1, 1, none⟩ = some (.int .i64 f.slack) ∧ w1.cell? ⟨w.heap.size + 1 + 1, 2, none⟩ = some (.slice sa sl sc) ∧ w1.cell? ⟨w.heap.size + 1 + 1, 3, none⟩ = some (.slice pa pl pc) ∧ w1.cell? ⟨w.heap.size + 1 + 1, 4, none⟩ = some (.slice ca cl cc) := ⟨(hB1.cell (p := ⟨w.heap.size + 1 + 1, 0, none⟩) z2).trans (HS0.out 0), (hB1.cell (p := ⟨w.heap.size + 1 + 1, 1, none⟩) z2).trans (HS0.out 1), (hB1.cell (p := ⟨w.heap.size + 1 + 1, 2, none⟩) z2).trans (HS0.out 2), (hB1.cell (p := ⟨w.heap.size + 1 + 1, 3, none⟩) z2).trans (HS0.out 3), (hB1.cell (p := ⟨w.heap.size + 1 + 1, 4, none⟩) z2).trans (HS0.out 4)⟩
  have y1 : w.heap.size + 1 < w1.heap.size := Nat.lt_of_lt_of_le z1 hB1.size
  have HBW := Lib.hid (HB0.out.trans (hB1.mono HB0.out.size))
  have HGW := Lib.hid (HG.out w1 HBW.out)
  clear hB1 HS0
  go_wp2_with fail
  refine HGW.out.mono ?_
  rintro e w2 ⟨⟨ci, a, di, b, hat, hbt, rfl⟩, hb2⟩
  have q0 := (hb2.cell (p := ⟨w.heap.size + 1, 0, none⟩) y1).trans r0
  have q1 := (hb2.cell (p := ⟨w.heap.size + 1, 1, none⟩) y1).trans r1
  have q2 := (hb2.frozen (p := ⟨w.heap.size + 1, 0, none⟩) y1).trans r2
  have q3 := (hb2.frozen (p := ⟨w.heap.size + 1, 1, none⟩) y1).trans r3
  have kz := Nat.lt_of_lt_of_le y1 hb2.size
  have HBH := Lib.hid (HBW.out.trans (hb2.mono HBW.out.size))
  have HPT := Lib.hid (show f.at one ci a ∧ f.at other di b from ⟨hat, hbt⟩)
  clear hb2 hat hbt x0 x1 x2 x3 x4
  go_wp2_with fail
  refine bodyPost_ret (v := .tuple #[.agg #[.int .i64 (f.gapLo (f.ahead ci a) (f.ahead di b)), .int .i64 (f.gapHi (f.ahead ci a) (f.ahead di b))], .int .i64 0]) (by simp [results, Try.results44, go_sem, *]) rfl ⟨⟨ci, a, di, b, HPT.out.1, HPT.out.2, rfl⟩, ?_⟩
  have hBB := HBH.out
  exact (by repeat (first | assumption | exact Below.refl _ _ | (refine Below.alloc ?_ (by first | omega | (simp; omega) | simp) _) | (refine Below.setCell ?_ (by first | omega | (simp; omega) | simp) _) | refine Below.drew ?_))
end Go.Proofs.Ytgpmnelkjfoplaa
