/- Package pages: Fits. -/
import Derived.Test.YtcklhojeneejiaaYF
namespace Go.Proofs.Ytcklhojeneejiaa
set_option linter.unusedVariables false
set_option linter.unusedSimpArgs false
open Go.RowKit

def PFrame.fitE (f : PFrame) (n : Int) (x : List Int) : Int := f.name (btw n 0 ((f.cols.length : Int) - 1) && f.setB x)
def knownR (len slack lo hi p : Int) : Int := if len - slack ≤ lo + p ∧ hi + p ≤ len then 1 else if hi + p < len - slack ∨ len < lo + p then 2 else 3
set_option maxRecDepth 100000 in
set_option maxHeartbeats 4000000 in
theorem Fits_no (f : PFrame) (sa : Option Addr) (sl sc : Nat) (pa : Option Addr) (pl pc : Nat) (ca : Option Addr) (cl cc : Nat) (n v : Int) (xa : Option Addr) (xl xc : Nat) (x : List Int) (hv : f.fitE n x = v) (h0 : v ≠ 0) (w : World) (hp : PAt w sa sl sc pa pl pc ca cl cc f) (hx : IntsAt w xa xl x) :
    Calls Try.prog 24 #[.agg #[.int .i64 f.len, .int .i64 f.slack, .slice sa sl sc, .slice pa pl pc, .slice ca cl cc], .int .i64 n, .slice xa xl xc] w fun e w' => e = .returned (.tuple #[.int .i64 0, .int .i64 v]) ∧ Below w.heap.size w w' := by
  have hcm := hp.2.2.2.1
  have hcl := hp.2.2.1
  obtain ⟨r, hr⟩ : ∃ r, btw n 0 ((cl : Int) - 1) = r := ⟨_, rfl⟩
  obtain ⟨q, hq⟩ : ∃ q, f.setB x = q := ⟨_, rfl⟩
  have HH := Lib.hid (fun W => hasColumn_is f sa sl sc pa pl pc ca cl cc n W hcm r hr)
  have HS := Lib.hid (fun W (hb : Below w.heap.size w W) => isSet_is f sa sl sc pa pl pc ca cl cc xa xl xc x q hq W (hp.below hb) (hx.below hb))
  have HA := Lib.hid (fun W (hb : Below w.heap.size w W) => named_is f sa sl sc pa pl pc ca cl cc (r && q) v (by rw [← hv, PFrame.fitE, hcl, hr, hq]) W (hp.below hb))
  have e2 : (v != 0) = true := by simpa using h0
  clear hp hx hv hcm hcl hr hq
  cases r
  · simp only [Bool.false_and] at HA
    go_enter Try.func24, Try.ntmps24
    go_wp2_with fail
    obtain ⟨W0, hW0, hB0, ha0, hs0, hz0⟩ := name2c w #[.int .i64 f.len, .int .i64 f.slack, .slice sa sl sc, .slice pa pl pc, .slice ca cl cc] 26 #[.int .i64 f.len, .int .i64 f.slack, .slice sa sl sc, .slice pa pl pc, .slice ca cl cc] 87
    rw [hW0]
    clear hW0
    have z0 : w.heap.size < W0.heap.size := by omega
    have z1 : w.heap.size + 1 < W0.heap.size := by omega
    have HHX := Lib.hid (fun W (h : Below W0.heap.size W0 W ∧ ∀ b o, b < W0.heap.size → W.cell? ⟨b, o, none⟩ = W0.cell? ⟨b, o, none⟩) => bothS1 (W0 := W0) (HH.out W) h)
    have HSX := Lib.hid (fun W (h : Below W0.heap.size W0 W ∧ ∀ b o, b < W0.heap.size → W.cell? ⟨b, o, none⟩ = W0.cell? ⟨b, o, none⟩) => bothS1 (W0 := W0) (HS.out W (hB0.trans (h.1.mono hB0.size))) h)
    have HAN := Lib.hid (fun W (h : Below W0.heap.size W0 W ∧ ∀ b o, b < W0.heap.size → W.cell? ⟨b, o, none⟩ = W0.cell? ⟨b, o, none⟩) => bothS1 (W0 := W0) (HA.out W (hB0.trans (h.1.mono hB0.size))) h)
    obtain ⟨x0, x1, x2, x3, x4⟩ : W0.cell? ⟨w.heap.size + 1, 0, none⟩ = some (.int .i64 f.len) ∧ W0.cell? ⟨w.heap.size + 1, 1, none⟩ = some (.int .i64 f.slack) ∧ W0.cell? ⟨w.heap.size + 1, 2, none⟩ = some (.slice sa sl sc) ∧ W0.cell? ⟨w.heap.size + 1, 3, none⟩ = some (.slice pa pl pc) ∧ W0.cell? ⟨w.heap.size + 1, 4, none⟩ = some (.slice ca cl cc) := ⟨hs0 0, hs0 1, hs0 2, hs0 3, hs0 4⟩
    have HB0 := Lib.hid hB0
    have HS0 := Lib.hid hs0
    have HA0 := Lib.hid ha0
    clear hB0 ha0 hs0 hz0
    go_upto_region 2 with fail
    go_cut [9] (fun v9 wx => v9 = .int .i64 v ∧ Below W0.heap.size W0 wx)
    case first =>
      refine wp_region_noPanic ?_
      refine wp_region_held_drew (S := (fun w' => Below W0.heap.size W0 w' ∧ ∀ b o, b < W0.heap.size → w'.cell? ⟨b, o, none⟩ = W0.cell? ⟨b, o, none⟩)) (by kernel_rfl) ?_ (fun hHeld => ?_)
      · (first | with_reducible assumption | ((repeat (first | with_reducible refine bothS_drew ?_ | with_reducible refine bothS_alloc _ ?_ | with_reducible refine bothS_set _ _ (by first | omega | (simp; omega) | simp) ?_)); first | with_reducible assumption | with_reducible exact Hid.out (by assumption) | with_reducible exact ⟨Below.refl _ _, fun _ _ _ => rfl⟩))
      refine wpAnyH_take (i := 0) (oi := ?_) (v := ?_) ?_ ?_ ?_ ?_ ?_ ?_ ?_ ?_; rotate_left 2; (· simp only [List.getElem?_toArray, List.getElem?_cons_succ, List.getElem?_cons_zero]; with_reducible rfl); (· kernel_rfl); (· kernel_rfl); (· kernel_rfl); (· exact fun _ _ _ h => h); (· refine Or.inl ⟨by rfl, ?_⟩; intro w hSw; (try dsimp only at hSw); go_simp; try with_reducible rfl); (· assumption); (try simp only [Act.put, List.setIfInBounds_toArray, List.set_cons_zero, List.set_cons_succ])
      refine wpAnyH_take (i := 1) (oi := ?_) (v := ?_) ?_ ?_ ?_ ?_ ?_ ?_ ?_ ?_; rotate_left 2; (· simp only [List.getElem?_toArray, List.getElem?_cons_succ, List.getElem?_cons_zero]; with_reducible rfl); (· kernel_rfl); (· kernel_rfl); (· kernel_rfl); (· exact fun _ _ _ h => h); (· refine Or.inl ⟨by rfl, ?_⟩; intro w hSw; (try dsimp only at hSw); go_simp; try with_reducible rfl); (· assumption); (try simp only [Act.put, List.setIfInBounds_toArray, List.set_cons_zero, List.set_cons_succ])
      refine wpAnyH_take (i := 2) (oi := ?_) (v := ?_) ?_ ?_ ?_ ?_ ?_ ?_ ?_ ?_; rotate_left 2; (· simp only [List.getElem?_toArray, List.getElem?_cons_succ, List.getElem?_cons_zero]; with_reducible rfl); (· kernel_rfl); (· kernel_rfl); (· kernel_rfl); (· exact fun _ _ _ h => h); (· refine Or.inl ⟨by rfl, ?_⟩; intro w hSw; (try dsimp only at hSw); go_simp; try with_reducible rfl); (· assumption); (try simp only [Act.put, List.setIfInBounds_toArray, List.set_cons_zero, List.set_cons_succ])
      refine wpAnyH_ready (rs := [3]) (by kernel_rfl) (by simp) ?_; refine AllReadyH.cons (o := ?_) ?_ (fun K hK => ?_) AllReadyH.nil; rotate_left 1; (· simp only [List.getElem?_toArray, List.getElem?_cons_succ, List.getElem?_cons_zero]; with_reducible rfl); go_simp; (go_at_call 75; with_reducible refine (HHX.out _ ?_).mono ?_; (first | with_reducible assumption | ((repeat (first | with_reducible refine bothS_drew ?_ | with_reducible refine bothS_alloc _ ?_ | with_reducible refine bothS_set _ _ (by first | omega | (simp; omega) | simp) ?_)); first | with_reducible assumption | with_reducible exact Hid.out (by assumption) | with_reducible exact ⟨Below.refl _ _, fun _ _ _ => rfl⟩)); rintro e w' ⟨rfl, k, k1, k2, k3⟩; have HK := Lib.hid k; (try simp at k3); (try have k6 := Nat.lt_of_succ_le k3); (try have k7 := Nat.lt_of_succ_lt k6); (try have k8 := Nat.lt_of_succ_lt k3)); refine hK.out _ _ ?_ (fun hHeld => ?_); (· (first | with_reducible assumption | ((repeat (first | with_reducible refine bothS_drew ?_ | with_reducible refine bothS_alloc _ ?_ | with_reducible refine bothS_set _ _ (by first | omega | (simp; omega) | simp) ?_)); first | with_reducible assumption | with_reducible exact Hid.out (by assumption) | with_reducible exact ⟨Below.refl _ _, fun _ _ _ => rfl⟩))); clear hK K; (try simp only [Act.put, List.setIfInBounds_toArray, List.set_cons_zero, List.set_cons_succ])
      refine wpAnyH_take (i := 4) (oi := ?_) (v := ?_) ?_ ?_ ?_ ?_ ?_ ?_ ?_ ?_; rotate_left 2; (· simp only [List.getElem?_toArray, List.getElem?_cons_succ, List.getElem?_cons_zero]; with_reducible rfl); (· kernel_rfl); (· kernel_rfl); (· kernel_rfl); (· exact fun _ _ _ h => h); (· refine Or.inl ⟨by rfl, ?_⟩; intro w hSw; (try dsimp only at hSw); go_simp; try with_reducible rfl); (· assumption); (try simp only [Act.put, List.setIfInBounds_toArray, List.set_cons_zero, List.set_cons_succ])
      refine wpAnyH_take (i := 5) (oi := ?_) (v := undef) ?_ ?_ ?_ ?_ ?_ ?_ ?_ ?_; rotate_left 1; (· simp only [List.getElem?_toArray, List.getElem?_cons_succ, List.getElem?_cons_zero]; with_reducible rfl); (· kernel_rfl); (· kernel_rfl); (· kernel_rfl); (· exact fun _ _ _ h => h); (· exact Or.inr ⟨by rfl, rfl⟩); (· assumption); (try simp only [Act.put, List.setIfInBounds_toArray, List.set_cons_zero, List.set_cons_succ])
      refine wpAnyH_take (i := 6) (oi := ?_) (v := undef) ?_ ?_ ?_ ?_ ?_ ?_ ?_ ?_; rotate_left 1; (· simp only [List.getElem?_toArray, List.getElem?_cons_succ, List.getElem?_cons_zero]; with_reducible rfl); (· kernel_rfl); (· kernel_rfl); (· kernel_rfl); (· exact fun _ _ _ h => h); (· exact Or.inr ⟨by rfl, rfl⟩); (· assumption); (try simp only [Act.put, List.setIfInBounds_toArray, List.set_cons_zero, List.set_cons_succ])
      refine wpAnyH_take (i := 7) (oi := ?_) (v := undef) ?_ ?_ ?_ ?_ ?_ ?_ ?_ ?_; rotate_left 1; (· simp only [List.getElem?_toArray, List.getElem?_cons_succ, List.getElem?_cons_zero]; with_reducible rfl); (· kernel_rfl); (· kernel_rfl); (· kernel_rfl); (· exact fun _ _ _ h => h); (· exact Or.inr ⟨by rfl, rfl⟩); (· assumption); (try simp only [Act.put, List.setIfInBounds_toArray, List.set_cons_zero, List.set_cons_succ])
      refine wpAnyH_take (i := 8) (oi := ?_) (v := ?_) ?_ ?_ ?_ ?_ ?_ ?_ ?_ ?_; rotate_left 2; (· simp only [List.getElem?_toArray, List.getElem?_cons_succ, List.getElem?_cons_zero]; with_reducible rfl); (· kernel_rfl); (· kernel_rfl); (· kernel_rfl); (· exact fun _ _ _ h => h); (· refine Or.inl ⟨by rfl, ?_⟩; intro w hSw; (try dsimp only at hSw); go_simp; try with_reducible rfl); (· assumption); (try simp only [Act.put, List.setIfInBounds_toArray, List.set_cons_zero, List.set_cons_succ])
      refine wpAnyH_ready (rs := [9]) (by kernel_rfl) (by simp) ?_; refine AllReadyH.cons (o := ?_) ?_ (fun K hK => ?_) AllReadyH.nil; rotate_left 1; (· simp only [List.getElem?_toArray, List.getElem?_cons_succ, List.getElem?_cons_zero]; with_reducible rfl); go_simp; (go_at_call 74; with_reducible refine (HAN.out _ ?_).mono ?_; (first | with_reducible assumption | ((repeat (first | with_reducible refine bothS_drew ?_ | with_reducible refine bothS_alloc _ ?_ | with_reducible refine bothS_set _ _ (by first | omega | (simp; omega) | simp) ?_)); first | with_reducible assumption | with_reducible exact Hid.out (by assumption) | with_reducible exact ⟨Below.refl _ _, fun _ _ _ => rfl⟩)); rintro e w' ⟨rfl, k, k1, k2, k3⟩; have HK := Lib.hid k; (try simp at k3); (try have k6 := Nat.lt_of_succ_le k3); (try have k7 := Nat.lt_of_succ_lt k6); (try have k8 := Nat.lt_of_succ_lt k3)); refine hK.out _ _ ?_ (fun hHeld => ?_); (· (first | with_reducible assumption | ((repeat (first | with_reducible refine bothS_drew ?_ | with_reducible refine bothS_alloc _ ?_ | with_reducible refine bothS_set _ _ (by first | omega | (simp; omega) | simp) ?_)); first | with_reducible assumption | with_reducible exact Hid.out (by assumption) | with_reducible exact ⟨Below.refl _ _, fun _ _ _ => rfl⟩))); clear hK K; (try simp only [Act.put, List.setIfInBounds_toArray, List.set_cons_zero, List.set_cons_succ])
      refine wpAnyH_take (i := 10) (oi := ?_) (v := ?_) ?_ ?_ ?_ ?_ ?_ ?_ ?_ ?_; rotate_left 2; (· simp only [List.getElem?_toArray, List.getElem?_cons_succ, List.getElem?_cons_zero]; with_reducible rfl); (· kernel_rfl); (· kernel_rfl); (· kernel_rfl); (· exact fun _ _ _ h => h); (· refine Or.inl ⟨by rfl, ?_⟩; intro w hSw; (try dsimp only at hSw); go_simp; try with_reducible rfl); (· assumption); (try simp only [Act.put, List.setIfInBounds_toArray, List.set_cons_zero, List.set_cons_succ])
      refine wpAnyH_done (by kernel_rfl) ?_ _
      refine NoPanic.normal ?_
      go_wp2_with fail; go_meet; exact ⟨rfl, And.left (by assumption)⟩
    case rest =>
    obtain ⟨rfl, hB1⟩ := hcut
    obtain ⟨w1, rfl⟩ : ∃ w1 : World, w1 = wc := ⟨_, rfl⟩
    have HBW := Lib.hid (HB0.out.trans (hB1.mono HB0.out.size))
    clear hB1
    go_wp2_with fail
    go_ret2
    exact ⟨rfl, HBW.out⟩
  · simp only [Bool.true_and] at HA
    go_enter Try.func24, Try.ntmps24
    go_wp2_with fail
    obtain ⟨W0, hW0, hB0, ha0, hs0, hz0⟩ := name2c w #[.int .i64 f.len, .int .i64 f.slack, .slice sa sl sc, .slice pa pl pc, .slice ca cl cc] 26 #[.int .i64 f.len, .int .i64 f.slack, .slice sa sl sc, .slice pa pl pc, .slice ca cl cc] 87
    rw [hW0]
    clear hW0
    have z0 : w.heap.size < W0.heap.size := by omega
    have z1 : w.heap.size + 1 < W0.heap.size := by omega
    have HHX := Lib.hid (fun W (h : Below W0.heap.size W0 W ∧ ∀ b o, b < W0.heap.size → W.cell? ⟨b, o, none⟩ = W0.cell? ⟨b, o, none⟩) => bothS1 (W0 := W0) (HH.out W) h)
    have HSX := Lib.hid (fun W (h : Below W0.heap.size W0 W ∧ ∀ b o, b < W0.heap.size → W.cell? ⟨b, o, none⟩ = W0.cell? ⟨b, o, none⟩) => bothS1 (W0 := W0) (HS.out W (hB0.trans (h.1.mono hB0.size))) h)
    have HAN := Lib.hid (fun W (h : Below W0.heap.size W0 W ∧ ∀ b o, b < W0.heap.size → W.cell? ⟨b, o, none⟩ = W0.cell? ⟨b, o, none⟩) => bothS1 (W0 := W0) (HA.out W (hB0.trans (h.1.mono hB0.size))) h)
    obtain ⟨x0, x1, x2, x3, x4⟩ : W0.cell? ⟨w.heap.size + 1, 0, none⟩ = some (.int .i64 f.len) ∧ W0.cell? ⟨w.heap.size + 1, 1, none⟩ = some (.int .i64 f.slack) ∧ W0.cell? ⟨w.heap.size + 1, 2, none⟩ = some (.slice sa sl sc) ∧ W0.cell? ⟨w.heap.size + 1, 3, none⟩ = some (.slice pa pl pc) ∧ W0.cell? ⟨w.heap.size + 1, 4, none⟩ = some (.slice ca cl cc) := ⟨hs0 0, hs0 1, hs0 2, hs0 3, hs0 4⟩
    have HB0 := Lib.hid hB0
    have HS0 := Lib.hid hs0
    have HA0 := Lib.hid ha0
    clear hB0 ha0 hs0 hz0
    go_upto_region 2 with fail
    go_cut [9] (fun v9 wx => v9 = .int .i64 v ∧ Below W0.heap.size W0 wx)
    case first =>
      go_region_held3 (fun w' => Below W0.heap.size W0 w' ∧ ∀ b o, b < W0.heap.size → w'.cell? ⟨b, o, none⟩ = W0.cell? ⟨b, o, none⟩) (first | with_reducible assumption | ((repeat (first | with_reducible refine bothS_drew ?_ | with_reducible refine bothS_alloc _ ?_ | with_reducible refine bothS_set _ _ (by first | omega | (simp; omega) | simp) ?_)); first | with_reducible assumption | with_reducible exact Hid.out (by assumption) | with_reducible exact ⟨Below.refl _ _, fun _ _ _ => rfl⟩)) (first | (go_at_call 75; with_reducible refine (HHX.out _ ?_).mono ?_; (first | with_reducible assumption | ((repeat (first | with_reducible refine bothS_drew ?_ | with_reducible refine bothS_alloc _ ?_ | with_reducible refine bothS_set _ _ (by first | omega | (simp; omega) | simp) ?_)); first | with_reducible assumption | with_reducible exact Hid.out (by assumption) | with_reducible exact ⟨Below.refl _ _, fun _ _ _ => rfl⟩)); rintro e w' ⟨rfl, k, k1, k2, k3⟩; have HK := Lib.hid k; (try simp at k3); (try have k6 := Nat.lt_of_succ_le k3); (try have k7 := Nat.lt_of_succ_lt k6); (try have k8 := Nat.lt_of_succ_lt k3)) | (go_at_call 83; with_reducible refine (HSX.out _ ?_).mono ?_; (first | with_reducible assumption | ((repeat (first | with_reducible refine bothS_drew ?_ | with_reducible refine bothS_alloc _ ?_ | with_reducible refine bothS_set _ _ (by first | omega | (simp; omega) | simp) ?_)); first | with_reducible assumption | with_reducible exact Hid.out (by assumption) | with_reducible exact ⟨Below.refl _ _, fun _ _ _ => rfl⟩)); rintro e w' ⟨rfl, k, k1, k2, k3⟩; have HK := Lib.hid k; (try simp at k3); (try have k6 := Nat.lt_of_succ_le k3); (try have k7 := Nat.lt_of_succ_lt k6); (try have k8 := Nat.lt_of_succ_lt k3)) | (go_at_call 74; with_reducible refine (HAN.out _ ?_).mono ?_; (first | with_reducible assumption | ((repeat (first | with_reducible refine bothS_drew ?_ | with_reducible refine bothS_alloc _ ?_ | with_reducible refine bothS_set _ _ (by first | omega | (simp; omega) | simp) ?_)); first | with_reducible assumption | with_reducible exact Hid.out (by assumption) | with_reducible exact ⟨Below.refl _ _, fun _ _ _ => rfl⟩)); rintro e w' ⟨rfl, k, k1, k2, k3⟩; have HK := Lib.hid k; (try simp at k3); (try have k6 := Nat.lt_of_succ_le k3); (try have k7 := Nat.lt_of_succ_lt k6); (try have k8 := Nat.lt_of_succ_lt k3)) | fail "no arm")
      all_goals (go_wp2_with fail; go_meet; exact ⟨rfl, And.left (by assumption)⟩)
    case rest =>
    obtain ⟨rfl, hB1⟩ := hcut
    obtain ⟨w1, rfl⟩ : ∃ w1 : World, w1 = wc := ⟨_, rfl⟩
    have HBW := Lib.hid (HB0.out.trans (hB1.mono HB0.out.size))
    clear hB1
    go_wp2_with fail
    go_ret2
    exact ⟨rfl, HBW.out⟩

set_option maxRecDepth 100000 in
set_option maxHeartbeats 8000000 in
theorem Fits_yes (f : PFrame) (sa : Option Addr) (sl sc : Nat) (pa : Option Addr) (pl pc : Nat) (ca : Option Addr) (cl cc : Nat) (c : Nat) (hc : c < f.cols.length) (xa : Option Addr) (xl xc : Nat) (x : List Int) (hset : f.setB x = true) (ho : f.ok = true) (w : World) (hp : PAt w sa sl sc pa pl pc ca cl cc f) (hx : IntsAt w xa xl x) :
    Calls Try.prog 24 #[.agg #[.int .i64 f.len, .int .i64 f.slack, .slice sa sl sc, .slice pa pl pc, .slice ca cl cc], .int .i64 c, .slice xa xl xc] w fun e w' => e = .returned (.tuple #[.int .i64 (knownR f.len f.slack (f.loS f.cols[c]) (f.hiS f.cols[c]) (f.ptsL x)), .int .i64 0]) ∧ Below w.heap.size w w' := by
  have hcl := hp.2.2.1
  have hcm := hp.2.2.2.1
  obtain ⟨cb, co, hca, hcB, hccell⟩ := hp.2.2.2.2 (by omega)
  obtain ⟨ra, rl, rc, hcell, -, hri⟩ := hccell c hc
  obtain ⟨hin, h6⟩ := PFrame.ok_col ho c hc
  obtain ⟨v, hv⟩ : ∃ v : Int, v = 0 := ⟨_, rfl⟩
  have HH := Lib.hid (fun W => hasColumn_is f sa sl sc pa pl pc ca cl cc c W hcm true (by unfold btw; simp; omega))
  have HS := Lib.hid (fun W (hb : Below w.heap.size w W) => isSet_is f sa sl sc pa pl pc ca cl cc xa xl xc x true hset W (hp.below hb) (hx.below hb))
  have HA := Lib.hid (fun W (hb : Below w.heap.size w W) => named_is f sa sl sc pa pl pc ca cl cc true v (by rw [hv]; simp [PFrame.name, ho]) W (hp.below hb))
  have HG := Lib.hid (fun W (hb : Below w.heap.size w W) => height_any f sa sl sc pa pl pc ca cl cc ra rl rc f.cols[c] ho hin h6 W (hp.below hb) (hri.below hb))
  have HPT := Lib.hid (fun W (hb : Below w.heap.size w W) => points_any f sa sl sc pa pl pc ca cl cc xa xl xc x ho (Nat.le_of_eq (setB_len hset)) (fun i hi => setB_bd ho hset i hi) W (hp.below hb) (hx.below hb))
  obtain ⟨l1, l2⟩ := PFrame.loS_bd ho f.cols[c] h6
  obtain ⟨l3, l4⟩ := PFrame.hiS_bd ho f.cols[c] h6
  obtain ⟨p1, p2⟩ := ptsL_bd ho (x := x) (fun i hi => setB_bd ho hset i hi)
  obtain ⟨b1, b2, b3, b4, -⟩ := PFrame.ok_parts ho
  have hcl' : (c : Int) < (cl : Int) := by omega
  have hc0 : (0 : Int) ≤ (c : Int) := by omega
  have HV := Lib.hid hv
  clear hp hx hcm hcl hri hin h6 hccell ho hset hv
  generalize f.loS f.cols[c] = lo at *
  generalize f.hiS f.cols[c] = hi at *
  generalize f.ptsL x = pt at *
  clear hc
  subst hca
  go_enter Try.func24, Try.ntmps24
  go_wp2_with fail
  obtain ⟨W0, hW0, hB0, ha0, hs0, hz0⟩ := name2c w #[.int .i64 f.len, .int .i64 f.slack, .slice sa sl sc, .slice pa pl pc, .slice (some ⟨cb, co, none⟩) cl cc] 26 #[.int .i64 f.len, .int .i64 f.slack, .slice sa sl sc, .slice pa pl pc, .slice (some ⟨cb, co, none⟩) cl cc] 87
  rw [hW0]
  clear hW0
  have z0 : w.heap.size < W0.heap.size := by omega
  have z1 : w.heap.size + 1 < W0.heap.size := by omega
  have HHX := Lib.hid (fun W (h : Below W0.heap.size W0 W ∧ ∀ b o, b < W0.heap.size → W.cell? ⟨b, o, none⟩ = W0.cell? ⟨b, o, none⟩) => bothS1 (W0 := W0) (HH.out W) h)
  have HSX := Lib.hid (fun W (h : Below W0.heap.size W0 W ∧ ∀ b o, b < W0.heap.size → W.cell? ⟨b, o, none⟩ = W0.cell? ⟨b, o, none⟩) => bothS1 (W0 := W0) (HS.out W (hB0.trans (h.1.mono hB0.size))) h)
  have HAN := Lib.hid (fun W (h : Below W0.heap.size W0 W ∧ ∀ b o, b < W0.heap.size → W.cell? ⟨b, o, none⟩ = W0.cell? ⟨b, o, none⟩) => bothS1 (W0 := W0) (HA.out W (hB0.trans (h.1.mono hB0.size))) h)
  obtain ⟨x0, x1, x2, x3, x4⟩ : W0.cell? ⟨w.heap.size + 1, 0, none⟩ = some (.int .i64 f.len) ∧ W0.cell? ⟨w.heap.size + 1, 1, none⟩ = some (.int .i64 f.slack) ∧ W0.cell? ⟨w.heap.size + 1, 2, none⟩ = some (.slice sa sl sc) ∧ W0.cell? ⟨w.heap.size + 1, 3, none⟩ = some (.slice pa pl pc) ∧ W0.cell? ⟨w.heap.size + 1, 4, none⟩ = some (.slice (some ⟨cb, co, none⟩) cl cc) := ⟨hs0 0, hs0 1, hs0 2, hs0 3, hs0 4⟩
  have HB0 := Lib.hid hB0
  have HS0 := Lib.hid hs0
  have HA0 := Lib.hid ha0
  clear hB0 ha0 hs0 hz0
  go_upto_region 2 with fail
  go_cut [9] (fun v9 wx => v9 = .int .i64 v ∧ Below W0.heap.size W0 wx)
  case first =>
    go_region_held3 (fun w' => Below W0.heap.size W0 w' ∧ ∀ b o, b < W0.heap.size → w'.cell? ⟨b, o, none⟩ = W0.cell? ⟨b, o, none⟩) (first | with_reducible assumption | ((repeat (first | with_reducible refine bothS_drew ?_ | with_reducible refine bothS_alloc _ ?_ | with_reducible refine bothS_set _ _ (by first | omega | (simp; omega) | simp) ?_)); first | with_reducible assumption | with_reducible exact Hid.out (by assumption) | with_reducible exact ⟨Below.refl _ _, fun _ _ _ => rfl⟩)) (first | (go_at_call 75; with_reducible refine (HHX.out _ ?_).mono ?_; (first | with_reducible assumption | ((repeat (first | with_reducible refine bothS_drew ?_ | with_reducible refine bothS_alloc _ ?_ | with_reducible refine bothS_set _ _ (by first | omega | (simp; omega) | simp) ?_)); first | with_reducible assumption | with_reducible exact Hid.out (by assumption) | with_reducible exact ⟨Below.refl _ _, fun _ _ _ => rfl⟩)); rintro e w' ⟨rfl, k, k1, k2, k3⟩; have HK := Lib.hid k; (try simp at k3); (try have k6 := Nat.lt_of_succ_le k3); (try have k7 := Nat.lt_of_succ_lt k6); (try have k8 := Nat.lt_of_succ_lt k3)) | (go_at_call 83; with_reducible refine (HSX.out _ ?_).mono ?_; (first | with_reducible assumption | ((repeat (first | with_reducible refine bothS_drew ?_ | with_reducible refine bothS_alloc _ ?_ | with_reducible refine bothS_set _ _ (by first | omega | (simp; omega) | simp) ?_)); first | with_reducible assumption | with_reducible exact Hid.out (by assumption) | with_reducible exact ⟨Below.refl _ _, fun _ _ _ => rfl⟩)); rintro e w' ⟨rfl, k, k1, k2, k3⟩; have HK := Lib.hid k; (try simp at k3); (try have k6 := Nat.lt_of_succ_le k3); (try have k7 := Nat.lt_of_succ_lt k6); (try have k8 := Nat.lt_of_succ_lt k3)) | (go_at_call 74; with_reducible refine (HAN.out _ ?_).mono ?_; (first | with_reducible assumption | ((repeat (first | with_reducible refine bothS_drew ?_ | with_reducible refine bothS_alloc _ ?_ | with_reducible refine bothS_set _ _ (by first | omega | (simp; omega) | simp) ?_)); first | with_reducible assumption | with_reducible exact Hid.out (by assumption) | with_reducible exact ⟨Below.refl _ _, fun _ _ _ => rfl⟩)); rintro e w' ⟨rfl, k, k1, k2, k3⟩; have HK := Lib.hid k; (try simp at k3); (try have k6 := Nat.lt_of_succ_le k3); (try have k7 := Nat.lt_of_succ_lt k6); (try have k8 := Nat.lt_of_succ_lt k3)) | fail "no arm")
    all_goals (go_wp2_with fail; go_meet; exact ⟨rfl, And.left (by assumption)⟩)
  case rest =>
  obtain ⟨rfl, hB1⟩ := hcut
  obtain ⟨w1, rfl⟩ : ∃ w1 : World, w1 = wc := ⟨_, rfl⟩
  obtain rfl := HV.out
  clear HV x0 x1 x2 x3 x4
  have hbw := HB0.out.trans (hB1.mono HB0.out.size)
  have c0 := (hbw.cell (p := ⟨cb, co + c, none⟩) hcB).trans hcell
  obtain ⟨x0, x1, x2, x3, x4⟩ : w1.cell? ⟨w.heap.size + 1, 0, none⟩ = some (.int .i64 f.len) ∧ w1.cell? ⟨w.heap.size + 1, 1, none⟩ = some (.int .i64 f.slack) ∧ w1.cell? ⟨w.heap.size + 1, 2, none⟩ = some (.slice sa sl sc) ∧ w1.cell? ⟨w.heap.size + 1, 3, none⟩ = some (.slice pa pl pc) ∧ w1.cell? ⟨w.heap.size + 1, 4, none⟩ = some (.slice (some ⟨cb, co, none⟩) cl cc) := ⟨(hB1.cell (p := ⟨w.heap.size + 1, 0, none⟩) z1).trans (HS0.out 0), (hB1.cell (p := ⟨w.heap.size + 1, 1, none⟩) z1).trans (HS0.out 1), (hB1.cell (p := ⟨w.heap.size + 1, 2, none⟩) z1).trans (HS0.out 2), (hB1.cell (p := ⟨w.heap.size + 1, 3, none⟩) z1).trans (HS0.out 3), (hB1.cell (p := ⟨w.heap.size + 1, 4, none⟩) z1).trans (HS0.out 4)⟩
  obtain ⟨f0, f1, f4⟩ : w1.cell? ⟨w.heap.size, 0, none⟩ = some (.int .i64 f.len) ∧ w1.cell? ⟨w.heap.size, 1, none⟩ = some (.int .i64 f.slack) ∧ w1.cell? ⟨w.heap.size, 4, none⟩ = some (.slice (some ⟨cb, co, none⟩) cl cc) := ⟨(hB1.cell (p := ⟨w.heap.size, 0, none⟩) z0).trans (HA0.out 0), (hB1.cell (p := ⟨w.heap.size, 1, none⟩) z0).trans (HA0.out 1), (hB1.cell (p := ⟨w.heap.size, 4, none⟩) z0).trans (HA0.out 4)⟩
  have HBW := Lib.hid hbw
  have y0 : w.heap.size < w1.heap.size := Nat.lt_of_lt_of_le z0 hB1.size
  have y1 : w.heap.size + 1 < w1.heap.size := Nat.lt_of_lt_of_le z1 hB1.size
  have y3 : cb < w1.heap.size := by omega
  clear hB1 hbw hcell HA0 HS0
  have HGX := Lib.hid (fun W (h : Below w1.heap.size w1 W ∧ ∀ b o, b < w1.heap.size → W.cell? ⟨b, o, none⟩ = w1.cell? ⟨b, o, none⟩) => bothS1 (W0 := w1) (HG.out W (HBW.out.trans (h.1.mono HBW.out.size))) h)
  have HPX := Lib.hid (fun W (h : Below w1.heap.size w1 W ∧ ∀ b o, b < w1.heap.size → W.cell? ⟨b, o, none⟩ = w1.cell? ⟨b, o, none⟩) => bothS1 (W0 := w1) (HPT.out W (HBW.out.trans (h.1.mono HBW.out.size))) h)
  go_upto_region 5 with fail
  go_cut [10, 11] (fun v10 v11 wx => ∃ gb, v10 = .int .i64 pt ∧ v11 = .pointer (some ⟨gb, 0, none⟩) ∧ wx.cell? ⟨gb, 0, none⟩ = some (.int .i64 lo) ∧ wx.cell? ⟨gb, 1, none⟩ = some (.int .i64 hi) ∧ Below w1.heap.size w1 wx)
  case first =>
    go_region_held3 (fun w' => Below w1.heap.size w1 w' ∧ ∀ b o, b < w1.heap.size → w'.cell? ⟨b, o, none⟩ = w1.cell? ⟨b, o, none⟩) (first | with_reducible assumption | ((repeat (first | with_reducible refine bothS_drew ?_ | with_reducible refine bothS_alloc _ ?_ | with_reducible refine bothS_set _ _ (by first | omega | (simp; omega) | simp) ?_)); first | with_reducible assumption | with_reducible exact Hid.out (by assumption) | with_reducible exact ⟨Below.refl _ _, fun _ _ _ => rfl⟩)) (first | (go_at_call 84; with_reducible refine (HPX.out _ ?_).mono ?_; (first | with_reducible assumption | ((repeat (first | with_reducible refine bothS_drew ?_ | with_reducible refine bothS_alloc _ ?_ | with_reducible refine bothS_set _ _ (by first | omega | (simp; omega) | simp) ?_)); first | with_reducible assumption | with_reducible exact Hid.out (by assumption) | with_reducible exact ⟨Below.refl _ _, fun _ _ _ => rfl⟩)); rintro e w' ⟨rfl, k, k1, k2, k3⟩; have HK := Lib.hid k; (try simp at k3); (try have k6 := Nat.lt_of_succ_le k3); (try have k7 := Nat.lt_of_succ_lt k6); (try have k8 := Nat.lt_of_succ_lt k3)) | (go_at_call 76; with_reducible refine (HGX.out _ ?_).mono ?_; (first | with_reducible assumption | ((repeat (first | with_reducible refine bothS_drew ?_ | with_reducible refine bothS_alloc _ ?_ | with_reducible refine bothS_set _ _ (by first | omega | (simp; omega) | simp) ?_)); first | with_reducible assumption | with_reducible exact Hid.out (by assumption) | with_reducible exact ⟨Below.refl _ _, fun _ _ _ => rfl⟩)); rintro e w' ⟨rfl, k, k1, k2, k3⟩; have HK := Lib.hid k; (try simp at k3); (try have k6 := Nat.lt_of_succ_le k3); (try have k7 := Nat.lt_of_succ_lt k6); (try have k8 := Nat.lt_of_succ_lt k3)) | fail "no arm")
    all_goals (go_wp2_with fail; go_meet; exact ⟨_, rfl, rfl, by go_simp, by go_simp, And.left (by assumption)⟩)
  case rest =>
  obtain ⟨gb, rfl, rfl, g0, g1, hB2⟩ := hcut
  obtain ⟨w2, rfl⟩ : ∃ w2 : World, w2 = wc := ⟨_, rfl⟩
  have k0 := (hB2.cell (p := ⟨w.heap.size, 0, none⟩) y0).trans f0
  have k1 := (hB2.cell (p := ⟨w.heap.size, 1, none⟩) y0).trans f1
  have HB2 := Lib.hid (HBW.out.trans (hB2.mono HBW.out.size))
  clear hB2 x0 x1 x2 x3 x4 f0 f1 f4 c0 HGX HPX HG HPT
  have HR := Lib.hid (fun v (h : knownR f.len f.slack lo hi pt = v) => show Ending.returned (.tuple #[.int .i64 v, .int .i64 0]) = .returned (.tuple #[.int .i64 (knownR f.len f.slack lo hi pt), .int .i64 0]) from by rw [h])
  go_wp2_with fail
  go_region
  by_cases h1 : f.len - f.slack ≤ lo + pt
  · by_cases h2 : hi + pt ≤ f.len
    · have HR1 := Lib.hid (HR.out 1 (by unfold knownR; rw [if_pos ⟨h1, h2⟩]))
      go_wp2_with fail
      go_ret2
      exact ⟨HR1.out, by have hBB := HB2.out; exact (by repeat (first | assumption | exact Below.refl _ _ | (refine Below.alloc ?_ (by first | omega | (simp; omega) | simp) _) | (refine Below.setCell ?_ (by first | omega | (simp; omega) | simp) _) | refine Below.drew ?_))⟩
    · have h3 : ¬ hi + pt < f.len - f.slack := by omega
      by_cases h4 : f.len < lo + pt
      · have HR1 := Lib.hid (HR.out 2 (by unfold knownR; rw [if_neg (by omega), if_pos (.inr h4)]))
        go_wp2_with fail
        go_ret2
        exact ⟨HR1.out, by have hBB := HB2.out; exact (by repeat (first | assumption | exact Below.refl _ _ | (refine Below.alloc ?_ (by first | omega | (simp; omega) | simp) _) | (refine Below.setCell ?_ (by first | omega | (simp; omega) | simp) _) | refine Below.drew ?_))⟩
      · have HR1 := Lib.hid (HR.out 3 (by unfold knownR; rw [if_neg (by omega), if_neg (by omega)]))
        go_wp2_with fail
        go_ret2
        exact ⟨HR1.out, by have hBB := HB2.out; exact (by repeat (first | assumption | exact Below.refl _ _ | (refine Below.alloc ?_ (by first | omega | (simp; omega) | simp) _) | (refine Below.setCell ?_ (by first | omega | (simp; omega) | simp) _) | refine Below.drew ?_))⟩
  · by_cases h3 : hi + pt < f.len - f.slack
    · have HR1 := Lib.hid (HR.out 2 (by unfold knownR; rw [if_neg (by omega), if_pos (.inl h3)]))
      go_wp2_with fail
      go_ret2
      exact ⟨HR1.out, by have hBB := HB2.out; exact (by repeat (first | assumption | exact Below.refl _ _ | (refine Below.alloc ?_ (by first | omega | (simp; omega) | simp) _) | (refine Below.setCell ?_ (by first | omega | (simp; omega) | simp) _) | refine Below.drew ?_))⟩
    · have h4 : ¬ f.len < lo + pt := by omega
      have HR1 := Lib.hid (HR.out 3 (by unfold knownR; rw [if_neg (by omega), if_neg (by omega)]))
      go_wp2_with fail
      go_ret2
      exact ⟨HR1.out, by have hBB := HB2.out; exact (by repeat (first | assumption | exact Below.refl _ _ | (refine Below.alloc ?_ (by first | omega | (simp; omega) | simp) _) | (refine Below.setCell ?_ (by first | omega | (simp; omega) | simp) _) | refine Below.drew ?_))⟩
end Go.Proofs.Ytcklhojeneejiaa
