/- Package pages: Column, Room. -/
import Derived.Test.YtcklhojeneejiaaYE
namespace Go.Proofs.Ytcklhojeneejiaa
set_option linter.unusedVariables false
set_option linter.unusedSimpArgs false
open Go.RowKit

theorem gS_drew {W0 w1 : World} {g : Nat} (h : W0.grownBy w1 (some g) ∧ ∀ b o, b < W0.heap.size → ¬ b = g → w1.cell? ⟨b, o, none⟩ = W0.cell? ⟨b, o, none⟩) : W0.grownBy w1.drew (some g) ∧ ∀ b o, b < W0.heap.size → ¬ b = g → w1.drew.cell? ⟨b, o, none⟩ = W0.cell? ⟨b, o, none⟩ := ⟨gbx_drew h.1, h.2⟩
theorem gS_of {W0 w1 : World} {g : Nat} (h : W0.grownBy w1 (some g)) : W0.grownBy w1 (some g) ∧ ∀ b o, b < W0.heap.size → ¬ b = g → w1.cell? ⟨b, o, none⟩ = W0.cell? ⟨b, o, none⟩ :=
  ⟨h, fun b o hb hne => World.cell?_of_block (w := W0) (a := ⟨b, o, none⟩) (h.block b hb (fun e => hne (by injection e)))⟩
theorem gS_alloc {W0 w1 : World} {g : Nat} (o : Obj) (h : W0.grownBy w1 (some g) ∧ ∀ b o, b < W0.heap.size → ¬ b = g → w1.cell? ⟨b, o, none⟩ = W0.cell? ⟨b, o, none⟩) : W0.grownBy (w1.alloc o) (some g) ∧ ∀ b o', b < W0.heap.size → ¬ b = g → (w1.alloc o).cell? ⟨b, o', none⟩ = W0.cell? ⟨b, o', none⟩ := gS_of (gbx_alloc h.1 o)
theorem gS_set {W0 w1 : World} {g : Nat} (i : Nat) (v : Value) (h : W0.grownBy w1 (some g) ∧ ∀ b o, b < W0.heap.size → ¬ b = g → w1.cell? ⟨b, o, none⟩ = W0.cell? ⟨b, o, none⟩) : W0.grownBy (w1.setCell ⟨g, i, none⟩ v) (some g) ∧ ∀ b o', b < W0.heap.size → ¬ b = g → (w1.setCell ⟨g, i, none⟩ v).cell? ⟨b, o', none⟩ = W0.cell? ⟨b, o', none⟩ := gS_of (gbx_set h.1 i v)
theorem gS_below {W0 w1 w2 : World} {g : Nat} (h : W0.grownBy w1 (some g) ∧ ∀ b o, b < W0.heap.size → ¬ b = g → w1.cell? ⟨b, o, none⟩ = W0.cell? ⟨b, o, none⟩) (hb : Below w1.heap.size w1 w2) : W0.grownBy w2 (some g) ∧ ∀ b o', b < W0.heap.size → ¬ b = g → w2.cell? ⟨b, o', none⟩ = W0.cell? ⟨b, o', none⟩ := gS_of (gbx_below hb h.1)
def ColumnPost (f : PFrame) (xs : List Int) (e : Ending) : Prop := e = .returned (.tuple #[.agg #[.int .i64 (f.loS xs), .int .i64 (f.hiS xs)], .int .i64 0])
def RoomPost (f : PFrame) (xs : List Int) (e : Ending) : Prop := e = .returned (.tuple (if f.roomHi xs < f.roomLo xs then #[.agg #[.int .i64 0, .int .i64 0], .int .i64 3] else #[.agg #[.int .i64 (f.roomLo xs), .int .i64 (f.roomHi xs)], .int .i64 0]))
def PFrame.colE (f : PFrame) (n : Int) : Int := f.name (btw n 0 ((f.cols.length : Int) - 1))
set_option maxRecDepth 100000 in
set_option maxHeartbeats 4000000 in
theorem Column_no (f : PFrame) (sa : Option Addr) (sl sc : Nat) (pa : Option Addr) (pl pc : Nat) (ca : Option Addr) (cl cc : Nat) (n v : Int) (hv : f.colE n = v) (h0 : v ≠ 0) (w : World) (hp : PAt w sa sl sc pa pl pc ca cl cc f) :
    Calls Try.prog 20 #[.agg #[.int .i64 f.len, .int .i64 f.slack, .slice sa sl sc, .slice pa pl pc, .slice ca cl cc], .int .i64 n] w fun e w' => e = .returned (.tuple #[.agg #[.int .i64 0, .int .i64 0], .int .i64 v]) ∧ Below w.heap.size w w' := by
  have hcm := hp.2.2.2.1
  have hcl := hp.2.2.1
  obtain ⟨r, hr⟩ : ∃ r, btw n 0 ((cl : Int) - 1) = r := ⟨_, rfl⟩
  have HH := Lib.hid (fun W => hasColumn_is f sa sl sc pa pl pc ca cl cc n W hcm r hr)
  have HA := Lib.hid (fun W (hb : Below w.heap.size w W) => named_is f sa sl sc pa pl pc ca cl cc r v (by rw [← hv, PFrame.colE, hcl, hr]) W (hp.below hb))
  have e2 : (v != 0) = true := by simpa using h0
  clear hp hv hcm hcl hr
  go_enter Try.func20, Try.ntmps20
  go_wp2_with fail
  obtain ⟨W0, hW0, hB0, ha0, hr0, hs0, hrf, -, hz0⟩ := name3 w #[.int .i64 f.len, .int .i64 f.slack, .slice sa sl sc, .slice pa pl pc, .slice ca cl cc] 26 #[.int .i64 0, .int .i64 0] 32 #[.int .i64 f.len, .int .i64 f.slack, .slice sa sl sc, .slice pa pl pc, .slice ca cl cc] 87
  rw [hW0]
  clear hW0
  have HHX := Lib.hid (fun W (h : Below W0.heap.size W0 W ∧ ∀ b o, b < W0.heap.size → W.cell? ⟨b, o, none⟩ = W0.cell? ⟨b, o, none⟩) => bothS1 (W0 := W0) (HH.out W) h)
  have HAN := Lib.hid (fun W (h : Below W0.heap.size W0 W ∧ ∀ b o, b < W0.heap.size → W.cell? ⟨b, o, none⟩ = W0.cell? ⟨b, o, none⟩) => bothS1 (W0 := W0) (HA.out W (hB0.trans (h.1.mono hB0.size))) h)
  obtain ⟨x0, x1, x2, x3, x4⟩ : W0.cell? ⟨w.heap.size + 1 + 1, 0, none⟩ = some (.int .i64 f.len) ∧ W0.cell? ⟨w.heap.size + 1 + 1, 1, none⟩ = some (.int .i64 f.slack) ∧ W0.cell? ⟨w.heap.size + 1 + 1, 2, none⟩ = some (.slice sa sl sc) ∧ W0.cell? ⟨w.heap.size + 1 + 1, 3, none⟩ = some (.slice pa pl pc) ∧ W0.cell? ⟨w.heap.size + 1 + 1, 4, none⟩ = some (.slice ca cl cc) := ⟨hs0 0, hs0 1, hs0 2, hs0 3, hs0 4⟩
  have z1 : w.heap.size + 1 < W0.heap.size := by omega
  have z2 : w.heap.size + 1 + 1 < W0.heap.size := by omega
  have HB0 := Lib.hid hB0
  have HR0 := Lib.hid hr0
  have HRF := Lib.hid hrf
  clear hB0 hr0 hrf ha0 hs0 hz0
  go_upto_region 2 with fail
  go_cut [7] (fun v7 wx => v7 = .int .i64 v ∧ Below W0.heap.size W0 wx)
  case first =>
    go_region_held3 (fun w' => Below W0.heap.size W0 w' ∧ ∀ b o, b < W0.heap.size → w'.cell? ⟨b, o, none⟩ = W0.cell? ⟨b, o, none⟩) (first | with_reducible assumption | ((repeat (first | with_reducible refine bothS_drew ?_ | with_reducible refine bothS_alloc _ ?_ | with_reducible refine bothS_set _ _ (by first | omega | (simp; omega) | simp) ?_)); first | with_reducible assumption | with_reducible exact Hid.out (by assumption) | with_reducible exact ⟨Below.refl _ _, fun _ _ _ => rfl⟩)) (first | (go_at_call 75; with_reducible refine (HHX.out _ ?_).mono ?_; (first | with_reducible assumption | ((repeat (first | with_reducible refine bothS_drew ?_ | with_reducible refine bothS_alloc _ ?_ | with_reducible refine bothS_set _ _ (by first | omega | (simp; omega) | simp) ?_)); first | with_reducible assumption | with_reducible exact Hid.out (by assumption) | with_reducible exact ⟨Below.refl _ _, fun _ _ _ => rfl⟩)); rintro e w' ⟨rfl, k, k1, k2, k3⟩; have HK := Lib.hid k; (try simp at k3); (try have k6 := Nat.lt_of_succ_le k3); (try have k7 := Nat.lt_of_succ_lt k6); (try have k8 := Nat.lt_of_succ_lt k3)) | (go_at_call 74; with_reducible refine (HAN.out _ ?_).mono ?_; (first | with_reducible assumption | ((repeat (first | with_reducible refine bothS_drew ?_ | with_reducible refine bothS_alloc _ ?_ | with_reducible refine bothS_set _ _ (by first | omega | (simp; omega) | simp) ?_)); first | with_reducible assumption | with_reducible exact Hid.out (by assumption) | with_reducible exact ⟨Below.refl _ _, fun _ _ _ => rfl⟩)); rintro e w' ⟨rfl, k, k1, k2, k3⟩; have HK := Lib.hid k; (try simp at k3); (try have k6 := Nat.lt_of_succ_le k3); (try have k7 := Nat.lt_of_succ_lt k6); (try have k8 := Nat.lt_of_succ_lt k3)) | fail "no arm")
    all_goals (go_wp2_with fail; go_meet; exact ⟨rfl, And.left (by assumption)⟩)
  case rest =>
  obtain ⟨rfl, hB1⟩ := hcut
  obtain ⟨w1, rfl⟩ : ∃ w1 : World, w1 = wc := ⟨_, rfl⟩
  have r0 := (hB1.cell (p := ⟨w.heap.size + 1, 0, none⟩) z1).trans (HR0.out 0)
  have r1 := (hB1.cell (p := ⟨w.heap.size + 1, 1, none⟩) z1).trans (HR0.out 1)
  have r2 := (hB1.frozen (p := ⟨w.heap.size + 1, 0, none⟩) z1).trans (HRF.out 0)
  have r3 := (hB1.frozen (p := ⟨w.heap.size + 1, 1, none⟩) z1).trans (HRF.out 1)
  have HBW := Lib.hid (HB0.out.trans (hB1.mono HB0.out.size))
  clear hB1
  go_wp2_with fail
  refine bodyPost_ret (v := .tuple #[.agg #[.int .i64 0, .int .i64 0], .int .i64 v]) (by simp [results, Try.results20, go_sem, *]) rfl ⟨rfl, ?_⟩
  have hBB := HBW.out
  exact (by repeat (first | assumption | exact Below.refl _ _ | (refine Below.alloc ?_ (by first | omega | (simp; omega) | simp) _) | (refine Below.setCell ?_ (by first | omega | (simp; omega) | simp) _) | refine Below.drew ?_))
set_option maxRecDepth 100000 in
set_option maxHeartbeats 4000000 in
theorem Room_no (f : PFrame) (sa : Option Addr) (sl sc : Nat) (pa : Option Addr) (pl pc : Nat) (ca : Option Addr) (cl cc : Nat) (n v : Int) (hv : f.colE n = v) (h0 : v ≠ 0) (w : World) (hp : PAt w sa sl sc pa pl pc ca cl cc f) :
    Calls Try.prog 26 #[.agg #[.int .i64 f.len, .int .i64 f.slack, .slice sa sl sc, .slice pa pl pc, .slice ca cl cc], .int .i64 n] w fun e w' => e = .returned (.tuple #[.agg #[.int .i64 0, .int .i64 0], .int .i64 v]) ∧ Below w.heap.size w w' := by
  have hcm := hp.2.2.2.1
  have hcl := hp.2.2.1
  obtain ⟨r, hr⟩ : ∃ r, btw n 0 ((cl : Int) - 1) = r := ⟨_, rfl⟩
  have HH := Lib.hid (fun W => hasColumn_is f sa sl sc pa pl pc ca cl cc n W hcm r hr)
  have HA := Lib.hid (fun W (hb : Below w.heap.size w W) => named_is f sa sl sc pa pl pc ca cl cc r v (by rw [← hv, PFrame.colE, hcl, hr]) W (hp.below hb))
  have e2 : (v != 0) = true := by simpa using h0
  clear hp hv hcm hcl hr
  go_enter Try.func26, Try.ntmps26
  go_wp2_with fail
  obtain ⟨W0, hW0, hB0, ha0, hr0, hs0, hrf, -, hz0⟩ := name3 w #[.int .i64 f.len, .int .i64 f.slack, .slice sa sl sc, .slice pa pl pc, .slice ca cl cc] 26 #[.int .i64 0, .int .i64 0] 32 #[.int .i64 f.len, .int .i64 f.slack, .slice sa sl sc, .slice pa pl pc, .slice ca cl cc] 87
  rw [hW0]
  clear hW0
  have HHX := Lib.hid (fun W (h : Below W0.heap.size W0 W ∧ ∀ b o, b < W0.heap.size → W.cell? ⟨b, o, none⟩ = W0.cell? ⟨b, o, none⟩) => bothS1 (W0 := W0) (HH.out W) h)
  have HAN := Lib.hid (fun W (h : Below W0.heap.size W0 W ∧ ∀ b o, b < W0.heap.size → W.cell? ⟨b, o, none⟩ = W0.cell? ⟨b, o, none⟩) => bothS1 (W0 := W0) (HA.out W (hB0.trans (h.1.mono hB0.size))) h)
  obtain ⟨x0, x1, x2, x3, x4⟩ : W0.cell? ⟨w.heap.size + 1 + 1, 0, none⟩ = some (.int .i64 f.len) ∧ W0.cell? ⟨w.heap.size + 1 + 1, 1, none⟩ = some (.int .i64 f.slack) ∧ W0.cell? ⟨w.heap.size + 1 + 1, 2, none⟩ = some (.slice sa sl sc) ∧ W0.cell? ⟨w.heap.size + 1 + 1, 3, none⟩ = some (.slice pa pl pc) ∧ W0.cell? ⟨w.heap.size + 1 + 1, 4, none⟩ = some (.slice ca cl cc) := ⟨hs0 0, hs0 1, hs0 2, hs0 3, hs0 4⟩
  have z1 : w.heap.size + 1 < W0.heap.size := by omega
  have z2 : w.heap.size + 1 + 1 < W0.heap.size := by omega
  have HB0 := Lib.hid hB0
  have HR0 := Lib.hid hr0
  have HRF := Lib.hid hrf
  clear hB0 hr0 hrf ha0 hs0 hz0
  go_upto_region 2 with fail
  go_cut [7] (fun v7 wx => v7 = .int .i64 v ∧ Below W0.heap.size W0 wx)
  case first =>
    go_region_held3 (fun w' => Below W0.heap.size W0 w' ∧ ∀ b o, b < W0.heap.size → w'.cell? ⟨b, o, none⟩ = W0.cell? ⟨b, o, none⟩) (first | with_reducible assumption | ((repeat (first | with_reducible refine bothS_drew ?_ | with_reducible refine bothS_alloc _ ?_ | with_reducible refine bothS_set _ _ (by first | omega | (simp; omega) | simp) ?_)); first | with_reducible assumption | with_reducible exact Hid.out (by assumption) | with_reducible exact ⟨Below.refl _ _, fun _ _ _ => rfl⟩)) (first | (go_at_call 75; with_reducible refine (HHX.out _ ?_).mono ?_; (first | with_reducible assumption | ((repeat (first | with_reducible refine bothS_drew ?_ | with_reducible refine bothS_alloc _ ?_ | with_reducible refine bothS_set _ _ (by first | omega | (simp; omega) | simp) ?_)); first | with_reducible assumption | with_reducible exact Hid.out (by assumption) | with_reducible exact ⟨Below.refl _ _, fun _ _ _ => rfl⟩)); rintro e w' ⟨rfl, k, k1, k2, k3⟩; have HK := Lib.hid k; (try simp at k3); (try have k6 := Nat.lt_of_succ_le k3); (try have k7 := Nat.lt_of_succ_lt k6); (try have k8 := Nat.lt_of_succ_lt k3)) | (go_at_call 74; with_reducible refine (HAN.out _ ?_).mono ?_; (first | with_reducible assumption | ((repeat (first | with_reducible refine bothS_drew ?_ | with_reducible refine bothS_alloc _ ?_ | with_reducible refine bothS_set _ _ (by first | omega | (simp; omega) | simp) ?_)); first | with_reducible assumption | with_reducible exact Hid.out (by assumption) | with_reducible exact ⟨Below.refl _ _, fun _ _ _ => rfl⟩)); rintro e w' ⟨rfl, k, k1, k2, k3⟩; have HK := Lib.hid k; (try simp at k3); (try have k6 := Nat.lt_of_succ_le k3); (try have k7 := Nat.lt_of_succ_lt k6); (try have k8 := Nat.lt_of_succ_lt k3)) | fail "no arm")
    all_goals (go_wp2_with fail; go_meet; exact ⟨rfl, And.left (by assumption)⟩)
  case rest =>
  obtain ⟨rfl, hB1⟩ := hcut
  obtain ⟨w1, rfl⟩ : ∃ w1 : World, w1 = wc := ⟨_, rfl⟩
  have r0 := (hB1.cell (p := ⟨w.heap.size + 1, 0, none⟩) z1).trans (HR0.out 0)
  have r1 := (hB1.cell (p := ⟨w.heap.size + 1, 1, none⟩) z1).trans (HR0.out 1)
  have r2 := (hB1.frozen (p := ⟨w.heap.size + 1, 0, none⟩) z1).trans (HRF.out 0)
  have r3 := (hB1.frozen (p := ⟨w.heap.size + 1, 1, none⟩) z1).trans (HRF.out 1)
  have HBW := Lib.hid (HB0.out.trans (hB1.mono HB0.out.size))
  clear hB1
  go_wp2_with fail
  refine bodyPost_ret (v := .tuple #[.agg #[.int .i64 0, .int .i64 0], .int .i64 v]) (by simp [results, Try.results26, go_sem, *]) rfl ⟨rfl, ?_⟩
  have hBB := HBW.out
  exact (by repeat (first | assumption | exact Below.refl _ _ | (refine Below.alloc ?_ (by first | omega | (simp; omega) | simp) _) | (refine Below.setCell ?_ (by first | omega | (simp; omega) | simp) _) | refine Below.drew ?_))

set_option maxRecDepth 100000 in
set_option maxHeartbeats 4000000 in
theorem Column_yes (f : PFrame) (sa : Option Addr) (sl sc : Nat) (pa : Option Addr) (pl pc : Nat) (ca : Option Addr) (cl cc : Nat) (c : Nat) (hc : c < f.cols.length) (ho : f.ok = true) (w : World) (hp : PAt w sa sl sc pa pl pc ca cl cc f) :
    Calls Try.prog 20 #[.agg #[.int .i64 f.len, .int .i64 f.slack, .slice sa sl sc, .slice pa pl pc, .slice ca cl cc], .int .i64 c] w fun e w' => ColumnPost f f.cols[c] e ∧ Below w.heap.size w w' := by
  have hcl := hp.2.2.1
  have hcm := hp.2.2.2.1
  obtain ⟨cb, co, hca, hcB, hccell⟩ := hp.2.2.2.2 (by omega)
  subst hca
  obtain ⟨ra, rl, rc, hcell, -, hri⟩ := hccell c hc
  obtain ⟨hin, h6⟩ := PFrame.ok_col ho c hc
  have HH := Lib.hid (fun W => hasColumn_is f sa sl sc pa pl pc (some ⟨cb, co, none⟩) cl cc c W hcm true (by unfold btw; simp; omega))
  have HA := Lib.hid (fun W (hb : Below w.heap.size w W) => named_is f sa sl sc pa pl pc (some ⟨cb, co, none⟩) cl cc true 0 (by simp [PFrame.name, ho]) W (hp.below hb))
  have HG := Lib.hid (fun W (hb : Below w.heap.size w W) => height_any f sa sl sc pa pl pc (some ⟨cb, co, none⟩) cl cc ra rl rc f.cols[c] ho hin h6 W (hp.below hb) (hri.below hb))
  have hcl' : (c : Int) < (cl : Int) := by omega
  have hc0 : (0 : Int) ≤ (c : Int) := by omega
  obtain ⟨v, hv⟩ : ∃ v : Int, v = 0 := ⟨_, rfl⟩
  rw [← hv] at HA
  have HV := Lib.hid hv
  clear hp hcm hcl hri hin h6 hccell ho hv
  generalize f.cols[c] = xs at *
  go_enter Try.func20, Try.ntmps20
  go_wp2_with fail
  obtain ⟨W0, hW0, hB0, ha0, hr0, hs0, hrf, -, hz0⟩ := name3 w #[.int .i64 f.len, .int .i64 f.slack, .slice sa sl sc, .slice pa pl pc, .slice (some ⟨cb, co, none⟩) cl cc] 26 #[.int .i64 0, .int .i64 0] 32 #[.int .i64 f.len, .int .i64 f.slack, .slice sa sl sc, .slice pa pl pc, .slice (some ⟨cb, co, none⟩) cl cc] 87
  rw [hW0]
  clear hW0
  have HHX := Lib.hid (fun W (h : Below W0.heap.size W0 W ∧ ∀ b o, b < W0.heap.size → W.cell? ⟨b, o, none⟩ = W0.cell? ⟨b, o, none⟩) => bothS1 (W0 := W0) (HH.out W) h)
  have HAN := Lib.hid (fun W (h : Below W0.heap.size W0 W ∧ ∀ b o, b < W0.heap.size → W.cell? ⟨b, o, none⟩ = W0.cell? ⟨b, o, none⟩) => bothS1 (W0 := W0) (HA.out W (hB0.trans (h.1.mono hB0.size))) h)
  obtain ⟨x0, x1, x2, x3, x4⟩ : W0.cell? ⟨w.heap.size + 1 + 1, 0, none⟩ = some (.int .i64 f.len) ∧ W0.cell? ⟨w.heap.size + 1 + 1, 1, none⟩ = some (.int .i64 f.slack) ∧ W0.cell? ⟨w.heap.size + 1 + 1, 2, none⟩ = some (.slice sa sl sc) ∧ W0.cell? ⟨w.heap.size + 1 + 1, 3, none⟩ = some (.slice pa pl pc) ∧ W0.cell? ⟨w.heap.size + 1 + 1, 4, none⟩ = some (.slice (some ⟨cb, co, none⟩) cl cc) := ⟨hs0 0, hs0 1, hs0 2, hs0 3, hs0 4⟩
  have z0 : w.heap.size < W0.heap.size := by omega
  have z1 : w.heap.size + 1 < W0.heap.size := by omega
  have z2 : w.heap.size + 1 + 1 < W0.heap.size := by omega
  have HB0 := Lib.hid hB0
  have HA0 := Lib.hid ha0
  have HR0 := Lib.hid hr0
  have HRF := Lib.hid hrf
  have HS0 := Lib.hid hs0
  clear hB0 hr0 hrf ha0 hs0 hz0
  go_upto_region 2 with fail
  go_cut [7] (fun v7 wx => v7 = .int .i64 v ∧ Below W0.heap.size W0 wx)
  case first =>
    go_region_held3 (fun w' => Below W0.heap.size W0 w' ∧ ∀ b o, b < W0.heap.size → w'.cell? ⟨b, o, none⟩ = W0.cell? ⟨b, o, none⟩) (first | with_reducible assumption | ((repeat (first | with_reducible refine bothS_drew ?_ | with_reducible refine bothS_alloc _ ?_ | with_reducible refine bothS_set _ _ (by first | omega | (simp; omega) | simp) ?_)); first | with_reducible assumption | with_reducible exact Hid.out (by assumption) | with_reducible exact ⟨Below.refl _ _, fun _ _ _ => rfl⟩)) (first | (go_at_call 75; with_reducible refine (HHX.out _ ?_).mono ?_; (first | with_reducible assumption | ((repeat (first | with_reducible refine bothS_drew ?_ | with_reducible refine bothS_alloc _ ?_ | with_reducible refine bothS_set _ _ (by first | omega | (simp; omega) | simp) ?_)); first | with_reducible assumption | with_reducible exact Hid.out (by assumption) | with_reducible exact ⟨Below.refl _ _, fun _ _ _ => rfl⟩)); rintro e w' ⟨rfl, k, k1, k2, k3⟩; have HK := Lib.hid k; (try simp at k3); (try have k6 := Nat.lt_of_succ_le k3); (try have k7 := Nat.lt_of_succ_lt k6); (try have k8 := Nat.lt_of_succ_lt k3)) | (go_at_call 74; with_reducible refine (HAN.out _ ?_).mono ?_; (first | with_reducible assumption | ((repeat (first | with_reducible refine bothS_drew ?_ | with_reducible refine bothS_alloc _ ?_ | with_reducible refine bothS_set _ _ (by first | omega | (simp; omega) | simp) ?_)); first | with_reducible assumption | with_reducible exact Hid.out (by assumption) | with_reducible exact ⟨Below.refl _ _, fun _ _ _ => rfl⟩)); rintro e w' ⟨rfl, k, k1, k2, k3⟩; have HK := Lib.hid k; (try simp at k3); (try have k6 := Nat.lt_of_succ_le k3); (try have k7 := Nat.lt_of_succ_lt k6); (try have k8 := Nat.lt_of_succ_lt k3)) | fail "no arm")
    all_goals (go_wp2_with fail; go_meet; exact ⟨rfl, And.left (by assumption)⟩)
  case rest =>
  obtain ⟨rfl, hB1⟩ := hcut
  obtain ⟨w1, rfl⟩ : ∃ w1 : World, w1 = wc := ⟨_, rfl⟩
  obtain rfl := HV.out
  clear HV
  have r0 := (hB1.cell (p := ⟨w.heap.size + 1, 0, none⟩) z1).trans (HR0.out 0)
  have r1 := (hB1.cell (p := ⟨w.heap.size + 1, 1, none⟩) z1).trans (HR0.out 1)
  have r2 := (hB1.frozen (p := ⟨w.heap.size + 1, 0, none⟩) z1).trans (HRF.out 0)
  have r3 := (hB1.frozen (p := ⟨w.heap.size + 1, 1, none⟩) z1).trans (HRF.out 1)
  clear x0 x1 x2 x3 x4
  obtain ⟨x0, x1, x2, x3, x4⟩ : w1.cell? ⟨w.heap.size + 1 + 1, 0, none⟩ = some (.int .i64 f.len) ∧ w1.cell? ⟨w.heap.size + 1 + 1, 1, none⟩ = some (.int .i64 f.slack) ∧ w1.cell? ⟨w.heap.size + 1 + 1, 2, none⟩ = some (.slice sa sl sc) ∧ w1.cell? ⟨w.heap.size + 1 + 1, 3, none⟩ = some (.slice pa pl pc) ∧ w1.cell? ⟨w.heap.size + 1 + 1, 4, none⟩ = some (.slice (some ⟨cb, co, none⟩) cl cc) := ⟨(hB1.cell (p := ⟨w.heap.size + 1 + 1, 0, none⟩) z2).trans (HS0.out 0), (hB1.cell (p := ⟨w.heap.size + 1 + 1, 1, none⟩) z2).trans (HS0.out 1), (hB1.cell (p := ⟨w.heap.size + 1 + 1, 2, none⟩) z2).trans (HS0.out 2), (hB1.cell (p := ⟨w.heap.size + 1 + 1, 3, none⟩) z2).trans (HS0.out 3), (hB1.cell (p := ⟨w.heap.size + 1 + 1, 4, none⟩) z2).trans (HS0.out 4)⟩
  have f4 := (hB1.cell (p := ⟨w.heap.size, 4, none⟩) z0).trans (HA0.out 4)
  have hbw := HB0.out.trans (hB1.mono HB0.out.size)
  have c0 := (hbw.cell (p := ⟨cb, co + c, none⟩) hcB).trans hcell
  have HBW := Lib.hid hbw
  have hz1 := hB1.size
  have y0 : w.heap.size < w1.heap.size := by omega
  have y1 : w.heap.size + 1 < w1.heap.size := by omega
  have y2 : w.heap.size + 1 + 1 < w1.heap.size := by omega
  have y3 : cb < w1.heap.size := by omega
  have n0 : ¬ w.heap.size = w.heap.size + 1 := by omega
  have n2 : ¬ w.heap.size + 1 + 1 = w.heap.size + 1 := by omega
  have n3 : ¬ cb = w.heap.size + 1 := by omega
  clear hB1 hbw hcell HA0 HR0 HRF HS0 hz1
  have HGX := Lib.hid (fun W (h : w1.grownBy W (some (w.heap.size + 1)) ∧ ∀ b o, b < w1.heap.size → ¬ b = w.heap.size + 1 → W.cell? ⟨b, o, none⟩ = w1.cell? ⟨b, o, none⟩) => HG.out W (HBW.out.trans (grown_low h.1 HBW.out.size (fun r e => by injection e with e; omega))))
  go_upto_region 5 with fail
  go_region_held3 (fun w' => w1.grownBy w' (some (w.heap.size + 1)) ∧ ∀ b o, b < w1.heap.size → ¬ b = (w.heap.size + 1) → w'.cell? ⟨b, o, none⟩ = w1.cell? ⟨b, o, none⟩) (first | with_reducible assumption | ((repeat (first | with_reducible refine gS_drew ?_ | with_reducible refine gS_alloc _ ?_ | with_reducible refine gS_set _ _ ?_)); first | with_reducible assumption | with_reducible exact gS_of (gbx_refl _ _))) (first
    | (go_at_call 76; with_reducible refine (HGX.out _ ?_).mono ?_; (· (first | with_reducible assumption | ((repeat (first | with_reducible refine gS_drew ?_ | with_reducible refine gS_alloc _ ?_ | with_reducible refine gS_set _ _ ?_)); first | with_reducible assumption | with_reducible exact gS_of (gbx_refl _ _)))); rintro e w' ⟨rfl, hbH⟩; have kH := gS_below (by assumption) hbH; have kAb : Below w1.heap.size w1 w' := below_via (Lib.hid hbH) (by first | exact Nat.le_refl _ | (simp; done) | (simp; omega)) (by repeat (first | exact Below.refl _ _ | (refine Below.alloc ?_ (by first | omega | (simp; omega) | simp) _) | (refine Below.setCell ?_ (by first | omega | (simp; omega) | simp) _) | refine Below.drew ?_)); have kz := Nat.lt_of_lt_of_le y1 kAb.size; have q0 := (kAb.cell (p := ⟨w.heap.size + 1, 0, none⟩) y1).trans r0; have q1 := (kAb.cell (p := ⟨w.heap.size + 1, 1, none⟩) y1).trans r1; have q2 := (kAb.frozen (p := ⟨w.heap.size + 1, 0, none⟩) y1).trans r2; have q3 := (kAb.frozen (p := ⟨w.heap.size + 1, 1, none⟩) y1).trans r3; have HBH := Lib.hid (HBW.out.trans (kAb.mono HBW.out.size)); clear kAb; clear hbH)
    | fail "no arm")
  all_goals
    go_wp2_with fail
    refine bodyPost_ret (v := .tuple #[.agg #[.int .i64 (f.loS xs), .int .i64 (f.hiS xs)], .int .i64 0]) (by simp [results, Try.results20, go_sem, *]) rfl ⟨rfl, ?_⟩
    have hBB := HBH.out
    exact (by repeat (first | assumption | exact Below.refl _ _ | (refine Below.alloc ?_ (by first | omega | (simp; omega) | simp) _) | (refine Below.setCell ?_ (by first | omega | (simp; omega) | simp) _) | refine Below.drew ?_))
set_option maxRecDepth 100000 in
set_option maxHeartbeats 4000000 in
theorem Room_yes (f : PFrame) (sa : Option Addr) (sl sc : Nat) (pa : Option Addr) (pl pc : Nat) (ca : Option Addr) (cl cc : Nat) (c : Nat) (hc : c < f.cols.length) (ho : f.ok = true) (w : World) (hp : PAt w sa sl sc pa pl pc ca cl cc f) :
    Calls Try.prog 26 #[.agg #[.int .i64 f.len, .int .i64 f.slack, .slice sa sl sc, .slice pa pl pc, .slice ca cl cc], .int .i64 c] w fun e w' => RoomPost f f.cols[c] e ∧ Below w.heap.size w w' := by
  have hcl := hp.2.2.1
  have hcm := hp.2.2.2.1
  obtain ⟨cb, co, hca, hcB, hccell⟩ := hp.2.2.2.2 (by omega)
  subst hca
  obtain ⟨ra, rl, rc, hcell, -, hri⟩ := hccell c hc
  obtain ⟨hin, h6⟩ := PFrame.ok_col ho c hc
  have HH := Lib.hid (fun W => hasColumn_is f sa sl sc pa pl pc (some ⟨cb, co, none⟩) cl cc c W hcm true (by unfold btw; simp; omega))
  have HA := Lib.hid (fun W (hb : Below w.heap.size w W) => named_is f sa sl sc pa pl pc (some ⟨cb, co, none⟩) cl cc true 0 (by simp [PFrame.name, ho]) W (hp.below hb))
  have HG := Lib.hid (fun W (hb : Below w.heap.size w W) => room_any f sa sl sc pa pl pc (some ⟨cb, co, none⟩) cl cc ra rl rc f.cols[c] ho hin h6 W (hp.below hb) (hri.below hb))
  have hcl' : (c : Int) < (cl : Int) := by omega
  have hc0 : (0 : Int) ≤ (c : Int) := by omega
  obtain ⟨v, hv⟩ : ∃ v : Int, v = 0 := ⟨_, rfl⟩
  rw [← hv] at HA
  have HV := Lib.hid hv
  clear hp hcm hcl hri hin h6 hccell ho hv
  generalize f.cols[c] = xs at *
  go_enter Try.func26, Try.ntmps26
  go_wp2_with fail
  obtain ⟨W0, hW0, hB0, ha0, hr0, hs0, hrf, -, hz0⟩ := name3 w #[.int .i64 f.len, .int .i64 f.slack, .slice sa sl sc, .slice pa pl pc, .slice (some ⟨cb, co, none⟩) cl cc] 26 #[.int .i64 0, .int .i64 0] 32 #[.int .i64 f.len, .int .i64 f.slack, .slice sa sl sc, .slice pa pl pc, .slice (some ⟨cb, co, none⟩) cl cc] 87
  rw [hW0]
  clear hW0
  have HHX := Lib.hid (fun W (h : Below W0.heap.size W0 W ∧ ∀ b o, b < W0.heap.size → W.cell? ⟨b, o, none⟩ = W0.cell? ⟨b, o, none⟩) => bothS1 (W0 := W0) (HH.out W) h)
  have HAN := Lib.hid (fun W (h : Below W0.heap.size W0 W ∧ ∀ b o, b < W0.heap.size → W.cell? ⟨b, o, none⟩ = W0.cell? ⟨b, o, none⟩) => bothS1 (W0 := W0) (HA.out W (hB0.trans (h.1.mono hB0.size))) h)
  obtain ⟨x0, x1, x2, x3, x4⟩ : W0.cell? ⟨w.heap.size + 1 + 1, 0, none⟩ = some (.int .i64 f.len) ∧ W0.cell? ⟨w.heap.size + 1 + 1, 1, none⟩ = some (.int .i64 f.slack) ∧ W0.cell? ⟨w.heap.size + 1 + 1, 2, none⟩ = some (.slice sa sl sc) ∧ W0.cell? ⟨w.heap.size + 1 + 1, 3, none⟩ = some (.slice pa pl pc) ∧ W0.cell? ⟨w.heap.size + 1 + 1, 4, none⟩ = some (.slice (some ⟨cb, co, none⟩) cl cc) := ⟨hs0 0, hs0 1, hs0 2, hs0 3, hs0 4⟩
  have z0 : w.heap.size < W0.heap.size := by omega
  have z1 : w.heap.size + 1 < W0.heap.size := by omega
  have z2 : w.heap.size + 1 + 1 < W0.heap.size := by omega
  have HB0 := Lib.hid hB0
  have HA0 := Lib.hid ha0
  have HR0 := Lib.hid hr0
  have HRF := Lib.hid hrf
  have HS0 := Lib.hid hs0
  clear hB0 hr0 hrf ha0 hs0 hz0
  go_upto_region 2 with fail
  go_cut [7] (fun v7 wx => v7 = .int .i64 v ∧ Below W0.heap.size W0 wx)
  case first =>
    go_region_held3 (fun w' => Below W0.heap.size W0 w' ∧ ∀ b o, b < W0.heap.size → w'.cell? ⟨b, o, none⟩ = W0.cell? ⟨b, o, none⟩) (first | with_reducible assumption | ((repeat (first | with_reducible refine bothS_drew ?_ | with_reducible refine bothS_alloc _ ?_ | with_reducible refine bothS_set _ _ (by first | omega | (simp; omega) | simp) ?_)); first | with_reducible assumption | with_reducible exact Hid.out (by assumption) | with_reducible exact ⟨Below.refl _ _, fun _ _ _ => rfl⟩)) (first | (go_at_call 75; with_reducible refine (HHX.out _ ?_).mono ?_; (first | with_reducible assumption | ((repeat (first | with_reducible refine bothS_drew ?_ | with_reducible refine bothS_alloc _ ?_ | with_reducible refine bothS_set _ _ (by first | omega | (simp; omega) | simp) ?_)); first | with_reducible assumption | with_reducible exact Hid.out (by assumption) | with_reducible exact ⟨Below.refl _ _, fun _ _ _ => rfl⟩)); rintro e w' ⟨rfl, k, k1, k2, k3⟩; have HK := Lib.hid k; (try simp at k3); (try have k6 := Nat.lt_of_succ_le k3); (try have k7 := Nat.lt_of_succ_lt k6); (try have k8 := Nat.lt_of_succ_lt k3)) | (go_at_call 74; with_reducible refine (HAN.out _ ?_).mono ?_; (first | with_reducible assumption | ((repeat (first | with_reducible refine bothS_drew ?_ | with_reducible refine bothS_alloc _ ?_ | with_reducible refine bothS_set _ _ (by first | omega | (simp; omega) | simp) ?_)); first | with_reducible assumption | with_reducible exact Hid.out (by assumption) | with_reducible exact ⟨Below.refl _ _, fun _ _ _ => rfl⟩)); rintro e w' ⟨rfl, k, k1, k2, k3⟩; have HK := Lib.hid k; (try simp at k3); (try have k6 := Nat.lt_of_succ_le k3); (try have k7 := Nat.lt_of_succ_lt k6); (try have k8 := Nat.lt_of_succ_lt k3)) | fail "no arm")
    all_goals (go_wp2_with fail; go_meet; exact ⟨rfl, And.left (by assumption)⟩)
  case rest =>
  obtain ⟨rfl, hB1⟩ := hcut
  obtain ⟨w1, rfl⟩ : ∃ w1 : World, w1 = wc := ⟨_, rfl⟩
  obtain rfl := HV.out
  clear HV
  have r0 := (hB1.cell (p := ⟨w.heap.size + 1, 0, none⟩) z1).trans (HR0.out 0)
  have r1 := (hB1.cell (p := ⟨w.heap.size + 1, 1, none⟩) z1).trans (HR0.out 1)
  have r2 := (hB1.frozen (p := ⟨w.heap.size + 1, 0, none⟩) z1).trans (HRF.out 0)
  have r3 := (hB1.frozen (p := ⟨w.heap.size + 1, 1, none⟩) z1).trans (HRF.out 1)
  clear x0 x1 x2 x3 x4
  obtain ⟨x0, x1, x2, x3, x4⟩ : w1.cell? ⟨w.heap.size + 1 + 1, 0, none⟩ = some (.int .i64 f.len) ∧ w1.cell? ⟨w.heap.size + 1 + 1, 1, none⟩ = some (.int .i64 f.slack) ∧ w1.cell? ⟨w.heap.size + 1 + 1, 2, none⟩ = some (.slice sa sl sc) ∧ w1.cell? ⟨w.heap.size + 1 + 1, 3, none⟩ = some (.slice pa pl pc) ∧ w1.cell? ⟨w.heap.size + 1 + 1, 4, none⟩ = some (.slice (some ⟨cb, co, none⟩) cl cc) := ⟨(hB1.cell (p := ⟨w.heap.size + 1 + 1, 0, none⟩) z2).trans (HS0.out 0), (hB1.cell (p := ⟨w.heap.size + 1 + 1, 1, none⟩) z2).trans (HS0.out 1), (hB1.cell (p := ⟨w.heap.size + 1 + 1, 2, none⟩) z2).trans (HS0.out 2), (hB1.cell (p := ⟨w.heap.size + 1 + 1, 3, none⟩) z2).trans (HS0.out 3), (hB1.cell (p := ⟨w.heap.size + 1 + 1, 4, none⟩) z2).trans (HS0.out 4)⟩
  have f4 := (hB1.cell (p := ⟨w.heap.size, 4, none⟩) z0).trans (HA0.out 4)
  have hbw := HB0.out.trans (hB1.mono HB0.out.size)
  have c0 := (hbw.cell (p := ⟨cb, co + c, none⟩) hcB).trans hcell
  have HBW := Lib.hid hbw
  have hz1 := hB1.size
  have y0 : w.heap.size < w1.heap.size := by omega
  have y1 : w.heap.size + 1 < w1.heap.size := by omega
  have y2 : w.heap.size + 1 + 1 < w1.heap.size := by omega
  have y3 : cb < w1.heap.size := by omega
  have n0 : ¬ w.heap.size = w.heap.size + 1 := by omega
  have n2 : ¬ w.heap.size + 1 + 1 = w.heap.size + 1 := by omega
  have n3 : ¬ cb = w.heap.size + 1 := by omega
  clear hB1 hbw hcell HA0 HR0 HRF HS0 hz1
  have HGX := Lib.hid (fun W (h : Below w1.heap.size w1 W ∧ ∀ b o, b < w1.heap.size → W.cell? ⟨b, o, none⟩ = w1.cell? ⟨b, o, none⟩) => bothS1 (W0 := w1) (HG.out W (HBW.out.trans (h.1.mono HBW.out.size))) h)
  go_upto_region 5 with fail
  go_cut [8] (fun v8 wx => ∃ gb, v8 = .pointer (some ⟨gb, 0, none⟩) ∧ wx.cell? ⟨gb, 0, none⟩ = some (.int .i64 (f.roomLo xs)) ∧ wx.cell? ⟨gb, 1, none⟩ = some (.int .i64 (f.roomHi xs)) ∧ Below w1.heap.size w1 wx)
  case first =>
    go_region_held3 (fun w' => Below w1.heap.size w1 w' ∧ ∀ b o, b < w1.heap.size → w'.cell? ⟨b, o, none⟩ = w1.cell? ⟨b, o, none⟩) (first | with_reducible assumption | ((repeat (first | with_reducible refine bothS_drew ?_ | with_reducible refine bothS_alloc _ ?_ | with_reducible refine bothS_set _ _ (by first | omega | (simp; omega) | simp) ?_)); first | with_reducible assumption | with_reducible exact Hid.out (by assumption) | with_reducible exact ⟨Below.refl _ _, fun _ _ _ => rfl⟩)) (first | (go_at_call 87; with_reducible refine (HGX.out _ ?_).mono ?_; (first | with_reducible assumption | ((repeat (first | with_reducible refine bothS_drew ?_ | with_reducible refine bothS_alloc _ ?_ | with_reducible refine bothS_set _ _ (by first | omega | (simp; omega) | simp) ?_)); first | with_reducible assumption | with_reducible exact Hid.out (by assumption) | with_reducible exact ⟨Below.refl _ _, fun _ _ _ => rfl⟩)); rintro e w' ⟨rfl, k, k1, k2, k3⟩; have HK := Lib.hid k; (try simp at k3); (try have k6 := Nat.lt_of_succ_le k3); (try have k7 := Nat.lt_of_succ_lt k6); (try have k8 := Nat.lt_of_succ_lt k3)) | fail "no arm")
    all_goals (go_wp2_with fail; go_meet; exact ⟨_, rfl, by go_simp, by go_simp, And.left (by assumption)⟩)
  case rest =>
  obtain ⟨gb, rfl, g0, g1, hB2⟩ := hcut
  obtain ⟨w2, rfl⟩ : ∃ w2 : World, w2 = wc := ⟨_, rfl⟩
  have q0 := (hB2.cell (p := ⟨w.heap.size + 1, 0, none⟩) y1).trans r0
  have q1 := (hB2.cell (p := ⟨w.heap.size + 1, 1, none⟩) y1).trans r1
  have q2 := (hB2.frozen (p := ⟨w.heap.size + 1, 0, none⟩) y1).trans r2
  have q3 := (hB2.frozen (p := ⟨w.heap.size + 1, 1, none⟩) y1).trans r3
  have kz := Nat.lt_of_lt_of_le y1 hB2.size
  have HBH := Lib.hid (HBW.out.trans (hB2.mono HBW.out.size))
  clear hB2 x0 x1 x2 x3 x4 f4 c0 HGX HG
  have HPO := Lib.hid (show ∀ v : Array Value, (v = if f.roomHi xs < f.roomLo xs then #[.agg #[.int .i64 0, .int .i64 0], .int .i64 3] else #[.agg #[.int .i64 (f.roomLo xs), .int .i64 (f.roomHi xs)], .int .i64 0]) → RoomPost f xs (.returned (.tuple v)) from fun v h => by unfold RoomPost; rw [h])
  generalize f.roomLo xs = lo at *
  generalize f.roomHi xs = hi at *
  by_cases hgt : hi < lo
  · have HP1 := Lib.hid (HPO.out _ (if_pos hgt).symm)
    go_wp2_with fail
    refine bodyPost_ret (v := .tuple #[.agg #[.int .i64 0, .int .i64 0], .int .i64 3]) (by simp [results, Try.results26, go_sem, *]) rfl ⟨HP1.out, ?_⟩
    have hBB := HBH.out
    exact (by repeat (first | assumption | exact Below.refl _ _ | (refine Below.alloc ?_ (by first | omega | (simp; omega) | simp) _) | (refine Below.setCell ?_ (by first | omega | (simp; omega) | simp) _) | refine Below.drew ?_))
  · have HP1 := Lib.hid (HPO.out _ (if_neg hgt).symm)
    go_wp2_with fail
    refine bodyPost_ret (v := .tuple #[.agg #[.int .i64 lo, .int .i64 hi], .int .i64 0]) (by simp [results, Try.results26, go_sem, *]) rfl ⟨HP1.out, ?_⟩
    have hBB := HBH.out
    exact (by repeat (first | assumption | exact Below.refl _ _ | (refine Below.alloc ?_ (by first | omega | (simp; omega) | simp) _) | (refine Below.setCell ?_ (by first | omega | (simp; omega) | simp) _) | refine Below.drew ?_))
end Go.Proofs.Ytcklhojeneejiaa
