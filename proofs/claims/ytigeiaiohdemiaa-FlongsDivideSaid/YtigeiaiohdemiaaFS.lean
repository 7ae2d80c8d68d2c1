/- Package flongs: Fails, Test. -/
import Derived.Test.YtigeiaiohdemiaaFR
namespace Go.Proofs.Ytigeiaiohdemiaa
set_option linter.unusedVariables false
set_option linter.unusedSimpArgs false
open Go.RowKit


/-- In how many worlds nothing is left of a mould. -/
def tiredN (L : List (Nat → Int)) (j : Nat) : Nat := L.countP fun c => decide (c j = 0)
def tiredTo (L : List (Nat → Int)) (j k : Nat) : Nat := (L.take k).countP fun c => decide (c j = 0)
theorem tiredTo_next {L : List (Nat → Int)} {j k : Nat} (h : k < L.length) : tiredTo L j (k + 1) = tiredTo L j k + (if L[k] j = 0 then 1 else 0) := by
  unfold tiredTo
  rw [List.take_succ_eq_append_getElem h, List.countP_append]
  congr 1
  by_cases h0 : L[k] j = 0 <;> simp [h0]
theorem tiredTo_few (L : List (Nat → Int)) (j k : Nat) : tiredTo L j k ≤ L.length :=
  Nat.le_trans List.countP_le_length (by simp; omega)

set_option maxRecDepth 100000 in
set_option maxHeartbeats 2000000 in
theorem tired_any (L : List (Nat → Int)) (la : Option Addr) (ll lc : Nat) (j : Nat) (hj : j < 5) (w : World) (hL : CastsAt w la ll L) (hl6 : ll ≤ 6) :
    Calls Try.prog 84 #[.slice la ll lc, .int .i64 j] w fun e w' => e = .returned (.int .i64 (tiredN L j)) ∧ Below w.heap.size w w' := by
  obtain ⟨hll, -, hlc⟩ := hL
  have HLL := Lib.hid hll
  have HLC := Lib.hid hlc
  have HFW := Lib.hid (fun k => show tiredTo L j k ≤ 6 from Nat.le_trans (tiredTo_few L j k) (by omega))
  clear hll hlc
  have hj5 : (j : Int) < 5 := by omega
  have hj0 : (0 : Int) ≤ (j : Int) := by omega
  go_enter Try.func84, Try.ntmps84
  go_wp2_with fail
  go_loopw [5, 10] (fun v i wr => ∃ k : Nat, k ≤ ll ∧ i = .int .i64 k ∧ v = .int .i64 (tiredTo L j k) ∧ Below w.heap.size w wr) (fun _ i _ => ll - (intOf i).toNat)
  case atStart => exact ⟨0, by omega, rfl, rfl, (by repeat (first | exact Below.refl _ _ | (refine Below.alloc ?_ (by first | omega | (simp; omega) | simp) _) | (refine Below.setCell ?_ (by first | omega | (simp; omega) | simp) _) | refine Below.drew ?_))⟩
  case round =>
    obtain ⟨k, hk, rfl, rfl, hB⟩ := hrel
    have HB := Lib.hid hB
    have hfw := HFW.out k
    by_cases hlt : k < ll
    · have hk2 : k < L.length := by rw [HLL.out]; exact hlt
      obtain ⟨b, o, rfl, hbB, hcell⟩ := HLC.out (by omega)
      have hcl : ∀ t, t < 5 → wr.cell? ⟨b, o + k * 5 + t, none⟩ = some (.int .i64 (L[k] t)) := fun t ht => (hB.cell (p := ⟨b, _, none⟩) hbB).trans (hcell k hk2 t ht)
      have d0 : wr.cell? ⟨b, o + k * 5, none⟩ = some (.int .i64 (L[k] 0)) := hcl 0 (by omega)
      have d1 := hcl 1 (by omega)
      have d2 := hcl 2 (by omega)
      have d3 := hcl 3 (by omega)
      have d4 := hcl 4 (by omega)
      have hkl : (k : Int) < (ll : Int) := by omega
      have hk0 : (0 : Int) ≤ (k : Int) := by omega
      have HN := Lib.hid (tiredTo_next (j := j) hk2)
      have HBA := Lib.hid (fun m => HB.out.alloc HB.out.size m)
      generalize L[k] = c at *
      have harr := five_arr c j hj
      have hlst := five_list c j
      clear hB hcl hk2 hcell
      by_cases h0 : c j = 0
      · have HR := Lib.hid (HN.out.trans (show _ = tiredTo L j k + 1 by rw [if_pos h0]))
        clear HN
        go_wp2_with fail
        go_roundw
        case rel => exact ⟨k + 1, by omega, by go_num, by rw [HR.out]; go_num, HBA.out _⟩
        case measure => simp [intOf]; omega
      · have HR := Lib.hid (HN.out.trans (show _ = tiredTo L j k by rw [if_neg h0]; simp))
        clear HN
        go_wp2_with fail
        go_roundw
        case rel => exact ⟨k + 1, by omega, by go_num, by rw [HR.out], HBA.out _⟩
        case measure => simp [intOf]; omega
    · obtain rfl : ll = k := by omega
      have HR := Lib.hid (show tiredN L j = tiredTo L j ll by rw [tiredTo, List.take_of_length_le (by rw [HLL.out]; exact Nat.le_refl _)]; rfl)
      go_wp2_with fail
      go_ret
      exact ⟨ret_i64 (by rw [HR.out]), HB.out⟩

/-- The moulds of which more is asked than is surely left. -/
def failsTo (g : Nat → Int) (x : List Int) (k : Nat) : List Int := ((List.range k).filter fun i => decide (g i < x[i]?.getD 0)).map fun (i : Nat) => (i : Int)
def failsOf (g : Nat → Int) (x : List Int) : List Int := failsTo g x x.length
theorem failsTo_next {g : Nat → Int} {x : List Int} {k : Nat} (h : k < x.length) : failsTo g x (k + 1) = failsTo g x k ++ (if g k < x[k] then [(k : Int)] else []) := by
  unfold failsTo
  rw [List.range_succ, List.filter_append, List.map_append]
  congr 1
  by_cases hb : g k < x[k] <;> simp [h, hb]
theorem failsTo_len (g : Nat → Int) (x : List Int) (k : Nat) : (failsTo g x k).length ≤ k := by
  unfold failsTo
  rw [List.length_map]
  exact Nat.le_trans (List.length_filter_le _ _) (by simp)

set_option maxRecDepth 100000 in
set_option maxHeartbeats 4000000 in
theorem Fails_no (s : FShop) (ma : Option Addr) (ml mc : Nat) (wa : Option Addr) (wl wc : Nat) (na : Option Addr) (nl nc : Nat) (xa : Option Addr) (xl xc : Nat) (x : List Int) (v : Int) (hv : s.ask (sharesB s.moulds x) = v) (h0 : v ≠ 0) (w : World) (hp : FAt w ma ml mc wa wl wc na nl nc s) (hx : IntsAt w xa xl x) :
    Calls Try.prog 25 #[.agg #[.slice ma ml mc, .slice wa wl wc, .slice na nl nc, .int .i64 s.fresh], .slice xa xl xc] w fun e w' => e = .returned (.tuple #[.slice none 0 0, .int .i64 v]) ∧ Below w.heap.size w w' := by
  have HA := Lib.hid (fun W (hb : Below w.heap.size w W) => asked_no s ma ml mc wa wl wc na nl nc _ v hv h0 W (hp.below hb))
  have HH := Lib.hid (fun W (hb : Below w.heap.size w W) => isShares_is s ma ml mc wa wl wc na nl nc xa xl xc x _ rfl W (hp.below hb).1 (hx.below hb))
  have e2 : (v != 0) = true := by simpa using h0
  clear hp hv hx
  generalize sharesB s.moulds x = r at *
  go_enter Try.func25, Try.ntmps25
  go_wp2_with fail
  obtain ⟨W0, hW0, hB0, ha0, hs0, hz0⟩ := name2c w #[.slice ma ml mc, .slice wa wl wc, .slice na nl nc, .int .i64 s.fresh] 26 #[.slice ma ml mc, .slice wa wl wc, .slice na nl nc, .int .i64 s.fresh] 77
  rw [hW0]
  clear hW0
  have HHX := Lib.hid (fun W (h : Below W0.heap.size W0 W ∧ ∀ b o, b < W0.heap.size → W.cell? ⟨b, o, none⟩ = W0.cell? ⟨b, o, none⟩) => bothS1 (W0 := W0) (HH.out W (hB0.trans (h.1.mono hB0.size))) h)
  have HAN := Lib.hid (fun W (h : Below W0.heap.size W0 W ∧ ∀ b o, b < W0.heap.size → W.cell? ⟨b, o, none⟩ = W0.cell? ⟨b, o, none⟩) => bothS1 (W0 := W0) (HA.out W (hB0.trans (h.1.mono hB0.size))) h)
  obtain ⟨x0, x1, x2, x3⟩ : W0.cell? ⟨w.heap.size + 1, 0, none⟩ = some (.slice ma ml mc) ∧ W0.cell? ⟨w.heap.size + 1, 1, none⟩ = some (.slice wa wl wc) ∧ W0.cell? ⟨w.heap.size + 1, 2, none⟩ = some (.slice na nl nc) ∧ W0.cell? ⟨w.heap.size + 1, 3, none⟩ = some (.int .i64 s.fresh) := ⟨hs0 0, hs0 1, hs0 2, hs0 3⟩
  have z1 : w.heap.size + 1 < W0.heap.size := by omega
  have HB0 := Lib.hid hB0
  clear hB0 ha0 hs0 hz0
  go_upto_region 2 with fail
  go_cut [7, 8] (fun v7 v8 wx => v7 = .slice none 0 0 ∧ v8 = .int .i64 v ∧ Below W0.heap.size W0 wx)
  case first =>
    go_region_held3 (fun w' => Below W0.heap.size W0 w' ∧ ∀ b o, b < W0.heap.size → w'.cell? ⟨b, o, none⟩ = W0.cell? ⟨b, o, none⟩) (first | with_reducible assumption | ((repeat (first | with_reducible refine bothS_drew ?_ | with_reducible refine bothS_alloc _ ?_ | with_reducible refine bothS_set _ _ (by first | omega | (simp; omega) | simp) ?_)); first | with_reducible assumption | with_reducible exact Hid.out (by assumption) | with_reducible exact ⟨Below.refl _ _, fun _ _ _ => rfl⟩)) (first | (go_at_call 80; with_reducible refine (HHX.out _ ?_).mono ?_; (first | with_reducible assumption | ((repeat (first | with_reducible refine bothS_drew ?_ | with_reducible refine bothS_alloc _ ?_ | with_reducible refine bothS_set _ _ (by first | omega | (simp; omega) | simp) ?_)); first | with_reducible assumption | with_reducible exact Hid.out (by assumption) | with_reducible exact ⟨Below.refl _ _, fun _ _ _ => rfl⟩)); rintro e w' ⟨rfl, k, k1, k2, k3⟩; have HK := Lib.hid k; (try simp at k3); (try have k6 := Nat.lt_of_succ_le k3); (try have k7 := Nat.lt_of_succ_lt k6); (try have k8 := Nat.lt_of_succ_lt k3)) | (go_at_call 91; with_reducible refine (HHX.out _ ?_).mono ?_; (first | with_reducible assumption | ((repeat (first | with_reducible refine bothS_drew ?_ | with_reducible refine bothS_alloc _ ?_ | with_reducible refine bothS_set _ _ (by first | omega | (simp; omega) | simp) ?_)); first | with_reducible assumption | with_reducible exact Hid.out (by assumption) | with_reducible exact ⟨Below.refl _ _, fun _ _ _ => rfl⟩)); rintro e w' ⟨rfl, k, k1, k2, k3⟩; have HK := Lib.hid k; (try simp at k3); (try have k6 := Nat.lt_of_succ_le k3); (try have k7 := Nat.lt_of_succ_lt k6); (try have k8 := Nat.lt_of_succ_lt k3)) | (go_at_call 73; with_reducible refine (HHX.out _ ?_).mono ?_; (first | with_reducible assumption | ((repeat (first | with_reducible refine bothS_drew ?_ | with_reducible refine bothS_alloc _ ?_ | with_reducible refine bothS_set _ _ (by first | omega | (simp; omega) | simp) ?_)); first | with_reducible assumption | with_reducible exact Hid.out (by assumption) | with_reducible exact ⟨Below.refl _ _, fun _ _ _ => rfl⟩)); rintro e w' ⟨rfl, k, k1, k2, k3⟩; have HK := Lib.hid k; (try simp at k3); (try have k6 := Nat.lt_of_succ_le k3); (try have k7 := Nat.lt_of_succ_lt k6); (try have k8 := Nat.lt_of_succ_lt k3)) | (go_at_call 72; with_reducible refine (HAN.out _ ?_).mono ?_; (first | with_reducible assumption | ((repeat (first | with_reducible refine bothS_drew ?_ | with_reducible refine bothS_alloc _ ?_ | with_reducible refine bothS_set _ _ (by first | omega | (simp; omega) | simp) ?_)); first | with_reducible assumption | with_reducible exact Hid.out (by assumption) | with_reducible exact ⟨Below.refl _ _, fun _ _ _ => rfl⟩)); rintro e w' ⟨rfl, k, k1, k2, k3⟩; have HK := Lib.hid k; (try simp at k3); (try have k6 := Nat.lt_of_succ_le k3); (try have k7 := Nat.lt_of_succ_lt k6); (try have k8 := Nat.lt_of_succ_lt k3)) | fail "no arm")
    all_goals (go_wp2_with fail; go_meet; exact ⟨rfl, rfl, And.left (by assumption)⟩)
  case rest =>
  obtain ⟨rfl, rfl, hB1⟩ := hcut
  obtain ⟨w1, rfl⟩ : ∃ w1 : World, w1 = wc := ⟨_, rfl⟩
  have HBW := Lib.hid (HB0.out.trans (hB1.mono HB0.out.size))
  clear hB1
  go_wp2_with fail
  go_ret2
  exact ⟨rfl, HBW.out⟩

set_option maxRecDepth 100000 in
set_option maxHeartbeats 4000000 in
theorem Fails_yes (s : FShop) (ma : Option Addr) (ml mc : Nat) (wa : Option Addr) (wl wc : Nat) (na : Option Addr) (nl nc : Nat) (xa : Option Addr) (xl xc : Nat) (x : List Int) (w : World) (hp : FAt w ma ml mc wa wl wc na nl nc s) (hx : IntsAt w xa xl x) (ho : s.ok = true) (hsh : sharesB s.moulds x = true) (hl0 : 0 < s.left.length) :
    Calls Try.prog 25 #[.agg #[.slice ma ml mc, .slice wa wl wc, .slice na nl nc, .int .i64 s.fresh], .slice xa xl xc] w fun e w' => OutPost (failsOf (loOf s.left) x) w e w' := by
  have hx5 : xl ≤ 5 := by have := shares_len ho hsh; have := hx.1; omega
  have HH := Lib.hid (fun W (hb : Below w.heap.size w W) => isShares_is s ma ml mc wa wl wc na nl nc xa xl xc x _ hsh W (hp.below hb).1 (hx.below hb))
  have HA := Lib.hid (fun W (hb : Below w.heap.size w W) => asked_read s ma ml mc wa wl wc na nl nc W (hp.below hb) ho hl0)
  have HNX := Lib.hid (fun k hk => failsTo_next (g := loOf s.left) (x := x) (k := k) hk)
  have HLE := Lib.hid (fun k => failsTo_len (loOf s.left) x k)
  obtain ⟨hxl, -, hxc⟩ := hx
  have HXL := Lib.hid hxl
  have HXC := Lib.hid hxc
  clear hp hxl hxc ho hsh
  unfold OutPost
  go_enter Try.func25, Try.ntmps25
  go_wp2_with fail
  obtain ⟨W0, hW0, hB0, ha0, hs0, hz0⟩ := name2c w #[.slice ma ml mc, .slice wa wl wc, .slice na nl nc, .int .i64 s.fresh] 26 #[.slice ma ml mc, .slice wa wl wc, .slice na nl nc, .int .i64 s.fresh] 77
  rw [hW0]
  clear hW0
  have HHX := Lib.hid (fun W (h : Below W0.heap.size W0 W ∧ ∀ b o, b < W0.heap.size → W.cell? ⟨b, o, none⟩ = W0.cell? ⟨b, o, none⟩) => bothS1 (W0 := W0) (HH.out W (hB0.trans (h.1.mono hB0.size))) h)
  have HAY := Lib.hid (fun W (h : Below W0.heap.size W0 W ∧ ∀ b o, b < W0.heap.size → W.cell? ⟨b, o, none⟩ = W0.cell? ⟨b, o, none⟩) => bothM2 (W0 := W0) (HA.out W (hB0.trans (h.1.mono hB0.size))) h)
  obtain ⟨x0, x1, x2, x3⟩ : W0.cell? ⟨w.heap.size + 1, 0, none⟩ = some (.slice ma ml mc) ∧ W0.cell? ⟨w.heap.size + 1, 1, none⟩ = some (.slice wa wl wc) ∧ W0.cell? ⟨w.heap.size + 1, 2, none⟩ = some (.slice na nl nc) ∧ W0.cell? ⟨w.heap.size + 1, 3, none⟩ = some (.int .i64 s.fresh) := ⟨hs0 0, hs0 1, hs0 2, hs0 3⟩
  have z1 : w.heap.size + 1 < W0.heap.size := by omega
  have HB0 := Lib.hid hB0
  clear hB0 ha0 hs0 hz0
  go_upto_region 2 with fail
  go_cut [7, 8] (fun v7 v8 wx => ∃ la lc, v7 = .slice la s.left.length lc ∧ v8 = .int .i64 0 ∧ CastsAt wx la s.left.length s.left ∧ Below W0.heap.size W0 wx)
  case first =>
    go_region_held3 (fun w' => Below W0.heap.size W0 w' ∧ ∀ b o, b < W0.heap.size → w'.cell? ⟨b, o, none⟩ = W0.cell? ⟨b, o, none⟩) (first | with_reducible assumption | ((repeat (first | with_reducible refine bothS_drew ?_ | with_reducible refine bothS_alloc _ ?_ | with_reducible refine bothS_set _ _ (by first | omega | (simp; omega) | simp) ?_)); first | with_reducible assumption | with_reducible exact Hid.out (by assumption) | with_reducible exact ⟨Below.refl _ _, fun _ _ _ => rfl⟩)) (first | (go_at_call 80; with_reducible refine (HHX.out _ ?_).mono ?_; (first | with_reducible assumption | ((repeat (first | with_reducible refine bothS_drew ?_ | with_reducible refine bothS_alloc _ ?_ | with_reducible refine bothS_set _ _ (by first | omega | (simp; omega) | simp) ?_)); first | with_reducible assumption | with_reducible exact Hid.out (by assumption) | with_reducible exact ⟨Below.refl _ _, fun _ _ _ => rfl⟩)); rintro e w' ⟨rfl, k, k1, k2, k3⟩; have HK := Lib.hid k; (try simp at k3); (try have k6 := Nat.lt_of_succ_le k3); (try have k7 := Nat.lt_of_succ_lt k6); (try have k8 := Nat.lt_of_succ_lt k3)) | (go_at_call 91; with_reducible refine (HHX.out _ ?_).mono ?_; (first | with_reducible assumption | ((repeat (first | with_reducible refine bothS_drew ?_ | with_reducible refine bothS_alloc _ ?_ | with_reducible refine bothS_set _ _ (by first | omega | (simp; omega) | simp) ?_)); first | with_reducible assumption | with_reducible exact Hid.out (by assumption) | with_reducible exact ⟨Below.refl _ _, fun _ _ _ => rfl⟩)); rintro e w' ⟨rfl, k, k1, k2, k3⟩; have HK := Lib.hid k; (try simp at k3); (try have k6 := Nat.lt_of_succ_le k3); (try have k7 := Nat.lt_of_succ_lt k6); (try have k8 := Nat.lt_of_succ_lt k3)) | (go_at_call 73; with_reducible refine (HHX.out _ ?_).mono ?_; (first | with_reducible assumption | ((repeat (first | with_reducible refine bothS_drew ?_ | with_reducible refine bothS_alloc _ ?_ | with_reducible refine bothS_set _ _ (by first | omega | (simp; omega) | simp) ?_)); first | with_reducible assumption | with_reducible exact Hid.out (by assumption) | with_reducible exact ⟨Below.refl _ _, fun _ _ _ => rfl⟩)); rintro e w' ⟨rfl, k, k1, k2, k3⟩; have HK := Lib.hid k; (try simp at k3); (try have k6 := Nat.lt_of_succ_le k3); (try have k7 := Nat.lt_of_succ_lt k6); (try have k8 := Nat.lt_of_succ_lt k3)) | (go_at_call 72; with_reducible refine (HAY.out _ ?_).mono ?_; (first | with_reducible assumption | ((repeat (first | with_reducible refine bothS_drew ?_ | with_reducible refine bothS_alloc _ ?_ | with_reducible refine bothS_set _ _ (by first | omega | (simp; omega) | simp) ?_)); first | with_reducible assumption | with_reducible exact Hid.out (by assumption) | with_reducible exact ⟨Below.refl _ _, fun _ _ _ => rfl⟩)); rintro e w' ⟨⟨la, lc, rfl, hCC⟩, k, k1, k2, k3⟩; have HK := Lib.hid k; have HCC := Lib.hid hCC; clear hCC) | fail "no arm")
    all_goals (go_wp2_with fail; go_meet; exact ⟨_, _, rfl, rfl, HCC.out, And.left (by assumption)⟩)
  case rest =>
  obtain ⟨la, lc, rfl, rfl, hC1, hB1⟩ := hcut
  obtain ⟨w1, rfl⟩ : ∃ w1 : World, w1 = wc := ⟨_, rfl⟩
  have hB1w := HB0.out.trans (hB1.mono HB0.out.size)
  have HS := Lib.hid (surely_is s.left la s.left.length lc w1 hC1 hl0)
  have HBW := Lib.hid hB1w
  clear hB1 hC1 x0 x1 x2 x3 hB1w
  go_wp2_with fail
  refine HS.out.mono ?_
  rintro e w2 ⟨rfl, hb2⟩
  have HW2 := Lib.hid (HBW.out.trans (hb2.mono HBW.out.size))
  clear hb2
  go_wp2_with fail
  obtain ⟨W3, hW3, hB3, hg3, hz3⟩ := name1k w2 #[.int .i64 (loOf s.left 0), .int .i64 (loOf s.left 1), .int .i64 (loOf s.left 2), .int .i64 (loOf s.left 3), .int .i64 (loOf s.left 4)] 85
  rw [hW3]
  clear hW3
  have HB3 := Lib.hid (HW2.out.trans (hB3.mono HW2.out.size))
  have HG3 := Lib.hid (fun t (ht : t < 5) => (hg3 t).trans (five_arr (loOf s.left) t ht))
  clear hB3 hg3
  go_loopw [10, 30] (fun v i wr => ∃ k : Nat, k ≤ xl ∧ i = .int .i64 k ∧ wr.ownsRow W3.heap.size 3 1 v (failsTo (loOf s.left) x k).length ((failsTo (loOf s.left) x k).map (Value.int .i64)) ∧ Below W3.heap.size W3 wr) (fun _ i _ => xl - (intOf i).toNat)
  case atStart => exact ⟨0, by omega, rfl, World.ownsRow_nil _ _ _ _, Below.refl _ _⟩
  case round =>
    obtain ⟨k, hk, rfl, hrow, hB⟩ := hrel
    have HROW := Lib.hid hrow
    have HB := Lib.hid hB
    clear hrow
    obtain ⟨W1, rfl⟩ : ∃ W1 : World, W1 = wr := ⟨_, rfl⟩
    by_cases hlt : k < xl
    · have hk2 : k < x.length := by rw [HXL.out]; exact hlt
      obtain ⟨b, o, rfl, hbB, hcell⟩ := HXC.out (by omega)
      have hcx := (hB.cell (p := ⟨b, o + k, none⟩) (show b < W3.heap.size by have := HB3.out.size; omega)).trans ((HB3.out.cell (p := ⟨b, o + k, none⟩) hbB).trans (hcell k hk2))
      have hcg := (hB.cell (p := ⟨w2.heap.size, k, none⟩) hz3).trans (HG3.out k (by omega))
      have hkl : (k : Int) < (xl : Int) := by omega
      have hk0 : (0 : Int) ≤ (k : Int) := by omega
      have hk5 : (k : Int) < 5 := by omega
      have HNX1 := Lib.hid (HNX.out k hk2)
      have hlen : (failsTo (loOf s.left) x k).length ≤ 5 := by have := HLE.out k; omega
      have hzr := hB.size
      clear hB hcell
      generalize hgk : loOf s.left k = gk at *
      generalize hxk : x[k] = xk at *
      by_cases h1 : gk < xk
      · have HN := Lib.hid (HNX1.out.trans (show _ = failsTo (loOf s.left) x k ++ [(k : Int)] by rw [if_pos h1]))
        go_wp2_with (at_builtin; refine wpList_append_one _ W3.heap.size _ W1.heap.size _ _ (k : Int) rfl _ _ rfl rfl rfl (HROW.out.alloc _) (by go_simp) (by omega) (by simp; omega) ?_; intro v' w5 hown' hgrow; have HO5 := Lib.hid hown'; have HG5 := Lib.hid hgrow; clear hown' hgrow)
        go_roundw
        case rel =>
          refine ⟨k + 1, by omega, by go_num, by rw [HN.out]; simpa using HO5.out, ?_⟩
          refine Below.grown (HB.out.alloc HB.out.size _) HG5.out (by simp; omega) (fun r hr => ?_)
          rcases Nat.lt_or_ge r W3.heap.size with h | h
          · exact absurd hr (own_ge HROW.out h)
          · exact h
        case measure => simp [intOf]; omega
      · have HN := Lib.hid (HNX1.out.trans (show _ = failsTo (loOf s.left) x k by rw [if_neg h1]; simp))
        go_wp2_with fail
        go_roundw
        case rel => exact ⟨k + 1, by omega, by go_num, by rw [HN.out]; exact HROW.out, HB.out⟩
        case measure => simp [intOf]; omega
    · obtain rfl : xl = k := by omega
      have HBX := Lib.hid (HB3.out.trans (HB.out.mono HB3.out.size))
      have hlen : (failsTo (loOf s.left) x xl).length ≤ 5 := by have := HLE.out xl; omega
      obtain ⟨lb, ld, rfl⟩ := own_slice HROW.out
      have HR := Lib.hid (show failsOf (loOf s.left) x = failsTo (loOf s.left) x xl by rw [failsOf, HXL.out])
      clear hB
      go_wp2_with fail
      go_ret2
      exact ⟨lb, ld, by rw [HR.out]; rfl, by rw [HR.out]; exact ints_own HROW.out (by unfold maxLen; omega), HBX.out⟩

/-- The best mould of the first so many, and the worst that it shows. -/
def worstOf (L : List (Nat → Int)) (j : Nat) : Nat := max (tiredN L j) (L.length - tiredN L j)
def testTo (L : List (Nat → Int)) (k : Nat) : Nat × Nat := (List.range k).foldl (fun q j => if worstOf L j < q.2 then (j, worstOf L j) else q) (0, L.length)
theorem testTo_next (L : List (Nat → Int)) (k : Nat) : testTo L (k + 1) = if worstOf L k < (testTo L k).2 then (k, worstOf L k) else testTo L k := by
  unfold testTo; rw [List.range_succ, List.foldl_append]; rfl
theorem testTo_bd (L : List (Nat → Int)) : ∀ k, (testTo L k).1 ≤ k ∧ (testTo L k).2 ≤ L.length
  | 0 => by simp [testTo]
  | k + 1 => by
    have h := testTo_bd L k
    rw [testTo_next]
    split
    · simp only; omega
    · omega
def FShop.test (s : FShop) : Nat × Nat := testTo s.left s.moulds.length
def testRet (q : Nat × Nat) (n : Nat) : Value := if q.2 = n then .tuple #[.int .i64 0, .int .i64 3] else .tuple #[.int .i64 (q.1 : Nat), .int .i64 0]

set_option maxRecDepth 100000 in
set_option maxHeartbeats 4000000 in
theorem Test_no (s : FShop) (ma : Option Addr) (ml mc : Nat) (wa : Option Addr) (wl wc : Nat) (na : Option Addr) (nl nc : Nat) (v : Int) (hv : s.ask true = v) (h0 : v ≠ 0) (w : World) (hp : FAt w ma ml mc wa wl wc na nl nc s) :
    Calls Try.prog 46 #[.agg #[.slice ma ml mc, .slice wa wl wc, .slice na nl nc, .int .i64 s.fresh]] w fun e w' => e = .returned (.tuple #[.int .i64 0, .int .i64 v]) ∧ Below w.heap.size w w' := by
  have HA := Lib.hid (fun W (hb : Below w.heap.size w W) => asked_no s ma ml mc wa wl wc na nl nc _ v hv h0 W (hp.below hb))
  have e1 : (v == 0) = false := by simpa using h0
  have e2 : (v != 0) = true := by simpa using h0
  clear hp hv
  go_enter Try.func46, Try.ntmps46
  go_wp2_with fail
  refine (HA.out _ (by repeat (first | exact Below.refl _ _ | (refine Below.alloc ?_ (by first | omega | (simp; omega) | simp) _) | (refine Below.setCell ?_ (by first | omega | (simp; omega) | simp) _) | refine Below.drew ?_))).mono ?_
  rintro e w1 ⟨rfl, hb1⟩
  have hw1 := ((by repeat (first | exact Below.refl _ _ | (refine Below.alloc ?_ (by first | omega | (simp; omega) | simp) _) | (refine Below.setCell ?_ (by first | omega | (simp; omega) | simp) _) | refine Below.drew ?_)) : Below w.heap.size w _).trans (hb1.mono (by first | (simp; done) | (simp; omega) | omega))
  clear hb1
  go_wp2_with fail
  go_ret2
  exact ⟨rfl, hw1⟩

set_option maxRecDepth 100000 in
set_option maxHeartbeats 4000000 in
theorem Test_yes (s : FShop) (ma : Option Addr) (ml mc : Nat) (wa : Option Addr) (wl wc : Nat) (na : Option Addr) (nl nc : Nat) (w : World) (hp : FAt w ma ml mc wa wl wc na nl nc s) (ho : s.ok = true) (hl0 : 0 < s.left.length) :
    Calls Try.prog 46 #[.agg #[.slice ma ml mc, .slice wa wl wc, .slice na nl nc, .int .i64 s.fresh]] w fun e w' => e = .returned (testRet s.test s.left.length) ∧ Below w.heap.size w w' := by
  have hm5 : ml ≤ 5 := by have := (FShop.ok_few ho).2.1; have := hp.1.1; omega
  have hl6 := left_few ho
  have HA := Lib.hid (fun W (hb : Below w.heap.size w W) => asked_read s ma ml mc wa wl wc na nl nc W (hp.below hb) ho hl0)
  have HTB := Lib.hid (fun k => testTo_bd s.left k)
  have HTN := Lib.hid (fun k => testTo_next s.left k)
  have HTI := Lib.hid (fun j => show tiredN s.left j ≤ s.left.length from List.countP_le_length)
  have HML := Lib.hid hp.1.1
  clear hp ho
  go_enter Try.func46, Try.ntmps46
  go_wp2_with fail
  refine (HA.out _ (by repeat (first | exact Below.refl _ _ | (refine Below.alloc ?_ (by first | omega | (simp; omega) | simp) _) | (refine Below.setCell ?_ (by first | omega | (simp; omega) | simp) _) | refine Below.drew ?_))).mono ?_
  rintro e w1 ⟨⟨la, lc, rfl, hC1⟩, hb1⟩
  obtain ⟨hc1, hf1'⟩ := bcell hb1
  have hz1 := hb1.size
  simp at hz1
  have HW1 := Lib.hid (((by repeat (first | exact Below.refl _ _ | (refine Below.alloc ?_ (by first | omega | (simp; omega) | simp) _) | (refine Below.setCell ?_ (by first | omega | (simp; omega) | simp) _) | refine Below.drew ?_)) : Below w.heap.size w _).trans (hb1.mono (by first | (simp; done) | (simp; omega) | omega)))
  have HTD := Lib.hid (fun W (j : Nat) (hj : j < 5) (hb : Below w1.heap.size w1 W) => tired_any s.left la s.left.length lc j hj W (hC1.below hb) hl6)
  have x0 : w1.cell? ⟨w.heap.size, 0, none⟩ = some (.slice ma ml mc) := (hc1 _ _ (by simp; omega)).trans (by go_simp)
  have q1 : w.heap.size < w1.heap.size := by omega
  clear hb1 hC1 hc1 hf1'
  go_wp2_with fail
  go_loopw [7, 8, 27] (fun v7 v8 i wr => ∃ k : Nat, k ≤ ml ∧ i = .int .i64 k ∧ v7 = .int .i64 ((testTo s.left k).1 : Nat) ∧ v8 = .int .i64 ((testTo s.left k).2 : Nat) ∧ Below w1.heap.size w1 wr) (fun _ _ i _ => ml - (intOf i).toNat)
  case atStart => exact ⟨0, by omega, rfl, rfl, rfl, Below.refl _ _⟩
  case round =>
    obtain ⟨k, hk, rfl, rfl, rfl, hB⟩ := hrel
    have HB := Lib.hid hB
    by_cases hlt : k < ml
    · have hkl : (k : Int) < (ml : Int) := by omega
      have hk0 : (0 : Int) ≤ (k : Int) := by omega
      have HT := Lib.hid (HTD.out wr k (by omega) hB)
      have HN := Lib.hid (HTN.out k)
      have htb := HTB.out k
      have hti := HTI.out k
      have HWO := Lib.hid (show worstOf s.left k = max (tiredN s.left k) (s.left.length - tiredN s.left k) from rfl)
      clear hB x0
      generalize hq : testTo s.left k = qq at *
      obtain ⟨bb, mm⟩ := qq
      simp only at htb
      generalize htt : tiredN s.left k = tt at *
      generalize s.left.length = nn at *
      obtain ⟨wv, hwv⟩ : ∃ wv, max tt (nn - tt) = wv := ⟨_, rfl⟩
      have HWV := Lib.hid (HWO.out.trans hwv)
      by_cases hlt2 : wv < mm
      · have HN' := Lib.hid (show testTo s.left (k + 1) = (k, wv) by rw [HN.out, HWV.out, if_pos hlt2])
        go_wp2_with fail
        refine HT.out.mono ?_
        rintro e w2 ⟨rfl, hb2⟩
        have HB2 := Lib.hid (HB.out.trans (hb2.mono HB.out.size))
        clear hb2
        go_wp2_with fail
        go_roundw
        case rel => exact ⟨k + 1, by omega, by go_num, by rw [HN'.out], by rw [HN'.out]; first | rfl | (congr 1; omega), HB2.out⟩
        case measure => simp [intOf]; omega
      · have HN' := Lib.hid (show testTo s.left (k + 1) = (bb, mm) by rw [HN.out, HWV.out, if_neg hlt2])
        go_wp2_with fail
        refine HT.out.mono ?_
        rintro e w2 ⟨rfl, hb2⟩
        have HB2 := Lib.hid (HB.out.trans (hb2.mono HB.out.size))
        clear hb2
        go_wp2_with fail
        go_roundw
        case rel => exact ⟨k + 1, by omega, by go_num, by rw [HN'.out], by rw [HN'.out], HB2.out⟩
        case measure => simp [intOf]; omega
    · obtain rfl : ml = k := by omega
      have HR := Lib.hid (show s.test = testTo s.left ml by rw [FShop.test, HML.out])
      have HBW := Lib.hid (HW1.out.trans (HB.out.mono HW1.out.size))
      clear hB
      generalize hq : testTo s.left ml = qq at *
      obtain ⟨bb, mm⟩ := qq
      by_cases h2 : mm = s.left.length
      · have h2' : (mm : Int) = (s.left.length : Int) := by omega
        go_wp2_with fail
        go_ret2
        exact ⟨by rw [HR.out, testRet, if_pos h2]; rfl, HBW.out⟩
      · have h2' : ¬ (mm : Int) = (s.left.length : Int) := by omega
        go_wp2_with fail
        go_ret2
        exact ⟨by rw [HR.out, testRet, if_neg h2]; rfl, HBW.out⟩
end Go.Proofs.Ytigeiaiohdemiaa
