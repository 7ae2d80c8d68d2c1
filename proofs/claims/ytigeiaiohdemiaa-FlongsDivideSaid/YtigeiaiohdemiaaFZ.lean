/- The law of the chance: helpers, mathematics. -/
import Derived.Test.YtigeiaiohdemiaaFY
namespace Go.Proofs.Ytigeiaiohdemiaa
set_option linter.unusedVariables false
set_option linter.unusedSimpArgs false
open Go.RowKit

/-- A fraction in lowest terms. -/
theorem Reduced_any (a b : Nat) (ha6 : a ≤ 6) (hb0 : 0 < b) (hb6 : b ≤ 6) (w : World) :
    Calls Try.prog 83 #[.int .i64 a, .int .i64 b] w fun e w' => e = .returned (.agg #[.int .i64 ((a / Nat.gcd a b : Nat) : Int), .int .i64 ((b / Nat.gcd a b : Nat) : Int)]) ∧ Below w.heap.size w w' := by
  have hmx : max (a : Int) (-(a : Int)) = (a : Int) := by omega
  have hwr : IntKind.i64.wrap (-(a : Int)) = -(a : Int) := IntWalk.i64_in _ ⟨by omega, by omega⟩
  have hge : -(a : Int) ≤ (a : Int) := by omega
  go_enter Try.func83, Try.ntmps83
  go_wp2_with fail
  go_loopw [5, 6] (fun v5 v6 wr => ∃ u v : Nat, v5 = .int .i64 u ∧ v6 = .int .i64 v ∧ Nat.gcd u v = Nat.gcd a b ∧ u ≤ 6 ∧ v ≤ 6 ∧ (0 < u ∨ 0 < v) ∧ wr.cell? ⟨w.heap.size, 0, none⟩ = some (.int .i64 0) ∧ wr.cell? ⟨w.heap.size, 1, none⟩ = some (.int .i64 0) ∧ wr.frozen? ⟨w.heap.size, 0, none⟩ = false ∧ wr.frozen? ⟨w.heap.size, 1, none⟩ = false ∧ w.heap.size < wr.heap.size ∧ Below w.heap.size w wr) (fun _ i _ => (intOf i).toNat)
  case atStart => exact ⟨a, b, by first | rfl | (congr 1), rfl, rfl, ha6, hb6, .inr hb0, by go_simp, by go_simp, by go_simp, by go_simp, by simp, (by repeat (first | exact Below.refl _ _ | (refine Below.alloc ?_ (by first | omega | (simp; omega) | simp) _) | (refine Below.setCell ?_ (by first | omega | (simp; omega) | simp) _) | refine Below.drew ?_))⟩
  case round =>
    obtain ⟨u, v, rfl, rfl, hgcd, hu6, hv6, hu0, r0, r1, r2, r3, hzr, hB⟩ := hrel
    have HB := Lib.hid hB
    have HGC := Lib.hid hgcd
    clear hB hgcd
    by_cases hv : 0 < v
    · have hv' : (0 : Int) < (v : Int) := by omega
      have hvn : ¬ (v : Int) = 0 := by omega
      have hmod : ((u : Int) % (v : Int)) = ((u % v : Nat) : Int) := by simp
      have hlt := Nat.mod_lt u hv
      clear hu0
      go_wp2_with fail
      go_region
      go_wp2_with fail
      go_roundw
      case rel => exact ⟨v, u % v, rfl, by rw [hmod], by rw [Nat.gcd_comm, ← Nat.gcd_rec, Nat.gcd_comm]; exact HGC.out, hv6, by omega, .inl hv, r0, r1, r2, r3, hzr, HB.out.drew⟩
      case measure => rw [hmod]; simp [intOf]; omega
    · obtain rfl : v = 0 := by omega
      have HU := Lib.hid (show u = Nat.gcd a b by rw [← HGC.out, Nat.gcd_zero_right])
      have hu0' : 0 < u := by omega
      clear hu0
      have hun : ¬ (u : Int) = 0 := by omega
      have hu1 : (1 : Int) ≤ (u : Int) := by omega
      have e1 : 0 ≤ (a : Int) / (u : Int) := Int.ediv_nonneg (by omega) (by omega)
      have e2 : (a : Int) / (u : Int) ≤ 6 := Int.le_trans (Int.ediv_le_self _ (by omega)) (by omega)
      have e3 : 0 ≤ (b : Int) / (u : Int) := Int.ediv_nonneg (by omega) (by omega)
      have e4 : (b : Int) / (u : Int) ≤ 6 := Int.le_trans (Int.ediv_le_self _ (by omega)) (by omega)
      go_wp2_with fail
      go_region
      go_wp2_with fail
      refine bodyPost_ret (v := .agg #[.int .i64 ((a : Int) / (u : Int)), .int .i64 ((b : Int) / (u : Int))]) (by simp [results, Try.results83, go_sem, *]) rfl ⟨by rw [← HU.out]; simp, ?_⟩
      have hBB := HB.out
      exact (by repeat (first | assumption | exact Below.refl _ _ | (refine Below.alloc ?_ (by first | omega | (simp; omega) | simp) _) | (refine Below.setCell ?_ (by first | omega | (simp; omega) | simp) _) | refine Below.drew ?_))

theorem Within_below (n lo hi : Int) (b : Bool) (h : btw n lo hi = b) (w : World) : Calls Try.prog 27 #[.int .i64 n, .int .i64 lo, .int .i64 hi] w fun e w' => e = .returned (.bool b) ∧ Below w.heap.size w w' :=
  (Within_any n lo hi w).mono fun e w' ⟨he, hw⟩ => ⟨by rw [he, h], hw ▸ Below.refl _ _⟩
set_option maxRecDepth 100000 in
set_option maxHeartbeats 4000000 in
theorem isPart_yes (p q : Nat) (hq0 : 0 < q) (hq6 : q ≤ 6) (hpq : p ≤ q) (hg : Nat.gcd p q = 1) (w : World) :
    Calls Try.prog 45 #[.agg #[.int .i64 p, .int .i64 q]] w fun e w' => e = .returned (.bool true) ∧ Below w.heap.size w w' := by
  have H1 := Lib.hid (fun W => Within_below q 1 6 true (by simp [btw]; omega) W)
  have H2 := Lib.hid (fun W => Within_below p 0 q true (by simp [btw]; omega) W)
  have H3 := Lib.hid (fun W => show Calls Try.prog 83 #[.int .i64 p, .int .i64 q] W fun e w' => e = .returned (.agg #[.int .i64 p, .int .i64 q]) ∧ Below W.heap.size W w' from by
    have h := Reduced_any p q (by omega) hq0 hq6 W
    rw [hg, Nat.div_one, Nat.div_one] at h
    exact h)
  go_enter Try.func45, Try.ntmps45
  go_wp2_with fail
  obtain ⟨W0, hW0, hB0, hs0, hz0⟩ := name1k w #[.int .i64 p, .int .i64 q] 62
  rw [hW0]
  clear hW0
  have HX1 := Lib.hid (fun W (h : Below W0.heap.size W0 W ∧ ∀ b o, b < W0.heap.size → W.cell? ⟨b, o, none⟩ = W0.cell? ⟨b, o, none⟩) => bothS1 (W0 := W0) (H1.out W) h)
  have HX2 := Lib.hid (fun W (h : Below W0.heap.size W0 W ∧ ∀ b o, b < W0.heap.size → W.cell? ⟨b, o, none⟩ = W0.cell? ⟨b, o, none⟩) => bothS1 (W0 := W0) (H2.out W) h)
  have HX3 := Lib.hid (fun W (h : Below W0.heap.size W0 W ∧ ∀ b o, b < W0.heap.size → W.cell? ⟨b, o, none⟩ = W0.cell? ⟨b, o, none⟩) => bothS1 (W0 := W0) (H3.out W) h)
  obtain ⟨x0, x1⟩ : W0.cell? ⟨w.heap.size, 0, none⟩ = some (.int .i64 p) ∧ W0.cell? ⟨w.heap.size, 1, none⟩ = some (.int .i64 q) := ⟨hs0 0, hs0 1⟩
  have HB0 := Lib.hid hB0
  clear hB0 hs0
  go_region_held3 (fun w' => Below W0.heap.size W0 w' ∧ ∀ b o, b < W0.heap.size → w'.cell? ⟨b, o, none⟩ = W0.cell? ⟨b, o, none⟩) (first | with_reducible assumption | ((repeat (first | with_reducible refine bothS_drew ?_ | with_reducible refine bothS_alloc _ ?_ | with_reducible refine bothS_set _ _ (by first | omega | (simp; omega) | simp) ?_)); first | with_reducible assumption | with_reducible exact Hid.out (by assumption) | with_reducible exact ⟨Below.refl _ _, fun _ _ _ => rfl⟩)) (first | (go_at_call 27; with_reducible refine (HX1.out _ ?_).mono ?_; (first | with_reducible assumption | ((repeat (first | with_reducible refine bothS_drew ?_ | with_reducible refine bothS_alloc _ ?_ | with_reducible refine bothS_set _ _ (by first | omega | (simp; omega) | simp) ?_)); first | with_reducible assumption | with_reducible exact Hid.out (by assumption) | with_reducible exact ⟨Below.refl _ _, fun _ _ _ => rfl⟩)); rintro e w' ⟨rfl, k, k1, k2, k3⟩; have HK := Lib.hid k; (try simp at k3); (try have k6 := Nat.lt_of_succ_le k3); (try have k7 := Nat.lt_of_succ_lt k6); (try have k8 := Nat.lt_of_succ_lt k3)) | (go_at_call 27; with_reducible refine (HX2.out _ ?_).mono ?_; (first | with_reducible assumption | ((repeat (first | with_reducible refine bothS_drew ?_ | with_reducible refine bothS_alloc _ ?_ | with_reducible refine bothS_set _ _ (by first | omega | (simp; omega) | simp) ?_)); first | with_reducible assumption | with_reducible exact Hid.out (by assumption) | with_reducible exact ⟨Below.refl _ _, fun _ _ _ => rfl⟩)); rintro e w' ⟨rfl, k, k1, k2, k3⟩; have HK := Lib.hid k; (try simp at k3); (try have k6 := Nat.lt_of_succ_le k3); (try have k7 := Nat.lt_of_succ_lt k6); (try have k8 := Nat.lt_of_succ_lt k3)) | (go_at_call 83; with_reducible refine (HX3.out _ ?_).mono ?_; (first | with_reducible assumption | ((repeat (first | with_reducible refine bothS_drew ?_ | with_reducible refine bothS_alloc _ ?_ | with_reducible refine bothS_set _ _ (by first | omega | (simp; omega) | simp) ?_)); first | with_reducible assumption | with_reducible exact Hid.out (by assumption) | with_reducible exact ⟨Below.refl _ _, fun _ _ _ => rfl⟩)); rintro e w' ⟨rfl, k, k1, k2, k3⟩; have HK := Lib.hid k; (try simp at k3); (try have k6 := Nat.lt_of_succ_le k3); (try have k7 := Nat.lt_of_succ_lt k6); (try have k8 := Nat.lt_of_succ_lt k3)) | fail "no arm")
  all_goals
    have hh := ‹Below W0.heap.size W0 _ ∧ _›
    go_wp2_with fail
    go_ret
    exact ⟨rfl, HB0.out.trans (hh.1.mono HB0.out.size)⟩

/-- A part and its lowest terms. -/
theorem part_facts {n all g : Nat} (hn : n ≤ all) (h0 : 0 < all) (hg : Nat.gcd n all = g) :
    0 < all / g ∧ all / g ≤ all ∧ n / g ≤ all / g ∧ Nat.gcd (n / g) (all / g) = 1 ∧ (n / g = all / g ↔ n = all) ∧ (n / g = 0 ↔ n = 0) ∧ n = n / g * g ∧ all = all / g * g ∧ 0 < g := by
  have hg0 : 0 < g := by rw [← hg]; exact Nat.gcd_pos_of_pos_right _ h0
  have hd1 : g ∣ n := by rw [← hg]; exact Nat.gcd_dvd_left _ _
  have hd2 : g ∣ all := by rw [← hg]; exact Nat.gcd_dvd_right _ _
  have e1 := (Nat.div_mul_cancel hd1).symm
  have e2 := (Nat.div_mul_cancel hd2).symm
  have hlt : 0 < all / g := Nat.div_pos (Nat.le_of_dvd h0 hd2) hg0
  refine ⟨hlt, Nat.div_le_self _ _, Nat.div_le_div_right hn, ?_, ⟨fun h => by rw [e1, e2, h], fun h => by rw [h]⟩, ⟨fun h => by rw [e1, h]; simp, fun h => by rw [h]; simp⟩, e1, e2, hg0⟩
  rw [Nat.gcd_div hd1 hd2, hg, Nat.div_self hg0]
theorem part_le {n m all g k : Nat} (hn : n ≤ all) (hm : m ≤ all) (h0 : 0 < all) (hg : Nat.gcd n all = g) (hk : Nat.gcd m all = k) (hnm : n ≤ m) : n / g * (all / k) ≤ m / k * (all / g) := by
  obtain ⟨-, -, -, -, -, -, e1, e2, hg0⟩ := part_facts hn h0 hg
  obtain ⟨-, -, -, -, -, -, e3, e4, hk0⟩ := part_facts hm h0 hk
  refine Nat.le_of_mul_le_mul_right (c := g * k) ?_ (Nat.mul_pos hg0 hk0)
  calc n / g * (all / k) * (g * k) = (n / g * g) * (all / k * k) := by ac_rfl
    _ = n * all := by rw [← e1, ← e4]
    _ ≤ m * all := Nat.mul_le_mul_right _ hnm
    _ = (m / k * k) * (all / g * g) := by rw [← e3, ← e2]
    _ = m / k * (all / g) * (g * k) := by ac_rfl
theorem holdB_less {c : Nat → Int} {x y : List Int} (hl : y.length = x.length) (h : ∀ i (h1 : i < x.length) (h2 : i < y.length), y[i] ≤ x[i]) (hx : holdB c x = true) : holdB c y = true := by
  unfold holdB at *
  rw [List.all_eq_true] at *
  intro q hq
  obtain ⟨i, hi, rfl⟩ := List.getElem_of_mem hq
  have hi' : i < y.length := by simpa using hi
  have := hx (x[i], i) (List.mem_iff_getElem.2 ⟨i, by simp; omega, by simp⟩)
  simp at this ⊢
  have := h i (by omega) hi'
  omega
theorem holdN_less {L : List (Nat → Int)} {x y : List Int} (hl : y.length = x.length) (h : ∀ i (h1 : i < x.length) (h2 : i < y.length), y[i] ≤ x[i]) : holdN L x ≤ holdN L y :=
  List.countP_mono_left fun c _ hc => holdB_less hl h hc
end Go.Proofs.Ytigeiaiohdemiaa
