/- The reference's In, LeftIn, HoldsIn; the laws' inside. -/
import Derived.Test.YtigeiaiohdemiaaGB
namespace Go.Proofs.Ytigeiaiohdemiaa
set_option linter.unusedVariables false
set_option linter.unusedSimpArgs false
open Go.RowKit

set_option maxRecDepth 100000 in
set_option maxHeartbeats 2000000 in
theorem In_any (xa : Option Addr) (xl xc : Nat) (x : List Int) (n : Int) (w : World) (hx : IntsAt w xa xl x) :
    Calls Try.prog 21 #[.slice xa xl xc, .int .i64 n] w fun e w' => e = .returned (.bool (decide (n ∈ x))) ∧ Below w.heap.size w w' := by
  obtain ⟨hxl, hxm, hxc⟩ := hx
  unfold maxLen at hxm
  rcases Nat.eq_zero_or_pos xl with h0 | h0
  · subst h0
    have HS := Lib.hid (show decide (n ∈ x) = false by rw [List.length_eq_zero_iff.1 hxl]; rfl)
    clear hxl hxc
    go_enter Try.func21, Try.ntmps21
    go_wp2
    go_loopw [5] (fun i wr => i = .int .i64 0 ∧ Below w.heap.size w wr) (fun _ _ => 0)
    case atStart => exact ⟨rfl, Below.refl _ _⟩
    case round =>
      obtain ⟨rfl, hB⟩ := hrel
      go_wp2
      go_ret
      exact ⟨ret_bool HS.out.symm, hB⟩
  · obtain ⟨xb, xo, rfl, hxB, hxcell⟩ := hxc h0
    have HX := Lib.hid hxl
    clear hxl hxc
    go_enter Try.func21, Try.ntmps21
    go_wp2
    go_loopw [5] (fun i wr => ∃ k : Nat, k ≤ xl ∧ i = .int .i64 k ∧ (∀ q (h1 : q < x.length), q < k → x[q] ≠ n) ∧ Below w.heap.size w wr) (fun i _ => xl - (intOf i).toNat)
    case atStart => exact ⟨0, by omega, rfl, fun q _ h => by omega, Below.refl _ _⟩
    case round =>
      obtain ⟨k, hk, rfl, hsm, hB⟩ := hrel
      have HSM := Lib.hid hsm; clear hsm
      by_cases hlt : k < xl
      · have hk2 : k < x.length := by rw [HX.out]; exact hlt
        have cx := (hB.cell (p := ⟨xb, _, none⟩) hxB).trans (hxcell k hk2)
        have hkl : (k : Int) < (xl : Int) := by omega
        by_cases he : x[k] = n
        · have HN := Lib.hid (show decide (n ∈ x) = true by simp only [decide_eq_true_eq]; rw [← he]; exact List.getElem_mem _)
          rw [he] at cx
          clear he
          go_wp2
          go_ret
          exact ⟨ret_bool HN.out.symm, hB⟩
        · have HSM2 := Lib.hid (show ∀ q (h1 : q < x.length), q < k + 1 → x[q] ≠ n from fun q h1 hq => by
            by_cases e : q = k
            · subst e; exact he
            · exact HSM.out q h1 (by omega))
          have e1 : (x[k] == n) = false := by simpa using he
          clear he
          generalize x[k] = m at *
          go_wp2
          go_roundw
          case rel => exact ⟨k + 1, by omega, by go_num, HSM2.out, hB⟩
          case measure => simp [intOf]; omega
      · have hk' : k = xl := by omega
        subst hk'
        have HS := Lib.hid (show decide (n ∈ x) = false by
          simp only [decide_eq_false_iff_not]
          intro hm
          obtain ⟨q, hq, e⟩ := List.getElem_of_mem hm
          exact HSM.out q hq (by have := HX.out; omega) e)
        go_wp2
        go_ret
        exact ⟨ret_bool HS.out.symm, hB⟩
theorem In_is (xa : Option Addr) (xl xc : Nat) (x : List Int) (n : Int) (b : Bool) (h : decide (n ∈ x) = b) (w : World) (hx : IntsAt w xa xl x) :
    Calls Try.prog 21 #[.slice xa xl xc, .int .i64 n] w fun e w' => e = .returned (.bool b) ∧ Below w.heap.size w w' := h ▸ In_any xa xl xc x n w hx

set_option maxRecDepth 100000 in
set_option maxHeartbeats 2000000 in
theorem LeftIn_is (s : FShop) (ma : Option Addr) (ml mc : Nat) (wa : Option Addr) (wl wc : Nat) (na : Option Addr) (nl nc : Nat) (j i : Nat) (hj : j < s.worlds.length) (hi : i < s.moulds.length) (ho : s.ok = true) (w : World) (hp : FAt w ma ml mc wa wl wc na nl nc s) :
    Calls Try.prog 22 #[.agg #[.slice ma ml mc, .slice wa wl wc, .slice na nl nc, .int .i64 s.fresh], .int .i64 j, .int .i64 i] w fun e w' => e = .returned (.int .i64 (cst s.moulds s.worlds[j] i)) ∧ Below w.heap.size w w' := by
  have hln := (FShop.ok_world ho j hj).1
  have hbd := (FShop.ok_world ho j hj).2 i (by omega)
  have hmb := (FShop.ok_mould ho i hi).2.1
  obtain ⟨⟨hml, hmm, hmc⟩, ⟨hwl, hwm, hwc⟩, -⟩ := hp
  unfold maxLen at hmm hwm
  obtain ⟨mb, mo, rfl, hmB, hmc⟩ := hmc (by omega)
  obtain ⟨wb, wo, rfl, hwb, hwc⟩ := hwc (by omega)
  obtain ⟨ra, rl, rc, hcell, hxl, -, hxc⟩ := hwc j hj
  obtain ⟨rb, ro, rfl, hrB, hxc⟩ := hxc (by omega)
  have c1 := (hmc i hi).2.1
  have cx := hxc i (by omega)
  have HV := Lib.hid (cst_at (ms := s.moulds) (x := s.worlds[j]) hi (by omega))
  have hjl : (j : Int) < (wl : Int) := by omega
  have hil : (i : Int) < (ml : Int) := by omega
  have hir : (i : Int) < (rl : Int) := by omega
  have hj0 : (0 : Int) ≤ (j : Int) := by omega
  have hi0 : (0 : Int) ≤ (i : Int) := by omega
  generalize cst s.moulds s.worlds[j] i = v at *
  generalize s.worlds[j][i] = x at *
  generalize s.moulds[i].u = u at *
  clear hmc hwc hxc ho hln
  have hwr : IntKind.i64.wrap (x - u) = x - u := IntWalk.i64_in _ ⟨by omega, by omega⟩
  go_enter Try.func22, Try.ntmps22
  go_wp2_with fail
  obtain ⟨W0, hW0, hB0, hs0, hz0⟩ := name1k w #[.slice (some ⟨mb, mo, none⟩) ml mc, .slice (some ⟨wb, wo, none⟩) wl wc, .slice na nl nc, .int .i64 s.fresh] 26
  rw [hW0]
  clear hW0
  have HB0 := Lib.hid hB0
  obtain ⟨x0, x1, x2, x3⟩ : W0.cell? ⟨w.heap.size, 0, none⟩ = some (.slice (some ⟨mb, mo, none⟩) ml mc) ∧ W0.cell? ⟨w.heap.size, 1, none⟩ = some (.slice (some ⟨wb, wo, none⟩) wl wc) ∧ W0.cell? ⟨w.heap.size, 2, none⟩ = some (.slice na nl nc) ∧ W0.cell? ⟨w.heap.size, 3, none⟩ = some (.int .i64 s.fresh) := ⟨hs0 0, hs0 1, hs0 2, hs0 3⟩
  have d1 := (hB0.cell (p := ⟨wb, wo + j, none⟩) hwb).trans hcell
  have d2 := (hB0.cell (p := ⟨rb, ro + i, none⟩) hrB).trans cx
  have d3 := (hB0.cell (p := ⟨mb, mo + i * 3 + 1, none⟩) hmB).trans c1
  clear hB0 hs0 hcell cx c1
  go_region
  go_wp2_with fail
  go_ret
  exact ⟨by rw [HV.out]; rfl, HB0.out.trans (Go.Joins.below_draws _ _ _)⟩

set_option maxRecDepth 100000 in
set_option maxHeartbeats 4000000 in
theorem HoldsIn_any (s : FShop) (ma : Option Addr) (ml mc : Nat) (wa : Option Addr) (wl wc : Nat) (na : Option Addr) (nl nc : Nat) (xa : Option Addr) (xl xc : Nat) (x : List Int) (j : Nat) (hj : j < s.worlds.length) (ho : s.ok = true) (w : World) (hp : FAt w ma ml mc wa wl wc na nl nc s) (hx : IntsAt w xa xl x) (hxm : x.length = s.moulds.length) :
    Calls Try.prog 26 #[.agg #[.slice ma ml mc, .slice wa wl wc, .slice na nl nc, .int .i64 s.fresh], .slice xa xl xc, .int .i64 j] w fun e w' => e = .returned (.bool (holdB (cst s.moulds s.worlds[j]) x)) ∧ Below w.heap.size w w' := by
  have HL := Lib.hid (fun i (hi : i < s.moulds.length) v (hv : cst s.moulds s.worlds[j] i = v) W (hb : Below w.heap.size w W) => show Calls Try.prog 22 #[.agg #[.slice ma ml mc, .slice wa wl wc, .slice na nl nc, .int .i64 s.fresh], .int .i64 j, .int .i64 i] W fun e w' => e = .returned (.int .i64 v) ∧ Below W.heap.size W w' from hv ▸ LeftIn_is s ma ml mc wa wl wc na nl nc j i hj hi ho W (hp.below hb))
  have hml := hp.1.1
  have hm5 := (FShop.ok_few ho).2.1
  obtain ⟨hxl, -, hxc⟩ := hx
  have HXL := Lib.hid hxl
  have HXC := Lib.hid hxc
  have HXM := Lib.hid hxm
  have hx5 : xl ≤ 5 := by omega
  clear hxl hxc hxm hp hm5 hml
  go_enter Try.func26, Try.ntmps26
  go_wp2_with fail
  obtain ⟨W0, hW0, hB0, hs0, hz0⟩ := name1k w #[.slice ma ml mc, .slice wa wl wc, .slice na nl nc, .int .i64 s.fresh] 26
  rw [hW0]
  clear hW0
  have HB0 := Lib.hid hB0
  have HS0 := Lib.hid hs0
  clear hB0 hs0
  go_loopw [7] (fun i wr => ∃ k : Nat, k ≤ xl ∧ i = .int .i64 k ∧ (x.zipIdx.take k).all (fun q => decide (q.1 ≤ cst s.moulds s.worlds[j] q.2)) = true ∧ Below W0.heap.size W0 wr) (fun i _ => xl - (intOf i).toNat)
  case atStart => exact ⟨0, by omega, rfl, by simp, Below.refl _ _⟩
  case round =>
    obtain ⟨k, hk, rfl, hall, hB⟩ := hrel
    have HALL := Lib.hid hall
    clear hall
    have HB := Lib.hid hB
    by_cases hlt : k < xl
    · have hk3 : k < x.length := by rw [HXL.out]; exact hlt
      have hk2 : k < s.moulds.length := by rw [← HXM.out]; exact hk3
      obtain ⟨b', o', rfl, hbB', hcell'⟩ := HXC.out (by omega)
      obtain ⟨W1, rfl⟩ : ∃ W1 : World, W1 = wr := ⟨_, rfl⟩
      have hcx := (hB.cell (p := ⟨b', o' + k, none⟩) (show b' < W0.heap.size by omega)).trans ((HB0.out.cell (p := ⟨b', o' + k, none⟩) hbB').trans (hcell' k hk3))
      have hsW : b' < W1.heap.size := Nat.lt_of_lt_of_le (show b' < W0.heap.size by omega) hB.size
      have hzW : w.heap.size < W1.heap.size := Nat.lt_of_lt_of_le hz0 hB.size
      have hbx := fun i => (hB.cell (p := ⟨w.heap.size, i, none⟩) hz0).trans (HS0.out i)
      obtain ⟨x0, x1, x2, x3⟩ : W1.cell? ⟨w.heap.size, 0, none⟩ = some (.slice ma ml mc) ∧ W1.cell? ⟨w.heap.size, 1, none⟩ = some (.slice wa wl wc) ∧ W1.cell? ⟨w.heap.size, 2, none⟩ = some (.slice na nl nc) ∧ W1.cell? ⟨w.heap.size, 3, none⟩ = some (.int .i64 s.fresh) := ⟨hbx 0, hbx 1, hbx 2, hbx 3⟩
      have hkl : (k : Int) < (xl : Int) := by omega
      have hk0 : (0 : Int) ≤ (k : Int) := by omega
      have HN := Lib.hid (zidx_next HALL.out hk3)
      have HX := Lib.hid (fun (h : decide (x[k] ≤ cst s.moulds s.worlds[j] k) = false) => show holdB (cst s.moulds s.worlds[j]) x = false from zidx_no (f := fun q => decide (q.1 ≤ cst s.moulds s.worlds[j] q.2)) hk3 h)
      obtain ⟨n, hn⟩ : ∃ n, x[k] = n := ⟨_, rfl⟩
      obtain ⟨ck, hck⟩ : ∃ ck, cst s.moulds s.worlds[j] k = ck := ⟨_, rfl⟩
      rw [hn] at hcx HX
      rw [hck] at HX
      have HN1 := Lib.hid (fun (h : n ≤ ck) => HN.out.trans (show decide (x[k] ≤ cst s.moulds s.worlds[j] k) = true by rw [hn, hck]; exact decide_eq_true h))
      have HLK := Lib.hid (fun W (h : Below W1.heap.size W1 W ∧ ∀ b o, b < W1.heap.size → W.cell? ⟨b, o, none⟩ = W1.cell? ⟨b, o, none⟩) => bothS1 (W0 := W1) (HL.out k hk2 ck hck W ((HB0.out.trans (hB.mono HB0.out.size)).trans (h.1.mono (HB0.out.trans (hB.mono HB0.out.size)).size))) h)
      clear hB hcell' hbx HN hn hck
      go_upto_region 4 with fail
      go_cut [22] (fun v wx => v = .bool (decide (ck < n)) ∧ Below W1.heap.size W1 wx)
      case first =>
        go_region_held3 (fun w' => Below W1.heap.size W1 w' ∧ ∀ b o, b < W1.heap.size → w'.cell? ⟨b, o, none⟩ = W1.cell? ⟨b, o, none⟩) (first | with_reducible assumption | ((repeat (first | with_reducible refine bothS_drew ?_ | with_reducible refine bothS_alloc _ ?_ | with_reducible refine bothS_set _ _ (by first | omega | (simp; omega) | simp) ?_)); first | with_reducible assumption | with_reducible exact Hid.out (by assumption) | with_reducible exact ⟨Below.refl _ _, fun _ _ _ => rfl⟩)) (first | (go_at_call 22; with_reducible refine (HLK.out _ ?_).mono ?_; (first | with_reducible assumption | ((repeat (first | with_reducible refine bothS_drew ?_ | with_reducible refine bothS_alloc _ ?_ | with_reducible refine bothS_set _ _ (by first | omega | (simp; omega) | simp) ?_)); first | with_reducible assumption | with_reducible exact Hid.out (by assumption) | with_reducible exact ⟨Below.refl _ _, fun _ _ _ => rfl⟩)); rintro e w' ⟨rfl, k, k1, k2, k3⟩; have HK := Lib.hid k; (try simp at k3); (try have k6 := Nat.lt_of_succ_le k3); (try have k7 := Nat.lt_of_succ_lt k6); (try have k8 := Nat.lt_of_succ_lt k3)) | fail "no arm")
        all_goals (go_wp2_with fail; go_meet; exact ⟨by first | rfl | (congr 1; simp), And.left (by assumption)⟩)
      case rest =>
      obtain ⟨rfl, hB2⟩ := hcut
      have HB2 := Lib.hid (HB.out.trans (hB2.mono HB.out.size))
      clear hB2
      rcases Int.lt_or_le ck n with h1 | h1
      · have HR := Lib.hid (HX.out (by simp; omega))
        clear HX HN1
        go_wp2_with fail
        go_ret
        exact ⟨ret_bool HR.out.symm, HB0.out.trans (HB2.out.mono HB0.out.size)⟩
      · have HR := Lib.hid (HN1.out h1)
        have h1' : ¬ ck < n := by omega
        clear HX HN1
        go_wp2_with fail
        go_roundw
        case rel => exact ⟨k + 1, by omega, by go_num, HR.out, HB2.out⟩
        case measure => simp [intOf]; omega
    · obtain rfl : xl = k := by omega
      have HR := Lib.hid (show holdB (cst s.moulds s.worlds[j]) x = true from zidx_done HALL.out HXL.out)
      go_wp2_with fail
      go_ret
      exact ⟨ret_bool HR.out.symm, HB0.out.trans (HB.out.mono HB0.out.size)⟩

theorem inside_is (a b c d : Int) (r : Bool) (h : decide (c ≤ a ∧ a ≤ b ∧ b ≤ d) = r) (w : World) :
    Calls Try.prog 33 #[.agg #[.int .i64 a, .int .i64 b], .agg #[.int .i64 c, .int .i64 d]] w fun e w' => e = .returned (.bool r) ∧ Below w.heap.size w w' := by
  subst h
  go_enter Try.func33, Try.ntmps33
  by_cases h1 : c ≤ a
  · by_cases h2 : a ≤ b
    · by_cases h3 : b ≤ d
      · go_wp2_with fail
        go_ret
        exact ⟨ret_bool (by first | (simp [*]; done) | (simp; omega)), (by repeat (first | exact Below.refl _ _ | (refine Below.alloc ?_ (by first | omega | (simp; omega) | simp) _) | (refine Below.setCell ?_ (by first | omega | (simp; omega) | simp) _) | refine Below.drew ?_))⟩
      · go_wp2_with fail
        go_ret
        exact ⟨ret_bool (by first | (simp [*]; done) | (simp; omega)), (by repeat (first | exact Below.refl _ _ | (refine Below.alloc ?_ (by first | omega | (simp; omega) | simp) _) | (refine Below.setCell ?_ (by first | omega | (simp; omega) | simp) _) | refine Below.drew ?_))⟩
    · go_wp2_with fail
      go_ret
      exact ⟨ret_bool (by first | (simp [*]; done) | (simp; omega)), (by repeat (first | exact Below.refl _ _ | (refine Below.alloc ?_ (by first | omega | (simp; omega) | simp) _) | (refine Below.setCell ?_ (by first | omega | (simp; omega) | simp) _) | refine Below.drew ?_))⟩
  · go_wp2_with fail
    go_ret
    exact ⟨ret_bool (by first | (simp [*]; done) | (simp; omega)), (by repeat (first | exact Below.refl _ _ | (refine Below.alloc ?_ (by first | omega | (simp; omega) | simp) _) | (refine Below.setCell ?_ (by first | omega | (simp; omega) | simp) _) | refine Below.drew ?_))⟩
end Go.Proofs.Ytigeiaiohdemiaa
