/- Package flongs: Agrees, Good, Worlds. -/
import Derived.Test.YtigeiaiohdemiaaFQ
namespace Go.Proofs.Ytigeiaiohdemiaa
set_option linter.unusedVariables false
set_option linter.unusedSimpArgs false
open Go.RowKit

/-- append of one number, to a row that calls have made. -/
theorem run_append_one (w : World) (t ty : TypeId) (ht : t = 24) (n0 n c : Nat) (v : Value) (xs : List Int) (u : Int)
    (hrow : w.ownsRow n0 3 1 v n (xs.map (Value.int .i64))) (hc : w.cell? ⟨c, 0, none⟩ = some (.int .i64 u)) (hl : n ≤ 1000) (hnw : n0 ≤ w.heap.size) :
    ∃ v' w', (Builtin.append_ #[t, t] ty #[v, .slice (some ⟨c, 0, none⟩) 1 1]).run Try.prog w = .ok v' w' ∧ w'.ownsRow n0 3 1 v' (n + 1) ((xs ++ [u]).map (Value.int .i64)) ∧ w.grownBy w' v.ownBlock := by
  subst ht
  obtain ⟨i0, hi, hy0, hy1, hy2⟩ := info_parts Try.info3
  obtain ⟨v', w3, hr, hown, hgrow, _, _⟩ := run_append_own_at (P := Try.prog) w n0 24 ty 3 i0 (.int .i64 0) 1 8 Try.underlying24 hi hy0 hy1 hy2 rfl (by decide) _ n _ hrow ⟨c, 0, none⟩ 1 1 [.int .i64 u] rfl (by
    intro j x hj
    match j, hj with
    | 0, hj => cases hj; rw [Addr.add_lit]; exact hc
    | j + 1, hj => simp at hj) (by intro x hx; rw [List.mem_singleton.1 hx]; rfl) (by unfold maxLen; omega) (by omega) hnw
  exact ⟨v', w3, hr, by simpa using hown, hgrow⟩
theorem wpList_append_one {ops : Array Oper} {rest : List Oper} {o : Oper} {a : Act} {Q : Exit → Act → World → Prop} (w : World) (n0 n c : Nat) (v : Value) (xs : List Int) (u : Int) (hgd : o.guard = none) (s x : Operand)
    (ho : o.op = .call { callee := .builtin .append, args := #[s, x], argTypes := #[24, 24] }) (hs : a.eval s = v) (hxv : a.eval x = .slice (some ⟨c, 0, none⟩) 1 1)
    (hrow : w.ownsRow n0 3 1 v n (xs.map (Value.int .i64))) (hc : w.cell? ⟨c, 0, none⟩ = some (.int .i64 u)) (hl : n ≤ 1000) (hnw : n0 ≤ w.heap.size)
    (h : ∀ v' w', w'.ownsRow n0 3 1 v' (n + 1) ((xs ++ [u]).map (Value.int .i64)) → w.grownBy w' v.ownBlock → wpList Try.prog ops Q rest (a.put o.dst v') w') : wpList Try.prog ops Q (o :: rest) a w := by
  obtain ⟨v', w3, hr, h1, h2⟩ := run_append_one w 24 o.type rfl n0 n c v xs u hrow hc hl hnw
  exact wpList_append_run w hgd s x 24 ho _ _ _ _ hs hxv hr (h v' w3 h1 h2)
theorem ints_own {w : World} {n0 len cap : Nat} {a : Option Addr} {xs : List Int} (h : w.ownsRow n0 3 1 (.slice a len cap) len (xs.map (Value.int .i64))) (hm : len ≤ maxLen) : IntsAt w a len xs := by
  have hl : xs.length = len := by have := h.1; simp at this; omega
  rcases h.2 with ⟨h0, h1⟩ | ⟨g, cap', cur, hv, hg, hb, hn, hc, hcs, ht⟩
  · exact ⟨hl, hm, fun h => by omega⟩
  · cases hv
    refine ⟨hl, hm, fun _ => ⟨g, 0, rfl, (Array.getElem?_eq_some_iff.1 hb).1, fun i hi => ?_⟩⟩
    have := h.cells (g := g) rfl i (.int .i64 xs[i]) (by simp [hi])
    rw [Addr.add_lit] at this
    rwa [Nat.zero_add] at this ⊢
/-- A list that a call has made. -/
def OutPost (xs : List Int) (w : World) (e : Ending) (w' : World) : Prop :=
  ∃ a c, e = .returned (.tuple #[.slice a xs.length c, .int .i64 0]) ∧ IntsAt w' a xs.length xs ∧ Below w.heap.size w w'

set_option maxRecDepth 100000 in
set_option maxHeartbeats 4000000 in
theorem Agrees_no (s : FShop) (ma : Option Addr) (ml mc : Nat) (wa : Option Addr) (wl wc : Nat) (na : Option Addr) (nl nc : Nat) (n : Int) (v : Int) (hv : s.name (btw n 0 ((wl : Int) - 1)) = v) (h0 : v ≠ 0) (w : World) (hp : FAt w ma ml mc wa wl wc na nl nc s) :
    Calls Try.prog 53 #[.agg #[.slice ma ml mc, .slice wa wl wc, .slice na nl nc, .int .i64 s.fresh], .int .i64 n] w fun e w' => e = .returned (.tuple #[.bool false, .int .i64 v]) ∧ Below w.heap.size w w' := by
  have hmm := hp.2.1.2.1
  have HA := Lib.hid (fun W (hb : Below w.heap.size w W) => named_is s ma ml mc wa wl wc na nl nc _ v hv W (hp.below hb))
  have HH := Lib.hid (fun W (hb : Below w.heap.size w W) => hasWorld_is s ma ml mc wa wl wc na nl nc n W hmm _ rfl)
  have e2 : (v != 0) = true := by simpa using h0
  clear hp hv hmm
  generalize btw n 0 ((wl : Int) - 1) = r at *
  go_enter Try.func53, Try.ntmps53
  go_wp2_with fail
  obtain ⟨W0, hW0, hB0, ha0, hs0, hz0⟩ := name2c w #[.slice ma ml mc, .slice wa wl wc, .slice na nl nc, .int .i64 s.fresh] 26 #[.slice ma ml mc, .slice wa wl wc, .slice na nl nc, .int .i64 s.fresh] 77
  rw [hW0]
  clear hW0
  have HHX := Lib.hid (fun W (h : Below W0.heap.size W0 W ∧ ∀ b o, b < W0.heap.size → W.cell? ⟨b, o, none⟩ = W0.cell? ⟨b, o, none⟩) => bothS1 (W0 := W0) (HH.out W (hB0.trans (h.1.mono hB0.size))) h)
  have HAN := Lib.hid (fun W (h : Below W0.heap.size W0 W ∧ ∀ b o, b < W0.heap.size → W.cell? ⟨b, o, none⟩ = W0.cell? ⟨b, o, none⟩) => bothS1 (W0 := W0) (HA.out W (hB0.trans (h.1.mono hB0.size))) h)
  obtain ⟨x0, x1, x2, x3⟩ : W0.cell? ⟨w.heap.size + 1, 0, none⟩ = some (.slice ma ml mc) ∧ W0.cell? ⟨w.heap.size + 1, 1, none⟩ = some (.slice wa wl wc) ∧ W0.cell? ⟨w.heap.size + 1, 2, none⟩ = some (.slice na nl nc) ∧ W0.cell? ⟨w.heap.size + 1, 3, none⟩ = some (.int .i64 s.fresh) := ⟨hs0 0, hs0 1, hs0 2, hs0 3⟩
  have z1 : w.heap.size + 1 < W0.heap.size := by omega
  have HB0 := Lib.hid hB0
  clear hB0 ha0 hs0 hz0
  go_upto_region 2 with fail
  go_cut [7] (fun v7 wx => v7 = .int .i64 v ∧ Below W0.heap.size W0 wx)
  case first =>
    go_region_held3 (fun w' => Below W0.heap.size W0 w' ∧ ∀ b o, b < W0.heap.size → w'.cell? ⟨b, o, none⟩ = W0.cell? ⟨b, o, none⟩) (first | with_reducible assumption | ((repeat (first | with_reducible refine bothS_drew ?_ | with_reducible refine bothS_alloc _ ?_ | with_reducible refine bothS_set _ _ (by first | omega | (simp; omega) | simp) ?_)); first | with_reducible assumption | with_reducible exact Hid.out (by assumption) | with_reducible exact ⟨Below.refl _ _, fun _ _ _ => rfl⟩)) (first | (go_at_call 88; with_reducible refine (HHX.out _ ?_).mono ?_; (first | with_reducible assumption | ((repeat (first | with_reducible refine bothS_drew ?_ | with_reducible refine bothS_alloc _ ?_ | with_reducible refine bothS_set _ _ (by first | omega | (simp; omega) | simp) ?_)); first | with_reducible assumption | with_reducible exact Hid.out (by assumption) | with_reducible exact ⟨Below.refl _ _, fun _ _ _ => rfl⟩)); rintro e w' ⟨rfl, k, k1, k2, k3⟩; have HK := Lib.hid k; (try simp at k3); (try have k6 := Nat.lt_of_succ_le k3); (try have k7 := Nat.lt_of_succ_lt k6); (try have k8 := Nat.lt_of_succ_lt k3)) | (go_at_call 87; with_reducible refine (HAN.out _ ?_).mono ?_; (first | with_reducible assumption | ((repeat (first | with_reducible refine bothS_drew ?_ | with_reducible refine bothS_alloc _ ?_ | with_reducible refine bothS_set _ _ (by first | omega | (simp; omega) | simp) ?_)); first | with_reducible assumption | with_reducible exact Hid.out (by assumption) | with_reducible exact ⟨Below.refl _ _, fun _ _ _ => rfl⟩)); rintro e w' ⟨rfl, k, k1, k2, k3⟩; have HK := Lib.hid k; (try simp at k3); (try have k6 := Nat.lt_of_succ_le k3); (try have k7 := Nat.lt_of_succ_lt k6); (try have k8 := Nat.lt_of_succ_lt k3)) | fail "no arm")
    all_goals (go_wp2_with fail; go_meet; exact ⟨rfl, And.left (by assumption)⟩)
  case rest =>
  obtain ⟨rfl, hB1⟩ := hcut
  obtain ⟨w1, rfl⟩ : ∃ w1 : World, w1 = wc := ⟨_, rfl⟩
  have HBW := Lib.hid (HB0.out.trans (hB1.mono HB0.out.size))
  clear hB1
  go_wp2_with fail
  go_ret2
  exact ⟨rfl, HBW.out⟩

set_option maxRecDepth 100000 in
set_option maxHeartbeats 4000000 in
theorem Agrees_yes (s : FShop) (ma : Option Addr) (ml mc : Nat) (wa : Option Addr) (wl wc : Nat) (na : Option Addr) (nl nc : Nat) (n : Nat) (hn : n < s.worlds.length) (w : World) (hp : FAt w ma ml mc wa wl wc na nl nc s) (ho : s.ok = true) :
    Calls Try.prog 53 #[.agg #[.slice ma ml mc, .slice wa wl wc, .slice na nl nc, .int .i64 s.fresh], .int .i64 n] w fun e w' => e = .returned (.tuple #[.bool (agreeB s.moulds s.worlds[n]), .int .i64 0]) ∧ Below w.heap.size w w' := by
  have hwl := hp.2.1.1
  have hmm := hp.2.1.2.1
  have hnw : n < wl := by omega
  have HA := Lib.hid (fun W (hb : Below w.heap.size w W) => named_is s ma ml mc wa wl wc na nl nc true 0 (by simp [FShop.name, ho]) W (hp.below hb))
  have HH := Lib.hid (fun W (hb : Below w.heap.size w W) => hasWorld_is s ma ml mc wa wl wc na nl nc n W hmm true (by simp [btw]; omega))
  have HG := Lib.hid (fun W (hb : Below w.heap.size w W) (xa : Option Addr) (xc : Nat) (hx : IntsAt W xa ml s.worlds[n]) => agrees_any s ma ml mc wa wl wc na nl nc xa xc s.worlds[n] W (hp.below hb).1 hx)
  obtain ⟨wb, wo, rfl, hwb, hwc⟩ := hp.2.1.2.2 (by omega)
  obtain ⟨ra, rl, rc, hcell, hints⟩ := hwc n hn
  have hrl : rl = ml := by rw [← hints.1, (FShop.ok_world ho n hn).1]; exact hp.1.1
  subst hrl
  have HIN := Lib.hid hints
  clear hp ho hints hwc hwl
  unfold maxLen at hmm
  generalize agreeB s.moulds s.worlds[n] = r at *
  go_enter Try.func53, Try.ntmps53
  go_wp2_with fail
  obtain ⟨W0, hW0, hB0, ha0, hs0, hz0⟩ := name2c w #[.slice ma rl mc, .slice (some ⟨wb, wo, none⟩) wl wc, .slice na nl nc, .int .i64 s.fresh] 26 #[.slice ma rl mc, .slice (some ⟨wb, wo, none⟩) wl wc, .slice na nl nc, .int .i64 s.fresh] 77
  rw [hW0]
  clear hW0
  have HHX := Lib.hid (fun W (h : Below W0.heap.size W0 W ∧ ∀ b o, b < W0.heap.size → W.cell? ⟨b, o, none⟩ = W0.cell? ⟨b, o, none⟩) => bothS1 (W0 := W0) (HH.out W (hB0.trans (h.1.mono hB0.size))) h)
  have HAN := Lib.hid (fun W (h : Below W0.heap.size W0 W ∧ ∀ b o, b < W0.heap.size → W.cell? ⟨b, o, none⟩ = W0.cell? ⟨b, o, none⟩) => bothS1 (W0 := W0) (HA.out W (hB0.trans (h.1.mono hB0.size))) h)
  obtain ⟨x0, x1, x2, x3⟩ : W0.cell? ⟨w.heap.size + 1, 0, none⟩ = some (.slice ma rl mc) ∧ W0.cell? ⟨w.heap.size + 1, 1, none⟩ = some (.slice (some ⟨wb, wo, none⟩) wl wc) ∧ W0.cell? ⟨w.heap.size + 1, 2, none⟩ = some (.slice na nl nc) ∧ W0.cell? ⟨w.heap.size + 1, 3, none⟩ = some (.int .i64 s.fresh) := ⟨hs0 0, hs0 1, hs0 2, hs0 3⟩
  have y1 : W0.cell? ⟨w.heap.size, 1, none⟩ = some (.slice (some ⟨wb, wo, none⟩) wl wc) := ha0 1
  have y2 := (hB0.cell (p := ⟨wb, wo + n, none⟩) hwb).trans hcell
  have z0 : w.heap.size < W0.heap.size := by omega
  have z1 : w.heap.size + 1 < W0.heap.size := by omega
  have z2 : wb < W0.heap.size := by omega
  have HB0 := Lib.hid hB0
  have HS0 := Lib.hid hs0
  clear hB0 ha0 hs0 hz0 hcell
  go_upto_region 2 with fail
  go_cut [7] (fun v7 wx => v7 = .int .i64 0 ∧ Below W0.heap.size W0 wx)
  case first =>
    go_region_held3 (fun w' => Below W0.heap.size W0 w' ∧ ∀ b o, b < W0.heap.size → w'.cell? ⟨b, o, none⟩ = W0.cell? ⟨b, o, none⟩) (first | with_reducible assumption | ((repeat (first | with_reducible refine bothS_drew ?_ | with_reducible refine bothS_alloc _ ?_ | with_reducible refine bothS_set _ _ (by first | omega | (simp; omega) | simp) ?_)); first | with_reducible assumption | with_reducible exact Hid.out (by assumption) | with_reducible exact ⟨Below.refl _ _, fun _ _ _ => rfl⟩)) (first | (go_at_call 88; with_reducible refine (HHX.out _ ?_).mono ?_; (first | with_reducible assumption | ((repeat (first | with_reducible refine bothS_drew ?_ | with_reducible refine bothS_alloc _ ?_ | with_reducible refine bothS_set _ _ (by first | omega | (simp; omega) | simp) ?_)); first | with_reducible assumption | with_reducible exact Hid.out (by assumption) | with_reducible exact ⟨Below.refl _ _, fun _ _ _ => rfl⟩)); rintro e w' ⟨rfl, k, k1, k2, k3⟩; have HK := Lib.hid k; (try simp at k3); (try have k6 := Nat.lt_of_succ_le k3); (try have k7 := Nat.lt_of_succ_lt k6); (try have k8 := Nat.lt_of_succ_lt k3)) | (go_at_call 87; with_reducible refine (HAN.out _ ?_).mono ?_; (first | with_reducible assumption | ((repeat (first | with_reducible refine bothS_drew ?_ | with_reducible refine bothS_alloc _ ?_ | with_reducible refine bothS_set _ _ (by first | omega | (simp; omega) | simp) ?_)); first | with_reducible assumption | with_reducible exact Hid.out (by assumption) | with_reducible exact ⟨Below.refl _ _, fun _ _ _ => rfl⟩)); rintro e w' ⟨rfl, k, k1, k2, k3⟩; have HK := Lib.hid k; (try simp at k3); (try have k6 := Nat.lt_of_succ_le k3); (try have k7 := Nat.lt_of_succ_lt k6); (try have k8 := Nat.lt_of_succ_lt k3)) | fail "no arm")
    all_goals (go_wp2_with fail; go_meet; exact ⟨rfl, And.left (by assumption)⟩)
  case rest =>
  obtain ⟨rfl, hB1⟩ := hcut
  obtain ⟨w1, rfl⟩ : ∃ w1 : World, w1 = wc := ⟨_, rfl⟩
  obtain ⟨k0, k1, k2, k3⟩ : w1.cell? ⟨w.heap.size + 1, 0, none⟩ = some (.slice ma rl mc) ∧ w1.cell? ⟨w.heap.size + 1, 1, none⟩ = some (.slice (some ⟨wb, wo, none⟩) wl wc) ∧ w1.cell? ⟨w.heap.size + 1, 2, none⟩ = some (.slice na nl nc) ∧ w1.cell? ⟨w.heap.size + 1, 3, none⟩ = some (.int .i64 s.fresh) :=
    ⟨(hB1.cell (p := ⟨w.heap.size + 1, 0, none⟩) z1).trans x0, (hB1.cell (p := ⟨w.heap.size + 1, 1, none⟩) z1).trans x1, (hB1.cell (p := ⟨w.heap.size + 1, 2, none⟩) z1).trans x2, (hB1.cell (p := ⟨w.heap.size + 1, 3, none⟩) z1).trans x3⟩
  have k4 := (hB1.cell (p := ⟨w.heap.size, 1, none⟩) z0).trans y1
  have k5 := (hB1.cell (p := ⟨wb, wo + n, none⟩) z2).trans y2
  have q0 : w.heap.size < w1.heap.size := by have := hB1.size; omega
  have q1 : w.heap.size + 1 < w1.heap.size := by have := hB1.size; omega
  have q2 : wb < w1.heap.size := by have := hB1.size; omega
  have hBW := HB0.out.trans (hB1.mono HB0.out.size)
  have hnl : (n : Int) < (wl : Int) := by omega
  have hn0 : (0 : Int) ≤ (n : Int) := by omega
  have HGX := Lib.hid (fun W (h : Below w1.heap.size w1 W ∧ ∀ b o, b < w1.heap.size → W.cell? ⟨b, o, none⟩ = w1.cell? ⟨b, o, none⟩) => bothS1 (W0 := w1) (HG.out W (hBW.trans (h.1.mono hBW.size)) ra rc (HIN.out.below (hBW.trans (h.1.mono hBW.size)))) h)
  have HBW := Lib.hid hBW
  clear hB1 hBW x0 x1 x2 x3 y1 y2 z0 z1 z2 HIN
  go_upto_region 5 with fail
  go_region_held3 (fun w' => Below w1.heap.size w1 w' ∧ ∀ b o, b < w1.heap.size → w'.cell? ⟨b, o, none⟩ = w1.cell? ⟨b, o, none⟩) (first | with_reducible assumption | ((repeat (first | with_reducible refine bothS_drew ?_ | with_reducible refine bothS_alloc _ ?_ | with_reducible refine bothS_set _ _ (by first | omega | (simp; omega) | simp) ?_)); first | with_reducible assumption | with_reducible exact Hid.out (by assumption) | with_reducible exact ⟨Below.refl _ _, fun _ _ _ => rfl⟩)) (first | (go_at_call 71; with_reducible refine (HGX.out _ ?_).mono ?_; (first | with_reducible assumption | ((repeat (first | with_reducible refine bothS_drew ?_ | with_reducible refine bothS_alloc _ ?_ | with_reducible refine bothS_set _ _ (by first | omega | (simp; omega) | simp) ?_)); first | with_reducible assumption | with_reducible exact Hid.out (by assumption) | with_reducible exact ⟨Below.refl _ _, fun _ _ _ => rfl⟩)); rintro e w' ⟨rfl, k, k1, k2, k3⟩; have HK := Lib.hid k; (try simp at k3); (try have k6 := Nat.lt_of_succ_le k3); (try have k7 := Nat.lt_of_succ_lt k6); (try have k8 := Nat.lt_of_succ_lt k3)) | fail "no arm")
  all_goals
    have hh := ‹Below w1.heap.size w1 _ ∧ _›
    go_wp2_with fail
    go_ret2
    exact ⟨rfl, HBW.out.trans (hh.1.mono HBW.out.size)⟩

set_option maxRecDepth 100000 in
set_option maxHeartbeats 1000000 in
theorem Good_no (s : FShop) (ma : Option Addr) (ml mc : Nat) (wa : Option Addr) (wl wc : Nat) (na : Option Addr) (nl nc : Nat) (xa : Option Addr) (xl xc : Nat) (v : Int) (hv : s.chk = v) (h0 : v ≠ 0) (w : World) (hp : FAt w ma ml mc wa wl wc na nl nc s) :
    Calls Try.prog 56 #[.agg #[.slice ma ml mc, .slice wa wl wc, .slice na nl nc, .int .i64 s.fresh], .slice xa xl xc] w fun e w' => e = .returned (.tuple #[.bool false, .int .i64 v]) ∧ Below w.heap.size w w' := by
  have HC := Lib.hid (fun w1 (hb : Below w.heap.size w w1) => Check_is s ma ml mc wa wl wc na nl nc v hv w1 (hp.below hb))
  have e1 : (v == 0) = false := by simpa using h0
  have e2 : (v != 0) = true := by simpa using h0
  clear hp hv
  go_enter Try.func56, Try.ntmps56
  go_wp2_with fail
  refine (HC.out _ (by repeat (first | exact Below.refl _ _ | (refine Below.alloc ?_ (by first | omega | (simp; omega) | simp) _) | (refine Below.setCell ?_ (by first | omega | (simp; omega) | simp) _) | refine Below.drew ?_))).mono ?_
  rintro e w1 ⟨rfl, hb1⟩
  have hw1 := ((by repeat (first | exact Below.refl _ _ | (refine Below.alloc ?_ (by first | omega | (simp; omega) | simp) _) | (refine Below.setCell ?_ (by first | omega | (simp; omega) | simp) _) | refine Below.drew ?_)) : Below w.heap.size w _).trans (hb1.mono (by first | (simp; done) | (simp; omega) | omega))
  clear hb1
  go_wp2_with fail
  go_ret2
  exact ⟨rfl, hw1⟩
set_option maxRecDepth 100000 in
set_option maxHeartbeats 1000000 in
theorem Good_yes (s : FShop) (ma : Option Addr) (ml mc : Nat) (wa : Option Addr) (wl wc : Nat) (na : Option Addr) (nl nc : Nat) (xa : Option Addr) (xl xc : Nat) (x : List Int) (w : World) (hp : FAt w ma ml mc wa wl wc na nl nc s) (hx : IntsAt w xa xl x) (hv : s.chk = 0) :
    Calls Try.prog 56 #[.agg #[.slice ma ml mc, .slice wa wl wc, .slice na nl nc, .int .i64 s.fresh], .slice xa xl xc] w fun e w' => e = .returned (.tuple #[.bool (sharesB s.moulds x), .int .i64 0]) ∧ Below w.heap.size w w' := by
  have HC := Lib.hid (fun w1 (hb : Below w.heap.size w w1) => Check_is s ma ml mc wa wl wc na nl nc 0 hv w1 (hp.below hb))
  have HI := Lib.hid (fun w1 (hb : Below w.heap.size w w1) => isShares_any s ma ml mc wa wl wc na nl nc xa xl xc x w1 (hp.below hb).1 (hx.below hb))
  clear hp hv hx
  generalize sharesB s.moulds x = r at *
  go_enter Try.func56, Try.ntmps56
  go_wp2_with fail
  refine (HC.out _ (by repeat (first | exact Below.refl _ _ | (refine Below.alloc ?_ (by first | omega | (simp; omega) | simp) _) | (refine Below.setCell ?_ (by first | omega | (simp; omega) | simp) _) | refine Below.drew ?_))).mono ?_
  rintro e w1 ⟨rfl, hb1⟩
  obtain ⟨hc1, hf1⟩ := bcell hb1
  have hz1 := hb1.size
  simp at hz1
  have hw1 := ((by repeat (first | exact Below.refl _ _ | (refine Below.alloc ?_ (by first | omega | (simp; omega) | simp) _) | (refine Below.setCell ?_ (by first | omega | (simp; omega) | simp) _) | refine Below.drew ?_)) : Below w.heap.size w _).trans (hb1.mono (by first | (simp; done) | (simp; omega) | omega))
  have q1 : w.heap.size < w1.heap.size := by omega
  clear hb1
  go_wp2_with fail
  refine (HI.out _ (by repeat (first | assumption | exact Below.refl _ _ | (refine Below.alloc ?_ (by first | omega | (simp; omega) | simp) _) | (refine Below.setCell ?_ (by first | omega | (simp; omega) | simp) _) | refine Below.drew ?_))).mono ?_
  rintro e w2 ⟨rfl, hb2⟩
  have hw2 := hw1.trans (hb2.mono hw1.size)
  go_wp2_with fail
  go_ret2
  exact ⟨rfl, hw2⟩

/-- The numbers of the first so many worlds that agree. -/
def whichTo (s : FShop) (k : Nat) : List Int := ((List.range k).filter fun i => agreeB s.moulds (s.worlds[i]?.getD [])).map fun (i : Nat) => (i : Int)
theorem whichTo_next {s : FShop} {k : Nat} (h : k < s.worlds.length) : whichTo s (k + 1) = whichTo s k ++ (if agreeB s.moulds s.worlds[k] then [(k : Int)] else []) := by
  unfold whichTo
  rw [List.range_succ, List.filter_append, List.map_append]
  congr 1
  cases hb : agreeB s.moulds s.worlds[k] <;> simp [h, hb]
theorem whichTo_len (s : FShop) (k : Nat) : (whichTo s k).length ≤ k := by
  unfold whichTo
  rw [List.length_map]
  exact Nat.le_trans (List.length_filter_le _ _) (by simp)
def FShop.which (s : FShop) : List Int := whichTo s s.worlds.length

set_option maxRecDepth 100000 in
set_option maxHeartbeats 1000000 in
theorem Worlds_no (s : FShop) (ma : Option Addr) (ml mc : Nat) (wa : Option Addr) (wl wc : Nat) (na : Option Addr) (nl nc : Nat) (v : Int) (hv : s.chk = v) (h0 : v ≠ 0) (w : World) (hp : FAt w ma ml mc wa wl wc na nl nc s) :
    Calls Try.prog 20 #[.agg #[.slice ma ml mc, .slice wa wl wc, .slice na nl nc, .int .i64 s.fresh]] w fun e w' => e = .returned (.tuple #[.slice none 0 0, .int .i64 v]) ∧ Below w.heap.size w w' := by
  have HC := Lib.hid (fun w1 (hb : Below w.heap.size w w1) => Check_is s ma ml mc wa wl wc na nl nc v hv w1 (hp.below hb))
  have e1 : (v == 0) = false := by simpa using h0
  have e2 : (v != 0) = true := by simpa using h0
  clear hp hv
  go_enter Try.func20, Try.ntmps20
  go_wp2_with fail
  refine (HC.out _ (by repeat (first | exact Below.refl _ _ | (refine Below.alloc ?_ (by first | omega | (simp; omega) | simp) _) | (refine Below.setCell ?_ (by first | omega | (simp; omega) | simp) _) | refine Below.drew ?_))).mono ?_
  rintro e w1 ⟨rfl, hb1⟩
  have hw1 := ((by repeat (first | exact Below.refl _ _ | (refine Below.alloc ?_ (by first | omega | (simp; omega) | simp) _) | (refine Below.setCell ?_ (by first | omega | (simp; omega) | simp) _) | refine Below.drew ?_)) : Below w.heap.size w _).trans (hb1.mono (by first | (simp; done) | (simp; omega) | omega))
  clear hb1
  go_wp2_with fail
  go_ret2
  exact ⟨rfl, hw1⟩

set_option maxRecDepth 100000 in
set_option maxHeartbeats 4000000 in
theorem Worlds_yes (s : FShop) (ma : Option Addr) (ml mc : Nat) (wa : Option Addr) (wl wc : Nat) (na : Option Addr) (nl nc : Nat) (w : World) (hp : FAt w ma ml mc wa wl wc na nl nc s) (ho : s.ok = true) (hv : s.chk = 0) :
    Calls Try.prog 20 #[.agg #[.slice ma ml mc, .slice wa wl wc, .slice na nl nc, .int .i64 s.fresh]] w fun e w' => OutPost s.which w e w' := by
  have hfew := FShop.ok_few ho
  have HC := Lib.hid (fun w1 (hb : Below w.heap.size w w1) => Check_is s ma ml mc wa wl wc na nl nc 0 hv w1 (hp.below hb))
  have HAG := Lib.hid (fun W (hb : Below w.heap.size w W) xa xc x b (h : agreeB s.moulds x = b) (hx : IntsAt W xa ml x) => agrees_is s ma ml mc wa wl wc na nl nc xa xc x b h W (hp.below hb).1 hx)
  have HOW := Lib.hid (fun k hk => (FShop.ok_world ho k hk).1)
  have HNX := Lib.hid (fun k hk => whichTo_next (s := s) (k := k) hk)
  have HLE := Lib.hid (fun k => whichTo_len s k)
  obtain ⟨⟨hml, -, -⟩, ⟨hwl, -, hwc⟩, -⟩ := hp
  have hw6 : wl ≤ 6 := by omega
  have HML := Lib.hid hml
  have HWL := Lib.hid hwl
  have HWC := Lib.hid hwc
  clear hml hwl hwc hfew ho hv
  unfold OutPost
  go_enter Try.func20, Try.ntmps20
  go_wp2_with fail
  refine (HC.out _ (by repeat (first | exact Below.refl _ _ | (refine Below.alloc ?_ (by first | omega | (simp; omega) | simp) _) | (refine Below.setCell ?_ (by first | omega | (simp; omega) | simp) _) | refine Below.drew ?_))).mono ?_
  rintro e w1 ⟨rfl, hb1⟩
  have hz1 := hb1.size
  simp at hz1
  have hs1 : ∀ i, w1.cell? ⟨w.heap.size, i, none⟩ = (#[.slice ma ml mc, .slice wa wl wc, .slice na nl nc, .int .i64 s.fresh] : Array Value)[i]? := fun i => (hb1.cell (p := ⟨w.heap.size, i, none⟩) (by simp)).trans (World.cell?_alloc_new w _ _ i)
  have HB0 := Lib.hid (((by repeat (first | exact Below.refl _ _ | (refine Below.alloc ?_ (by first | omega | (simp; omega) | simp) _) | (refine Below.setCell ?_ (by first | omega | (simp; omega) | simp) _) | refine Below.drew ?_)) : Below w.heap.size w _).trans (hb1.mono (by first | (simp; done) | (simp; omega) | omega)))
  obtain ⟨x0, x1, x2, x3⟩ : w1.cell? ⟨w.heap.size, 0, none⟩ = some (.slice ma ml mc) ∧ w1.cell? ⟨w.heap.size, 1, none⟩ = some (.slice wa wl wc) ∧ w1.cell? ⟨w.heap.size, 2, none⟩ = some (.slice na nl nc) ∧ w1.cell? ⟨w.heap.size, 3, none⟩ = some (.int .i64 s.fresh) := ⟨hs1 0, hs1 1, hs1 2, hs1 3⟩
  have q1 : w.heap.size < w1.heap.size := by omega
  have HS1 := Lib.hid hs1
  clear hb1 hs1
  go_wp2_with fail
  clear x0 x1 x2 x3
  go_loopw [5, 16] (fun v i wr => ∃ k : Nat, k ≤ wl ∧ i = .int .i64 k ∧ wr.ownsRow w1.heap.size 3 1 v (whichTo s k).length ((whichTo s k).map (Value.int .i64)) ∧ Below w1.heap.size w1 wr) (fun _ i _ => wl - (intOf i).toNat)
  case atStart => exact ⟨0, by omega, rfl, World.ownsRow_nil _ _ _ _, Below.refl _ _⟩
  case round =>
    obtain ⟨k, hk, rfl, hrow, hB⟩ := hrel
    have HROW := Lib.hid hrow
    have HB := Lib.hid hB
    clear hrow
    obtain ⟨W1, rfl⟩ : ∃ W1 : World, W1 = wr := ⟨_, rfl⟩
    by_cases hlt : k < wl
    · have hk2 : k < s.worlds.length := by rw [HWL.out]; exact hlt
      obtain ⟨b, o, rfl, hbB, hcell⟩ := HWC.out (by omega)
      obtain ⟨ra, rl, rc, hcc, hii⟩ := hcell k hk2
      have hBw := HB0.out.trans (hB.mono HB0.out.size)
      have hcx := (hBw.cell (p := ⟨b, o + k, none⟩) hbB).trans hcc
      have hrl := HOW.out k hk2
      obtain rfl : ml = rl := by rw [← HML.out, ← hii.1]; exact hrl.symm
      have hkl : (k : Int) < (wl : Int) := by omega
      have hk0 : (0 : Int) ≤ (k : Int) := by omega
      have HII := Lib.hid (hii.below hBw)
      have HNX1 := Lib.hid (HNX.out k hk2)
      have hlen : (whichTo s k).length ≤ 6 := by have := HLE.out k; omega
      have hzr := hB.size
      have hbx := fun i => (hB.cell (p := ⟨w.heap.size, i, none⟩) q1).trans (HS1.out i)
      obtain ⟨x0, x1, x2, x3⟩ : W1.cell? ⟨w.heap.size, 0, none⟩ = some (.slice ma ml mc) ∧ W1.cell? ⟨w.heap.size, 1, none⟩ = some (.slice (some ⟨b, o, none⟩) wl wc) ∧ W1.cell? ⟨w.heap.size, 2, none⟩ = some (.slice na nl nc) ∧ W1.cell? ⟨w.heap.size, 3, none⟩ = some (.int .i64 s.fresh) := ⟨hbx 0, hbx 1, hbx 2, hbx 3⟩
      have HBw := Lib.hid hBw
      clear hbx hB hcell hcc hii hBw
      rcases hag : agreeB s.moulds s.worlds[k] with - | -
      · have HA := Lib.hid (HAG.out W1 HBw.out ra rc _ _ hag HII.out)
        have HN := Lib.hid (HNX1.out.trans (show _ = whichTo s k by rw [hag]; simp))
        clear hag
        go_wp2_with fail
        refine HA.out.mono ?_
        rintro e w2 ⟨rfl, hb2⟩
        have HB1 := Lib.hid (HB.out.trans (hb2.mono hzr))
        have HROW1 := Lib.hid (HROW.out.kept (grown_none hb2) (Classical.em _))
        clear hb2
        go_wp2_with fail
        go_roundw
        case rel => exact ⟨k + 1, by omega, by go_num, by rw [HN.out]; exact HROW1.out, HB1.out⟩
        case measure => simp [intOf]; omega
      · have HA := Lib.hid (HAG.out W1 HBw.out ra rc _ _ hag HII.out)
        have HN := Lib.hid (HNX1.out.trans (show _ = whichTo s k ++ [(k : Int)] by rw [hag]; simp))
        clear hag
        go_wp2_with fail
        refine HA.out.mono ?_
        rintro e w2 ⟨rfl, hb2⟩
        have HB1 := Lib.hid (HB.out.trans (hb2.mono hzr))
        have HROW1 := Lib.hid (HROW.out.kept (grown_none hb2) (Classical.em _))
        clear hb2
        go_wp2_with (at_builtin; refine wpList_append_one _ w1.heap.size _ w2.heap.size _ _ (k : Int) rfl _ _ rfl rfl rfl (HROW1.out.alloc _) (by go_simp) (by omega) (by simp; have := HB1.out.size; omega) ?_; intro v' w5 hown' hgrow; have HO5 := Lib.hid hown'; have HG5 := Lib.hid hgrow; clear hown' hgrow)
        go_roundw
        case rel =>
          refine ⟨k + 1, by omega, by go_num, by rw [HN.out]; simpa using HO5.out, ?_⟩
          refine Below.grown (HB1.out.alloc HB1.out.size _) HG5.out (by simp; have := HB1.out.size; omega) (fun r hr => ?_)
          rcases Nat.lt_or_ge r w1.heap.size with h | h
          · exact absurd hr (own_ge HROW1.out h)
          · exact h
        case measure => simp [intOf]; omega
    · obtain rfl : wl = k := by omega
      have HBW := Lib.hid (HB0.out.trans (HB.out.mono HB0.out.size))
      have hlen : (whichTo s wl).length ≤ 6 := by have := HLE.out wl; omega
      obtain ⟨la, lc, rfl⟩ := own_slice HROW.out
      have HR := Lib.hid (show s.which = whichTo s wl by rw [FShop.which, HWL.out])
      clear hB
      go_wp2_with fail
      go_ret2
      exact ⟨la, lc, by rw [HR.out]; rfl, by rw [HR.out]; exact ints_own HROW.out (by unfold maxLen; omega), HBW.out⟩
end Go.Proofs.Ytigeiaiohdemiaa
