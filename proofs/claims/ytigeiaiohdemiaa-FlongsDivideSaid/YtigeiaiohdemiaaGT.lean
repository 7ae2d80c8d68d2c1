/- Flongs: the reference's Fails and Chance. -/
import Derived.Test.YtigeiaiohdemiaaGS
namespace Go.Proofs.Ytigeiaiohdemiaa
set_option linter.unusedVariables false
set_option linter.unusedSimpArgs false
open Go.RowKit
attribute [local go_sem] field_span

theorem bothN_drew {N : Nat} {W0 w1 : World} (h : Below N W0 w1 ∧ ∀ b o, b < N → w1.cell? ⟨b, o, none⟩ = W0.cell? ⟨b, o, none⟩) :
    Below N W0 w1.drew ∧ ∀ b o, b < N → w1.drew.cell? ⟨b, o, none⟩ = W0.cell? ⟨b, o, none⟩ := ⟨h.1.drew, h.2⟩
theorem bothN_alloc {N : Nat} {W0 w1 : World} (hN : N ≤ W0.heap.size) (o : Obj) (h : Below N W0 w1 ∧ ∀ b o, b < N → w1.cell? ⟨b, o, none⟩ = W0.cell? ⟨b, o, none⟩) :
    Below N W0 (w1.alloc o) ∧ ∀ b o', b < N → (w1.alloc o).cell? ⟨b, o', none⟩ = W0.cell? ⟨b, o', none⟩ :=
  ⟨h.1.alloc (Nat.le_trans hN h.1.size) _, fun b _ hb => (h.1.alloc (Nat.le_trans hN h.1.size) _).cell (p := ⟨b, _, none⟩) hb⟩
theorem bothN_set {N : Nat} {W0 w1 : World} (p : Addr) (v : Value) (hp : N ≤ p.block) (h : Below N W0 w1 ∧ ∀ b o, b < N → w1.cell? ⟨b, o, none⟩ = W0.cell? ⟨b, o, none⟩) :
    Below N W0 (w1.setCell p v) ∧ ∀ b o', b < N → (w1.setCell p v).cell? ⟨b, o', none⟩ = W0.cell? ⟨b, o', none⟩ :=
  ⟨h.1.setCell hp _, fun b _ hb => (h.1.setCell hp _).cell (p := ⟨b, _, none⟩) hb⟩
theorem bothN2 {P : Program} {f : FuncId} {args : Array Value} {N : Nat} {W0 w1 : World} {R : Ending → World → Prop} (hN : N ≤ W0.heap.size) (h : Calls P f args w1 fun e w' => R e w' ∧ Below w1.heap.size w1 w')
    (h1 : Below N W0 w1 ∧ ∀ b o, b < N → w1.cell? ⟨b, o, none⟩ = W0.cell? ⟨b, o, none⟩) :
    Calls P f args w1 fun e w' => R e w' ∧ (Below N W0 w' ∧ ∀ b o, b < N → w'.cell? ⟨b, o, none⟩ = W0.cell? ⟨b, o, none⟩) ∧
      (∀ b o, b < w1.heap.size → w'.cell? ⟨b, o, none⟩ = w1.cell? ⟨b, o, none⟩) ∧ (∀ b o, b < w1.heap.size → w'.frozen? ⟨b, o, none⟩ = w1.frozen? ⟨b, o, none⟩) ∧ w1.heap.size ≤ w'.heap.size :=
  h.mono fun e w' ⟨he, hb⟩ => ⟨he, ⟨h1.1.trans (hb.mono (Nat.le_trans hN h1.1.size)), fun b o hbo => (h1.1.trans (hb.mono (Nat.le_trans hN h1.1.size))).cell (p := ⟨b, o, none⟩) hbo⟩, fun b o hbo => hb.cell (p := ⟨b, o, none⟩) hbo, fun b o hbo => hb.frozen (p := ⟨b, o, none⟩) hbo, hb.size⟩
theorem bothN1 {P : Program} {f : FuncId} {args : Array Value} {N : Nat} {W0 w1 : World} {v : Value} (hN : N ≤ W0.heap.size) (h : Calls P f args w1 fun e w' => e = .returned v ∧ Below w1.heap.size w1 w')
    (h1 : Below N W0 w1 ∧ ∀ b o, b < N → w1.cell? ⟨b, o, none⟩ = W0.cell? ⟨b, o, none⟩) :
    Calls P f args w1 fun e w' => e = .returned v ∧ (Below N W0 w' ∧ ∀ b o, b < N → w'.cell? ⟨b, o, none⟩ = W0.cell? ⟨b, o, none⟩) ∧
      (∀ b o, b < w1.heap.size → w'.cell? ⟨b, o, none⟩ = w1.cell? ⟨b, o, none⟩) ∧ (∀ b o, b < w1.heap.size → w'.frozen? ⟨b, o, none⟩ = w1.frozen? ⟨b, o, none⟩) ∧ w1.heap.size ≤ w'.heap.size := bothN2 hN h h1

set_option maxRecDepth 100000 in
set_option maxHeartbeats 4000000 in
theorem refFails_yes (s : FShop) (ma : Option Addr) (ml mc : Nat) (wa : Option Addr) (wl wc : Nat) (na : Option Addr) (nl nc : Nat) (xa : Option Addr) (xl xc : Nat) (x : List Int) (w : World) (hp : FAt w ma ml mc wa wl wc na nl nc s) (hx : IntsAt w xa xl x) (ho : s.ok = true) (hsh : sharesB s.moulds x = true) (hl0 : 0 < s.left.length) :
    Calls Try.prog 65 #[.agg #[.slice ma ml mc, .slice wa wl wc, .slice na nl nc, .int .i64 s.fresh], .slice xa xl xc] w fun e w' => OutPost (failsOf (loOf s.left) x) w e w' := by
  have hx5 : xl ≤ 5 := by have := shares_len ho hsh; have := hx.1; omega
  have hv : s.ask (sharesB s.moulds x) = 0 := by unfold FShop.ask; rw [ho, if_pos rfl, hsh, if_pos rfl, if_neg (by omega)]
  have HG := Lib.hid (fun W (hb : Below w.heap.size w W) => refGiven_is s ma ml mc wa wl wc na nl nc xa xl xc x 0 hv W (hp.below hb) (hx.below hb))
  have HLO := Lib.hid (fun m (hm : m < x.length) W (hb : Below w.heap.size w W) => refLeftOf_is s ma ml mc wa wl wc na nl nc m (by have := (shares_bd hsh).1; omega) ho hl0 W (hp.below hb))
  have HNX := Lib.hid (fun k hk => failsTo_next (g := loOf s.left) (x := x) (k := k) hk)
  have HLE := Lib.hid (fun k => failsTo_len (loOf s.left) x k)
  have HR := Lib.hid (show failsOf (loOf s.left) x = failsTo (loOf s.left) x x.length from rfl)
  obtain ⟨hxl, -, hxc⟩ := hx
  have HXL := Lib.hid hxl
  have HXC := Lib.hid hxc
  clear hp hxl hxc ho hsh hv hl0
  unfold OutPost
  generalize failsOf (loOf s.left) x = fl at *
  generalize loOf s.left = lo at *
  generalize hiOf s.left = hi at *
  go_enter Try.func65, Try.ntmps65
  go_wp2_with fail
  refine (HG.out _ (by repeat (first | exact Below.refl _ _ | (refine Below.alloc ?_ (by first | omega | (simp; omega) | simp) _) | (refine Below.setCell ?_ (by first | omega | (simp; omega) | simp) _) | refine Below.drew ?_))).mono ?_
  rintro e w1 ⟨rfl, hb1⟩
  have hx0 := fun i => (hb1.cell (p := ⟨w.heap.size, i, none⟩) (by simp)).trans (World.cell?_alloc_new w #[.slice ma ml mc, .slice wa wl wc, .slice na nl nc, .int .i64 s.fresh] 26 i)
  obtain ⟨x0, x1, x2, x3⟩ : w1.cell? ⟨w.heap.size, 0, none⟩ = some (.slice ma ml mc) ∧ w1.cell? ⟨w.heap.size, 1, none⟩ = some (.slice wa wl wc) ∧ w1.cell? ⟨w.heap.size, 2, none⟩ = some (.slice na nl nc) ∧ w1.cell? ⟨w.heap.size, 3, none⟩ = some (.int .i64 s.fresh) := ⟨hx0 0, hx0 1, hx0 2, hx0 3⟩
  have HX0 := Lib.hid hx0
  have hz := hb1.size
  simp at hz
  have q1 : w.heap.size < w1.heap.size := by omega
  have HB1 := Lib.hid (((by repeat (first | exact Below.refl _ _ | (refine Below.alloc ?_ (by first | omega | (simp; omega) | simp) _) | (refine Below.setCell ?_ (by first | omega | (simp; omega) | simp) _) | refine Below.drew ?_)) : Below w.heap.size w _).trans (hb1.mono (by first | (simp; done) | (simp; omega) | omega)))
  clear hb1 hx0 hz
  go_wp2_with fail
  clear x0 x1 x2 x3
  go_loopw [7, 8] (fun v i wr => ∃ k : Nat, k ≤ xl ∧ i = .int .i64 k ∧ wr.ownsRow w1.heap.size 3 1 v (failsTo lo x k).length ((failsTo lo x k).map (Value.int .i64)) ∧ Below w1.heap.size w1 wr) (fun _ i _ => xl - (intOf i).toNat)
  case atStart => exact ⟨0, by omega, rfl, World.ownsRow_nil _ _ _ _, Below.refl _ _⟩
  case round =>
    obtain ⟨k, hk, rfl, hrow, hB⟩ := hrel
    have HROW := Lib.hid hrow
    have HB := Lib.hid hB
    clear hrow
    obtain ⟨W1, rfl⟩ : ∃ W1 : World, W1 = wr := ⟨_, rfl⟩
    obtain ⟨x0, x1, x2, x3⟩ : W1.cell? ⟨w.heap.size, 0, none⟩ = some (.slice ma ml mc) ∧ W1.cell? ⟨w.heap.size, 1, none⟩ = some (.slice wa wl wc) ∧ W1.cell? ⟨w.heap.size, 2, none⟩ = some (.slice na nl nc) ∧ W1.cell? ⟨w.heap.size, 3, none⟩ = some (.int .i64 s.fresh) := ⟨(hB.cell (p := ⟨w.heap.size, 0, none⟩) q1).trans (HX0.out 0), (hB.cell (p := ⟨w.heap.size, 1, none⟩) q1).trans (HX0.out 1), (hB.cell (p := ⟨w.heap.size, 2, none⟩) q1).trans (HX0.out 2), (hB.cell (p := ⟨w.heap.size, 3, none⟩) q1).trans (HX0.out 3)⟩
    have hbw := HB1.out.trans (hB.mono HB1.out.size)
    by_cases hlt : k < xl
    · have hk2 : k < x.length := by rw [HXL.out]; exact hlt
      obtain ⟨b, o, rfl, hbB, hcell⟩ := HXC.out (by omega)
      have hcx := (hbw.cell (p := ⟨b, o + k, none⟩) hbB).trans (hcell k hk2)
      have hbW : b < W1.heap.size := Nat.lt_of_lt_of_le hbB hbw.size
      have hwW : w.heap.size < W1.heap.size := Nat.lt_of_lt_of_le q1 hB.size
      have HLX := Lib.hid (fun W (h : Below W1.heap.size W1 W ∧ ∀ b o, b < W1.heap.size → W.cell? ⟨b, o, none⟩ = W1.cell? ⟨b, o, none⟩) => bothS1 (W0 := W1) (HLO.out k hk2 W (hbw.trans (h.1.mono hbw.size))) h)
      have hkl : (k : Int) < (xl : Int) := by omega
      have hk0 : (0 : Int) ≤ (k : Int) := by omega
      have HNX1 := Lib.hid (HNX.out k hk2)
      have hlen : (failsTo lo x k).length ≤ 5 := by have := HLE.out k; omega
      have hzr := hB.size
      clear hB hcell hbw
      generalize hgk : lo k = gk at *
      generalize hhk : hi k = hk' at *
      generalize hxk : x[k] = xk at *
      obtain ⟨r, hr⟩ : ∃ r, decide (gk < xk) = r := ⟨_, rfl⟩
      have HRR := Lib.hid hr
      clear hr
      go_upto_region 8 with fail
      go_cut [29] (fun v wx => v = .bool r ∧ Below W1.heap.size W1 wx)
      case first =>
        go_region_held3 (fun w' => Below W1.heap.size W1 w' ∧ ∀ b o, b < W1.heap.size → w'.cell? ⟨b, o, none⟩ = W1.cell? ⟨b, o, none⟩) (first | with_reducible assumption | ((repeat (first | with_reducible refine bothS_drew ?_ | with_reducible refine bothS_alloc _ ?_ | with_reducible refine bothS_set _ _ (by first | omega | (simp; omega) | simp) ?_)); first | with_reducible assumption | with_reducible exact Hid.out (by assumption) | with_reducible exact ⟨Below.refl _ _, fun _ _ _ => rfl⟩)) (first | (go_at_call 79; with_reducible refine (HLX.out _ ?_).mono ?_; (first | with_reducible assumption | ((repeat (first | with_reducible refine bothS_drew ?_ | with_reducible refine bothS_alloc _ ?_ | with_reducible refine bothS_set _ _ (by first | omega | (simp; omega) | simp) ?_)); first | with_reducible assumption | with_reducible exact Hid.out (by assumption) | with_reducible exact ⟨Below.refl _ _, fun _ _ _ => rfl⟩)); rintro e w' ⟨rfl, k, k1, k2, k3⟩; have HK := Lib.hid k; (try simp at k3); (try have k6 := Nat.lt_of_succ_le k3); (try have k7 := Nat.lt_of_succ_lt k6); (try have k8 := Nat.lt_of_succ_lt k3)) | fail "no arm")
        all_goals (go_wp2_with fail; go_meet; exact ⟨by rw [← HRR.out], And.left (by assumption)⟩)
      case rest =>
      obtain ⟨rfl, hB5⟩ := hcut
      obtain ⟨w5, rfl⟩ : ∃ w5 : World, w5 = wc := ⟨_, rfl⟩
      have HB5 := Lib.hid (HB.out.trans (hB5.mono HB.out.size))
      have HROW5 := Lib.hid (HROW.out.kept (grown_none hB5) (Classical.em _))
      have hz5 := HB5.out.size
      clear hB5 hcx HLX
      clear x0 x1 x2 x3
      cases r
      · have h1 : ¬ gk < xk := by have := HRR.out; simpa using this
        have HN := Lib.hid (HNX1.out.trans (show _ = failsTo lo x k by rw [if_neg h1]; simp))
        clear h1
        go_wp2_with fail
        go_roundw
        case rel => exact ⟨k + 1, by omega, by go_num, by rw [HN.out]; exact HROW5.out, HB5.out⟩
        case measure => simp [intOf]; omega
      · have h1 : gk < xk := by have := HRR.out; simpa using this
        have HN := Lib.hid (HNX1.out.trans (show _ = failsTo lo x k ++ [(k : Int)] by rw [if_pos h1]))
        clear h1
        go_wp2_with (at_builtin; refine wpList_append_one _ w1.heap.size _ w5.heap.size _ _ (k : Int) rfl _ _ rfl rfl rfl (HROW5.out.alloc _) (by go_simp) (by omega) (by simp; omega) ?_; intro v' w6 hown' hgrow; have HO5 := Lib.hid hown'; have HG5 := Lib.hid hgrow; clear hown' hgrow)
        go_roundw
        case rel =>
          refine ⟨k + 1, by omega, by go_num, by rw [HN.out]; simpa using HO5.out, ?_⟩
          refine Below.grown (HB5.out.alloc HB5.out.size _) HG5.out (by simp; omega) (fun r hr => ?_)
          rcases Nat.lt_or_ge r w1.heap.size with h | h
          · exact absurd hr (own_ge HROW.out h)
          · exact h
        case measure => simp [intOf]; omega
    · obtain rfl : xl = k := by omega
      have HBX := Lib.hid hbw
      have hlen : (failsTo lo x xl).length ≤ 5 := by have := HLE.out xl; omega
      obtain ⟨lb, ld, rfl⟩ := own_slice HROW.out
      have HR2 := Lib.hid (show fl = failsTo lo x xl by rw [HR.out, HXL.out])
      clear hB hbw
      go_wp2_with fail
      go_ret2
      exact ⟨lb, ld, by rw [HR2.out]; rfl, by rw [HR2.out]; exact ints_own HROW.out (by unfold maxLen; omega), HBX.out⟩

set_option maxRecDepth 100000 in
set_option maxHeartbeats 4000000 in
theorem refChance_yes (s : FShop) (ma : Option Addr) (ml mc : Nat) (wa : Option Addr) (wl wc : Nat) (na : Option Addr) (nl nc : Nat) (xa : Option Addr) (xl xc : Nat) (x : List Int) (w : World) (hp : FAt w ma ml mc wa wl wc na nl nc s) (hx : IntsAt w xa xl x) (ho : s.ok = true) (hsh : sharesB s.moulds x = true) (hl0 : 0 < s.left.length) :
    Calls Try.prog 64 #[.agg #[.slice ma ml mc, .slice wa wl wc, .slice na nl nc, .int .i64 s.fresh], .slice xa xl xc] w fun e w' => e = .returned (.tuple #[.agg #[.int .i64 ((holdN s.left x / Nat.gcd (holdN s.left x) s.left.length : Nat) : Int), .int .i64 ((s.left.length / Nat.gcd (holdN s.left x) s.left.length : Nat) : Int)], .int .i64 0]) ∧ Below w.heap.size w w' := by
  have hv : s.ask (sharesB s.moulds x) = 0 := by unfold FShop.ask; rw [ho, if_pos rfl, hsh, if_pos rfl, if_neg (by omega)]
  have HG := Lib.hid (fun W (hb : Below w.heap.size w W) => refGiven_is s ma ml mc wa wl wc na nl nc xa xl xc x 0 hv W (hp.below hb) (hx.below hb))
  have HI := Lib.hid (fun W (hb : Below w.heap.size w W) => refInWorlds_is s ma ml mc wa wl wc na nl nc xa xl xc x ho (shares_bd hsh).1 W (hp.below hb) (hx.below hb))
  have HWO := Lib.hid (fun W (hb : Below w.heap.size w W) => refWorldsOf_r s ma ml mc wa wl wc na nl nc W (hp.below hb) ho)
  have hl6 := left_few ho
  have hh6 : holdN s.left x ≤ 6 := by have := holdTo_few s.left x s.left.length; rw [show holdTo s.left x s.left.length = holdN s.left x by rw [holdTo, List.take_of_length_le (Nat.le_refl _)]; rfl] at this; omega
  have HRD := Lib.hid (fun W => Reduced_any (holdN s.left x) s.left.length hh6 hl0 hl6 W)
  clear hp hx ho hsh hv
  generalize hP : ((holdN s.left x / Nat.gcd (holdN s.left x) s.left.length : Nat) : Int) = P at *
  generalize hQ : ((s.left.length / Nat.gcd (holdN s.left x) s.left.length : Nat) : Int) = Q at *
  clear hP hQ
  generalize holdN s.left x = hn at *
  generalize s.left.length = all at *
  go_enter Try.func64, Try.ntmps64
  go_wp2_with fail
  obtain ⟨W0, hW0, hB0, hs0, hr0, -, hrf, hz0⟩ := name2e w #[.slice ma ml mc, .slice wa wl wc, .slice na nl nc, .int .i64 s.fresh] 26 #[.int .i64 0, .int .i64 0] 62
  rw [hW0]
  clear hW0
  obtain ⟨x0, x1, x2, x3⟩ : W0.cell? ⟨w.heap.size, 0, none⟩ = some (.slice ma ml mc) ∧ W0.cell? ⟨w.heap.size, 1, none⟩ = some (.slice wa wl wc) ∧ W0.cell? ⟨w.heap.size, 2, none⟩ = some (.slice na nl nc) ∧ W0.cell? ⟨w.heap.size, 3, none⟩ = some (.int .i64 s.fresh) := ⟨hs0 0, hs0 1, hs0 2, hs0 3⟩
  have z0 : w.heap.size < W0.heap.size := by omega
  have z1 : w.heap.size + 1 < W0.heap.size := by omega
  refine (HG.out _ hB0).mono ?_
  rintro e w1 ⟨rfl, hb1⟩
  clear x0 x1 x2 x3
  obtain ⟨x0, x1, x2, x3⟩ : w1.cell? ⟨w.heap.size, 0, none⟩ = some (.slice ma ml mc) ∧ w1.cell? ⟨w.heap.size, 1, none⟩ = some (.slice wa wl wc) ∧ w1.cell? ⟨w.heap.size, 2, none⟩ = some (.slice na nl nc) ∧ w1.cell? ⟨w.heap.size, 3, none⟩ = some (.int .i64 s.fresh) := ⟨(hb1.cell (p := ⟨w.heap.size, 0, none⟩) z0).trans (hs0 0), (hb1.cell (p := ⟨w.heap.size, 1, none⟩) z0).trans (hs0 1), (hb1.cell (p := ⟨w.heap.size, 2, none⟩) z0).trans (hs0 2), (hb1.cell (p := ⟨w.heap.size, 3, none⟩) z0).trans (hs0 3)⟩
  have r0 : w1.cell? ⟨w.heap.size + 1, 0, none⟩ = some (.int .i64 0) := (hb1.cell (p := ⟨w.heap.size + 1, 0, none⟩) z1).trans (hr0 0)
  have r1 : w1.cell? ⟨w.heap.size + 1, 1, none⟩ = some (.int .i64 0) := (hb1.cell (p := ⟨w.heap.size + 1, 1, none⟩) z1).trans (hr0 1)
  have r2 : w1.frozen? ⟨w.heap.size + 1, 0, none⟩ = false := (hb1.frozen (p := ⟨w.heap.size + 1, 0, none⟩) z1).trans (hrf 0)
  have r3 : w1.frozen? ⟨w.heap.size + 1, 1, none⟩ = false := (hb1.frozen (p := ⟨w.heap.size + 1, 1, none⟩) z1).trans (hrf 1)
  have zN : w.heap.size + 1 < w1.heap.size := Nat.lt_of_lt_of_le z1 hb1.size
  have hN : w.heap.size + 1 ≤ w1.heap.size := Nat.le_of_lt zN
  have hw1 := hB0.trans (hb1.mono hB0.size)
  have hNw : w.heap.size ≤ w.heap.size + 1 := by omega
  have HIX := Lib.hid (fun W (h : Below (w.heap.size + 1) w1 W ∧ ∀ b o, b < w.heap.size + 1 → W.cell? ⟨b, o, none⟩ = w1.cell? ⟨b, o, none⟩) => bothN1 (W0 := w1) hN (HI.out W (hw1.trans (h.1.mono hNw))) h)
  have HWX := Lib.hid (fun W (h : Below (w.heap.size + 1) w1 W ∧ ∀ b o, b < w.heap.size + 1 → W.cell? ⟨b, o, none⟩ = w1.cell? ⟨b, o, none⟩) => bothN2 (W0 := w1) hN (HWO.out W (hw1.trans (h.1.mono hNw))) h)
  have HRX := Lib.hid (fun W (h : Below (w.heap.size + 1) w1 W ∧ ∀ b o, b < w.heap.size + 1 → W.cell? ⟨b, o, none⟩ = w1.cell? ⟨b, o, none⟩) => bothN1 (W0 := w1) hN (HRD.out W) h)
  have HW1 := Lib.hid hw1
  have hw0 : w.heap.size < w.heap.size + 1 := by omega
  clear hb1 hB0 hs0 hr0 hrf hz0 z0 z1 hw1
  go_upto_region 4 with fail
  go_cut [5] (fun v5 wx => v5 = .int .i64 0 ∧ wx.cell? ⟨w.heap.size + 1, 0, none⟩ = some (.int .i64 P) ∧ wx.cell? ⟨w.heap.size + 1, 1, none⟩ = some (.int .i64 Q) ∧ Below (w.heap.size + 1) w1 wx)
  case first =>
    go_region_held3 (fun w' => Below (w.heap.size + 1) w1 w' ∧ ∀ b o, b < w.heap.size + 1 → w'.cell? ⟨b, o, none⟩ = w1.cell? ⟨b, o, none⟩) (first | with_reducible assumption | ((repeat (first | with_reducible refine bothN_drew ?_ | with_reducible refine bothN_alloc hN _ ?_ | with_reducible refine bothN_set _ _ (by first | omega | (simp; omega) | simp) ?_)); first | with_reducible assumption | with_reducible exact ⟨Below.refl _ _, fun _ _ _ => rfl⟩)) (first
      | (go_at_call 95; (with_reducible refine (HIX.out _ ?_).mono ?_); (· (first | with_reducible assumption | ((repeat (first | with_reducible refine bothN_drew ?_ | with_reducible refine bothN_alloc hN _ ?_ | with_reducible refine bothN_set _ _ (by first | omega | (simp; omega) | simp) ?_)); first | with_reducible assumption | with_reducible exact ⟨Below.refl _ _, fun _ _ _ => rfl⟩))); rintro e w' ⟨rfl, k1, k2, k3, k4⟩; have c0 : _ = some (Value.int .i64 0) := (k2 (w.heap.size + 1) 0 (by first | assumption | with_unfolding_all exact zN)).trans (by first | assumption | with_unfolding_all exact r0); have c1 : _ = some (Value.int .i64 0) := (k2 (w.heap.size + 1) 1 (by first | assumption | with_unfolding_all exact zN)).trans (by first | assumption | with_unfolding_all exact r1); have c2 : _ = false := (k3 (w.heap.size + 1) 0 (by first | assumption | with_unfolding_all exact zN)).trans (by first | assumption | with_unfolding_all exact r2); have c3 : _ = false := (k3 (w.heap.size + 1) 1 (by first | assumption | with_unfolding_all exact zN)).trans (by first | assumption | with_unfolding_all exact r3); have zz : w.heap.size + 1 < _ := Nat.lt_of_lt_of_le (by first | assumption | with_unfolding_all exact zN) k4)
      | (go_at_call 38; (with_reducible refine (HWX.out _ ?_).mono ?_); (· (first | with_reducible assumption | ((repeat (first | with_reducible refine bothN_drew ?_ | with_reducible refine bothN_alloc hN _ ?_ | with_reducible refine bothN_set _ _ (by first | omega | (simp; omega) | simp) ?_)); first | with_reducible assumption | with_reducible exact ⟨Below.refl _ _, fun _ _ _ => rfl⟩))); rintro e w' ⟨⟨la, lc, rfl⟩, k1, k2, k3, k4⟩; have c0 : _ = some (Value.int .i64 0) := (k2 (w.heap.size + 1) 0 (by first | assumption | with_unfolding_all exact zN)).trans (by first | assumption | with_unfolding_all exact r0); have c1 : _ = some (Value.int .i64 0) := (k2 (w.heap.size + 1) 1 (by first | assumption | with_unfolding_all exact zN)).trans (by first | assumption | with_unfolding_all exact r1); have c2 : _ = false := (k3 (w.heap.size + 1) 0 (by first | assumption | with_unfolding_all exact zN)).trans (by first | assumption | with_unfolding_all exact r2); have c3 : _ = false := (k3 (w.heap.size + 1) 1 (by first | assumption | with_unfolding_all exact zN)).trans (by first | assumption | with_unfolding_all exact r3); have zz : w.heap.size + 1 < _ := Nat.lt_of_lt_of_le (by first | assumption | with_unfolding_all exact zN) k4)
      | (go_at_call 83; (with_reducible refine (HRX.out _ ?_).mono ?_); (· (first | with_reducible assumption | ((repeat (first | with_reducible refine bothN_drew ?_ | with_reducible refine bothN_alloc hN _ ?_ | with_reducible refine bothN_set _ _ (by first | omega | (simp; omega) | simp) ?_)); first | with_reducible assumption | with_reducible exact ⟨Below.refl _ _, fun _ _ _ => rfl⟩))); rintro e w' ⟨rfl, k1, k2, k3, k4⟩; have c0 : _ = some (Value.int .i64 0) := (k2 (w.heap.size + 1) 0 (by first | assumption | with_unfolding_all exact zN)).trans (by first | assumption | with_unfolding_all exact r0); have c1 : _ = some (Value.int .i64 0) := (k2 (w.heap.size + 1) 1 (by first | assumption | with_unfolding_all exact zN)).trans (by first | assumption | with_unfolding_all exact r1); have c2 : _ = false := (k3 (w.heap.size + 1) 0 (by first | assumption | with_unfolding_all exact zN)).trans (by first | assumption | with_unfolding_all exact r2); have c3 : _ = false := (k3 (w.heap.size + 1) 1 (by first | assumption | with_unfolding_all exact zN)).trans (by first | assumption | with_unfolding_all exact r3); have zz : w.heap.size + 1 < _ := Nat.lt_of_lt_of_le (by first | assumption | with_unfolding_all exact zN) k4)
      | fail "no arm")
    all_goals (go_wp2_with fail; go_meet; refine ⟨rfl, ?_, ?_, And.left (by assumption)⟩ <;> (go_simp; done))
  case rest =>
  obtain ⟨rfl, t0, t1, hB1⟩ := hcut
  obtain ⟨w2, rfl⟩ : ∃ w2 : World, w2 = wc := ⟨_, rfl⟩
  have HBW := Lib.hid (HW1.out.trans (hB1.mono hNw))
  clear hB1 r0 r1 r2 r3
  clear x0 x1 x2 x3
  go_wp2_with fail
  refine bodyPost_ret (v := .tuple #[.agg #[.int .i64 P, .int .i64 Q], .int .i64 0]) (by simp [results, Try.results64, go_sem, t0, t1]) rfl ⟨rfl, ?_⟩
  have hBB := HBW.out
  exact (by repeat (first | assumption | exact Below.refl _ _ | (refine Below.alloc ?_ (by first | omega | (simp; omega) | simp) _) | (refine Below.setCell ?_ (by first | omega | (simp; omega) | simp) _) | refine Below.drew ?_))
end Go.Proofs.Ytigeiaiohdemiaa
