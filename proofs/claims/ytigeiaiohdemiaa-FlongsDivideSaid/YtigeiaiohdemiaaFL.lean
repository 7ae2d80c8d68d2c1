/- Package flongs: share, whole. -/
import Derived.Test.YtigeiaiohdemiaaFK
import Derived.Deep.RegionHeld3
import Derived.Deep.RegionLaw
import Derived.Deep.DeepCutAuto
namespace Go.Proofs.Ytigeiaiohdemiaa
set_option linter.unusedVariables false
set_option linter.unusedSimpArgs false
open Go.RowKit Go.Shelf

theorem RowI.below {w w' : World} {n0 b k cap : Nat} {x : List Int} (h : RowI w n0 b k cap x) (hb : Below w.heap.size w w') : RowI w' n0 b k cap x := h.block (hb.block _ h.lt)
theorem RowI.other {w w' : World} {n0 b k cap : Nat} {x : List Int} {row : Option Nat} (h : RowI w n0 b k cap x) (hg : w.grownBy w' row) (hne : some b ≠ row) : RowI w' n0 b k cap x := h.block (hg.block _ h.lt hne)
theorem rowS_of {W0 W : World} {R : Option Nat} (h : Below W0.heap.size W0 W) : W0.grownBy W R := ⟨h.os, h.tape, h.output, h.size, fun k hk _ => h.block k hk⟩
theorem gb_set0 (w : World) (b i : Nat) (v : Value) : w.grownBy (w.setCell ⟨b, i, none⟩ v) (some b) :=
  ⟨rfl, rfl, rfl, by simp [World.setCell], fun k hk hne => Below.heap_setCell w _ v k (fun e => hne (by rw [e]))⟩
theorem shS_keeps {N b c sb : Nat} {W1 w w' : World} {v0 v1 v2 v3 : Value} (h0 : N ≤ sb) (h1 : sb ≠ b) (h2 : sb ≠ c)
    (h : (w.cell? ⟨sb, 0, none⟩ = some v0 ∧ w.cell? ⟨sb, 1, none⟩ = some v1 ∧ w.cell? ⟨sb, 2, none⟩ = some v2 ∧ w.cell? ⟨sb, 3, none⟩ = some v3) ∧ KeepsBut N b c W1 w) (hk : KeepsBut N b c w w') :
    (w'.cell? ⟨sb, 0, none⟩ = some v0 ∧ w'.cell? ⟨sb, 1, none⟩ = some v1 ∧ w'.cell? ⟨sb, 2, none⟩ = some v2 ∧ w'.cell? ⟨sb, 3, none⟩ = some v3) ∧ KeepsBut N b c W1 w' := by
  obtain ⟨⟨k0, k1, k2, k3⟩, kk⟩ := h
  have hs := World.block_lt_of_cell? _ _ k0
  exact ⟨⟨(hk.cell h0 hs h1 h2 _).trans k0, (hk.cell h0 hs h1 h2 _).trans k1, (hk.cell h0 hs h1 h2 _).trans k2, (hk.cell h0 hs h1 h2 _).trans k3⟩, kk.trans hk⟩
theorem shS_drew {N b c sb : Nat} {W1 w : World} {v0 v1 v2 v3 : Value}
    (h : (w.cell? ⟨sb, 0, none⟩ = some v0 ∧ w.cell? ⟨sb, 1, none⟩ = some v1 ∧ w.cell? ⟨sb, 2, none⟩ = some v2 ∧ w.cell? ⟨sb, 3, none⟩ = some v3) ∧ KeepsBut N b c W1 w) :
    (w.drew.cell? ⟨sb, 0, none⟩ = some v0 ∧ w.drew.cell? ⟨sb, 1, none⟩ = some v1 ∧ w.drew.cell? ⟨sb, 2, none⟩ = some v2 ∧ w.drew.cell? ⟨sb, 3, none⟩ = some v3) ∧ KeepsBut N b c W1 w.drew := h
theorem shS_alloc {N b c sb : Nat} {W1 w : World} {v0 v1 v2 v3 : Value} (o : Obj)
    (h : (w.cell? ⟨sb, 0, none⟩ = some v0 ∧ w.cell? ⟨sb, 1, none⟩ = some v1 ∧ w.cell? ⟨sb, 2, none⟩ = some v2 ∧ w.cell? ⟨sb, 3, none⟩ = some v3) ∧ KeepsBut N b c W1 w) :
    ((w.alloc o).cell? ⟨sb, 0, none⟩ = some v0 ∧ (w.alloc o).cell? ⟨sb, 1, none⟩ = some v1 ∧ (w.alloc o).cell? ⟨sb, 2, none⟩ = some v2 ∧ (w.alloc o).cell? ⟨sb, 3, none⟩ = some v3) ∧ KeepsBut N b c W1 (w.alloc o) := by
  obtain ⟨⟨k0, k1, k2, k3⟩, kk⟩ := h
  have hs := World.block_lt_of_cell? _ _ k0
  have hb : Below w.heap.size w (w.alloc o) := (by repeat (first | exact Below.refl _ _ | (refine Below.alloc ?_ (by first | omega | (simp; omega) | simp) _) | (refine Below.setCell ?_ (by first | omega | (simp; omega) | simp) _) | refine Below.drew ?_))
  exact ⟨⟨(hb.cell (p := ⟨sb, 0, none⟩) hs).trans k0, (hb.cell (p := ⟨sb, 1, none⟩) hs).trans k1, (hb.cell (p := ⟨sb, 2, none⟩) hs).trans k2, (hb.cell (p := ⟨sb, 3, none⟩) hs).trans k3⟩, kk.trans (KeepsBut.below hb)⟩

set_option maxRecDepth 100000 in
set_option maxHeartbeats 8000000 in
theorem share_step (s : FShop) (ma : Option Addr) (ml mc : Nat) (wa : Option Addr) (wl wc : Nat) (na : Option Addr) (nl nc : Nat) (l N n0 b c ncap : Nat) (hnb : N ≤ n0) (hNc : N ≤ c) (hbc : b ≠ c) (hml : ml ≤ 5) (hnl : nl ≤ 3) (J : List (List Int) → World → Prop)
    (hS : ∀ pre W, J pre W → MouldsAt W ma ml s.moulds)
    (hJ : ∀ pre W W' row, J pre W → W.grownBy W' row → (row = none ∨ row = some b ∨ row = some c) → J pre W')
    (k : Nat) (m : Mould) (ms : List Mould) (hk : k < s.moulds.length) (hm : s.moulds[k] = m) (hkl : k < ml) (p : Nat) (hp : m.p = (p : Int)) (hpn : p < nl)
    (IH : ∀ (x cur : List Int) (pre : List (List Int)) (W : World), cur.length = nl → (∀ i (h : i < cur.length), 0 ≤ cur[i] ∧ cur[i] ≤ 12) → J pre W → RowI W n0 b (k + 1) ml x → HoldsI W c cur → (∀ y ∈ justsF ms cur x, y ∈ s.justs) →
      Calls Try.prog 105 #[.agg #[.slice ma ml mc, .slice wa wl wc, .slice na nl nc, .int .i64 s.fresh], .slice (some ⟨b, 0, none⟩) (k + 1) ml, .slice (some ⟨c, 0, none⟩) nl ncap, .func (.yield l) #[] #[]] W fun e W' => SharePost J N n0 b c (k + 1) ml x cur (justsF ms cur x) pre W e W')
    (x cur : List Int) (pre : List (List Int)) (W : World) (hcl : cur.length = nl) (hcb : ∀ i (h : i < cur.length), 0 ≤ cur[i] ∧ cur[i] ≤ 12) (hJp : J pre W) (hrow : RowI W n0 b k ml x) (hc : HoldsI W c cur)
    (hin : ∀ y ∈ justsF (m :: ms) cur x, y ∈ s.justs) :
    Calls Try.prog 105 #[.agg #[.slice ma ml mc, .slice wa wl wc, .slice na nl nc, .int .i64 s.fresh], .slice (some ⟨b, 0, none⟩) k ml, .slice (some ⟨c, 0, none⟩) nl ncap, .func (.yield l) #[] #[]] W fun e W' => SharePost J N n0 b c k ml x cur (justsF (m :: ms) cur x) pre W e W' := by
  have hpc : p < cur.length := by omega
  have hbW := hrow.lt
  have hcW := hc.1
  have hNb : N ≤ b := Nat.le_trans hnb hrow.parts.1
  obtain ⟨cp, hcp⟩ : ∃ cp, cur[p] = cp := ⟨_, rfl⟩
  have hcd : cur[m.p.toNat]?.getD 0 = cp := by rw [hp]; simp [hpc, hcp]
  have hc12 := hcb p hpc
  rw [hcp] at hc12
  obtain ⟨mv, hmv⟩ : ∃ mv, m.most = mv := ⟨_, rfl⟩
  have hmv2 : mv = 0 ∨ mv = 12 := by rw [← hmv]; unfold Mould.most; split <;> simp
  obtain ⟨q, hq⟩ : ∃ q : Nat, min mv cp + 1 = (q : Int) := ⟨(min mv cp + 1).toNat, by omega⟩
  have hq13 : q ≤ 13 ∧ (q : Int) ≤ cp + 1 := by omega
  have hto : justsF (m :: ms) cur x = justsTo m ms cur x q := by
    show justsTo m ms cur x (min m.most (cur[m.p.toNat]?.getD 0) + 1).toNat = _
    rw [hcd, hmv, hq]; simp
  have hnx : ∀ j, justsTo m ms cur x (j + 1) = justsTo m ms cur x j ++ justsF ms (cur.set p (cp - j)) (x ++ [(j : Int)]) := fun j => by
    rw [justsTo_succ, hcd, hp]; simp
  have hmem : ∀ j, j < q → ∀ y ∈ justsF ms (cur.set p (cp - j)) (x ++ [(j : Int)]), y ∈ s.justs := fun j hj y hy => hin y (by
    rw [hto]; exact justsTo_mem hj (by rw [hcd, hp]; simpa using hy))
  have HIH := Lib.hid (fun (j : Nat) (hj : j < q) (pr : List (List Int)) (W1 : World) (h1 : J pr W1) (h2 : RowI W1 n0 b (k + 1) ml (x ++ [(j : Int)])) (h3 : HoldsI W1 c (cur.set p (cp - j))) =>
    IH (x ++ [(j : Int)]) (cur.set p (cp - j)) pr W1 (by simpa using hcl) (fun i hi => by
      have hi' : i < cur.length := by simpa using hi
      by_cases e : i = p
      · subst e; rw [List.getElem_set_self]; omega
      · rw [List.getElem_set_ne (by omega)]; exact hcb i hi') h1 h2 h3 (hmem j hj))
  have hMo := hS _ _ hJp
  have HMO := Lib.hid (fun w1 (hb : Below W.heap.size W w1) => mostOf_is s ma ml mc wa wl wc na nl nc k mv w1 (hMo.below hb) hk (by rw [hm]; exact hmv))
  obtain ⟨-, hmm, hmc⟩ := hMo
  unfold maxLen at hmm
  obtain ⟨mb, mo, rfl, hmB, hcell⟩ := hmc (by omega)
  obtain ⟨c0, c1, c2⟩ := hcell k hk
  rw [hm, hp] at c0
  have HTO := Lib.hid hto
  have HNX := Lib.hid hnx
  have HJ := Lib.hid hJ
  have HSET := Lib.hid (show ∀ v, (cur.set p v).set p cp = cur from fun v => by rw [List.set_set, ← hcp]; exact List.set_getElem_self hpc)
  have hSP : ∀ new e W', SharePost J N n0 b c k ml x cur new pre W e W' ↔ (e = .returned (.bool true) ∧ J (pre ++ new) W' ∧ RowI W' n0 b k ml x ∧ HoldsI W' c cur ∧ KeepsBut N b c W W') := fun _ _ _ => Iff.rfl
  have HSP := Lib.hid hSP
  have HROW := Lib.hid hrow
  have HCC := Lib.hid hc
  have HJ0 := Lib.hid hJp
  have hNW : N ≤ W.heap.size := by omega
  have hbS : W.heap.size ≠ b := by omega
  have hcS : W.heap.size ≠ c := by omega
  have hkl' : (k : Int) < (ml : Int) := by omega
  have hk0 : (0 : Int) ≤ (k : Int) := by omega
  have hkne : ¬ (k : Int) = (ml : Int) := by omega
  have hpn' : (p : Int) < (nl : Int) := by omega
  have hp0 : (0 : Int) ≤ (p : Int) := by omega
  have hcx := hc.2.1 p hpc
  rw [hcp] at hcx
  have HPC := Lib.hid hpc
  have HCP := Lib.hid (show ∀ h : p < cur.length, cur[p]'h = cp from fun _ => hcp)
  clear hto hnx hmem IH hcell hmc c1 c2 hJp hrow hc hin hS hJ hSP hcd hmv hcb hm hp hpc hcp
  go_enter Try.func105, Try.ntmps105
  go_wp2_with fail
  obtain ⟨W0, hW0, hB0, hs0, hz0⟩ := name1k W #[.slice (some ⟨mb, mo, none⟩) ml mc, .slice wa wl wc, .slice na nl nc, .int .i64 s.fresh] 77
  rw [hW0]
  clear hW0
  have HM := Lib.hid (fun W' (h : Below W0.heap.size W0 W' ∧ ∀ b o, b < W0.heap.size → W'.cell? ⟨b, o, none⟩ = W0.cell? ⟨b, o, none⟩) => bothS1 (W0 := W0) (HMO.out W' (hB0.trans (h.1.mono hB0.size))) h)
  obtain ⟨x0, x1, x2, x3⟩ : W0.cell? ⟨W.heap.size, 0, none⟩ = some (.slice (some ⟨mb, mo, none⟩) ml mc) ∧ W0.cell? ⟨W.heap.size, 1, none⟩ = some (.slice wa wl wc) ∧ W0.cell? ⟨W.heap.size, 2, none⟩ = some (.slice na nl nc) ∧ W0.cell? ⟨W.heap.size, 3, none⟩ = some (.int .i64 s.fresh) := ⟨hs0 0, hs0 1, hs0 2, hs0 3⟩
  have hcx0 := (hB0.cell (p := ⟨c, p, none⟩) hcW).trans hcx
  have hcW0 : c < W0.heap.size := by omega
  have HB0 := Lib.hid hB0
  have HS0 := Lib.hid hs0
  clear hB0 hs0 hcx c0
  have hwr1 : IntKind.i64.wrap (cp + 1) = cp + 1 := IntWalk.i64_in _ ⟨by omega, by omega⟩
  have hwr2 : IntKind.i64.wrap (mv + 1) = mv + 1 := IntWalk.i64_in _ ⟨by omega, by omega⟩
  go_upto_region 5 with fail
  go_cut [43, 44] (fun v43 v44 wx => v43 = .int .i64 (q : Int) ∧ v44 = .int .i64 0 ∧ Below W0.heap.size W0 wx)
  case first =>
    go_region_held3 (fun w' => Below W0.heap.size W0 w' ∧ ∀ b o, b < W0.heap.size → w'.cell? ⟨b, o, none⟩ = W0.cell? ⟨b, o, none⟩) (first | with_reducible assumption | ((repeat (first | with_reducible refine bothS_drew ?_ | with_reducible refine bothS_alloc _ ?_ | with_reducible refine bothS_set _ _ (by first | omega | (simp; omega) | simp) ?_)); first | with_reducible assumption | with_reducible exact Hid.out (by assumption) | with_reducible exact ⟨Below.refl _ _, fun _ _ _ => rfl⟩)) (first | (go_at_call 101; with_reducible refine (HM.out _ ?_).mono ?_; (first | with_reducible assumption | ((repeat (first | with_reducible refine bothS_drew ?_ | with_reducible refine bothS_alloc _ ?_ | with_reducible refine bothS_set _ _ (by first | omega | (simp; omega) | simp) ?_)); first | with_reducible assumption | with_reducible exact Hid.out (by assumption) | with_reducible exact ⟨Below.refl _ _, fun _ _ _ => rfl⟩)); rintro e w' ⟨rfl, k, k1, k2, k3⟩; have HK := Lib.hid k; (try simp at k3); (try have k6 := Nat.lt_of_succ_le k3); (try have k7 := Nat.lt_of_succ_lt k6); (try have k8 := Nat.lt_of_succ_lt k3)) | fail "no arm")
    all_goals go_wp2_with fail
    all_goals (go_meet; exact ⟨by first | rfl | (congr 1; omega) | (simp; omega), rfl, And.left (by assumption)⟩)
  case rest =>
  obtain ⟨rfl, rfl, hB1⟩ := hcut
  obtain ⟨w1, rfl⟩ : ∃ w1 : World, w1 = wc := ⟨_, rfl⟩
  have hBw := HB0.out.trans (hB1.mono HB0.out.size)
  have hbx1 := fun i => (hB1.cell (p := ⟨W.heap.size, i, none⟩) hz0).trans (HS0.out i)
  have hz1 := hB1.size
  go_wp2_with fail
  go_loopw [44] (fun v wr => ∃ n : Nat, n ≤ q ∧ v = .int .i64 n ∧ J (pre ++ justsTo m ms cur x n) wr ∧ RowI wr n0 b k ml x ∧ HoldsI wr c cur ∧ KeepsBut N b c W wr ∧ (∀ i, wr.cell? ⟨W.heap.size, i, none⟩ = (#[.slice (some ⟨mb, mo, none⟩) ml mc, .slice wa wl wc, .slice na nl nc, .int .i64 s.fresh] : Array Value)[i]?)) (fun i _ => q - (intOf i).toNat)
  case atStart => exact ⟨0, by omega, rfl, by simpa [justsTo] using HJ.out _ _ _ _ HJ0.out (grown_none hBw) (.inl rfl), HROW.out.below hBw, HCC.out.below hBw, KeepsBut.below hBw, hbx1⟩
  case round =>
    obtain ⟨n, hn, rfl, hJr, hrr, hcr, hkr, hbr⟩ := hrel
    clear x0 x1 x2 x3 hcx0 hB1 hBw hbx1 hz1
    by_cases hlt : n < q
    · have hcpr := hcr.2.1 p HPC.out
      rw [HCP.out HPC.out] at hcpr
      have hcfr := hcr.2.2 p
      have hnq : (n : Int) < (q : Int) := by omega
      have hn0 : (0 : Int) ≤ (n : Int) := by omega
      have hcrW := hcr.1
      have hW2 : W.heap.size ≤ wr.heap.size := hkr.1
      have hbrW := hrr.lt
      have hsr : W.heap.size < wr.heap.size := World.block_lt_of_cell? _ _ (hbr 0)
      have HJR := Lib.hid hJr
      have HRR := Lib.hid hrr
      have HCR := Lib.hid hcr
      have HKR := Lib.hid hkr
      have HBR := Lib.hid hbr
      clear hJr hrr hcr hkr hbr
      have hwr3 : IntKind.i64.wrap (cp - n) = cp - n := IntWalk.i64_in _ ⟨by omega, by omega⟩
      go_upto_region 9 with fail
      obtain ⟨W1, hW1⟩ : ∃ W1, wr.setCell ⟨c, p, none⟩ (.int .i64 (cp - n)) = W1 := ⟨_, rfl⟩
      rw [hW1]
      have hg1 : wr.grownBy W1 (some c) := by rw [← hW1]; exact gb_set0 _ _ _ _
      have hz1 : W1.heap.size = wr.heap.size := by rw [← hW1]; simp
      have HJ1 := Lib.hid (HJ.out _ _ _ _ HJR.out hg1 (.inr (.inr rfl)))
      have HR1 := Lib.hid (HRR.out.other hg1 (by simpa using hbc))
      have HC1 := Lib.hid (show HoldsI W1 c (cur.set p (cp - n)) by rw [← hW1]; exact HCR.out.set HPC.out _)
      have HK1 := Lib.hid (HKR.out.trans (KeepsBut.grown (N := N) (b := b) (c := c) hg1 (.inr (.inr rfl))))
      have hb1 := fun i => (World.cell?_of_block (w := wr) (a := ⟨W.heap.size, i, none⟩) (hg1.block _ hsr (by simpa using hcS))).trans (HBR.out i)
      have HB1 := Lib.hid hb1
      have hS1 : (W1.cell? ⟨W.heap.size, 0, none⟩ = some (.slice (some ⟨mb, mo, none⟩) ml mc) ∧ W1.cell? ⟨W.heap.size, 1, none⟩ = some (.slice wa wl wc) ∧ W1.cell? ⟨W.heap.size, 2, none⟩ = some (.slice na nl nc) ∧ W1.cell? ⟨W.heap.size, 3, none⟩ = some (.int .i64 s.fresh)) ∧ KeepsBut N b c W1 W1 := ⟨⟨hb1 0, hb1 1, hb1 2, hb1 3⟩, KeepsBut.refl _ _ _ _⟩
      have HIHX := Lib.hid (fun (wA : World) (h : RowI wA n0 b (k + 1) ml (x ++ [(n : Int)]) ∧ W1.grownBy wA (some b)) => HIH.out n hlt _ wA (HJ.out _ _ _ _ HJ1.out h.2 (.inr (.inl rfl))) h.1 (HC1.out.other h.2 (by simpa using fun e => hbc e.symm)))
      unfold SharePost at HIHX
      clear hb1 hg1 hW1 hcpr hcfr
      go_cut [12] (fun v12 wx => v12 = .bool true ∧ J (pre ++ justsTo m ms cur x (n + 1)) wx ∧ RowI wx n0 b k ml x ∧ HoldsI wx c (cur.set p (cp - n)) ∧ KeepsBut N b c W1 wx)
      case first =>
        go_region_held3 (fun w' => (w'.cell? ⟨W.heap.size, 0, none⟩ = some (.slice (some ⟨mb, mo, none⟩) ml mc) ∧ w'.cell? ⟨W.heap.size, 1, none⟩ = some (.slice wa wl wc) ∧ w'.cell? ⟨W.heap.size, 2, none⟩ = some (.slice na nl nc) ∧ w'.cell? ⟨W.heap.size, 3, none⟩ = some (.int .i64 s.fresh)) ∧ KeepsBut N b c W1 w')
          (first | with_reducible assumption | ((repeat (first | with_reducible refine shS_drew ?_ | with_reducible refine shS_alloc _ ?_)); with_reducible assumption))
          (first
            | ((with_reducible refine step_append_fit _ n0 b k ml W1.heap.size x (n : Int) rfl _ _ rfl ?_ ?_ ?_ ?_ ?_ ?_); (· rfl); (· first | rfl | (go_simp; done)); (· exact HR1.out.below (by repeat (first | exact Below.refl _ _ | (refine Below.alloc ?_ (by first | omega | (simp; omega) | simp) _) | (refine Below.setCell ?_ (by first | omega | (simp; omega) | simp) _) | refine Below.drew ?_))); (· go_simp; done); (· omega); intro wA hrA hgA; have hgB : W1.grownBy wA (some b) := (rowS_of (R := some b) (by repeat (first | exact Below.refl _ _ | (refine Below.alloc ?_ (by first | omega | (simp; omega) | simp) _) | (refine Below.setCell ?_ (by first | omega | (simp; omega) | simp) _) | refine Below.drew ?_))).trans hgA; have kA : (wA.cell? ⟨W.heap.size, 0, none⟩ = some (.slice (some ⟨mb, mo, none⟩) ml mc) ∧ wA.cell? ⟨W.heap.size, 1, none⟩ = some (.slice wa wl wc) ∧ wA.cell? ⟨W.heap.size, 2, none⟩ = some (.slice na nl nc) ∧ wA.cell? ⟨W.heap.size, 3, none⟩ = some (.int .i64 s.fresh)) ∧ KeepsBut N b c W1 wA := shS_keeps hNW hbS hcS hS1 (KeepsBut.grown hgB (.inr (.inl rfl))); have HT := Lib.hid (And.intro hrA hgB); clear hrA hgA hgB)
            | (go_at_call 105; with_reducible refine (HIHX.out _ HT.out).mono ?_; rintro e w' ⟨rfl, hJ', hr', hc', hk'⟩; have kB := shS_keeps hNW hbS hcS kA hk'; have HJ' := Lib.hid hJ'; have HR' := Lib.hid hr'; have HC' := Lib.hid hc'; have HK' := Lib.hid hk'; clear hJ' hr' hc' hk')
            | fail "no arm")
        all_goals (go_wp2_with fail; go_meet; exact ⟨rfl, by rw [HNX.out, ← List.append_assoc]; exact HJ'.out, HR'.out.back, HC'.out, kB.2⟩)
      case rest =>
      obtain ⟨rfl, hJ2, hr2, hc2, hk2⟩ := hcut
      obtain ⟨w2, rfl⟩ : ∃ w2 : World, w2 = wc := ⟨_, rfl⟩
      have hcp2 : w2.cell? ⟨c, p, none⟩ = some (.int .i64 (cp - n)) := by
        have := hc2.2.1 p (by simpa using HPC.out)
        rwa [List.getElem_set_self] at this
      have hcf2 := hc2.2.2 p
      have hwr4 : IntKind.i64.wrap cp = cp := IntWalk.i64_in _ ⟨by omega, by omega⟩
      have hback : (cp - (n : Int)) + n = cp := by omega
      have hc2W := hc2.1
      have hg2 : ∀ v, w2.grownBy (w2.setCell ⟨c, p, none⟩ v) (some c) := fun v => gb_set0 _ _ _ _
      have hb2 : ∀ v i, (w2.setCell ⟨c, p, none⟩ v).cell? ⟨W.heap.size, i, none⟩ = (#[.slice (some ⟨mb, mo, none⟩) ml mc, .slice wa wl wc, .slice na nl nc, .int .i64 s.fresh] : Array Value)[i]? := fun v i => by
        rw [set_other (by intro e; injection e with e1; exact hcS e1.symm)]
        exact (hk2.cell hNW (by omega) hbS hcS i).trans (HB1.out i)
      have HREL := Lib.hid (show J (pre ++ justsTo m ms cur x (n + 1)) (w2.setCell ⟨c, p, none⟩ (.int .i64 cp)) ∧ RowI (w2.setCell ⟨c, p, none⟩ (.int .i64 cp)) n0 b k ml x ∧ HoldsI (w2.setCell ⟨c, p, none⟩ (.int .i64 cp)) c cur ∧ KeepsBut N b c W (w2.setCell ⟨c, p, none⟩ (.int .i64 cp)) ∧ (∀ i, (w2.setCell ⟨c, p, none⟩ (.int .i64 cp)).cell? ⟨W.heap.size, i, none⟩ = (#[.slice (some ⟨mb, mo, none⟩) ml mc, .slice wa wl wc, .slice na nl nc, .int .i64 s.fresh] : Array Value)[i]?) from
        ⟨HJ.out _ _ _ _ hJ2 (hg2 _) (.inr (.inr rfl)), hr2.other (hg2 _) (by simpa using hbc), by have := hc2.set (p := p) (by simpa using HPC.out) cp; rwa [HSET.out] at this, (HK1.out.trans hk2).trans (KeepsBut.grown (hg2 _) (.inr (.inr rfl))), hb2 _⟩)
      clear hJ2 hr2 hc2 hk2 hg2 hb2
      go_wp2_with fail
      go_roundw
      case rel => exact ⟨n + 1, by omega, by go_num, HREL.out⟩
      case measure => simp [intOf]; omega
    · obtain rfl : q = n := by omega
      go_wp2_with fail
      refine bodyPost_ret (v := .bool true) (by simp [results, Try.results105, go_sem]) rfl ((HSP.out _ _ _).2 ⟨rfl, by rw [HTO.out]; exact hJr, hrr, hcr, hkr⟩)

theorem share_all (s : FShop) (ma : Option Addr) (ml mc : Nat) (wa : Option Addr) (wl wc : Nat) (na : Option Addr) (nl nc : Nat) (ho : s.ok = true) (hml : s.moulds.length = ml) (hnl : s.wants.length = nl) (l N n0 b c ncap : Nat) (hnb : N ≤ n0) (hNc : N ≤ c) (hbc : b ≠ c) (J : List (List Int) → World → Prop)
    (hS : ∀ pre W, J pre W → MouldsAt W ma ml s.moulds)
    (hJ : ∀ pre W W' row, J pre W → W.grownBy W' row → (row = none ∨ row = some b ∨ row = some c) → J pre W')
    (hY : ∀ pre x W, J pre W → RowI W n0 b ml ml x → c < W.heap.size → x ∈ s.justs → YieldAt Fence.wide 12 Try.prog l #[.slice (some ⟨b, 0, none⟩) ml ml] W fun e W' => e = .returned (.bool true) ∧ J (pre ++ [x]) W' ∧ KeepsUp N W W') :
    ∀ (ms : List Mould) (k : Nat), s.moulds.drop k = ms → ∀ (x cur : List Int) (pre : List (List Int)) (W : World), cur.length = nl → (∀ i (h : i < cur.length), 0 ≤ cur[i] ∧ cur[i] ≤ 12) → J pre W → RowI W n0 b k ml x → HoldsI W c cur → (∀ y ∈ justsF ms cur x, y ∈ s.justs) →
      Calls Try.prog 105 #[.agg #[.slice ma ml mc, .slice wa wl wc, .slice na nl nc, .int .i64 s.fresh], .slice (some ⟨b, 0, none⟩) k ml, .slice (some ⟨c, 0, none⟩) nl ncap, .func (.yield l) #[] #[]] W fun e W' => SharePost J N n0 b c k ml x cur (justsF ms cur x) pre W e W'
  | [], k, hd, x, cur, pre, W, hcl, hcb, hJp, hrow, hc, hin => by
    have hfew := FShop.ok_few ho
    have hk1 : s.moulds.length ≤ k := List.drop_eq_nil_iff.1 hd
    have hk2 := hrow.parts.2.1
    obtain rfl : ml = k := by omega
    exact share_end s ma ml mc wa wl wc na nl nc l N n0 b c ncap _ (.inr rfl) hnb (by omega) (by omega) J hJ hY x cur pre W hcl hJp hrow hc hNc hin
  | m :: ms, k, hd, x, cur, pre, W, hcl, hcb, hJp, hrow, hc, hin => by
    have hfew := FShop.ok_few ho
    have hk : k < s.moulds.length := by
      rcases Nat.lt_or_ge k s.moulds.length with h | h
      · exact h
      · rw [List.drop_eq_nil_of_le h] at hd; cases hd
    rw [List.drop_eq_getElem_cons hk] at hd
    injection hd with hm hd'
    have hmo := (FShop.ok_mould ho k hk).1
    rw [hm] at hmo
    exact share_step s ma ml mc wa wl wc na nl nc l N n0 b c ncap hnb hNc hbc (by omega) (by omega) J hS hJ k m ms hk hm (by omega) m.p.toNat (by omega) (by omega)
      (fun x cur pre W h1 h2 h3 h4 h5 h6 => share_all s ma ml mc wa wl wc na nl nc ho hml hnl l N n0 b c ncap hnb hNc hbc J hS hJ hY ms (k + 1) hd' x cur pre W h1 h2 h3 h4 h5 h6) x cur pre W hcl hcb hJp hrow hc hin
end Go.Proofs.Ytigeiaiohdemiaa
