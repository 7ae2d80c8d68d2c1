/- Package changes: remedies: an iterator over all remedies of a change. -/
import Derived.Test.YtedfdhpggghjeaaDC
import Derived.Test.YtedfdhpggghjeaaDA
import Derived.Test.YtedfdhpggghjeaaCM
import Derived.Test.YtedfdhpggghjeaaCP
import Derived.Test.YtedfdhpggghjeaaCX
namespace Go.Proofs.Ytedfdhpggghjeaa
set_option linter.unusedVariables false
set_option linter.unusedSimpArgs false
open Go.RowKit Go.Shelf

theorem wrap_pow {n : Nat} (h : n ≤ 8) : wrap64 (2 ^ n) = ((2 ^ n : Nat) : Int) := by
  have : n = 0 ∨ n = 1 ∨ n = 2 ∨ n = 3 ∨ n = 4 ∨ n = 5 ∨ n = 6 ∨ n = 7 ∨ n = 8 := by omega
  rcases this with rfl | rfl | rfl | rfl | rfl | rfl | rfl | rfl | rfl <;> exact IntWalk.wrap64_in _ ⟨by decide, by decide⟩
/-- A remedy that came: its choice, and where its things lie. -/
structure Rem where
  x : Nat
  a : Option Addr
  n : Nat
def encR (h : CHouse) (r : Rem) : Array Value := #[.agg #[.slice r.a (h.pick r.x).length r.n, .int .i64 (h.cost r.x)]]
/-- What remedies$1 reads. -/
def RemsEnv (h : CHouse) (ta : Option Addr) (tl tc : Nat) (ma : Option Addr) (ml mc : Nat) (c now : Int) (bh bc bn : Nat) (w : World) : Prop :=
  HAt w ta tl tc ma ml mc h ∧ w.cell? ⟨bh, 0, none⟩ = some (.slice ta tl tc) ∧ w.cell? ⟨bh, 1, none⟩ = some (.slice ma ml mc) ∧ w.cell? ⟨bc, 0, none⟩ = some (.int .i64 c) ∧ w.cell? ⟨bn, 0, none⟩ = some (.int .i64 now)
/-- What it yields: a remedy, the things of which lie where nothing lay. -/
def GoodR (h : CHouse) (c now : Int) (pre : List Rem) (r : Rem) (W0 W : World) : Prop :=
  pre.map Rem.x = (List.range r.x).filter (h.heals c now) ∧ r.x < 256 ∧ h.heals c now r.x = true ∧ IntsAt W r.a (h.pick r.x).length (h.pick r.x) ∧ ∀ ad, r.a = some ad → W0.heap.size ≤ ad.block
theorem pick_in (h : CHouse) (x : Nat) : ∀ y ∈ h.pick x, 0 ≤ y ∧ y < (h.things.length : Int) := fun y hy => by
  have := (numsTo_mem _ _ _).1 hy
  exact ⟨this.1, this.2.1⟩
theorem heals_len {h : CHouse} {c now : Int} {x : Nat} (hh : h.heals c now x = true) : ((h.alter c now (h.pick x)).lacks c).length = 0 := by
  unfold CHouse.heals at hh
  rw [List.isEmpty_iff] at hh
  rw [hh]; rfl
theorem heals_not {h : CHouse} {c now : Int} {x : Nat} (hh : h.heals c now x = false) : ∃ k, ((h.alter c now (h.pick x)).lacks c).length = k + 1 := by
  unfold CHouse.heals at hh
  rcases hl : (h.alter c now (h.pick x)).lacks c with - | ⟨y, l⟩
  · rw [hl] at hh; cases hh
  · exact ⟨l.length, rfl⟩

set_option maxRecDepth 100000 in
set_option maxHeartbeats 16000000 in
theorem remedies1_it (h : CHouse) (ta : Option Addr) (tl tc : Nat) (ma : Option Addr) (ml mc : Nat) (ho : h.okT = true) (hm6 : ml ≤ 6) (c now : Int) (bh bc bn : Nat) :
    IteratesV Try.prog 106 #[.pointer (some ⟨bh, 0, none⟩), .pointer (some ⟨bc, 0, none⟩), .pointer (some ⟨bn, 0, none⟩)] (encR h) (RemsEnv h ta tl tc ma ml mc c now bh bc bn) (GoodR h c now) (fun all => all.map Rem.x = h.rems c now) := by
  intro l J Stop W hJ hStop hEnv hEnvS hY h0
  have htl := (hEnv _ _ h0).1.1.1
  have h8 := CHouse.okT_few ho
  have HCH := Lib.hid (fun (x : Nat) (hx : x < 256) W1 (hp : HAt W1 ta tl tc ma ml mc h) => chosen_any h ta tl tc ma ml mc ho x hx W1 hp)
  have HAL := Lib.hid (fun (x : Nat) (a : Option Addr) (n : Nat) W1 (hp : HAt W1 ta tl tc ma ml mc h) (hi : IntsAt W1 a (h.pick x).length (h.pick x)) => altered_any h ta tl tc ma ml mc ho a (h.pick x).length n (h.pick x) c now (pick_in h x) (Nat.le_trans (numsTo_len _ _) h8) (by omega) W1 hp hi)
  have HLK := Lib.hid (fun (x : Nat) (na : Option Addr) (nl nc : Nat) W1 (hp : HAt W1 ta tl tc na nl nc (h.alter c now (h.pick x))) => lacking_any (h.alter c now (h.pick x)) ta tl tc na nl nc (alter_okT ho c now _) c W1 hp)
  have HJ := Lib.hid hJ
  have HST := Lib.hid hStop
  have HY := Lib.hid hY
  have HE := Lib.hid hEnv
  have HES := Lib.hid hEnvS
  have H0 := Lib.hid h0
  have htl8 : tl ≤ 8 := by omega
  obtain ⟨m, hm, hm256⟩ : ∃ m : Nat, m = 2 ^ tl ∧ m ≤ 256 := ⟨_, rfl, by have := Nat.pow_le_pow_right (show 0 < 2 by omega) htl8; omega⟩
  have hwm : wrap64 (2 ^ tl) = (m : Int) := by rw [hm]; exact wrap_pow htl8
  have HRM := Lib.hid (show h.rems c now = (List.range m).filter (h.heals c now) from by unfold CHouse.rems; rw [htl, ← hm])
  obtain ⟨z0, z1, z2, z3⟩ := (hEnv _ _ h0).2
  clear hJ hStop hEnv hEnvS hY h0 ho h8 hm htl
  refine (callsIn_wide (n := 12)).1 ?_
  refine callsIn_of_wp Try.func106 rfl trivial ?_ rfl
  simp only [Try.ntmps106, List.size_toArray, List.length_cons, List.length_nil, Nat.reduceAdd, Nat.reduceSub, Array.replicate_succ, Array.replicate_zero, List.push_toArray, List.append_toArray, List.nil_append, List.cons_append]
  gi_wp2
  try rw [hwm]
  clear hwm
  gi_loopg [12] m (fun k v wr => ∃ (i : Nat) (pre : List Rem), k + i = m ∧ v = .int .i64 i ∧ pre.map Rem.x = (List.range i).filter (h.heals c now) ∧ J pre wr ∧ W.heap.size ≤ wr.heap.size)
  case atStart => exact ⟨0, [], by omega, rfl, rfl, H0.out, Nat.le_refl _⟩
  case round =>
    obtain ⟨i, pre, hki, rfl, hpre, hJp, hzr⟩ := hrel
    have HPRE := Lib.hid hpre
    have HJP := Lib.hid hJp
    by_cases hlt : i < m
    · have hil : (i : Int) < (m : Int) := by omega
      have hi0 : (0 : Int) ≤ (i : Int) := by omega
      have hi256 : i < 256 := by omega
      obtain ⟨hpat, y0, y1, y2, y3⟩ := HE.out _ _ hJp
      have hbh := World.block_lt_of_cell? _ _ y0
      have hbc := World.block_lt_of_cell? _ _ y2
      have hbn := World.block_lt_of_cell? _ _ y3
      simp only at hbh hbc hbn
      have HCI := Lib.hid (HCH.out i hi256 wr hpat)
      have HPA := Lib.hid hpat
      clear hpat hpre hJp z0 z1 z2 z3
      gi_upto_region 4 with (refine ⟨trivial, ?_⟩; gi_at_call 107; refine (callsIn_wide.2 HCI.out).mono ?_; rintro e w2 ⟨⟨a, n, rfl, hia, hfa⟩, hb2⟩)
      obtain ⟨W3, hW3, hB3, ⟨t0, t1⟩, hz3⟩ : ∃ W3, w2.alloc (.cells #[.slice a (h.pick i).length n, .int .i64 (h.cost i)] 89) = W3 ∧ Below w2.heap.size w2 W3 ∧ (W3.cell? ⟨w2.heap.size, 0, none⟩ = some (.slice a (h.pick i).length n) ∧ W3.cell? ⟨w2.heap.size, 1, none⟩ = some (.int .i64 (h.cost i))) ∧ W3.heap.size = w2.heap.size + 1 :=
        ⟨_, rfl, (by repeat (first | exact Below.refl _ _ | (refine Below.alloc ?_ (by first | omega | (simp; omega) | simp) _) | (refine Below.setCell ?_ (by first | omega | (simp; omega) | simp) _) | refine Below.drew ?_)), ⟨by go_simp, by go_simp⟩, by simp⟩
      rw [hW3]
      clear hW3
      have hz2 := hb2.size
      have hbw : Below wr.heap.size wr W3 := hb2.trans (hB3.mono hb2.size)
      have HBW := Lib.hid hbw
      have HIA := Lib.hid (hia.below hB3)
      have HFA := Lib.hid hfa
      have x0 := (hbw.cell (p := ⟨bh, 0, none⟩) hbh).trans y0
      have x1 := (hbw.cell (p := ⟨bh, 1, none⟩) hbh).trans y1
      have x2 := (hbw.cell (p := ⟨bc, 0, none⟩) hbc).trans y2
      have x3 := (hbw.cell (p := ⟨bn, 0, none⟩) hbn).trans y3
      have hHAT : HAt W3 ta tl tc ma ml mc h := HPA.out.below hbw
      obtain ⟨gr, hgr⟩ : ∃ gr, gr = w2.heap.size := ⟨_, rfl⟩
      rw [← hgr] at t0 t1 hz3 ⊢
      have hgw : wr.heap.size ≤ gr := by omega
      have hgW : gr < W3.heap.size := by omega
      have hSB : ∀ W4 : World, Below W3.heap.size W3 W4 → (W4.cell? ⟨bh, 0, none⟩ = some (.slice ta tl tc) ∧ W4.cell? ⟨bh, 1, none⟩ = some (.slice ma ml mc) ∧ W4.cell? ⟨bc, 0, none⟩ = some (.int .i64 c) ∧ W4.cell? ⟨bn, 0, none⟩ = some (.int .i64 now)) ∧ W4.cell? ⟨gr, 0, none⟩ = some (.slice a (h.pick i).length n) ∧ W4.cell? ⟨gr, 1, none⟩ = some (.int .i64 (h.cost i)) := fun W4 hb =>
        ⟨⟨(hb.cell (p := ⟨bh, 0, none⟩) (by show bh < _; omega)).trans x0, (hb.cell (p := ⟨bh, 1, none⟩) (by show bh < _; omega)).trans x1, (hb.cell (p := ⟨bc, 0, none⟩) (by show bc < _; omega)).trans x2, (hb.cell (p := ⟨bn, 0, none⟩) (by show bn < _; omega)).trans x3⟩, (hb.cell (p := ⟨gr, 0, none⟩) hgW).trans t0, (hb.cell (p := ⟨gr, 1, none⟩) hgW).trans t1⟩
      have HSB := Lib.hid hSB
      have HALi := Lib.hid (fun W1 (hb : Below W3.heap.size W3 W1) => HAL.out i a n W1 (hHAT.below hb) (HIA.out.below hb))
      have HLKi := Lib.hid (fun na nl nc W1 hp => HLK.out i na nl nc W1 hp)
      have hS0 : (W3.drew.cell? ⟨bh, 0, none⟩ = some (.slice ta tl tc) ∧ W3.drew.cell? ⟨bh, 1, none⟩ = some (.slice ma ml mc) ∧ W3.drew.cell? ⟨bc, 0, none⟩ = some (.int .i64 c) ∧ W3.drew.cell? ⟨bn, 0, none⟩ = some (.int .i64 now)) ∧ W3.drew.cell? ⟨gr, 0, none⟩ = some (.slice a (h.pick i).length n) ∧ W3.drew.cell? ⟨gr, 1, none⟩ = some (.int .i64 (h.cost i)) := ⟨⟨x0, x1, x2, x3⟩, t0, t1⟩
      have HYR := Lib.hid (fun (W1 : World) (hb : Below W3.heap.size W3 W1) (hh : h.heals c now i = true) => HY.out pre ⟨i, a, n⟩ wr W1 HJP.out hzr (hbw.trans (hb.mono hbw.size)) ⟨HPRE.out, hi256, hh, HIA.out.below hb, HFA.out⟩)
      clear hia hfa hb2 hB3 hbw hHAT hgr hSB y0 y1 y2 y3
      gi_cut [33] from 34 (fun v33 wx => (v33 = .bool false ∧ ∃ pre' : List Rem, pre'.map Rem.x = (List.range (i + 1)).filter (h.heals c now) ∧ J pre' wx ∧ W.heap.size ≤ wx.heap.size) ∨ (v33 = .bool true ∧ Stop wx))
      case first =>
        refine wpIn_region_HI (S := fun w' => (w'.cell? ⟨bh, 0, none⟩ = some (.slice ta tl tc) ∧ w'.cell? ⟨bh, 1, none⟩ = some (.slice ma ml mc) ∧ w'.cell? ⟨bc, 0, none⟩ = some (.int .i64 c) ∧ w'.cell? ⟨bn, 0, none⟩ = some (.int .i64 now)) ∧ w'.cell? ⟨gr, 0, none⟩ = some (.slice a (h.pick i).length n) ∧ w'.cell? ⟨gr, 1, none⟩ = some (.int .i64 (h.cost i))) (by kernel_rfl) ?_
        refine wpAnyHI_take (i := 0) (oi := ?_) (v := ?_) ?_ ?_ ?_ ?_ ?_ ?_ ?_ ?_; rotate_left 2; (· simp only [List.getElem?_toArray, List.getElem?_cons_succ, List.getElem?_cons_zero]; with_reducible rfl); (· kernel_rfl); (· kernel_rfl); (· kernel_rfl); (· exact fun _ _ _ h => h); (· refine Or.inl ⟨by rfl, ?_⟩; intro w hSw; (try dsimp only at hSw); go_simp; try with_reducible rfl); (· assumption); (try simp only [Act.put, List.setIfInBounds_toArray, List.set_cons_zero, List.set_cons_succ])
        refine wpAnyHI_take (i := 1) (oi := ?_) (v := ?_) ?_ ?_ ?_ ?_ ?_ ?_ ?_ ?_; rotate_left 2; (· simp only [List.getElem?_toArray, List.getElem?_cons_succ, List.getElem?_cons_zero]; with_reducible rfl); (· kernel_rfl); (· kernel_rfl); (· kernel_rfl); (· exact fun _ _ _ h => h); (· refine Or.inl ⟨by rfl, ?_⟩; intro w hSw; (try dsimp only at hSw); go_simp; try with_reducible rfl); (· assumption); (try simp only [Act.put, List.setIfInBounds_toArray, List.set_cons_zero, List.set_cons_succ])
        refine wpAnyHI_take (i := 2) (oi := ?_) (v := ?_) ?_ ?_ ?_ ?_ ?_ ?_ ?_ ?_; rotate_left 2; (· simp only [List.getElem?_toArray, List.getElem?_cons_succ, List.getElem?_cons_zero]; with_reducible rfl); (· kernel_rfl); (· kernel_rfl); (· kernel_rfl); (· exact fun _ _ _ h => h); (· refine Or.inl ⟨by rfl, ?_⟩; intro w hSw; (try dsimp only at hSw); go_simp; try with_reducible rfl); (· assumption); (try simp only [Act.put, List.setIfInBounds_toArray, List.set_cons_zero, List.set_cons_succ])
        refine wpAnyHI_take (i := 3) (oi := ?_) (v := ?_) ?_ ?_ ?_ ?_ ?_ ?_ ?_ ?_; rotate_left 2; (· simp only [List.getElem?_toArray, List.getElem?_cons_succ, List.getElem?_cons_zero]; with_reducible rfl); (· kernel_rfl); (· kernel_rfl); (· kernel_rfl); (· exact fun _ _ _ h => h); (· refine Or.inl ⟨by rfl, ?_⟩; intro w hSw; (try dsimp only at hSw); go_simp; try with_reducible rfl); (· assumption); (try simp only [Act.put, List.setIfInBounds_toArray, List.set_cons_zero, List.set_cons_succ])
        refine wpAnyHI_take (i := 4) (oi := ?_) (v := ?_) ?_ ?_ ?_ ?_ ?_ ?_ ?_ ?_; rotate_left 2; (· simp only [List.getElem?_toArray, List.getElem?_cons_succ, List.getElem?_cons_zero]; with_reducible rfl); (· kernel_rfl); (· kernel_rfl); (· kernel_rfl); (· exact fun _ _ _ h => h); (· refine Or.inl ⟨by rfl, ?_⟩; intro w hSw; (try dsimp only at hSw); go_simp; try with_reducible rfl); (· assumption); (try simp only [Act.put, List.setIfInBounds_toArray, List.set_cons_zero, List.set_cons_succ])
        refine wpAnyHI_take (i := 6) (oi := ?_) (v := ?_) ?_ ?_ ?_ ?_ ?_ ?_ ?_ ?_; rotate_left 2; (· simp only [List.getElem?_toArray, List.getElem?_cons_succ, List.getElem?_cons_zero]; with_reducible rfl); (· kernel_rfl); (· kernel_rfl); (· kernel_rfl); (· exact fun _ _ _ h => h); (· refine Or.inl ⟨by rfl, ?_⟩; intro w hSw; (try dsimp only at hSw); go_simp; try with_reducible rfl); (· assumption); (try simp only [Act.put, List.setIfInBounds_toArray, List.set_cons_zero, List.set_cons_succ])
        refine wpAnyHI_ready (rs := [5]) (by kernel_rfl) (by simp) ?_; refine AllReadyHI.cons (o := ?_) ?_ (fun K hK => ?_) AllReadyHI.nil; rotate_left 1; (· simp only [List.getElem?_toArray, List.getElem?_cons_succ, List.getElem?_cons_zero]; with_reducible rfl); go_simp; (go_at_call 108; with_reducible refine (HALi.out _ ?_).mono ?_; (· exact (by repeat (first | exact Below.refl _ _ | (refine Below.alloc ?_ (by first | omega | (simp; omega) | simp) _) | (refine Below.setCell ?_ (by first | omega | (simp; omega) | simp) _) | refine Below.drew ?_))); rintro e wA ⟨⟨na, nl, nc, rfl, hA⟩, hbA⟩; have hS1 := HSB.out wA (((by repeat (first | exact Below.refl _ _ | (refine Below.alloc ?_ (by first | omega | (simp; omega) | simp) _) | (refine Below.setCell ?_ (by first | omega | (simp; omega) | simp) _) | refine Below.drew ?_)) : Below W3.heap.size W3 _).trans (hbA.mono (by simp))); have HBA := Lib.hid (((by repeat (first | exact Below.refl _ _ | (refine Below.alloc ?_ (by first | omega | (simp; omega) | simp) _) | (refine Below.setCell ?_ (by first | omega | (simp; omega) | simp) _) | refine Below.drew ?_)) : Below W3.heap.size W3 W3.drew).trans (hbA.mono (by simp))); have HA := Lib.hid hA; clear hA hbA hS0); refine hK.out _ _ ?_ (fun hHeld => ?_); (· (exact hS1)); clear hK K; (try simp only [Act.put, List.setIfInBounds_toArray, List.set_cons_zero, List.set_cons_succ])
        have HLA := Lib.hid (HLKi.out na nl nc wA HA.out)
        have HFI := Lib.hid (show ∀ (b : Bool), h.heals c now i = b → (List.range (i + 1)).filter (h.heals c now) = (List.range i).filter (h.heals c now) ++ (if b = true then [i] else []) from fun b hb => by rw [List.range_succ, List.filter_append]; simp only [List.filter_cons, List.filter_nil, hb])
        rcases hh : h.heals c now i with - | -
        · obtain ⟨L, hL⟩ := heals_not hh
          rw [hL] at HLA
          have hL0 : ¬ ((L : Int) + 1 = 0) := by omega
          have HF := Lib.hid (HFI.out _ hh)
          clear hh hL HFI
          refine wpAnyHI_ready (rs := [7]) (by kernel_rfl) (by simp) ?_; refine AllReadyHI.cons (o := ?_) ?_ (fun K hK => ?_) AllReadyHI.nil; rotate_left 1; (· simp only [List.getElem?_toArray, List.getElem?_cons_succ, List.getElem?_cons_zero]; with_reducible rfl); go_simp; (go_at_call 73; with_reducible refine HLA.out.mono ?_; rintro e wL ⟨⟨la, ln, rfl, -⟩, hbL⟩; have hS2 := HSB.out wL (HBA.out.trans (hbL.mono HBA.out.size)); have HBL := Lib.hid (HBA.out.trans (hbL.mono HBA.out.size)); clear hbL hS1 hHeld); refine hK.out _ _ ?_ (fun hHeld => ?_); (· (exact hS2)); clear hK K; (try simp only [Act.put, List.setIfInBounds_toArray, List.set_cons_zero, List.set_cons_succ])
          refine wpAnyHI_ready (rs := [8]) (by kernel_rfl) (by simp) ?_; refine AllReadyHI.cons (o := ?_) ?_ (fun K hK => ?_) AllReadyHI.nil; rotate_left 1; (· simp only [List.getElem?_toArray, List.getElem?_cons_succ, List.getElem?_cons_zero]; with_reducible rfl); go_simp; skip; refine hK.out _ _ ?_ (fun hHeld => ?_); (· (exact hS2)); clear hK K; (try simp only [Act.put, List.setIfInBounds_toArray, List.set_cons_zero, List.set_cons_succ])
          refine wpAnyHI_take (i := 9) (oi := ?_) (v := ?_) ?_ ?_ ?_ ?_ ?_ ?_ ?_ ?_; rotate_left 2; (· simp only [List.getElem?_toArray, List.getElem?_cons_succ, List.getElem?_cons_zero]; with_reducible rfl); (· kernel_rfl); (· kernel_rfl); (· kernel_rfl); (· exact fun _ _ _ h => h); (· refine Or.inl ⟨by rfl, ?_⟩; intro w hSw; (try dsimp only at hSw); go_simp; try with_reducible rfl); (· assumption); (try simp only [Act.put, List.setIfInBounds_toArray, List.set_cons_zero, List.set_cons_succ])
          refine wpAnyHI_take (i := 10) (oi := ?_) (v := ?_) ?_ ?_ ?_ ?_ ?_ ?_ ?_ ?_; rotate_left 2; (· simp only [List.getElem?_toArray, List.getElem?_cons_succ, List.getElem?_cons_zero]; with_reducible rfl); (· kernel_rfl); (· kernel_rfl); (· kernel_rfl); (· exact fun _ _ _ h => h); (· refine Or.inl ⟨by rfl, ?_⟩; intro w hSw; (try dsimp only at hSw); go_simp; try with_reducible rfl); (· assumption); (try simp only [Act.put, List.setIfInBounds_toArray, List.set_cons_zero, List.set_cons_succ])
          refine wpAnyHI_take (i := 11) (oi := ?_) (v := undef) ?_ ?_ ?_ ?_ ?_ ?_ ?_ ?_; rotate_left 1; (· simp only [List.getElem?_toArray, List.getElem?_cons_succ, List.getElem?_cons_zero]; with_reducible rfl); (· kernel_rfl); (· kernel_rfl); (· kernel_rfl); (· exact fun _ _ _ h => h); (· exact Or.inr ⟨by rfl, rfl⟩); (· assumption); (try simp only [Act.put, List.setIfInBounds_toArray, List.set_cons_zero, List.set_cons_succ])
          refine wpAnyHI_take (i := 12) (oi := ?_) (v := undef) ?_ ?_ ?_ ?_ ?_ ?_ ?_ ?_; rotate_left 1; (· simp only [List.getElem?_toArray, List.getElem?_cons_succ, List.getElem?_cons_zero]; with_reducible rfl); (· kernel_rfl); (· kernel_rfl); (· kernel_rfl); (· exact fun _ _ _ h => h); (· exact Or.inr ⟨by rfl, rfl⟩); (· assumption); (try simp only [Act.put, List.setIfInBounds_toArray, List.set_cons_zero, List.set_cons_succ])
          refine wpAnyHI_take (i := 13) (oi := ?_) (v := undef) ?_ ?_ ?_ ?_ ?_ ?_ ?_ ?_; rotate_left 1; (· simp only [List.getElem?_toArray, List.getElem?_cons_succ, List.getElem?_cons_zero]; with_reducible rfl); (· kernel_rfl); (· kernel_rfl); (· kernel_rfl); (· exact fun _ _ _ h => h); (· exact Or.inr ⟨by rfl, rfl⟩); (· assumption); (try simp only [Act.put, List.setIfInBounds_toArray, List.set_cons_zero, List.set_cons_succ])
          refine wpAnyHI_take (i := 14) (oi := ?_) (v := undef) ?_ ?_ ?_ ?_ ?_ ?_ ?_ ?_; rotate_left 1; (· simp only [List.getElem?_toArray, List.getElem?_cons_succ, List.getElem?_cons_zero]; with_reducible rfl); (· kernel_rfl); (· kernel_rfl); (· kernel_rfl); (· exact fun _ _ _ h => h); (· exact Or.inr ⟨by rfl, rfl⟩); (· assumption); (try simp only [Act.put, List.setIfInBounds_toArray, List.set_cons_zero, List.set_cons_succ])
          refine wpAnyHI_take (i := 15) (oi := ?_) (v := ?_) ?_ ?_ ?_ ?_ ?_ ?_ ?_ ?_; rotate_left 2; (· simp only [List.getElem?_toArray, List.getElem?_cons_succ, List.getElem?_cons_zero]; with_reducible rfl); (· kernel_rfl); (· kernel_rfl); (· kernel_rfl); (· exact fun _ _ _ h => h); (· refine Or.inl ⟨by rfl, ?_⟩; intro w hSw; (try dsimp only at hSw); go_simp; try with_reducible rfl); (· assumption); (try simp only [Act.put, List.setIfInBounds_toArray, List.set_cons_zero, List.set_cons_succ])
          refine wpAnyHI_done (by kernel_rfl) ?_ _
          gi_wp2_with fail
          gi_meet
          exact .inl ⟨rfl, pre, by rw [HF.out, HPRE.out]; simp, HJ.out _ _ _ HJP.out (HBW.out.trans (HBL.out.mono HBW.out.size)), by have := HBL.out.size; have := HBW.out.size; omega⟩
        · rw [heals_len hh] at HLA
          have HF := Lib.hid (HFI.out _ hh)
          have HHH := Lib.hid hh
          clear hh HFI
          refine wpAnyHI_ready (rs := [7]) (by kernel_rfl) (by simp) ?_; refine AllReadyHI.cons (o := ?_) ?_ (fun K hK => ?_) AllReadyHI.nil; rotate_left 1; (· simp only [List.getElem?_toArray, List.getElem?_cons_succ, List.getElem?_cons_zero]; with_reducible rfl); go_simp; (go_at_call 73; with_reducible refine HLA.out.mono ?_; rintro e wL ⟨⟨la, ln, rfl, -⟩, hbL⟩; have hS2 := HSB.out wL (HBA.out.trans (hbL.mono HBA.out.size)); have HBL := Lib.hid (HBA.out.trans (hbL.mono HBA.out.size)); clear hbL hS1 hHeld); refine hK.out _ _ ?_ (fun hHeld => ?_); (· (exact hS2)); clear hK K; (try simp only [Act.put, List.setIfInBounds_toArray, List.set_cons_zero, List.set_cons_succ])
          refine wpAnyHI_ready (rs := [8]) (by kernel_rfl) (by simp) ?_; refine AllReadyHI.cons (o := ?_) ?_ (fun K hK => ?_) AllReadyHI.nil; rotate_left 1; (· simp only [List.getElem?_toArray, List.getElem?_cons_succ, List.getElem?_cons_zero]; with_reducible rfl); go_simp; skip; refine hK.out _ _ ?_ (fun hHeld => ?_); (· (exact hS2)); clear hK K; (try simp only [Act.put, List.setIfInBounds_toArray, List.set_cons_zero, List.set_cons_succ])
          refine wpAnyHI_take (i := 9) (oi := ?_) (v := ?_) ?_ ?_ ?_ ?_ ?_ ?_ ?_ ?_; rotate_left 2; (· simp only [List.getElem?_toArray, List.getElem?_cons_succ, List.getElem?_cons_zero]; with_reducible rfl); (· kernel_rfl); (· kernel_rfl); (· kernel_rfl); (· exact fun _ _ _ h => h); (· refine Or.inl ⟨by rfl, ?_⟩; intro w hSw; (try dsimp only at hSw); go_simp; try with_reducible rfl); (· assumption); (try simp only [Act.put, List.setIfInBounds_toArray, List.set_cons_zero, List.set_cons_succ])
          refine wpAnyHI_take (i := 10) (oi := ?_) (v := ?_) ?_ ?_ ?_ ?_ ?_ ?_ ?_ ?_; rotate_left 2; (· simp only [List.getElem?_toArray, List.getElem?_cons_succ, List.getElem?_cons_zero]; with_reducible rfl); (· kernel_rfl); (· kernel_rfl); (· kernel_rfl); (· exact fun _ _ _ h => h); (· refine Or.inl ⟨by rfl, ?_⟩; intro w hSw; (try dsimp only at hSw); go_simp; try with_reducible rfl); (· assumption); (try simp only [Act.put, List.setIfInBounds_toArray, List.set_cons_zero, List.set_cons_succ])
          refine wpAnyHI_take (i := 11) (oi := ?_) (v := ?_) ?_ ?_ ?_ ?_ ?_ ?_ ?_ ?_; rotate_left 2; (· simp only [List.getElem?_toArray, List.getElem?_cons_succ, List.getElem?_cons_zero]; with_reducible rfl); (· kernel_rfl); (· kernel_rfl); (· kernel_rfl); (· exact fun _ _ _ h => h); (· refine Or.inl ⟨by rfl, ?_⟩; intro w hSw; (try dsimp only at hSw); go_simp; try with_reducible rfl); (· assumption); (try simp only [Act.put, List.setIfInBounds_toArray, List.set_cons_zero, List.set_cons_succ])
          refine wpAnyHI_take (i := 12) (oi := ?_) (v := ?_) ?_ ?_ ?_ ?_ ?_ ?_ ?_ ?_; rotate_left 2; (· simp only [List.getElem?_toArray, List.getElem?_cons_succ, List.getElem?_cons_zero]; with_reducible rfl); (· kernel_rfl); (· kernel_rfl); (· kernel_rfl); (· exact fun _ _ _ h => h); (· refine Or.inl ⟨by rfl, ?_⟩; intro w hSw; (try dsimp only at hSw); go_simp; try with_reducible rfl); (· assumption); (try simp only [Act.put, List.setIfInBounds_toArray, List.set_cons_zero, List.set_cons_succ])
          obtain ⟨fn, tmps, assign, body, hy, hR⟩ := yield_deep (F := Fence.wide) rfl 11 (HYR.out wL HBL.out HHH.out)
          unfold encR at hy
          dsimp only at hy
          refine wpAnyHI_yield (i := 13) (by kernel_rfl) (o := ?_) ?_ (by kernel_rfl) (l := l) (fn := fn) (tmps := tmps) (assign := assign) (body := body) ?_ hR ?_
          rotate_left 1
          · simp only [List.getElem?_toArray, List.getElem?_cons_succ, List.getElem?_cons_zero]; with_reducible rfl
          · go_simp
          · have HS4 := Lib.hid (fun (w3 : World) (hk3 : KeepsUp wr.heap.size wL w3) (hE : RemsEnv h ta tl tc ma ml mc c now bh bc bn w3) => show (w3.cell? ⟨bh, 0, none⟩ = some (.slice ta tl tc) ∧ w3.cell? ⟨bh, 1, none⟩ = some (.slice ma ml mc) ∧ w3.cell? ⟨bc, 0, none⟩ = some (.int .i64 c) ∧ w3.cell? ⟨bn, 0, none⟩ = some (.int .i64 now)) ∧ w3.cell? ⟨gr, 0, none⟩ = some (.slice a (h.pick i).length n) ∧ w3.cell? ⟨gr, 1, none⟩ = some (.int .i64 (h.cost i)) from
              ⟨hE.2, (hk3.cell hgw (World.block_lt_of_cell? _ _ hS2.2.1) 0).trans hS2.2.1, (hk3.cell hgw (World.block_lt_of_cell? _ _ hS2.2.1) 1).trans hS2.2.2⟩)
            have hzL := HBL.out.size
            have hzw := HBW.out.size
            rintro e w3 (⟨rfl, hJ3, hk3⟩ | ⟨rfl, hS3, hk3⟩)
            · have hS5 := HS4.out w3 hk3 (HE.out _ _ hJ3)
              have HJ3 := Lib.hid hJ3
              have hz3' := hk3.1
              clear hJ3 hk3 hS2 hHeld
              refine ⟨_, rfl, hS5, fun hHeld2 => ?_⟩
              (try simp only [Act.put, List.setIfInBounds_toArray, List.set_cons_zero, List.set_cons_succ])
              refine wpAnyHI_take (i := 14) (oi := ?_) (v := ?_) ?_ ?_ ?_ ?_ ?_ ?_ ?_ ?_; rotate_left 2; (· simp only [List.getElem?_toArray, List.getElem?_cons_succ, List.getElem?_cons_zero]; with_reducible rfl); (· kernel_rfl); (· kernel_rfl); (· kernel_rfl); (· exact fun _ _ _ h => h); (· refine Or.inl ⟨by rfl, ?_⟩; intro w hSw; (try dsimp only at hSw); go_simp; try with_reducible rfl); (· assumption); (try simp only [Act.put, List.setIfInBounds_toArray, List.set_cons_zero, List.set_cons_succ])
              refine wpAnyHI_take (i := 15) (oi := ?_) (v := ?_) ?_ ?_ ?_ ?_ ?_ ?_ ?_ ?_; rotate_left 2; (· simp only [List.getElem?_toArray, List.getElem?_cons_succ, List.getElem?_cons_zero]; with_reducible rfl); (· kernel_rfl); (· kernel_rfl); (· kernel_rfl); (· exact fun _ _ _ h => h); (· refine Or.inl ⟨by rfl, ?_⟩; intro w hSw; (try dsimp only at hSw); go_simp; try with_reducible rfl); (· assumption); (try simp only [Act.put, List.setIfInBounds_toArray, List.set_cons_zero, List.set_cons_succ])
              refine wpAnyHI_done (by kernel_rfl) ?_ _
              gi_wp2_with fail
              gi_meet
              exact .inl ⟨rfl, pre ++ [⟨i, a, n⟩], by rw [HF.out, ← HPRE.out, List.map_append]; rfl, HJ3.out, by omega⟩
            · have hS5 := HS4.out w3 hk3 (HES.out _ hS3)
              have HS3 := Lib.hid hS3
              clear hS3 hk3 hS2 hHeld
              refine ⟨_, rfl, hS5, fun hHeld2 => ?_⟩
              (try simp only [Act.put, List.setIfInBounds_toArray, List.set_cons_zero, List.set_cons_succ])
              refine wpAnyHI_take (i := 14) (oi := ?_) (v := ?_) ?_ ?_ ?_ ?_ ?_ ?_ ?_ ?_; rotate_left 2; (· simp only [List.getElem?_toArray, List.getElem?_cons_succ, List.getElem?_cons_zero]; with_reducible rfl); (· kernel_rfl); (· kernel_rfl); (· kernel_rfl); (· exact fun _ _ _ h => h); (· refine Or.inl ⟨by rfl, ?_⟩; intro w hSw; (try dsimp only at hSw); go_simp; try with_reducible rfl); (· assumption); (try simp only [Act.put, List.setIfInBounds_toArray, List.set_cons_zero, List.set_cons_succ])
              refine wpAnyHI_take (i := 15) (oi := ?_) (v := ?_) ?_ ?_ ?_ ?_ ?_ ?_ ?_ ?_; rotate_left 2; (· simp only [List.getElem?_toArray, List.getElem?_cons_succ, List.getElem?_cons_zero]; with_reducible rfl); (· kernel_rfl); (· kernel_rfl); (· kernel_rfl); (· exact fun _ _ _ h => h); (· refine Or.inl ⟨by rfl, ?_⟩; intro w hSw; (try dsimp only at hSw); go_simp; try with_reducible rfl); (· assumption); (try simp only [Act.put, List.setIfInBounds_toArray, List.set_cons_zero, List.set_cons_succ])
              refine wpAnyHI_done (by kernel_rfl) ?_ _
              gi_wp2_with fail
              gi_meet
              exact .inr ⟨rfl, HS3.out⟩
      case rest =>
        rcases hcut with ⟨rfl, pre', hp', hJ', hz'⟩ | ⟨rfl, hS'⟩
        · gi_wp2_with fail
          gi_roundg (m - (i + 1))
          case measure => omega
          case rel => exact ⟨i + 1, pre', by omega, by go_num, hp', hJ', hz'⟩
        · gi_wp2_with fail
          exact ⟨rfl, _, results_none rfl _ _ _, ⟨_, rfl⟩, .inr hS'⟩
    · obtain rfl : i = m := by omega
      have hmi : ¬ (i : Int) < (i : Int) := by omega
      have HX := Lib.hid (show (∃ all, List.map Rem.x all = h.rems c now ∧ J all wr) ∨ Stop wr from .inl ⟨pre, by rw [HRM.out]; exact hpre, hJp⟩)
      gi_wp2_with fail
      go_end0
      exact ⟨⟨_, rfl⟩, HX.out⟩

set_option maxRecDepth 100000 in
set_option maxHeartbeats 1000000 in
theorem remedies_any (h : CHouse) (ta : Option Addr) (tl tc : Nat) (ma : Option Addr) (ml mc : Nat) (c now : Int) (w : World) :
    Calls Try.prog 96 #[.agg #[.slice ta tl tc, .slice ma ml mc], .int .i64 c, .int .i64 now] w fun e w' => ∃ bh bc bn, e = .returned (.func (.func 106) #[] #[.pointer (some ⟨bh, 0, none⟩), .pointer (some ⟨bc, 0, none⟩), .pointer (some ⟨bn, 0, none⟩)]) ∧ Below w.heap.size w w' ∧
      (bh < w'.heap.size ∧ bc < w'.heap.size ∧ bn < w'.heap.size) ∧ w'.cell? ⟨bh, 0, none⟩ = some (.slice ta tl tc) ∧ w'.cell? ⟨bh, 1, none⟩ = some (.slice ma ml mc) ∧ w'.cell? ⟨bc, 0, none⟩ = some (.int .i64 c) ∧ w'.cell? ⟨bn, 0, none⟩ = some (.int .i64 now) := by
  go_enter Try.func96, Try.ntmps96
  go_wp2_with fail
  go_ret
  exact ⟨_, _, _, rfl, (by repeat (first | exact Below.refl _ _ | (refine Below.alloc ?_ (by first | omega | (simp; omega) | simp) _) | (refine Below.setCell ?_ (by first | omega | (simp; omega) | simp) _) | refine Below.drew ?_)), ⟨(by first | omega | (simp; omega) | simp), (by first | omega | (simp; omega) | simp), (by first | omega | (simp; omega) | simp)⟩, by go_simp, by go_simp, by go_simp, by go_simp⟩
end Go.Proofs.Ytedfdhpggghjeaa
