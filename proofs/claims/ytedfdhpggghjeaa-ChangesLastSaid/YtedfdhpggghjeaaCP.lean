/- Package changes: chosen. -/
import Derived.Test.YtedfdhpggghjeaaCO
namespace Go.Proofs.Ytedfdhpggghjeaa
set_option linter.unusedVariables false
set_option linter.unusedSimpArgs false
open Go.RowKit Go.Shelf

set_option maxRecDepth 100000 in
theorem low_bits : ∀ n : Fin 256, (bits BinOp.and IntKind.i64 ((n.val : Nat) : Int) 1 == 1) = (n.val % 2 == 1) := by decide
theorem low_bit (c p : Nat) (hc : c < 256) : (bits BinOp.and IntKind.i64 ((c : Int) / 2 ^ p) 1 == 1) = bitB c p := by
  have h : ((c : Int) / 2 ^ p) = ((c / 2 ^ p : Nat) : Int) := by simp
  rw [h]
  exact low_bits ⟨c / 2 ^ p, Nat.lt_of_le_of_lt (Nat.div_le_self _ _) hc⟩

set_option maxRecDepth 100000 in
set_option maxHeartbeats 8000000 in
theorem chosen_any (h : CHouse) (ta : Option Addr) (tl tc : Nat) (ma : Option Addr) (ml mc : Nat) (ho : h.okT = true) (x : Nat) (hx : x < 256) (w : World) (hp : HAt w ta tl tc ma ml mc h) :
    Calls Try.prog 107 #[.agg #[.slice ta tl tc, .slice ma ml mc], .int .i64 x] w fun e w' => (∃ a n, e = .returned (.agg #[.slice a (h.pick x).length n, .int .i64 (h.cost x)]) ∧ IntsAt w' a (h.pick x).length (h.pick x) ∧ ∀ ad, a = some ad → w.heap.size ≤ ad.block) ∧ Below w.heap.size w w' := by
  have htl := hp.1.1
  have h8 := CHouse.okT_few ho
  have HTC := Lib.hid hp.1.2.2
  have HN := Lib.hid (fun k => numsTo_next (bitB x) k)
  have HLN := Lib.hid (fun k => numsTo_len (bitB x) k)
  have HCN := Lib.hid (fun k (hk : k < h.things.length) => show h.costTo x (k + 1) = h.costTo x k + (if bitB x k = true then h.things[k].c else 0) from by rw [CHouse.costTo, List.getElem?_eq_getElem hk]; rfl)
  have HCB := Lib.hid (fun k => costTo_bd ho x k)
  have HCT := Lib.hid (fun k (hk : k < h.things.length) => (CHouse.okT_thing ho hk).2.2.1)
  have HLB := Lib.hid (fun k => low_bit x k hx)
  have HTL := Lib.hid htl
  unfold CHouse.pick CHouse.cost
  rw [htl]
  have htl8 : tl ≤ 8 := by omega
  clear hp ho h8 htl
  go_enter Try.func107, Try.ntmps107
  go_wp2_with fail
  obtain ⟨W0, hW0, hB0, ⟨g0, g1⟩, ⟨e0, e1, e2, e3⟩, ⟨s0, s1, s2, s3⟩, hz0⟩ : ∃ W0, ((w.alloc (.cells #[.slice ta tl tc, .slice ma ml mc] 75)).alloc (.cells #[.slice none 0 0, .int .i64 0] 89)).alloc (.cells #[.slice none 0 0, .int .i64 0] 89) = W0 ∧ Below w.heap.size w W0 ∧ (W0.cell? ⟨w.heap.size, 0, none⟩ = some (.slice ta tl tc) ∧ W0.cell? ⟨w.heap.size, 1, none⟩ = some (.slice ma ml mc)) ∧
      (W0.cell? ⟨w.heap.size + 1, 0, none⟩ = some (.slice none 0 0) ∧ W0.cell? ⟨w.heap.size + 1, 1, none⟩ = some (.int .i64 0) ∧ W0.frozen? ⟨w.heap.size + 1, 0, none⟩ = false ∧ W0.frozen? ⟨w.heap.size + 1, 1, none⟩ = false) ∧ (W0.cell? ⟨w.heap.size + 1 + 1, 0, none⟩ = some (.slice none 0 0) ∧ W0.cell? ⟨w.heap.size + 1 + 1, 1, none⟩ = some (.int .i64 0) ∧ W0.frozen? ⟨w.heap.size + 1 + 1, 0, none⟩ = false ∧ W0.frozen? ⟨w.heap.size + 1 + 1, 1, none⟩ = false) ∧ W0.heap.size = w.heap.size + 3 :=
    ⟨_, rfl, (by repeat (first | exact Below.refl _ _ | (refine Below.alloc ?_ (by first | omega | (simp; omega) | simp) _) | (refine Below.setCell ?_ (by first | omega | (simp; omega) | simp) _) | refine Below.drew ?_)), ⟨by go_simp, by go_simp⟩, ⟨by go_simp, by go_simp, by go_simp, by go_simp⟩, ⟨by go_simp, by go_simp, by go_simp, by go_simp⟩, by simp⟩
  rw [hW0]
  clear hW0
  obtain ⟨gr, hgr⟩ : ∃ gr, gr = w.heap.size + 1 + 1 := ⟨_, rfl⟩
  rw [← hgr] at s0 s1 s2 s3 ⊢
  have hgl : w.heap.size + 1 < gr := by omega
  have hgW : gr < W0.heap.size := by omega
  clear hgr hz0
  have HBW := Lib.hid hB0
  have HG := Lib.hid (And.intro g0 g1)
  have HE := Lib.hid (And.intro e0 (And.intro e1 (And.intro e2 e3)))
  have HS0 := Lib.hid (And.intro s0 (And.intro s1 (And.intro s2 s3)))
  clear hB0 g0 g1 e0 e1 e2 e3 s0 s1 s2 s3
  go_loopw [12] (fun i wr => ∃ (k : Nat) (v : Value), k ≤ tl ∧ i = .int .i64 k ∧ (wr.cell? ⟨gr, 0, none⟩ = some v ∧ wr.cell? ⟨gr, 1, none⟩ = some (.int .i64 (h.costTo x k)) ∧ wr.frozen? ⟨gr, 0, none⟩ = false ∧ wr.frozen? ⟨gr, 1, none⟩ = false) ∧ wr.ownsRow W0.heap.size 3 1 v (numsTo (bitB x) k).length ((numsTo (bitB x) k).map (Value.int .i64)) ∧ W0.heap.size ≤ wr.heap.size ∧ Below gr W0 wr) (fun i _ => tl - (intOf i).toNat)
  case atStart => exact ⟨0, .slice none 0 0, by omega, rfl, HS0.out, ⟨rfl, .inl ⟨rfl, rfl⟩⟩, Nat.le_refl _, Below.refl _ _⟩
  case round =>
    obtain ⟨k, v, hk, rfl, ⟨s0, s1, s2, s3⟩, hO, hz1, hB⟩ := hrel
    obtain ⟨W1, rfl⟩ : ∃ W1 : World, W1 = wr := ⟨_, rfl⟩
    have HB := Lib.hid hB
    have HO := Lib.hid hO
    have hd1 : w.heap.size + 1 < gr := by omega
    have r0 := (hB.cell (p := ⟨w.heap.size + 1, 0, none⟩) hd1).trans HE.out.1
    have r1 := (hB.cell (p := ⟨w.heap.size + 1, 1, none⟩) hd1).trans HE.out.2.1
    have r2 := (hB.frozen (p := ⟨w.heap.size + 1, 0, none⟩) hd1).trans HE.out.2.2.1
    have r3 := (hB.frozen (p := ⟨w.heap.size + 1, 1, none⟩) hd1).trans HE.out.2.2.2
    have hbw := HBW.out.trans (hB.mono (by omega))
    have HW1 := Lib.hid hbw
    have hgz : gr < W1.heap.size := by omega
    clear hB hO
    by_cases hlt : k < tl
    · have hk2 : k < h.things.length := by rw [HTL.out]; exact hlt
      obtain ⟨tb, tz, rfl, htB, htcell⟩ := HTC.out (by omega)
      obtain ⟨d0, d1, d2, d3⟩ := htcell k hk2
      have c0 := (hbw.cell (p := ⟨tb, _, none⟩) htB).trans d0
      have c1 := (hbw.cell (p := ⟨tb, _, none⟩) htB).trans d1
      have c2 := (hbw.cell (p := ⟨tb, _, none⟩) htB).trans d2
      have c3 := (hbw.cell (p := ⟨tb, _, none⟩) htB).trans d3
      have hkl : (k : Int) < (tl : Int) := by omega
      have hk0 : (0 : Int) ≤ (k : Int) := by omega
      have hk64 : k < 64 := by omega
      have htW : tb < W1.heap.size := by have := hbw.size; omega
      have hln := HLN.out k
      have hN := HN.out k
      have hC := HCN.out k hk2
      have hcb := HCB.out k
      have hct := HCT.out k hk2
      have hlb := HLB.out k
      clear htcell d0 d1 d2 d3 hbw r0 r1 r2 r3
      generalize h.things[k] = tx at *
      obtain ⟨xo, xa, xc, xp⟩ := tx
      simp only at c0 c1 c2 c3 hC hct
      generalize h.costTo x k = cst at *
      rcases hv : bitB x k with - | -
      · rw [hv] at hlb
        rw [hv, if_neg (by simp)] at hN hC
        rw [Int.add_zero] at hC
        have HNK := Lib.hid hN
        have HCK := Lib.hid hC
        clear hv hN hC
        go_wp2_with fail
        go_roundw
        case rel => exact ⟨k + 1, v, by omega, by go_num, by rw [HCK.out]; exact ⟨by go_simp, by go_simp, by go_simp, by go_simp⟩, by rw [HNK.out]; exact HO.out.kept (grown_none (by repeat (first | exact Below.refl _ _ | (refine Below.alloc ?_ (by first | omega | (simp; omega) | simp) _) | (refine Below.setCell ?_ (by first | omega | (simp; omega) | simp) _) | refine Below.drew ?_))) (Classical.em _), by simp; omega, HB.out.trans (by repeat (first | exact Below.refl _ _ | (refine Below.alloc ?_ (by first | omega | (simp; omega) | simp) _) | (refine Below.setCell ?_ (by first | omega | (simp; omega) | simp) _) | refine Below.drew ?_))⟩
        case measure => simp [intOf]; omega
      · rw [hv] at hlb
        rw [hv, if_pos rfl] at hN hC
        have HNK := Lib.hid hN
        have HCK := Lib.hid hC
        clear hv hN hC
        generalize numsTo (bitB x) k = ys at *
        have hk1000 : ys.length ≤ 1000 := by omega
        have hwc : IntKind.i64.wrap (cst + xc) = cst + xc := IntWalk.i64_in _ ⟨by omega, by omega⟩
        have hne : ∀ r, v.ownBlock = some r → W0.heap.size ≤ r ∧ r < W1.heap.size := fun r e => ⟨own_low HO.out r e, own_lt HO.out r e⟩
        have HNE := Lib.hid (show some gr ≠ v.ownBlock from fun e => by have := hne gr e.symm; omega)
        have HNX := Lib.hid (show some W1.heap.size ≠ v.ownBlock from fun e => by have := hne _ e.symm; omega)
        clear hne
        go_wp2_with (at_builtin; go_must (refine wpList_append_int _ W0.heap.size ys.length v (ys.map (Value.int .i64)) (k : Int) rfl _ _ rfl rfl ⟨_, rfl, ?_⟩ ?_ hk1000 ?_ ?_); go_must (focus (simp; done)); go_must (· exact HO.out.kept (grown_none (by repeat (first | exact Below.refl _ _ | (refine Below.alloc ?_ (by first | omega | (simp; omega) | simp) _) | (refine Below.setCell ?_ (by first | omega | (simp; omega) | simp) _) | refine Below.drew ?_))) (Classical.em _)); go_must (focus (first | omega | (simp; omega))); intro v2 wF hoF hgF hnF; obtain ⟨a2, n2, rfl⟩ := own_slice1 hoF; have f0 : wF.cell? ⟨gr, 0, none⟩ = some v := (World.cell?_of_block (a := ⟨gr, 0, none⟩) (hgF.block gr (by simp; omega) HNE.out)).trans (by go_simp); have f1 : wF.cell? ⟨gr, 1, none⟩ = some (.int .i64 cst) := (World.cell?_of_block (a := ⟨gr, 1, none⟩) (hgF.block gr (by simp; omega) HNE.out)).trans (by go_simp); have f2 : wF.frozen? ⟨gr, 0, none⟩ = false := (World.frozen?_of_block (a := ⟨gr, 0, none⟩) (hgF.block gr (by simp; omega) HNE.out)).trans (by go_simp); have f3 : wF.frozen? ⟨gr, 1, none⟩ = false := (World.frozen?_of_block (a := ⟨gr, 1, none⟩) (hgF.block gr (by simp; omega) HNE.out)).trans (by go_simp); have fx : wF.cell? ⟨W1.heap.size, 2, none⟩ = some (.int .i64 xc) := (World.cell?_of_block (a := ⟨W1.heap.size, 2, none⟩) (hgF.block W1.heap.size (by simp; omega) HNX.out)).trans (by go_simp); have hzF := hgF.size; (try simp at hzF); have hgF2 : gr < wF.heap.size := (by omega); have hxg : ¬ W1.heap.size = gr := (by omega); have HOF := Lib.hid hoF; have HGF := Lib.hid (gb_up2 (W := W1) (by repeat (first | exact Below.refl _ _ | (refine Below.alloc ?_ (by first | omega | (simp; omega) | simp) _) | (refine Below.setCell ?_ (by first | omega | (simp; omega) | simp) _) | refine Below.drew ?_)) hgF); clear hoF hgF hnF s0 s1 s2 s3 c0 c1 c2 c3)
        go_roundw
        case rel =>
          refine ⟨k + 1, .slice a2 (ys.length + 1) n2, by omega, by go_num, by rw [HCK.out]; exact ⟨by go_simp, by go_simp, by go_simp, by go_simp⟩, ?_, by simp; omega, ?_⟩
          · rw [HNK.out, List.map_append, List.length_append]
            exact HOF.out.kept (gbx_set (gbx_set (grow_gb (Below.refl _ _) _) _ _) _ _) (Or.inr (fun e => by have := own_low HOF.out _ e; omega))
          · have hBB := HB.out.trans (grown_low HGF.out (by omega : gr ≤ W1.heap.size) (fun r e => by have := own_low HO.out r e; omega))
            exact (by repeat (first | assumption | exact Below.refl _ _ | (refine Below.alloc ?_ (by first | omega | (simp; omega) | simp) _) | (refine Below.setCell ?_ (by first | omega | (simp; omega) | simp) _) | refine Below.drew ?_))
        case measure => simp [intOf]; omega
    · obtain rfl : tl = k := by omega
      obtain ⟨a, n, rfl, hi⟩ := own_ints HO.out rfl
      have HI := Lib.hid hi
      have hg1z : w.heap.size + 1 < W1.heap.size := by omega
      have HKE := Lib.hid (show ∀ WF, W1.grownBy WF (some (w.heap.size + 1)) → IntsAt WF a (numsTo (bitB x) tl).length (numsTo (bitB x) tl) from fun WF hg => by
        obtain ⟨a', n', e, hi'⟩ := own_ints (HO.out.kept hg (Or.inr (fun e => by have := own_low HO.out _ e; omega))) rfl
        injection e with e1 e2 e3
        rw [e1]; exact hi')
      have HFR := Lib.hid (show ∀ ad, a = some ad → w.heap.size ≤ ad.block from fun ad e => Nat.le_trans HBW.out.size (own_low HO.out ad.block (by rw [e]; rfl)))
      clear hi
      go_wp2_with fail
      refine bodyPost_ret (v := .agg #[.slice a (numsTo (bitB x) tl).length n, .int .i64 (h.costTo x tl)]) (by simp [results, Try.results107, go_sem, *]) rfl ⟨⟨a, n, rfl, HKE.out _ (gbx_set (gbx_set (grow_gb (Below.refl _ _) _) _ _) _ _), HFR.out⟩, by have hBB := hbw; exact (by repeat (first | assumption | exact Below.refl _ _ | (refine Below.alloc ?_ (by first | omega | (simp; omega) | simp) _) | (refine Below.setCell ?_ (by first | omega | (simp; omega) | simp) _) | refine Below.drew ?_))⟩
end Go.Proofs.Ytedfdhpggghjeaa
