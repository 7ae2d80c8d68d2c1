/- The laws of changes: Priced. -/
import Derived.Test.YtedfdhpggghjeaaDH
namespace Go.Proofs.Ytedfdhpggghjeaa
set_option linter.unusedVariables false
set_option linter.unusedSimpArgs false
open Go.RowKit Go.Shelf

theorem cells4_set : ∀ (L : List CThing) (i : Nat) (_ : i < L.length) (m : CThing), (L.set i m).flatMap CThing.cells = ((((L.flatMap CThing.cells).set (i * 4) (.int .i64 m.o)).set (i * 4 + 1) (.int .i64 m.a)).set (i * 4 + 2) (.int .i64 m.c)).set (i * 4 + 3) (.int .i64 m.p)
  | [], i, h, m => by simp at h
  | x :: L, 0, h, m => by simp [CThing.cells]
  | x :: L, i + 1, h, m => by
    have ih := cells4_set L i (by simpa using h) m
    rw [List.set_cons_succ, List.flatMap_cons, List.flatMap_cons, ih]
    have e : (i + 1) * 4 = i * 4 + 1 + 1 + 1 + 1 := by omega
    rw [e]
    simp [CThing.cells]
/-- A house's rows lie from a place on. -/
def Fresh (n0 : Nat) (ta : Option Addr) (tl tc : Nat) (ma : Option Addr) (ml mc : Nat) : Prop := (0 < tl → ∀ ad, ta = some ad → n0 ≤ ad.block) ∧ (0 < ml → ∀ ad, ma = some ad → n0 ≤ ad.block)
theorem Fresh.low {n0 n1 : Nat} {ta : Option Addr} {tl tc : Nat} {ma : Option Addr} {ml mc : Nat} (h : Fresh n0 ta tl tc ma ml mc) (hn : n1 ≤ n0) : Fresh n1 ta tl tc ma ml mc :=
  ⟨fun h0 ad e => Nat.le_trans hn (h.1 h0 ad e), fun h0 ad e => Nat.le_trans hn (h.2 h0 ad e)⟩
theorem HAt.grown {n0 : Nat} {w w' : World} {R : Option Nat} {h : CHouse} {ta : Option Addr} {tl tc : Nat} {ma : Option Addr} {ml mc : Nat} (hp : HAt w ta tl tc ma ml mc h) (hg : w.grownBy w' R) (hf : Fresh n0 ta tl tc ma ml mc) (hR : ∀ r, R = some r → r < n0) : HAt w' ta tl tc ma ml mc h := by
  obtain ⟨⟨a1, a2, a3⟩, ⟨b1, b2, b3⟩, hc⟩ := hp
  refine ⟨⟨a1, a2, fun h0 => ?_⟩, ⟨b1, b2, fun h0 => ?_⟩, hc⟩
  · obtain ⟨b, z, e, hb, hcell⟩ := a3 h0
    have hn := hf.1 h0 _ e
    have hk := hg.block b hb (fun q => by have := hR b q.symm; simp only at hn; omega)
    exact ⟨b, z, e, Nat.lt_of_lt_of_le hb hg.size, fun i hi => ⟨(World.cell?_of_block (a := ⟨b, z + i * 4, none⟩) hk).trans (hcell i hi).1, (World.cell?_of_block (a := ⟨b, z + i * 4 + 1, none⟩) hk).trans (hcell i hi).2.1, (World.cell?_of_block (a := ⟨b, z + i * 4 + 2, none⟩) hk).trans (hcell i hi).2.2.1, (World.cell?_of_block (a := ⟨b, z + i * 4 + 3, none⟩) hk).trans (hcell i hi).2.2.2⟩⟩
  · obtain ⟨b, z, e, hb, hcell⟩ := b3 h0
    have hn := hf.2 h0 _ e
    have hk := hg.block b hb (fun q => by have := hR b q.symm; simp only at hn; omega)
    exact ⟨b, z, e, Nat.lt_of_lt_of_le hb hg.size, fun i hi => ⟨(World.cell?_of_block (a := ⟨b, z + i * 3, none⟩) hk).trans (hcell i hi).1, (World.cell?_of_block (a := ⟨b, z + i * 3 + 1, none⟩) hk).trans (hcell i hi).2.1, (World.cell?_of_block (a := ⟨b, z + i * 3 + 2, none⟩) hk).trans (hcell i hi).2.2⟩⟩
theorem frow_fresh {w : World} {n0 n1 : Nat} {e e2 : TypeId} {size size2 : Nat} {ga gm : Option Addr} {k cap k2 cap2 : Nat} {cs cs2 : List Value} (h : FRow w n0 e size ga k cap cs) (h2 : FRow w n0 e2 size2 gm k2 cap2 cs2) (hn : n1 ≤ n0) : Fresh n1 ga k cap gm k2 cap2 :=
  ⟨fun h0 ad q => by obtain ⟨g, e3, hg, -⟩ := h.cell h0; rw [e3] at q; injection q with q; rw [← q]; exact Nat.le_trans hn hg, fun h0 ad q => by obtain ⟨g, e3, hg, -⟩ := h2.cell h0; rw [e3] at q; injection q with q; rw [← q]; exact Nat.le_trans hn hg⟩
/-- A house in which it costs something else to alter a thing. -/
def CHouse.priced (h : CHouse) (k : Nat) (q : Int) : CHouse := { h with things := match h.things[k]? with
  | none => h.things
  | some x => h.things.set k { x with c := q } }
theorem priced_at (h : CHouse) (k : Nat) (hk : k < h.things.length) (q : Int) : h.priced k q = { h with things := h.things.set k { h.things[k] with c := q } } := by
  unfold CHouse.priced
  rw [List.getElem?_eq_getElem hk]
theorem frow_set {w : World} {n0 k cap g : Nat} {ps : List CThing} (h : FRow w n0 59 4 (some ⟨g, 0, none⟩) k cap (ps.flatMap CThing.cells)) (i : Nat) (hi : i < ps.length) (hk : ps.length = k) (m : CThing) :
    FRow ((((w.setCell ⟨g, i * 4, none⟩ (.int .i64 m.o)).setCell ⟨g, i * 4 + 1, none⟩ (.int .i64 m.a)).setCell ⟨g, i * 4 + 2, none⟩ (.int .i64 m.c)).setCell ⟨g, i * 4 + 3, none⟩ (.int .i64 m.p)) n0 59 4 (some ⟨g, 0, none⟩) k cap ((ps.set i m).flatMap CThing.cells) := by
  rw [cells4_set ps i hi m]
  refine ⟨by simp only [List.length_set]; exact h.1, fun h0 => ?_⟩
  obtain ⟨g', e, ho⟩ := h.2 h0
  injection e with e
  injection e with e
  subst e
  exact ⟨g, rfl, own_set (own_set (own_set (own_set ho _ _) _ _) _ _) _ _⟩

set_option maxRecDepth 100000 in
set_option maxHeartbeats 8000000 in
theorem Priced_any (h : CHouse) (ta : Option Addr) (tl tc : Nat) (ma : Option Addr) (ml mc : Nat) (w : World) (hp : HAt w ta tl tc ma ml mc h) (ht1 : tl ≤ 1000) (hm1 : ml ≤ 1000) (k : Nat) (hk : k < h.things.length) (q : Int) :
    Calls Try.prog 53 #[.agg #[.slice ta tl tc, .slice ma ml mc], .int .i64 k, .int .i64 q] w fun e w' => (∃ (ga : Option Addr) (gac : Nat) (gm : Option Addr) (gmc : Nat), e = .returned (.agg #[.slice ga tl gac, .slice gm ml gmc]) ∧ HAt w' ga tl gac gm ml gmc (h.priced k q) ∧ Fresh w.heap.size ga tl gac gm ml gmc) ∧ Below w.heap.size w w' := by
  have HCP := Lib.hid (fun W (hb : Below w.heap.size w W) => Copy_any h ta tl tc ma ml mc W (hp.below hb) ht1 hm1)
  have HTL := Lib.hid hp.1.1
  have HML := Lib.hid hp.2.1.1
  rw [priced_at h k hk q]
  have hkl : k < tl := by rw [← HTL.out]; exact hk
  clear hp
  go_enter Try.func53, Try.ntmps53
  go_wp2_with fail
  obtain ⟨W0, hW0, hB0, ⟨g0, g1⟩, ⟨s0, s1, s2, s3⟩, hz0⟩ : ∃ W0, (w.alloc (.cells #[.slice ta tl tc, .slice ma ml mc] 25)).alloc (.cells #[.slice none 0 0, .slice none 0 0] 25) = W0 ∧ Below w.heap.size w W0 ∧ (W0.cell? ⟨w.heap.size, 0, none⟩ = some (.slice ta tl tc) ∧ W0.cell? ⟨w.heap.size, 1, none⟩ = some (.slice ma ml mc)) ∧
      (W0.cell? ⟨w.heap.size + 1, 0, none⟩ = some (.slice none 0 0) ∧ W0.cell? ⟨w.heap.size + 1, 1, none⟩ = some (.slice none 0 0) ∧ W0.frozen? ⟨w.heap.size + 1, 0, none⟩ = false ∧ W0.frozen? ⟨w.heap.size + 1, 1, none⟩ = false) ∧ W0.heap.size = w.heap.size + 2 :=
    ⟨_, rfl, (by repeat (first | exact Below.refl _ _ | (refine Below.alloc ?_ (by first | omega | (simp; omega) | simp) _) | (refine Below.setCell ?_ (by first | omega | (simp; omega) | simp) _) | refine Below.drew ?_)), ⟨by go_simp, by go_simp⟩, ⟨by go_simp, by go_simp, by go_simp, by go_simp⟩, by simp⟩
  try rw [hW0]
  clear hW0
  have z1 : w.heap.size + 1 < W0.heap.size := by omega
  have HB0 := Lib.hid hB0
  refine (HCP.out _ hB0).mono ?_
  rintro e w1 ⟨ga, gac, gm, gmc, rfl, hfa, hfm, hca, hcm, hb1⟩
  have hz1 := hb1.size
  have t0 := (hb1.cell (p := ⟨w.heap.size + 1, 0, none⟩) z1).trans s0
  have t1 := (hb1.cell (p := ⟨w.heap.size + 1, 1, none⟩) z1).trans s1
  have t2 := (hb1.frozen (p := ⟨w.heap.size + 1, 0, none⟩) z1).trans s2
  have t3 := (hb1.frozen (p := ⟨w.heap.size + 1, 1, none⟩) z1).trans s3
  obtain ⟨g, hge, hg0, hg1, hgc, hgf⟩ := hfa.cell (by omega)
  injection hge with hge
  subst hge
  have hkx : k < h.things.length := hk
  have ecell : ∀ j, j < 4 → ∀ u, (h.things[k]).cells[j]? = some u → w1.cell? ⟨g, k * 4 + j, none⟩ = some u := fun j hj u hu => by
    refine hgc _ u ?_
    rw [flat_get4 _ CThing.len _ _ (by omega)]
    have e1 : (k * 4 + j) / 4 = k := by omega
    have e2 : (k * 4 + j) % 4 = j := by omega
    simp only [e1, e2]; exact hu
  have c0 := ecell 0 (by omega) _ rfl
  have c1 := ecell 1 (by omega) _ rfl
  have c2 := ecell 2 (by omega) _ rfl
  have c3 := ecell 3 (by omega) _ rfl
  rw [Nat.add_zero] at c0
  have f0 := hgf (k * 4)
  have f1 := hgf (k * 4 + 1)
  have f2 := hgf (k * 4 + 2)
  have f3 := hgf (k * 4 + 3)
  have HFA := Lib.hid hfa
  have HFM := Lib.hid hfm
  have HCA := Lib.hid hca
  have HCM := Lib.hid hcm
  have HB1 := Lib.hid (HB0.out.trans (hb1.mono HB0.out.size))
  have hgl : w.heap.size + 1 < g := by omega
  have hkz : (k : Int) < (tl : Int) := by omega
  have hk0 : (0 : Int) ≤ (k : Int) := by omega
  clear hfa hfm hca hcm hb1 hgc hgf ecell g0 g1 s0 s1 s2 s3 hB0
  generalize hx : h.things[k] = x at *
  obtain ⟨xo, xa, xc, xp⟩ := x
  simp only at c0 c1 c2 c3
  go_upto_region 2 with fail
  obtain ⟨W2, hW2, hB2, ⟨r0, r1⟩, hz2⟩ : ∃ W2, w1.alloc (.cells #[.slice (some ⟨g, 0, none⟩) tl gac, .slice (some gm) ml gmc] 25) = W2 ∧ Below w1.heap.size w1 W2 ∧ (W2.cell? ⟨w1.heap.size, 0, none⟩ = some (.slice (some ⟨g, 0, none⟩) tl gac) ∧ W2.cell? ⟨w1.heap.size, 1, none⟩ = some (.slice (some gm) ml gmc)) ∧ W2.heap.size = w1.heap.size + 1 :=
    ⟨_, rfl, (by repeat (first | exact Below.refl _ _ | (refine Below.alloc ?_ (by first | omega | (simp; omega) | simp) _) | (refine Below.setCell ?_ (by first | omega | (simp; omega) | simp) _) | refine Below.drew ?_)), ⟨by go_simp, by go_simp⟩, by simp⟩
  rw [hW2]
  clear hW2
  have HFA2 := Lib.hid (HFA.out.kept (grow_gb hB2 none) (fun r e => by cases e))
  have HFM2 := Lib.hid (HFM.out.kept (grow_gb hB2 none) (fun r e => by cases e))
  have u0 := (hB2.cell (p := ⟨w.heap.size + 1, 0, none⟩) (by show w.heap.size + 1 < _; omega)).trans t0
  have u1 := (hB2.cell (p := ⟨w.heap.size + 1, 1, none⟩) (by show w.heap.size + 1 < _; omega)).trans t1
  have u2 := (hB2.frozen (p := ⟨w.heap.size + 1, 0, none⟩) (by show w.heap.size + 1 < _; omega)).trans t2
  have u3 := (hB2.frozen (p := ⟨w.heap.size + 1, 1, none⟩) (by show w.heap.size + 1 < _; omega)).trans t3
  have d0 := (hB2.cell (p := ⟨g, k * 4, none⟩) hg1).trans c0
  have d1 := (hB2.cell (p := ⟨g, k * 4 + 1, none⟩) hg1).trans c1
  have d2 := (hB2.cell (p := ⟨g, k * 4 + 2, none⟩) hg1).trans c2
  have d3 := (hB2.cell (p := ⟨g, k * 4 + 3, none⟩) hg1).trans c3
  have e0 := (hB2.frozen (p := ⟨g, k * 4, none⟩) hg1).trans f0
  have e1 := (hB2.frozen (p := ⟨g, k * 4 + 1, none⟩) hg1).trans f1
  have e2 := (hB2.frozen (p := ⟨g, k * 4 + 2, none⟩) hg1).trans f2
  have e3 := (hB2.frozen (p := ⟨g, k * 4 + 3, none⟩) hg1).trans f3
  have HB2 := Lib.hid (HB1.out.trans (hB2.mono (by omega)))
  obtain ⟨gb, hgb⟩ : ∃ gb, gb = w1.heap.size := ⟨_, rfl⟩
  rw [← hgb] at r0 r1 hz2 hg1 hz1 ⊢
  have hgg : ¬ g = gb := by omega
  have hgW : gb < W2.heap.size := by omega
  have hg1W : g < W2.heap.size := by omega
  clear hgb c0 c1 c2 c3 f0 f1 f2 f3 t0 t1 t2 t3 hB2
  go_upto_region 4 with fail
  obtain ⟨W3, hW3, hB3, ⟨v0, v1, v2, v3⟩, hz3⟩ : ∃ W3, W2.alloc (.cells #[.int .i64 xo, .int .i64 xa, .int .i64 q, .int .i64 xp] 59) = W3 ∧ Below W2.heap.size W2 W3 ∧ (W3.cell? ⟨gb + 1, 0, none⟩ = some (.int .i64 xo) ∧ W3.cell? ⟨gb + 1, 1, none⟩ = some (.int .i64 xa) ∧ W3.cell? ⟨gb + 1, 2, none⟩ = some (.int .i64 q) ∧ W3.cell? ⟨gb + 1, 3, none⟩ = some (.int .i64 xp)) ∧ W3.heap.size = W2.heap.size + 1 := by
    refine ⟨_, rfl, (by have hBB := Below.refl W2.heap.size W2; exact (by repeat (first | assumption | exact Below.refl _ _ | (refine Below.alloc ?_ (by first | omega | (simp; omega) | simp) _) | (refine Below.setCell ?_ (by first | omega | (simp; omega) | simp) _) | refine Below.drew ?_))), ?_, by simp⟩
    rw [← hz2]
    exact ⟨World.cell?_alloc_new W2 _ _ 0, World.cell?_alloc_new W2 _ _ 1, World.cell?_alloc_new W2 _ _ 2, World.cell?_alloc_new W2 _ _ 3⟩
  rw [hW3]
  clear hW3
  have HFA3 := Lib.hid (HFA2.out.kept (grow_gb hB3 none) (fun r e => by cases e))
  have HFM3 := Lib.hid (HFM2.out.kept (grow_gb hB3 none) (fun r e => by cases e))
  have q0 := (hB3.cell (p := ⟨w.heap.size + 1, 0, none⟩) (by show w.heap.size + 1 < _; omega)).trans u0
  have q1 := (hB3.cell (p := ⟨w.heap.size + 1, 1, none⟩) (by show w.heap.size + 1 < _; omega)).trans u1
  have q2 := (hB3.frozen (p := ⟨w.heap.size + 1, 0, none⟩) (by show w.heap.size + 1 < _; omega)).trans u2
  have q3 := (hB3.frozen (p := ⟨w.heap.size + 1, 1, none⟩) (by show w.heap.size + 1 < _; omega)).trans u3
  have c0 := (hB3.cell (p := ⟨g, k * 4, none⟩) hg1W).trans d0
  have c1 := (hB3.cell (p := ⟨g, k * 4 + 1, none⟩) hg1W).trans d1
  have c2 := (hB3.cell (p := ⟨g, k * 4 + 2, none⟩) hg1W).trans d2
  have c3 := (hB3.cell (p := ⟨g, k * 4 + 3, none⟩) hg1W).trans d3
  have f0 := (hB3.frozen (p := ⟨g, k * 4, none⟩) hg1W).trans e0
  have f1 := (hB3.frozen (p := ⟨g, k * 4 + 1, none⟩) hg1W).trans e1
  have f2 := (hB3.frozen (p := ⟨g, k * 4 + 2, none⟩) hg1W).trans e2
  have f3 := (hB3.frozen (p := ⟨g, k * 4 + 3, none⟩) hg1W).trans e3
  have s0 := (hB3.cell (p := ⟨gb, 0, none⟩) hgW).trans r0
  have s1 := (hB3.cell (p := ⟨gb, 1, none⟩) hgW).trans r1
  have HB3 := Lib.hid (HB2.out.trans (hB3.mono (by omega)))
  clear d0 d1 d2 d3 e0 e1 e2 e3 u0 u1 u2 u3 r0 r1 hB3
  go_upto_region 5 with fail
  have HFA4 := Lib.hid (frow_set HFA3.out k hk HTL.out ⟨xo, xa, q, xp⟩)
  dsimp only at HFA4
  obtain ⟨W4, hW4, hG4⟩ : ∃ W4, (((W3.setCell ⟨g, k * 4, none⟩ (.int .i64 xo)).setCell ⟨g, k * 4 + 1, none⟩ (.int .i64 xa)).setCell ⟨g, k * 4 + 2, none⟩ (.int .i64 q)).setCell ⟨g, k * 4 + 3, none⟩ (.int .i64 xp) = W4 ∧ W3.grownBy W4 (some g) :=
    ⟨_, rfl, gbx_set (gbx_set (gbx_set (gbx_set (gbx_refl _ _) _ _) _ _) _ _) _ _⟩
  rw [hW4] at HFA4 ⊢
  clear hW4
  have hz4 := hG4.size
  have hn1 : some (w.heap.size + 1) ≠ some g := by intro e; injection e with e; omega
  have hn2 : some gb ≠ some g := by intro e; injection e with e; omega
  have p0 := (World.cell?_of_block (w := W3) (a := ⟨w.heap.size + 1, 0, none⟩) (hG4.block (w.heap.size + 1) (by omega) hn1)).trans q0
  have p1 := (World.cell?_of_block (w := W3) (a := ⟨w.heap.size + 1, 1, none⟩) (hG4.block (w.heap.size + 1) (by omega) hn1)).trans q1
  have p2 := (World.frozen?_of_block (w := W3) (a := ⟨w.heap.size + 1, 0, none⟩) (hG4.block (w.heap.size + 1) (by omega) hn1)).trans q2
  have p3 := (World.frozen?_of_block (w := W3) (a := ⟨w.heap.size + 1, 1, none⟩) (hG4.block (w.heap.size + 1) (by omega) hn1)).trans q3
  have r0 := (World.cell?_of_block (w := W3) (a := ⟨gb, 0, none⟩) (hG4.block gb (by omega) hn2)).trans s0
  have r1 := (World.cell?_of_block (w := W3) (a := ⟨gb, 1, none⟩) (hG4.block gb (by omega) hn2)).trans s1
  have HFM4 := Lib.hid (HFM3.out.kept hG4 (fun r e => by
    injection e with e
    subst e
    obtain ⟨_, e1, ho⟩ := HFA3.out.2 (by omega)
    injection e1 with e1
    injection e1 with e1
    subst e1
    obtain ⟨-, cur, hc⟩ := own_parts ho
    exact .inl ⟨cur, 59, hc, by decide⟩))
  have HB4 := Lib.hid (HB3.out.trans (grown_low hG4 (by omega) (fun r e => by injection e with e; omega)))
  clear q0 q1 q2 q3 c0 c1 c2 c3 f0 f1 f2 f3 s0 s1 v0 v1 v2 v3 hG4
  have HFR := Lib.hid (show Fresh w.heap.size (some ⟨g, 0, none⟩) tl gac (some gm) ml gmc from frow_fresh HFA4.out HFM4.out (by omega))
  have HFX := Lib.hid (show ∀ u v : Value, HAt ((W4.setCell ⟨w.heap.size + 1, 0, none⟩ u).setCell ⟨w.heap.size + 1, 1, none⟩ v) (some ⟨g, 0, none⟩) tl gac (some gm) ml gmc { h with things := h.things.set k ⟨xo, xa, q, xp⟩ } from fun u v =>
    ⟨frow_things (HFA4.out.kept (gbx_set (gbx_set (gbx_refl W4 (some (w.heap.size + 1))) 0 u) 1 v) (fun r e => by injection e with e; subst e; exact .inr (.inl (by omega)))) (by unfold maxLen; omega),
     frow_marks (HFM4.out.kept (gbx_set (gbx_set (gbx_refl W4 (some (w.heap.size + 1))) 0 u) 1 v) (fun r e => by injection e with e; subst e; exact .inr (.inl (by omega)))) (by unfold maxLen; omega), HCM.out.1.1, HCM.out.1.2⟩)
  go_wp2_with fail
  refine bodyPost_ret (v := .agg #[.slice (some ⟨g, 0, none⟩) tl gac, .slice (some gm) ml gmc]) (by simp [results, Try.results53, go_sem, *]) rfl ⟨⟨_, _, _, _, rfl, by rw [hx]; exact HFX.out _ _, HFR.out⟩, by have hBB := HB4.out; exact (by repeat (first | assumption | exact Below.refl _ _ | (refine Below.alloc ?_ (by first | omega | (simp; omega) | simp) _) | (refine Below.setCell ?_ (by first | omega | (simp; omega) | simp) _) | refine Below.drew ?_))⟩
end Go.Proofs.Ytedfdhpggghjeaa
