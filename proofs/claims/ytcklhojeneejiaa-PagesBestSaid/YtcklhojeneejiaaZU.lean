/- Package flonglaw03: Stocked. -/
import Derived.Test.YtcklhojeneejiaaZT
namespace Go.Proofs.Ytcklhojeneejiaa
set_option linter.unusedVariables false
set_option linter.unusedSimpArgs false
open Go.RowKit Go.Shelf

theorem own_up {N : Nat} {w w' : World} {n0 len sz : Nat} {e : TypeId} {v : Value} {xs : List Value} (h : w.ownsRow n0 e sz v len xs) (hk : KeepsUp N w w') (hn : N ≤ n0) : w'.ownsRow n0 e sz v len xs := by
  refine ⟨h.1, ?_⟩
  rcases h.2 with h2 | ⟨g, c, cur, h2, h3, h4, h5⟩
  · exact .inl h2
  · exact .inr ⟨g, c, cur, h2, h3, (hk.2 g (by omega) (Array.getElem?_eq_some_iff.1 h4).1).trans h4, h5⟩
theorem FRow.up {N : Nat} {w w' : World} {n0 : Nat} {e : TypeId} {size : Nat} {ga : Option Addr} {k cap : Nat} {cs : List Value} (h : FRow w n0 e size ga k cap cs) (hk : KeepsUp N w w') (hn : N ≤ n0) : FRow w' n0 e size ga k cap cs :=
  ⟨h.1, fun h0 => by obtain ⟨g, e1, ho⟩ := h.2 h0; exact ⟨g, e1, own_up ho hk hn⟩⟩
theorem LRow.up {N : Nat} {w w' : World} {n0 : Nat} {vs : List Value} {xs : List (List Int)} (h : LRow w n0 vs xs) (hk : KeepsUp N w w') (hn : N ≤ n0) : LRow w' n0 vs xs :=
  ⟨h.1, fun i hi => by obtain ⟨ga, c, h1, h3, h2⟩ := h.2 i hi; exact ⟨ga, c, h1, h3, h2.up hk hn⟩⟩
/-- The frame with so many strips of a kind. -/
def PFrame.stocked (f : PFrame) (k : Nat) (m : Int) : PFrame := { f with strips := f.strips.set k ⟨f.thick k, m⟩ }

set_option maxRecDepth 100000 in
set_option maxHeartbeats 8000000 in
theorem Stocked_any (f : PFrame) (sa : Option Addr) (sl sc : Nat) (pa : Option Addr) (pl pc : Nat) (ca : Option Addr) (cl cc : Nat) (k : Nat) (hk : k < f.strips.length) (m : Int) (w : World) (hp : PAt w sa sl sc pa pl pc ca cl cc f) (hm1 : sl ≤ 1000) (hw1 : cl ≤ 1000) (hn1 : pl ≤ 1000) (hx1 : ∀ x ∈ f.cols, x.length ≤ 1000) :
    Calls Try.prog 66 #[.agg #[.int .i64 f.len, .int .i64 f.slack, .slice sa sl sc, .slice pa pl pc, .slice ca cl cc], .int .i64 k, .int .i64 m] w fun e w' => ∃ ga gc ha hc ia ic, e = .returned (.agg #[.int .i64 f.len, .int .i64 f.slack, .slice ga sl gc, .slice ha pl hc, .slice ia cl ic]) ∧ (∀ W', KeepsUp w.heap.size w' W' → PAt W' ga sl gc ha pl hc ia cl ic (f.stocked k m)) ∧ Below w.heap.size w w' := by
  have hsl := hp.1.1
  have HCL := Lib.hid (fun w1 (hb : Below w.heap.size w w1) => Copy_any f sa sl sc pa pl pc ca cl cc w1 (hp.below hb) hm1 hw1 hn1 hx1)
  have hkl : (k : Int) < (sl : Int) := by omega
  have hk0 : (0 : Int) ≤ (k : Int) := by omega
  have HX1 := Lib.hid hx1
  clear hp hx1
  go_enter Try.func66, Try.ntmps66
  go_upto_region 1 with fail
  obtain ⟨W0, hW0, hB0, hs0, hr0, hz0⟩ := name2c w #[.int .i64 f.len, .int .i64 f.slack, .slice sa sl sc, .slice pa pl pc, .slice ca cl cc] 26 #[.int .i64 0, .int .i64 0, .slice none 0 0, .slice none 0 0, .slice none 0 0] 26
  have hfr1 : ∀ i, W0.frozen? ⟨w.heap.size + 1, i, none⟩ = false := by subst hW0; intro i; go_simp
  try rw [hW0]
  clear hW0
  obtain ⟨x0, x1, x2, x3, x4⟩ : W0.cell? ⟨w.heap.size, 0, none⟩ = some (.int .i64 f.len) ∧ W0.cell? ⟨w.heap.size, 1, none⟩ = some (.int .i64 f.slack) ∧ W0.cell? ⟨w.heap.size, 2, none⟩ = some (.slice sa sl sc) ∧ W0.cell? ⟨w.heap.size, 3, none⟩ = some (.slice pa pl pc) ∧ W0.cell? ⟨w.heap.size, 4, none⟩ = some (.slice ca cl cc) := ⟨hs0 0, hs0 1, hs0 2, hs0 3, hs0 4⟩
  have hd2 : w.heap.size + 1 < W0.heap.size := by omega
  go_upto_region 2 with (go_at_call 19; refine (HCL.out _ hB0).mono ?_; rintro e w2 ⟨gs, gsc, gp, gpc, va, vc, vs, N1, rfl, hM, hW, hO, hL, hN, hb2⟩; have HM := Lib.hid hM; have HW := Lib.hid hW; have HO := Lib.hid hO; have HL := Lib.hid hL; have HB2 := Lib.hid hb2; clear hM hW hO hL hb2)
  obtain ⟨g, hge, hgn, hgl, hgc, hgf⟩ := HM.out.cell (by omega)
  obtain rfl : gs = ⟨g, 0, none⟩ := by injection hge
  clear hge
  have hI : IsC w2 g 80 := by
    obtain ⟨g', e1, ho⟩ := HM.out.2 (by omega)
    obtain ⟨_, cur, hcur⟩ := own_parts ho
    injection e1 with e1
    injection e1 with e1
    rw [e1]
    exact ⟨cur, hcur⟩
  have hz2 := HB2.out.size
  obtain ⟨w3, hw3, hB3, ho3, hz3⟩ := name1k w2 #[.int .i64 f.len, .int .i64 f.slack, .slice (some ⟨g, 0, none⟩) sl gsc, .slice (some gp) pl gpc, .slice va cl vc] 26
  rw [hw3]
  clear hw3
  have hcg : ∀ i (h : i < f.strips.length), w2.cell? ⟨g, i * 2, none⟩ = some (.int .i64 f.strips[i].t) ∧ w2.cell? ⟨g, i * 2 + 1, none⟩ = some (.int .i64 f.strips[i].m) := fun i hi => by
    have e := fun t ht => hgc (i * 2 + t) _ (by rw [cells2_get f.strips i hi t ht]; exact List.getElem?_eq_getElem (by simpa [Strip.cells] using ht))
    have e0 := e 0 (by omega)
    have e1 := e 1 (by omega)
    simp only [Strip.cells, List.getElem_cons_zero, List.getElem_cons_succ] at e0 e1
    exact ⟨e0, e1⟩
  have q0 := (hB3.cell (p := ⟨g, k * 2, none⟩) hgl).trans (hcg k hk).1
  have q1 := (hB3.cell (p := ⟨g, k * 2 + 1, none⟩) hgl).trans (hcg k hk).2
  obtain ⟨y0, y1, y2, y3, y4⟩ : w3.cell? ⟨w2.heap.size, 0, none⟩ = some (.int .i64 f.len) ∧ w3.cell? ⟨w2.heap.size, 1, none⟩ = some (.int .i64 f.slack) ∧ w3.cell? ⟨w2.heap.size, 2, none⟩ = some (.slice (some ⟨g, 0, none⟩) sl gsc) ∧ w3.cell? ⟨w2.heap.size, 3, none⟩ = some (.slice (some gp) pl gpc) ∧ w3.cell? ⟨w2.heap.size, 4, none⟩ = some (.slice va cl vc) := ⟨ho3 0, ho3 1, ho3 2, ho3 3, ho3 4⟩
  have hth : f.thick k = f.strips[k].t := by unfold PFrame.thick; simp [hk]
  have HTH := Lib.hid hth
  have HCG := Lib.hid hcg
  have HGF := Lib.hid hgf
  clear hcg hgc hgf hth
  generalize f.strips[k].m = mo at *
  rw [← HTH.out] at q0
  generalize hft : f.thick k = th at *
  go_upto_region 3 with fail
  obtain ⟨w4, hw4, hB4, ho4, hz4⟩ := name1k w3 #[.int .i64 th, .int .i64 mo] 80
  have hfr4 : w4.frozen? ⟨w3.heap.size, 1, none⟩ = false := by subst hw4; go_simp
  try rw [hw4]
  clear hw4
  have s0 := ho4 0
  have s1 := ho4 1
  simp only [List.getElem?_toArray, List.getElem?_cons_zero, List.getElem?_cons_succ] at s0 s1
  go_upto_region 4 with fail
  obtain ⟨w5, hw5⟩ : ∃ w5, w4.setCell ⟨w3.heap.size, 1, none⟩ (.int .i64 m) = w5 := ⟨_, rfl⟩
  rw [hw5]
  have hB5 : Below w3.heap.size w3 w5 := by rw [← hw5]; exact hB4.setCell (by exact Nat.le_refl _) _
  have a0 : w5.cell? ⟨w3.heap.size, 0, none⟩ = some (.int .i64 th) := by rw [← hw5]; exact (set_cell' (by decide)).trans s0
  have a1 : w5.cell? ⟨w3.heap.size, 1, none⟩ = some (.int .i64 m) := by rw [← hw5]; exact set_cell s1
  have hz5 : w5.heap.size = w4.heap.size := by rw [← hw5]; simp [World.setCell]
  have hB25 : Below w2.heap.size w2 w5 := hB3.trans (hB5.mono (by omega))
  have hd3 : w2.heap.size < w3.heap.size := by omega
  have b0 := (hB5.cell (p := ⟨w2.heap.size, 0, none⟩) hd3).trans y0
  have b1 := (hB5.cell (p := ⟨w2.heap.size, 1, none⟩) hd3).trans y1
  have b2 := (hB5.cell (p := ⟨w2.heap.size, 2, none⟩) hd3).trans y2
  have b3 := (hB5.cell (p := ⟨w2.heap.size, 3, none⟩) hd3).trans y3
  have b4 := (hB5.cell (p := ⟨w2.heap.size, 4, none⟩) hd3).trans y4
  have p0 := (hB5.cell (p := ⟨g, k * 2, none⟩) (by show g < _; omega)).trans q0
  have p1 := (hB5.cell (p := ⟨g, k * 2 + 1, none⟩) (by show g < _; omega)).trans q1
  have pf : ∀ i, w5.frozen? ⟨g, i, none⟩ = false := fun i => (hB25.frozen (p := ⟨g, i, none⟩) hgl).trans (HGF.out i)
  have pf0 := pf (k * 2)
  have pf1 := pf (k * 2 + 1)
  clear hw5 s0 s1 q0 q1 y0 y1 y2 y3 y4 x0 x1 x2 x3 x4
  go_upto_region 5 with fail
  obtain ⟨w6, hw6⟩ : ∃ w6, (w5.setCell ⟨g, k * 2, none⟩ (.int .i64 th)).setCell ⟨g, k * 2 + 1, none⟩ (.int .i64 m) = w6 := ⟨_, rfl⟩
  rw [hw6]
  have hg6 : w5.grownBy w6 (some g) := by rw [← hw6]; exact gbx_set (gbx_set (gbx_refl _ _) _ _) _ _
  have e0 : w6.cell? ⟨g, k * 2, none⟩ = some (.int .i64 th) := by rw [← hw6]; exact (set_cell' (by omega)).trans (set_cell p0)
  have e1 : w6.cell? ⟨g, k * 2 + 1, none⟩ = some (.int .i64 m) := by rw [← hw6]; exact set_cell ((set_cell' (by omega)).trans p1)
  have eo : ∀ j, j ≠ k * 2 → j ≠ k * 2 + 1 → w6.cell? ⟨g, j, none⟩ = w5.cell? ⟨g, j, none⟩ := fun j h1 h2 => by rw [← hw6]; exact (set_cell' (fun e => h2 e.symm)).trans (set_cell' (fun e => h1 e.symm))
  have h6 : ∀ b i, b ≠ g → b < w5.heap.size → w6.cell? ⟨b, i, none⟩ = w5.cell? ⟨b, i, none⟩ := fun b i h1 h2 => World.cell?_of_block (w := w5) (a := ⟨b, i, none⟩) (hg6.block b h2 (by simp; exact h1))
  have h6f : ∀ b i, b ≠ g → b < w5.heap.size → w6.frozen? ⟨b, i, none⟩ = w5.frozen? ⟨b, i, none⟩ := fun b i h1 h2 => World.frozen?_of_block (w := w5) (a := ⟨b, i, none⟩) (hg6.block b h2 (by simp; exact h1))
  rw [← h6 _ _ (by omega) (by omega)] at b0 b1 b2 b3 b4
  have hBw5 : Below w.heap.size w w5 := (hB0.trans (HB2.out.mono hB0.size)).trans (hB25.mono (by omega))
  have hw0 : ∀ i, w6.cell? ⟨w.heap.size + 1, i, none⟩ = W0.cell? ⟨w.heap.size + 1, i, none⟩ := fun i => (h6 _ i (by omega) (by omega)).trans ((hB25.cell (p := ⟨w.heap.size + 1, i, none⟩) (by show w.heap.size + 1 < _; omega)).trans (HB2.out.cell (p := ⟨w.heap.size + 1, i, none⟩) hd2))
  have hw0f : ∀ i, w6.frozen? ⟨w.heap.size + 1, i, none⟩ = W0.frozen? ⟨w.heap.size + 1, i, none⟩ := fun i => (h6f _ i (by omega) (by omega)).trans ((hB25.frozen (p := ⟨w.heap.size + 1, i, none⟩) (by show w.heap.size + 1 < _; omega)).trans (HB2.out.frozen (p := ⟨w.heap.size + 1, i, none⟩) hd2))
  have t0 := (hw0 0).trans (hr0 0)
  have t1 := (hw0 1).trans (hr0 1)
  have t2 := (hw0 2).trans (hr0 2)
  have t3 := (hw0 3).trans (hr0 3)
  have t4 := (hw0 4).trans (hr0 4)
  simp only [List.getElem?_toArray, List.getElem?_cons_zero, List.getElem?_cons_succ] at t0 t1 t2 t3 t4
  have u0 := (hw0f 0).trans (hfr1 0)
  have u1 := (hw0f 1).trans (hfr1 1)
  have u2 := (hw0f 2).trans (hfr1 2)
  have u3 := (hw0f 3).trans (hfr1 3)
  have u4 := (hw0f 4).trans (hfr1 4)
  have hg7 : w6.grownBy (((((w6.setCell ⟨w.heap.size + 1, 0, none⟩ (.int .i64 f.len)).setCell ⟨w.heap.size + 1, 1, none⟩ (.int .i64 f.slack)).setCell ⟨w.heap.size + 1, 2, none⟩ (.slice (some ⟨g, 0, none⟩) sl gsc)).setCell ⟨w.heap.size + 1, 3, none⟩ (.slice (some gp) pl gpc)).setCell ⟨w.heap.size + 1, 4, none⟩ (.slice va cl vc)) (some (w.heap.size + 1)) := gbx_set (gbx_set (gbx_set (gbx_set (gbx_set (gbx_refl _ _) _ _) _ _) _ _) _ _) _ _
  obtain ⟨r0, r1, r2, r3, r4⟩ := set5 (.int .i64 f.len) (.int .i64 f.slack) (.slice (some ⟨g, 0, none⟩) sl gsc) (.slice (some gp) pl gpc) (.slice va cl vc) t0 t1 t2 t3 t4
  have hI5 : IsC w5 g 80 := hI.below hB25
  have hty : ∀ e', e' ≠ 80 → ∀ r, (some g : Option Nat) = some r → ∃ (c : Array Value) (e : TypeId), w5.heap[r]? = some (.cells c e (0, 0)) ∧ e ≠ e' := fun e' he r er => by
    injection er with er; subst er
    exact ⟨hI5.choose, _, hI5.choose_spec, fun h => he h.symm⟩
  have hz6 := hg6.size
  have HPA := Lib.hid (show (∀ W', KeepsUp w.heap.size (((((w6.setCell ⟨w.heap.size + 1, 0, none⟩ (.int .i64 f.len)).setCell ⟨w.heap.size + 1, 1, none⟩ (.int .i64 f.slack)).setCell ⟨w.heap.size + 1, 2, none⟩ (.slice (some ⟨g, 0, none⟩) sl gsc)).setCell ⟨w.heap.size + 1, 3, none⟩ (.slice (some gp) pl gpc)).setCell ⟨w.heap.size + 1, 4, none⟩ (.slice va cl vc)) W' → PAt W' (some ⟨g, 0, none⟩) sl gsc (some gp) pl gpc va cl vc (f.stocked k m)) ∧ Below w.heap.size w (((((w6.setCell ⟨w.heap.size + 1, 0, none⟩ (.int .i64 f.len)).setCell ⟨w.heap.size + 1, 1, none⟩ (.int .i64 f.slack)).setCell ⟨w.heap.size + 1, 2, none⟩ (.slice (some ⟨g, 0, none⟩) sl gsc)).setCell ⟨w.heap.size + 1, 3, none⟩ (.slice (some gp) pl gpc)).setCell ⟨w.heap.size + 1, 4, none⟩ (.slice va cl vc)) from by
    refine ⟨fun W' hkk => ⟨?_, ?_, ?_⟩, (hBw5.trans (low_grown (N := w.heap.size) hg6 (by omega) (by omega))).trans (low_grown (N := w.heap.size) hg7 (by omega) (by omega))⟩
    · refine ⟨by unfold PFrame.stocked; simpa using hsl, by unfold maxLen; omega, fun _ => ⟨g, 0, rfl, by have := hg7.size; have := hkk.1; omega, fun i hi => ?_⟩⟩
      have hi' : i < f.strips.length := by unfold PFrame.stocked at hi; simpa using hi
      have h7 : ∀ j, World.cell? (((((w6.setCell ⟨w.heap.size + 1, 0, none⟩ (.int .i64 f.len)).setCell ⟨w.heap.size + 1, 1, none⟩ (.int .i64 f.slack)).setCell ⟨w.heap.size + 1, 2, none⟩ (.slice (some ⟨g, 0, none⟩) sl gsc)).setCell ⟨w.heap.size + 1, 3, none⟩ (.slice (some gp) pl gpc)).setCell ⟨w.heap.size + 1, 4, none⟩ (.slice va cl vc)) ⟨g, j, none⟩ = w6.cell? ⟨g, j, none⟩ := fun j => World.cell?_of_block (w := w6) (a := ⟨g, j, none⟩) (hg7.block g (by omega) (by simp; omega))
      rw [Nat.zero_add, hkk.cell (by omega) (by have := hg7.size; omega), hkk.cell (by omega) (by have := hg7.size; omega), h7, h7]
      by_cases hik : i = k
      · subst hik
        have hset : (f.stocked i m).strips[i] = ⟨f.thick i, m⟩ := by unfold PFrame.stocked; exact List.getElem_set_self _
        rw [hset, hft]
        exact ⟨e0, e1⟩
      · have hset : (f.stocked k m).strips[i] = f.strips[i] := by unfold PFrame.stocked; exact List.getElem_set_ne (fun e => hik e.symm) _
        rw [hset, eo _ (by omega) (by omega), eo _ (by omega) (by omega)]
        exact ⟨(hB25.cell (p := ⟨g, i * 2, none⟩) hgl).trans (HCG.out i hi').1, (hB25.cell (p := ⟨g, i * 2 + 1, none⟩) hgl).trans (HCG.out i hi').2⟩
    · exact FRow.pieces (n0 := W0.heap.size) ((((HW.out.kept (grown_none hB25) (fun r e => by cases e)).kept hg6 (fun r e => .inl (hty _ (by decide) r e))).kept hg7 (fun r e => by injection e with e; exact .inr (.inl (by omega)))).up hkk (by omega)) (by unfold maxLen; omega)
    · refine LRow.lists (n0 := N1) (n1 := W0.heap.size) (vs := vs) (c := vc) ((((HL.out.kept (grown_none hB25) (fun r e => by cases e)).kept hg6 (fun r e => .inl (hty _ (by decide) r e))).kept hg7 (fun r e => by injection e with e; exact .inr (.inl (by omega)))).up hkk (by omega)) (own_up (((HO.out.kept (grown_none hB25) (Classical.em _)).kept hg6 (.inr fun e => ?_)).kept hg7 (.inr fun e => by have := (own_span HO.out _ e).1; omega)) hkk (by omega)) (by unfold maxLen; omega) (fun x hx => by have := HX1.out x hx; unfold maxLen; omega)
      exact own_ne (HO.out.kept (grown_none hB25) (Classical.em _)) hI5 (by decide) e.symm)
  clear hw6 hg7 h6 h6f hw0 hw0f eo hty hr0 hs0 hfr1 pf
  go_wp2_with fail
  refine bodyPost_ret (v := .agg #[.int .i64 f.len, .int .i64 f.slack, .slice (some ⟨g, 0, none⟩) sl gsc, .slice (some gp) pl gpc, .slice va cl vc]) ?_ rfl ⟨_, _, _, _, _, _, rfl, HPA.out.1, HPA.out.2⟩
  simp [results, Try.results66, go_sem, r0, r1, r2, r3, r4]
end Go.Proofs.Ytcklhojeneejiaa
