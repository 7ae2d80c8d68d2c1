/- A shop with so many pigs of a kind. -/
import Derived.Test.YtojmimfjnnibdaaLA
namespace Go.Proofs.Ytojmimfjnnibdaa
set_option linter.unusedVariables false
set_option linter.unusedSimpArgs false
open Go.RowKit

theorem flat_set5 {α : Type} (f : α → List Value) (hf : ∀ x, (f x).length = 5) (l : List α) (k : Nat) (p : α) (hk : k < l.length) (v0 v1 v2 v3 v4 : Value) (hp : f p = [v0, v1, v2, v3, v4]) :
    (l.set k p).flatMap f = ((((((l.flatMap f).set (k * 5) v0).set (k * 5 + 1) v1).set (k * 5 + 2) v2).set (k * 5 + 3) v3).set (k * 5 + 4) v4) := by
  apply List.ext_getElem?
  intro t
  by_cases h : t / 5 < l.length
  · rw [flat_get5 f hf _ t (by simpa using h)]
    have hlen : t < (l.flatMap f).length := by rw [flat_len5 f hf]; omega
    by_cases e : t / 5 = k
    · have h5 : t % 5 < 5 := Nat.mod_lt _ (by omega)
      have ht : t = k * 5 + t % 5 := by omega
      have e2 : (l.set k p)[t / 5]'(by simpa using h) = p := by subst e; simp
      rw [e2, hp]
      have hb : k * 5 + 4 < (l.flatMap f).length := by rw [flat_len5 f hf]; omega
      clear hlen h e2
      generalize l.flatMap f = L at *
      generalize t % 5 = r at *
      subst ht
      rcases r with _ | _ | _ | _ | _ | r
      · simp [List.getElem?_set, show k * 5 < L.length by omega]
      · simp [List.getElem?_set, show k * 5 + 1 < L.length by omega]
      · simp [List.getElem?_set, show k * 5 + 2 < L.length by omega]
      · simp [List.getElem?_set, show k * 5 + 3 < L.length by omega]
      · simp [List.getElem?_set, show k * 5 + 4 < L.length by omega]
      · omega
    · rw [List.getElem?_set_ne (by omega), List.getElem?_set_ne (by omega), List.getElem?_set_ne (by omega), List.getElem?_set_ne (by omega), List.getElem?_set_ne (by omega), flat_get5 f hf _ t h]
      congr 2
      exact List.getElem_set_ne (by omega) _
  · rw [List.getElem?_eq_none (by rw [flat_len5 f hf]; simp; omega), List.getElem?_eq_none (by simp [flat_len5 f hf]; omega)]
theorem own_set5 {w : World} {n0 g n cap k : Nat} {ps : List Pig} {p : Pig} (h : w.ownsRow n0 70 5 (.slice (some ⟨g, 0, none⟩) n cap) n (ps.flatMap Pig.cells)) (hk : k < n) :
    (((((w.setCell ⟨g, k * 5, none⟩ (.int .i64 p.P)).setCell ⟨g, k * 5 + 1, none⟩ (.int .i64 p.t)).setCell ⟨g, k * 5 + 2, none⟩ (.int .i64 p.a)).setCell ⟨g, k * 5 + 3, none⟩ (.int .i64 p.c)).setCell ⟨g, k * 5 + 4, none⟩ (.int .i64 p.m)).ownsRow n0 70 5 (.slice (some ⟨g, 0, none⟩) n cap) n ((ps.set k p).flatMap Pig.cells) := by
  have hl : ps.length = n := by have := h.1; rw [flat_len5 _ Pig.len] at this; omega
  refine ⟨by rw [flat_len5 _ Pig.len]; simp [hl], ?_⟩
  rcases h.2 with ⟨h0, _⟩ | ⟨g', cap', cur, hv, hg, hb, hn, hc, hcs, ht⟩
  · cases h0
  · cases hv
    refine .inr ⟨g, cap, _, rfl, hg, set_one _ _ (set_one _ _ (set_one _ _ (set_one _ _ (set_one _ _ hb)))), hn, hc, by simp [hcs], ?_⟩
    rw [flat_set5 _ Pig.len ps k p (by omega) _ _ _ _ _ rfl, ← ht]
    simp only [Array.toList_setIfInBounds, List.take_set]

set_option maxHeartbeats 2000000 in
theorem Pigged_any (s : Shop) (a : Option Addr) (len cap : Nat) (kind : Nat) (many : Int) (w : World) (hp : PigsAt w a len s.pigs) (hl40 : len ≤ 1000) (hk : kind < len) :
    Calls Try.prog 62 #[.agg #[.int .i64 s.P, .int .i64 s.tl, .int .i64 s.th, .int .i64 s.al, .int .i64 s.ah, .int .i64 s.room, .int .i64 s.xl, .int .i64 s.xh, .int .i64 s.yl, .int .i64 s.yh, .slice a len cap], .int .i64 kind, .int .i64 many] w fun e w' => Below w.heap.size w w' ∧ ∃ a' cap', e = .returned (.agg #[.int .i64 s.P, .int .i64 s.tl, .int .i64 s.th, .int .i64 s.al, .int .i64 s.ah, .int .i64 s.room, .int .i64 s.xl, .int .i64 s.xh, .int .i64 s.yl, .int .i64 s.yh, .slice a' len cap']) ∧
      ∀ q ∈ s.pigs[kind]?, w'.ownsRow w.heap.size 70 5 (.slice a' len cap') len ((s.pigs.set kind { q with m := many }).flatMap Pig.cells) := by
  have HC := Lib.hid (fun w1 (hb : Below w.heap.size w w1) => Copy_any s a len cap w1 (hp.below hb) hl40)
  have hl := hp.1
  obtain ⟨q, hq⟩ : ∃ q, s.pigs[kind]? = some q := ⟨_, List.getElem?_eq_getElem (by omega)⟩
  have HQ := Lib.hid hq
  clear hp hq
  go_enter Try.func62, Try.ntmps62
  go_wp2_with fail
  refine (HC.out _ (by repeat (first | exact Below.refl _ _ | (refine Below.alloc ?_ (by first | omega | (simp; omega) | simp) _) | (refine Below.setCell ?_ (by first | omega | (simp; omega) | simp) _) | refine Below.drew ?_))).mono ?_
  rintro e w1 ⟨hb1, a', cap', rfl, hown⟩
  obtain ⟨g, cap2, hv, hg⟩ := ownsRow_pos hown (by omega)
  cases hv
  simp at hg
  have hcell := fun j u (hj : (s.pigs.flatMap Pig.cells)[j]? = some u) => hown.cells (g := g) rfl j u hj
  have hpg : ∀ j u, q.cells[j]? = some u → w1.cell? ⟨g, kind * 5 + j, none⟩ = some u := fun j u hj => by
    have hj5 : j < 5 := by have := (List.getElem?_eq_some_iff.1 hj).1; simpa [Pig.cells] using this
    have := hcell (kind * 5 + j) u (by
      have e1 : (kind * 5 + j) / 5 = kind := by omega
      have e2 : (kind * 5 + j) % 5 = j := by omega
      rw [flat_get5 _ Pig.len _ _ (by omega)]
      have hq2 := HQ.out
      rw [List.getElem?_eq_getElem (by omega)] at hq2
      simp only [e1, e2, Option.some.inj hq2]; exact hj)
    rwa [addr_add] at this
  have c0 : w1.cell? ⟨g, kind * 5, none⟩ = some (.int .i64 q.P) := hpg 0 _ rfl
  have c1 : w1.cell? ⟨g, kind * 5 + 1, none⟩ = some (.int .i64 q.t) := hpg 1 _ rfl
  have c2 : w1.cell? ⟨g, kind * 5 + 2, none⟩ = some (.int .i64 q.a) := hpg 2 _ rfl
  have c3 : w1.cell? ⟨g, kind * 5 + 3, none⟩ = some (.int .i64 q.c) := hpg 3 _ rfl
  have c4 : w1.cell? ⟨g, kind * 5 + 4, none⟩ = some (.int .i64 q.m) := hpg 4 _ rfl
  have hgl := World.block_lt_of_cell? _ _ c0
  have hfz : ∀ i, w1.frozen? ⟨g, i, none⟩ = false := by
    rcases hown.2 with ⟨h0, _⟩ | ⟨g', cap', cur, hv, _, hb, _⟩
    · cases h0
    · cases hv; intro i; simp [World.frozen?, hb]
  obtain ⟨hc1, hf1⟩ := bcell hb1
  have hz1 := hb1.size
  simp at hz1
  have hbw := (((by repeat (first | exact Below.refl _ _ | (refine Below.alloc ?_ (by first | omega | (simp; omega) | simp) _) | (refine Below.setCell ?_ (by first | omega | (simp; omega) | simp) _) | refine Below.drew ?_)) : Below w.heap.size w _).trans (hb1.mono (by simp; omega)))
  have HO := Lib.hid hown
  clear hb1 hown hcell hpg
  have q2 : w.heap.size < w1.heap.size := by omega
  have q3 : w.heap.size + 1 < w1.heap.size := by omega
  go_wp2_with fail
  have hgn : g ≠ w.heap.size + 1 := by omega
  refine bodyPost_ret (v := .agg #[.int .i64 s.P, .int .i64 s.tl, .int .i64 s.th, .int .i64 s.al, .int .i64 s.ah, .int .i64 s.room, .int .i64 s.xl, .int .i64 s.xh, .int .i64 s.yl, .int .i64 s.yh, .slice (some ⟨g, 0, none⟩) len cap']) (by simp [results, Try.results62, go_sem, hc1, hf1, q2, q3]) rfl ⟨?_, _, _, rfl, fun q' hq' => ?_⟩
  · refine Below.alloc (Below.alloc ?_ (by first | (simp; done) | (simp; omega) | omega) _) (by first | (simp; done) | (simp; omega) | omega) _
    repeat (refine Below.setCell ?_ (by first | (simp; done) | (simp; omega) | omega) _)
    exact hbw
  · have e1 : q' = q := Option.some.inj (hq'.symm.trans HQ.out)
    rw [e1]
    refine World.ownsRow.alloc (World.ownsRow.alloc ?_ _) _
    repeat (refine World.ownsRow.kept ?_ (gb_setCell _ (w.heap.size + 1) _ _) (.inr (by simp [Value.ownBlock]; omega)))
    exact own_set5 (p := { q with m := many }) (Go.Joins.ownsRow_le HO.out (by simp; omega)) hk
end Go.Proofs.Ytojmimfjnnibdaa
