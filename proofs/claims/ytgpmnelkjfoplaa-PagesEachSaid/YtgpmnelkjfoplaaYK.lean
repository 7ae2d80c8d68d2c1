/- Package pages: next. -/
import Derived.Test.YtgpmnelkjfoplaaYE
import Derived.Test.YtgpmnelkjfoplaaYS
namespace Go.Proofs.Ytgpmnelkjfoplaa
set_option linter.unusedVariables false
set_option linter.unusedSimpArgs false
open Go.RowKit

def T3At (w : World) (g : Nat) (t : T3) : Prop := (w.cell? ⟨g, 0, none⟩ = some (.int .i64 t.a) ∧ w.cell? ⟨g, 1, none⟩ = some (.int .i64 t.b) ∧ w.cell? ⟨g, 2, none⟩ = some (.int .i64 t.c)) ∧ ∀ i, w.frozen? ⟨g, i, none⟩ = false
theorem T3At.lt {w : World} {g : Nat} {t : T3} (h : T3At w g t) : g < w.heap.size := World.block_lt_of_cell? _ _ h.1.1
theorem T3At.below {w w' : World} {g : Nat} {t : T3} (h : T3At w g t) (hb : Below w.heap.size w w') : T3At w' g t :=
  ⟨⟨(hb.cell (p := ⟨g, 0, none⟩) h.lt).trans h.1.1, (hb.cell (p := ⟨g, 1, none⟩) h.lt).trans h.1.2.1, (hb.cell (p := ⟨g, 2, none⟩) h.lt).trans h.1.2.2⟩, fun i => (hb.frozen (p := ⟨g, i, none⟩) h.lt).trans (h.2 i)⟩
theorem set_cell {w : World} {g i : Nat} {u v : Value} (h : w.cell? ⟨g, i, none⟩ = some u) : (w.setCell ⟨g, i, none⟩ v).cell? ⟨g, i, none⟩ = some v := World.cell?_setCell_same' w _ v (by rw [h]; rfl)
theorem set_cell' {w : World} {g i j : Nat} {v : Value} (h : i ≠ j) : (w.setCell ⟨g, i, none⟩ v).cell? ⟨g, j, none⟩ = w.cell? ⟨g, j, none⟩ := by
  rw [World.cell?_setCell_other]; intro e; injection e with _ e; exact h e
theorem set_frz {w : World} {g i j : Nat} {v : Value} (h : w.frozen? ⟨g, j, none⟩ = false) : (w.setCell ⟨g, i, none⟩ v).frozen? ⟨g, j, none⟩ = false := by go_simp
theorem T3At.set0 {w : World} {g : Nat} {t : T3} (h : T3At w g t) (v : Int) : T3At (w.setCell ⟨g, 0, none⟩ (.int .i64 v)) g ⟨v, t.b, t.c⟩ :=
  ⟨⟨set_cell h.1.1, (set_cell' (by decide)).trans h.1.2.1, (set_cell' (by decide)).trans h.1.2.2⟩, fun i => set_frz (h.2 i)⟩
theorem T3At.set1 {w : World} {g : Nat} {t : T3} (h : T3At w g t) (v : Int) : T3At (w.setCell ⟨g, 1, none⟩ (.int .i64 v)) g ⟨t.a, v, t.c⟩ :=
  ⟨⟨(set_cell' (by decide)).trans h.1.1, set_cell h.1.2.1, (set_cell' (by decide)).trans h.1.2.2⟩, fun i => set_frz (h.2 i)⟩
theorem T3At.set2 {w : World} {g : Nat} {t : T3} (h : T3At w g t) (v : Int) : T3At (w.setCell ⟨g, 2, none⟩ (.int .i64 v)) g ⟨t.a, t.b, v⟩ :=
  ⟨⟨(set_cell' (by decide)).trans h.1.1, (set_cell' (by decide)).trans h.1.2.1, set_cell h.1.2.2⟩, fun i => set_frz (h.2 i)⟩
/-- How far the odometer has come down. -/
def NextI (s l : T3) (g : Nat) (W0 wr : World) (i : Value) : Prop := ∃ t : T3, T3At wr g t ∧ W0.grownBy wr (some g) ∧
  ((i = .int .i64 2 ∧ t = s) ∨ (i = .int .i64 1 ∧ ¬ s.c < l.c ∧ t = ⟨s.a, s.b, 0⟩) ∨ (i = .int .i64 0 ∧ ¬ s.c < l.c ∧ ¬ s.b < l.b ∧ t = ⟨s.a, 0, 0⟩) ∨ (i = .int .i64 (-1) ∧ ¬ s.c < l.c ∧ ¬ s.b < l.b ∧ ¬ s.a < l.a ∧ t = ⟨0, 0, 0⟩))
def NextPost (s l : T3) (g : Nat) (w : World) (e : Ending) (w' : World) : Prop := e = .returned (.bool (nextS s l).isSome) ∧ T3At w' g ((nextS s l).getD ⟨0, 0, 0⟩) ∧ w.grownBy w' (some g)

set_option maxRecDepth 100000 in
set_option maxHeartbeats 4000000 in
theorem next_any (g : Nat) (s l : T3) (w : World) (hg : T3At w g s) (hs : leS s l) (hl : l.a ≤ 4 ∧ l.b ≤ 4 ∧ l.c ≤ 4) :
    Calls Try.prog 130 #[.pointer (some ⟨g, 0, none⟩), .agg #[.int .i64 l.a, .int .i64 l.b, .int .i64 l.c]] w fun e w' => NextPost s l g w e w' := by
  obtain ⟨h1, h2, h3, h4, h5, h6⟩ := hs
  obtain ⟨h7, h8, h9⟩ := hl
  have hgl := hg.lt
  have HG := Lib.hid hg
  clear hg
  go_enter Try.func130, Try.ntmps130
  go_wp2_with fail
  obtain ⟨W0, hW0, hB0, hs0, hz0⟩ := name1k w #[.int .i64 l.a, .int .i64 l.b, .int .i64 l.c] 99
  rw [hW0]
  clear hW0
  have HB0 := Lib.hid hB0
  have HS0 := Lib.hid hs0
  have HG0 := Lib.hid (HG.out.below hB0)
  clear hB0 hs0
  go_loopw [5] (fun i wr => NextI s l g W0 wr i) (fun i _ => (intOf i + 1).toNat)
  case atStart => exact ⟨s, HG0.out, gbx_refl _ _, .inl ⟨rfl, rfl⟩⟩
  case round =>
    obtain ⟨t, ht, hgr, hcase⟩ := hrel
    have hne : some w.heap.size ≠ some g := fun e => by injection e with e; omega
    have HT := Lib.hid ht
    have HGR := Lib.hid hgr
    obtain ⟨b0, b1, b2⟩ : wr.cell? ⟨w.heap.size, 0, none⟩ = some (.int .i64 l.a) ∧ wr.cell? ⟨w.heap.size, 1, none⟩ = some (.int .i64 l.b) ∧ wr.cell? ⟨w.heap.size, 2, none⟩ = some (.int .i64 l.c) := ⟨hgr.cell (a := ⟨w.heap.size, 0, none⟩) (HS0.out 0) hne, hgr.cell (a := ⟨w.heap.size, 1, none⟩) (HS0.out 1) hne, hgr.cell (a := ⟨w.heap.size, 2, none⟩) (HS0.out 2) hne⟩
    obtain ⟨⟨t0, t1, t2⟩, tf⟩ := ht
    have f0 := tf 0
    have f1 := tf 1
    have f2 := tf 2
    have HWG := Lib.hid ((grow_gb HB0.out (some g)).trans hgr)
    clear hgr tf hne
    rcases hcase with ⟨rfl, rfl⟩ | ⟨rfl, c1, rfl⟩ | ⟨rfl, c1, c2, rfl⟩ | ⟨rfl, c1, c2, c3, rfl⟩
    · by_cases hc : t.c < l.c
      · have HN := Lib.hid (show nextS t l = some ⟨t.a, t.b, t.c + 1⟩ by unfold nextS; rw [if_pos hc])
        go_wp2_with fail
        go_region
        go_wp2_with fail
        go_region
        go_wp2_with fail
        go_ret
        unfold NextPost
        rw [HN.out]
        exact ⟨rfl, HT.out.set2 _, (by repeat (first | exact gbx_set HWG.out _ _ | refine gbx_drew ?_))⟩
      · go_wp2_with fail
        go_region
        go_wp2_with fail
        go_roundw
        case rel => exact ⟨_, HT.out.set2 _, (by repeat (first | exact gbx_set HGR.out _ _ | refine gbx_drew ?_)), .inr (.inl ⟨rfl, by omega, rfl⟩)⟩
        case measure => simp [intOf]
    · simp only at t0 t1 t2
      by_cases hc : s.b < l.b
      · have HN := Lib.hid (show nextS s l = some ⟨s.a, s.b + 1, 0⟩ by unfold nextS; rw [if_neg c1, if_pos hc])
        go_wp2_with fail
        go_region
        go_wp2_with fail
        go_region
        go_wp2_with fail
        go_ret
        unfold NextPost
        rw [HN.out]
        exact ⟨rfl, HT.out.set1 _, (by repeat (first | exact gbx_set HWG.out _ _ | refine gbx_drew ?_))⟩
      · go_wp2_with fail
        go_region
        go_wp2_with fail
        go_roundw
        case rel => exact ⟨_, HT.out.set1 _, (by repeat (first | exact gbx_set HGR.out _ _ | refine gbx_drew ?_)), .inr (.inr (.inl ⟨rfl, by omega, by omega, rfl⟩))⟩
        case measure => simp [intOf]
    · simp only at t0 t1 t2
      by_cases hc : s.a < l.a
      · have HN := Lib.hid (show nextS s l = some ⟨s.a + 1, 0, 0⟩ by unfold nextS; rw [if_neg c1, if_neg c2, if_pos hc])
        go_wp2_with fail
        go_region
        go_wp2_with fail
        go_region
        go_wp2_with fail
        go_ret
        unfold NextPost
        rw [HN.out]
        exact ⟨rfl, HT.out.set0 _, (by repeat (first | exact gbx_set HWG.out _ _ | refine gbx_drew ?_))⟩
      · go_wp2_with fail
        go_region
        go_wp2_with fail
        go_roundw
        case rel => exact ⟨_, HT.out.set0 _, (by repeat (first | exact gbx_set HGR.out _ _ | refine gbx_drew ?_)), .inr (.inr (.inr ⟨rfl, by omega, by omega, by omega, rfl⟩))⟩
        case measure => simp [intOf]
    · have HN := Lib.hid (show nextS s l = none by unfold nextS; rw [if_neg c1, if_neg c2, if_neg c3])
      go_wp2_with fail
      go_ret
      unfold NextPost
      rw [HN.out]
      exact ⟨rfl, HT.out, HWG.out⟩
end Go.Proofs.Ytgpmnelkjfoplaa
