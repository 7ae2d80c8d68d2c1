/- Fails. -/
import Derived.Test.YtajabapcmpmboaaN
import Derived.Lib.SmallJoins
namespace Go.Proofs.Ytajabapcmpmboaa
set_option linter.unusedVariables false
set_option linter.unusedSimpArgs false
open Go.RowKit Go.Shelf

attribute [local go_sem] Oper.semAt_some

theorem keeps_any (s : Shop) (a : Option Addr) (len cap : Nat) (P tl th al ah x : Int) (w : World) (hP : 0 ≤ P ∧ P ≤ 2000) (hx : (0 ≤ s.xl ∧ s.xl ≤ 1000) ∧ (0 ≤ s.xh ∧ s.xh ≤ 1000)) (hy : (0 ≤ s.yl ∧ s.yl ≤ 1000) ∧ (0 ≤ s.yh ∧ s.yh ≤ 1000)) (h1 : Fair tl) (h2 : Fair th) (h3 : Fair al) (h4 : Fair ah) :
    Calls Try.prog 77 #[.agg #[.int .i64 s.P, .int .i64 s.tl, .int .i64 s.th, .int .i64 s.al, .int .i64 s.ah, .int .i64 s.room, .int .i64 s.xl, .int .i64 s.xh, .int .i64 s.yl, .int .i64 s.yh, .slice a len cap], .agg #[.int .i64 P, .int .i64 tl, .int .i64 th, .int .i64 al, .int .i64 ah], .int .i64 x] w fun e w' => e = .returned (.bool (keepsB s P tl th al ah x)) ∧ Below w.heap.size w w' := by
  by_cases x1 : x = 1
  · subst x1; exact keeps_1 s a len cap P tl th al ah w hP hx.1 h1
  by_cases x2 : x = 2
  · subst x2; exact keeps_2 s a len cap P tl th al ah w hP hx.2 h2
  by_cases x3 : x = 3
  · subst x3; exact keeps_3 s a len cap P tl th al ah w hP hy.1 h3
  obtain ⟨m1, m2⟩ := bd_mul P s.yh hP hy.2
  obtain ⟨v1, v2⟩ := h4
  have e1 : (x == 1) = false := by simpa using x1
  have e2 : (x == 2) = false := by simpa using x2
  have e3 : (x == 3) = false := by simpa using x3
  have HK := Lib.hid (show keepsB s P tl th al ah x = decide (1000 * ah ≤ P * s.yh) by simp [keepsB, x1, x2, x3])
  clear hx hy h1 h2 h3 x1 x2 x3
  go_enter Try.func77, Try.ntmps77
  go_wp2
  go_ret
  exact ⟨ret_bool (by rw [HK.out]), (by repeat (first | exact Below.refl _ _ | (refine Below.alloc ?_ (by first | omega | (simp; omega) | simp) _) | (refine Below.setCell ?_ (by first | omega | (simp; omega) | simp) _) | refine Below.drew ?_))⟩

theorem grown_none {W W' : World} (h : Below W.heap.size W W') : W.grownBy W' none := ⟨h.os, h.tape, h.output, h.size, fun k hk _ => h.block k hk⟩
theorem keeps_others {W W' : World} (h : Below W.heap.size W W') : KeepsOthers W W' := ⟨h.size, fun k o hk _ => (h.block k (Array.getElem?_eq_some_iff.1 hk).1).trans hk⟩

/-- The limits of a list that the pot with an addition is not within. -/
def Shop.bad (s : Shop) (ns : List Int) (l : List Int) : List Int := l.filter fun x => !keepsB s (s.P + tot Pig.P s.pigs ns) (s.tl + tot Pig.t s.pigs ns) (s.th + tot Pig.t s.pigs ns) (s.al + tot Pig.a s.pigs ns) (s.ah + tot Pig.a s.pigs ns) x

set_option maxHeartbeats 1000000 in
theorem Fails_no (s : Shop) (a : Option Addr) (len cap : Nat) (x : Option Addr) (xlen xcap : Nat) (ns : List Int) (w : World) (hp : PigsAt w a len s.pigs) (hx : IntsAt w x xlen ns) (v : Int) (hv : s.code ns = v) (hno : v ≠ 0) :
    Calls Try.prog 24 #[.agg #[.int .i64 s.P, .int .i64 s.tl, .int .i64 s.th, .int .i64 s.al, .int .i64 s.ah, .int .i64 s.room, .int .i64 s.xl, .int .i64 s.xh, .int .i64 s.yl, .int .i64 s.yh, .slice a len cap], .slice x xlen xcap] w fun e w' => e = .returned (.tuple #[.slice none 0 0, .int .i64 v]) ∧ Below w.heap.size w w' := by
  have HT := Lib.hid (fun w1 (hb : Below w.heap.size w w1) => asked_any s a len cap x xlen xcap ns w1 (hp.below hb) (hx.below hb) v hv)
  have e1 : (v == 0) = false := by simpa using hno
  have e2 : (v != 0) = true := by simpa using hno
  clear hp hx hv hno
  go_enter Try.func24, Try.ntmps24
  go_wp2_with fail
  refine (HT.out _ (by repeat (first | exact Below.refl _ _ | (refine Below.alloc ?_ (by first | omega | (simp; omega) | simp) _) | (refine Below.setCell ?_ (by first | omega | (simp; omega) | simp) _) | refine Below.drew ?_))).mono ?_
  rintro e w1 ⟨rfl, hb1⟩
  have HB := Lib.hid hb1
  clear hb1
  go_wp2_with fail
  go_ret2
  exact ⟨rfl, (by repeat (first | exact Below.refl _ _ | (refine Below.alloc ?_ (by first | omega | (simp; omega) | simp) _) | (refine Below.setCell ?_ (by first | omega | (simp; omega) | simp) _) | refine Below.drew ?_ | (refine below_via (by assumption) (by first | omega | (simp; omega) | simp) ?_)))⟩

theorem Try.info3 : (Try.prog.info? 3).map (fun i => (i.zero, i.size, i.bytes)) = some (some (.int .i64 0), 1, 8) := by kernel_rfl

set_option maxRecDepth 100000 in
set_option maxHeartbeats 4000000 in
theorem Fails_yes (s : Shop) (a : Option Addr) (len cap : Nat) (x : Option Addr) (xlen xcap : Nat) (ns : List Int) (w : World) (hp : PigsAt w a len s.pigs) (hx : IntsAt w x xlen ns) (hv : s.code ns = 0) :
    Calls Try.prog 24 #[.agg #[.int .i64 s.P, .int .i64 s.tl, .int .i64 s.th, .int .i64 s.al, .int .i64 s.ah, .int .i64 s.room, .int .i64 s.xl, .int .i64 s.xh, .int .i64 s.yl, .int .i64 s.yh, .slice a len cap], .slice x xlen xcap] w fun e w' => ∃ v, e = .returned (.tuple #[v, .int .i64 0]) ∧ w'.ownsRow w.heap.size 3 1 v (s.bad ns [1, 2, 3, 4]).length ((s.bad ns [1, 2, 3, 4]).map (Value.int .i64)) ∧ (v = .slice none 0 0 ↔ s.bad ns [1, 2, 3, 4] = []) ∧ Below w.heap.size w w' := by
  obtain ⟨ho, hadd⟩ := Shop.code_yes hv
  obtain ⟨hl, hfew⟩ := Shop.isAdd_len hadd
  obtain rfl : len = xlen := by rw [← hp.1, ← hx.1, hl]
  have HT := Lib.hid (fun w1 (hb : Below w.heap.size w w1) => asked_any s a len cap x len xcap ns w1 (hp.below hb) (hx.below hb) 0 hv)
  have HA := fun w1 (hb : Below w.heap.size w w1) => after_any s a len cap x xcap ns w1 (hp.below hb) (hx.below hb) ho hfew
  unfold potCells at HA
  replace HA := Lib.hid HA
  have h0 := Shop.tot_P ho hadd
  have hf := s.few ns ho hfew
  have bt := tot_all Pig.t bd_tin s.pigs ns hf hp.1 hx.1
  have ba := tot_all Pig.a bd_antimony s.pigs ns hf hp.1 hx.1
  have hbd := Shop.ok_bd ho
  have hl4 : len ≤ 4 := by have := hp.1; omega
  have HK := Lib.hid (fun y w1 => keeps_any s a len cap (s.P + tot Pig.P s.pigs ns) (s.tl + tot Pig.t s.pigs ns) (s.th + tot Pig.t s.pigs ns) (s.al + tot Pig.a s.pigs ns) (s.ah + tot Pig.a s.pigs ns) y w1 h0 (Shop.lims ho).1 (Shop.lims ho).2 (by unfold Fair; omega) (by unfold Fair; omega) (by unfold Fair; omega) (by unfold Fair; omega))
  have HF := Lib.hid (show ∀ l, s.bad ns l = l.filter fun x => !keepsB s (s.P + tot Pig.P s.pigs ns) (s.tl + tot Pig.t s.pigs ns) (s.th + tot Pig.t s.pigs ns) (s.al + tot Pig.a s.pigs ns) (s.ah + tot Pig.a s.pigs ns) x from fun l => rfl)
  clear hp hx hv ho hadd hl hfew h0 hf bt ba hbd hl4
  obtain ⟨i0, hi, hy0, hy1, hy2⟩ := info_parts Try.info3
  generalize s.bad ns = fl at *
  generalize s.P + tot Pig.P s.pigs ns = n1 at *
  generalize s.tl + tot Pig.t s.pigs ns = n2 at *
  generalize s.th + tot Pig.t s.pigs ns = n3 at *
  generalize s.al + tot Pig.a s.pigs ns = n4 at *
  generalize s.ah + tot Pig.a s.pigs ns = n5 at *
  refine (callsIn_wide (n := 8)).1 ?_
  refine callsIn_of_wp_marks Try.func24 rfl trivial ?_ rfl
  simp only [Try.ntmps24, List.size_toArray, List.length_cons, List.length_nil, Nat.reduceAdd, Nat.reduceSub, Array.replicate_succ, Array.replicate_zero, List.push_toArray, List.append_toArray, List.nil_append, List.cons_append]
  gi_wp2_with (refine ⟨trivial, ?_⟩; gi_at_call 68; refine (callsIn_wide.2 (HT.out _ (by repeat (first | exact Below.refl _ _ | (refine Below.alloc ?_ (by first | omega | (simp; omega) | simp) _) | (refine Below.setCell ?_ (by first | omega | (simp; omega) | simp) _) | refine Below.drew ?_)))).mono ?_; rintro e w1 ⟨rfl, hb1⟩; obtain ⟨hc1, hf1⟩ := bcell hb1; have hz3 := hb1.size; simp at hz3; have hbw : Below w.heap.size w w1 := (((by repeat (first | exact Below.refl _ _ | (refine Below.alloc ?_ (by first | omega | (simp; omega) | simp) _) | (refine Below.setCell ?_ (by first | omega | (simp; omega) | simp) _) | refine Below.drew ?_)) : Below w.heap.size w _).trans (hb1.mono (by simp; omega))); clear hb1; have q2 : w.heap.size < w1.heap.size := (by omega); have q3 : w.heap.size + 1 < w1.heap.size := (by omega))
  gi_wp2_with (first | (refine ⟨trivial, ?_⟩; gi_at_call 69; refine (callsIn_wide.2 (HA.out _ hbw)).mono ?_; rintro e w2 ⟨rfl, hb2⟩; obtain ⟨hc2, hf2⟩ := bcell hb2; have hz2 := hb2.size; have q4 : w.heap.size < w2.heap.size := (by omega); have q5 : w.heap.size + 1 < w2.heap.size := (by omega)) | (refine ⟨trivial, ?_⟩; gi_at_call 76; refine (limits_in Fence.wide _ trivial rfl _).mono ?_; rintro e w3 ⟨rfl, rfl⟩))
  have hbx : ∀ i, w2.cell? ⟨w.heap.size + 1, i, none⟩ = (#[.int .i64 s.P, .int .i64 s.tl, .int .i64 s.th, .int .i64 s.al, .int .i64 s.ah, .int .i64 s.room, .int .i64 s.xl, .int .i64 s.xh, .int .i64 s.yl, .int .i64 s.yh, .slice a len cap] : Array Value)[i]? := fun i => by
    rw [hc2 _ _ q3, hc1 _ _ (by simp)]; go_simp
  have hb02 : Below w.heap.size w w2 := hbw.trans (hb2.mono hbw.size)
  clear hc1 hf1 hc2 hf2 hb2 hbw
  obtain ⟨W0, hW0⟩ : ∃ W0, w2.alloc (.cells #[.int .i64 n1, .int .i64 n2, .int .i64 n3, .int .i64 n4, .int .i64 n5] 25) = W0 := ⟨_, rfl⟩
  have hz0 : W0.heap.size = w2.heap.size + 1 := by rw [← hW0]; simp
  have hpot : ∀ i, W0.cell? ⟨w2.heap.size, i, none⟩ = (#[.int .i64 n1, .int .i64 n2, .int .i64 n3, .int .i64 n4, .int .i64 n5] : Array Value)[i]? := fun i => by rw [← hW0]; simp
  have hshop : ∀ i, W0.cell? ⟨w.heap.size + 1, i, none⟩ = (#[.int .i64 s.P, .int .i64 s.tl, .int .i64 s.th, .int .i64 s.al, .int .i64 s.ah, .int .i64 s.room, .int .i64 s.xl, .int .i64 s.xh, .int .i64 s.yl, .int .i64 s.yh, .slice a len cap] : Array Value)[i]? := fun i => by
    rw [← hbx i, ← hW0]; exact World.cell?_of_block (Below.heap_alloc _ _ _ q5)
  have hB0 : Below w.heap.size w W0 := by rw [← hW0]; exact hb02.alloc hb02.size _
  rw [hW0]
  clear hW0 hbx hb02
  have q6 : w.heap.size + 1 < W0.heap.size := by omega
  have q7 : w2.heap.size < W0.heap.size := by omega
  have bF := Boxed.new W0 29 (.slice none 0 0)
  rw [← hz0]
  clear hz0
  refine wpIn_rangeFunc_ownG rfl (by omega) (gf := 105) (lb := #[]) rfl trivial (enters_of Try.func105 (by kernel_rfl) rfl)
    (limits_stops Fence.wide _ trivial rfl (by omega) (fun _ _ => True) _) (fun _ _ => trivial) (fun _ _ _ _ _ _ _ _ => trivial) (Below.refl _ _) (fun _ => rfl)
    (fun pre W => (∃ v, Boxed W W0.heap.size 29 v ∧ W.ownsRow W0.heap.size 3 1 v (fl pre).length ((fl pre).map (Value.int .i64)) ∧ (v = .slice none 0 0 ↔ fl pre = [])) ∧ Below W0.heap.size W0 W)
    (fun _ _ _ => False)
    (OwnFrom.and (Own.from (holdsRow_own W0.heap.size W0.heap.size 29 3 1 (fun pre => (fl pre).length) (fun pre => (fl pre).map (Value.int .i64)) (fun pre v => v = .slice none 0 0 ↔ fl pre = [])) _) (ownFrom_below (Nat.le_refl _) (by simp)))
    (fun _ _ _ _ _ hs _ _ => hs)
    ⟨⟨_, bF, by rw [show fl [] = [] from by rw [HF.out]; rfl]; exact World.ownsRow_nil _ _ _ _, by rw [HF.out]; simp⟩, (Below.refl _ _).alloc (Nat.le_refl _) _⟩
    (fun y => { tmps := #[.agg #[.int .i64 s.P, .int .i64 s.tl, .int .i64 s.th, .int .i64 s.al, .int .i64 s.ah, .int .i64 s.room, .int .i64 s.xl, .int .i64 s.xh, .int .i64 s.yl, .int .i64 s.yh, .slice a len cap], .slice x len xcap, .pointer (some ⟨w.heap.size, 0, none⟩), undef, .slice none 0 0, .int .i64 0, .pointer (some ⟨w.heap.size + 1, 0, none⟩), .int .i64 0, .pointer (some ⟨w2.heap.size, 0, none⟩), .pointer (some ⟨W0.heap.size, 0, none⟩), .int .i64 y, .agg #[.int .i64 s.P, .int .i64 s.tl, .int .i64 s.th, .int .i64 s.al, .int .i64 s.ah, .int .i64 s.room, .int .i64 s.xl, .int .i64 s.xh, .int .i64 s.yl, .int .i64 s.yh, .slice a len cap], .agg #[.int .i64 s.P, .int .i64 s.tl, .int .i64 s.th, .int .i64 s.al, .int .i64 s.ah, .int .i64 s.room, .int .i64 s.xl, .int .i64 s.xh, .int .i64 s.yl, .int .i64 s.yh, .slice a len cap], .agg #[.int .i64 s.P, .int .i64 s.tl, .int .i64 s.th, .int .i64 s.al, .int .i64 s.ah, .int .i64 s.room, .int .i64 s.xl, .int .i64 s.xh, .int .i64 s.yl, .int .i64 s.yh, .slice a len cap], .slice x len xcap, .int .i64 0, .int .i64 0, .bool false, undef, .agg #[.int .i64 s.P, .int .i64 s.tl, .int .i64 s.th, .int .i64 s.al, .int .i64 s.ah, .int .i64 s.room, .int .i64 s.xl, .int .i64 s.xh, .int .i64 s.yl, .int .i64 s.yh, .slice a len cap], .slice x len xcap, .agg #[.int .i64 n1, .int .i64 n2, .int .i64 n3, .int .i64 n4, .int .i64 n5], .func (.func 105) #[] #[], .int .i64 y, undef, undef, undef, undef, undef, undef, undef, undef, undef, undef], defers := [] }) ?assign ?body ?done ?stop
  case assign =>
    intro l x W K hK
    gi_wp2
    exact hK
  case body =>
    rintro l pre y W ⟨⟨v, hv, hrow, hnil⟩, hB⟩ hlt
    have HNL := Lib.hid hnil; clear hnil
    have hc := hv.cell
    have hW : ∀ b o, b < W0.heap.size → W.cell? ⟨b, o, none⟩ = W0.cell? ⟨b, o, none⟩ := fun b o h => hB.cell (p := ⟨b, o, none⟩) h
    have hzW := hB.size
    have hlW := hv.lt
    have hpl : (fl pre).length ≤ pre.length := by rw [HF.out]; exact List.length_filter_le _ _
    have HSN := Lib.hid (show ∀ b, keepsB s n1 n2 n3 n4 n5 y = b → fl (pre ++ [y]) = fl pre ++ (if b then [] else [y]) from fun b hb => by rw [HF.out, HF.out, List.filter_append]; cases b <;> simp [hb])
    rcases hkb : keepsB s n1 n2 n3 n4 n5 y with - | -
    · have HKB := Lib.hid hkb; clear hkb
      gi_wp2_with (first | (refine ⟨trivial, ?_⟩; gi_at_call 77; refine (CallsIn.inRound l (callsIn_wide.2 (HK.out y _))).mono ?_; rintro e w4 ⟨rfl, hb4⟩; rw [HKB.out]; have hg4 := grown_none hb4; have hv4 := hv.kept hg4 (by simp); have hrow4 := hrow.kept hg4 (Classical.em _); have hk4 := keeps_others hb4; have hz4 := hb4.size; have hBb4 := hb4.mono hzW; clear hb4; have hc4 := hv4.cell) | (gi_at_builtin; refine wpListIn_append_own _ rfl _ _ 29 rfl W0.heap.size 3 i0 (.int .i64 0) 1 8 Try.underlying29 hi hy0 hy1 hy2 rfl (by decide) _ _ _ rfl (hrow4.alloc _) ⟨w4.heap.size, 0, none⟩ 1 1 [.int .i64 y] rfl rfl (cell_one_new _ _ _) (by simp [Value.oneCell']) (by unfold maxLen; omega) (by omega) (by simp; omega) ?_; intro v' w5 hown' hgrow _; obtain ⟨g', cap', rfl⟩ := ownsRow_succ hown'; obtain ⟨hv1, hv2, hr2, hk2, hb2⟩ := hv4.appended (by decide) hrow4 (Nat.le_trans hzW hz4) (Nat.le_refl _) hown' hgrow; have hc5 := hv1.cell; have hf5 := hv1.frozen))
      exact ⟨(hk4.trans hk2).from _, trivial, ⟨_, hv2, by rw [HSN.out _ HKB.out]; simpa using hr2, by rw [HSN.out _ HKB.out]; simp⟩, hB.trans (hBb4.trans hb2)⟩
    · have HKB := Lib.hid hkb; clear hkb
      gi_wp2_with (refine ⟨trivial, ?_⟩; gi_at_call 77; refine (CallsIn.inRound l (callsIn_wide.2 (HK.out y _))).mono ?_; rintro e w4 ⟨rfl, hb4⟩; rw [HKB.out]; have hg4 := grown_none hb4; have hv4 := hv.kept hg4 (by simp); have hrow4 := hrow.kept hg4 (Classical.em _); have hk4 := keeps_others hb4; have hz4 := hb4.size; have hBb4 := hb4.mono hzW; clear hb4; have hc4 := hv4.cell)
      exact ⟨hk4.from _, trivial, ⟨v, hv4, by rw [HSN.out _ HKB.out]; simpa using hrow4, by rw [HSN.out _ HKB.out]; simpa using HNL.out⟩, hB.trans hBb4⟩
  case done =>
    rintro D ys W hD rfl ⟨⟨v, hv, hrow, hnil⟩, hB⟩ hK
    have HNL := Lib.hid hnil; clear hnil
    have hc := hv.cell
    gi_wp2
    refine ⟨by simp, .inl ⟨_, _, rfl, run_takeDeferred hK, ?_⟩⟩
    exact ⟨.tuple #[v, .int .i64 0], by simp [results, Try.results24, go_sem], v, rfl, Go.Joins.ownsRow_le (ownsRow_putObj hrow _ hK rfl) hB0.size, HNL.out, hB0.trans (Below.mono (hB.trans (belowK_b (w := W0) (Nat.le_refl _) W D _ _ (by simp at hD; omega) hK rfl rfl)) hB0.size)⟩
  case stop =>
    rintro D c pre W _ _ h _
    exact h.elim
end Go.Proofs.Ytajabapcmpmboaa
