/- metal's Short. -/
import Derived.Test.YtajabapcmpmboaaSG
import Derived.Test.YtajabapcmpmboaaM
namespace Go.Proofs.Ytajabapcmpmboaa
set_option linter.unusedVariables false
set_option linter.unusedSimpArgs false
open Go.RowKit Go.Shelf

attribute [local go_sem] Oper.semAt_some

set_option maxHeartbeats 1000000 in
theorem Short_no (s : Shop) (a : Option Addr) (len cap : Nat) (w : World) (hp : PigsAt w a len s.pigs) (ho : s.ok = false) :
    Calls Try.prog 30 #[.agg #[.int .i64 s.P, .int .i64 s.tl, .int .i64 s.th, .int .i64 s.al, .int .i64 s.ah, .int .i64 s.room, .int .i64 s.xl, .int .i64 s.xh, .int .i64 s.yl, .int .i64 s.yh, .slice a len cap]] w fun e w' => e = .returned (.tuple #[.slice none 0 0, .int .i64 10]) ∧ Below w.heap.size w w' := by
  have HT := Lib.hid (fun w1 (hb : Below w.heap.size w w1) => Check_is s a len cap 10 (by simp [ho]) w1 (hp.below hb))
  clear hp ho
  go_enter Try.func30, Try.ntmps30
  go_wp2_with fail
  refine (HT.out _ (by repeat (first | exact Below.refl _ _ | (refine Below.alloc ?_ (by first | omega | (simp; omega) | simp) _) | (refine Below.setCell ?_ (by first | omega | (simp; omega) | simp) _) | refine Below.drew ?_))).mono ?_
  rintro e w1 ⟨rfl, hb1⟩
  have HB := Lib.hid hb1
  clear hb1
  go_wp2_with fail
  go_ret2
  exact ⟨rfl, (by repeat (first | exact Below.refl _ _ | (refine Below.alloc ?_ (by first | omega | (simp; omega) | simp) _) | (refine Below.setCell ?_ (by first | omega | (simp; omega) | simp) _) | refine Below.drew ?_ | (refine below_via (by assumption) (by first | omega | (simp; omega) | simp) ?_)))⟩

/-- The limits that no addition keeps. -/
def Shop.shortF (s : Shop) (l : List (Fin 4)) : List (Fin 4) := l.filter fun i => s.keepN ((allL s.most).filter s.room?) i == 0
def intsF (l : List (Fin 4)) : List Value := l.map fun i => Value.int .i64 ((i.val : Int) + 1)

set_option maxRecDepth 100000 in
set_option maxHeartbeats 4000000 in
theorem Short_yes (s : Shop) (a : Option Addr) (len cap : Nat) (w : World) (hp : PigsAt w a len s.pigs) (ho : s.ok = true) :
    Calls Try.prog 30 #[.agg #[.int .i64 s.P, .int .i64 s.tl, .int .i64 s.th, .int .i64 s.al, .int .i64 s.ah, .int .i64 s.room, .int .i64 s.xl, .int .i64 s.xh, .int .i64 s.yl, .int .i64 s.yh, .slice a len cap]] w fun e w' => ∃ v, e = .returned (.tuple #[v, .int .i64 0]) ∧ w'.ownsRow w.heap.size 3 1 v (s.shortF [0, 1, 2, 3]).length (intsF (s.shortF [0, 1, 2, 3])) ∧ Below w.heap.size w w' := by
  have HT := Lib.hid (fun w1 (hb : Below w.heap.size w w1) => Check_is s a len cap 0 (by simp [ho]) w1 (hp.below hb))
  have HKE := Lib.hid (fun w1 (hb : Below w.heap.size w w1) => keeping_any s a len cap w1 (hp.below hb) ho)
  obtain ⟨i0, hi, hy0, hy1, hy2⟩ := info_parts Try.info3
  have HF := Lib.hid (show ∀ l, s.shortF l = l.filter fun i => s.keepN ((allL s.most).filter s.room?) i == 0 from fun l => rfl)
  have HZ := Lib.hid (show ∀ (pre : List (Fin 4)) y b, (s.keepN ((allL s.most).filter s.room?) y == 0) = b → s.shortF (pre ++ [y]) = s.shortF pre ++ (if b then [y] else []) from fun pre y b hb => by unfold Shop.shortF; rw [List.filter_append]; cases b <;> simp [hb])
  have HLN := Lib.hid (show ∀ pre, (s.shortF pre).length ≤ pre.length from fun pre => List.length_filter_le _ _)
  have HN := Lib.hid (show s.shortF [] = [] from rfl)
  generalize s.shortF = fl at *
  generalize s.keepN ((allL s.most).filter s.room?) = kn at *
  refine (callsIn_wide (n := 8)).1 ?_
  refine callsIn_of_wp_marks Try.func30 rfl trivial ?_ rfl
  simp only [Try.ntmps30, List.size_toArray, List.length_cons, List.length_nil, Nat.reduceAdd, Nat.reduceSub, Array.replicate_succ, Array.replicate_zero, List.push_toArray, List.append_toArray, List.nil_append, List.cons_append]
  gi_wp2_with (refine ⟨trivial, ?_⟩; gi_at_call 20; refine (callsIn_wide.2 (HT.out _ (by repeat (first | exact Below.refl _ _ | (refine Below.alloc ?_ (by first | omega | (simp; omega) | simp) _) | (refine Below.setCell ?_ (by first | omega | (simp; omega) | simp) _) | refine Below.drew ?_)))).mono ?_; rintro e w1 ⟨rfl, hb1⟩; obtain ⟨hc1, hf1⟩ := bcell hb1; have hz3 := hb1.size; simp at hz3; have hbw : Below w.heap.size w w1 := (((by repeat (first | exact Below.refl _ _ | (refine Below.alloc ?_ (by first | omega | (simp; omega) | simp) _) | (refine Below.setCell ?_ (by first | omega | (simp; omega) | simp) _) | refine Below.drew ?_)) : Below w.heap.size w _).trans (hb1.mono (by first | (simp; done) | (simp; omega) | omega))); clear hb1)
  gi_wp2_with (first | (refine ⟨trivial, ?_⟩; gi_at_call 80; refine (callsIn_wide.2 (HKE.out _ hbw)).mono ?_; rintro e w2 ⟨mb, rfl, hmb, htl, hb2⟩) | (refine ⟨trivial, ?_⟩; gi_at_call 76; refine (limits_in Fence.wide _ trivial rfl _).mono ?_; rintro e w3 ⟨rfl, rfl⟩))
  obtain ⟨W0, hW0⟩ : ∃ W0, w2.alloc (.cells #[.map (some mb)] 93) = W0 := ⟨_, rfl⟩
  have hz0 : W0.heap.size = w2.heap.size + 1 := by rw [← hW0]; simp
  have hmp : W0.cell? ⟨w2.heap.size, 0, none⟩ = some (.map (some mb)) := by rw [← hW0]; exact World.cell?_alloc_new _ _ _ 0
  have hB0 : Below w.heap.size w W0 := by rw [← hW0]; exact (hbw.trans (hb2.mono hbw.size)).alloc (hbw.trans (hb2.mono hbw.size)).size _
  have ht0 : Tally W0 mb 10000 kn := by rw [← hW0]; exact htl.kept (World.grownBy_alloc _ _ none) (by simp)
  rw [hW0]
  clear hW0 htl hc1 hf1 hb2
  have hmlt := ht0.lt
  have bF := Boxed.new W0 29 (.slice none 0 0)
  rw [← hz0]
  have q7 : w2.heap.size < W0.heap.size := by omega
  clear hz0
  refine wpIn_rangeFunc_ownG rfl (by omega) (gf := 105) (lb := #[]) rfl trivial (enters_of Try.func105 (by kernel_rfl) rfl)
    (limits_stopsF Fence.wide _ trivial rfl (by omega) (fun _ _ => True) _) (fun _ _ => trivial) (fun _ _ _ _ _ _ _ _ => trivial) (Below.refl _ _) (fun _ => rfl)
    (fun pre W => (∃ v, Boxed W W0.heap.size 29 v ∧ W.ownsRow W0.heap.size 3 1 v (fl pre).length (intsF (fl pre)) ∧ (v = .slice none 0 0 ↔ fl pre = [])) ∧ Below W0.heap.size W0 W)
    (fun _ _ _ => False)
    (OwnFrom.and (Own.from (holdsRow_own W0.heap.size W0.heap.size 29 3 1 (fun pre => (fl pre).length) (fun pre => intsF (fl pre)) (fun pre v => v = .slice none 0 0 ↔ fl pre = [])) _) (ownFrom_below (Nat.le_refl _) (by simp)))
    (fun _ _ _ _ _ hs _ _ => hs)
    ⟨⟨_, bF, by rw [HN.out]; exact World.ownsRow_nil _ _ _ _, by rw [HN.out]; simp⟩, (Below.refl _ _).alloc (Nat.le_refl _) _⟩
    (fun y => { tmps := #[.agg #[.int .i64 s.P, .int .i64 s.tl, .int .i64 s.th, .int .i64 s.al, .int .i64 s.ah, .int .i64 s.room, .int .i64 s.xl, .int .i64 s.xh, .int .i64 s.yl, .int .i64 s.yh, .slice a len cap], .pointer (some ⟨w.heap.size, 0, none⟩), .slice none 0 0, .int .i64 0, .int .i64 0, .pointer (some ⟨w2.heap.size, 0, none⟩), .pointer (some ⟨W0.heap.size, 0, none⟩), .int .i64 ((y.val : Int) + 1), .agg #[.int .i64 s.P, .int .i64 s.tl, .int .i64 s.th, .int .i64 s.al, .int .i64 s.ah, .int .i64 s.room, .int .i64 s.xl, .int .i64 s.xh, .int .i64 s.yl, .int .i64 s.yh, .slice a len cap], .int .i64 0, .int .i64 0, .bool false, undef, .agg #[.int .i64 s.P, .int .i64 s.tl, .int .i64 s.th, .int .i64 s.al, .int .i64 s.ah, .int .i64 s.room, .int .i64 s.xl, .int .i64 s.xh, .int .i64 s.yl, .int .i64 s.yh, .slice a len cap], .agg #[.int .i64 s.P, .int .i64 s.tl, .int .i64 s.th, .int .i64 s.al, .int .i64 s.ah, .int .i64 s.room, .int .i64 s.xl, .int .i64 s.xh, .int .i64 s.yl, .int .i64 s.yh, .slice a len cap], .map (some mb), .func (.func 105) #[] #[], .int .i64 ((y.val : Int) + 1), undef, undef, undef, undef, undef, undef, undef, undef, undef], defers := [] }) ?assign ?body ?done ?stop
  case assign =>
    intro l x W K hK
    gi_wp2
    exact hK
  case body =>
    rintro l pre y W ⟨⟨v, hv, hrow, hnil⟩, hB⟩ hlt
    have HNL := Lib.hid hnil; clear hnil
    have hc := hv.cell
    have hkx : W.cell? ⟨w2.heap.size, 0, none⟩ = some (.map (some mb)) := (hB.cell (p := ⟨w2.heap.size, 0, none⟩) q7).trans hmp
    have hzW := hB.size
    have hpl := HLN.out pre
    obtain ⟨D, hown, hat0⟩ := ht0.kept (grown_none hB) (by simp)
    have hwf : (Lit.int .i64 ((y.val : Int) + 1)).wf = true := wf4 y
    have hkey := Maps.keyOf_int_mk Try.underlying3 hwf
    obtain ⟨b, hb⟩ : ∃ b, (kn y == 0) = b := ⟨_, rfl⟩
    have HSN := Lib.hid (HZ.out pre y b hb)
    have HAT := Lib.hid (hat0 y)
    clear hat0
    generalize kn y = ky at *
    cases b
    · gi_wp2_with (gi_at_lookup; refine wpListIn_lookup_own_int _ rfl _ _ 93 rfl 3 3 .i64 (Maps.int_keyed Try.underlying3) Try.underlying93 Try.underlying3 (Try.zeroValue3 _) mb _ _ rfl hown _ _ rfl hkey ?_; intro c hat hwc; obtain rfl : c = ky := (by have h := HAT.out.symm.trans hat; simpa using h.symm))
      exact ⟨KeepsFrom.refl _ _, trivial, ⟨v, hv, by rw [HSN.out]; simpa using hrow, by rw [HSN.out]; simpa using HNL.out⟩, hB⟩
    · gi_wp2_with (first | (gi_at_lookup; refine wpListIn_lookup_own_int _ rfl _ _ 93 rfl 3 3 .i64 (Maps.int_keyed Try.underlying3) Try.underlying93 Try.underlying3 (Try.zeroValue3 _) mb _ _ rfl hown _ _ rfl hkey ?_; intro c hat hwc; obtain rfl : c = ky := (by have h := HAT.out.symm.trans hat; simpa using h.symm)) | (gi_at_builtin; refine wpListIn_append_own _ rfl _ _ 29 rfl W0.heap.size 3 i0 (.int .i64 0) 1 8 Try.underlying29 hi hy0 hy1 hy2 rfl (by decide) _ _ _ rfl (hrow.alloc _) ⟨W.heap.size, 0, none⟩ 1 1 [.int .i64 ((y.val : Int) + 1)] rfl rfl (cell_one_new _ _ _) (by simp [Value.oneCell']) (by unfold maxLen; omega) (by omega) (by simp; omega) ?_; intro v' w5 hown' hgrow _; obtain ⟨g', cap', rfl⟩ := ownsRow_succ hown'; obtain ⟨hv1, hv2, hr2, hk2, hb2⟩ := hv.appended (by decide) hrow hzW (Nat.le_refl _) hown' hgrow; have hc5 := hv1.cell; have hf5 := hv1.frozen))
      exact ⟨hk2.from _, trivial, ⟨_, hv2, by rw [HSN.out]; simpa [intsF] using hr2, by rw [HSN.out]; simp⟩, hB.trans hb2⟩
  case done =>
    rintro D ys W hD rfl ⟨⟨v, hv, hrow, -⟩, hB⟩ hK
    have hc := hv.cell
    gi_wp2
    refine ⟨by simp, .inl ⟨_, _, rfl, run_takeDeferred hK, ?_⟩⟩
    exact ⟨.tuple #[v, .int .i64 0], by simp [results, Try.results30, go_sem], v, rfl, Go.Joins.ownsRow_le (ownsRow_putObj hrow _ hK rfl) hB0.size, hB0.trans (Below.mono (hB.trans (belowK_b (w := W0) (Nat.le_refl _) W D _ _ (by simp at hD; omega) hK rfl rfl)) hB0.size)⟩
  case stop =>
    rintro D c pre W _ _ h _
    exact h.elim
end Go.Proofs.Ytajabapcmpmboaa
