/- AfterOf of the reference. -/
import Derived.Test.YtojmimfjnnibdaaRE
namespace Go.Proofs.Ytojmimfjnnibdaa
set_option linter.unusedVariables false
set_option linter.unusedSimpArgs false
open Go.RowKit

set_option maxHeartbeats 2000000 in
theorem refAfterOf_any (s : Shop) (a : Option Addr) (len cap : Nat) (x : Option Addr) (xcap : Nat) (ns : List Int) (w : World) (hp : PigsAt w a len s.pigs) (hx : IntsAt w x len ns) (hok : s.ok = true) (hf : s.fewB ns = true) :
    Calls Try.prog 63 #[.agg #[.int .i64 s.P, .int .i64 s.tl, .int .i64 s.th, .int .i64 s.al, .int .i64 s.ah, .int .i64 s.room, .int .i64 s.xl, .int .i64 s.xh, .int .i64 s.yl, .int .i64 s.yh, .slice a len cap], .slice x len xcap] w fun e w' => e = .returned (.agg (potCells s ns)) ∧ Below w.heap.size w w' := by
  have hbd := Shop.ok_bd hok
  have hl4 : len ≤ 4 := by have := hp.1; omega
  have hfew := s.few ns hok hf
  have HP := Lib.hid (fun w1 (hb : Below w.heap.size w w1) => ref_PoundsOf s a cap x len xcap ns w1 (hp.below hb) (hx.below hb) hl4 hfew)
  have HT := Lib.hid (fun w1 (hb : Below w.heap.size w w1) => ref_TinOf s a cap x len xcap ns w1 (hp.below hb) (hx.below hb) hl4 hfew)
  have HA := Lib.hid (fun w1 (hb : Below w.heap.size w w1) => ref_AntimonyOf s a cap x len xcap ns w1 (hp.below hb) (hx.below hb) hl4 hfew)
  have bp := tot_all Pig.P bd_pounds s.pigs ns hfew hp.1 hx.1
  have bt := tot_all Pig.t bd_tin s.pigs ns hfew hp.1 hx.1
  have ba := tot_all Pig.a bd_antimony s.pigs ns hfew hp.1 hx.1
  have HR := Lib.hid (show potCells s ns = #[.int .i64 (s.P + tot Pig.P s.pigs ns), .int .i64 (s.tl + tot Pig.t s.pigs ns), .int .i64 (s.th + tot Pig.t s.pigs ns), .int .i64 (s.al + tot Pig.a s.pigs ns), .int .i64 (s.ah + tot Pig.a s.pigs ns)] from rfl)
  clear hp hx hfew hf
  generalize tot Pig.P s.pigs ns = tp at *
  generalize tot Pig.t s.pigs ns = tt at *
  generalize tot Pig.a s.pigs ns = ta at *
  obtain ⟨bp1, bp2⟩ := bp
  obtain ⟨bt1, bt2⟩ := bt
  obtain ⟨ba1, ba2⟩ := ba
  have HM1 := Lib.hid (fun w1 => below_ex2 <| more_any s.tl s.th tt w1 (by unfold Fair; omega) (by unfold Fair; omega) (by unfold Fair; omega))
  have HM2 := Lib.hid (fun w1 => below_ex2 <| more_any s.al s.ah ta w1 (by unfold Fair; omega) (by unfold Fair; omega) (by unfold Fair; omega))
  obtain ⟨⟨q1, q2⟩, ⟨q3, q4⟩, ⟨q5, q6⟩, q7, ⟨q8, q9⟩, -⟩ := hbd
  go_enter Try.func63, Try.ntmps63
  go_wp2_with fail
  obtain ⟨W0, hW0, hB0, hbx, hS0⟩ := name_res w #[.int .i64 s.P, .int .i64 s.tl, .int .i64 s.th, .int .i64 s.al, .int .i64 s.ah, .int .i64 s.room, .int .i64 s.xl, .int .i64 s.xh, .int .i64 s.yl, .int .i64 s.yh, .slice a len cap] 28 25
  rw [hW0]
  clear hW0
  have HP1 := Lib.hid (held_res hB0 HP.out)
  have HT1 := Lib.hid (held_res hB0 HT.out)
  have HA1 := Lib.hid (held_res hB0 HA.out)
  have HM3 := Lib.hid (held_res hB0 fun w1 _ => HM1.out w1)
  have HM4 := Lib.hid (held_res hB0 fun w1 _ => HM2.out w1)
  have hw : IntKind.i64.wrap (s.P + tp) = s.P + tp := IntWalk.i64_in _ ⟨by omega, by omega⟩
  go_region_held3 (fun w' => Below (w.heap.size + 1) W0 w' ∧ (∀ b o, b < w.heap.size + 1 → (w').cell? ⟨b, o, none⟩ = W0.cell? ⟨b, o, none⟩) ∧ (∀ i, i < 5 → (w').cell? ⟨w.heap.size + 1, i, none⟩ = some (cellVal w' (w.heap.size + 1) i)) ∧ (∀ i, i < 5 → (w').frozen? ⟨w.heap.size + 1, i, none⟩ = false) ∧ w.heap.size + 1 < (w').heap.size) (first | exact ⟨hS0.1.drew, hS0.2⟩ | assumption | (refine res_set _ _ (res_set _ _ (res_set _ _ (res_set _ _ (res_set _ _ ?_)))); assumption))
    (first | (go_at_call 50; with_reducible refine (HP1.out _ ?_).mono ?_; (first | assumption | exact ⟨hS0.1.drew, hS0.2⟩); rintro e w' ⟨rfl, k⟩) | (go_at_call 51; with_reducible refine (HT1.out _ ?_).mono ?_; (first | assumption | exact ⟨hS0.1.drew, hS0.2⟩); rintro e w' ⟨rfl, k⟩) | (go_at_call 52; with_reducible refine (HA1.out _ ?_).mono ?_; (first | assumption | exact ⟨hS0.1.drew, hS0.2⟩); rintro e w' ⟨rfl, k⟩) | (go_at_call 94; with_reducible refine (HM3.out _ ?_).mono ?_; (first | assumption | exact ⟨hS0.1.drew, hS0.2⟩); rintro e w' ⟨rfl, k⟩) | (go_at_call 94; with_reducible refine (HM4.out _ ?_).mono ?_; (first | assumption | exact ⟨hS0.1.drew, hS0.2⟩); rintro e w' ⟨rfl, k⟩; have HK := Lib.hid k))
  go_wp2
  obtain ⟨r0, r1, r2, r3, r4⟩ := set5 HK.out.2.2.1 (.int .i64 (s.P + tp)) (.int .i64 (s.tl + tt)) (.int .i64 (s.th + tt)) (.int .i64 (s.al + ta)) (.int .i64 (s.ah + ta))
  refine bodyPost_ret (v := .agg #[.int .i64 (s.P + tp), .int .i64 (s.tl + tt), .int .i64 (s.th + tt), .int .i64 (s.al + ta), .int .i64 (s.ah + ta)]) (by simp [results, Try.results63, go_sem, r0, r1, r2, r3, r4]) rfl ⟨ret_aggs HR.out.symm, ?_⟩
  exact (hB0.trans (Below.mono HK.out.1 (by omega))).trans (by repeat (first | exact Below.refl _ _ | (refine Below.alloc ?_ (by first | omega | (simp; omega) | simp) _) | (refine Below.setCell ?_ (by first | omega | (simp; omega) | simp) _) | refine Below.drew ?_))
end Go.Proofs.Ytojmimfjnnibdaa
