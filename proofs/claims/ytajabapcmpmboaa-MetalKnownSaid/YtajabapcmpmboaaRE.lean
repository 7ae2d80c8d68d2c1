/- RE RF RG RH, joined. -/
import Derived.Test.YtajabapcmpmboaaRD
import Derived.Test.YtajabapcmpmboaaG
/- IsAddition of the reference. -/
namespace Go.Proofs.Ytajabapcmpmboaa
set_option linter.unusedVariables false
set_option linter.unusedSimpArgs false
open Go.RowKit

set_option maxHeartbeats 1000000 in
theorem refIsAddition_any (s : Shop) (a : Option Addr) (len cap : Nat) (x : Option Addr) (xlen xcap : Nat) (ns : List Int) (w : World) (hp : PigsAt w a len s.pigs) (hx : IntsAt w x xlen ns) (hok : s.ok = true) :
    Calls Try.prog 93 #[.agg #[.int .i64 s.P, .int .i64 s.tl, .int .i64 s.th, .int .i64 s.al, .int .i64 s.ah, .int .i64 s.room, .int .i64 s.xl, .int .i64 s.xh, .int .i64 s.yl, .int .i64 s.yh, .slice a len cap], .slice x xlen xcap] w fun e w' => e = .returned (.bool (s.isAdd ns)) ∧ Below w.heap.size w w' := by
  have hbd := Shop.ok_bd hok
  have hl4 : len ≤ 4 := by have := hp.1; omega
  by_cases hne : xlen = len
  · obtain rfl : len = xlen := hne.symm
    have HT := Lib.hid (fun (hf : s.fewB ns = true) w1 (hb : Below w.heap.size w w1) => ref_PoundsOf s a cap x len xcap ns w1 (hp.below hb) (hx.below hb) hl4 (s.few ns hok hf))
    have HR := Lib.hid (show ∀ b, s.fewB ns = b → s.isAdd ns = (b && s.room? ns) from fun b h => by simp [Shop.isAdd, h, hp.1, hx.1])
    have HBT := Lib.hid (fun (hf : s.fewB ns = true) => tot_all Pig.P bd_pounds s.pigs ns (s.few ns hok hf) hp.1 hx.1)
    have HRM := Lib.hid (show s.room? ns = decide (s.P + tot Pig.P s.pigs ns ≤ s.room) from rfl)
    obtain ⟨⟨p1, p2⟩, -⟩ := hbd
    obtain ⟨hl, hm, hc⟩ := hp
    obtain ⟨hxl, _, hxc⟩ := hx
    rcases Nat.eq_zero_or_pos len with h0 | h0
    · subst h0
      have hs : s.pigs = [] := List.length_eq_zero_iff.1 hl
      have HS := Lib.hid (show s.fewB ns = true by simp [Shop.fewB, hs]); clear hs hl hc hxl hxc
      go_enter Try.func93, Try.ntmps93
      go_wp2
      obtain ⟨W0, hW0, hB0, hz0, hbx⟩ := name_box w #[.int .i64 s.P, .int .i64 s.tl, .int .i64 s.th, .int .i64 s.al, .int .i64 s.ah, .int .i64 s.room, .int .i64 s.xl, .int .i64 s.xh, .int .i64 s.yl, .int .i64 s.yh, .slice a 0 cap] 28
      rw [hW0]
      clear hW0
      go_loopw [5] (fun i wr => i = .int .i64 0 ∧ Below W0.heap.size W0 wr) (fun _ _ => 0)
      case atStart => exact ⟨rfl, Below.refl _ _⟩
      case round =>
        obtain ⟨rfl, hB⟩ := hrel
        obtain ⟨hc, hf⟩ := bcell hB
        have hz := hB.size
        have hz2 : w.heap.size < wr.heap.size := by omega
        have hBw := hB0.trans (Below.mono hB hB0.size)
        obtain ⟨t1, t2⟩ := HBT.out HS.out
        have HT1 := Lib.hid (held2 hBw (HT.out HS.out))
        have HRM1 := HRM.out
        generalize tot Pig.P s.pigs ns = tp at *
        have HRM2 := Lib.hid HRM1
        clear HRM1
        have hw : IntKind.i64.wrap (s.P + tp) = s.P + tp := IntWalk.i64_in _ ⟨by omega, by omega⟩
        go_wp2_with fail
        go_region_held3 (fun w' => Below wr.heap.size wr w' ∧ ∀ b o, b < wr.heap.size → w'.cell? ⟨b, o, none⟩ = wr.cell? ⟨b, o, none⟩) (first | with_reducible assumption | exact ⟨(Below.refl _ _).drew, fun _ _ _ => rfl⟩)
          (first | (go_at_call 50; with_reducible refine (HT1.out _ ?_).mono ?_; (first | with_reducible assumption | exact ⟨(Below.refl _ _).drew, fun _ _ _ => rfl⟩); rintro e w' ⟨rfl, k⟩))
        have hh := ‹Below wr.heap.size wr _ ∧ _›
        go_wp2_with fail
        go_ret
        exact ⟨ret_bool (by rw [HR.out _ HS.out, Bool.true_and, HRM2.out]), hBw.trans (Below.mono hh.1 hBw.size)⟩
    · obtain ⟨b, o, rfl, hbB, hcell⟩ := hc h0
      obtain ⟨xb, xo, rfl, hxB, hxcell⟩ := hxc h0
      have HL := Lib.hid hl; clear hl hc
      have HX := Lib.hid hxl; clear hxl hxc
      go_enter Try.func93, Try.ntmps93
      go_wp2
      obtain ⟨W0, hW0, hB0, hz0, hbx⟩ := name_box w #[.int .i64 s.P, .int .i64 s.tl, .int .i64 s.th, .int .i64 s.al, .int .i64 s.ah, .int .i64 s.room, .int .i64 s.xl, .int .i64 s.xh, .int .i64 s.yl, .int .i64 s.yh, .slice (some ⟨b, o, none⟩) len cap] 28
      rw [hW0]
      clear hW0
      go_loopw [5] (fun i wr => ∃ k : Nat, k ≤ len ∧ i = .int .i64 k ∧ ((s.pigs.zip ns).take k).all (fun x => btw x.2 0 x.1.m) = true ∧ Below W0.heap.size W0 wr) (fun i _ => len - (intOf i).toNat)
      case atStart => exact ⟨0, by omega, rfl, by simp, Below.refl _ _⟩
      case round =>
        obtain ⟨k, hk, rfl, hall, hB⟩ := hrel
        have HA := Lib.hid hall; clear hall
        obtain ⟨hc, hf⟩ := bcell hB
        have hz := hB.size
        have hBw := hB0.trans (Below.mono hB hB0.size)
        by_cases hlt : k < len
        · have hk2 : k < s.pigs.length := by rw [HL.out]; exact hlt
          have hk3 : k < ns.length := by rw [HX.out]; exact hlt
          obtain ⟨c0, c1, c2, c3, c4⟩ := Pig.at_below hBw hbB (hcell k hk2)
          have cx := (hBw.cell (p := ⟨xb, _, none⟩) hxB).trans (hxcell k hk3)
          have HZ := Lib.hid (zip_snoc s.pigs ns k hk2 hk3)
          have HM := Lib.hid (show (s.pigs[k], ns[k]) ∈ s.pigs.zip ns by rw [← List.getElem_zip (h := by simp; omega)]; exact List.getElem_mem _)
          generalize s.pigs[k] = p at *
          generalize ns[k] = n at *
          rcases hpig : btw n 0 p.m with - | -
          · have hkl : (k : Int) < (len : Int) := by omega
            have hz2 : w.heap.size < wr.heap.size := by omega
            go_wp2_with fail
            go_quiet ((go_at_call 53; exact Calls.quiet_of_same ((Within_is _ _ _ _ hpig _).mono fun _ _ h => ⟨h.1, h.2.symm⟩)))
            go_wp2_with fail
            go_ret
            have hno : s.fewB ns = false := List.all_eq_false.2 ⟨_, HM.out, by simp [hpig]⟩
            exact ⟨ret_bool (by rw [HR.out _ hno]; rfl), hBw.trans (Go.Joins.below_draws _ _ _)⟩
          · have hkl : (k : Int) < (len : Int) := by omega
            have hz2 : w.heap.size < wr.heap.size := by omega
            go_wp2_with fail
            go_quiet ((go_at_call 53; exact Calls.quiet_of_same ((Within_is _ _ _ _ hpig _).mono fun _ _ h => ⟨h.1, h.2.symm⟩)))
            go_wp2_with fail
            go_roundw
            case rel => exact ⟨k + 1, by omega, by go_num, by rw [HZ.out, List.all_append, HA.out]; simp [hpig], hB.trans (Go.Joins.below_draws _ _ _)⟩
            case measure => simp [intOf]; omega
        · have hk' : k = len := by omega
          subst hk'
          have HS := Lib.hid (show s.fewB ns = true by have := HA.out; rw [List.take_of_length_le (by simp [HL.out, HX.out])] at this; exact this)
          have hz2 : w.heap.size < wr.heap.size := by omega
          obtain ⟨t1, t2⟩ := HBT.out HS.out
          have HT1 := Lib.hid (held2 hBw (HT.out HS.out))
          have HRM1 := HRM.out
          generalize tot Pig.P s.pigs ns = tp at *
          have HRM2 := Lib.hid HRM1
          clear HRM1
          have hw : IntKind.i64.wrap (s.P + tp) = s.P + tp := IntWalk.i64_in _ ⟨by omega, by omega⟩
          go_wp2_with fail
          go_region_held3 (fun w' => Below wr.heap.size wr w' ∧ ∀ b o, b < wr.heap.size → w'.cell? ⟨b, o, none⟩ = wr.cell? ⟨b, o, none⟩) (first | with_reducible assumption | exact ⟨(Below.refl _ _).drew, fun _ _ _ => rfl⟩)
            (first | (go_at_call 50; with_reducible refine (HT1.out _ ?_).mono ?_; (first | with_reducible assumption | exact ⟨(Below.refl _ _).drew, fun _ _ _ => rfl⟩); rintro e w' ⟨rfl, k⟩))
          have hh := ‹Below wr.heap.size wr _ ∧ _›
          go_wp2_with fail
          go_ret
          exact ⟨ret_bool (by rw [HR.out _ HS.out, Bool.true_and, HRM2.out]), hBw.trans (Below.mono hh.1 hBw.size)⟩
  · have HS := Lib.hid (show s.isAdd ns = false by have := hp.1; have := hx.1; simp [Shop.isAdd]; intro h; omega)
    have e1 : ((xlen : Int) == (len : Int)) = false := by simp; omega
    have e2 : ((xlen : Int) != (len : Int)) = true := by simp; omega
    go_enter Try.func93, Try.ntmps93
    go_wp2
    go_ret
    exact ⟨ret_bool HS.out.symm, (by repeat (first | exact Below.refl _ _ | (refine Below.alloc ?_ (by first | omega | (simp; omega) | simp) _) | (refine Below.setCell ?_ (by first | omega | (simp; omega) | simp) _) | refine Below.drew ?_))⟩
end Go.Proofs.Ytajabapcmpmboaa

/- AfterOf of the reference. -/
namespace Go.Proofs.Ytajabapcmpmboaa
set_option linter.unusedVariables false
set_option linter.unusedSimpArgs false
open Go.RowKit

set_option maxHeartbeats 2000000 in
theorem refAfterOf_any (s : Shop) (a : Option Addr) (len cap : Nat) (x : Option Addr) (xcap : Nat) (ns : List Int) (w : World) (hp : PigsAt w a len s.pigs) (hx : IntsAt w x len ns) (hok : s.ok = true) (hf : s.fewB ns = true) :
    Calls Try.prog 63 #[.agg #[.int .i64 s.P, .int .i64 s.tl, .int .i64 s.th, .int .i64 s.al, .int .i64 s.ah, .int .i64 s.room, .int .i64 s.xl, .int .i64 s.xh, .int .i64 s.yl, .int .i64 s.yh, .slice a len cap], .slice x len xcap] w fun e w' => e = .returned (.agg (potCells s ns)) ∧ Below w.heap.size w w' := by
  have hbd := Shop.ok_bd hok
  have hl4 : len ≤ 4 := by have := hp.1; omega
  have hfew := s.few ns hok hf
  have HP := Lib.hid (fun w1 (hb : Below w.heap.size w w1) => ref_PoundsOf s a cap x len xcap ns w1 (hp.below hb) (hx.below hb) hl4 hfew)
  have HT := Lib.hid (fun w1 (hb : Below w.heap.size w w1) => ref_TinOf s a cap x len xcap ns w1 (hp.below hb) (hx.below hb) hl4 hfew)
  have HA := Lib.hid (fun w1 (hb : Below w.heap.size w w1) => ref_AntimonyOf s a cap x len xcap ns w1 (hp.below hb) (hx.below hb) hl4 hfew)
  have bp := tot_all Pig.P bd_pounds s.pigs ns hfew hp.1 hx.1
  have bt := tot_all Pig.t bd_tin s.pigs ns hfew hp.1 hx.1
  have ba := tot_all Pig.a bd_antimony s.pigs ns hfew hp.1 hx.1
  have HR := Lib.hid (show potCells s ns = #[.int .i64 (s.P + tot Pig.P s.pigs ns), .int .i64 (s.tl + tot Pig.t s.pigs ns), .int .i64 (s.th + tot Pig.t s.pigs ns), .int .i64 (s.al + tot Pig.a s.pigs ns), .int .i64 (s.ah + tot Pig.a s.pigs ns)] from rfl)
  clear hp hx hfew hf
  generalize tot Pig.P s.pigs ns = tp at *
  generalize tot Pig.t s.pigs ns = tt at *
  generalize tot Pig.a s.pigs ns = ta at *
  obtain ⟨bp1, bp2⟩ := bp
  obtain ⟨bt1, bt2⟩ := bt
  obtain ⟨ba1, ba2⟩ := ba
  have HM1 := Lib.hid (fun w1 => below_ex2 <| more_any s.tl s.th tt w1 (by unfold Fair; omega) (by unfold Fair; omega) (by unfold Fair; omega))
  have HM2 := Lib.hid (fun w1 => below_ex2 <| more_any s.al s.ah ta w1 (by unfold Fair; omega) (by unfold Fair; omega) (by unfold Fair; omega))
  obtain ⟨⟨q1, q2⟩, ⟨q3, q4⟩, ⟨q5, q6⟩, q7, ⟨q8, q9⟩, -⟩ := hbd
  go_enter Try.func63, Try.ntmps63
  go_wp2_with fail
  obtain ⟨W0, hW0, hB0, hbx, hS0⟩ := name_res w #[.int .i64 s.P, .int .i64 s.tl, .int .i64 s.th, .int .i64 s.al, .int .i64 s.ah, .int .i64 s.room, .int .i64 s.xl, .int .i64 s.xh, .int .i64 s.yl, .int .i64 s.yh, .slice a len cap] 28 25
  rw [hW0]
  clear hW0
  have HP1 := Lib.hid (held_res hB0 HP.out)
  have HT1 := Lib.hid (held_res hB0 HT.out)
  have HA1 := Lib.hid (held_res hB0 HA.out)
  have HM3 := Lib.hid (held_res hB0 fun w1 _ => HM1.out w1)
  have HM4 := Lib.hid (held_res hB0 fun w1 _ => HM2.out w1)
  have hw : IntKind.i64.wrap (s.P + tp) = s.P + tp := IntWalk.i64_in _ ⟨by omega, by omega⟩
  go_region_held3 (fun w' => Below (w.heap.size + 1) W0 w' ∧ (∀ b o, b < w.heap.size + 1 → (w').cell? ⟨b, o, none⟩ = W0.cell? ⟨b, o, none⟩) ∧ (∀ i, i < 5 → (w').cell? ⟨w.heap.size + 1, i, none⟩ = some (cellVal w' (w.heap.size + 1) i)) ∧ (∀ i, i < 5 → (w').frozen? ⟨w.heap.size + 1, i, none⟩ = false) ∧ w.heap.size + 1 < (w').heap.size) (first | exact ⟨hS0.1.drew, hS0.2⟩ | assumption | (refine res_set _ _ (res_set _ _ (res_set _ _ (res_set _ _ (res_set _ _ ?_)))); assumption))
    (first | (go_at_call 50; with_reducible refine (HP1.out _ ?_).mono ?_; (first | assumption | exact ⟨hS0.1.drew, hS0.2⟩); rintro e w' ⟨rfl, k⟩) | (go_at_call 51; with_reducible refine (HT1.out _ ?_).mono ?_; (first | assumption | exact ⟨hS0.1.drew, hS0.2⟩); rintro e w' ⟨rfl, k⟩) | (go_at_call 52; with_reducible refine (HA1.out _ ?_).mono ?_; (first | assumption | exact ⟨hS0.1.drew, hS0.2⟩); rintro e w' ⟨rfl, k⟩) | (go_at_call 94; with_reducible refine (HM3.out _ ?_).mono ?_; (first | assumption | exact ⟨hS0.1.drew, hS0.2⟩); rintro e w' ⟨rfl, k⟩) | (go_at_call 94; with_reducible refine (HM4.out _ ?_).mono ?_; (first | assumption | exact ⟨hS0.1.drew, hS0.2⟩); rintro e w' ⟨rfl, k⟩; have HK := Lib.hid k))
  go_wp2
  obtain ⟨r0, r1, r2, r3, r4⟩ := set5 HK.out.2.2.1 (.int .i64 (s.P + tp)) (.int .i64 (s.tl + tt)) (.int .i64 (s.th + tt)) (.int .i64 (s.al + ta)) (.int .i64 (s.ah + ta))
  refine bodyPost_ret (v := .agg #[.int .i64 (s.P + tp), .int .i64 (s.tl + tt), .int .i64 (s.th + tt), .int .i64 (s.al + ta), .int .i64 (s.ah + ta)]) (by simp [results, Try.results63, go_sem, r0, r1, r2, r3, r4]) rfl ⟨ret_aggs HR.out.symm, ?_⟩
  exact (hB0.trans (Below.mono HK.out.1 (by omega))).trans (by repeat (first | exact Below.refl _ _ | (refine Below.alloc ?_ (by first | omega | (simp; omega) | simp) _) | (refine Below.setCell ?_ (by first | omega | (simp; omega) | simp) _) | refine Below.drew ?_))
end Go.Proofs.Ytajabapcmpmboaa

/- What the reference asks of a list ahead of all else; its After. -/
namespace Go.Proofs.Ytajabapcmpmboaa
set_option linter.unusedVariables false
set_option linter.unusedSimpArgs false
open Go.RowKit

theorem refCheck_is (s : Shop) (a : Option Addr) (len cap : Nat) (v : Int) (h : s.chk = v) (w : World) (hp : PigsAt w a len s.pigs) :
    Calls Try.prog 21 #[.agg #[.int .i64 s.P, .int .i64 s.tl, .int .i64 s.th, .int .i64 s.al, .int .i64 s.ah, .int .i64 s.room, .int .i64 s.xl, .int .i64 s.xh, .int .i64 s.yl, .int .i64 s.yh, .slice a len cap]] w fun e w' => e = .returned (.int .i64 v) ∧ Below w.heap.size w w' := h ▸ refCheck_any s a len cap w hp

theorem ask_is (s : Shop) (a : Option Addr) (len cap : Nat) (b : Bool) (w : World) (hp : PigsAt w a len s.pigs) (ho : s.ok = true) (v : Int) (hv : (if b then 0 else 1 : Int) = v) :
    Calls Try.prog 98 #[.agg #[.int .i64 s.P, .int .i64 s.tl, .int .i64 s.th, .int .i64 s.al, .int .i64 s.ah, .int .i64 s.room, .int .i64 s.xl, .int .i64 s.xh, .int .i64 s.yl, .int .i64 s.yh, .slice a len cap], .bool b] w fun e w' => e = .returned (.int .i64 v) ∧ Below w.heap.size w w' := by
  have HC := Lib.hid (fun w1 (hb : Below w.heap.size w w1) => refCheck_is s a len cap 0 (by simp [Shop.chk, ho]) w1 (hp.below hb))
  clear hp ho
  cases b <;> simp at hv <;> subst hv
  all_goals go_enter Try.func98, Try.ntmps98
  all_goals go_wp2_with fail
  all_goals refine (HC.out _ (by repeat (first | exact Below.refl _ _ | (refine Below.alloc ?_ (by first | omega | (simp; omega) | simp) _) | (refine Below.setCell ?_ (by first | omega | (simp; omega) | simp) _) | refine Below.drew ?_))).mono ?_
  all_goals rintro e w1 ⟨rfl, hb1⟩
  all_goals have HB := Lib.hid hb1
  all_goals clear hb1
  all_goals go_wp2_with fail
  all_goals go_ret
  all_goals exact ⟨rfl, (by repeat (first | exact Below.refl _ _ | (refine Below.alloc ?_ (by first | omega | (simp; omega) | simp) _) | (refine Below.setCell ?_ (by first | omega | (simp; omega) | simp) _) | refine Below.drew ?_ | (refine below_via (by assumption) (by first | omega | (simp; omega) | simp) ?_)))⟩

theorem refIsAddition_is (s : Shop) (a : Option Addr) (len cap : Nat) (x : Option Addr) (xlen xcap : Nat) (ns : List Int) (w : World) (hp : PigsAt w a len s.pigs) (hx : IntsAt w x xlen ns) (hok : s.ok = true) (b : Bool) (h : s.isAdd ns = b) :
    Calls Try.prog 93 #[.agg #[.int .i64 s.P, .int .i64 s.tl, .int .i64 s.th, .int .i64 s.al, .int .i64 s.ah, .int .i64 s.room, .int .i64 s.xl, .int .i64 s.xh, .int .i64 s.yl, .int .i64 s.yh, .slice a len cap], .slice x xlen xcap] w fun e w' => e = .returned (.bool b) ∧ Below w.heap.size w w' := h ▸ refIsAddition_any s a len cap x xlen xcap ns w hp hx hok

set_option maxHeartbeats 1000000 in
theorem open_any (s : Shop) (a : Option Addr) (len cap : Nat) (x : Option Addr) (xlen xcap : Nat) (ns : List Int) (w : World) (hp : PigsAt w a len s.pigs) (hx : IntsAt w x xlen ns) (v : Int) (hv : s.code ns = v) :
    Calls Try.prog 70 #[.agg #[.int .i64 s.P, .int .i64 s.tl, .int .i64 s.th, .int .i64 s.al, .int .i64 s.ah, .int .i64 s.room, .int .i64 s.xl, .int .i64 s.xh, .int .i64 s.yl, .int .i64 s.yh, .slice a len cap], .slice x xlen xcap] w fun e w' => e = .returned (.int .i64 v) ∧ Below w.heap.size w w' := by
  rcases ho : s.ok with - | -
  · obtain rfl : v = 10 := by rw [← hv]; simp [Shop.code, ho]
    have HC := Lib.hid (fun w1 (hb : Below w.heap.size w w1) => refCheck_is s a len cap 10 (by simp [Shop.chk, ho]) w1 (hp.below hb))
    clear hp hx hv
    go_enter Try.func70, Try.ntmps70
    go_wp2_with fail
    refine (HC.out _ (by repeat (first | exact Below.refl _ _ | (refine Below.alloc ?_ (by first | omega | (simp; omega) | simp) _) | (refine Below.setCell ?_ (by first | omega | (simp; omega) | simp) _) | refine Below.drew ?_))).mono ?_
    rintro e w1 ⟨rfl, hb1⟩
    have HB := Lib.hid hb1
    clear hb1
    go_wp2_with fail
    go_ret
    exact ⟨rfl, (by repeat (first | exact Below.refl _ _ | (refine Below.alloc ?_ (by first | omega | (simp; omega) | simp) _) | (refine Below.setCell ?_ (by first | omega | (simp; omega) | simp) _) | refine Below.drew ?_ | (refine below_via (by assumption) (by first | omega | (simp; omega) | simp) ?_)))⟩
  · have HC := Lib.hid (fun w1 (hb : Below w.heap.size w w1) => refCheck_is s a len cap 0 (by simp [Shop.chk, ho]) w1 (hp.below hb))
    have hv' : (if s.isAdd ns then 0 else 1 : Int) = v := by rw [← hv]; simp [Shop.code, ho]
    have HI := Lib.hid (fun b (hb' : s.isAdd ns = b) w1 (hb : Below w.heap.size w w1) => refIsAddition_is s a len cap x xlen xcap ns w1 (hp.below hb) (hx.below hb) ho b hb')
    have HK := Lib.hid (fun w1 (hb : Below w.heap.size w w1) => ask_is s a len cap (s.isAdd ns) w1 (hp.below hb) ho v hv')
    clear hp hx hv hv' ho
    generalize hia : s.isAdd ns = ia at *
    have HIA := Lib.hid hia
    clear hia
    go_enter Try.func70, Try.ntmps70
    go_wp2_with fail
    refine (HC.out _ (by repeat (first | exact Below.refl _ _ | (refine Below.alloc ?_ (by first | omega | (simp; omega) | simp) _) | (refine Below.setCell ?_ (by first | omega | (simp; omega) | simp) _) | refine Below.drew ?_))).mono ?_
    rintro e w1 ⟨rfl, hb1⟩
    obtain ⟨hc1, hf1⟩ := bcell hb1
    have hz1 := hb1.size
    simp at hz1
    have q1 : w.heap.size < w1.heap.size := by omega
    have hbw : Below w.heap.size w w1 := ((by repeat (first | exact Below.refl _ _ | (refine Below.alloc ?_ (by first | omega | (simp; omega) | simp) _) | (refine Below.setCell ?_ (by first | omega | (simp; omega) | simp) _) | refine Below.drew ?_)) : Below w.heap.size w _).trans (hb1.mono (by simp))
    clear hb1
    have HI1 := Lib.hid (held2 hbw (HI.out ia (by first | exact HIA.out | rfl)))
    have HK1 := Lib.hid (held2 hbw HK.out)
    go_wp2_with fail
    go_region_held3 (fun w' => Below w1.heap.size w1 w' ∧ ∀ b o, b < w1.heap.size → w'.cell? ⟨b, o, none⟩ = w1.cell? ⟨b, o, none⟩) (first | with_reducible assumption | exact ⟨(Below.refl _ _).drew, fun _ _ _ => rfl⟩)
      (first | (go_at_call 93; with_reducible refine (HI1.out _ ?_).mono ?_; (first | with_reducible assumption | exact ⟨(Below.refl _ _).drew, fun _ _ _ => rfl⟩); rintro e w' ⟨rfl, k⟩) | (go_at_call 98; with_reducible refine (HK1.out _ ?_).mono ?_; (first | with_reducible assumption | exact ⟨(Below.refl _ _).drew, fun _ _ _ => rfl⟩); rintro e w' ⟨rfl, k⟩))
    have hh := ‹Below w1.heap.size w1 _ ∧ _›
    go_wp2_with fail
    go_ret
    exact ⟨rfl, hbw.trans (Below.mono hh.1 hbw.size)⟩
end Go.Proofs.Ytajabapcmpmboaa

/- After of the reference. -/
namespace Go.Proofs.Ytajabapcmpmboaa
set_option linter.unusedVariables false
set_option linter.unusedSimpArgs false
open Go.RowKit

set_option maxHeartbeats 1000000 in
theorem refAfter_no (s : Shop) (a : Option Addr) (len cap : Nat) (x : Option Addr) (xlen xcap : Nat) (ns : List Int) (w : World) (hp : PigsAt w a len s.pigs) (hx : IntsAt w x xlen ns) (v : Int) (hv : s.code ns = v) (hno : v ≠ 0) :
    Calls Try.prog 19 #[.agg #[.int .i64 s.P, .int .i64 s.tl, .int .i64 s.th, .int .i64 s.al, .int .i64 s.ah, .int .i64 s.room, .int .i64 s.xl, .int .i64 s.xh, .int .i64 s.yl, .int .i64 s.yh, .slice a len cap], .slice x xlen xcap] w fun e w' => e = .returned (.tuple #[.agg #[.int .i64 0, .int .i64 0, .int .i64 0, .int .i64 0, .int .i64 0], .int .i64 v]) ∧ Below w.heap.size w w' := by
  have HT := Lib.hid (fun w1 (hb : Below w.heap.size w w1) => open_any s a len cap x xlen xcap ns w1 (hp.below hb) (hx.below hb) v hv)
  have e1 : (v == 0) = false := by simpa using hno
  have e2 : (v != 0) = true := by simpa using hno
  clear hp hx hv hno
  go_enter Try.func19, Try.ntmps19
  go_wp2_with fail
  refine (HT.out _ (by repeat (first | exact Below.refl _ _ | (refine Below.alloc ?_ (by first | omega | (simp; omega) | simp) _) | (refine Below.setCell ?_ (by first | omega | (simp; omega) | simp) _) | refine Below.drew ?_))).mono ?_
  rintro e w1 ⟨rfl, hb1⟩
  obtain ⟨hc1, hf1⟩ := bcell hb1
  have hz1 := hb1.size
  simp at hz1
  have HB := Lib.hid hb1
  clear hb1
  have q1 : w.heap.size + 1 < w1.heap.size := by omega
  have q2 : w.heap.size < w1.heap.size := by omega
  go_wp2_with fail
  refine bodyPost_ret (v := .tuple #[.agg #[.int .i64 0, .int .i64 0, .int .i64 0, .int .i64 0, .int .i64 0], .int .i64 v]) (by simp [results, Try.results19, go_sem , hc1, hf1, q1, q2]) rfl ⟨rfl, ?_⟩
  exact (by repeat (first | exact Below.refl _ _ | (refine Below.alloc ?_ (by first | omega | (simp; omega) | simp) _) | (refine Below.setCell ?_ (by first | omega | (simp; omega) | simp) _) | refine Below.drew ?_ | (refine below_via (by assumption) (by first | omega | (simp; omega) | simp) ?_)))

set_option maxHeartbeats 1000000 in
theorem refAfter_yes (s : Shop) (a : Option Addr) (len cap : Nat) (x : Option Addr) (xlen xcap : Nat) (ns : List Int) (w : World) (hp : PigsAt w a len s.pigs) (hx : IntsAt w x xlen ns) (hv : s.code ns = 0) :
    Calls Try.prog 19 #[.agg #[.int .i64 s.P, .int .i64 s.tl, .int .i64 s.th, .int .i64 s.al, .int .i64 s.ah, .int .i64 s.room, .int .i64 s.xl, .int .i64 s.xh, .int .i64 s.yl, .int .i64 s.yh, .slice a len cap], .slice x xlen xcap] w fun e w' => e = .returned (.tuple #[.agg (potCells s ns), .int .i64 0]) ∧ Below w.heap.size w w' := by
  obtain ⟨ho, hadd⟩ := Shop.code_yes hv
  obtain ⟨hl, hfew⟩ := Shop.isAdd_len hadd
  obtain rfl : len = xlen := by rw [← hp.1, ← hx.1, hl]
  have HT := Lib.hid (fun w1 (hb : Below w.heap.size w w1) => open_any s a len cap x len xcap ns w1 (hp.below hb) (hx.below hb) 0 hv)
  have HA := fun w1 (hb : Below w.heap.size w w1) => refAfterOf_any s a len cap x xcap ns w1 (hp.below hb) (hx.below hb) ho hfew
  unfold potCells at HA
  replace HA := Lib.hid HA
  clear hp hx hv ho hadd hl hfew
  generalize hn1 : s.P + tot Pig.P s.pigs ns = n1 at *
  generalize hn2 : s.tl + tot Pig.t s.pigs ns = n2 at *
  generalize hn3 : s.th + tot Pig.t s.pigs ns = n3 at *
  generalize hn4 : s.al + tot Pig.a s.pigs ns = n4 at *
  generalize hn5 : s.ah + tot Pig.a s.pigs ns = n5 at *
  have HR := Lib.hid (show potCells s ns = #[.int .i64 n1, .int .i64 n2, .int .i64 n3, .int .i64 n4, .int .i64 n5] by rw [← hn1, ← hn2, ← hn3, ← hn4, ← hn5]; rfl)
  clear hn1 hn2 hn3 hn4 hn5
  go_enter Try.func19, Try.ntmps19
  go_wp2_with fail
  refine (HT.out _ (by repeat (first | exact Below.refl _ _ | (refine Below.alloc ?_ (by first | omega | (simp; omega) | simp) _) | (refine Below.setCell ?_ (by first | omega | (simp; omega) | simp) _) | refine Below.drew ?_))).mono ?_
  rintro e w1 ⟨rfl, hb1⟩
  obtain ⟨hc1, hf1⟩ := bcell hb1
  have hz1 := hb1.size
  simp at hz1
  have HB := Lib.hid hb1
  have hbw : Below w.heap.size w w1 := ((by repeat (first | exact Below.refl _ _ | (refine Below.alloc ?_ (by first | omega | (simp; omega) | simp) _) | (refine Below.setCell ?_ (by first | omega | (simp; omega) | simp) _) | refine Below.drew ?_)) : Below w.heap.size w _).trans (hb1.mono (by simp; omega))
  clear hb1
  have q1 : w.heap.size + 1 < w1.heap.size := by omega
  have q2 : w.heap.size < w1.heap.size := by omega
  go_wp2_with fail
  refine (HA.out _ hbw).mono ?_
  rintro e w2 ⟨rfl, hb2⟩
  obtain ⟨hc2, hf2⟩ := bcell hb2
  have hz2 := hb2.size
  have HB2 := Lib.hid hb2
  clear hb2
  have q4 : w.heap.size + 1 < w2.heap.size := by omega
  have q5 : w.heap.size < w2.heap.size := by omega
  go_wp2_with fail
  refine bodyPost_ret (v := .tuple #[.agg #[.int .i64 n1, .int .i64 n2, .int .i64 n3, .int .i64 n4, .int .i64 n5], .int .i64 0]) (by simp [results, Try.results19, go_sem, hc2, hf2, hc1, hf1, q1, q2, q4, q5]) rfl ⟨by rw [HR.out], ?_⟩
  exact (by repeat (first | exact Below.refl _ _ | (refine Below.alloc ?_ (by first | omega | (simp; omega) | simp) _) | (refine Below.setCell ?_ (by first | omega | (simp; omega) | simp) _) | refine Below.drew ?_ | (refine below_via (by assumption) (by first | omega | (simp; omega) | simp) ?_)))
end Go.Proofs.Ytajabapcmpmboaa
