/- IsAddition of the reference. -/
import Derived.Test.YtojmimfjnnibdaaRD
import Derived.Test.YtojmimfjnnibdaaH
namespace Go.Proofs.Ytojmimfjnnibdaa
set_option linter.unusedVariables false
set_option linter.unusedSimpArgs false
open Go.RowKit

set_option maxHeartbeats 1000000 in
theorem refIsAddition_any (s : Shop) (a : Option Addr) (len cap : Nat) (x : Option Addr) (xlen xcap : Nat) (ns : List Int) (w : World) (hp : PigsAt w a len s.pigs) (hx : IntsAt w x xlen ns) (hok : s.ok = true) :
    Calls Try.prog 93 #[.agg #[.int .i64 s.P, .int .i64 s.tl, .int .i64 s.th, .int .i64 s.al, .int .i64 s.ah, .int .i64 s.room, .int .i64 s.xl, .int .i64 s.xh, .int .i64 s.yl, .int .i64 s.yh, .slice a len cap], .slice x xlen xcap] w fun e w' => e = .returned (.bool (s.isAdd ns)) ∧ Below w.heap.size w w' := by
  have hbd := Shop.ok_bd hok
  have hl4 : len ≤ 4 := by have := hp.1; omega
  by_cases hne : xlen = len
  · obtain rfl : len = xlen := hne.symm
    have HT := Lib.hid (fun (hf : s.fewB ns = true) w1 (hb : Below w.heap.size w w1) => ref_PoundsOf s a cap x len xcap ns w1 (hp.below hb) (hx.below hb) hl4 (s.few ns hok hf))
    have HR := Lib.hid (show ∀ b, s.fewB ns = b → s.isAdd ns = (b && s.room? ns) from fun b h => by simp [Shop.isAdd, h, hp.1, hx.1])
    have HBT := Lib.hid (fun (hf : s.fewB ns = true) => tot_all Pig.P bd_pounds s.pigs ns (s.few ns hok hf) hp.1 hx.1)
    have HRM := Lib.hid (show s.room? ns = decide (s.P + tot Pig.P s.pigs ns ≤ s.room) from rfl)
    obtain ⟨⟨p1, p2⟩, -⟩ := hbd
    obtain ⟨hl, hm, hc⟩ := hp
    obtain ⟨hxl, _, hxc⟩ := hx
    rcases Nat.eq_zero_or_pos len with h0 | h0
    · subst h0
      have hs : s.pigs = [] := List.length_eq_zero_iff.1 hl
      have HS := Lib.hid (show s.fewB ns = true by simp [Shop.fewB, hs]); clear hs hl hc hxl hxc
      go_enter Try.func93, Try.ntmps93
      go_wp2
      obtain ⟨W0, hW0, hB0, hz0, hbx⟩ := name_box w #[.int .i64 s.P, .int .i64 s.tl, .int .i64 s.th, .int .i64 s.al, .int .i64 s.ah, .int .i64 s.room, .int .i64 s.xl, .int .i64 s.xh, .int .i64 s.yl, .int .i64 s.yh, .slice a 0 cap] 28
      rw [hW0]
      clear hW0
      go_loopw [5] (fun i wr => i = .int .i64 0 ∧ Below W0.heap.size W0 wr) (fun _ _ => 0)
      case atStart => exact ⟨rfl, Below.refl _ _⟩
      case round =>
        obtain ⟨rfl, hB⟩ := hrel
        obtain ⟨hc, hf⟩ := bcell hB
        have hz := hB.size
        have hz2 : w.heap.size < wr.heap.size := by omega
        have hBw := hB0.trans (Below.mono hB hB0.size)
        obtain ⟨t1, t2⟩ := HBT.out HS.out
        have HT1 := Lib.hid (held2 hBw (HT.out HS.out))
        have HRM1 := HRM.out
        generalize tot Pig.P s.pigs ns = tp at *
        have HRM2 := Lib.hid HRM1
        clear HRM1
        have hw : IntKind.i64.wrap (s.P + tp) = s.P + tp := IntWalk.i64_in _ ⟨by omega, by omega⟩
        go_wp2_with fail
        go_region_held3 (fun w' => Below wr.heap.size wr w' ∧ ∀ b o, b < wr.heap.size → w'.cell? ⟨b, o, none⟩ = wr.cell? ⟨b, o, none⟩) (first | with_reducible assumption | exact ⟨(Below.refl _ _).drew, fun _ _ _ => rfl⟩)
          (first | (go_at_call 50; with_reducible refine (HT1.out _ ?_).mono ?_; (first | with_reducible assumption | exact ⟨(Below.refl _ _).drew, fun _ _ _ => rfl⟩); rintro e w' ⟨rfl, k⟩))
        have hh := ‹Below wr.heap.size wr _ ∧ _›
        go_wp2_with fail
        go_ret
        exact ⟨ret_bool (by rw [HR.out _ HS.out, Bool.true_and, HRM2.out]), hBw.trans (Below.mono hh.1 hBw.size)⟩
    · obtain ⟨b, o, rfl, hbB, hcell⟩ := hc h0
      obtain ⟨xb, xo, rfl, hxB, hxcell⟩ := hxc h0
      have HL := Lib.hid hl; clear hl hc
      have HX := Lib.hid hxl; clear hxl hxc
      go_enter Try.func93, Try.ntmps93
      go_wp2
      obtain ⟨W0, hW0, hB0, hz0, hbx⟩ := name_box w #[.int .i64 s.P, .int .i64 s.tl, .int .i64 s.th, .int .i64 s.al, .int .i64 s.ah, .int .i64 s.room, .int .i64 s.xl, .int .i64 s.xh, .int .i64 s.yl, .int .i64 s.yh, .slice (some ⟨b, o, none⟩) len cap] 28
      rw [hW0]
      clear hW0
      go_loopw [5] (fun i wr => ∃ k : Nat, k ≤ len ∧ i = .int .i64 k ∧ ((s.pigs.zip ns).take k).all (fun x => btw x.2 0 x.1.m) = true ∧ Below W0.heap.size W0 wr) (fun i _ => len - (intOf i).toNat)
      case atStart => exact ⟨0, by omega, rfl, by simp, Below.refl _ _⟩
      case round =>
        obtain ⟨k, hk, rfl, hall, hB⟩ := hrel
        have HA := Lib.hid hall; clear hall
        obtain ⟨hc, hf⟩ := bcell hB
        have hz := hB.size
        have hBw := hB0.trans (Below.mono hB hB0.size)
        by_cases hlt : k < len
        · have hk2 : k < s.pigs.length := by rw [HL.out]; exact hlt
          have hk3 : k < ns.length := by rw [HX.out]; exact hlt
          obtain ⟨c0, c1, c2, c3, c4⟩ := Pig.at_below hBw hbB (hcell k hk2)
          have cx := (hBw.cell (p := ⟨xb, _, none⟩) hxB).trans (hxcell k hk3)
          have HZ := Lib.hid (zip_snoc s.pigs ns k hk2 hk3)
          have HM := Lib.hid (show (s.pigs[k], ns[k]) ∈ s.pigs.zip ns by rw [← List.getElem_zip (h := by simp; omega)]; exact List.getElem_mem _)
          generalize s.pigs[k] = p at *
          generalize ns[k] = n at *
          rcases hpig : btw n 0 p.m with - | -
          · have hkl : (k : Int) < (len : Int) := by omega
            have hz2 : w.heap.size < wr.heap.size := by omega
            go_wp2_with fail
            go_quiet ((go_at_call 53; exact Calls.quiet_of_same ((Within_is _ _ _ _ hpig _).mono fun _ _ h => ⟨h.1, h.2.symm⟩)))
            go_wp2_with fail
            go_ret
            have hno : s.fewB ns = false := List.all_eq_false.2 ⟨_, HM.out, by simp [hpig]⟩
            exact ⟨ret_bool (by rw [HR.out _ hno]; rfl), hBw.trans (Go.Joins.below_draws _ _ _)⟩
          · have hkl : (k : Int) < (len : Int) := by omega
            have hz2 : w.heap.size < wr.heap.size := by omega
            go_wp2_with fail
            go_quiet ((go_at_call 53; exact Calls.quiet_of_same ((Within_is _ _ _ _ hpig _).mono fun _ _ h => ⟨h.1, h.2.symm⟩)))
            go_wp2_with fail
            go_roundw
            case rel => exact ⟨k + 1, by omega, by go_num, by rw [HZ.out, List.all_append, HA.out]; simp [hpig], hB.trans (Go.Joins.below_draws _ _ _)⟩
            case measure => simp [intOf]; omega
        · have hk' : k = len := by omega
          subst hk'
          have HS := Lib.hid (show s.fewB ns = true by have := HA.out; rw [List.take_of_length_le (by simp [HL.out, HX.out])] at this; exact this)
          have hz2 : w.heap.size < wr.heap.size := by omega
          obtain ⟨t1, t2⟩ := HBT.out HS.out
          have HT1 := Lib.hid (held2 hBw (HT.out HS.out))
          have HRM1 := HRM.out
          generalize tot Pig.P s.pigs ns = tp at *
          have HRM2 := Lib.hid HRM1
          clear HRM1
          have hw : IntKind.i64.wrap (s.P + tp) = s.P + tp := IntWalk.i64_in _ ⟨by omega, by omega⟩
          go_wp2_with fail
          go_region_held3 (fun w' => Below wr.heap.size wr w' ∧ ∀ b o, b < wr.heap.size → w'.cell? ⟨b, o, none⟩ = wr.cell? ⟨b, o, none⟩) (first | with_reducible assumption | exact ⟨(Below.refl _ _).drew, fun _ _ _ => rfl⟩)
            (first | (go_at_call 50; with_reducible refine (HT1.out _ ?_).mono ?_; (first | with_reducible assumption | exact ⟨(Below.refl _ _).drew, fun _ _ _ => rfl⟩); rintro e w' ⟨rfl, k⟩))
          have hh := ‹Below wr.heap.size wr _ ∧ _›
          go_wp2_with fail
          go_ret
          exact ⟨ret_bool (by rw [HR.out _ HS.out, Bool.true_and, HRM2.out]), hBw.trans (Below.mono hh.1 hBw.size)⟩
  · have HS := Lib.hid (show s.isAdd ns = false by have := hp.1; have := hx.1; simp [Shop.isAdd]; intro h; omega)
    have e1 : ((xlen : Int) == (len : Int)) = false := by simp; omega
    have e2 : ((xlen : Int) != (len : Int)) = true := by simp; omega
    go_enter Try.func93, Try.ntmps93
    go_wp2
    go_ret
    exact ⟨ret_bool HS.out.symm, (by repeat (first | exact Below.refl _ _ | (refine Below.alloc ?_ (by first | omega | (simp; omega) | simp) _) | (refine Below.setCell ?_ (by first | omega | (simp; omega) | simp) _) | refine Below.drew ?_))⟩
end Go.Proofs.Ytojmimfjnnibdaa
