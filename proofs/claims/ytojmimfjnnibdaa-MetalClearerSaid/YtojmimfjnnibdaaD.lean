/- Whether an addition has room, and what is asked of a list ahead of all else. -/
import Derived.Test.YtojmimfjnnibdaaC
namespace Go.Proofs.Ytojmimfjnnibdaa
set_option linter.unusedVariables false
set_option linter.unusedSimpArgs false
open Go.RowKit

/-- A box under a name. -/
theorem name_box (w : World) (cs : Array Value) (T : TypeId) : ∃ W0, w.alloc (.cells cs T) = W0 ∧ Below w.heap.size w W0 ∧ w.heap.size < W0.heap.size ∧ ∀ i, W0.cell? ⟨w.heap.size, i, none⟩ = cs[i]? :=
  ⟨_, rfl, (Below.refl _ _).alloc (Nat.le_refl _) _, by simp, fun i => by simp⟩
/-- A contract at each world that has kept what lay, in the words of a region. -/
theorem held_of {P : Program} {f : FuncId} {args : Array Value} {w W0 : World} {v : Value} (h0 : Below w.heap.size w W0) (h : ∀ w1, Below w.heap.size w w1 → Calls P f args w1 fun e w' => e = .returned v ∧ Below w1.heap.size w1 w')
    (w1 : World) (h1 : Below W0.heap.size W0 w1) : Calls P f args w1 fun e w' => e = .returned v ∧ Below W0.heap.size W0 w' ∧ ∀ b o, b < W0.heap.size → w'.cell? ⟨b, o, none⟩ = W0.cell? ⟨b, o, none⟩ :=
  (h w1 (h0.trans (h1.mono h0.size))).mono fun e w' ⟨he, hb⟩ => ⟨he, h1.trans (hb.mono h1.size), fun b o hbo => (h1.trans (hb.mono h1.size)).cell (p := ⟨b, o, none⟩) hbo⟩

def Shop.room? (s : Shop) (ns : List Int) : Bool := decide (s.P + tot Pig.P s.pigs ns ≤ s.room)
set_option maxHeartbeats 1000000 in
theorem hasRoom_any (s : Shop) (a : Option Addr) (cap : Nat) (x : Option Addr) (len xcap : Nat) (ns : List Int) (w : World) (hp : PigsAt w a len s.pigs) (hx : IntsAt w x len ns) (hl4 : len ≤ 4) (hf : Few s.pigs ns) (hP : 0 ≤ s.P ∧ s.P ≤ 400) :
    Calls Try.prog 111 #[.agg #[.int .i64 s.P, .int .i64 s.tl, .int .i64 s.th, .int .i64 s.al, .int .i64 s.ah, .int .i64 s.room, .int .i64 s.xl, .int .i64 s.xh, .int .i64 s.yl, .int .i64 s.yh, .slice a len cap], .slice x len xcap] w fun e w' => e = .returned (.bool (s.room? ns)) ∧ Below w.heap.size w w' := by
  have htb := tot_bd Pig.P bd_pounds s.pigs ns hf len (by rw [hp.1]; omega) (by rw [hx.1]; omega)
  rw [List.take_of_length_le (by rw [hp.1]; omega), List.take_of_length_le (by rw [hx.1]; omega)] at htb
  obtain ⟨t1, t2⟩ := htb
  obtain ⟨p1, p2⟩ := hP
  have HT := Lib.hid (fun w1 (hb : Below w.heap.size w w1) => total_pounds s a cap x len xcap ns w1 (hp.below hb) (hx.below hb) hl4 hf)
  have HR := Lib.hid (show s.room? ns = decide (s.P + tot Pig.P s.pigs ns ≤ s.room) from rfl)
  clear hp hx hf
  generalize tot Pig.P s.pigs ns = t at *
  go_enter Try.func111, Try.ntmps111
  go_wp2
  obtain ⟨W0, hW0, hB0, hz0, hbx⟩ := name_box w #[.int .i64 s.P, .int .i64 s.tl, .int .i64 s.th, .int .i64 s.al, .int .i64 s.ah, .int .i64 s.room, .int .i64 s.xl, .int .i64 s.xh, .int .i64 s.yl, .int .i64 s.yh, .slice a len cap] 78
  rw [hW0]
  clear hW0
  have HH := Lib.hid (held_of hB0 HT.out)
  have hw : IntKind.i64.wrap (s.P + t) = s.P + t := IntWalk.i64_in _ ⟨by omega, by omega⟩
  go_region_held3 (fun w' => Below W0.heap.size W0 w' ∧ ∀ b o, b < W0.heap.size → w'.cell? ⟨b, o, none⟩ = W0.cell? ⟨b, o, none⟩) (first | exact ⟨(Below.refl _ _).drew, fun _ _ _ => rfl⟩ | exact ⟨by assumption, by assumption⟩)
    (first | (go_at_call 84; refine (HH.out _ (by first | assumption | exact (Below.refl _ _).drew)).mono ?_; rintro e w' ⟨rfl, hb, hc⟩))
  go_wp2
  go_ret
  exact ⟨ret_bool HR.out.symm, hB0.trans (Below.mono (by assumption) hB0.size)⟩

def Shop.fewB (s : Shop) (ns : List Int) : Bool := (s.pigs.zip ns).all fun x => btw x.2 0 x.1.m
def Shop.isAdd (s : Shop) (ns : List Int) : Bool := decide (ns.length = s.pigs.length) && s.fewB ns && s.room? ns
theorem Shop.few (s : Shop) (ns : List Int) (h : s.ok = true) (hf : s.fewB ns = true) : Few s.pigs ns := by
  intro k h1 h2
  simp only [Shop.ok, Bool.and_eq_true] at h
  have hk := List.all_eq_true.1 h.2 _ (List.getElem_mem h1)
  have := List.all_eq_true.1 hf (s.pigs[k], ns[k]) (by rw [← List.getElem_zip (h := by simp; omega)]; exact List.getElem_mem _)
  simp [btw] at this
  exact ⟨hk, this.1, this.2⟩
theorem Shop.ok_bd {s : Shop} (h : s.ok = true) : (0 ≤ s.P ∧ s.P ≤ 400) ∧ (0 ≤ s.tl ∧ s.tl ≤ s.th) ∧ (0 ≤ s.al ∧ s.al ≤ s.ah) ∧ s.th + s.ah ≤ s.P ∧ (s.P ≤ s.room ∧ s.room ≤ 999) ∧ (0 ≤ s.xl ∧ s.xl ≤ s.xh ∧ s.xh ≤ 1000) ∧ (0 ≤ s.yl ∧ s.yl ≤ s.yh ∧ s.yh ≤ 1000) ∧ s.pigs.length ≤ 4 := by
  simp [Shop.ok, Shop.okH, potB, btw, spanB] at h; omega
theorem zip_snoc {α β : Type} (ps : List α) (ns : List β) (k : Nat) (h : k < ps.length) (h' : k < ns.length) : (ps.zip ns).take (k + 1) = (ps.zip ns).take k ++ [(ps[k], ns[k])] := by
  rw [List.take_succ_eq_append_getElem (by simp; omega), List.getElem_zip]

set_option maxHeartbeats 1000000 in
theorem isAddition_any (s : Shop) (a : Option Addr) (len cap : Nat) (x : Option Addr) (xlen xcap : Nat) (ns : List Int) (w : World) (hp : PigsAt w a len s.pigs) (hx : IntsAt w x xlen ns) (hok : s.ok = true) :
    Calls Try.prog 95 #[.agg #[.int .i64 s.P, .int .i64 s.tl, .int .i64 s.th, .int .i64 s.al, .int .i64 s.ah, .int .i64 s.room, .int .i64 s.xl, .int .i64 s.xh, .int .i64 s.yl, .int .i64 s.yh, .slice a len cap], .slice x xlen xcap] w fun e w' => e = .returned (.bool (s.isAdd ns)) ∧ Below w.heap.size w w' := by
  have hbd := Shop.ok_bd hok
  have hl4 : len ≤ 4 := by have := hp.1; omega
  by_cases hne : xlen = len
  · obtain rfl : len = xlen := hne.symm
    have HT := Lib.hid (fun (hf : s.fewB ns = true) w1 (hb : Below w.heap.size w w1) => hasRoom_any s a cap x len xcap ns w1 (hp.below hb) (hx.below hb) hl4 (s.few ns hok hf) hbd.1)
    have HR := Lib.hid (show ∀ b, s.fewB ns = b → s.isAdd ns = (b && s.room? ns) from fun b h => by simp [Shop.isAdd, h, hp.1, hx.1])
    have HB := Lib.hid hbd; clear hbd
    obtain ⟨hl, hm, hc⟩ := hp
    obtain ⟨hxl, _, hxc⟩ := hx
    rcases Nat.eq_zero_or_pos len with h0 | h0
    · subst h0
      have hs : s.pigs = [] := List.length_eq_zero_iff.1 hl
      have HS := Lib.hid (show s.fewB ns = true by simp [Shop.fewB, hs]); clear hs hl hc hxl hxc
      go_enter Try.func95, Try.ntmps95
      go_wp2
      obtain ⟨W0, hW0, hB0, hz0, hbx⟩ := name_box w #[.int .i64 s.P, .int .i64 s.tl, .int .i64 s.th, .int .i64 s.al, .int .i64 s.ah, .int .i64 s.room, .int .i64 s.xl, .int .i64 s.xh, .int .i64 s.yl, .int .i64 s.yh, .slice a 0 cap] 78
      rw [hW0]
      clear hW0
      go_loopw [16] (fun i wr => i = .int .i64 0 ∧ Below W0.heap.size W0 wr) (fun _ _ => 0)
      case atStart => exact ⟨rfl, Below.refl _ _⟩
      case round =>
        obtain ⟨rfl, hB⟩ := hrel
        obtain ⟨hc, hf⟩ := bcell hB
        go_wp2_with (go_at_call 111; refine (HT.out HS.out _ (hB0.trans (Below.mono hB hB0.size))).mono ?_; rintro e w' ⟨rfl, hb⟩)
        go_ret
        exact ⟨ret_bool (by rw [HR.out _ HS.out, Bool.true_and]), (hB0.trans (Below.mono hB hB0.size)).trans (hb.mono (Nat.le_trans hB0.size hB.size))⟩
    · obtain ⟨b, o, rfl, hbB, hcell⟩ := hc h0
      obtain ⟨xb, xo, rfl, hxB, hxcell⟩ := hxc h0
      have HL := Lib.hid hl; clear hl hc
      have HX := Lib.hid hxl; clear hxl hxc
      go_enter Try.func95, Try.ntmps95
      go_wp2
      obtain ⟨W0, hW0, hB0, hz0, hbx⟩ := name_box w #[.int .i64 s.P, .int .i64 s.tl, .int .i64 s.th, .int .i64 s.al, .int .i64 s.ah, .int .i64 s.room, .int .i64 s.xl, .int .i64 s.xh, .int .i64 s.yl, .int .i64 s.yh, .slice (some ⟨b, o, none⟩) len cap] 78
      rw [hW0]
      clear hW0
      go_loopw [16] (fun i wr => ∃ k : Nat, k ≤ len ∧ i = .int .i64 k ∧ ((s.pigs.zip ns).take k).all (fun x => btw x.2 0 x.1.m) = true ∧ Below W0.heap.size W0 wr) (fun i _ => len - (intOf i).toNat)
      case atStart => exact ⟨0, by omega, rfl, by simp, Below.refl _ _⟩
      case round =>
        obtain ⟨k, hk, rfl, hall, hB⟩ := hrel
        have HA := Lib.hid hall; clear hall
        obtain ⟨hc, hf⟩ := bcell hB
        have hz := hB.size
        have hBw := hB0.trans (Below.mono hB hB0.size)
        by_cases hlt : k < len
        · have hk2 : k < s.pigs.length := by rw [HL.out]; exact hlt
          have hk3 : k < ns.length := by rw [HX.out]; exact hlt
          obtain ⟨c0, c1, c2, c3, c4⟩ := Pig.at_below hBw hbB (hcell k hk2)
          have cx := (hBw.cell (p := ⟨xb, _, none⟩) hxB).trans (hxcell k hk3)
          have HZ := Lib.hid (zip_snoc s.pigs ns k hk2 hk3)
          have HM := Lib.hid (show (s.pigs[k], ns[k]) ∈ s.pigs.zip ns by rw [← List.getElem_zip (h := by simp; omega)]; exact List.getElem_mem _)
          generalize s.pigs[k] = p at *
          generalize ns[k] = n at *
          rcases hpig : btw n 0 p.m with - | -
          · go_wp2_with (go_at_call 110; with_reducible refine (between_is _ _ _ _ hpig _).mono ?_; rintro e w4 ⟨rfl, rfl⟩)
            go_ret
            have hno : s.fewB ns = false := List.all_eq_false.2 ⟨_, HM.out, by simp [hpig]⟩
            exact ⟨ret_bool (by rw [HR.out _ hno]; rfl), hBw⟩
          · go_wp2_with (go_at_call 110; with_reducible refine (between_is _ _ _ _ hpig _).mono ?_; rintro e w4 ⟨rfl, rfl⟩)
            go_roundw
            case rel => exact ⟨k + 1, by omega, by go_num, by rw [HZ.out, List.all_append, HA.out]; simp [hpig], hB⟩
            case measure => simp [intOf]; omega
        · have hk' : k = len := by omega
          subst hk'
          have HS := Lib.hid (show s.fewB ns = true by have := HA.out; rw [List.take_of_length_le (by simp [HL.out, HX.out])] at this; exact this)
          go_wp2_with (go_at_call 111; refine (HT.out HS.out _ hBw).mono ?_; rintro e w' ⟨rfl, hb⟩)
          go_ret
          exact ⟨ret_bool (by rw [HR.out _ HS.out, Bool.true_and]), hBw.trans (hb.mono hBw.size)⟩
  · have HS := Lib.hid (show s.isAdd ns = false by have := hp.1; have := hx.1; simp [Shop.isAdd]; intro h; omega)
    have e1 : ((xlen : Int) == (len : Int)) = false := by simp; omega
    have e2 : ((xlen : Int) != (len : Int)) = true := by simp; omega
    go_enter Try.func95, Try.ntmps95
    go_wp2
    go_ret
    exact ⟨ret_bool HS.out.symm, (by repeat (first | exact Below.refl _ _ | (refine Below.alloc ?_ (by first | omega | (simp; omega) | simp) _) | (refine Below.setCell ?_ (by first | omega | (simp; omega) | simp) _) | refine Below.drew ?_))⟩
end Go.Proofs.Ytojmimfjnnibdaa
