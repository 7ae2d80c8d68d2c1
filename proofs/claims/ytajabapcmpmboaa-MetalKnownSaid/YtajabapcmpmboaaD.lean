/- D E F, joined. -/
import Derived.Test.YtajabapcmpmboaaA
import Derived.Deep.RegionWith
import Derived.Deep.DeepCutAuto
/- Whether an addition has room, and what is asked of a list ahead of all else. -/
namespace Go.Proofs.Ytajabapcmpmboaa
set_option linter.unusedVariables false
set_option linter.unusedSimpArgs false
open Go.RowKit

/-- A box under a name. -/
theorem name_box (w : World) (cs : Array Value) (T : TypeId) : ∃ W0, w.alloc (.cells cs T) = W0 ∧ Below w.heap.size w W0 ∧ w.heap.size < W0.heap.size ∧ ∀ i, W0.cell? ⟨w.heap.size, i, none⟩ = cs[i]? :=
  ⟨_, rfl, (Below.refl _ _).alloc (Nat.le_refl _) _, by simp, fun i => by simp⟩
/-- A contract at each world that has kept what lay, in the words of a region. -/
theorem held_of {P : Program} {f : FuncId} {args : Array Value} {w W0 : World} {v : Value} (h0 : Below w.heap.size w W0) (h : ∀ w1, Below w.heap.size w w1 → Calls P f args w1 fun e w' => e = .returned v ∧ Below w1.heap.size w1 w')
    (w1 : World) (h1 : Below W0.heap.size W0 w1) : Calls P f args w1 fun e w' => e = .returned v ∧ Below W0.heap.size W0 w' ∧ ∀ b o, b < W0.heap.size → w'.cell? ⟨b, o, none⟩ = W0.cell? ⟨b, o, none⟩ :=
  (h w1 (h0.trans (h1.mono h0.size))).mono fun e w' ⟨he, hb⟩ => ⟨he, h1.trans (hb.mono h1.size), fun b o hbo => (h1.trans (hb.mono h1.size)).cell (p := ⟨b, o, none⟩) hbo⟩

def Shop.room? (s : Shop) (ns : List Int) : Bool := decide (s.P + tot Pig.P s.pigs ns ≤ s.room)
set_option maxHeartbeats 1000000 in
theorem hasRoom_any (s : Shop) (a : Option Addr) (cap : Nat) (x : Option Addr) (len xcap : Nat) (ns : List Int) (w : World) (hp : PigsAt w a len s.pigs) (hx : IntsAt w x len ns) (hl4 : len ≤ 4) (hf : Few s.pigs ns) (hP : 0 ≤ s.P ∧ s.P ≤ 400) :
    Calls Try.prog 111 #[.agg #[.int .i64 s.P, .int .i64 s.tl, .int .i64 s.th, .int .i64 s.al, .int .i64 s.ah, .int .i64 s.room, .int .i64 s.xl, .int .i64 s.xh, .int .i64 s.yl, .int .i64 s.yh, .slice a len cap], .slice x len xcap] w fun e w' => e = .returned (.bool (s.room? ns)) ∧ Below w.heap.size w w' := by
  have htb := tot_bd Pig.P bd_pounds s.pigs ns hf len (by rw [hp.1]; omega) (by rw [hx.1]; omega)
  rw [List.take_of_length_le (by rw [hp.1]; omega), List.take_of_length_le (by rw [hx.1]; omega)] at htb
  obtain ⟨t1, t2⟩ := htb
  obtain ⟨p1, p2⟩ := hP
  have HT := Lib.hid (fun w1 (hb : Below w.heap.size w w1) => total_pounds s a cap x len xcap ns w1 (hp.below hb) (hx.below hb) hl4 hf)
  have HR := Lib.hid (show s.room? ns = decide (s.P + tot Pig.P s.pigs ns ≤ s.room) from rfl)
  clear hp hx hf
  generalize tot Pig.P s.pigs ns = t at *
  go_enter Try.func111, Try.ntmps111
  go_wp2
  obtain ⟨W0, hW0, hB0, hz0, hbx⟩ := name_box w #[.int .i64 s.P, .int .i64 s.tl, .int .i64 s.th, .int .i64 s.al, .int .i64 s.ah, .int .i64 s.room, .int .i64 s.xl, .int .i64 s.xh, .int .i64 s.yl, .int .i64 s.yh, .slice a len cap] 78
  rw [hW0]
  clear hW0
  have HH := Lib.hid (held_of hB0 HT.out)
  have hw : IntKind.i64.wrap (s.P + t) = s.P + t := IntWalk.i64_in _ ⟨by omega, by omega⟩
  go_region_held3 (fun w' => Below W0.heap.size W0 w' ∧ ∀ b o, b < W0.heap.size → w'.cell? ⟨b, o, none⟩ = W0.cell? ⟨b, o, none⟩) (first | exact ⟨(Below.refl _ _).drew, fun _ _ _ => rfl⟩ | exact ⟨by assumption, by assumption⟩)
    (first | (go_at_call 84; refine (HH.out _ (by first | assumption | exact (Below.refl _ _).drew)).mono ?_; rintro e w' ⟨rfl, hb, hc⟩))
  go_wp2
  go_ret
  exact ⟨ret_bool HR.out.symm, hB0.trans (Below.mono (by assumption) hB0.size)⟩

def Shop.fewB (s : Shop) (ns : List Int) : Bool := (s.pigs.zip ns).all fun x => btw x.2 0 x.1.m
def Shop.isAdd (s : Shop) (ns : List Int) : Bool := decide (ns.length = s.pigs.length) && s.fewB ns && s.room? ns
theorem Shop.few (s : Shop) (ns : List Int) (h : s.ok = true) (hf : s.fewB ns = true) : Few s.pigs ns := by
  intro k h1 h2
  simp only [Shop.ok, Bool.and_eq_true] at h
  have hk := List.all_eq_true.1 h.2 _ (List.getElem_mem h1)
  have := List.all_eq_true.1 hf (s.pigs[k], ns[k]) (by rw [← List.getElem_zip (h := by simp; omega)]; exact List.getElem_mem _)
  simp [btw] at this
  exact ⟨hk, this.1, this.2⟩
theorem Shop.ok_bd {s : Shop} (h : s.ok = true) : (0 ≤ s.P ∧ s.P ≤ 400) ∧ (0 ≤ s.tl ∧ s.tl ≤ s.th) ∧ (0 ≤ s.al ∧ s.al ≤ s.ah) ∧ s.th + s.ah ≤ s.P ∧ (s.P ≤ s.room ∧ s.room ≤ 999) ∧ (0 ≤ s.xl ∧ s.xl ≤ s.xh ∧ s.xh ≤ 1000) ∧ (0 ≤ s.yl ∧ s.yl ≤ s.yh ∧ s.yh ≤ 1000) ∧ s.pigs.length ≤ 4 := by
  simp [Shop.ok, Shop.okH, potB, btw, spanB] at h; omega
theorem zip_snoc {α β : Type} (ps : List α) (ns : List β) (k : Nat) (h : k < ps.length) (h' : k < ns.length) : (ps.zip ns).take (k + 1) = (ps.zip ns).take k ++ [(ps[k], ns[k])] := by
  rw [List.take_succ_eq_append_getElem (by simp; omega), List.getElem_zip]

set_option maxHeartbeats 1000000 in
theorem isAddition_any (s : Shop) (a : Option Addr) (len cap : Nat) (x : Option Addr) (xlen xcap : Nat) (ns : List Int) (w : World) (hp : PigsAt w a len s.pigs) (hx : IntsAt w x xlen ns) (hok : s.ok = true) :
    Calls Try.prog 95 #[.agg #[.int .i64 s.P, .int .i64 s.tl, .int .i64 s.th, .int .i64 s.al, .int .i64 s.ah, .int .i64 s.room, .int .i64 s.xl, .int .i64 s.xh, .int .i64 s.yl, .int .i64 s.yh, .slice a len cap], .slice x xlen xcap] w fun e w' => e = .returned (.bool (s.isAdd ns)) ∧ Below w.heap.size w w' := by
  have hbd := Shop.ok_bd hok
  have hl4 : len ≤ 4 := by have := hp.1; omega
  by_cases hne : xlen = len
  · obtain rfl : len = xlen := hne.symm
    have HT := Lib.hid (fun (hf : s.fewB ns = true) w1 (hb : Below w.heap.size w w1) => hasRoom_any s a cap x len xcap ns w1 (hp.below hb) (hx.below hb) hl4 (s.few ns hok hf) hbd.1)
    have HR := Lib.hid (show ∀ b, s.fewB ns = b → s.isAdd ns = (b && s.room? ns) from fun b h => by simp [Shop.isAdd, h, hp.1, hx.1])
    have HB := Lib.hid hbd; clear hbd
    obtain ⟨hl, hm, hc⟩ := hp
    obtain ⟨hxl, _, hxc⟩ := hx
    rcases Nat.eq_zero_or_pos len with h0 | h0
    · subst h0
      have hs : s.pigs = [] := List.length_eq_zero_iff.1 hl
      have HS := Lib.hid (show s.fewB ns = true by simp [Shop.fewB, hs]); clear hs hl hc hxl hxc
      go_enter Try.func95, Try.ntmps95
      go_wp2
      obtain ⟨W0, hW0, hB0, hz0, hbx⟩ := name_box w #[.int .i64 s.P, .int .i64 s.tl, .int .i64 s.th, .int .i64 s.al, .int .i64 s.ah, .int .i64 s.room, .int .i64 s.xl, .int .i64 s.xh, .int .i64 s.yl, .int .i64 s.yh, .slice a 0 cap] 78
      rw [hW0]
      clear hW0
      go_loopw [16] (fun i wr => i = .int .i64 0 ∧ Below W0.heap.size W0 wr) (fun _ _ => 0)
      case atStart => exact ⟨rfl, Below.refl _ _⟩
      case round =>
        obtain ⟨rfl, hB⟩ := hrel
        obtain ⟨hc, hf⟩ := bcell hB
        go_wp2_with (go_at_call 111; refine (HT.out HS.out _ (hB0.trans (Below.mono hB hB0.size))).mono ?_; rintro e w' ⟨rfl, hb⟩)
        go_ret
        exact ⟨ret_bool (by rw [HR.out _ HS.out, Bool.true_and]), (hB0.trans (Below.mono hB hB0.size)).trans (hb.mono (Nat.le_trans hB0.size hB.size))⟩
    · obtain ⟨b, o, rfl, hbB, hcell⟩ := hc h0
      obtain ⟨xb, xo, rfl, hxB, hxcell⟩ := hxc h0
      have HL := Lib.hid hl; clear hl hc
      have HX := Lib.hid hxl; clear hxl hxc
      go_enter Try.func95, Try.ntmps95
      go_wp2
      obtain ⟨W0, hW0, hB0, hz0, hbx⟩ := name_box w #[.int .i64 s.P, .int .i64 s.tl, .int .i64 s.th, .int .i64 s.al, .int .i64 s.ah, .int .i64 s.room, .int .i64 s.xl, .int .i64 s.xh, .int .i64 s.yl, .int .i64 s.yh, .slice (some ⟨b, o, none⟩) len cap] 78
      rw [hW0]
      clear hW0
      go_loopw [16] (fun i wr => ∃ k : Nat, k ≤ len ∧ i = .int .i64 k ∧ ((s.pigs.zip ns).take k).all (fun x => btw x.2 0 x.1.m) = true ∧ Below W0.heap.size W0 wr) (fun i _ => len - (intOf i).toNat)
      case atStart => exact ⟨0, by omega, rfl, by simp, Below.refl _ _⟩
      case round =>
        obtain ⟨k, hk, rfl, hall, hB⟩ := hrel
        have HA := Lib.hid hall; clear hall
        obtain ⟨hc, hf⟩ := bcell hB
        have hz := hB.size
        have hBw := hB0.trans (Below.mono hB hB0.size)
        by_cases hlt : k < len
        · have hk2 : k < s.pigs.length := by rw [HL.out]; exact hlt
          have hk3 : k < ns.length := by rw [HX.out]; exact hlt
          obtain ⟨c0, c1, c2, c3, c4⟩ := Pig.at_below hBw hbB (hcell k hk2)
          have cx := (hBw.cell (p := ⟨xb, _, none⟩) hxB).trans (hxcell k hk3)
          have HZ := Lib.hid (zip_snoc s.pigs ns k hk2 hk3)
          have HM := Lib.hid (show (s.pigs[k], ns[k]) ∈ s.pigs.zip ns by rw [← List.getElem_zip (h := by simp; omega)]; exact List.getElem_mem _)
          generalize s.pigs[k] = p at *
          generalize ns[k] = n at *
          rcases hpig : btw n 0 p.m with - | -
          · go_wp2_with (go_at_call 110; with_reducible refine (between_is _ _ _ _ hpig _).mono ?_; rintro e w4 ⟨rfl, rfl⟩)
            go_ret
            have hno : s.fewB ns = false := List.all_eq_false.2 ⟨_, HM.out, by simp [hpig]⟩
            exact ⟨ret_bool (by rw [HR.out _ hno]; rfl), hBw⟩
          · go_wp2_with (go_at_call 110; with_reducible refine (between_is _ _ _ _ hpig _).mono ?_; rintro e w4 ⟨rfl, rfl⟩)
            go_roundw
            case rel => exact ⟨k + 1, by omega, by go_num, by rw [HZ.out, List.all_append, HA.out]; simp [hpig], hB⟩
            case measure => simp [intOf]; omega
        · have hk' : k = len := by omega
          subst hk'
          have HS := Lib.hid (show s.fewB ns = true by have := HA.out; rw [List.take_of_length_le (by simp [HL.out, HX.out])] at this; exact this)
          go_wp2_with (go_at_call 111; refine (HT.out HS.out _ hBw).mono ?_; rintro e w' ⟨rfl, hb⟩)
          go_ret
          exact ⟨ret_bool (by rw [HR.out _ HS.out, Bool.true_and]), hBw.trans (hb.mono hBw.size)⟩
  · have HS := Lib.hid (show s.isAdd ns = false by have := hp.1; have := hx.1; simp [Shop.isAdd]; intro h; omega)
    have e1 : ((xlen : Int) == (len : Int)) = false := by simp; omega
    have e2 : ((xlen : Int) != (len : Int)) = true := by simp; omega
    go_enter Try.func95, Try.ntmps95
    go_wp2
    go_ret
    exact ⟨ret_bool HS.out.symm, (by repeat (first | exact Below.refl _ _ | (refine Below.alloc ?_ (by first | omega | (simp; omega) | simp) _) | (refine Below.setCell ?_ (by first | omega | (simp; omega) | simp) _) | refine Below.drew ?_))⟩
end Go.Proofs.Ytajabapcmpmboaa

/- The pot with an addition; what is asked of a list ahead of all else. -/
namespace Go.Proofs.Ytajabapcmpmboaa
set_option linter.unusedVariables false
set_option linter.unusedSimpArgs false
open Go.RowKit

/-- What a cell holds, whatever it is. -/
def cellVal (w : World) (B i : Nat) : Value := (w.cell? ⟨B, i, none⟩).getD undef
theorem cellVal_of {w : World} {B i : Nat} (h : (w.cell? ⟨B, i, none⟩).isSome = true) : w.cell? ⟨B, i, none⟩ = some (cellVal w B i) := by
  unfold cellVal; cases h' : w.cell? ⟨B, i, none⟩ <;> simp_all
theorem cells_set {w : World} {B n : Nat} (h : ∀ i, i < n → w.cell? ⟨B, i, none⟩ = some (cellVal w B i)) (p : Addr) (v : Value) : ∀ i, i < n → (w.setCell p v).cell? ⟨B, i, none⟩ = some (cellVal (w.setCell p v) B i) := by
  intro i hi
  refine cellVal_of ?_
  obtain ⟨u, hu⟩ := cell?_setCell_some (w := w) (p := p) (x := v) (h i hi)
  rw [hu]; rfl
theorem isAddition_is (s : Shop) (a : Option Addr) (len cap : Nat) (x : Option Addr) (xlen xcap : Nat) (ns : List Int) (w : World) (hp : PigsAt w a len s.pigs) (hx : IntsAt w x xlen ns) (hok : s.ok = true) (b : Bool) (h : s.isAdd ns = b) :
    Calls Try.prog 95 #[.agg #[.int .i64 s.P, .int .i64 s.tl, .int .i64 s.th, .int .i64 s.al, .int .i64 s.ah, .int .i64 s.room, .int .i64 s.xl, .int .i64 s.xh, .int .i64 s.yl, .int .i64 s.yh, .slice a len cap], .slice x xlen xcap] w fun e w' => e = .returned (.bool b) ∧ Below w.heap.size w w' := h ▸ isAddition_any s a len cap x xlen xcap ns w hp hx hok
theorem ret_aggs {a b : Array Value} (h : a = b) : Ending.returned (.agg a) = .returned (.agg b) := by rw [h]
theorem tot_all (f : Pig → Int) (hfb : ∀ p : Pig, p.ok = true → 0 ≤ f p ∧ f p ≤ 99) (ps : List Pig) (ns : List Int) (h : Few ps ns) {len : Nat} (h1 : ps.length = len) (h2 : ns.length = len) : 0 ≤ tot f ps ns ∧ tot f ps ns ≤ 500 * len := by
  have := tot_bd f hfb ps ns h len (by omega) (by omega)
  rwa [List.take_of_length_le (by omega), List.take_of_length_le (by omega)] at this
theorem below_ex2 {P : Program} {f : FuncId} {args : Array Value} {w : World} {o1 o2 : Obj} {v : Value} (h : Calls P f args w fun e w' => e = .returned v ∧ (w.alloc o1).alloc o2 = w') : Calls P f args w fun e w' => e = .returned v ∧ Below w.heap.size w w' :=
  h.mono fun e w' ⟨he, hw⟩ => ⟨he, by subst hw; exact (by repeat (first | exact Below.refl _ _ | (refine Below.alloc ?_ (by first | omega | (simp; omega) | simp) _) | (refine Below.setCell ?_ (by first | omega | (simp; omega) | simp) _) | refine Below.drew ?_))⟩
def potCells (s : Shop) (ns : List Int) : Array Value := #[.int .i64 (s.P + tot Pig.P s.pigs ns), .int .i64 (s.tl + tot Pig.t s.pigs ns), .int .i64 (s.th + tot Pig.t s.pigs ns), .int .i64 (s.al + tot Pig.a s.pigs ns), .int .i64 (s.ah + tot Pig.a s.pigs ns)]

set_option maxHeartbeats 1000000 in
theorem asked_any (s : Shop) (a : Option Addr) (len cap : Nat) (x : Option Addr) (xlen xcap : Nat) (ns : List Int) (w : World) (hp : PigsAt w a len s.pigs) (hx : IntsAt w x xlen ns) (v : Int) (hv : (if s.ok then (if s.isAdd ns then 0 else 1) else 10) = v) :
    Calls Try.prog 68 #[.agg #[.int .i64 s.P, .int .i64 s.tl, .int .i64 s.th, .int .i64 s.al, .int .i64 s.ah, .int .i64 s.room, .int .i64 s.xl, .int .i64 s.xh, .int .i64 s.yl, .int .i64 s.yh, .slice a len cap], .slice x xlen xcap] w fun e w' => e = .returned (.int .i64 v) ∧ Below w.heap.size w w' := by
  have HT := Lib.hid (fun b (hb : s.ok = b) w1 (hb1 : Below w.heap.size w w1) => valid_is s a len cap b hb w1 (hp.below hb1))
  have HA := Lib.hid (fun hok b (hb : s.isAdd ns = b) w1 (hb1 : Below w.heap.size w w1) => isAddition_is s a len cap x xlen xcap ns w1 (hp.below hb1) (hx.below hb1) hok b hb)
  clear hp hx
  rcases h : s.ok with - | -
  · rw [h] at hv; simp at hv; subst hv
    have HS := Lib.hid h; clear h
    go_enter Try.func68, Try.ntmps68
    go_wp2_with fail
    obtain ⟨W0, hW0, hB0, hz0, hbx⟩ := name_box w #[.int .i64 s.P, .int .i64 s.tl, .int .i64 s.th, .int .i64 s.al, .int .i64 s.ah, .int .i64 s.room, .int .i64 s.xl, .int .i64 s.xh, .int .i64 s.yl, .int .i64 s.yh, .slice a len cap] 78
    rw [hW0]
    clear hW0
    refine (HT.out _ HS.out _ hB0).mono ?_
    rintro e w1 ⟨rfl, hb1⟩
    go_wp2_with fail
    go_ret
    exact ⟨rfl, hB0.trans (hb1.mono hB0.size)⟩
  · have HS := Lib.hid h
    rcases h2 : s.isAdd ns with - | - <;> rw [h, h2] at hv <;> simp at hv <;> subst hv
    all_goals have HS2 := Lib.hid h2
    all_goals clear h h2
    all_goals go_enter Try.func68, Try.ntmps68
    all_goals go_wp2_with fail
    all_goals obtain ⟨W0, hW0, hB0, hz0, hbx⟩ := name_box w #[.int .i64 s.P, .int .i64 s.tl, .int .i64 s.th, .int .i64 s.al, .int .i64 s.ah, .int .i64 s.room, .int .i64 s.xl, .int .i64 s.xh, .int .i64 s.yl, .int .i64 s.yh, .slice a len cap] 78
    all_goals rw [hW0]
    all_goals clear hW0
    all_goals refine (HT.out _ HS.out _ hB0).mono ?_
    all_goals rintro e w1 ⟨rfl, hb1⟩
    all_goals obtain ⟨hc1, hf1⟩ := bcell hb1
    all_goals have hz1 := hb1.size
    all_goals have hbw := hB0.trans (hb1.mono hB0.size)
    all_goals go_wp2_with fail
    all_goals refine (HA.out HS.out _ HS2.out _ hbw).mono ?_
    all_goals rintro e w2 ⟨rfl, hb2⟩
    all_goals go_wp2_with fail
    all_goals go_ret
    all_goals exact ⟨rfl, hbw.trans (hb2.mono hbw.size)⟩

/-- A box and a block of five for the result, under a name. -/
theorem name_res (w : World) (cs : Array Value) (T U : TypeId) : ∃ W0, (w.alloc (.cells cs T)).alloc (.cells #[.int .i64 0, .int .i64 0, .int .i64 0, .int .i64 0, .int .i64 0] U) = W0 ∧ Below w.heap.size w W0 ∧ (∀ i, W0.cell? ⟨w.heap.size, i, none⟩ = cs[i]?) ∧ Below (w.heap.size + 1) W0 W0 ∧ (∀ b o, b < w.heap.size + 1 → (W0).cell? ⟨b, o, none⟩ = W0.cell? ⟨b, o, none⟩) ∧ (∀ i, i < 5 → (W0).cell? ⟨w.heap.size + 1, i, none⟩ = some (cellVal W0 (w.heap.size + 1) i)) ∧ (∀ i, i < 5 → (W0).frozen? ⟨w.heap.size + 1, i, none⟩ = false) ∧ w.heap.size + 1 < (W0).heap.size := by
  refine ⟨_, rfl, (by repeat (first | exact Below.refl _ _ | (refine Below.alloc ?_ (by first | omega | (simp; omega) | simp) _) | (refine Below.setCell ?_ (by first | omega | (simp; omega) | simp) _) | refine Below.drew ?_)), fun i => by simp, Below.refl _ _, fun _ _ _ => rfl, fun i hi => cellVal_of ?_, fun i hi => by simp, by simp⟩
  match i, hi with
  | 0, _ => simp
  | 1, _ => simp
  | 2, _ => simp
  | 3, _ => simp
  | 4, _ => simp
theorem res_set {w W0 w1 : World} (j : Nat) (v : Value) (h1 : Below (w.heap.size + 1) W0 w1 ∧ (∀ b o, b < w.heap.size + 1 → (w1).cell? ⟨b, o, none⟩ = W0.cell? ⟨b, o, none⟩) ∧ (∀ i, i < 5 → (w1).cell? ⟨w.heap.size + 1, i, none⟩ = some (cellVal w1 (w.heap.size + 1) i)) ∧ (∀ i, i < 5 → (w1).frozen? ⟨w.heap.size + 1, i, none⟩ = false) ∧ w.heap.size + 1 < (w1).heap.size) : Below (w.heap.size + 1) W0 (w1.setCell ⟨w.heap.size + 1, j, none⟩ v) ∧ (∀ b o, b < w.heap.size + 1 → ((w1.setCell ⟨w.heap.size + 1, j, none⟩ v)).cell? ⟨b, o, none⟩ = W0.cell? ⟨b, o, none⟩) ∧ (∀ i, i < 5 → ((w1.setCell ⟨w.heap.size + 1, j, none⟩ v)).cell? ⟨w.heap.size + 1, i, none⟩ = some (cellVal (w1.setCell ⟨w.heap.size + 1, j, none⟩ v) (w.heap.size + 1) i)) ∧ (∀ i, i < 5 → ((w1.setCell ⟨w.heap.size + 1, j, none⟩ v)).frozen? ⟨w.heap.size + 1, i, none⟩ = false) ∧ w.heap.size + 1 < ((w1.setCell ⟨w.heap.size + 1, j, none⟩ v)).heap.size := by
  obtain ⟨a1, a2, a3, a4, a5⟩ := h1
  refine ⟨a1.setCell (by simp) _, fun b o hb => ?_, cells_set a3 _ _, fun i hi => (World.frozen?_setCell _ _ _ _).trans (a4 i hi), by simpa [World.setCell] using a5⟩
  exact (World.cell?_of_block (Below.heap_setCell w1 _ v b (by simp; omega))).trans (a2 b o hb)
theorem set5 {w1 : World} {B : Nat} (h : ∀ i, i < 5 → w1.cell? ⟨B, i, none⟩ = some (cellVal w1 B i)) (v0 v1 v2 v3 v4 : Value) :
    let W := ((((w1.setCell ⟨B, 0, none⟩ v0).setCell ⟨B, 1, none⟩ v1).setCell ⟨B, 2, none⟩ v2).setCell ⟨B, 3, none⟩ v3).setCell ⟨B, 4, none⟩ v4
    W.cell? ⟨B, 0, none⟩ = some v0 ∧ W.cell? ⟨B, 1, none⟩ = some v1 ∧ W.cell? ⟨B, 2, none⟩ = some v2 ∧ W.cell? ⟨B, 3, none⟩ = some v3 ∧ W.cell? ⟨B, 4, none⟩ = some v4 := by
  have h0 := h 0 (by omega)
  have h1 := h 1 (by omega)
  have h2 := h 2 (by omega)
  have h3 := h 3 (by omega)
  have h4 := h 4 (by omega)
  clear h
  go_simp
theorem held_res {P : Program} {f : FuncId} {args : Array Value} {w W0 : World} {v : Value} (h0 : Below w.heap.size w W0) (h : ∀ w1, Below w.heap.size w w1 → Calls P f args w1 fun e w' => e = .returned v ∧ Below w1.heap.size w1 w')
    (w1 : World) (h1 : Below (w.heap.size + 1) W0 w1 ∧ (∀ b o, b < w.heap.size + 1 → (w1).cell? ⟨b, o, none⟩ = W0.cell? ⟨b, o, none⟩) ∧ (∀ i, i < 5 → (w1).cell? ⟨w.heap.size + 1, i, none⟩ = some (cellVal w1 (w.heap.size + 1) i)) ∧ (∀ i, i < 5 → (w1).frozen? ⟨w.heap.size + 1, i, none⟩ = false) ∧ w.heap.size + 1 < (w1).heap.size) : Calls P f args w1 fun e w' => e = .returned v ∧ Below (w.heap.size + 1) W0 w' ∧ (∀ b o, b < w.heap.size + 1 → (w').cell? ⟨b, o, none⟩ = W0.cell? ⟨b, o, none⟩) ∧ (∀ i, i < 5 → (w').cell? ⟨w.heap.size + 1, i, none⟩ = some (cellVal w' (w.heap.size + 1) i)) ∧ (∀ i, i < 5 → (w').frozen? ⟨w.heap.size + 1, i, none⟩ = false) ∧ w.heap.size + 1 < (w').heap.size := by
  obtain ⟨a1, a2, a3, a4, a5⟩ := h1
  refine (h w1 (h0.trans (a1.mono (by omega)))).mono fun e w' ⟨he, hb⟩ => ⟨he, a1.trans (hb.mono (by omega)), fun b o hbo => (hb.cell (p := ⟨b, o, none⟩) (show b < _ by omega)).trans (a2 b o hbo), fun i hi => cellVal_of ?_, fun i hi => (hb.frozen (p := ⟨_, i, none⟩) a5).trans (a4 i hi), Nat.lt_of_lt_of_le a5 hb.size⟩
  rw [hb.cell (p := ⟨_, i, none⟩) a5, a3 i hi]; rfl

set_option maxHeartbeats 2000000 in
theorem after_any (s : Shop) (a : Option Addr) (len cap : Nat) (x : Option Addr) (xcap : Nat) (ns : List Int) (w : World) (hp : PigsAt w a len s.pigs) (hx : IntsAt w x len ns) (hok : s.ok = true) (hf : s.fewB ns = true) :
    Calls Try.prog 69 #[.agg #[.int .i64 s.P, .int .i64 s.tl, .int .i64 s.th, .int .i64 s.al, .int .i64 s.ah, .int .i64 s.room, .int .i64 s.xl, .int .i64 s.xh, .int .i64 s.yl, .int .i64 s.yh, .slice a len cap], .slice x len xcap] w fun e w' => e = .returned (.agg (potCells s ns)) ∧ Below w.heap.size w w' := by
  have hbd := Shop.ok_bd hok
  have hl4 : len ≤ 4 := by have := hp.1; omega
  have hfew := s.few ns hok hf
  have HP := Lib.hid (fun w1 (hb : Below w.heap.size w w1) => total_pounds s a cap x len xcap ns w1 (hp.below hb) (hx.below hb) hl4 hfew)
  have HT := Lib.hid (fun w1 (hb : Below w.heap.size w w1) => total_tin s a cap x len xcap ns w1 (hp.below hb) (hx.below hb) hl4 hfew)
  have HA := Lib.hid (fun w1 (hb : Below w.heap.size w w1) => total_antimony s a cap x len xcap ns w1 (hp.below hb) (hx.below hb) hl4 hfew)
  have bp := tot_all Pig.P bd_pounds s.pigs ns hfew hp.1 hx.1
  have bt := tot_all Pig.t bd_tin s.pigs ns hfew hp.1 hx.1
  have ba := tot_all Pig.a bd_antimony s.pigs ns hfew hp.1 hx.1
  have HR := Lib.hid (show potCells s ns = #[.int .i64 (s.P + tot Pig.P s.pigs ns), .int .i64 (s.tl + tot Pig.t s.pigs ns), .int .i64 (s.th + tot Pig.t s.pigs ns), .int .i64 (s.al + tot Pig.a s.pigs ns), .int .i64 (s.ah + tot Pig.a s.pigs ns)] from rfl)
  clear hp hx hfew hf
  generalize tot Pig.P s.pigs ns = tp at *
  generalize tot Pig.t s.pigs ns = tt at *
  generalize tot Pig.a s.pigs ns = ta at *
  obtain ⟨bp1, bp2⟩ := bp
  obtain ⟨bt1, bt2⟩ := bt
  obtain ⟨ba1, ba2⟩ := ba
  have HM1 := Lib.hid (fun w1 => below_ex2 <| moved_any s.tl s.th tt w1 (by unfold Fair; omega) (by unfold Fair; omega) (by unfold Fair; omega))
  have HM2 := Lib.hid (fun w1 => below_ex2 <| moved_any s.al s.ah ta w1 (by unfold Fair; omega) (by unfold Fair; omega) (by unfold Fair; omega))
  obtain ⟨⟨q1, q2⟩, ⟨q3, q4⟩, ⟨q5, q6⟩, q7, ⟨q8, q9⟩, -⟩ := hbd
  go_enter Try.func69, Try.ntmps69
  go_wp2_with fail
  obtain ⟨W0, hW0, hB0, hbx, hS0⟩ := name_res w #[.int .i64 s.P, .int .i64 s.tl, .int .i64 s.th, .int .i64 s.al, .int .i64 s.ah, .int .i64 s.room, .int .i64 s.xl, .int .i64 s.xh, .int .i64 s.yl, .int .i64 s.yh, .slice a len cap] 78 25
  rw [hW0]
  clear hW0
  have HP1 := Lib.hid (held_res hB0 HP.out)
  have HT1 := Lib.hid (held_res hB0 HT.out)
  have HA1 := Lib.hid (held_res hB0 HA.out)
  have HM3 := Lib.hid (held_res hB0 fun w1 _ => HM1.out w1)
  have HM4 := Lib.hid (held_res hB0 fun w1 _ => HM2.out w1)
  have hw : IntKind.i64.wrap (s.P + tp) = s.P + tp := IntWalk.i64_in _ ⟨by omega, by omega⟩
  go_region_held3 (fun w' => Below (w.heap.size + 1) W0 w' ∧ (∀ b o, b < w.heap.size + 1 → (w').cell? ⟨b, o, none⟩ = W0.cell? ⟨b, o, none⟩) ∧ (∀ i, i < 5 → (w').cell? ⟨w.heap.size + 1, i, none⟩ = some (cellVal w' (w.heap.size + 1) i)) ∧ (∀ i, i < 5 → (w').frozen? ⟨w.heap.size + 1, i, none⟩ = false) ∧ w.heap.size + 1 < (w').heap.size) (first | exact ⟨hS0.1.drew, hS0.2⟩ | assumption | (refine res_set _ _ (res_set _ _ (res_set _ _ (res_set _ _ (res_set _ _ ?_)))); assumption))
    (first | (go_at_call 84; with_reducible refine (HP1.out _ ?_).mono ?_; (first | assumption | exact ⟨hS0.1.drew, hS0.2⟩); rintro e w' ⟨rfl, k⟩) | (go_at_call 84; with_reducible refine (HT1.out _ ?_).mono ?_; (first | assumption | exact ⟨hS0.1.drew, hS0.2⟩); rintro e w' ⟨rfl, k⟩) | (go_at_call 84; with_reducible refine (HA1.out _ ?_).mono ?_; (first | assumption | exact ⟨hS0.1.drew, hS0.2⟩); rintro e w' ⟨rfl, k⟩) | (go_at_call 96; with_reducible refine (HM3.out _ ?_).mono ?_; (first | assumption | exact ⟨hS0.1.drew, hS0.2⟩); rintro e w' ⟨rfl, k⟩) | (go_at_call 96; with_reducible refine (HM4.out _ ?_).mono ?_; (first | assumption | exact ⟨hS0.1.drew, hS0.2⟩); rintro e w' ⟨rfl, k⟩; have HK := Lib.hid k))
  go_wp2
  obtain ⟨r0, r1, r2, r3, r4⟩ := set5 HK.out.2.2.1 (.int .i64 (s.P + tp)) (.int .i64 (s.tl + tt)) (.int .i64 (s.th + tt)) (.int .i64 (s.al + ta)) (.int .i64 (s.ah + ta))
  refine bodyPost_ret (v := .agg #[.int .i64 (s.P + tp), .int .i64 (s.tl + tt), .int .i64 (s.th + tt), .int .i64 (s.al + ta), .int .i64 (s.ah + ta)]) (by simp [results, Try.results69, go_sem, r0, r1, r2, r3, r4]) rfl ⟨ret_aggs HR.out.symm, ?_⟩
  exact (hB0.trans (Below.mono HK.out.1 (by omega))).trans (by repeat (first | exact Below.refl _ _ | (refine Below.alloc ?_ (by first | omega | (simp; omega) | simp) _) | (refine Below.setCell ?_ (by first | omega | (simp; omega) | simp) _) | refine Below.drew ?_))
end Go.Proofs.Ytajabapcmpmboaa

/- Whether the metal of a pot is within its limits. -/
namespace Go.Proofs.Ytajabapcmpmboaa
set_option linter.unusedVariables false
set_option linter.unusedSimpArgs false
open Go.RowKit

theorem below_via {B B0 : Nat} {a b c : World} (h : Hid (Below B0 b c)) (hb : B ≤ B0) (k : Below B a b) : Below B a c := k.trans (h.out.mono hb)
theorem cellS_alloc {W0 w1 : World} (o : Obj) (h : (∀ b o, b < W0.heap.size → w1.cell? ⟨b, o, none⟩ = W0.cell? ⟨b, o, none⟩) ∧ W0.heap.size ≤ w1.heap.size) :
    (∀ b o', b < W0.heap.size → (w1.alloc o).cell? ⟨b, o', none⟩ = W0.cell? ⟨b, o', none⟩) ∧ W0.heap.size ≤ (w1.alloc o).heap.size :=
  ⟨fun b o' hb => (World.cell?_of_block (Below.heap_alloc w1 o b (by omega))).trans (h.1 b o' hb), by simp; omega⟩
theorem cellS_drew {W0 w1 : World} (h : (∀ b o, b < W0.heap.size → w1.cell? ⟨b, o, none⟩ = W0.cell? ⟨b, o, none⟩) ∧ W0.heap.size ≤ w1.heap.size) :
    (∀ b o', b < W0.heap.size → w1.drew.cell? ⟨b, o', none⟩ = W0.cell? ⟨b, o', none⟩) ∧ W0.heap.size ≤ w1.drew.heap.size := h
theorem cellS_set {W0 w1 : World} (p : Addr) (v : Value) (hp : W0.heap.size ≤ p.block) (h : (∀ b o, b < W0.heap.size → w1.cell? ⟨b, o, none⟩ = W0.cell? ⟨b, o, none⟩) ∧ W0.heap.size ≤ w1.heap.size) :
    (∀ b o, b < W0.heap.size → (w1.setCell p v).cell? ⟨b, o, none⟩ = W0.cell? ⟨b, o, none⟩) ∧ W0.heap.size ≤ (w1.setCell p v).heap.size :=
  ⟨fun b o hb => (World.cell?_of_block (Below.heap_setCell w1 p v b (by omega))).trans (h.1 b o hb), by simpa [World.setCell] using h.2⟩
/-- A contract in the words of a region: what lay at the call lies behind it. -/
theorem cellS_call {P : Program} {f : FuncId} {args : Array Value} {W0 : World} {v : Value} (h : ∀ w1, Calls P f args w1 fun e w' => e = .returned v ∧ Below w1.heap.size w1 w')
    (w1 : World) (h1 : (∀ b o, b < W0.heap.size → w1.cell? ⟨b, o, none⟩ = W0.cell? ⟨b, o, none⟩) ∧ W0.heap.size ≤ w1.heap.size) :
    Calls P f args w1 fun e w' => e = .returned v ∧ ((∀ b o, b < W0.heap.size → w'.cell? ⟨b, o, none⟩ = W0.cell? ⟨b, o, none⟩) ∧ W0.heap.size ≤ w'.heap.size) ∧
      (∀ b o, b < w1.heap.size → w'.cell? ⟨b, o, none⟩ = w1.cell? ⟨b, o, none⟩) ∧ (∀ b o, b < w1.heap.size → w'.frozen? ⟨b, o, none⟩ = w1.frozen? ⟨b, o, none⟩) ∧ w1.heap.size ≤ w'.heap.size ∧ Hid (Below w1.heap.size w1 w') :=
  (h w1).mono fun e w' ⟨he, hb⟩ => ⟨he, ⟨fun b o hbo => (hb.cell (p := ⟨b, o, none⟩) (Nat.lt_of_lt_of_le hbo h1.2)).trans (h1.1 b o hbo), Nat.le_trans h1.2 hb.size⟩,
    fun b o hbo => hb.cell (p := ⟨b, o, none⟩) hbo, fun b o hbo => hb.frozen (p := ⟨b, o, none⟩) hbo, hb.size, hb⟩
theorem name_box2 (w : World) (cs : Array Value) (T : TypeId) (ds : Array Value) (U : TypeId) : ∃ W0, (w.alloc (.cells cs T)).alloc (.cells ds U) = W0 ∧ Below w.heap.size w W0 ∧ w.heap.size + 1 < W0.heap.size ∧ (∀ i, W0.cell? ⟨w.heap.size, i, none⟩ = cs[i]?) ∧ (∀ i, W0.cell? ⟨w.heap.size + 1, i, none⟩ = ds[i]?) :=
  ⟨_, rfl, (by repeat (first | exact Below.refl _ _ | (refine Below.alloc ?_ (by first | omega | (simp; omega) | simp) _) | (refine Below.setCell ?_ (by first | omega | (simp; omega) | simp) _) | refine Below.drew ?_)), by simp, fun i => by simp, fun i => by simp⟩

def safeI (s : Shop) (P tl th al ah : Int) : Int :=
  if withinB tl th (allowLo P s.xl) (allowHi P s.xh) && withinB al ah (allowLo P s.yl) (allowHi P s.yh) then 1
  else if emptyB (maxI tl (allowLo P s.xl)) (minI th (allowHi P s.xh)) || emptyB (maxI al (allowLo P s.yl)) (minI ah (allowHi P s.yh)) then 2 else 3

set_option maxHeartbeats 2000000 in
theorem safe_any (s : Shop) (a : Option Addr) (len cap : Nat) (P tl th al ah : Int) (w : World) (hP : 0 ≤ P ∧ P ≤ 2000) (hx : (0 ≤ s.xl ∧ s.xl ≤ 1000) ∧ (0 ≤ s.xh ∧ s.xh ≤ 1000)) (hy : (0 ≤ s.yl ∧ s.yl ≤ 1000) ∧ (0 ≤ s.yh ∧ s.yh ≤ 1000)) :
    Calls Try.prog 74 #[.agg #[.int .i64 s.P, .int .i64 s.tl, .int .i64 s.th, .int .i64 s.al, .int .i64 s.ah, .int .i64 s.room, .int .i64 s.xl, .int .i64 s.xh, .int .i64 s.yl, .int .i64 s.yh, .slice a len cap], .agg #[.int .i64 P, .int .i64 tl, .int .i64 th, .int .i64 al, .int .i64 ah]] w fun e w' => e = .returned (.int .i64 (safeI s P tl th al ah)) ∧ Below w.heap.size w w' := by
  have HX := Lib.hid (fun w1 => allowed_any P s.xl s.xh w1 hP hx.1 hx.2)
  have HY := Lib.hid (fun w1 => allowed_any P s.yl s.yh w1 hP hy.1 hy.2)
  have HR := Lib.hid (show safeI s P tl th al ah = (if withinB tl th (allowLo P s.xl) (allowHi P s.xh) && withinB al ah (allowLo P s.yl) (allowHi P s.yh) then 1
    else if emptyB (maxI tl (allowLo P s.xl)) (minI th (allowHi P s.xh)) || emptyB (maxI al (allowLo P s.yl)) (minI ah (allowHi P s.yh)) then 2 else 3) from rfl)
  clear hP hx hy
  generalize allowLo P s.xl = A1 at *
  generalize allowHi P s.xh = A2 at *
  generalize allowLo P s.yl = A3 at *
  generalize allowHi P s.yh = A4 at *
  go_enter Try.func74, Try.ntmps74
  go_upto_region 1 with fail
  obtain ⟨W0, hW0, hB0, hz0, hbx, hbp⟩ := name_box2 w #[.int .i64 s.P, .int .i64 s.tl, .int .i64 s.th, .int .i64 s.al, .int .i64 s.ah, .int .i64 s.room, .int .i64 s.xl, .int .i64 s.xh, .int .i64 s.yl, .int .i64 s.yh, .slice a len cap] 78 #[.int .i64 P, .int .i64 tl, .int .i64 th, .int .i64 al, .int .i64 ah] 25
  rw [hW0]
  clear hW0
  have hz1 : w.heap.size < W0.heap.size := by omega
  go_cut [5, 6] (fun v5 v6 wx => ∃ g h : Nat, v5 = .pointer (some ⟨g, 0, none⟩) ∧ v6 = .pointer (some ⟨h, 0, none⟩) ∧ wx.cell? ⟨g, 0, none⟩ = some (.int .i64 A1) ∧ wx.cell? ⟨g, 1, none⟩ = some (.int .i64 A2) ∧ wx.cell? ⟨h, 0, none⟩ = some (.int .i64 A3) ∧ wx.cell? ⟨h, 1, none⟩ = some (.int .i64 A4) ∧ g < wx.heap.size ∧ h < wx.heap.size ∧ Below W0.heap.size W0 wx)
  case first =>
    go_region_held3 (fun w' => (∀ b o, b < W0.heap.size → w'.cell? ⟨b, o, none⟩ = W0.cell? ⟨b, o, none⟩) ∧ W0.heap.size ≤ w'.heap.size) (first | with_reducible assumption | ((repeat (first | with_reducible refine cellS_drew ?_ | with_reducible refine cellS_alloc _ ?_ | with_reducible refine cellS_set _ _ (by first | omega | (simp; omega) | simp) ?_)); first | with_reducible assumption | with_reducible exact ⟨fun _ _ _ => rfl, Nat.le_refl _⟩))
      (first | (go_at_call 101; with_reducible refine (HX.out _).mono ?_; rintro e w' ⟨rfl, rfl⟩) | (go_at_call 101; with_reducible refine (HY.out _).mono ?_; rintro e w' ⟨rfl, rfl⟩))
    all_goals (go_wp2_with fail; go_meet; exact ⟨_, _, rfl, rfl, by go_simp, by go_simp, by go_simp, by go_simp, by simp <;> omega, by simp <;> omega, (by repeat (first | exact Below.refl _ _ | (refine Below.alloc ?_ (by first | omega | (simp; omega) | simp) _) | (refine Below.setCell ?_ (by first | omega | (simp; omega) | simp) _) | refine Below.drew ?_))⟩)
  case rest =>
    obtain ⟨g, h, rfl, rfl, g0, g1, k0, k1, hg, hh, hB⟩ := hcut
    obtain ⟨hc, hf⟩ := bcell hB
    have hz := hB.size
    have hBw := hB0.trans (Below.mono hB hB0.size)
    have hz2 : w.heap.size + 1 < wc.heap.size := by omega
    have hz3 : w.heap.size < wc.heap.size := by omega
    have p1 : wc.cell? ⟨w.heap.size + 1, 1, none⟩ = some (.int .i64 tl) := (hc _ _ (by omega)).trans (hbp 1)
    have p2 : wc.cell? ⟨w.heap.size + 1, 2, none⟩ = some (.int .i64 th) := (hc _ _ (by omega)).trans (hbp 2)
    have p3 : wc.cell? ⟨w.heap.size + 1, 3, none⟩ = some (.int .i64 al) := (hc _ _ (by omega)).trans (hbp 3)
    have p4 : wc.cell? ⟨w.heap.size + 1, 4, none⟩ = some (.int .i64 ah) := (hc _ _ (by omega)).trans (hbp 4)
    clear hc hf hbp hbx
    generalize w.heap.size + 1 = pb at *
    have qpb1 : pb < wc.heap.size + 1 := by omega
    have qpb2 : pb < wc.heap.size + 1 + 1 := by omega
    have qpb3 : pb < wc.heap.size + 1 + 1 + 1 := by omega
    have qpb4 : pb < wc.heap.size + 1 + 1 + 1 + 1 := by omega
    have qpb5 : pb < wc.heap.size + 1 + 1 + 1 + 1 + 1 := by omega
    have qpb6 : pb < wc.heap.size + 1 + 1 + 1 + 1 + 1 + 1 := by omega
    have qpb7 : pb < wc.heap.size + 1 + 1 + 1 + 1 + 1 + 1 + 1 := by omega
    have qg1 : g < wc.heap.size + 1 := by omega
    have qg2 : g < wc.heap.size + 1 + 1 := by omega
    have qg3 : g < wc.heap.size + 1 + 1 + 1 := by omega
    have qg4 : g < wc.heap.size + 1 + 1 + 1 + 1 := by omega
    have qg5 : g < wc.heap.size + 1 + 1 + 1 + 1 + 1 := by omega
    have qg6 : g < wc.heap.size + 1 + 1 + 1 + 1 + 1 + 1 := by omega
    have qg7 : g < wc.heap.size + 1 + 1 + 1 + 1 + 1 + 1 + 1 := by omega
    have qh1 : h < wc.heap.size + 1 := by omega
    have qh2 : h < wc.heap.size + 1 + 1 := by omega
    have qh3 : h < wc.heap.size + 1 + 1 + 1 := by omega
    have qh4 : h < wc.heap.size + 1 + 1 + 1 + 1 := by omega
    have qh5 : h < wc.heap.size + 1 + 1 + 1 + 1 + 1 := by omega
    have qh6 : h < wc.heap.size + 1 + 1 + 1 + 1 + 1 + 1 := by omega
    have qh7 : h < wc.heap.size + 1 + 1 + 1 + 1 + 1 + 1 + 1 := by omega
    rcases h1 : withinB tl th A1 A2 with - | -
    · rcases h3 : emptyB (maxI tl A1) (minI th A2) with - | -
      · rcases h4 : emptyB (maxI al A3) (minI ah A4) with - | -
        · go_wp2_with (first | (go_at_call 102; with_reducible refine (within_is _ _ _ _ _ h1 _).mono ?_; rintro e w' ⟨rfl, rfl⟩) | (go_at_call 104; with_reducible refine (common_any _ _ _ _ _).mono ?_; rintro e w' ⟨rfl, rfl⟩) | (go_at_call 103; with_reducible refine (empty_is _ _ _ h3 _).mono ?_; rintro e w' ⟨rfl, rfl⟩) | (go_at_call 103; with_reducible refine (empty_is _ _ _ h4 _).mono ?_; rintro e w' ⟨rfl, rfl⟩))
          go_ret
          exact ⟨ret_i64 (by rw [HR.out]; simp [h1, h3, h4]), hBw.trans (by repeat (first | exact Below.refl _ _ | (refine Below.alloc ?_ (by first | omega | (simp; omega) | simp) _) | (refine Below.setCell ?_ (by first | omega | (simp; omega) | simp) _) | refine Below.drew ?_))⟩
        · go_wp2_with (first | (go_at_call 102; with_reducible refine (within_is _ _ _ _ _ h1 _).mono ?_; rintro e w' ⟨rfl, rfl⟩) | (go_at_call 104; with_reducible refine (common_any _ _ _ _ _).mono ?_; rintro e w' ⟨rfl, rfl⟩) | (go_at_call 103; with_reducible refine (empty_is _ _ _ h3 _).mono ?_; rintro e w' ⟨rfl, rfl⟩) | (go_at_call 103; with_reducible refine (empty_is _ _ _ h4 _).mono ?_; rintro e w' ⟨rfl, rfl⟩))
          go_ret
          exact ⟨ret_i64 (by rw [HR.out]; simp [h1, h3, h4]), hBw.trans (by repeat (first | exact Below.refl _ _ | (refine Below.alloc ?_ (by first | omega | (simp; omega) | simp) _) | (refine Below.setCell ?_ (by first | omega | (simp; omega) | simp) _) | refine Below.drew ?_))⟩
      · go_wp2_with (first | (go_at_call 102; with_reducible refine (within_is _ _ _ _ _ h1 _).mono ?_; rintro e w' ⟨rfl, rfl⟩) | (go_at_call 104; with_reducible refine (common_any _ _ _ _ _).mono ?_; rintro e w' ⟨rfl, rfl⟩) | (go_at_call 103; with_reducible refine (empty_is _ _ _ h3 _).mono ?_; rintro e w' ⟨rfl, rfl⟩))
        go_ret
        exact ⟨ret_i64 (by rw [HR.out]; simp [h1, h3]), hBw.trans (by repeat (first | exact Below.refl _ _ | (refine Below.alloc ?_ (by first | omega | (simp; omega) | simp) _) | (refine Below.setCell ?_ (by first | omega | (simp; omega) | simp) _) | refine Below.drew ?_))⟩
    · rcases h2 : withinB al ah A3 A4 with - | -
      · rcases h3 : emptyB (maxI tl A1) (minI th A2) with - | -
        · rcases h4 : emptyB (maxI al A3) (minI ah A4) with - | -
          · go_wp2_with (first | (go_at_call 102; with_reducible refine (within_is _ _ _ _ _ h1 _).mono ?_; rintro e w' ⟨rfl, rfl⟩) | (go_at_call 102; with_reducible refine (within_is _ _ _ _ _ h2 _).mono ?_; rintro e w' ⟨rfl, rfl⟩) | (go_at_call 104; with_reducible refine (common_any _ _ _ _ _).mono ?_; rintro e w' ⟨rfl, rfl⟩) | (go_at_call 103; with_reducible refine (empty_is _ _ _ h3 _).mono ?_; rintro e w' ⟨rfl, rfl⟩) | (go_at_call 103; with_reducible refine (empty_is _ _ _ h4 _).mono ?_; rintro e w' ⟨rfl, rfl⟩))
            go_ret
            exact ⟨ret_i64 (by rw [HR.out]; simp [h1, h2, h3, h4]), hBw.trans (by repeat (first | exact Below.refl _ _ | (refine Below.alloc ?_ (by first | omega | (simp; omega) | simp) _) | (refine Below.setCell ?_ (by first | omega | (simp; omega) | simp) _) | refine Below.drew ?_))⟩
          · go_wp2_with (first | (go_at_call 102; with_reducible refine (within_is _ _ _ _ _ h1 _).mono ?_; rintro e w' ⟨rfl, rfl⟩) | (go_at_call 102; with_reducible refine (within_is _ _ _ _ _ h2 _).mono ?_; rintro e w' ⟨rfl, rfl⟩) | (go_at_call 104; with_reducible refine (common_any _ _ _ _ _).mono ?_; rintro e w' ⟨rfl, rfl⟩) | (go_at_call 103; with_reducible refine (empty_is _ _ _ h3 _).mono ?_; rintro e w' ⟨rfl, rfl⟩) | (go_at_call 103; with_reducible refine (empty_is _ _ _ h4 _).mono ?_; rintro e w' ⟨rfl, rfl⟩))
            go_ret
            exact ⟨ret_i64 (by rw [HR.out]; simp [h1, h2, h3, h4]), hBw.trans (by repeat (first | exact Below.refl _ _ | (refine Below.alloc ?_ (by first | omega | (simp; omega) | simp) _) | (refine Below.setCell ?_ (by first | omega | (simp; omega) | simp) _) | refine Below.drew ?_))⟩
        · go_wp2_with (first | (go_at_call 102; with_reducible refine (within_is _ _ _ _ _ h1 _).mono ?_; rintro e w' ⟨rfl, rfl⟩) | (go_at_call 102; with_reducible refine (within_is _ _ _ _ _ h2 _).mono ?_; rintro e w' ⟨rfl, rfl⟩) | (go_at_call 104; with_reducible refine (common_any _ _ _ _ _).mono ?_; rintro e w' ⟨rfl, rfl⟩) | (go_at_call 103; with_reducible refine (empty_is _ _ _ h3 _).mono ?_; rintro e w' ⟨rfl, rfl⟩))
          go_ret
          exact ⟨ret_i64 (by rw [HR.out]; simp [h1, h2, h3]), hBw.trans (by repeat (first | exact Below.refl _ _ | (refine Below.alloc ?_ (by first | omega | (simp; omega) | simp) _) | (refine Below.setCell ?_ (by first | omega | (simp; omega) | simp) _) | refine Below.drew ?_))⟩
      · go_wp2_with (first | (go_at_call 102; with_reducible refine (within_is _ _ _ _ _ h1 _).mono ?_; rintro e w' ⟨rfl, rfl⟩) | (go_at_call 102; with_reducible refine (within_is _ _ _ _ _ h2 _).mono ?_; rintro e w' ⟨rfl, rfl⟩))
        go_ret
        exact ⟨ret_i64 (by rw [HR.out]; simp [h1, h2]), hBw.trans (by repeat (first | exact Below.refl _ _ | (refine Below.alloc ?_ (by first | omega | (simp; omega) | simp) _) | (refine Below.setCell ?_ (by first | omega | (simp; omega) | simp) _) | refine Below.drew ?_))⟩
end Go.Proofs.Ytajabapcmpmboaa
