/- The pot with an addition; what is asked of a list ahead of all else. -/
import Derived.Test.YtojmimfjnnibdaaD
import Derived.Deep.RegionWith
namespace Go.Proofs.Ytojmimfjnnibdaa
set_option linter.unusedVariables false
set_option linter.unusedSimpArgs false
open Go.RowKit

/-- What a cell holds, whatever it is. -/
def cellVal (w : World) (B i : Nat) : Value := (w.cell? ⟨B, i, none⟩).getD undef
theorem cellVal_of {w : World} {B i : Nat} (h : (w.cell? ⟨B, i, none⟩).isSome = true) : w.cell? ⟨B, i, none⟩ = some (cellVal w B i) := by
  unfold cellVal; cases h' : w.cell? ⟨B, i, none⟩ <;> simp_all
theorem cells_set {w : World} {B n : Nat} (h : ∀ i, i < n → w.cell? ⟨B, i, none⟩ = some (cellVal w B i)) (p : Addr) (v : Value) : ∀ i, i < n → (w.setCell p v).cell? ⟨B, i, none⟩ = some (cellVal (w.setCell p v) B i) := by
  intro i hi
  refine cellVal_of ?_
  obtain ⟨u, hu⟩ := cell?_setCell_some (w := w) (p := p) (x := v) (h i hi)
  rw [hu]; rfl
theorem isAddition_is (s : Shop) (a : Option Addr) (len cap : Nat) (x : Option Addr) (xlen xcap : Nat) (ns : List Int) (w : World) (hp : PigsAt w a len s.pigs) (hx : IntsAt w x xlen ns) (hok : s.ok = true) (b : Bool) (h : s.isAdd ns = b) :
    Calls Try.prog 95 #[.agg #[.int .i64 s.P, .int .i64 s.tl, .int .i64 s.th, .int .i64 s.al, .int .i64 s.ah, .int .i64 s.room, .int .i64 s.xl, .int .i64 s.xh, .int .i64 s.yl, .int .i64 s.yh, .slice a len cap], .slice x xlen xcap] w fun e w' => e = .returned (.bool b) ∧ Below w.heap.size w w' := h ▸ isAddition_any s a len cap x xlen xcap ns w hp hx hok
theorem ret_aggs {a b : Array Value} (h : a = b) : Ending.returned (.agg a) = .returned (.agg b) := by rw [h]
theorem tot_all (f : Pig → Int) (hfb : ∀ p : Pig, p.ok = true → 0 ≤ f p ∧ f p ≤ 99) (ps : List Pig) (ns : List Int) (h : Few ps ns) {len : Nat} (h1 : ps.length = len) (h2 : ns.length = len) : 0 ≤ tot f ps ns ∧ tot f ps ns ≤ 500 * len := by
  have := tot_bd f hfb ps ns h len (by omega) (by omega)
  rwa [List.take_of_length_le (by omega), List.take_of_length_le (by omega)] at this
theorem below_ex2 {P : Program} {f : FuncId} {args : Array Value} {w : World} {o1 o2 : Obj} {v : Value} (h : Calls P f args w fun e w' => e = .returned v ∧ (w.alloc o1).alloc o2 = w') : Calls P f args w fun e w' => e = .returned v ∧ Below w.heap.size w w' :=
  h.mono fun e w' ⟨he, hw⟩ => ⟨he, by subst hw; exact (by repeat (first | exact Below.refl _ _ | (refine Below.alloc ?_ (by first | omega | (simp; omega) | simp) _) | (refine Below.setCell ?_ (by first | omega | (simp; omega) | simp) _) | refine Below.drew ?_))⟩
def potCells (s : Shop) (ns : List Int) : Array Value := #[.int .i64 (s.P + tot Pig.P s.pigs ns), .int .i64 (s.tl + tot Pig.t s.pigs ns), .int .i64 (s.th + tot Pig.t s.pigs ns), .int .i64 (s.al + tot Pig.a s.pigs ns), .int .i64 (s.ah + tot Pig.a s.pigs ns)]

set_option maxHeartbeats 1000000 in
theorem asked_any (s : Shop) (a : Option Addr) (len cap : Nat) (x : Option Addr) (xlen xcap : Nat) (ns : List Int) (w : World) (hp : PigsAt w a len s.pigs) (hx : IntsAt w x xlen ns) (v : Int) (hv : (if s.ok then (if s.isAdd ns then 0 else 1) else 10) = v) :
    Calls Try.prog 68 #[.agg #[.int .i64 s.P, .int .i64 s.tl, .int .i64 s.th, .int .i64 s.al, .int .i64 s.ah, .int .i64 s.room, .int .i64 s.xl, .int .i64 s.xh, .int .i64 s.yl, .int .i64 s.yh, .slice a len cap], .slice x xlen xcap] w fun e w' => e = .returned (.int .i64 v) ∧ Below w.heap.size w w' := by
  have HT := Lib.hid (fun b (hb : s.ok = b) w1 (hb1 : Below w.heap.size w w1) => valid_is s a len cap b hb w1 (hp.below hb1))
  have HA := Lib.hid (fun hok b (hb : s.isAdd ns = b) w1 (hb1 : Below w.heap.size w w1) => isAddition_is s a len cap x xlen xcap ns w1 (hp.below hb1) (hx.below hb1) hok b hb)
  clear hp hx
  rcases h : s.ok with - | -
  · rw [h] at hv; simp at hv; subst hv
    have HS := Lib.hid h; clear h
    go_enter Try.func68, Try.ntmps68
    go_wp2_with fail
    obtain ⟨W0, hW0, hB0, hz0, hbx⟩ := name_box w #[.int .i64 s.P, .int .i64 s.tl, .int .i64 s.th, .int .i64 s.al, .int .i64 s.ah, .int .i64 s.room, .int .i64 s.xl, .int .i64 s.xh, .int .i64 s.yl, .int .i64 s.yh, .slice a len cap] 78
    rw [hW0]
    clear hW0
    refine (HT.out _ HS.out _ hB0).mono ?_
    rintro e w1 ⟨rfl, hb1⟩
    go_wp2_with fail
    go_ret
    exact ⟨rfl, hB0.trans (hb1.mono hB0.size)⟩
  · have HS := Lib.hid h
    rcases h2 : s.isAdd ns with - | - <;> rw [h, h2] at hv <;> simp at hv <;> subst hv
    all_goals have HS2 := Lib.hid h2
    all_goals clear h h2
    all_goals go_enter Try.func68, Try.ntmps68
    all_goals go_wp2_with fail
    all_goals obtain ⟨W0, hW0, hB0, hz0, hbx⟩ := name_box w #[.int .i64 s.P, .int .i64 s.tl, .int .i64 s.th, .int .i64 s.al, .int .i64 s.ah, .int .i64 s.room, .int .i64 s.xl, .int .i64 s.xh, .int .i64 s.yl, .int .i64 s.yh, .slice a len cap] 78
    all_goals rw [hW0]
    all_goals clear hW0
    all_goals refine (HT.out _ HS.out _ hB0).mono ?_
    all_goals rintro e w1 ⟨rfl, hb1⟩
    all_goals obtain ⟨hc1, hf1⟩ := bcell hb1
    all_goals have hz1 := hb1.size
    all_goals have hbw := hB0.trans (hb1.mono hB0.size)
    all_goals go_wp2_with fail
    all_goals refine (HA.out HS.out _ HS2.out _ hbw).mono ?_
    all_goals rintro e w2 ⟨rfl, hb2⟩
    all_goals go_wp2_with fail
    all_goals go_ret
    all_goals exact ⟨rfl, hbw.trans (hb2.mono hbw.size)⟩

/-- A box and a block of five for the result, under a name. -/
theorem name_res (w : World) (cs : Array Value) (T U : TypeId) : ∃ W0, (w.alloc (.cells cs T)).alloc (.cells #[.int .i64 0, .int .i64 0, .int .i64 0, .int .i64 0, .int .i64 0] U) = W0 ∧ Below w.heap.size w W0 ∧ (∀ i, W0.cell? ⟨w.heap.size, i, none⟩ = cs[i]?) ∧ Below (w.heap.size + 1) W0 W0 ∧ (∀ b o, b < w.heap.size + 1 → (W0).cell? ⟨b, o, none⟩ = W0.cell? ⟨b, o, none⟩) ∧ (∀ i, i < 5 → (W0).cell? ⟨w.heap.size + 1, i, none⟩ = some (cellVal W0 (w.heap.size + 1) i)) ∧ (∀ i, i < 5 → (W0).frozen? ⟨w.heap.size + 1, i, none⟩ = false) ∧ w.heap.size + 1 < (W0).heap.size := by
  refine ⟨_, rfl, (by repeat (first | exact Below.refl _ _ | (refine Below.alloc ?_ (by first | omega | (simp; omega) | simp) _) | (refine Below.setCell ?_ (by first | omega | (simp; omega) | simp) _) | refine Below.drew ?_)), fun i => by simp, Below.refl _ _, fun _ _ _ => rfl, fun i hi => cellVal_of ?_, fun i hi => by simp, by simp⟩
  match i, hi with
  | 0, _ => simp
  | 1, _ => simp
  | 2, _ => simp
  | 3, _ => simp
  | 4, _ => simp
theorem res_set {w W0 w1 : World} (j : Nat) (v : Value) (h1 : Below (w.heap.size + 1) W0 w1 ∧ (∀ b o, b < w.heap.size + 1 → (w1).cell? ⟨b, o, none⟩ = W0.cell? ⟨b, o, none⟩) ∧ (∀ i, i < 5 → (w1).cell? ⟨w.heap.size + 1, i, none⟩ = some (cellVal w1 (w.heap.size + 1) i)) ∧ (∀ i, i < 5 → (w1).frozen? ⟨w.heap.size + 1, i, none⟩ = false) ∧ w.heap.size + 1 < (w1).heap.size) : Below (w.heap.size + 1) W0 (w1.setCell ⟨w.heap.size + 1, j, none⟩ v) ∧ (∀ b o, b < w.heap.size + 1 → ((w1.setCell ⟨w.heap.size + 1, j, none⟩ v)).cell? ⟨b, o, none⟩ = W0.cell? ⟨b, o, none⟩) ∧ (∀ i, i < 5 → ((w1.setCell ⟨w.heap.size + 1, j, none⟩ v)).cell? ⟨w.heap.size + 1, i, none⟩ = some (cellVal (w1.setCell ⟨w.heap.size + 1, j, none⟩ v) (w.heap.size + 1) i)) ∧ (∀ i, i < 5 → ((w1.setCell ⟨w.heap.size + 1, j, none⟩ v)).frozen? ⟨w.heap.size + 1, i, none⟩ = false) ∧ w.heap.size + 1 < ((w1.setCell ⟨w.heap.size + 1, j, none⟩ v)).heap.size := by
  obtain ⟨a1, a2, a3, a4, a5⟩ := h1
  refine ⟨a1.setCell (by simp) _, fun b o hb => ?_, cells_set a3 _ _, fun i hi => (World.frozen?_setCell _ _ _ _).trans (a4 i hi), by simpa [World.setCell] using a5⟩
  exact (World.cell?_of_block (Below.heap_setCell w1 _ v b (by simp; omega))).trans (a2 b o hb)
theorem set5 {w1 : World} {B : Nat} (h : ∀ i, i < 5 → w1.cell? ⟨B, i, none⟩ = some (cellVal w1 B i)) (v0 v1 v2 v3 v4 : Value) :
    let W := ((((w1.setCell ⟨B, 0, none⟩ v0).setCell ⟨B, 1, none⟩ v1).setCell ⟨B, 2, none⟩ v2).setCell ⟨B, 3, none⟩ v3).setCell ⟨B, 4, none⟩ v4
    W.cell? ⟨B, 0, none⟩ = some v0 ∧ W.cell? ⟨B, 1, none⟩ = some v1 ∧ W.cell? ⟨B, 2, none⟩ = some v2 ∧ W.cell? ⟨B, 3, none⟩ = some v3 ∧ W.cell? ⟨B, 4, none⟩ = some v4 := by
  have h0 := h 0 (by omega)
  have h1 := h 1 (by omega)
  have h2 := h 2 (by omega)
  have h3 := h 3 (by omega)
  have h4 := h 4 (by omega)
  clear h
  go_simp
theorem held_res {P : Program} {f : FuncId} {args : Array Value} {w W0 : World} {v : Value} (h0 : Below w.heap.size w W0) (h : ∀ w1, Below w.heap.size w w1 → Calls P f args w1 fun e w' => e = .returned v ∧ Below w1.heap.size w1 w')
    (w1 : World) (h1 : Below (w.heap.size + 1) W0 w1 ∧ (∀ b o, b < w.heap.size + 1 → (w1).cell? ⟨b, o, none⟩ = W0.cell? ⟨b, o, none⟩) ∧ (∀ i, i < 5 → (w1).cell? ⟨w.heap.size + 1, i, none⟩ = some (cellVal w1 (w.heap.size + 1) i)) ∧ (∀ i, i < 5 → (w1).frozen? ⟨w.heap.size + 1, i, none⟩ = false) ∧ w.heap.size + 1 < (w1).heap.size) : Calls P f args w1 fun e w' => e = .returned v ∧ Below (w.heap.size + 1) W0 w' ∧ (∀ b o, b < w.heap.size + 1 → (w').cell? ⟨b, o, none⟩ = W0.cell? ⟨b, o, none⟩) ∧ (∀ i, i < 5 → (w').cell? ⟨w.heap.size + 1, i, none⟩ = some (cellVal w' (w.heap.size + 1) i)) ∧ (∀ i, i < 5 → (w').frozen? ⟨w.heap.size + 1, i, none⟩ = false) ∧ w.heap.size + 1 < (w').heap.size := by
  obtain ⟨a1, a2, a3, a4, a5⟩ := h1
  refine (h w1 (h0.trans (a1.mono (by omega)))).mono fun e w' ⟨he, hb⟩ => ⟨he, a1.trans (hb.mono (by omega)), fun b o hbo => (hb.cell (p := ⟨b, o, none⟩) (show b < _ by omega)).trans (a2 b o hbo), fun i hi => cellVal_of ?_, fun i hi => (hb.frozen (p := ⟨_, i, none⟩) a5).trans (a4 i hi), Nat.lt_of_lt_of_le a5 hb.size⟩
  rw [hb.cell (p := ⟨_, i, none⟩) a5, a3 i hi]; rfl

set_option maxHeartbeats 2000000 in
theorem after_any (s : Shop) (a : Option Addr) (len cap : Nat) (x : Option Addr) (xcap : Nat) (ns : List Int) (w : World) (hp : PigsAt w a len s.pigs) (hx : IntsAt w x len ns) (hok : s.ok = true) (hf : s.fewB ns = true) :
    Calls Try.prog 69 #[.agg #[.int .i64 s.P, .int .i64 s.tl, .int .i64 s.th, .int .i64 s.al, .int .i64 s.ah, .int .i64 s.room, .int .i64 s.xl, .int .i64 s.xh, .int .i64 s.yl, .int .i64 s.yh, .slice a len cap], .slice x len xcap] w fun e w' => e = .returned (.agg (potCells s ns)) ∧ Below w.heap.size w w' := by
  have hbd := Shop.ok_bd hok
  have hl4 : len ≤ 4 := by have := hp.1; omega
  have hfew := s.few ns hok hf
  have HP := Lib.hid (fun w1 (hb : Below w.heap.size w w1) => total_pounds s a cap x len xcap ns w1 (hp.below hb) (hx.below hb) hl4 hfew)
  have HT := Lib.hid (fun w1 (hb : Below w.heap.size w w1) => total_tin s a cap x len xcap ns w1 (hp.below hb) (hx.below hb) hl4 hfew)
  have HA := Lib.hid (fun w1 (hb : Below w.heap.size w w1) => total_antimony s a cap x len xcap ns w1 (hp.below hb) (hx.below hb) hl4 hfew)
  have bp := tot_all Pig.P bd_pounds s.pigs ns hfew hp.1 hx.1
  have bt := tot_all Pig.t bd_tin s.pigs ns hfew hp.1 hx.1
  have ba := tot_all Pig.a bd_antimony s.pigs ns hfew hp.1 hx.1
  have HR := Lib.hid (show potCells s ns = #[.int .i64 (s.P + tot Pig.P s.pigs ns), .int .i64 (s.tl + tot Pig.t s.pigs ns), .int .i64 (s.th + tot Pig.t s.pigs ns), .int .i64 (s.al + tot Pig.a s.pigs ns), .int .i64 (s.ah + tot Pig.a s.pigs ns)] from rfl)
  clear hp hx hfew hf
  generalize tot Pig.P s.pigs ns = tp at *
  generalize tot Pig.t s.pigs ns = tt at *
  generalize tot Pig.a s.pigs ns = ta at *
  obtain ⟨bp1, bp2⟩ := bp
  obtain ⟨bt1, bt2⟩ := bt
  obtain ⟨ba1, ba2⟩ := ba
  have HM1 := Lib.hid (fun w1 => below_ex2 <| moved_any s.tl s.th tt w1 (by unfold Fair; omega) (by unfold Fair; omega) (by unfold Fair; omega))
  have HM2 := Lib.hid (fun w1 => below_ex2 <| moved_any s.al s.ah ta w1 (by unfold Fair; omega) (by unfold Fair; omega) (by unfold Fair; omega))
  obtain ⟨⟨q1, q2⟩, ⟨q3, q4⟩, ⟨q5, q6⟩, q7, ⟨q8, q9⟩, -⟩ := hbd
  go_enter Try.func69, Try.ntmps69
  go_wp2_with fail
  obtain ⟨W0, hW0, hB0, hbx, hS0⟩ := name_res w #[.int .i64 s.P, .int .i64 s.tl, .int .i64 s.th, .int .i64 s.al, .int .i64 s.ah, .int .i64 s.room, .int .i64 s.xl, .int .i64 s.xh, .int .i64 s.yl, .int .i64 s.yh, .slice a len cap] 78 25
  rw [hW0]
  clear hW0
  have HP1 := Lib.hid (held_res hB0 HP.out)
  have HT1 := Lib.hid (held_res hB0 HT.out)
  have HA1 := Lib.hid (held_res hB0 HA.out)
  have HM3 := Lib.hid (held_res hB0 fun w1 _ => HM1.out w1)
  have HM4 := Lib.hid (held_res hB0 fun w1 _ => HM2.out w1)
  have hw : IntKind.i64.wrap (s.P + tp) = s.P + tp := IntWalk.i64_in _ ⟨by omega, by omega⟩
  go_region_held3 (fun w' => Below (w.heap.size + 1) W0 w' ∧ (∀ b o, b < w.heap.size + 1 → (w').cell? ⟨b, o, none⟩ = W0.cell? ⟨b, o, none⟩) ∧ (∀ i, i < 5 → (w').cell? ⟨w.heap.size + 1, i, none⟩ = some (cellVal w' (w.heap.size + 1) i)) ∧ (∀ i, i < 5 → (w').frozen? ⟨w.heap.size + 1, i, none⟩ = false) ∧ w.heap.size + 1 < (w').heap.size) (first | exact ⟨hS0.1.drew, hS0.2⟩ | assumption | (refine res_set _ _ (res_set _ _ (res_set _ _ (res_set _ _ (res_set _ _ ?_)))); assumption))
    (first | (go_at_call 84; with_reducible refine (HP1.out _ ?_).mono ?_; (first | assumption | exact ⟨hS0.1.drew, hS0.2⟩); rintro e w' ⟨rfl, k⟩) | (go_at_call 84; with_reducible refine (HT1.out _ ?_).mono ?_; (first | assumption | exact ⟨hS0.1.drew, hS0.2⟩); rintro e w' ⟨rfl, k⟩) | (go_at_call 84; with_reducible refine (HA1.out _ ?_).mono ?_; (first | assumption | exact ⟨hS0.1.drew, hS0.2⟩); rintro e w' ⟨rfl, k⟩) | (go_at_call 96; with_reducible refine (HM3.out _ ?_).mono ?_; (first | assumption | exact ⟨hS0.1.drew, hS0.2⟩); rintro e w' ⟨rfl, k⟩) | (go_at_call 96; with_reducible refine (HM4.out _ ?_).mono ?_; (first | assumption | exact ⟨hS0.1.drew, hS0.2⟩); rintro e w' ⟨rfl, k⟩; have HK := Lib.hid k))
  go_wp2
  obtain ⟨r0, r1, r2, r3, r4⟩ := set5 HK.out.2.2.1 (.int .i64 (s.P + tp)) (.int .i64 (s.tl + tt)) (.int .i64 (s.th + tt)) (.int .i64 (s.al + ta)) (.int .i64 (s.ah + ta))
  refine bodyPost_ret (v := .agg #[.int .i64 (s.P + tp), .int .i64 (s.tl + tt), .int .i64 (s.th + tt), .int .i64 (s.al + ta), .int .i64 (s.ah + ta)]) (by simp [results, Try.results69, go_sem, r0, r1, r2, r3, r4]) rfl ⟨ret_aggs HR.out.symm, ?_⟩
  exact (hB0.trans (Below.mono HK.out.1 (by omega))).trans (by repeat (first | exact Below.refl _ _ | (refine Below.alloc ?_ (by first | omega | (simp; omega) | simp) _) | (refine Below.setCell ?_ (by first | omega | (simp; omega) | simp) _) | refine Below.drew ?_))
end Go.Proofs.Ytojmimfjnnibdaa
