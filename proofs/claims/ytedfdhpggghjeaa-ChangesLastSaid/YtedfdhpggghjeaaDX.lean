/- The laws of changes: ChangesLast. -/
import Derived.Test.YtedfdhpggghjeaaDS
import Derived.Test.YtedfdhpggghjeaaDW
namespace Go.Proofs.Ytedfdhpggghjeaa
set_option linter.unusedVariables false
set_option linter.unusedSimpArgs false
open Go.RowKit Go.Shelf

theorem ThingsAt.take {w : World} {a : Option Addr} {len n : Nat} {ps : List CThing} (h : ThingsAt w a len ps) (hn : n ≤ len) : ThingsAt w a n (ps.take n) := by
  refine ⟨by rw [List.length_take]; have := h.1; omega, by have := h.2.1; omega, fun h0 => ?_⟩
  obtain ⟨b, z, e, hb, hc⟩ := h.2.2 (by omega)
  refine ⟨b, z, e, hb, fun i hi => ?_⟩
  rw [List.length_take] at hi
  simp only [List.getElem_take]
  exact hc i (by omega)
/-- append of one mark, to a row of one's own. -/
theorem wpList_append_mk {ops : Array Oper} {rest : List Oper} {o : Oper} {a : Act} {Q : Exit → Act → World → Prop} (w : World) (n0 k : Nat) (v : Value) (cs : List Value) (q0 q1 q2 : Int) (hgd : o.guard = none) (s x : Operand)
    (ho : o.op = .call { callee := .builtin .append, args := #[s, x], argTypes := #[23, 23] }) (hs : a.eval s = v) (hxv : ∃ p, a.eval x = .slice (some ⟨p, 0, none⟩) 1 1 ∧ w.cell? ⟨p, 0, none⟩ = some (.int .i64 q0) ∧ w.cell? ⟨p, 1, none⟩ = some (.int .i64 q1) ∧ w.cell? ⟨p, 2, none⟩ = some (.int .i64 q2))
    (hrow : w.ownsRow n0 52 3 v k cs) (hl : k ≤ 1000) (hnw : n0 ≤ w.heap.size)
    (h : ∀ v' w', w'.ownsRow n0 52 3 v' (k + 1) (cs ++ [.int .i64 q0, .int .i64 q1, .int .i64 q2]) → w.grownBy w' v.ownBlock → wpList Try.prog ops Q rest (a.put o.dst v') w') : wpList Try.prog ops Q (o :: rest) a w := by
  obtain ⟨p, hxv, h0, h1, h2⟩ := hxv
  obtain ⟨i0, hi0, hy0, hy1, hy2⟩ := info_parts Try.info52
  obtain ⟨v', w3, hr, hown, hgrow, -, -⟩ := run_append_own_at (P := Try.prog) w n0 23 o.type 52 i0 _ 3 24 Try.underlying23 hi0 hy0 hy1 hy2 rfl (by decide) _ k _ hrow ⟨p, 0, none⟩ 1 1 [.int .i64 q0, .int .i64 q1, .int .i64 q2] rfl (by
    intro j x hj
    match j, hj with
    | 0, hj => cases hj; rw [Addr.add_lit]; exact h0
    | 1, hj => cases hj; rw [Addr.add_lit]; exact h1
    | 2, hj => cases hj; rw [Addr.add_lit]; exact h2
    | j + 3, hj => simp at hj) (by intro x hx; simp at hx; rcases hx with rfl | rfl | rfl <;> rfl) (by unfold maxLen; omega) (by omega) hnw
  exact wpList_append_run w hgd s x 23 ho _ _ _ _ hs hxv hr (h v' w3 hown hgrow)
/-- The first marks that are not a thing's. -/
def CHouse.cutTo (h : CHouse) (n j : Nat) : List CMark := (h.marks.take j).filter fun m => decide (m.t ≠ (n : Int))
theorem cutTo_next (h : CHouse) (n j : Nat) (hj : j < h.marks.length) : h.cutTo n (j + 1) = if h.marks[j].t = (n : Int) then h.cutTo n j else h.cutTo n j ++ [h.marks[j]] := by
  unfold CHouse.cutTo
  rw [List.take_succ_eq_append_getElem hj, List.filter_append]
  by_cases e : h.marks[j].t = (n : Int)
  · rw [if_pos e]; simp [e]
  · rw [if_neg e]; simp [e]
theorem cutTo_all (h : CHouse) (n : Nat) : h.cutTo n h.marks.length = (h.cut n).marks := by
  unfold CHouse.cutTo CHouse.cut
  rw [List.take_length]
theorem cutTo_len (h : CHouse) (n j : Nat) : (h.cutTo n j).length ≤ j := by
  unfold CHouse.cutTo
  refine Nat.le_trans (List.length_filter_le _ _) ?_
  rw [List.length_take]
  omega

/-- append([]api.ChangeThing{}, xs...) of a row that is there. -/
theorem wpList_append_things {ops : Array Oper} {rest : List Oper} {o : Oper} {a : Act} {Q : Exit → Act → World → Prop} (w : World) (xl xc : Nat) (xa : Option Addr) (xs : List CThing) (hxl : xs.length = xl) (hl : xl ≤ 1000) (hgd : o.guard = none) (s x : Operand)
    (ho : o.op = .call { callee := .builtin .append, args := #[s, x], argTypes := #[22, 22] }) (hs : ∃ p, a.eval s = .slice (some p) 0 0) (hxv : a.eval x = .slice xa xl xc)
    (hsrc : ThingsAt w xa xl xs)
    (h : ∀ ga c w3, FRow w3 w.heap.size 59 4 (some ga) xl c (xs.flatMap CThing.cells) → CapOk xl c → Below w.heap.size w w3 → wpList Try.prog ops Q rest (a.put o.dst (.slice (some ga) xl c)) w3) : wpList Try.prog ops Q (o :: rest) a w := by
  obtain ⟨p, hs⟩ := hs
  obtain ⟨ga, c, w3, hr, hf, hc, hb⟩ := run_append_freshC (P := Try.prog) w 22 o.type 59 _ 4 32 Try.underlying22 Try.info59 rfl (by decide) (by decide) p xl xc xa (xs.flatMap CThing.cells) (by rw [flat_len4 _ CThing.len, hxl]) (things_srcs hsrc) hl
  exact wpList_append_run w hgd s x _ ho _ _ _ _ hs hxv hr (h ga c w3 hf hc hb)

theorem step_append_mk {ops : Array Oper} {o : Oper} {a : Act} {K : Act → World → Prop} {Q : Exit → Act → World → Prop} {E : Prop} (w : World) (n0 k : Nat) (v : Value) (cs : List Value) (q0 q1 q2 : Int) (hgd : o.guard = none) (s x : Operand)
    (ho : o.op = .call { callee := .builtin .append, args := #[s, x], argTypes := #[23, 23] }) (hs : a.eval s = v) (hxv : ∃ p, a.eval x = .slice (some ⟨p, 0, none⟩) 1 1 ∧ w.cell? ⟨p, 0, none⟩ = some (.int .i64 q0) ∧ w.cell? ⟨p, 1, none⟩ = some (.int .i64 q1) ∧ w.cell? ⟨p, 2, none⟩ = some (.int .i64 q2))
    (hrow : w.ownsRow n0 52 3 v k cs) (hl : k ≤ 1000) (hnw : n0 ≤ w.heap.size)
    (h : ∀ v' w', w'.ownsRow n0 52 3 v' (k + 1) (cs ++ [.int .i64 q0, .int .i64 q1, .int .i64 q2]) → w.grownBy w' v.ownBlock → K (a.put o.dst v') w') : if Region.wanted o (yielded ops a.tmps) = true then Oper.wp Try.prog o a w K Q else E := by
  obtain ⟨p, hxv, h0, h1, h2⟩ := hxv
  obtain ⟨i0, hi0, hy0, hy1, hy2⟩ := info_parts Try.info52
  obtain ⟨v', w3, hr, hown, hgrow, -, -⟩ := run_append_own_at (P := Try.prog) w n0 23 o.type 52 i0 _ 3 24 Try.underlying23 hi0 hy0 hy1 hy2 rfl (by decide) _ k _ hrow ⟨p, 0, none⟩ 1 1 [.int .i64 q0, .int .i64 q1, .int .i64 q2] rfl (by
    intro j x hj
    match j, hj with
    | 0, hj => cases hj; rw [Addr.add_lit]; exact h0
    | 1, hj => cases hj; rw [Addr.add_lit]; exact h1
    | 2, hj => cases hj; rw [Addr.add_lit]; exact h2
    | j + 3, hj => simp at hj) (by intro x hx; simp at hx; rcases hx with rfl | rfl | rfl <;> rfl) (by unfold maxLen; omega) (by omega) hnw
  exact step_append_run w w3 _ _ _ _ hgd s x ho hs hxv hr (h v' w3 hown hgrow)

theorem low_grown {V W wB : World} {R : Option Nat} (h : V.grownBy W R) (hb : Below V.heap.size W wB) : V.grownBy wB R :=
  ⟨hb.os.trans h.os, hb.tape.trans h.tape, hb.output.trans h.output, Nat.le_trans h.size hb.size, fun k hk hne => (hb.block k hk).trans (h.block k hk hne)⟩

set_option maxRecDepth 100000 in
set_option maxHeartbeats 16000000 in
theorem ChangesLast_any (h : CHouse) (ta : Option Addr) (tl tc : Nat) (ma : Option Addr) (ml mc : Nat) (xt xc xm : Int) (htc : tl ≤ tc ∧ tc ≤ maxLen) (w : World) (hp : HAt w ta tl tc ma ml mc h) :
    Calls Try.prog 13 #[.agg #[.slice ta tl tc, .slice ma ml mc], .agg #[.int .i64 xt, .int .i64 xc, .int .i64 xm]] w fun e w' => e = .returned (.bool true) ∧ Below w.heap.size w w' := by
  have HWK := Lib.hid (fun W => works_any W)
  have htm := hp.1.2.1
  unfold maxLen at htm
  have hwl : IntKind.i64.wrap ((tl : Int) - 1) = (tl : Int) - 1 := IntWalk.i64_in _ ⟨by omega, by omega⟩
  clear htm
  have HRD := Lib.hid (fun b (hb : h.ready = b) W (hw : Below w.heap.size w W) => ready_is h ta tl tc ma ml mc b hb W (hp.below hw))
  have HAK := Lib.hid (fun b (hb : h.askB xt xc xm = b) W (hw : Below w.heap.size w W) => isAsk_is h ta tl tc ma ml mc xt xc xm b hb W (hp.below hw))
  rcases hr : h.ready with - | -
  · have HR1 := Lib.hid (HRD.out false hr)
    clear hp HRD HAK
    go_enter Try.func13, Try.ntmps13
    go_wp2_with fail
    obtain ⟨W0, hW0, hB0, ⟨g0_0, g0_1, g0_2, g0_3, g0_4⟩, hz0⟩ : ∃ W0, ((w.alloc (.cells #[.slice ta tl tc, .slice ma ml mc] 25)).alloc (.cells #[.int .i64 xt, .int .i64 xc, .int .i64 xm] 27)) = W0 ∧ Below w.heap.size w W0 ∧ (W0.cell? ⟨w.heap.size, 0, none⟩ = some (.slice ta tl tc) ∧ W0.cell? ⟨w.heap.size, 1, none⟩ = some (.slice ma ml mc) ∧ W0.cell? ⟨w.heap.size + 1, 0, none⟩ = some (.int .i64 xt) ∧ W0.cell? ⟨w.heap.size + 1, 1, none⟩ = some (.int .i64 xc) ∧ W0.cell? ⟨w.heap.size + 1, 2, none⟩ = some (.int .i64 xm)) ∧ W0.heap.size = w.heap.size + 1 + 1 :=
      ⟨_, rfl, (by repeat (first | exact Below.refl _ _ | (refine Below.alloc ?_ (by first | omega | (simp; omega) | simp) _) | (refine Below.setCell ?_ (by first | omega | (simp; omega) | simp) _) | refine Below.drew ?_)), ⟨by go_simp, by go_simp, by go_simp, by go_simp, by go_simp⟩, by simp⟩
    rw [hW0]
    clear hW0
    have HBW := Lib.hid hB0
    have q0_0 : w.heap.size < W0.heap.size := by omega
    have q0_1 : w.heap.size + 1 < W0.heap.size := by omega
    clear hB0 hz0
    go_wp2_with fail
    refine (HR1.out _ (HBW.out.trans (Below.mono (by repeat (first | exact Below.refl _ _ | (refine Below.alloc ?_ (by first | omega | (simp; omega) | simp) _) | (refine Below.setCell ?_ (by first | omega | (simp; omega) | simp) _) | refine Below.drew ?_)) HBW.out.size))).mono ?_
    rintro e v1 ⟨rfl, hb1⟩
    have hB1_0 : Below W0.heap.size W0 v1 := below_via (Lib.hid hb1) (by first | omega | (simp; done) | (simp; omega)) (by repeat (first | exact Below.refl _ _ | (refine Below.alloc ?_ (by first | omega | (simp; omega) | simp) _) | (refine Below.setCell ?_ (by first | omega | (simp; omega) | simp) _) | refine Below.drew ?_))
    have z1 := hb1.size
    (try simp at z1)
    obtain ⟨g1_0, g1_1, g1_2, g1_3, g1_4⟩ : v1.cell? ⟨w.heap.size, 0, none⟩ = some (.slice ta tl tc) ∧ v1.cell? ⟨w.heap.size, 1, none⟩ = some (.slice ma ml mc) ∧ v1.cell? ⟨w.heap.size + 1, 0, none⟩ = some (.int .i64 xt) ∧ v1.cell? ⟨w.heap.size + 1, 1, none⟩ = some (.int .i64 xc) ∧ v1.cell? ⟨w.heap.size + 1, 2, none⟩ = some (.int .i64 xm) :=
      ⟨(hb1.cell (p := ⟨w.heap.size, 0, none⟩) (by first | omega | (simp; done) | (simp; omega))).trans (by first | (go_simp; done) | (go_simp; exact set_same (u := .int .i64 0) (by go_simp; done))), (hb1.cell (p := ⟨w.heap.size, 1, none⟩) (by first | omega | (simp; done) | (simp; omega))).trans (by first | (go_simp; done) | (go_simp; exact set_same (u := .int .i64 0) (by go_simp; done))), (hb1.cell (p := ⟨w.heap.size + 1, 0, none⟩) (by first | omega | (simp; done) | (simp; omega))).trans (by first | (go_simp; done) | (go_simp; exact set_same (u := .int .i64 0) (by go_simp; done))), (hb1.cell (p := ⟨w.heap.size + 1, 1, none⟩) (by first | omega | (simp; done) | (simp; omega))).trans (by first | (go_simp; done) | (go_simp; exact set_same (u := .int .i64 0) (by go_simp; done))), (hb1.cell (p := ⟨w.heap.size + 1, 2, none⟩) (by first | omega | (simp; done) | (simp; omega))).trans (by first | (go_simp; done) | (go_simp; exact set_same (u := .int .i64 0) (by go_simp; done)))⟩
    have q1_0 : w.heap.size < v1.heap.size := by first | omega | (simp at *; omega)
    have q1_1 : w.heap.size + 1 < v1.heap.size := by first | omega | (simp at *; omega)
    have HB1 := Lib.hid hB1_0
    have y1 := hB1_0.size
    clear hb1 hB1_0 g0_0 g0_1 g0_2 g0_3 g0_4 q0_0 q0_1
    go_wp2_with fail
    refine (HWK.out _).mono ?_
    rintro e v2 ⟨rfl, hb2⟩
    have hB2_0 : Below W0.heap.size W0 v2 := below_via (Lib.hid hb2) (by first | omega | (simp; done) | (simp; omega)) (by repeat (first | exact Below.refl _ _ | with_reducible exact HB1.out | (refine Below.alloc ?_ (by first | omega | (simp; omega) | simp) _) | (refine Below.setCell ?_ (by first | omega | (simp; omega) | simp) _) | refine Below.drew ?_))
    have z2 := hb2.size
    (try simp at z2)
    have HB2 := Lib.hid hB2_0
    have y2 := hB2_0.size
    clear hb2 hB2_0 g1_0 g1_1 g1_2 g1_3 g1_4 q1_0 q1_1
    go_wp2_with fail
    go_ret
    exact ⟨rfl, HBW.out.trans (Below.mono (by repeat (first | exact Below.refl _ _ | with_reducible exact HB2.out | (refine Below.alloc ?_ (by first | omega | (simp; omega) | simp) _) | (refine Below.setCell ?_ (by first | omega | (simp; omega) | simp) _) | refine Below.drew ?_)) HBW.out.size)⟩
  · have HR1 := Lib.hid (HRD.out true hr)
    rcases ha : h.askB xt xc xm with - | -
    · have HA1 := Lib.hid (HAK.out false ha)
      clear hp HRD HAK
      go_enter Try.func13, Try.ntmps13
      go_wp2_with fail
      obtain ⟨W0, hW0, hB0, ⟨g0_0, g0_1, g0_2, g0_3, g0_4⟩, hz0⟩ : ∃ W0, ((w.alloc (.cells #[.slice ta tl tc, .slice ma ml mc] 25)).alloc (.cells #[.int .i64 xt, .int .i64 xc, .int .i64 xm] 27)) = W0 ∧ Below w.heap.size w W0 ∧ (W0.cell? ⟨w.heap.size, 0, none⟩ = some (.slice ta tl tc) ∧ W0.cell? ⟨w.heap.size, 1, none⟩ = some (.slice ma ml mc) ∧ W0.cell? ⟨w.heap.size + 1, 0, none⟩ = some (.int .i64 xt) ∧ W0.cell? ⟨w.heap.size + 1, 1, none⟩ = some (.int .i64 xc) ∧ W0.cell? ⟨w.heap.size + 1, 2, none⟩ = some (.int .i64 xm)) ∧ W0.heap.size = w.heap.size + 1 + 1 :=
        ⟨_, rfl, (by repeat (first | exact Below.refl _ _ | (refine Below.alloc ?_ (by first | omega | (simp; omega) | simp) _) | (refine Below.setCell ?_ (by first | omega | (simp; omega) | simp) _) | refine Below.drew ?_)), ⟨by go_simp, by go_simp, by go_simp, by go_simp, by go_simp⟩, by simp⟩
      rw [hW0]
      clear hW0
      have HBW := Lib.hid hB0
      have q0_0 : w.heap.size < W0.heap.size := by omega
      have q0_1 : w.heap.size + 1 < W0.heap.size := by omega
      clear hB0 hz0
      go_wp2_with fail
      refine (HR1.out _ (HBW.out.trans (Below.mono (by repeat (first | exact Below.refl _ _ | (refine Below.alloc ?_ (by first | omega | (simp; omega) | simp) _) | (refine Below.setCell ?_ (by first | omega | (simp; omega) | simp) _) | refine Below.drew ?_)) HBW.out.size))).mono ?_
      rintro e v1 ⟨rfl, hb1⟩
      have hB1_0 : Below W0.heap.size W0 v1 := below_via (Lib.hid hb1) (by first | omega | (simp; done) | (simp; omega)) (by repeat (first | exact Below.refl _ _ | (refine Below.alloc ?_ (by first | omega | (simp; omega) | simp) _) | (refine Below.setCell ?_ (by first | omega | (simp; omega) | simp) _) | refine Below.drew ?_))
      have z1 := hb1.size
      (try simp at z1)
      obtain ⟨g1_0, g1_1, g1_2, g1_3, g1_4⟩ : v1.cell? ⟨w.heap.size, 0, none⟩ = some (.slice ta tl tc) ∧ v1.cell? ⟨w.heap.size, 1, none⟩ = some (.slice ma ml mc) ∧ v1.cell? ⟨w.heap.size + 1, 0, none⟩ = some (.int .i64 xt) ∧ v1.cell? ⟨w.heap.size + 1, 1, none⟩ = some (.int .i64 xc) ∧ v1.cell? ⟨w.heap.size + 1, 2, none⟩ = some (.int .i64 xm) :=
        ⟨(hb1.cell (p := ⟨w.heap.size, 0, none⟩) (by first | omega | (simp; done) | (simp; omega))).trans (by first | (go_simp; done) | (go_simp; exact set_same (u := .int .i64 0) (by go_simp; done))), (hb1.cell (p := ⟨w.heap.size, 1, none⟩) (by first | omega | (simp; done) | (simp; omega))).trans (by first | (go_simp; done) | (go_simp; exact set_same (u := .int .i64 0) (by go_simp; done))), (hb1.cell (p := ⟨w.heap.size + 1, 0, none⟩) (by first | omega | (simp; done) | (simp; omega))).trans (by first | (go_simp; done) | (go_simp; exact set_same (u := .int .i64 0) (by go_simp; done))), (hb1.cell (p := ⟨w.heap.size + 1, 1, none⟩) (by first | omega | (simp; done) | (simp; omega))).trans (by first | (go_simp; done) | (go_simp; exact set_same (u := .int .i64 0) (by go_simp; done))), (hb1.cell (p := ⟨w.heap.size + 1, 2, none⟩) (by first | omega | (simp; done) | (simp; omega))).trans (by first | (go_simp; done) | (go_simp; exact set_same (u := .int .i64 0) (by go_simp; done)))⟩
      have q1_0 : w.heap.size < v1.heap.size := by first | omega | (simp at *; omega)
      have q1_1 : w.heap.size + 1 < v1.heap.size := by first | omega | (simp at *; omega)
      have HB1 := Lib.hid hB1_0
      have y1 := hB1_0.size
      clear hb1 hB1_0 g0_0 g0_1 g0_2 g0_3 g0_4 q0_0 q0_1
      go_wp2_with fail
      refine (HA1.out _ (HBW.out.trans (Below.mono (by repeat (first | exact Below.refl _ _ | with_reducible exact HB1.out | (refine Below.alloc ?_ (by first | omega | (simp; omega) | simp) _) | (refine Below.setCell ?_ (by first | omega | (simp; omega) | simp) _) | refine Below.drew ?_)) HBW.out.size))).mono ?_
      rintro e v2 ⟨rfl, hb2⟩
      have hB2_0 : Below W0.heap.size W0 v2 := below_via (Lib.hid hb2) (by first | omega | (simp; done) | (simp; omega)) (by repeat (first | exact Below.refl _ _ | with_reducible exact HB1.out | (refine Below.alloc ?_ (by first | omega | (simp; omega) | simp) _) | (refine Below.setCell ?_ (by first | omega | (simp; omega) | simp) _) | refine Below.drew ?_))
      have z2 := hb2.size
      (try simp at z2)
      obtain ⟨g2_0, g2_1, g2_2, g2_3, g2_4⟩ : v2.cell? ⟨w.heap.size, 0, none⟩ = some (.slice ta tl tc) ∧ v2.cell? ⟨w.heap.size, 1, none⟩ = some (.slice ma ml mc) ∧ v2.cell? ⟨w.heap.size + 1, 0, none⟩ = some (.int .i64 xt) ∧ v2.cell? ⟨w.heap.size + 1, 1, none⟩ = some (.int .i64 xc) ∧ v2.cell? ⟨w.heap.size + 1, 2, none⟩ = some (.int .i64 xm) :=
        ⟨(hb2.cell (p := ⟨w.heap.size, 0, none⟩) (by first | omega | (simp; done) | (simp; omega))).trans (by first | (go_simp; done) | (go_simp; exact set_same (u := .int .i64 0) (by go_simp; done))), (hb2.cell (p := ⟨w.heap.size, 1, none⟩) (by first | omega | (simp; done) | (simp; omega))).trans (by first | (go_simp; done) | (go_simp; exact set_same (u := .int .i64 0) (by go_simp; done))), (hb2.cell (p := ⟨w.heap.size + 1, 0, none⟩) (by first | omega | (simp; done) | (simp; omega))).trans (by first | (go_simp; done) | (go_simp; exact set_same (u := .int .i64 0) (by go_simp; done))), (hb2.cell (p := ⟨w.heap.size + 1, 1, none⟩) (by first | omega | (simp; done) | (simp; omega))).trans (by first | (go_simp; done) | (go_simp; exact set_same (u := .int .i64 0) (by go_simp; done))), (hb2.cell (p := ⟨w.heap.size + 1, 2, none⟩) (by first | omega | (simp; done) | (simp; omega))).trans (by first | (go_simp; done) | (go_simp; exact set_same (u := .int .i64 0) (by go_simp; done)))⟩
      have q2_0 : w.heap.size < v2.heap.size := by first | omega | (simp at *; omega)
      have q2_1 : w.heap.size + 1 < v2.heap.size := by first | omega | (simp at *; omega)
      have HB2 := Lib.hid hB2_0
      have y2 := hB2_0.size
      clear hb2 hB2_0 g1_0 g1_1 g1_2 g1_3 g1_4 q1_0 q1_1
      go_wp2_with fail
      refine (HWK.out _).mono ?_
      rintro e v3 ⟨rfl, hb3⟩
      have hB3_0 : Below W0.heap.size W0 v3 := below_via (Lib.hid hb3) (by first | omega | (simp; done) | (simp; omega)) (by repeat (first | exact Below.refl _ _ | with_reducible exact HB2.out | (refine Below.alloc ?_ (by first | omega | (simp; omega) | simp) _) | (refine Below.setCell ?_ (by first | omega | (simp; omega) | simp) _) | refine Below.drew ?_))
      have z3 := hb3.size
      (try simp at z3)
      have HB3 := Lib.hid hB3_0
      have y3 := hB3_0.size
      clear hb3 hB3_0 g2_0 g2_1 g2_2 g2_3 g2_4 q2_0 q2_1
      go_wp2_with fail
      go_ret
      exact ⟨rfl, HBW.out.trans (Below.mono (by repeat (first | exact Below.refl _ _ | with_reducible exact HB3.out | (refine Below.alloc ?_ (by first | omega | (simp; omega) | simp) _) | (refine Below.setCell ?_ (by first | omega | (simp; omega) | simp) _) | refine Below.drew ?_)) HBW.out.size)⟩
    · have HA1 := Lib.hid (HAK.out true ha)
      by_cases hxl : xt = (tl : Int) - 1
      · clear hp HRD HAK hr ha
        subst hxl
        go_enter Try.func13, Try.ntmps13
        go_wp2_with fail
        obtain ⟨W0, hW0, hB0, ⟨g0_0, g0_1, g0_2, g0_3, g0_4⟩, hz0⟩ : ∃ W0, ((w.alloc (.cells #[.slice ta tl tc, .slice ma ml mc] 25)).alloc (.cells #[.int .i64 ((tl : Int) - 1), .int .i64 xc, .int .i64 xm] 27)) = W0 ∧ Below w.heap.size w W0 ∧ (W0.cell? ⟨w.heap.size, 0, none⟩ = some (.slice ta tl tc) ∧ W0.cell? ⟨w.heap.size, 1, none⟩ = some (.slice ma ml mc) ∧ W0.cell? ⟨w.heap.size + 1, 0, none⟩ = some (.int .i64 ((tl : Int) - 1)) ∧ W0.cell? ⟨w.heap.size + 1, 1, none⟩ = some (.int .i64 xc) ∧ W0.cell? ⟨w.heap.size + 1, 2, none⟩ = some (.int .i64 xm)) ∧ W0.heap.size = w.heap.size + 1 + 1 :=
          ⟨_, rfl, (by repeat (first | exact Below.refl _ _ | (refine Below.alloc ?_ (by first | omega | (simp; omega) | simp) _) | (refine Below.setCell ?_ (by first | omega | (simp; omega) | simp) _) | refine Below.drew ?_)), ⟨by go_simp, by go_simp, by go_simp, by go_simp, by go_simp⟩, by simp⟩
        rw [hW0]
        clear hW0
        have HBW := Lib.hid hB0
        have q0_0 : w.heap.size < W0.heap.size := by omega
        have q0_1 : w.heap.size + 1 < W0.heap.size := by omega
        clear hB0 hz0
        go_wp2_with fail
        refine (HR1.out _ (HBW.out.trans (Below.mono (by repeat (first | exact Below.refl _ _ | (refine Below.alloc ?_ (by first | omega | (simp; omega) | simp) _) | (refine Below.setCell ?_ (by first | omega | (simp; omega) | simp) _) | refine Below.drew ?_)) HBW.out.size))).mono ?_
        rintro e v1 ⟨rfl, hb1⟩
        have hB1_0 : Below W0.heap.size W0 v1 := below_via (Lib.hid hb1) (by first | omega | (simp; done) | (simp; omega)) (by repeat (first | exact Below.refl _ _ | (refine Below.alloc ?_ (by first | omega | (simp; omega) | simp) _) | (refine Below.setCell ?_ (by first | omega | (simp; omega) | simp) _) | refine Below.drew ?_))
        have z1 := hb1.size
        (try simp at z1)
        obtain ⟨g1_0, g1_1, g1_2, g1_3, g1_4⟩ : v1.cell? ⟨w.heap.size, 0, none⟩ = some (.slice ta tl tc) ∧ v1.cell? ⟨w.heap.size, 1, none⟩ = some (.slice ma ml mc) ∧ v1.cell? ⟨w.heap.size + 1, 0, none⟩ = some (.int .i64 ((tl : Int) - 1)) ∧ v1.cell? ⟨w.heap.size + 1, 1, none⟩ = some (.int .i64 xc) ∧ v1.cell? ⟨w.heap.size + 1, 2, none⟩ = some (.int .i64 xm) :=
          ⟨(hb1.cell (p := ⟨w.heap.size, 0, none⟩) (by first | omega | (simp; done) | (simp; omega))).trans (by first | (go_simp; done) | (go_simp; exact set_same (u := .int .i64 0) (by go_simp; done))), (hb1.cell (p := ⟨w.heap.size, 1, none⟩) (by first | omega | (simp; done) | (simp; omega))).trans (by first | (go_simp; done) | (go_simp; exact set_same (u := .int .i64 0) (by go_simp; done))), (hb1.cell (p := ⟨w.heap.size + 1, 0, none⟩) (by first | omega | (simp; done) | (simp; omega))).trans (by first | (go_simp; done) | (go_simp; exact set_same (u := .int .i64 0) (by go_simp; done))), (hb1.cell (p := ⟨w.heap.size + 1, 1, none⟩) (by first | omega | (simp; done) | (simp; omega))).trans (by first | (go_simp; done) | (go_simp; exact set_same (u := .int .i64 0) (by go_simp; done))), (hb1.cell (p := ⟨w.heap.size + 1, 2, none⟩) (by first | omega | (simp; done) | (simp; omega))).trans (by first | (go_simp; done) | (go_simp; exact set_same (u := .int .i64 0) (by go_simp; done)))⟩
        have q1_0 : w.heap.size < v1.heap.size := by first | omega | (simp at *; omega)
        have q1_1 : w.heap.size + 1 < v1.heap.size := by first | omega | (simp at *; omega)
        have HB1 := Lib.hid hB1_0
        have y1 := hB1_0.size
        clear hb1 hB1_0 g0_0 g0_1 g0_2 g0_3 g0_4 q0_0 q0_1
        go_wp2_with fail
        refine (HA1.out _ (HBW.out.trans (Below.mono (by repeat (first | exact Below.refl _ _ | with_reducible exact HB1.out | (refine Below.alloc ?_ (by first | omega | (simp; omega) | simp) _) | (refine Below.setCell ?_ (by first | omega | (simp; omega) | simp) _) | refine Below.drew ?_)) HBW.out.size))).mono ?_
        rintro e v2 ⟨rfl, hb2⟩
        have hB2_0 : Below W0.heap.size W0 v2 := below_via (Lib.hid hb2) (by first | omega | (simp; done) | (simp; omega)) (by repeat (first | exact Below.refl _ _ | with_reducible exact HB1.out | (refine Below.alloc ?_ (by first | omega | (simp; omega) | simp) _) | (refine Below.setCell ?_ (by first | omega | (simp; omega) | simp) _) | refine Below.drew ?_))
        have z2 := hb2.size
        (try simp at z2)
        obtain ⟨g2_0, g2_1, g2_2, g2_3, g2_4⟩ : v2.cell? ⟨w.heap.size, 0, none⟩ = some (.slice ta tl tc) ∧ v2.cell? ⟨w.heap.size, 1, none⟩ = some (.slice ma ml mc) ∧ v2.cell? ⟨w.heap.size + 1, 0, none⟩ = some (.int .i64 ((tl : Int) - 1)) ∧ v2.cell? ⟨w.heap.size + 1, 1, none⟩ = some (.int .i64 xc) ∧ v2.cell? ⟨w.heap.size + 1, 2, none⟩ = some (.int .i64 xm) :=
          ⟨(hb2.cell (p := ⟨w.heap.size, 0, none⟩) (by first | omega | (simp; done) | (simp; omega))).trans (by first | (go_simp; done) | (go_simp; exact set_same (u := .int .i64 0) (by go_simp; done))), (hb2.cell (p := ⟨w.heap.size, 1, none⟩) (by first | omega | (simp; done) | (simp; omega))).trans (by first | (go_simp; done) | (go_simp; exact set_same (u := .int .i64 0) (by go_simp; done))), (hb2.cell (p := ⟨w.heap.size + 1, 0, none⟩) (by first | omega | (simp; done) | (simp; omega))).trans (by first | (go_simp; done) | (go_simp; exact set_same (u := .int .i64 0) (by go_simp; done))), (hb2.cell (p := ⟨w.heap.size + 1, 1, none⟩) (by first | omega | (simp; done) | (simp; omega))).trans (by first | (go_simp; done) | (go_simp; exact set_same (u := .int .i64 0) (by go_simp; done))), (hb2.cell (p := ⟨w.heap.size + 1, 2, none⟩) (by first | omega | (simp; done) | (simp; omega))).trans (by first | (go_simp; done) | (go_simp; exact set_same (u := .int .i64 0) (by go_simp; done)))⟩
        have q2_0 : w.heap.size < v2.heap.size := by first | omega | (simp at *; omega)
        have q2_1 : w.heap.size + 1 < v2.heap.size := by first | omega | (simp at *; omega)
        have HB2 := Lib.hid hB2_0
        have y2 := hB2_0.size
        clear hb2 hB2_0 g1_0 g1_1 g1_2 g1_3 g1_4 q1_0 q1_1
        go_wp2_with fail
        refine (HWK.out _).mono ?_
        rintro e v3 ⟨rfl, hb3⟩
        have hB3_0 : Below W0.heap.size W0 v3 := below_via (Lib.hid hb3) (by first | omega | (simp; done) | (simp; omega)) (by repeat (first | exact Below.refl _ _ | with_reducible exact HB2.out | (refine Below.alloc ?_ (by first | omega | (simp; omega) | simp) _) | (refine Below.setCell ?_ (by first | omega | (simp; omega) | simp) _) | refine Below.drew ?_))
        have z3 := hb3.size
        (try simp at z3)
        have HB3 := Lib.hid hB3_0
        have y3 := hB3_0.size
        clear hb3 hB3_0 g2_0 g2_1 g2_2 g2_3 g2_4 q2_0 q2_1
        go_wp2_with fail
        go_ret
        exact ⟨rfl, HBW.out.trans (Below.mono (by repeat (first | exact Below.refl _ _ | with_reducible exact HB3.out | (refine Below.alloc ?_ (by first | omega | (simp; omega) | simp) _) | (refine Below.setCell ?_ (by first | omega | (simp; omega) | simp) _) | refine Below.drew ?_)) HBW.out.size)⟩
      · obtain ⟨⟨k, rfl, hk⟩, hc, hm⟩ := ask_parts ha
        obtain ⟨ho, h8, hm6⟩ := ready_parts hr
        have htl := hp.1.1
        have hml := hp.2.1.1
        obtain ⟨n, rfl⟩ : ∃ n, tl = n + 1 := ⟨tl - 1, by omega⟩
        have hxl2 : ((k : Int) == ((n + 1 : Nat) : Int) - 1) = false := by simpa using hxl
        have hwl2 : ((n + 1 : Nat) : Int) - 1 = (n : Int) := by omega
        rw [hwl2] at hwl hxl hxl2
        obtain ⟨htc1, htc2⟩ := htc
        unfold maxLen at htc2
        obtain ⟨tb, tz, rfl, htB, -⟩ := hp.1.2.2 (by omega)
        have HTK := Lib.hid (fun W (hw : Below w.heap.size w W) => (hp.1.below hw).take (n := n) (by omega))
        have HMA := Lib.hid hp.2.1
        have HHA := Lib.hid hp
        clear hp HRD HAK hr ha
        go_enter Try.func13, Try.ntmps13
        go_wp2_with fail
        obtain ⟨W0, hW0, hB0, ⟨g0_0, g0_1, g0_2, g0_3, g0_4⟩, hz0⟩ : ∃ W0, ((w.alloc (.cells #[.slice (some ⟨tb, tz, none⟩) (n + 1) tc, .slice ma ml mc] 25)).alloc (.cells #[.int .i64 k, .int .i64 xc, .int .i64 xm] 27)) = W0 ∧ Below w.heap.size w W0 ∧ (W0.cell? ⟨w.heap.size, 0, none⟩ = some (.slice (some ⟨tb, tz, none⟩) (n + 1) tc) ∧ W0.cell? ⟨w.heap.size, 1, none⟩ = some (.slice ma ml mc) ∧ W0.cell? ⟨w.heap.size + 1, 0, none⟩ = some (.int .i64 k) ∧ W0.cell? ⟨w.heap.size + 1, 1, none⟩ = some (.int .i64 xc) ∧ W0.cell? ⟨w.heap.size + 1, 2, none⟩ = some (.int .i64 xm)) ∧ W0.heap.size = w.heap.size + 1 + 1 :=
          ⟨_, rfl, (by repeat (first | exact Below.refl _ _ | (refine Below.alloc ?_ (by first | omega | (simp; omega) | simp) _) | (refine Below.setCell ?_ (by first | omega | (simp; omega) | simp) _) | refine Below.drew ?_)), ⟨by go_simp, by go_simp, by go_simp, by go_simp, by go_simp⟩, by simp⟩
        rw [hW0]
        clear hW0
        have HBW := Lib.hid hB0
        have q0_0 : w.heap.size < W0.heap.size := by omega
        have q0_1 : w.heap.size + 1 < W0.heap.size := by omega
        clear hB0 hz0
        go_wp2_with fail
        refine (HR1.out _ (HBW.out.trans (Below.mono (by repeat (first | exact Below.refl _ _ | (refine Below.alloc ?_ (by first | omega | (simp; omega) | simp) _) | (refine Below.setCell ?_ (by first | omega | (simp; omega) | simp) _) | refine Below.drew ?_)) HBW.out.size))).mono ?_
        rintro e v1 ⟨rfl, hb1⟩
        have hB1_0 : Below W0.heap.size W0 v1 := below_via (Lib.hid hb1) (by first | omega | (simp; done) | (simp; omega)) (by repeat (first | exact Below.refl _ _ | (refine Below.alloc ?_ (by first | omega | (simp; omega) | simp) _) | (refine Below.setCell ?_ (by first | omega | (simp; omega) | simp) _) | refine Below.drew ?_))
        have z1 := hb1.size
        (try simp at z1)
        obtain ⟨g1_0, g1_1, g1_2, g1_3, g1_4⟩ : v1.cell? ⟨w.heap.size, 0, none⟩ = some (.slice (some ⟨tb, tz, none⟩) (n + 1) tc) ∧ v1.cell? ⟨w.heap.size, 1, none⟩ = some (.slice ma ml mc) ∧ v1.cell? ⟨w.heap.size + 1, 0, none⟩ = some (.int .i64 k) ∧ v1.cell? ⟨w.heap.size + 1, 1, none⟩ = some (.int .i64 xc) ∧ v1.cell? ⟨w.heap.size + 1, 2, none⟩ = some (.int .i64 xm) :=
          ⟨(hb1.cell (p := ⟨w.heap.size, 0, none⟩) (by first | omega | (simp; done) | (simp; omega))).trans (by first | (go_simp; done) | (go_simp; exact set_same (u := .int .i64 0) (by go_simp; done))), (hb1.cell (p := ⟨w.heap.size, 1, none⟩) (by first | omega | (simp; done) | (simp; omega))).trans (by first | (go_simp; done) | (go_simp; exact set_same (u := .int .i64 0) (by go_simp; done))), (hb1.cell (p := ⟨w.heap.size + 1, 0, none⟩) (by first | omega | (simp; done) | (simp; omega))).trans (by first | (go_simp; done) | (go_simp; exact set_same (u := .int .i64 0) (by go_simp; done))), (hb1.cell (p := ⟨w.heap.size + 1, 1, none⟩) (by first | omega | (simp; done) | (simp; omega))).trans (by first | (go_simp; done) | (go_simp; exact set_same (u := .int .i64 0) (by go_simp; done))), (hb1.cell (p := ⟨w.heap.size + 1, 2, none⟩) (by first | omega | (simp; done) | (simp; omega))).trans (by first | (go_simp; done) | (go_simp; exact set_same (u := .int .i64 0) (by go_simp; done)))⟩
        have q1_0 : w.heap.size < v1.heap.size := by first | omega | (simp at *; omega)
        have q1_1 : w.heap.size + 1 < v1.heap.size := by first | omega | (simp at *; omega)
        have HB1 := Lib.hid hB1_0
        have y1 := hB1_0.size
        clear hb1 hB1_0 g0_0 g0_1 g0_2 g0_3 g0_4 q0_0 q0_1
        go_wp2_with fail
        refine (HA1.out _ (HBW.out.trans (Below.mono (by repeat (first | exact Below.refl _ _ | with_reducible exact HB1.out | (refine Below.alloc ?_ (by first | omega | (simp; omega) | simp) _) | (refine Below.setCell ?_ (by first | omega | (simp; omega) | simp) _) | refine Below.drew ?_)) HBW.out.size))).mono ?_
        rintro e v2 ⟨rfl, hb2⟩
        have hB2_0 : Below W0.heap.size W0 v2 := below_via (Lib.hid hb2) (by first | omega | (simp; done) | (simp; omega)) (by repeat (first | exact Below.refl _ _ | with_reducible exact HB1.out | (refine Below.alloc ?_ (by first | omega | (simp; omega) | simp) _) | (refine Below.setCell ?_ (by first | omega | (simp; omega) | simp) _) | refine Below.drew ?_))
        have z2 := hb2.size
        (try simp at z2)
        obtain ⟨g2_0, g2_1, g2_2, g2_3, g2_4⟩ : v2.cell? ⟨w.heap.size, 0, none⟩ = some (.slice (some ⟨tb, tz, none⟩) (n + 1) tc) ∧ v2.cell? ⟨w.heap.size, 1, none⟩ = some (.slice ma ml mc) ∧ v2.cell? ⟨w.heap.size + 1, 0, none⟩ = some (.int .i64 k) ∧ v2.cell? ⟨w.heap.size + 1, 1, none⟩ = some (.int .i64 xc) ∧ v2.cell? ⟨w.heap.size + 1, 2, none⟩ = some (.int .i64 xm) :=
          ⟨(hb2.cell (p := ⟨w.heap.size, 0, none⟩) (by first | omega | (simp; done) | (simp; omega))).trans (by first | (go_simp; done) | (go_simp; exact set_same (u := .int .i64 0) (by go_simp; done))), (hb2.cell (p := ⟨w.heap.size, 1, none⟩) (by first | omega | (simp; done) | (simp; omega))).trans (by first | (go_simp; done) | (go_simp; exact set_same (u := .int .i64 0) (by go_simp; done))), (hb2.cell (p := ⟨w.heap.size + 1, 0, none⟩) (by first | omega | (simp; done) | (simp; omega))).trans (by first | (go_simp; done) | (go_simp; exact set_same (u := .int .i64 0) (by go_simp; done))), (hb2.cell (p := ⟨w.heap.size + 1, 1, none⟩) (by first | omega | (simp; done) | (simp; omega))).trans (by first | (go_simp; done) | (go_simp; exact set_same (u := .int .i64 0) (by go_simp; done))), (hb2.cell (p := ⟨w.heap.size + 1, 2, none⟩) (by first | omega | (simp; done) | (simp; omega))).trans (by first | (go_simp; done) | (go_simp; exact set_same (u := .int .i64 0) (by go_simp; done)))⟩
        have q2_0 : w.heap.size < v2.heap.size := by first | omega | (simp at *; omega)
        have q2_1 : w.heap.size + 1 < v2.heap.size := by first | omega | (simp at *; omega)
        have HB2 := Lib.hid hB2_0
        have y2 := hB2_0.size
        clear hb2 hB2_0 g1_0 g1_1 g1_2 g1_3 g1_4 q1_0 q1_1
        have hn8 : n ≤ 1000 := by omega
        have hnt : n ≤ tc := by omega
        have hn0 : (0 : Int) ≤ (n : Int) := by omega
        have hti : (n : Int) ≤ (tc : Int) := by omega
        have hlen : (h.things.take n).length = n := by rw [List.length_take]; omega
        go_upto_region 5 with (at_builtin; go_must (refine wpList_append_things _ n tc (some ⟨tb, tz, none⟩) (h.things.take n) hlen hn8 rfl _ _ rfl ⟨_, rfl⟩ rfl ?_ ?_); go_must (focus (exact HTK.out _ ((HBW.out.trans (Below.mono HB2.out HBW.out.size)).trans (by repeat (first | exact Below.refl _ _ | (refine Below.alloc ?_ (by first | omega | (simp; omega) | simp) _) | (refine Below.setCell ?_ (by first | omega | (simp; omega) | simp) _) | refine Below.drew ?_))))); intro g3 c3 w3 hF3 hC3 hb3; have HB3 := Lib.hid (show Below v2.heap.size v2 w3 from below_via (Lib.hid hb3) (by first | exact Nat.le_refl _ | (simp; done) | (simp; omega)) (by repeat (first | exact Below.refl _ _ | (refine Below.alloc ?_ (by first | omega | (simp; omega) | simp) _) | (refine Below.setCell ?_ (by first | omega | (simp; omega) | simp) _) | refine Below.drew ?_))); have HF3 := Lib.hid (hF3.low (n1 := v2.heap.size) (by first | exact Nat.le_refl _ | (simp; done) | (simp; omega))); have HC3 := Lib.hid hC3; clear hF3 hC3 hb3)
        obtain ⟨gb, hgb⟩ : ∃ gb, gb = w3.heap.size := ⟨_, rfl⟩
        obtain ⟨V, hV, ⟨p0, p1, p2, p3, p4⟩, ⟨b0, b1, b2, b3⟩, hfr, hbV, hgV⟩ : ∃ V, w3.alloc (.cells #[.slice (some g3) n c3, .slice none 0 0] 25) = V ∧ (V.cell? ⟨w.heap.size, 0, none⟩ = some (.slice (some ⟨tb, tz, none⟩) (n + 1) tc) ∧ V.cell? ⟨w.heap.size, 1, none⟩ = some (.slice ma ml mc) ∧ V.cell? ⟨w.heap.size + 1, 0, none⟩ = some (.int .i64 k) ∧ V.cell? ⟨w.heap.size + 1, 1, none⟩ = some (.int .i64 xc) ∧ V.cell? ⟨w.heap.size + 1, 2, none⟩ = some (.int .i64 xm)) ∧ (V.cell? ⟨gb, 0, none⟩ = some (.slice (some g3) n c3) ∧ V.cell? ⟨gb, 1, none⟩ = some (.slice none 0 0) ∧ V.frozen? ⟨gb, 0, none⟩ = false ∧ V.frozen? ⟨gb, 1, none⟩ = false) ∧ FRow V v2.heap.size 59 4 (some g3) n c3 ((h.things.take n).flatMap CThing.cells) ∧ Below w.heap.size w V ∧ gb < V.heap.size ∧ ∃ cc, V.heap[gb]? = some (.cells cc 25 (0, 0)) := by
          subst hgb
          have hb3 := HB3.out
          refine ⟨_, rfl, ⟨?_, ?_, ?_, ?_, ?_⟩, ⟨by go_simp, by go_simp, by go_simp, by go_simp⟩, ?_, ?_, by simp, _, World.alloc_heap_new _ _⟩
          · have q := (hb3.cell (p := ⟨w.heap.size, 0, none⟩) q2_0).trans g2_0; have hz3 := hb3.size; exact ((Below.alloc (Below.refl w3.heap.size w3) (Nat.le_refl _) _).cell (p := ⟨_, _, none⟩) (by first | (show w.heap.size < _; omega) | (show w.heap.size + 1 < _; omega))).trans q
          · have q := (hb3.cell (p := ⟨w.heap.size, 1, none⟩) q2_0).trans g2_1; have hz3 := hb3.size; exact ((Below.alloc (Below.refl w3.heap.size w3) (Nat.le_refl _) _).cell (p := ⟨_, _, none⟩) (by first | (show w.heap.size < _; omega) | (show w.heap.size + 1 < _; omega))).trans q
          · have q := (hb3.cell (p := ⟨w.heap.size + 1, 0, none⟩) q2_1).trans g2_2; have hz3 := hb3.size; exact ((Below.alloc (Below.refl w3.heap.size w3) (Nat.le_refl _) _).cell (p := ⟨_, _, none⟩) (by first | (show w.heap.size < _; omega) | (show w.heap.size + 1 < _; omega))).trans q
          · have q := (hb3.cell (p := ⟨w.heap.size + 1, 1, none⟩) q2_1).trans g2_3; have hz3 := hb3.size; exact ((Below.alloc (Below.refl w3.heap.size w3) (Nat.le_refl _) _).cell (p := ⟨_, _, none⟩) (by first | (show w.heap.size < _; omega) | (show w.heap.size + 1 < _; omega))).trans q
          · have q := (hb3.cell (p := ⟨w.heap.size + 1, 2, none⟩) q2_1).trans g2_4; have hz3 := hb3.size; exact ((Below.alloc (Below.refl w3.heap.size w3) (Nat.le_refl _) _).cell (p := ⟨_, _, none⟩) (by first | (show w.heap.size < _; omega) | (show w.heap.size + 1 < _; omega))).trans q
          · exact HF3.out.kept (gbx_alloc (gbx_refl _ none) _) (fun r e => by cases e)
          · exact ((HBW.out.trans (Below.mono HB2.out HBW.out.size)).trans (Below.mono hb3 (by have := HBW.out.size; omega))).alloc (by have := hb3.size; omega) _
        have hgbw : v2.heap.size ≤ gb := by have := HB3.out.size; omega
        rw [hV, ← hgb]
        clear hV hgb HB3 HF3 g2_0 g2_1 g2_2 g2_3 g2_4
        have HFR := Lib.hid hfr
        have HBV := Lib.hid hbV
        have HP := Lib.hid (And.intro p0 (And.intro p1 (And.intro p2 (And.intro p3 p4))))
        have HG := Lib.hid hgV.2
        have hgV := hgV.1
        clear hfr hbV p0 p1 p2 p3 p4
        go_wp2_with fail
        go_loopw [7] (fun i wr => ∃ (j : Nat) (na : Option Addr) (nl nc : Nat), j ≤ ml ∧ i = .int .i64 j ∧ nl = (h.cutTo n j).length ∧ (wr.cell? ⟨gb, 0, none⟩ = some (.slice (some g3) n c3) ∧ wr.cell? ⟨gb, 1, none⟩ = some (.slice na nl nc) ∧ wr.frozen? ⟨gb, 0, none⟩ = false ∧ wr.frozen? ⟨gb, 1, none⟩ = false) ∧ wr.ownsRow V.heap.size 52 3 (.slice na nl nc) nl ((h.cutTo n j).flatMap CMark.cells) ∧ V.grownBy wr (some gb)) (fun i _ => ml - (intOf i).toNat)
        case atStart => exact ⟨0, none, 0, 0, by omega, rfl, rfl, ⟨b0, b1, b2, b3⟩, ⟨rfl, .inl ⟨rfl, rfl⟩⟩, gbx_refl _ _⟩
        case round =>
          obtain ⟨j, na, nl, nc, hj, rfl, hnl, ⟨x0, x1, x2, x3⟩, hO, hG⟩ := hrel
          obtain ⟨W1, rfl⟩ : ∃ W1 : World, W1 = wr := ⟨_, rfl⟩
          have hcell : ∀ b i, b < v2.heap.size → W1.cell? ⟨b, i, none⟩ = V.cell? ⟨b, i, none⟩ := fun b i hb => World.cell?_of_block (a := ⟨b, i, none⟩) (hG.block b (by omega) (fun e => by injection e with e; omega))
          have hBW1 : Below w.heap.size w W1 := HBV.out.trans (grown_low hG HBV.out.size (fun r e => by injection e with e; omega))
          obtain ⟨p0, p1, p2, p3, p4⟩ := HP.out
          have y0 := (hcell _ 0 q2_0).trans p0
          have y1 := (hcell _ 1 q2_0).trans p1
          have y2 := (hcell _ 0 q2_1).trans p2
          have y3 := (hcell _ 1 q2_1).trans p3
          have y4 := (hcell _ 2 q2_1).trans p4
          have hzW := hG.size
          have HO := Lib.hid hO
          have HGW := Lib.hid hG
          have HBW1 := Lib.hid hBW1
          clear hcell hG hO p0 p1 p2 p3 p4
          by_cases hlt : j < ml
          · have hj2 : j < h.marks.length := by omega
            obtain ⟨mb, mz, rfl, hmB, hmcell⟩ := HMA.out.2.2 (by omega)
            obtain ⟨d0, d1, d2⟩ := hmcell j hj2
            have m0 := (hBW1.cell (p := ⟨mb, mz + j * 3, none⟩) hmB).trans d0
            have m1 := (hBW1.cell (p := ⟨mb, mz + j * 3 + 1, none⟩) hmB).trans d1
            have m2 := (hBW1.cell (p := ⟨mb, mz + j * 3 + 2, none⟩) hmB).trans d2
            have u0 := (HBV.out.cell (p := ⟨mb, mz + j * 3, none⟩) hmB).trans d0
            have u1 := (HBV.out.cell (p := ⟨mb, mz + j * 3 + 1, none⟩) hmB).trans d1
            have u2 := (HBV.out.cell (p := ⟨mb, mz + j * 3 + 2, none⟩) hmB).trans d2
            have p1 := HP.out.2.1
            have hmV : mb < V.heap.size := by have := HBV.out.size; omega
            have HCN := Lib.hid (cutTo_next h n j hj2)
            have hjl : (j : Int) < (ml : Int) := by omega
            have hj0 : (0 : Int) ≤ (j : Int) := by omega
            clear d0 d1 d2 hmcell
            have hcl := cutTo_len h n j
            have hmb : mb < W1.heap.size := by have := hBW1.size; omega
            have hmg : ¬ mb = gb := by have := HB2.out.size; have := HBW.out.size; omega
            generalize h.marks[j] = qm at *
            obtain ⟨qc, qt, qa⟩ := qm
            dsimp only at m0 m1 m2 u0 u1 u2
            by_cases hqn : qt = (n : Int)
            · have HC1 := Lib.hid (HCN.out.trans (if_pos hqn))
              subst hqn
              clear HCN
              go_wp2_with fail
              go_roundw
              case rel => exact ⟨j + 1, na, nl, nc, by omega, by go_num, by rw [HC1.out]; exact hnl, ⟨x0, x1, x2, x3⟩, by rw [HC1.out]; exact HO.out, HGW.out⟩
              case measure => simp [intOf]; omega
            · have HC1 := Lib.hid (HCN.out.trans (if_neg hqn))
              have hqn2 : (qt == (n : Int)) = false := by simpa using hqn
              have hn1 : nl ≤ 1000 := by omega
              have hwW : w.heap.size < W1.heap.size := by omega
              have hgW : gb < W1.heap.size := by omega
              have hwg : ¬ w.heap.size = gb := by omega
              have HNL := Lib.hid hnl
              have HHP := Lib.hid (And.intro hj hlt)
              clear HCN hnl
              go_upto_region 9 with fail
              have hwV : w.heap.size < V.heap.size := by omega
              have kS0 := gS_of HGW.out
              clear y0 y1 y2 y3 y4 m0 m1 m2
              refine wp_region_noPanic ?_
              refine wp_region_held_drew (S := (fun w' => V.grownBy w' (some gb) ∧ ∀ b o, b < V.heap.size → ¬ b = gb → w'.cell? ⟨b, o, none⟩ = V.cell? ⟨b, o, none⟩)) (by kernel_rfl) ?_ (fun hHeld => ?_)
              · (first | with_reducible assumption | ((repeat (first | with_reducible refine gS_drew ?_ | with_reducible refine gS_alloc _ ?_ | with_reducible refine gS_set _ _ ?_)); first | with_reducible assumption | with_reducible exact gS_of (gbx_refl _ _)))
              refine takeH 0 ?_; (try simp only [Act.put, List.setIfInBounds_toArray, List.set_cons_zero, List.set_cons_succ])
              refine takeH 2 ?_; (try simp only [Act.put, List.setIfInBounds_toArray, List.set_cons_zero, List.set_cons_succ])
              refine takeH 3 ?_; (try simp only [Act.put, List.setIfInBounds_toArray, List.set_cons_zero, List.set_cons_succ])
              refine takeH 4 ?_; (try simp only [Act.put, List.setIfInBounds_toArray, List.set_cons_zero, List.set_cons_succ])
              refine takeH 5 ?_; (try simp only [Act.put, List.setIfInBounds_toArray, List.set_cons_zero, List.set_cons_succ])
              refine takeH 6 ?_; (try simp only [Act.put, List.setIfInBounds_toArray, List.set_cons_zero, List.set_cons_succ])
        
              refine wpAnyH_ready (rs := [1, 7]) (by kernel_rfl) (by simp) ?_
              refine AllReadyH.cons (o := ?_) ?_ (fun K hK => ?_) ?_
              rotate_left 1
              · simp only [List.getElem?_toArray, List.getElem?_cons_succ, List.getElem?_cons_zero]; with_reducible rfl
              rotate_left 1
              refine AllReadyH.cons (o := ?_) ?_ (fun K hK => ?_) AllReadyH.nil
              rotate_left 1
              · simp only [List.getElem?_toArray, List.getElem?_cons_succ, List.getElem?_cons_zero]; with_reducible rfl
              rotate_left 1
              · go_simp; refine hK.out _ _ ?_ (fun hHeld => ?_); (· (first | with_reducible assumption | ((repeat (first | with_reducible refine gS_drew ?_ | with_reducible refine gS_alloc _ ?_ | with_reducible refine gS_set _ _ ?_)); first | with_reducible assumption | with_reducible exact gS_of (gbx_refl _ _)))); clear hK K; (try simp only [Act.put, List.setIfInBounds_toArray, List.set_cons_zero, List.set_cons_succ])
                refine readyH 7 (fun K hK => ?_); go_simp; skip; refine hK.out _ _ ?_ (fun hHeld => ?_); (· (first | with_reducible assumption | ((repeat (first | with_reducible refine gS_drew ?_ | with_reducible refine gS_alloc _ ?_ | with_reducible refine gS_set _ _ ?_)); first | with_reducible assumption | with_reducible exact gS_of (gbx_refl _ _)))); clear hK K; (try simp only [Act.put, List.setIfInBounds_toArray, List.set_cons_zero, List.set_cons_succ])
                refine readyH 8 (fun K hK => ?_); ((with_reducible refine step_append_mk _ V.heap.size nl (.slice na nl nc) ((h.cutTo n j).flatMap CMark.cells) qc qt qa rfl _ _ rfl rfl ?_ ?_ hn1 ?_ ?_); (· exact ⟨_, rfl, by go_simp, by go_simp, by go_simp⟩); (· exact HO.out.kept (show W1.grownBy _ (some gb) from (by repeat (first | with_reducible exact gbx_refl _ _ | with_reducible refine gbx_alloc ?_ _ | with_reducible refine gbx_drew ?_))) (Or.inr (fun e => by have := own_low HO.out _ e; omega))); (· exact (by first | omega | (simp; done) | (simp; omega))); intro v' wB hown hgr; have hX : Below V.heap.size W1 wB := ((by repeat (first | exact Below.refl _ _ | (refine Below.alloc ?_ (by first | omega | (simp; omega) | simp) _) | (refine Below.setCell ?_ (by first | omega | (simp; omega) | simp) _) | refine Below.drew ?_)) : Below V.heap.size W1 _).trans (grown_low hgr (by first | omega | (simp; done) | (simp; omega)) (own_low HO.out)); have hX2 := hX.size; have f0 := (hX.cell (p := ⟨gb, 0, none⟩) hgV).trans x0; have f1 := (hX.cell (p := ⟨gb, 1, none⟩) hgV).trans x1; have f2 := (hX.frozen (p := ⟨gb, 0, none⟩) hgV).trans x2; have f3 := (hX.frozen (p := ⟨gb, 1, none⟩) hgV).trans x3; have hB2 := low_grown HGW.out hX; have kS := gS_of hB2; have HB9 := Lib.hid hB2; have hown2 : wB.ownsRow V.heap.size 52 3 v' (nl + 1) ((h.cutTo n (j + 1)).flatMap CMark.cells) := (by rw [HC1.out, flat_snoc]; exact hown); obtain ⟨a2, c2, rfl, hm2, hc2⟩ := marks_own hown2; have HO2 := Lib.hid hown2; clear hown hown2 hgr hX hm2 hc2 hB2); refine hK.out _ _ ?_ (fun hHeld => ?_); (· (first | with_reducible assumption | ((repeat (first | with_reducible refine gS_drew ?_ | with_reducible refine gS_alloc _ ?_ | with_reducible refine gS_set _ _ ?_)); first | with_reducible assumption | with_reducible exact gS_of (gbx_refl _ _)))); clear hK K; (try simp only [Act.put, List.setIfInBounds_toArray, List.set_cons_zero, List.set_cons_succ])
                refine takeH 9 ?_; (try simp only [Act.put, List.setIfInBounds_toArray, List.set_cons_zero, List.set_cons_succ])
                refine readyH 10 (fun K hK => ?_); go_simp; skip; refine hK.out _ _ ?_ (fun hHeld => ?_); (· (first | with_reducible assumption | ((repeat (first | with_reducible refine gS_drew ?_ | with_reducible refine gS_alloc _ ?_ | with_reducible refine gS_set _ _ ?_)); first | with_reducible assumption | with_reducible exact gS_of (gbx_refl _ _)))); clear hK K; (try simp only [Act.put, List.setIfInBounds_toArray, List.set_cons_zero, List.set_cons_succ])
                refine wpAnyH_done (by kernel_rfl) ?_ _
                refine NoPanic.normal ?_
                go_wp2_with fail
                go_roundw
                case rel => exact ⟨j + 1, a2, nl + 1, c2, by have := HHP.out.2; omega, by go_num, by have q := HNL.out; rw [HC1.out, List.length_append, ← q]; rfl, ⟨(set_cell' (by decide)).trans f0, set_cell f1, set_frz f2, set_frz f3⟩, HO2.out.kept (show wB.grownBy _ (some gb) from gbx_set (gbx_refl _ _) _ _) (Or.inr (fun e => by have := own_low HO2.out _ e; omega)), gbx_set HB9.out _ _⟩
                case measure => simp [intOf]; omega
              · go_simp; refine hK.out _ _ ?_ (fun hHeld => ?_); (· (first | with_reducible assumption | ((repeat (first | with_reducible refine gS_drew ?_ | with_reducible refine gS_alloc _ ?_ | with_reducible refine gS_set _ _ ?_)); first | with_reducible assumption | with_reducible exact gS_of (gbx_refl _ _)))); clear hK K; (try simp only [Act.put, List.setIfInBounds_toArray, List.set_cons_zero, List.set_cons_succ])
                refine readyH 1 (fun K hK => ?_); go_simp; skip; refine hK.out _ _ ?_ (fun hHeld => ?_); (· (first | with_reducible assumption | ((repeat (first | with_reducible refine gS_drew ?_ | with_reducible refine gS_alloc _ ?_ | with_reducible refine gS_set _ _ ?_)); first | with_reducible assumption | with_reducible exact gS_of (gbx_refl _ _)))); clear hK K; (try simp only [Act.put, List.setIfInBounds_toArray, List.set_cons_zero, List.set_cons_succ])
                refine readyH 8 (fun K hK => ?_); ((with_reducible refine step_append_mk _ V.heap.size nl (.slice na nl nc) ((h.cutTo n j).flatMap CMark.cells) qc qt qa rfl _ _ rfl rfl ?_ ?_ hn1 ?_ ?_); (· exact ⟨_, rfl, by go_simp, by go_simp, by go_simp⟩); (· exact HO.out.kept (show W1.grownBy _ (some gb) from (by repeat (first | with_reducible exact gbx_refl _ _ | with_reducible refine gbx_alloc ?_ _ | with_reducible refine gbx_drew ?_))) (Or.inr (fun e => by have := own_low HO.out _ e; omega))); (· exact (by first | omega | (simp; done) | (simp; omega))); intro v' wB hown hgr; have hX : Below V.heap.size W1 wB := ((by repeat (first | exact Below.refl _ _ | (refine Below.alloc ?_ (by first | omega | (simp; omega) | simp) _) | (refine Below.setCell ?_ (by first | omega | (simp; omega) | simp) _) | refine Below.drew ?_)) : Below V.heap.size W1 _).trans (grown_low hgr (by first | omega | (simp; done) | (simp; omega)) (own_low HO.out)); have hX2 := hX.size; have f0 := (hX.cell (p := ⟨gb, 0, none⟩) hgV).trans x0; have f1 := (hX.cell (p := ⟨gb, 1, none⟩) hgV).trans x1; have f2 := (hX.frozen (p := ⟨gb, 0, none⟩) hgV).trans x2; have f3 := (hX.frozen (p := ⟨gb, 1, none⟩) hgV).trans x3; have hB2 := low_grown HGW.out hX; have kS := gS_of hB2; have HB9 := Lib.hid hB2; have hown2 : wB.ownsRow V.heap.size 52 3 v' (nl + 1) ((h.cutTo n (j + 1)).flatMap CMark.cells) := (by rw [HC1.out, flat_snoc]; exact hown); obtain ⟨a2, c2, rfl, hm2, hc2⟩ := marks_own hown2; have HO2 := Lib.hid hown2; clear hown hown2 hgr hX hm2 hc2 hB2); refine hK.out _ _ ?_ (fun hHeld => ?_); (· (first | with_reducible assumption | ((repeat (first | with_reducible refine gS_drew ?_ | with_reducible refine gS_alloc _ ?_ | with_reducible refine gS_set _ _ ?_)); first | with_reducible assumption | with_reducible exact gS_of (gbx_refl _ _)))); clear hK K; (try simp only [Act.put, List.setIfInBounds_toArray, List.set_cons_zero, List.set_cons_succ])
                refine takeH 9 ?_; (try simp only [Act.put, List.setIfInBounds_toArray, List.set_cons_zero, List.set_cons_succ])
                refine readyH 10 (fun K hK => ?_); go_simp; skip; refine hK.out _ _ ?_ (fun hHeld => ?_); (· (first | with_reducible assumption | ((repeat (first | with_reducible refine gS_drew ?_ | with_reducible refine gS_alloc _ ?_ | with_reducible refine gS_set _ _ ?_)); first | with_reducible assumption | with_reducible exact gS_of (gbx_refl _ _)))); clear hK K; (try simp only [Act.put, List.setIfInBounds_toArray, List.set_cons_zero, List.set_cons_succ])
                refine wpAnyH_done (by kernel_rfl) ?_ _
                refine NoPanic.normal ?_
                go_wp2_with fail
                go_roundw
                case rel => exact ⟨j + 1, a2, nl + 1, c2, by have := HHP.out.2; omega, by go_num, by have q := HNL.out; rw [HC1.out, List.length_append, ← q]; rfl, ⟨(set_cell' (by decide)).trans f0, set_cell f1, set_frz f2, set_frz f3⟩, HO2.out.kept (show wB.grownBy _ (some gb) from gbx_set (gbx_refl _ _) _ _) (Or.inr (fun e => by have := own_low HO2.out _ e; omega)), gbx_set HB9.out _ _⟩
                case measure => simp [intOf]; omega
          · obtain rfl : j = ml := by omega
            have hkn : k < n := by omega
            have ho2 := cut_ok ho htl
            have HHB := Lib.hid (show (h.cut n).hasB xc k xm = h.hasB xc k xm from by unfold CHouse.hasB; rw [cut_since ho htl xc hkn])
            have hxm9 : xm ≤ 99 := by simp [btw] at hm; omega
            have hq1 := last_cost ho htl xc hxm9
            have hq0 := (leastR_bd ho xc xm).1
            have hq2 := (leastR_bd ho2 xc xm).1
            have HAO := Lib.hid (show HAt W1 (some g3) n c3 na nl nc (h.cut n) from by
              obtain ⟨cc, hcc⟩ := HG.out
              have f1 := HFR.out.kept HGW.out (fun r e => by injection e with e; subst e; exact .inl ⟨cc, _, hcc, by decide⟩)
              have ho9 := HO.out
              rw [← hml, cutTo_all] at ho9
              rw [← hml, cutTo_all] at hnl
              obtain ⟨a3, c3', e3, hm3, hc3⟩ := marks_own ho9
              injection e3 with e3 _ e4
              subst e3
              subst e4
              exact ⟨frow_things f1 (by unfold maxLen; omega), hm3, hc3⟩)
            have HH1 := Lib.hid (fun W (hw : Below w.heap.size w W) => lawHas_yes h _ _ _ _ _ _ ho k hk xc xm hc hm W (HHA.out.below hw))
            have HH2 := Lib.hid (fun W (hw : HAt W (some g3) n c3 na nl nc (h.cut n)) => lawHas_yes (h.cut n) _ _ _ _ _ _ ho2 k (by rw [cut_len htl]; exact hkn) xc xm hc hm W hw)
            rw [HHB.out] at HH2
            have HH3 := Lib.hid (fun W (hw : Below w.heap.size w W) => lawCheap_yes h _ _ _ _ _ _ ho xc xm hc hm W (HHA.out.below hw))
            have HH4 := Lib.hid (fun W (hw : HAt W (some g3) n c3 na nl nc (h.cut n)) => lawCheap_yes (h.cut n) _ _ _ _ _ _ ho2 xc xm hc hm W hw)
            generalize (h.cut n).cost ((h.cut n).leastR xc xm) = q1 at *
            generalize h.cost (h.leastR xc xm) = q0 at *
            generalize h.hasB xc k xm = bb at *
            clear HBW HB1 HB2 HHB HO HGW HFR HBV HP HG HMA HHA HTK hnl htB
            obtain ⟨W0, rfl⟩ : ∃ W0 : World, W0 = W1 := ⟨_, rfl⟩
            have HBW := HBW1
            have hgb0 : gb < W0.heap.size := by omega
            have q0_0 : w.heap.size < W0.heap.size := by omega
            have q0_1 : w.heap.size + 1 < W0.heap.size := by omega
            go_wp2_with fail
            refine (HH1.out _ (HBW.out.trans (Below.mono (by repeat (first | exact Below.refl _ _ | (refine Below.alloc ?_ (by first | omega | (simp; omega) | simp) _) | (refine Below.setCell ?_ (by first | omega | (simp; omega) | simp) _) | refine Below.drew ?_)) HBW.out.size))).mono ?_
            rintro e v1 ⟨rfl, hb1⟩
            have hB1_0 : Below W0.heap.size W0 v1 := below_via (Lib.hid hb1) (by first | omega | (simp; done) | (simp; omega)) (by repeat (first | exact Below.refl _ _ | (refine Below.alloc ?_ (by first | omega | (simp; omega) | simp) _) | (refine Below.setCell ?_ (by first | omega | (simp; omega) | simp) _) | refine Below.drew ?_))
            have z1 := hb1.size
            (try simp at z1)
            obtain ⟨g1_0, g1_1, g1_2, g1_3, g1_4, g1_5, g1_6⟩ : v1.cell? ⟨w.heap.size, 0, none⟩ = some (.slice (some ⟨tb, tz, none⟩) (n + 1) tc) ∧ v1.cell? ⟨w.heap.size, 1, none⟩ = some (.slice ma j mc) ∧ v1.cell? ⟨w.heap.size + 1, 0, none⟩ = some (.int .i64 k) ∧ v1.cell? ⟨w.heap.size + 1, 1, none⟩ = some (.int .i64 xc) ∧ v1.cell? ⟨w.heap.size + 1, 2, none⟩ = some (.int .i64 xm) ∧ v1.cell? ⟨gb, 0, none⟩ = some (.slice (some g3) n c3) ∧ v1.cell? ⟨gb, 1, none⟩ = some (.slice na nl nc) :=
              ⟨(hb1.cell (p := ⟨w.heap.size, 0, none⟩) (by first | omega | (simp; done) | (simp; omega))).trans (by first | (go_simp; done) | (go_simp; exact set_same (u := .int .i64 0) (by go_simp; done))), (hb1.cell (p := ⟨w.heap.size, 1, none⟩) (by first | omega | (simp; done) | (simp; omega))).trans (by first | (go_simp; done) | (go_simp; exact set_same (u := .int .i64 0) (by go_simp; done))), (hb1.cell (p := ⟨w.heap.size + 1, 0, none⟩) (by first | omega | (simp; done) | (simp; omega))).trans (by first | (go_simp; done) | (go_simp; exact set_same (u := .int .i64 0) (by go_simp; done))), (hb1.cell (p := ⟨w.heap.size + 1, 1, none⟩) (by first | omega | (simp; done) | (simp; omega))).trans (by first | (go_simp; done) | (go_simp; exact set_same (u := .int .i64 0) (by go_simp; done))), (hb1.cell (p := ⟨w.heap.size + 1, 2, none⟩) (by first | omega | (simp; done) | (simp; omega))).trans (by first | (go_simp; done) | (go_simp; exact set_same (u := .int .i64 0) (by go_simp; done))), (hb1.cell (p := ⟨gb, 0, none⟩) (by first | omega | (simp; done) | (simp; omega))).trans (by first | (go_simp; done) | (go_simp; exact set_same (u := .int .i64 0) (by go_simp; done))), (hb1.cell (p := ⟨gb, 1, none⟩) (by first | omega | (simp; done) | (simp; omega))).trans (by first | (go_simp; done) | (go_simp; exact set_same (u := .int .i64 0) (by go_simp; done)))⟩
            have q1_0 : w.heap.size < v1.heap.size := by first | omega | (simp at *; omega)
            have q1_1 : w.heap.size + 1 < v1.heap.size := by first | omega | (simp at *; omega)
            have q1_2 : gb < v1.heap.size := by first | omega | (simp at *; omega)
            have HE1 := Lib.hid hB1_0
            have y1 := hB1_0.size
            clear hb1 hB1_0 y0 y1 y2 y3 y4 x0 x1 q0_0 q0_1 hgb0
            go_wp2_with fail
            refine (HH2.out _ (HAO.out.below (by repeat (first | exact Below.refl _ _ | with_reducible exact HE1.out | (refine Below.alloc ?_ (by first | omega | (simp; omega) | simp) _) | (refine Below.setCell ?_ (by first | omega | (simp; omega) | simp) _) | refine Below.drew ?_)))).mono ?_
            rintro e v2 ⟨rfl, hb2⟩
            have hB2_0 : Below W0.heap.size W0 v2 := below_via (Lib.hid hb2) (by first | omega | (simp; done) | (simp; omega)) (by repeat (first | exact Below.refl _ _ | with_reducible exact HE1.out | (refine Below.alloc ?_ (by first | omega | (simp; omega) | simp) _) | (refine Below.setCell ?_ (by first | omega | (simp; omega) | simp) _) | refine Below.drew ?_))
            have z2 := hb2.size
            (try simp at z2)
            obtain ⟨g2_0, g2_1, g2_2, g2_3, g2_4, g2_5, g2_6⟩ : v2.cell? ⟨w.heap.size, 0, none⟩ = some (.slice (some ⟨tb, tz, none⟩) (n + 1) tc) ∧ v2.cell? ⟨w.heap.size, 1, none⟩ = some (.slice ma j mc) ∧ v2.cell? ⟨w.heap.size + 1, 0, none⟩ = some (.int .i64 k) ∧ v2.cell? ⟨w.heap.size + 1, 1, none⟩ = some (.int .i64 xc) ∧ v2.cell? ⟨w.heap.size + 1, 2, none⟩ = some (.int .i64 xm) ∧ v2.cell? ⟨gb, 0, none⟩ = some (.slice (some g3) n c3) ∧ v2.cell? ⟨gb, 1, none⟩ = some (.slice na nl nc) :=
              ⟨(hb2.cell (p := ⟨w.heap.size, 0, none⟩) (by first | omega | (simp; done) | (simp; omega))).trans (by first | (go_simp; done) | (go_simp; exact set_same (u := .int .i64 0) (by go_simp; done))), (hb2.cell (p := ⟨w.heap.size, 1, none⟩) (by first | omega | (simp; done) | (simp; omega))).trans (by first | (go_simp; done) | (go_simp; exact set_same (u := .int .i64 0) (by go_simp; done))), (hb2.cell (p := ⟨w.heap.size + 1, 0, none⟩) (by first | omega | (simp; done) | (simp; omega))).trans (by first | (go_simp; done) | (go_simp; exact set_same (u := .int .i64 0) (by go_simp; done))), (hb2.cell (p := ⟨w.heap.size + 1, 1, none⟩) (by first | omega | (simp; done) | (simp; omega))).trans (by first | (go_simp; done) | (go_simp; exact set_same (u := .int .i64 0) (by go_simp; done))), (hb2.cell (p := ⟨w.heap.size + 1, 2, none⟩) (by first | omega | (simp; done) | (simp; omega))).trans (by first | (go_simp; done) | (go_simp; exact set_same (u := .int .i64 0) (by go_simp; done))), (hb2.cell (p := ⟨gb, 0, none⟩) (by first | omega | (simp; done) | (simp; omega))).trans (by first | (go_simp; done) | (go_simp; exact set_same (u := .int .i64 0) (by go_simp; done))), (hb2.cell (p := ⟨gb, 1, none⟩) (by first | omega | (simp; done) | (simp; omega))).trans (by first | (go_simp; done) | (go_simp; exact set_same (u := .int .i64 0) (by go_simp; done)))⟩
            have q2_0 : w.heap.size < v2.heap.size := by first | omega | (simp at *; omega)
            have q2_1 : w.heap.size + 1 < v2.heap.size := by first | omega | (simp at *; omega)
            have q2_2 : gb < v2.heap.size := by first | omega | (simp at *; omega)
            have HE2 := Lib.hid hB2_0
            have y2 := hB2_0.size
            clear hb2 hB2_0 g1_0 g1_1 g1_2 g1_3 g1_4 g1_5 g1_6 q1_0 q1_1 q1_2
            go_wp2_with fail
            refine (HH3.out _ (HBW.out.trans (Below.mono (by repeat (first | exact Below.refl _ _ | with_reducible exact HE2.out | (refine Below.alloc ?_ (by first | omega | (simp; omega) | simp) _) | (refine Below.setCell ?_ (by first | omega | (simp; omega) | simp) _) | refine Below.drew ?_)) HBW.out.size))).mono ?_
            rintro e v3 ⟨rfl, hb3⟩
            have hB3_0 : Below W0.heap.size W0 v3 := below_via (Lib.hid hb3) (by first | omega | (simp; done) | (simp; omega)) (by repeat (first | exact Below.refl _ _ | with_reducible exact HE2.out | (refine Below.alloc ?_ (by first | omega | (simp; omega) | simp) _) | (refine Below.setCell ?_ (by first | omega | (simp; omega) | simp) _) | refine Below.drew ?_))
            have z3 := hb3.size
            (try simp at z3)
            obtain ⟨g3_0, g3_1, g3_2, g3_3, g3_4, g3_5, g3_6⟩ : v3.cell? ⟨w.heap.size, 0, none⟩ = some (.slice (some ⟨tb, tz, none⟩) (n + 1) tc) ∧ v3.cell? ⟨w.heap.size, 1, none⟩ = some (.slice ma j mc) ∧ v3.cell? ⟨w.heap.size + 1, 0, none⟩ = some (.int .i64 k) ∧ v3.cell? ⟨w.heap.size + 1, 1, none⟩ = some (.int .i64 xc) ∧ v3.cell? ⟨w.heap.size + 1, 2, none⟩ = some (.int .i64 xm) ∧ v3.cell? ⟨gb, 0, none⟩ = some (.slice (some g3) n c3) ∧ v3.cell? ⟨gb, 1, none⟩ = some (.slice na nl nc) :=
              ⟨(hb3.cell (p := ⟨w.heap.size, 0, none⟩) (by first | omega | (simp; done) | (simp; omega))).trans (by first | (go_simp; done) | (go_simp; exact set_same (u := .int .i64 0) (by go_simp; done))), (hb3.cell (p := ⟨w.heap.size, 1, none⟩) (by first | omega | (simp; done) | (simp; omega))).trans (by first | (go_simp; done) | (go_simp; exact set_same (u := .int .i64 0) (by go_simp; done))), (hb3.cell (p := ⟨w.heap.size + 1, 0, none⟩) (by first | omega | (simp; done) | (simp; omega))).trans (by first | (go_simp; done) | (go_simp; exact set_same (u := .int .i64 0) (by go_simp; done))), (hb3.cell (p := ⟨w.heap.size + 1, 1, none⟩) (by first | omega | (simp; done) | (simp; omega))).trans (by first | (go_simp; done) | (go_simp; exact set_same (u := .int .i64 0) (by go_simp; done))), (hb3.cell (p := ⟨w.heap.size + 1, 2, none⟩) (by first | omega | (simp; done) | (simp; omega))).trans (by first | (go_simp; done) | (go_simp; exact set_same (u := .int .i64 0) (by go_simp; done))), (hb3.cell (p := ⟨gb, 0, none⟩) (by first | omega | (simp; done) | (simp; omega))).trans (by first | (go_simp; done) | (go_simp; exact set_same (u := .int .i64 0) (by go_simp; done))), (hb3.cell (p := ⟨gb, 1, none⟩) (by first | omega | (simp; done) | (simp; omega))).trans (by first | (go_simp; done) | (go_simp; exact set_same (u := .int .i64 0) (by go_simp; done)))⟩
            have q3_0 : w.heap.size < v3.heap.size := by first | omega | (simp at *; omega)
            have q3_1 : w.heap.size + 1 < v3.heap.size := by first | omega | (simp at *; omega)
            have q3_2 : gb < v3.heap.size := by first | omega | (simp at *; omega)
            have HE3 := Lib.hid hB3_0
            have y3 := hB3_0.size
            clear hb3 hB3_0 g2_0 g2_1 g2_2 g2_3 g2_4 g2_5 g2_6 q2_0 q2_1 q2_2
            go_wp2_with fail
            refine (HH4.out _ (HAO.out.below (by repeat (first | exact Below.refl _ _ | with_reducible exact HE3.out | (refine Below.alloc ?_ (by first | omega | (simp; omega) | simp) _) | (refine Below.setCell ?_ (by first | omega | (simp; omega) | simp) _) | refine Below.drew ?_)))).mono ?_
            rintro e v4 ⟨rfl, hb4⟩
            have hB4_0 : Below W0.heap.size W0 v4 := below_via (Lib.hid hb4) (by first | omega | (simp; done) | (simp; omega)) (by repeat (first | exact Below.refl _ _ | with_reducible exact HE3.out | (refine Below.alloc ?_ (by first | omega | (simp; omega) | simp) _) | (refine Below.setCell ?_ (by first | omega | (simp; omega) | simp) _) | refine Below.drew ?_))
            have z4 := hb4.size
            (try simp at z4)
            obtain ⟨g4_0, g4_1, g4_2, g4_3, g4_4, g4_5, g4_6⟩ : v4.cell? ⟨w.heap.size, 0, none⟩ = some (.slice (some ⟨tb, tz, none⟩) (n + 1) tc) ∧ v4.cell? ⟨w.heap.size, 1, none⟩ = some (.slice ma j mc) ∧ v4.cell? ⟨w.heap.size + 1, 0, none⟩ = some (.int .i64 k) ∧ v4.cell? ⟨w.heap.size + 1, 1, none⟩ = some (.int .i64 xc) ∧ v4.cell? ⟨w.heap.size + 1, 2, none⟩ = some (.int .i64 xm) ∧ v4.cell? ⟨gb, 0, none⟩ = some (.slice (some g3) n c3) ∧ v4.cell? ⟨gb, 1, none⟩ = some (.slice na nl nc) :=
              ⟨(hb4.cell (p := ⟨w.heap.size, 0, none⟩) (by first | omega | (simp; done) | (simp; omega))).trans (by first | (go_simp; done) | (go_simp; exact set_same (u := .int .i64 0) (by go_simp; done))), (hb4.cell (p := ⟨w.heap.size, 1, none⟩) (by first | omega | (simp; done) | (simp; omega))).trans (by first | (go_simp; done) | (go_simp; exact set_same (u := .int .i64 0) (by go_simp; done))), (hb4.cell (p := ⟨w.heap.size + 1, 0, none⟩) (by first | omega | (simp; done) | (simp; omega))).trans (by first | (go_simp; done) | (go_simp; exact set_same (u := .int .i64 0) (by go_simp; done))), (hb4.cell (p := ⟨w.heap.size + 1, 1, none⟩) (by first | omega | (simp; done) | (simp; omega))).trans (by first | (go_simp; done) | (go_simp; exact set_same (u := .int .i64 0) (by go_simp; done))), (hb4.cell (p := ⟨w.heap.size + 1, 2, none⟩) (by first | omega | (simp; done) | (simp; omega))).trans (by first | (go_simp; done) | (go_simp; exact set_same (u := .int .i64 0) (by go_simp; done))), (hb4.cell (p := ⟨gb, 0, none⟩) (by first | omega | (simp; done) | (simp; omega))).trans (by first | (go_simp; done) | (go_simp; exact set_same (u := .int .i64 0) (by go_simp; done))), (hb4.cell (p := ⟨gb, 1, none⟩) (by first | omega | (simp; done) | (simp; omega))).trans (by first | (go_simp; done) | (go_simp; exact set_same (u := .int .i64 0) (by go_simp; done)))⟩
            have q4_0 : w.heap.size < v4.heap.size := by first | omega | (simp at *; omega)
            have q4_1 : w.heap.size + 1 < v4.heap.size := by first | omega | (simp at *; omega)
            have q4_2 : gb < v4.heap.size := by first | omega | (simp at *; omega)
            have HE4 := Lib.hid hB4_0
            have y4 := hB4_0.size
            clear hb4 hB4_0 g3_0 g3_1 g3_2 g3_3 g3_4 g3_5 g3_6 q3_0 q3_1 q3_2
            go_wp2_with fail
            refine (HWK.out _).mono ?_
            rintro e v5 ⟨rfl, hb5⟩
            have hB5_0 : Below W0.heap.size W0 v5 := below_via (Lib.hid hb5) (by first | omega | (simp; done) | (simp; omega)) (by repeat (first | exact Below.refl _ _ | with_reducible exact HE4.out | (refine Below.alloc ?_ (by first | omega | (simp; omega) | simp) _) | (refine Below.setCell ?_ (by first | omega | (simp; omega) | simp) _) | refine Below.drew ?_))
            have z5 := hb5.size
            (try simp at z5)
            have HE5 := Lib.hid hB5_0
            have y5 := hB5_0.size
            clear hb5 hB5_0 g4_0 g4_1 g4_2 g4_3 g4_4 g4_5 g4_6 q4_0 q4_1 q4_2
            go_wp2_with fail
            go_ret
            exact ⟨rfl, HBW.out.trans (Below.mono (by repeat (first | exact Below.refl _ _ | with_reducible exact HE5.out | (refine Below.alloc ?_ (by first | omega | (simp; omega) | simp) _) | (refine Below.setCell ?_ (by first | omega | (simp; omega) | simp) _) | refine Below.drew ?_)) HBW.out.size)⟩
end Go.Proofs.Ytedfdhpggghjeaa
