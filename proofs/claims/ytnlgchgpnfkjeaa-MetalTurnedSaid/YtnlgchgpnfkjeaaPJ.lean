/- MetalTurned. -/
import Derived.Test.YtnlgchgpnfkjeaaPG
import Derived.Test.YtnlgchgpnfkjeaaPH
import Derived.Test.YtnlgchgpnfkjeaaMO
import Derived.Deep.CutBlock
namespace Go.Proofs.Ytnlgchgpnfkjeaa
set_option linter.unusedVariables false
set_option linter.unusedSimpArgs false
open Go.RowKit

set_option maxRecDepth 100000 in
set_option maxHeartbeats 4000000 in
theorem turned_no (s : Shop) (a : Option Addr) (len cap : Nat) (x : Option Addr) (xlen xcap : Nat) (w : World) (hp : PigsAt w a len s.pigs) (hr : s.ok = false) :
    Calls Try.prog 13 #[.agg #[.int .i64 s.P, .int .i64 s.tl, .int .i64 s.th, .int .i64 s.al, .int .i64 s.ah, .int .i64 s.room, .int .i64 s.xl, .int .i64 s.xh, .int .i64 s.yl, .int .i64 s.yh, .slice a len cap], .slice x xlen xcap] w fun e w' => e = .returned (.bool true) ∧ Below w.heap.size w w' := by
  have HR := Lib.hid (fun w1 (hb : Below w.heap.size w w1) => ready_is s a len cap false hr w1 (hp.below hb))
  have HF := Lib.hid (fun w1 (hb : Below w.heap.size w w1) => Far_any s a len cap w1 (hp.below hb))
  have HW := Lib.hid (fun w1 => works_any w1)
  clear hp hr
  go_enter Try.func13, Try.ntmps13
  go_wp2_with fail
  refine (HF.out _ (by repeat (first | exact Below.refl _ _ | (refine Below.alloc ?_ (by first | omega | (simp; omega) | simp) _) | (refine Below.setCell ?_ (by first | omega | (simp; omega) | simp) _) | refine Below.drew ?_))).mono ?_
  rintro e w1 ⟨b, rfl, hb1⟩
  obtain ⟨hc1, hf1⟩ := bcell hb1
  have hz1 := hb1.size
  simp at hz1
  have hw1 := ((by repeat (first | exact Below.refl _ _ | (refine Below.alloc ?_ (by first | omega | (simp; omega) | simp) _) | (refine Below.setCell ?_ (by first | omega | (simp; omega) | simp) _) | refine Below.drew ?_)) : Below w.heap.size w _).trans (hb1.mono (by first | (simp; done) | (simp; omega) | omega))
  clear hb1
  have p1 : w.heap.size < w1.heap.size := by omega
  cases b
  · go_wp2_with fail
    refine (HR.out _ hw1).mono ?_; rintro e w2 ⟨rfl, hb2⟩; obtain ⟨hc2, hf2⟩ := bcell hb2; have hz2 := hb2.size; (try simp at hz2); have hw2 := ((by repeat (first | assumption | exact Below.refl _ _ | (refine Below.alloc ?_ (by first | omega | (simp; omega) | simp) _) | (refine Below.setCell ?_ (by first | omega | (simp; omega) | simp) _) | refine Below.drew ?_)) : Below w.heap.size w _).trans (hb2.mono (by first | (simp; done) | (simp; omega) | omega)); clear hb2; have p2 : w.heap.size < w2.heap.size := (by omega); go_wp2_with fail
    refine (HW.out _).mono ?_; rintro e w3 ⟨rfl, hb3⟩; obtain ⟨hc3, hf3⟩ := bcell hb3; have hz3 := hb3.size; (try simp at hz3); have hw3 := ((by repeat (first | assumption | exact Below.refl _ _ | (refine Below.alloc ?_ (by first | omega | (simp; omega) | simp) _) | (refine Below.setCell ?_ (by first | omega | (simp; omega) | simp) _) | refine Below.drew ?_)) : Below w.heap.size w _).trans (hb3.mono (by first | (simp; done) | (simp; omega) | omega)); clear hb3; have p3 : w.heap.size < w3.heap.size := (by omega); go_wp2_with fail
    go_ret
    exact ⟨rfl, (by repeat (first | assumption | exact Below.refl _ _ | (refine Below.alloc ?_ (by first | omega | (simp; omega) | simp) _) | (refine Below.setCell ?_ (by first | omega | (simp; omega) | simp) _) | refine Below.drew ?_))⟩
  · go_wp2_with fail
    refine (HW.out _).mono ?_; rintro e w3 ⟨rfl, hb3⟩; obtain ⟨hc3, hf3⟩ := bcell hb3; have hz3 := hb3.size; (try simp at hz3); have hw3 := ((by repeat (first | assumption | exact Below.refl _ _ | (refine Below.alloc ?_ (by first | omega | (simp; omega) | simp) _) | (refine Below.setCell ?_ (by first | omega | (simp; omega) | simp) _) | refine Below.drew ?_)) : Below w.heap.size w _).trans (hb3.mono (by first | (simp; done) | (simp; omega) | omega)); clear hb3; have p3 : w.heap.size < w3.heap.size := (by omega); go_wp2_with fail
    go_ret
    exact ⟨rfl, (by repeat (first | assumption | exact Below.refl _ _ | (refine Below.alloc ?_ (by first | omega | (simp; omega) | simp) _) | (refine Below.setCell ?_ (by first | omega | (simp; omega) | simp) _) | refine Below.drew ?_))⟩

/-- The pigs, the first k of them turned. -/
def mixedPigs (ps : List Pig) (k : Nat) : List Pig := (ps.take k).map Pig.swap ++ ps.drop k
theorem mixed_set (ps : List Pig) (k : Nat) (h : k < ps.length) : (mixedPigs ps k).set k (ps[k]).swap = mixedPigs ps (k + 1) := by
  have hl : ((ps.take k).map Pig.swap).length = k := by simp; omega
  unfold mixedPigs
  rw [List.set_append_right k _ (by omega), hl, Nat.sub_self, List.drop_eq_getElem_cons h, List.set_cons_zero, List.take_succ_eq_append_getElem h, List.map_append, List.append_assoc]
  rfl
theorem mixed_all (ps : List Pig) (k : Nat) (h : ps.length ≤ k) : mixedPigs ps k = ps.map Pig.swap := by
  unfold mixedPigs; rw [List.take_of_length_le h, List.drop_eq_nil_of_le h, List.append_nil]
theorem mixed_get (ps : List Pig) (k : Nat) (h : k < ps.length) : (mixedPigs ps k)[k]? = some ps[k] := by
  have hl : ((ps.take k).map Pig.swap).length = k := by simp; omega
  unfold mixedPigs
  rw [List.getElem?_append_right (by omega), hl, Nat.sub_self, List.drop_eq_getElem_cons h]
  rfl
theorem knownCells_two (s : Shop) : ∃ x y, knownCells s = #[.int .i64 x, .int .i64 y] := by
  unfold knownCells
  split
  · cases s.knownR with
    | none => exact ⟨0, 0, rfl⟩
    | some p => exact ⟨p.1, p.2, rfl⟩
  · exact ⟨0, 0, rfl⟩
theorem swap_cells {s : Shop} (ho : s.ok = true) : knownCells s.swap = knownCells s ∧ s.swap.knownCode = s.knownCode ∧ s.swap.worthOf = s.worthOf := by
  unfold knownCells Shop.knownCode Shop.worthOf
  rw [swap_ok, swap_known ho, swap_best]
  exact ⟨rfl, rfl, rfl⟩
/-- The cells of one pig in a row that the call has made. -/
theorem row_pig {w : World} {n0 gr len cap k : Nat} {ps : List Pig} {q : Pig} (hown : w.ownsRow n0 70 5 (.slice (some ⟨gr, 0, none⟩) len cap) len (ps.flatMap Pig.cells)) (hq : ps[k]? = some q) :
    gr < w.heap.size ∧ n0 ≤ gr ∧ (w.cell? ⟨gr, k * 5, none⟩ = some (.int .i64 q.P) ∧ w.cell? ⟨gr, k * 5 + 1, none⟩ = some (.int .i64 q.t) ∧ w.cell? ⟨gr, k * 5 + 2, none⟩ = some (.int .i64 q.a) ∧ w.cell? ⟨gr, k * 5 + 3, none⟩ = some (.int .i64 q.c) ∧ w.cell? ⟨gr, k * 5 + 4, none⟩ = some (.int .i64 q.m)) ∧ ∀ i, w.frozen? ⟨gr, i, none⟩ = false := by
  have hk : k < ps.length := (List.getElem?_eq_some_iff.1 hq).1
  have hpg : ∀ j u, q.cells[j]? = some u → w.cell? ⟨gr, k * 5 + j, none⟩ = some u := fun j u hj => by
    have hj5 : j < 5 := by have := (List.getElem?_eq_some_iff.1 hj).1; simpa [Pig.cells] using this
    have := hown.cells (g := gr) rfl (k * 5 + j) u (by
      have e1 : (k * 5 + j) / 5 = k := by omega
      have e2 : (k * 5 + j) % 5 = j := by omega
      rw [flat_get5 _ Pig.len _ _ (by omega)]
      rw [List.getElem?_eq_getElem hk] at hq
      simp only [e1, e2, Option.some.inj hq]; exact hj)
    rwa [addr_add] at this
  have c0 : w.cell? ⟨gr, k * 5, none⟩ = some (.int .i64 q.P) := hpg 0 _ rfl
  rcases hown.2 with ⟨h0, _⟩ | ⟨g', cap', cur, hv, hg, hb, _⟩
  · cases h0
  · cases hv
    exact ⟨World.block_lt_of_cell? _ _ c0, hg, ⟨c0, hpg 1 _ rfl, hpg 2 _ rfl, hpg 3 _ rfl, hpg 4 _ rfl⟩, fun i => by simp [World.frozen?, hb]⟩

set_option maxRecDepth 100000 in
set_option maxHeartbeats 16000000 in
theorem turned_yes (s : Shop) (a : Option Addr) (len cap : Nat) (x : Option Addr) (xlen xcap : Nat) (ns : List Int) (w : World) (hp : PigsAt w a len s.pigs) (hx : IntsAt w x xlen ns) (hr : s.ok = true) :
    Calls Try.prog 13 #[.agg #[.int .i64 s.P, .int .i64 s.tl, .int .i64 s.th, .int .i64 s.al, .int .i64 s.ah, .int .i64 s.room, .int .i64 s.xl, .int .i64 s.xh, .int .i64 s.yl, .int .i64 s.yh, .slice a len cap], .slice x xlen xcap] w fun e w' => e = .returned (.bool true) ∧ Below w.heap.size w w' := by
  have HR := Lib.hid (fun w1 (hb : Below w.heap.size w w1) => ready_is s a len cap true hr w1 (hp.below hb))
  have HF := Lib.hid (fun w1 (hb : Below w.heap.size w w1) => Far_any s a len cap w1 (hp.below hb))
  have HW := Lib.hid (fun w1 => works_any w1)
  have hl4 : len ≤ 4 := by have := Shop.ok_bd hr; have := hp.1; omega
  have HC := Lib.hid (fun w1 (hb : Below w.heap.size w w1) => Copy_any s a len cap w1 (hp.below hb) (by omega))
  have HP := Lib.hid (fun w1 (hb : Below w.heap.size w w1) => hp.below hb)
  have hm : len ≤ maxLen := hp.2.1
  have HLEN := Lib.hid hp.1
  obtain ⟨kx, ky, hkc⟩ := knownCells_two s
  obtain ⟨e1, e2, e3⟩ := swap_cells hr
  have hro : s.swap.ok = true := (swap_ok s).trans hr
  have H1 := Lib.hid (fun w1 (hb : Below w.heap.size w w1) => cheap_any s a len cap w1 (hp.below hb) hr)
  have H2 := Lib.hid (fun a' cap' w1 (hp' : PigsAt w1 a' len (s.pigs.map Pig.swap)) => swap_cost s ▸ cheap_any s.swap a' len cap' w1 hp' hro)
  have H3 := Lib.hid (fun w1 (hb : Below w.heap.size w w1) => Known_is s a len cap kx ky s.knownCode w1 (hp.below hb) ⟨hkc, rfl⟩)
  have H4 := Lib.hid (fun a' cap' w1 (hp' : PigsAt w1 a' len (s.pigs.map Pig.swap)) => Known_is s.swap a' len cap' kx ky s.knownCode w1 hp' ⟨e1.trans hkc, e2⟩)
  have H5 := Lib.hid (fun w1 (hb : Below w.heap.size w w1) => Worth_any s a len cap w1 (hp.below hb))
  have H6 := Lib.hid (fun a' cap' w1 (hp' : PigsAt w1 a' len (s.pigs.map Pig.swap)) => e3 ▸ Worth_any s.swap a' len cap' w1 hp')
  obtain ⟨ia, hia⟩ : ∃ ia, s.isAdd ns = ia := ⟨_, rfl⟩
  have H7 := Lib.hid (fun w1 (hb : Below w.heap.size w w1) => hia ▸ isAddition_law s a len cap x xlen xcap ns w1 (hp.below hb) (hx.below hb) hr)
  have hxl : ia = true → xlen ≤ 1000 := fun h => by have h := Shop.isAdd_len (hia.trans h); have := hx.1; have := hp.1; omega
  have H8 := Lib.hid (fun (h : ia = true) w1 (hb : Below w.heap.size w w1) => safe_law s a len cap x xlen xcap ns w1 (hp.below hb) (hx.below hb) (by simp [Shop.code, hr, hia, h]) (hxl h))
  have H9 := Lib.hid (fun (h : ia = true) a' cap' w1 (hb : Below w.heap.size w w1) (hp' : PigsAt w1 a' len (s.pigs.map Pig.swap)) => swap_safe s ns ▸ safe_law s.swap a' len cap' x xlen xcap ns w1 hp' (hx.below hb) (by simp [Shop.code, hro, swap_isAdd, hia, h]) (hxl h))
  dsimp only [Shop.swap] at H2 H4 H6 H9
  clear hp hr hx hkc e1 e2 e3 hro hia hxl
  generalize s.costN 0 = cn at *
  generalize s.knownCode = kc at *
  obtain ⟨u1, u2, hwo⟩ : ∃ u1 u2, s.worthOf = (u1, u2) := ⟨_, _, rfl⟩
  rw [hwo] at H5 H6
  clear hwo
  generalize s.safeOf ns = sv at *
  go_enter Try.func13, Try.ntmps13
  go_wp2_with fail
  refine (HF.out _ (by repeat (first | exact Below.refl _ _ | (refine Below.alloc ?_ (by first | omega | (simp; omega) | simp) _) | (refine Below.setCell ?_ (by first | omega | (simp; omega) | simp) _) | refine Below.drew ?_))).mono ?_
  rintro e w1 ⟨b, rfl, hb1⟩
  obtain ⟨hc1, hf1⟩ := bcell hb1
  have hz1 := hb1.size
  simp at hz1
  have hw1 := ((by repeat (first | exact Below.refl _ _ | (refine Below.alloc ?_ (by first | omega | (simp; omega) | simp) _) | (refine Below.setCell ?_ (by first | omega | (simp; omega) | simp) _) | refine Below.drew ?_)) : Below w.heap.size w _).trans (hb1.mono (by first | (simp; done) | (simp; omega) | omega))
  clear hb1
  have p1 : w.heap.size < w1.heap.size := by omega
  cases b
  · go_wp2_with fail
    refine (HR.out _ hw1).mono ?_; rintro e w2 ⟨rfl, hb2⟩; obtain ⟨hc2, hf2⟩ := bcell hb2; have hz2 := hb2.size; (try simp at hz2); have hw2 := ((by repeat (first | assumption | exact Below.refl _ _ | (refine Below.alloc ?_ (by first | omega | (simp; omega) | simp) _) | (refine Below.setCell ?_ (by first | omega | (simp; omega) | simp) _) | refine Below.drew ?_)) : Below w.heap.size w _).trans (hb2.mono (by first | (simp; done) | (simp; omega) | omega)); clear hb2; have p2 : w.heap.size < w2.heap.size := (by omega); go_wp2_with fail
    refine (HC.out _ hw2).mono ?_
    rintro e w4 ⟨hb4, a', cap', rfl, hown⟩
    obtain ⟨hc4, hf4⟩ := bcell hb4
    have hz4 := hb4.size
    have hw4 := hw2.trans (hb4.mono hw2.size)
    have HO4 := Lib.hid hown
    clear hb4 hown
    have p4 : w.heap.size < w4.heap.size := by omega
    have r4 : ¬ w4.heap.size = w.heap.size := by omega
    go_wp2_with fail
    go_region
    go_wp2_with fail
    go_region
    obtain ⟨W0, hW0⟩ : ∃ W0, (w4.alloc (.cells #[.int .i64 s.P, .int .i64 s.al, .int .i64 s.ah, .int .i64 s.tl, .int .i64 s.th, .int .i64 s.room, .int .i64 s.yl, .int .i64 s.yh, .int .i64 s.xl, .int .i64 s.xh, .slice a' len cap'] 28)).drew.drew = W0 := ⟨_, rfl⟩
    rw [hW0]
    have hB0 : Below w4.heap.size w4 W0 := by rw [← hW0]; exact (by repeat (first | exact Below.refl _ _ | (refine Below.alloc ?_ (by first | omega | (simp; omega) | simp) _) | (refine Below.setCell ?_ (by first | omega | (simp; omega) | simp) _) | refine Below.drew ?_))
    have hz0 : w4.heap.size < W0.heap.size := by rw [← hW0]; simp
    have ho0 : ∀ i, W0.cell? ⟨w4.heap.size, i, none⟩ = (#[.int .i64 s.P, .int .i64 s.al, .int .i64 s.ah, .int .i64 s.tl, .int .i64 s.th, .int .i64 s.room, .int .i64 s.yl, .int .i64 s.yh, .int .i64 s.xl, .int .i64 s.xh, .slice a' len cap'] : Array Value)[i]? := fun i => by rw [← hW0]; clear hW0; go_simp
    have hbx : ∀ i, W0.cell? ⟨w.heap.size, i, none⟩ = (#[.int .i64 s.P, .int .i64 s.tl, .int .i64 s.th, .int .i64 s.al, .int .i64 s.ah, .int .i64 s.room, .int .i64 s.xl, .int .i64 s.xh, .int .i64 s.yl, .int .i64 s.yh, .slice a len cap] : Array Value)[i]? := fun i => (hB0.cell (p := ⟨w.heap.size, i, none⟩) p4).trans ((hc4 _ _ p2).trans ((hc2 _ _ p1).trans ((hc1 _ _ (by simp)).trans (World.cell?_alloc_new w _ _ i))))
    have hO0 : W0.ownsRow w2.heap.size 70 5 (.slice a' len cap') len (s.pigs.flatMap Pig.cells) := by rw [← hW0]; exact (HO4.out.alloc _).drew.drew
    have hw0 := hw4.trans (hB0.mono hw4.size)
    have hz2 := hw2.size
    clear hW0 hc4 hf4 hc1 hf1 hc2 hf2
    have HO0 := Lib.hid hO0
    have HBX := Lib.hid hbx
    have HOB := Lib.hid ho0
    clear hO0 hbx ho0
    go_upto_block 0 with fail
    go_cut [] (fun wx => PigsAt wx a' len (s.pigs.map Pig.swap) ∧ (∀ i, wx.cell? ⟨w.heap.size, i, none⟩ = (#[.int .i64 s.P, .int .i64 s.tl, .int .i64 s.th, .int .i64 s.al, .int .i64 s.ah, .int .i64 s.room, .int .i64 s.xl, .int .i64 s.xh, .int .i64 s.yl, .int .i64 s.yh, .slice a len cap] : Array Value)[i]?) ∧ (∀ i, wx.cell? ⟨w4.heap.size, i, none⟩ = (#[.int .i64 s.P, .int .i64 s.al, .int .i64 s.ah, .int .i64 s.tl, .int .i64 s.th, .int .i64 s.room, .int .i64 s.yl, .int .i64 s.yh, .int .i64 s.xl, .int .i64 s.xh, .slice a' len cap'] : Array Value)[i]?) ∧ w4.heap.size < wx.heap.size ∧ Below w.heap.size w wx)
    case first =>
      rcases Nat.eq_zero_or_pos len with h0 | h0
      · have hx10 := HBX.out 10
        simp at hx10
        subst h0
        go_wp2_with fail
        go_loop [6] (fun i => i = .int .i64 0) (fun _ => 0)
        case atStart => rfl
        case round =>
          obtain rfl := hrel
          go_wp2_with fail
          go_meet
          exact ⟨⟨by have := HLEN.out; simp [this], hm, fun h => by omega⟩, HBX.out, HOB.out, hz0, hw0⟩
      · obtain ⟨gr, cap3, hv, hgr⟩ := ownsRow_pos HO0.out h0
        cases hv
        obtain ⟨pb, po, hpa, hpb, -⟩ := (HP.out w (Below.refl _ _)).2.2 h0
        subst hpa
        have hgl : gr < w4.heap.size := by
          rcases HO4.out.2 with ⟨h1, _⟩ | ⟨g', cap', cur, hv, hg, hb, _⟩
          · cases h1
          · cases hv; exact (Array.getElem?_eq_some_iff.1 hb).1
        have hgw : gr ≠ w.heap.size := by omega
        have hg4 : gr ≠ w4.heap.size := by omega
        go_wp2_with fail
        go_loopw [6] (fun i wr => ∃ k : Nat, k ≤ len ∧ i = .int .i64 k ∧ wr.ownsRow w2.heap.size 70 5 (.slice (some ⟨gr, 0, none⟩) len cap') len ((mixedPigs s.pigs k).flatMap Pig.cells) ∧ W0.grownBy wr (some gr)) (fun i _ => len - (intOf i).toNat)
        case atStart => exact ⟨0, Nat.zero_le _, rfl, HO0.out, gb_refl _ _⟩
        case round =>
          obtain ⟨j, hj, rfl, hOr, hgb⟩ := hrel
          have hzr := hgb.size
          have hx10 : wr.cell? ⟨w.heap.size, 10, none⟩ = some (.slice (some ⟨pb, po, none⟩) len cap) := (gb_cell hgb (by omega) (Ne.symm hgw) 10).trans (HBX.out 10)
          have ho10 : wr.cell? ⟨w4.heap.size, 10, none⟩ = some (.slice (some ⟨gr, 0, none⟩) len cap') := (gb_cell hgb hz0 (Ne.symm hg4) 10).trans (HOB.out 10)
          have hbw : Below w.heap.size w wr := hw0.trans ((Below.refl w.heap.size W0).grown hgb hw0.size (by intro k hk; simp at hk; omega))
          by_cases hlt : j < len
          · have hjl : j < s.pigs.length := by have := HLEN.out; omega
            obtain ⟨-, -, hc⟩ := HP.out wr hbw
            obtain ⟨b2, o2, he, hb2, hat⟩ := hc h0
            cases he
            obtain ⟨c0, c1, c2, c3, c4⟩ := hat j hjl
            have HMS := Lib.hid (mixed_set s.pigs j hjl)
            obtain ⟨hgl2, -, ⟨e0, e1, e2, e3, e4⟩, hfz⟩ := row_pig hOr (mixed_get s.pigs j hjl)
            generalize s.pigs[j] = q at *
            have hk1 : (0 : Int) ≤ (j : Int) := by omega
            have hk2 : (j : Int) < (len : Int) := by omega
            have hpw : pb ≠ wr.heap.size := by omega
            have hgw2 : gr ≠ wr.heap.size := by omega
            have hwr2 : w.heap.size < wr.heap.size := by omega
            have hwr3 : w4.heap.size < wr.heap.size := by omega
            have HOr := Lib.hid hOr
            have HGB := Lib.hid hgb
            have HBW := Lib.hid hbw
            clear hOr hgb hbw hat hc
            go_wp2_with fail
            go_region
            go_wp2_with fail
            go_roundw
            case rel =>
              refine ⟨j + 1, by omega, by go_num, ?_, ?_⟩
              · rw [← HMS.out]
                exact ((own_set5 (p := q.swap) HOr.out hlt).alloc _).drew
              · exact gb_drew (gb_alloc (gb_set (gb_set (gb_set (gb_set (gb_set HGB.out _ _) _ _) _ _) _ _) _ _) _) 1
            case measure => simp [intOf]; omega
          · have hlt2 : ¬ (j : Int) < (len : Int) := by omega
            have hjl : j = len := by omega
            have hOL := (pigs_own hOr hm).1
            rw [mixed_all s.pigs j (by have := HLEN.out; omega)] at hOL
            have HOL := Lib.hid hOL
            have h1 := fun i => (gb_cell hgb (show w.heap.size < W0.heap.size by omega) (Ne.symm hgw) i).trans (HBX.out i)
            have h2 := fun i => (gb_cell hgb hz0 (Ne.symm hg4) i).trans (HOB.out i)
            have H1 := Lib.hid h1
            have H2 := Lib.hid h2
            clear h1 h2 hOL hgb hOr
            go_wp2_with fail
            go_meet
            exact ⟨HOL.out, H1.out, H2.out, by omega, hbw⟩
    case rest =>
      obtain ⟨hPx, hXx, hOx, hzx, hwx⟩ := hcut
      obtain ⟨wq, rfl⟩ : ∃ wq : World, wq = wc := ⟨_, rfl⟩
      have pq : w.heap.size < wq.heap.size := by omega
      have HPx := Lib.hid (fun W (hb : Below wq.heap.size wq W) => hPx.below hb)
      obtain ⟨x0, x1, x2, x3, x4, x5, x6, x7, x8, x9, x10⟩ : wq.cell? ⟨w.heap.size, 0, none⟩ = some (.int .i64 s.P) ∧ wq.cell? ⟨w.heap.size, 1, none⟩ = some (.int .i64 s.tl) ∧ wq.cell? ⟨w.heap.size, 2, none⟩ = some (.int .i64 s.th) ∧ wq.cell? ⟨w.heap.size, 3, none⟩ = some (.int .i64 s.al) ∧ wq.cell? ⟨w.heap.size, 4, none⟩ = some (.int .i64 s.ah) ∧ wq.cell? ⟨w.heap.size, 5, none⟩ = some (.int .i64 s.room) ∧ wq.cell? ⟨w.heap.size, 6, none⟩ = some (.int .i64 s.xl) ∧ wq.cell? ⟨w.heap.size, 7, none⟩ = some (.int .i64 s.xh) ∧ wq.cell? ⟨w.heap.size, 8, none⟩ = some (.int .i64 s.yl) ∧ wq.cell? ⟨w.heap.size, 9, none⟩ = some (.int .i64 s.yh) ∧ wq.cell? ⟨w.heap.size, 10, none⟩ = some (.slice a len cap) := ⟨hXx 0, hXx 1, hXx 2, hXx 3, hXx 4, hXx 5, hXx 6, hXx 7, hXx 8, hXx 9, hXx 10⟩
      obtain ⟨y0, y1, y2, y3, y4, y5, y6, y7, y8, y9, y10⟩ : wq.cell? ⟨w4.heap.size, 0, none⟩ = some (.int .i64 s.P) ∧ wq.cell? ⟨w4.heap.size, 1, none⟩ = some (.int .i64 s.al) ∧ wq.cell? ⟨w4.heap.size, 2, none⟩ = some (.int .i64 s.ah) ∧ wq.cell? ⟨w4.heap.size, 3, none⟩ = some (.int .i64 s.tl) ∧ wq.cell? ⟨w4.heap.size, 4, none⟩ = some (.int .i64 s.th) ∧ wq.cell? ⟨w4.heap.size, 5, none⟩ = some (.int .i64 s.room) ∧ wq.cell? ⟨w4.heap.size, 6, none⟩ = some (.int .i64 s.yl) ∧ wq.cell? ⟨w4.heap.size, 7, none⟩ = some (.int .i64 s.yh) ∧ wq.cell? ⟨w4.heap.size, 8, none⟩ = some (.int .i64 s.xl) ∧ wq.cell? ⟨w4.heap.size, 9, none⟩ = some (.int .i64 s.xh) ∧ wq.cell? ⟨w4.heap.size, 10, none⟩ = some (.slice a' len cap') := ⟨hOx 0, hOx 1, hOx 2, hOx 3, hOx 4, hOx 5, hOx 6, hOx 7, hOx 8, hOx 9, hOx 10⟩
      clear hXx hOx hPx HBX HOB HO0 HO4
      go_wp2_with fail
      refine (H1.out _ hwx).mono ?_
      rintro e v1 ⟨rfl, hb1⟩
      obtain ⟨hc1, hf1⟩ := bcell hb1
      have hz1 := hb1.size
      have hB1 := hb1
      have hv1 := hwx.trans (hB1.mono hwx.size)
      have p1' : w.heap.size < v1.heap.size := by omega
      have r1' : w4.heap.size < v1.heap.size := by omega
      clear hb1
      go_wp2_with fail
      refine (H2.out _ _ _ (HPx.out _ hB1)).mono ?_
      rintro e v2 ⟨rfl, hb2⟩
      obtain ⟨hc2, hf2⟩ := bcell hb2
      have hz2' := hb2.size
      have hB2 := hB1.trans (hb2.mono hB1.size)
      have hv2 := hwx.trans (hB2.mono hwx.size)
      have p2' : w.heap.size < v2.heap.size := by omega
      have r2' : w4.heap.size < v2.heap.size := by omega
      clear hb2
      go_wp2_with fail
      refine (H3.out _ hv2).mono ?_
      rintro e v3 ⟨rfl, hb3⟩
      obtain ⟨hc3, hf3⟩ := bcell hb3
      have hz3 := hb3.size
      have hB3 := hB2.trans (hb3.mono hB2.size)
      have hv3 := hwx.trans (hB3.mono hwx.size)
      have p3' : w.heap.size < v3.heap.size := by omega
      have r3' : w4.heap.size < v3.heap.size := by omega
      clear hb3
      go_wp2_with fail
      have hB3a : Below wq.heap.size wq (v3.alloc (.cells #[.int .i64 kx, .int .i64 ky] 23)) := hB3.alloc hB3.size _
      refine (H4.out _ _ _ (HPx.out _ hB3a)).mono ?_
      rintro e v4 ⟨rfl, hb4⟩
      obtain ⟨hc4, hf4⟩ := bcell hb4
      have hz4' := hb4.size
      simp at hz4'
      have hB4 := hB3a.trans (hb4.mono hB3a.size)
      have hv4 := hwx.trans (hB4.mono hwx.size)
      have p4' : w.heap.size < v4.heap.size := by omega
      have r4' : w4.heap.size < v4.heap.size := by omega
      have s4' : v3.heap.size < v4.heap.size := by omega
      clear hb4 hB3a
      go_wp2_with fail
      have hv4a : Below w.heap.size w (v4.alloc (.cells #[.int .i64 kx, .int .i64 ky] 23)) := hv4.alloc hv4.size _
      have hB4a : Below wq.heap.size wq (v4.alloc (.cells #[.int .i64 kx, .int .i64 ky] 23)) := hB4.alloc hB4.size _
      refine (H5.out _ hv4a).mono ?_
      rintro e v5 ⟨rfl, hb5⟩
      obtain ⟨hc5, hf5⟩ := bcell hb5
      have hz5 := hb5.size
      simp at hz5
      have hB5 := hB4a.trans (hb5.mono hB4a.size)
      have hv5 := hwx.trans (hB5.mono hwx.size)
      have p5' : w.heap.size < v5.heap.size := by omega
      have r5' : w4.heap.size < v5.heap.size := by omega
      have s5' : v3.heap.size < v5.heap.size := by omega
      have t5' : v4.heap.size < v5.heap.size := by omega
      have s5'' : v3.heap.size < v4.heap.size + 1 := by omega
      clear hb5 hB4a hv4a
      go_wp2_with fail
      refine (H6.out _ _ _ (HPx.out _ hB5)).mono ?_
      rintro e v6 ⟨rfl, hb6⟩
      obtain ⟨hc6, hf6⟩ := bcell hb6
      have hz6 := hb6.size
      have hB6 := hB5.trans (hb6.mono hB5.size)
      have hv6 := hwx.trans (hB6.mono hwx.size)
      have p6' : w.heap.size < v6.heap.size := by omega
      have r6' : w4.heap.size < v6.heap.size := by omega
      have s6' : v3.heap.size < v6.heap.size := by omega
      have t6' : v4.heap.size < v6.heap.size := by omega
      clear hb6
      go_wp2_with fail
      refine (H7.out _ hv6).mono ?_
      rintro e v7 ⟨rfl, hb7⟩
      obtain ⟨hc7, hf7⟩ := bcell hb7
      have hz7 := hb7.size
      have hB7 := hB6.trans (hb7.mono hB6.size)
      have hv7 := hwx.trans (hB7.mono hwx.size)
      have p7' : w.heap.size < v7.heap.size := by omega
      have r7' : w4.heap.size < v7.heap.size := by omega
      clear hb7
      cases ia
      · go_wp2_with fail
        refine (HW.out _).mono ?_
        rintro e v8 ⟨rfl, hb8⟩
        have hv8 := hv7.trans (hb8.mono hv7.size)
        clear hb8
        go_wp2_with fail
        go_ret
        exact ⟨rfl, hv8⟩
      · go_wp2_with fail
        refine (H8.out trivial _ hv7).mono ?_
        rintro e v8 ⟨rfl, hb8⟩
        obtain ⟨hc8, hf8⟩ := bcell hb8
        have hz8 := hb8.size
        have hB8 := hB7.trans (hb8.mono hB7.size)
        have hv8 := hwx.trans (hB8.mono hwx.size)
        have r8' : w4.heap.size < v8.heap.size := by omega
        clear hb8
        go_wp2_with fail
        refine (H9.out trivial _ _ _ hv8 (HPx.out _ hB8)).mono ?_
        rintro e v9 ⟨rfl, hb9⟩
        have hv9 := hv8.trans (hb9.mono hv8.size)
        clear hb9
        go_wp2_with fail
        refine (HW.out _).mono ?_
        rintro e v10 ⟨rfl, hb10⟩
        have hv10 := hv9.trans (hb10.mono hv9.size)
        clear hb10
        go_wp2_with fail
        go_ret
        exact ⟨rfl, hv10⟩
  · go_wp2_with fail
    refine (HW.out _).mono ?_; rintro e w3 ⟨rfl, hb3⟩; obtain ⟨hc3, hf3⟩ := bcell hb3; have hz3 := hb3.size; (try simp at hz3); have hw3 := ((by repeat (first | assumption | exact Below.refl _ _ | (refine Below.alloc ?_ (by first | omega | (simp; omega) | simp) _) | (refine Below.setCell ?_ (by first | omega | (simp; omega) | simp) _) | refine Below.drew ?_)) : Below w.heap.size w _).trans (hb3.mono (by first | (simp; done) | (simp; omega) | omega)); clear hb3; have p3 : w.heap.size < w3.heap.size := (by omega); go_wp2_with fail
    go_ret
    exact ⟨rfl, (by repeat (first | assumption | exact Below.refl _ _ | (refine Below.alloc ?_ (by first | omega | (simp; omega) | simp) _) | (refine Below.setCell ?_ (by first | omega | (simp; omega) | simp) _) | refine Below.drew ?_))⟩
end Go.Proofs.Ytnlgchgpnfkjeaa
