/- Package changes: lacking. -/
import Derived.Test.YtedfdhpggghjeaaCL
namespace Go.Proofs.Ytedfdhpggghjeaa
set_option linter.unusedVariables false
set_option linter.unusedSimpArgs false
open Go.RowKit Go.Shelf

set_option maxRecDepth 100000 in
set_option maxHeartbeats 8000000 in
theorem lacking1_any (h : CHouse) (ta : Option Addr) (tl tc : Nat) (ma : Option Addr) (ml mc : Nat) (ho : h.okT = true) (c : Int) (p1 p2 : Nat) (y : Int) (h0 : 0 ≤ y) (hy : y < (h.things.length : Int)) (w : World) (hp : HAt w ta tl tc ma ml mc h)
    (g0 : w.cell? ⟨p1, 0, none⟩ = some (.slice ta tl tc)) (g1 : w.cell? ⟨p1, 1, none⟩ = some (.slice ma ml mc)) (g2 : w.cell? ⟨p2, 0, none⟩ = some (.int .i64 c)) :
    LackQ (fun y => h.hasB c y.toNat 99) ⟨p1, 0, none⟩ ⟨p2, 0, none⟩ y w := by
  obtain ⟨k, rfl⟩ : ∃ k : Nat, y = (k : Int) := ⟨y.toNat, by omega⟩
  have HH := Lib.hid (has_any h ta tl tc ma ml mc ho c k 99 (by omega) w hp)
  unfold LackQ
  simp only [Int.toNat_natCast]
  clear hp
  go_enter Try.func91, Try.ntmps91
  go_wp2_with fail
  refine HH.out.mono ?_
  rintro e w' ⟨rfl, hb⟩
  go_wp2_with fail
  go_ret
  exact ⟨rfl, hb⟩

set_option maxRecDepth 100000 in
set_option maxHeartbeats 8000000 in
theorem lacking_any (h : CHouse) (ta : Option Addr) (tl tc : Nat) (ma : Option Addr) (ml mc : Nat) (ho : h.okT = true) (c : Int) (w : World) (hp : HAt w ta tl tc ma ml mc h) :
    Calls Try.prog 73 #[.agg #[.slice ta tl tc, .slice ma ml mc], .int .i64 c] w fun e w' => (∃ a n, e = .returned (.slice a (h.lacks c).length n) ∧ IntsAt w' a (h.lacks c).length (h.lacks c)) ∧ Below w.heap.size w w' := by
  have h8 := CHouse.okT_few ho
  have HPL := Lib.hid (fun W (hb : Below w.heap.size w W) => plates_row h ta tl tc ma ml mc h8 99 W (hp.below hb))
  have HP := Lib.hid (fun W (hb : Below w.heap.size w W) => hp.below hb)
  have HL1 := Lib.hid (fun p1 p2 y (h0 : 0 ≤ y) (hy : y < (h.things.length : Int)) W hW g0 g1 g2 => lacking1_any h ta tl tc ma ml mc ho c p1 p2 y h0 hy W hW g0 g1 g2)
  have HMM := Lib.hid (fun y => numsTo_mem (h.printB 99) h.things.length y)
  have HLN := Lib.hid (show (h.plates 99).length ≤ 8 from Nat.le_trans (numsTo_len _ _) h8)
  have HEQ := Lib.hid (show h.lacks c = keepQ (fun y => h.hasB c y.toNat 99) (h.plates 99) from rfl)
  rw [HEQ.out]
  have HXS := Lib.hid (show ∀ y ∈ h.plates 99, 0 ≤ y ∧ y < (h.things.length : Int) from fun y hy => ⟨((HMM.out y).1 hy).1, ((HMM.out y).1 hy).2.1⟩)
  clear hp ho HMM HEQ h8
  generalize h.plates 99 = xs at *
  generalize hq : (fun y : Int => h.hasB c y.toNat 99) = q at *
  go_enter Try.func73, Try.ntmps73
  go_wp2_with fail
  obtain ⟨W0, hW0, hB0, ⟨g0_0, g0_1, g0_2⟩, hz0⟩ : ∃ W0, ((w.alloc (.cells #[.slice ta tl tc, .slice ma ml mc] 75)).alloc (.cells #[.int .i64 c] 3)) = W0 ∧ Below w.heap.size w W0 ∧ (W0.cell? ⟨w.heap.size, 0, none⟩ = some (.slice ta tl tc) ∧ W0.cell? ⟨w.heap.size, 1, none⟩ = some (.slice ma ml mc) ∧ W0.cell? ⟨w.heap.size + 1, 0, none⟩ = some (.int .i64 c)) ∧ W0.heap.size = w.heap.size + 1 + 1 :=
    ⟨_, rfl, (by repeat (first | exact Below.refl _ _ | (refine Below.alloc ?_ (by first | omega | (simp; omega) | simp) _) | (refine Below.setCell ?_ (by first | omega | (simp; omega) | simp) _) | refine Below.drew ?_)), ⟨by go_simp, by go_simp, by go_simp⟩, by simp⟩
  rw [hW0]
  clear hW0
  have HBW := Lib.hid hB0
  have q0_0 : w.heap.size < W0.heap.size := by omega
  have q0_1 : w.heap.size + 1 < W0.heap.size := by omega
  clear hB0 hz0
  have HC0 := Lib.hid (And.intro g0_0 (And.intro g0_1 g0_2))
  have q00 : w.heap.size + 1 < W0.heap.size := by omega
  go_wp2_with fail
  refine (HPL.out _ (HBW.out.trans (Below.mono (by repeat (first | exact Below.refl _ _ | (refine Below.alloc ?_ (by first | omega | (simp; omega) | simp) _) | (refine Below.setCell ?_ (by first | omega | (simp; omega) | simp) _) | refine Below.drew ?_)) HBW.out.size))).mono ?_
  rintro e w1 ⟨⟨v, rfl, hO⟩, hb1⟩
  have hln := HLN.out
  have HO := Lib.hid hO
  have HB1 := Lib.hid hb1
  have hz1 := hb1.size
  clear hO hb1
  by_cases hx : xs.findIdx? q = none
  · obtain ⟨a, n, rfl, hi1⟩ := own_ints HO.out rfl
    have HQQ := Lib.hid (show ∀ i (hi : i < xs.length) W, Below W0.heap.size W0 W → LackQ q ⟨w.heap.size, 0, none⟩ ⟨w.heap.size + 1, 0, none⟩ xs[i] W from fun i hi W hb => by
      have hm := HXS.out _ (List.getElem_mem hi)
      exact HL1.out _ _ _ hm.1 hm.2 W (HP.out W (HBW.out.trans (hb.mono HBW.out.size))) ((hb.cell (p := ⟨w.heap.size, 0, none⟩) q0_0).trans HC0.out.1) ((hb.cell (p := ⟨w.heap.size, 1, none⟩) q0_0).trans HC0.out.2.1) ((hb.cell (p := ⟨w.heap.size + 1, 0, none⟩) q00).trans HC0.out.2.2))
    have hkq := (idxQ_none hx).2
    have HD := Lib.hid (DeleteQ_none q ⟨w.heap.size, 0, none⟩ ⟨w.heap.size + 1, 0, none⟩ a xs.length n xs w1 hi1 (fun i hi W hb => HQQ.out i hi W (HB1.out.trans (hb.mono HB1.out.size))) hx)
    have HI1 := Lib.hid hi1
    have HKQ := Lib.hid hkq
    clear hi1 hx hkq
    go_wp2_with fail
    refine HD.out.mono ?_
    rintro e w2 ⟨rfl, hb2⟩
    go_wp2_with fail
    go_ret
    exact ⟨⟨a, n, by rw [HKQ.out]; rfl, by rw [HKQ.out]; exact HI1.out.below hb2⟩, HBW.out.trans ((HB1.out.trans (hb2.mono HB1.out.size)).mono HBW.out.size)⟩
  · have hpos : 0 < xs.length := by
      cases xs with
      | nil => exact absurd rfl hx
      | cons a t => simp
    obtain ⟨g, cap, rfl, hgb⟩ := ownsRow_pos HO.out hpos
    obtain ⟨pb, po, hpe, hpcell⟩ := own_src HO.out hpos
    injection hpe with hpe
    injection hpe with e1 e2
    subst e1 e2
    obtain ⟨-, cur, hcur⟩ := own_parts HO.out
    have hcp := own_cap HO.out
    have hOI : OwnI w1 g 0 xs := fun t ht => ⟨hpcell t _ (by rw [List.getElem?_map, List.getElem?_eq_getElem ht]; rfl), by simp [World.frozen?, hcur]⟩
    have hgz : g < w1.heap.size := World.block_lt_of_cell? _ _ (hOI 0 hpos).1
    have HQQ := Lib.hid (show ∀ i (hi : i < xs.length) W, Below W0.heap.size W0 W → LackQ q ⟨w.heap.size, 0, none⟩ ⟨w.heap.size + 1, 0, none⟩ xs[i] W from fun i hi W hb => by
      have hm := HXS.out _ (List.getElem_mem hi)
      exact HL1.out _ _ _ hm.1 hm.2 W (HP.out W (HBW.out.trans (hb.mono HBW.out.size))) ((hb.cell (p := ⟨w.heap.size, 0, none⟩) q0_0).trans HC0.out.1) ((hb.cell (p := ⟨w.heap.size, 1, none⟩) q0_0).trans HC0.out.2.1) ((hb.cell (p := ⟨w.heap.size + 1, 0, none⟩) q00).trans HC0.out.2.2))
    have HGB := Lib.hid (show W0.heap.size ≤ g from hgb)
    have HD := Lib.hid (DeleteQ_some q ⟨w.heap.size, 0, none⟩ ⟨w.heap.size + 1, 0, none⟩ g 0 xs.length cap xs w1 rfl (by unfold maxLen; omega) hcp.1 hcp.2 hgz hOI (fun i hi W hg => HQQ.out i hi W (HB1.out.trans (grown_low hg hz1 (fun r e => by injection e with e; rw [← e]; exact HGB.out)))) hx)
    clear hx hpcell hOI hcur HO
    go_wp2_with fail
    refine HD.out.mono ?_
    rintro e w2 ⟨rfl, hg2, hO2⟩
    have HO2 := Lib.hid hO2
    have HG2 := Lib.hid hg2
    clear hO2 hg2
    go_wp2_with fail
    go_ret
    have hlen : (keepQ q xs).length ≤ xs.length := List.length_filter_le _ _
    refine ⟨⟨_, _, rfl, rfl, by unfold maxLen; omega, fun h0 => ⟨g, 0, rfl, Nat.lt_of_lt_of_le hgz HG2.out.size, fun i hi => (HO2.out i hi).1⟩⟩, HBW.out.trans ((HB1.out.trans (grown_low HG2.out hz1 (fun r e => by injection e with e; rw [← e]; exact HGB.out))).mono HBW.out.size)⟩
end Go.Proofs.Ytedfdhpggghjeaa
