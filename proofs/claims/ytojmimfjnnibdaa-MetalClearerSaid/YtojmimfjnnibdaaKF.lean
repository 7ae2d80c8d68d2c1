/- Known and Worth. -/
import Derived.Test.YtojmimfjnnibdaaKE
import Derived.Test.YtojmimfjnnibdaaW
namespace Go.Proofs.Ytojmimfjnnibdaa
set_option linter.unusedVariables false
set_option linter.unusedSimpArgs false
open Go.RowKit

/-- The most that the cheapest costs over the truths with a tin of m numbers from tl on; none: one of them has no offer. -/
def mostOf (al : Int) (n : Nat) (l : List Offer) : Nat → Int → Option Int
  | 0, _ => some 0
  | m + 1, tl => match mostOf al n l m tl with
    | none => none
    | some h => match dearOf (tl + m) al n [] l with
      | none => none
      | some c => some (maxI h c)
/-- Between what it would cost if the truth were known, out of the offers, the cheapest first. -/
def knownOf (s : Shop) (l : List Offer) : Option (Int × Int) :=
  match l with
  | [] => none
  | o :: _ => (mostOf s.al (s.ah - s.al + 1).toNat l (s.th - s.tl + 1).toNat s.tl).map fun h => (o.c, h)
def knownTwo : Option (Int × Int) → Array Value × Bool
  | none => (#[.int .i64 0, .int .i64 0], false)
  | some (a, b) => (#[.int .i64 a, .int .i64 b], true)

theorem mostOf_none (al : Int) (n : Nat) (l : List Offer) (tl : Int) (m : Nat) (h : mostOf al n l m tl = none) : ∀ d, mostOf al n l (m + d) tl = none
  | 0 => h
  | d + 1 => by rw [← Nat.add_assoc, mostOf, mostOf_none al n l tl m h d]
theorem mostOf_some (al : Int) (n : Nat) (l : List Offer) (tl h c : Int) (m : Nat) (h1 : mostOf al n l m tl = some h) (h2 : dearOf (tl + m) al n [] l = some c) : mostOf al n l (m + 1) tl = some (maxI h c) := by rw [mostOf, h1, h2]
theorem mostOf_stop (al : Int) (n : Nat) (l : List Offer) (tl : Int) (m : Nat) (h2 : dearOf (tl + m) al n [] l = none) : mostOf al n l (m + 1) tl = none := by
  rw [mostOf]; cases mostOf al n l m tl with
  | none => rfl
  | some h => simp only [h2]
theorem addr_add (g j : Nat) : (⟨g, 0, none⟩ : Addr).add j = ⟨g, j, none⟩ := by simp [Addr.add]; intro h; exact h.symm
theorem ret_known {R : Option (Int × Int)} {x y : Int} {b : Bool} (h : knownTwo R = (#[.int .i64 x, .int .i64 y], b)) : Ending.returned (.tuple #[.agg #[.int .i64 x, .int .i64 y], .bool b]) = .returned (.tuple #[.agg (knownTwo R).1, .bool (knownTwo R).2]) := by rw [h]

set_option maxHeartbeats 2000000 in
theorem known_any (s : Shop) (a : Option Addr) (len cap : Nat) (w : World) (hp : PigsAt w a len s.pigs) (ho : s.ok = true) :
    Calls Try.prog 91 #[.agg #[.int .i64 s.P, .int .i64 s.tl, .int .i64 s.th, .int .i64 s.al, .int .i64 s.ah, .int .i64 s.room, .int .i64 s.xl, .int .i64 s.xh, .int .i64 s.yl, .int .i64 s.yh, .slice a len cap]] w fun e w' => (∃ l, OffersOf s l ∧ e = .returned (.tuple #[.agg (knownTwo (knownOf s l)).1, .bool (knownTwo (knownOf s l)).2])) ∧ Below w.heap.size w w' := by
  have HOA := Lib.hid (fun w1 (hb : Below w.heap.size w w1) => offers_any s a len cap w1 (hp.below hb) ho)
  have hbd := Shop.ok_bd ho
  have hrows := rows_few ho
  have hpl := hp.1
  clear hp
  go_enter Try.func91, Try.ntmps91
  go_wp2_with fail
  refine (HOA.out _ (by repeat (first | exact Below.refl _ _ | (refine Below.alloc ?_ (by first | omega | (simp; omega) | simp) _) | (refine Below.setCell ?_ (by first | omega | (simp; omega) | simp) _) | refine Below.drew ?_))).mono ?_
  rintro e w1 ⟨hb1, v, l, rfl, hol, hrow⟩
  have hll : l.length ≤ 1296 := by
    have e1 := hol.1.length_eq
    have e2 : (s.offersOf ((allL s.most).filter s.room?)).length ≤ ((allL s.most).filter s.room?).length := by unfold Shop.offersOf; exact Nat.le_trans (List.length_filter_le _ _) (by simp)
    have e3 : ((allL s.most).filter s.room?).length ≤ (allL s.most).length := List.length_filter_le _ _
    omega
  obtain ⟨hc1, hf1⟩ := bcell hb1
  have hz1 := hb1.size
  simp at hz1
  have hbw : Below w.heap.size w w1 := ((by repeat (first | exact Below.refl _ _ | (refine Below.alloc ?_ (by first | omega | (simp; omega) | simp) _) | (refine Below.setCell ?_ (by first | omega | (simp; omega) | simp) _) | refine Below.drew ?_)) : Below w.heap.size w _).trans (hb1.mono (by simp; omega))
  have q2 : w.heap.size < w1.heap.size := by omega
  have q3 : w.heap.size + 1 < w1.heap.size := by omega
  have HOL := Lib.hid hol
  clear hol hb1
  rcases hrow.2 with ⟨rfl, h0⟩ | ⟨g, cap', cur, rfl, hgg, hg2, _⟩
  · have hL : l = [] := List.eq_nil_of_length_eq_zero h0
    subst hL
    have HK := Lib.hid (show knownTwo (knownOf s []) = (#[.int .i64 0, .int .i64 0], false) from rfl)
    go_wp2_with fail
    refine bodyPost_ret (v := .tuple #[.agg #[.int .i64 0, .int .i64 0], .bool false]) (by simp [results, Try.results91, go_sem, hc1, q2, q3]) rfl ⟨⟨[], HOL.out, by rw [HK.out]⟩, ?_⟩
    exact (hbw.setCell (by simp) _).setCell (by simp) _
  · have hbx : ∀ i, w1.cell? ⟨w.heap.size, i, none⟩ = (#[.int .i64 s.P, .int .i64 s.tl, .int .i64 s.th, .int .i64 s.al, .int .i64 s.ah, .int .i64 s.room, .int .i64 s.xl, .int .i64 s.xh, .int .i64 s.yl, .int .i64 s.yh, .slice a len cap] : Array Value)[i]? := fun i => by
      rw [hc1 _ _ (by simp; omega)]; go_simp
    have hr0 : w1.cell? ⟨w.heap.size + 1, 0, none⟩ = some (.int .i64 0) := by rw [hc1 _ _ (by simp)]; go_simp
    have hr1 : w1.cell? ⟨w.heap.size + 1, 1, none⟩ = some (.int .i64 0) := by rw [hc1 _ _ (by simp)]; go_simp
    have hrf : ∀ i, w1.frozen? ⟨w.heap.size + 1, i, none⟩ = false := fun i => by rw [hf1 _ _ (by simp)]; go_simp
    obtain ⟨x0, x1, x2, x3, x4, x5, x6, x7, x8, x9, x10⟩ := box11 hbx
    have hglt := (Array.getElem?_eq_some_iff.1 hg2).1
    have hcg : ∀ j u, (l.flatMap Offer.cells)[j]? = some u → w1.cell? ⟨g, j, none⟩ = some u := fun j u hj => by
      have := hrow.cells (g := g) rfl j u hj; rwa [addr_add] at this
    have hnm : ∃ n : Nat, (s.ah - s.al + 1).toNat = n ∧ s.ah = s.al + n - 1 ∧ 1 ≤ n ∧ n ≤ 1000 := ⟨_, rfl, by omega, by omega, by omega⟩
    obtain ⟨n, hn0, hn1, hn2, hn3⟩ := hnm
    have hin : ∀ o ∈ l, o.in_ s.al s.ah := fun o h => (offers_in HOL.out o h).1
    have HDE := Lib.hid (fun tin w2 (hb : Below w1.heap.size w1 w2) => dearest_any s a len cap g cap' l tin n w2 hn1 ⟨by omega, by omega⟩ ⟨hn2, hn3⟩ (by omega) hin (Nat.lt_of_lt_of_le hglt hb.size) (fun j u hj => (hb.cell (p := ⟨g, j, none⟩) hglt).trans (hcg j u hj)))
    have HN0 := Lib.hid hn0
    have HN1 := Lib.hid hn1
    clear hn0 hn1 hin hrow hc1 hf1 hbx
    cases l with
    | nil =>
      have HK := Lib.hid (show knownTwo (knownOf s []) = (#[.int .i64 0, .int .i64 0], false) from rfl)
      go_wp2_with fail
      refine bodyPost_ret (v := .tuple #[.agg #[.int .i64 0, .int .i64 0], .bool false]) (by simp [results, Try.results91, go_sem, q2, q3, hr0, hr1, hrf]) rfl ⟨⟨[], HOL.out, by rw [HK.out]⟩, ?_⟩
      exact (hbw.setCell (by simp) _).setCell (by simp) _
    | cons o r =>
      have hcost : w1.cell? ⟨g, 0, none⟩ = some (.int .i64 o.c) := hcg 0 _ rfl
      have HKN := Lib.hid (show knownOf s (o :: r) = (mostOf s.al (s.ah - s.al + 1).toNat (o :: r) (s.th - s.tl + 1).toNat s.tl).map fun h => (o.c, h) from rfl)
      generalize hl1 : (o :: r).length = L at *
      have hLp : 0 < L := by rw [← hl1]; simp
      have hl0 : ((L : Int) == 0) = false := by simp; omega
      clear hcg hl1
      generalize hlr : o :: r = l at *
      have HLR := Lib.hid hlr
      clear hlr
      go_wp2
      obtain ⟨W0, hW0⟩ : ∃ W0, w1.alloc (.cells #[.int .i64 o.c, .int .i64 0] 23) = W0 := ⟨_, rfl⟩
      have hz0 : W0.heap.size = w1.heap.size + 1 := by rw [← hW0]; simp
      have hB1 : Below w1.heap.size w1 W0 := by rw [← hW0]; exact (Below.refl _ w1).alloc (Nat.le_refl _) _
      have p0 : W0.cell? ⟨w1.heap.size, 0, none⟩ = some (.int .i64 o.c) := by rw [← hW0, World.cell?_alloc_new]; rfl
      have p1 : W0.cell? ⟨w1.heap.size, 1, none⟩ = some (.int .i64 0) := by rw [← hW0, World.cell?_alloc_new]; rfl
      have pf : W0.frozen? ⟨w1.heap.size, 1, none⟩ = false := by rw [← hW0]; simp
      rw [hW0]
      clear hW0
      go_loopw [6] (fun i wr => ∃ (m : Nat) (h : Int), (m : Int) ≤ s.th - s.tl + 1 ∧ i = .int .i64 (s.tl + m) ∧ Hid (mostOf s.al n l m s.tl = some h) ∧ Below w1.heap.size w1 wr ∧ W0.heap.size ≤ wr.heap.size ∧ wr.cell? ⟨w1.heap.size, 0, none⟩ = some (.int .i64 o.c) ∧ wr.cell? ⟨w1.heap.size, 1, none⟩ = some (.int .i64 h) ∧ wr.frozen? ⟨w1.heap.size, 1, none⟩ = false) (fun i _ => (s.th + 1 - intOf i).toNat)
      case atStart => exact ⟨0, 0, by omega, by simp, Lib.hid rfl, hB1, Nat.le_refl _, p0, p1, pf⟩
      case round =>
        obtain ⟨m, h, hm, rfl, HM, hB, hz, p0, p1, pf⟩ := hrel
        clear hB1
        have y0 := (hB.cell (p := ⟨w.heap.size, 0, none⟩) q2).trans x0; have y1 := (hB.cell (p := ⟨w.heap.size, 1, none⟩) q2).trans x1; have y2 := (hB.cell (p := ⟨w.heap.size, 2, none⟩) q2).trans x2; have y3 := (hB.cell (p := ⟨w.heap.size, 3, none⟩) q2).trans x3; have y4 := (hB.cell (p := ⟨w.heap.size, 4, none⟩) q2).trans x4; have y5 := (hB.cell (p := ⟨w.heap.size, 5, none⟩) q2).trans x5; have y6 := (hB.cell (p := ⟨w.heap.size, 6, none⟩) q2).trans x6; have y7 := (hB.cell (p := ⟨w.heap.size, 7, none⟩) q2).trans x7; have y8 := (hB.cell (p := ⟨w.heap.size, 8, none⟩) q2).trans x8; have y9 := (hB.cell (p := ⟨w.heap.size, 9, none⟩) q2).trans x9; have y10 := (hB.cell (p := ⟨w.heap.size, 10, none⟩) q2).trans x10
        have r0 := (hB.cell (p := ⟨w.heap.size + 1, 0, none⟩) q3).trans hr0
        have r1 := (hB.cell (p := ⟨w.heap.size + 1, 1, none⟩) q3).trans hr1
        have rf : ∀ i, wr.frozen? ⟨w.heap.size + 1, i, none⟩ = false := fun i => (hB.frozen (p := ⟨w.heap.size + 1, i, none⟩) q3).trans (hrf i)
        have hbr : Below w.heap.size w wr := hbw.trans (hB.mono hbw.size)
        by_cases hlt : s.tl + m ≤ s.th
        · rcases hd : dearOf (s.tl + m) s.al n [] l with - | c
          · have HD := Lib.hid hd
            have HK := Lib.hid (show knownTwo (knownOf s l) = (#[.int .i64 0, .int .i64 0], false) by
              have e1 := mostOf_none s.al n l s.tl (m + 1) (mostOf_stop s.al n l s.tl m hd) ((s.th - s.tl + 1).toNat - (m + 1))
              rw [show m + 1 + ((s.th - s.tl + 1).toNat - (m + 1)) = (s.th - s.tl + 1).toNat by omega] at e1
              rw [HKN.out, HN0.out, e1]; rfl)
            clear hd
            go_wp2_with (go_at_call 109; refine (HDE.out (s.tl + m) _ hB).mono ?_; rintro e w3 ⟨rfl, hb3⟩; rw [HD.out]; simp only [dearTwo]; have t0 := ((hb3.cell (p := ⟨w.heap.size + 1, 0, none⟩) (Nat.lt_of_lt_of_le q3 hB.size)).trans r0); have t1 := ((hb3.cell (p := ⟨w.heap.size + 1, 1, none⟩) (Nat.lt_of_lt_of_le q3 hB.size)).trans r1); have tf : ∀ i, w3.frozen? ⟨w.heap.size + 1, i, none⟩ = false := (fun i => (hb3.frozen (p := ⟨w.heap.size + 1, i, none⟩) (Nat.lt_of_lt_of_le q3 hB.size)).trans (rf i)); have hbx3 := hbr.trans (hb3.mono hbr.size); clear hb3)
            refine bodyPost_ret (v := .tuple #[.agg #[.int .i64 0, .int .i64 0], .bool false]) (by simp [results, Try.results91, go_sem, t0, t1, tf]) rfl ⟨⟨l, HOL.out, by rw [HK.out]⟩, ?_⟩
            exact (hbx3.setCell (by simp) _).setCell (by simp) _
          · have HD := Lib.hid hd
            have HM2 := Lib.hid (mostOf_some s.al n l s.tl h c m HM.out hd)
            clear hd
            have hq1 : w1.heap.size < wr.heap.size := by omega
            rcases Int.lt_or_le h c with hmx | hmx
            · have HMX := Lib.hid (show maxI h c = c by unfold maxI; split <;> omega)
              go_wp2_with (go_at_call 109; refine (HDE.out (s.tl + m) _ hB).mono ?_; rintro e w3 ⟨rfl, hb3⟩; rw [HD.out]; simp only [dearTwo]; have t0 := ((hb3.cell (p := ⟨w1.heap.size, 0, none⟩) hq1).trans p0); have t1 := ((hb3.cell (p := ⟨w1.heap.size, 1, none⟩) hq1).trans p1); have tf := ((hb3.frozen (p := ⟨w1.heap.size, 1, none⟩) hq1).trans pf); have hbx3 := hB.trans (hb3.mono hB.size); have hzx := hb3.size; clear hb3)
              go_roundw
              case rel => exact ⟨m + 1, c, by omega, by simp; omega, by rw [← HMX.out]; exact HM2, hbx3.setCell (Nat.le_refl _) _, by simp; omega, by go_simp, by go_simp; omega, by go_simp⟩
              case measure => simp [intOf]; omega
            · have HMX := Lib.hid (show maxI h c = h by unfold maxI; split <;> omega)
              go_wp2_with (go_at_call 109; refine (HDE.out (s.tl + m) _ hB).mono ?_; rintro e w3 ⟨rfl, hb3⟩; rw [HD.out]; simp only [dearTwo]; have t0 := ((hb3.cell (p := ⟨w1.heap.size, 0, none⟩) hq1).trans p0); have t1 := ((hb3.cell (p := ⟨w1.heap.size, 1, none⟩) hq1).trans p1); have tf := ((hb3.frozen (p := ⟨w1.heap.size, 1, none⟩) hq1).trans pf); have hbx3 := hB.trans (hb3.mono hB.size); have hzx := hb3.size; clear hb3)
              go_roundw
              case rel => exact ⟨m + 1, h, by omega, by simp; omega, by rw [← HMX.out]; exact HM2, hbx3.setCell (Nat.le_refl _) _, by simp; omega, by go_simp, by go_simp; omega, by go_simp⟩
              case measure => simp [intOf]; omega
        · have hme : (s.th - s.tl + 1).toNat = m := by omega
          have HK := Lib.hid (show knownTwo (knownOf s l) = (#[.int .i64 o.c, .int .i64 h], true) by rw [HKN.out, HN0.out, hme, HM.out]; rfl)
          clear hme
          go_wp2
          refine bodyPost_ret (v := .tuple #[.agg #[.int .i64 o.c, .int .i64 h], .bool true]) (by simp [results, Try.results91, go_sem, r0, r1, rf]) rfl ⟨⟨l, HOL.out, by rw [HK.out]⟩, ?_⟩
          exact (hbr.setCell (by simp) _).setCell (by simp) _
end Go.Proofs.Ytojmimfjnnibdaa
