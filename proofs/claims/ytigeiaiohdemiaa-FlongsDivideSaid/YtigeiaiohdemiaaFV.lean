/- SameInts; the chapter's examples, for the landed code: they hold. -/
import Derived.Test.YtigeiaiohdemiaaFU
namespace Go.Proofs.Ytigeiaiohdemiaa
set_option linter.unusedVariables false
set_option linter.unusedSimpArgs false
open Go.RowKit


def sameB (x y : List Int) : Bool := decide (x = y)
theorem sameB_no {x y : List Int} {k : Nat} (h : k < x.length) (h' : k < y.length) (hne : x[k] ≠ y[k]) : sameB x y = false := by
  simp only [sameB, decide_eq_false_iff_not]; rintro rfl; exact hne rfl
theorem sameB_len {x y : List Int} (h : x.length ≠ y.length) : sameB x y = false := by
  simp only [sameB, decide_eq_false_iff_not]; rintro rfl; exact h rfl
theorem sameB_yes {x y : List Int} {len : Nat} (hx : x.length = len) (hy : y.length = len) (h : ∀ q (h1 : q < x.length) (h2 : q < y.length), x[q] = y[q]) : sameB x y = true := by
  simp only [sameB, decide_eq_true_eq]; exact List.ext_getElem (by omega) h

set_option maxHeartbeats 1000000 in
theorem SameInts_any (xa : Option Addr) (xl xc : Nat) (ya : Option Addr) (yl yc : Nat) (x y : List Int) (w : World) (hx : IntsAt w xa xl x) (hy : IntsAt w ya yl y) :
    Calls Try.prog 48 #[.slice xa xl xc, .slice ya yl yc] w fun e w' => e = .returned (.bool (sameB x y)) ∧ Below w.heap.size w w' := by
  obtain ⟨hxl, hxm, hxc⟩ := hx
  obtain ⟨hyl, _, hyc⟩ := hy
  unfold maxLen at hxm
  by_cases hne : xl = yl
  · obtain rfl : xl = yl := hne
    rcases Nat.eq_zero_or_pos xl with h0 | h0
    · subst h0
      have HS := Lib.hid (show sameB x y = true from sameB_yes hxl hyl fun q h1 _ => by omega)
      clear hxl hyl hxc hyc
      go_enter Try.func48, Try.ntmps48
      go_wp2
      go_loopw [5] (fun i wr => i = .int .i64 0 ∧ Below w.heap.size w wr) (fun _ _ => 0)
      case atStart => exact ⟨rfl, Below.refl _ _⟩
      case round =>
        obtain ⟨rfl, hB⟩ := hrel
        go_wp2
        go_ret
        exact ⟨ret_bool HS.out.symm, hB⟩
    · obtain ⟨xb, xo, rfl, hxB, hxcell⟩ := hxc h0
      obtain ⟨yb, yo, rfl, hyB, hycell⟩ := hyc h0
      have HX := Lib.hid hxl
      have HY := Lib.hid hyl
      clear hxl hyl hxc hyc
      go_enter Try.func48, Try.ntmps48
      go_wp2
      go_loopw [5] (fun i wr => ∃ k : Nat, k ≤ xl ∧ i = .int .i64 k ∧ (∀ q (h1 : q < x.length) (h2 : q < y.length), q < k → x[q] = y[q]) ∧ Below w.heap.size w wr) (fun i _ => xl - (intOf i).toNat)
      case atStart => exact ⟨0, by omega, rfl, fun q _ _ h => by omega, Below.refl _ _⟩
      case round =>
        obtain ⟨k, hk, rfl, hsm, hB⟩ := hrel
        have HSM := Lib.hid hsm; clear hsm
        by_cases hlt : k < xl
        · have hk2 : k < x.length := by rw [HX.out]; exact hlt
          have hk3 : k < y.length := by rw [HY.out]; exact hlt
          have cx := (hB.cell (p := ⟨xb, _, none⟩) hxB).trans (hxcell k hk2)
          have cy := (hB.cell (p := ⟨yb, _, none⟩) hyB).trans (hycell k hk3)
          have hkl : (k : Int) < (xl : Int) := by omega
          by_cases he : x[k] = y[k]
          · have HSM2 := Lib.hid (show ∀ q (h1 : q < x.length) (h2 : q < y.length), q < k + 1 → x[q] = y[q] from fun q h1 h2 hq => by
              by_cases e : q = k
              · subst e; exact he
              · exact HSM.out q h1 h2 (by omega))
            rw [← he] at cy
            clear he
            generalize x[k] = n at *
            go_wp2_with fail
            go_quiet (fail)
            go_wp2_with fail
            go_roundw
            case rel => exact ⟨k + 1, by omega, by go_num, HSM2.out, hB.trans (Go.Joins.below_draws _ _ _)⟩
            case measure => simp [intOf]; omega
          · have HN := Lib.hid (sameB_no hk2 hk3 he)
            have e1 : (x[k] == y[k]) = false := by simpa using he
            have e2 : (x[k] != y[k]) = true := by simpa using he
            clear he
            generalize x[k] = n at *
            generalize y[k] = m at *
            go_wp2_with fail
            go_quiet (fail)
            go_wp2_with fail
            go_ret
            exact ⟨ret_bool HN.out.symm, hB.trans (Go.Joins.below_draws _ _ _)⟩
        · have hk' : k = xl := by omega
          subst hk'
          have HS := Lib.hid (show sameB x y = true from sameB_yes HX.out HY.out fun q h1 h2 => HSM.out q h1 h2 (by have := HX.out; omega))
          go_wp2
          go_ret
          exact ⟨ret_bool HS.out.symm, hB⟩
  · have HS := Lib.hid (sameB_len (x := x) (y := y) (by omega))
    have e1 : ((xl : Int) == (yl : Int)) = false := by simp; omega
    have e2 : ((xl : Int) != (yl : Int)) = true := by simp; omega
    clear hxl hyl hxc hyc
    go_enter Try.func48, Try.ntmps48
    go_wp2
    go_ret
    exact ⟨ret_bool HS.out.symm, Below.refl _ _⟩

theorem exS_ok : exS.ok = true := by decide
theorem exT_ok : exT.ok = true := by decide
theorem exS_left : exS.left.length = 3 := by decide
theorem exT_left : exT.left.length = 3 := by decide
theorem exS_lo : loOf exS.left 0 = 3 := by decide
theorem exS_hi : hiOf exS.left 0 = 9 := by decide
theorem exS_sum : sumOf exS.moulds (loOf exS.left) (0 : Nat) = 5 := by decide
theorem exT_new : exT.newAll = 1 := by decide
theorem exS_shares : sharesB exS.moulds [5, 3, 0, 3] = true := by decide
theorem exS_hold : holdN exS.left [5, 3, 0, 3] = 1 := by decide
theorem exS_div : exS.divide = some [3, 2, 0, 3] := by decide +kernel
theorem exT_bold : exT.bold = some [2, 4, 0, 3] := by decide +kernel

theorem Divide_S (a1 : Option Addr) (c1 : Nat) (a2 : Option Addr) (c2 : Nat) (a3 : Option Addr) (c3 : Nat) (w : World) (hp : FAt w a1 4 c1 a2 4 c2 a3 2 c3 exS) :
    Calls Try.prog 35 #[.agg #[.slice a1 4 c1, .slice a2 4 c2, .slice a3 2 c3, .int .i64 6]] w fun e w' => ∃ g cc, e = .returned (.tuple #[.slice (some ⟨g, 0, none⟩) 4 cc, .int .i64 0]) ∧ IntsAt w' (some ⟨g, 0, none⟩) 4 [3, 2, 0, 3] ∧ Below w.heap.size w w' := by
  refine (Divide_yes exS a1 4 c1 a2 4 c2 a3 2 c3 w hp exS_ok (by rw [exS_left]; decide)).mono ?_
  rintro e w' ⟨hb, ⟨hn, _⟩ | ⟨y, g, cc, hd, rfl, hr⟩⟩
  · rw [exS_div] at hn; cases hn
  · rw [exS_div] at hd; injection hd with hd; subst hd; exact ⟨g, cc, rfl, hr.ints, hb⟩
theorem Bold_T (a1 : Option Addr) (c1 : Nat) (a2 : Option Addr) (c2 : Nat) (a3 : Option Addr) (c3 : Nat) (w : World) (hp : FAt w a1 4 c1 a2 4 c2 a3 2 c3 exT) :
    Calls Try.prog 36 #[.agg #[.slice a1 4 c1, .slice a2 4 c2, .slice a3 2 c3, .int .i64 6]] w fun e w' => ∃ g cc, e = .returned (.tuple #[.slice (some ⟨g, 0, none⟩) 4 cc, .int .i64 0]) ∧ IntsAt w' (some ⟨g, 0, none⟩) 4 [2, 4, 0, 3] ∧ Below w.heap.size w w' := by
  refine (Bold_yes exT a1 4 c1 a2 4 c2 a3 2 c3 w hp exT_ok (by rw [exT_left]; decide)).mono ?_
  rintro e w' ⟨hb, ⟨hn, _⟩ | ⟨y, g, cc, hd, rfl, hr⟩⟩
  · rw [exT_bold] at hn; cases hn
  · rw [exT_bold] at hd; injection hd with hd; subst hd; exact ⟨g, cc, rfl, hr.ints, hb⟩

set_option maxRecDepth 100000 in
set_option maxHeartbeats 8000000 in
theorem works_any (w : World) : Calls Try.prog 18 #[] w fun e w' => e = .returned (.bool true) ∧ Below w.heap.size w w' := by
  go_enter Try.func18, Try.ntmps18
  go_wp2_with fail
  refine (Example_any w).mono ?_
  rintro e w1 ⟨a1, c1, a2, c2, a3, c3, b1, d1, b2, d2, b3, d3, rfl, hs, ht, hb1⟩
  go_wp2_with fail
  obtain ⟨W0, hW0, hB0, hs0, ht0, hz0⟩ := name2c w1 #[.slice a1 4 c1, .slice a2 4 c2, .slice a3 2 c3, .int .i64 6] 26 #[.slice b1 4 d1, .slice b2 4 d2, .slice b3 2 d3, .int .i64 6] 26
  rw [hW0]
  clear hW0
  obtain ⟨n0, hn0⟩ : ∃ n0, w1.heap.size = n0 := ⟨_, rfl⟩
  have HS := Lib.hid (fun W (h : Below W0.heap.size W0 W) => (hs.below hB0).below h)
  have HT := Lib.hid (fun W (h : Below W0.heap.size W0 W) => (ht.below hB0).below h)
  have HBW := Lib.hid (hb1.trans (hB0.mono hb1.size))
  rw [hn0] at hs0 ht0 hz0
  rw [hn0]
  obtain ⟨g0_0, g0_1, g0_2, g0_3, g0_4, g0_5, g0_6, g0_7⟩ : W0.cell? ⟨n0, 0, none⟩ = some (.slice a1 4 c1) ∧ W0.cell? ⟨n0, 1, none⟩ = some (.slice a2 4 c2) ∧ W0.cell? ⟨n0, 2, none⟩ = some (.slice a3 2 c3) ∧ W0.cell? ⟨n0, 3, none⟩ = some (.int .i64 6) ∧ W0.cell? ⟨n0 + 1, 0, none⟩ = some (.slice b1 4 d1) ∧ W0.cell? ⟨n0 + 1, 1, none⟩ = some (.slice b2 4 d2) ∧ W0.cell? ⟨n0 + 1, 2, none⟩ = some (.slice b3 2 d3) ∧ W0.cell? ⟨n0 + 1, 3, none⟩ = some (.int .i64 6) := ⟨hs0 0, hs0 1, hs0 2, hs0 3, ht0 0, ht0 1, ht0 2, ht0 3⟩
  have q0_0 : n0 < W0.heap.size := by omega
  have q0_1 : n0 + 1 < W0.heap.size := by omega
  clear hs ht hb1 hB0 hs0 ht0 hz0 hn0
  go_wp2_with fail
  refine (Left_yes exS a1 4 c1 a2 4 c2 a3 2 c3 0 (by decide) _ (HS.out _ (by repeat (first | exact Below.refl _ _ | (refine Below.alloc ?_ (by first | omega | (simp; omega) | simp) _) | (refine Below.setCell ?_ (by first | omega | (simp; omega) | simp) _) | refine Below.drew ?_))) exS_ok (by rw [exS_left]; decide)).mono ?_
  rintro e v1 ⟨rfl, hb1⟩
  have hB1 : Below W0.heap.size W0 v1 := below_via (Lib.hid hb1) (by first | omega | (simp; done) | (simp; omega)) (by repeat (first | exact Below.refl _ _ | (refine Below.alloc ?_ (by first | omega | (simp; omega) | simp) _) | (refine Below.setCell ?_ (by first | omega | (simp; omega) | simp) _) | refine Below.drew ?_))
  have z1 := hb1.size
  (try simp at z1)
  obtain ⟨g1_0, g1_1, g1_2, g1_3, g1_4, g1_5, g1_6, g1_7⟩ : v1.cell? ⟨n0, 0, none⟩ = some (.slice a1 4 c1) ∧ v1.cell? ⟨n0, 1, none⟩ = some (.slice a2 4 c2) ∧ v1.cell? ⟨n0, 2, none⟩ = some (.slice a3 2 c3) ∧ v1.cell? ⟨n0, 3, none⟩ = some (.int .i64 6) ∧ v1.cell? ⟨n0 + 1, 0, none⟩ = some (.slice b1 4 d1) ∧ v1.cell? ⟨n0 + 1, 1, none⟩ = some (.slice b2 4 d2) ∧ v1.cell? ⟨n0 + 1, 2, none⟩ = some (.slice b3 2 d3) ∧ v1.cell? ⟨n0 + 1, 3, none⟩ = some (.int .i64 6) :=
    ⟨(hb1.cell (p := ⟨n0, 0, none⟩) (by first | omega | (simp; omega))).trans (by go_simp), (hb1.cell (p := ⟨n0, 1, none⟩) (by first | omega | (simp; omega))).trans (by go_simp), (hb1.cell (p := ⟨n0, 2, none⟩) (by first | omega | (simp; omega))).trans (by go_simp), (hb1.cell (p := ⟨n0, 3, none⟩) (by first | omega | (simp; omega))).trans (by go_simp), (hb1.cell (p := ⟨n0 + 1, 0, none⟩) (by first | omega | (simp; omega))).trans (by go_simp), (hb1.cell (p := ⟨n0 + 1, 1, none⟩) (by first | omega | (simp; omega))).trans (by go_simp), (hb1.cell (p := ⟨n0 + 1, 2, none⟩) (by first | omega | (simp; omega))).trans (by go_simp), (hb1.cell (p := ⟨n0 + 1, 3, none⟩) (by first | omega | (simp; omega))).trans (by go_simp)⟩
  have q1_0 : n0 < v1.heap.size := by omega
  have q1_1 : n0 + 1 < v1.heap.size := by omega
  have HB1 := Lib.hid hB1
  rw [exS_lo, exS_hi]
  clear hb1 hB1 g0_0 g0_1 g0_2 g0_3 g0_4 g0_5 g0_6 g0_7 q0_0 q0_1
  go_wp2_with fail
  refine (Sure_yes exS a1 4 c1 a2 4 c2 a3 2 c3 0 (by decide) _ (HS.out _ (by repeat (first | exact Below.refl _ _ | with_reducible exact HB1.out | (refine Below.alloc ?_ (by first | omega | (simp; omega) | simp) _) | refine Below.drew ?_))) exS_ok (by rw [exS_left]; decide)).mono ?_
  rintro e v2 ⟨rfl, hb2⟩
  have hB2 : Below W0.heap.size W0 v2 := below_via (Lib.hid hb2) (by first | omega | (simp; done) | (simp; omega)) (by repeat (first | exact Below.refl _ _ | with_reducible exact HB1.out | (refine Below.alloc ?_ (by first | omega | (simp; omega) | simp) _) | refine Below.drew ?_))
  have z2 := hb2.size
  (try simp at z2)
  obtain ⟨g2_0, g2_1, g2_2, g2_3, g2_4, g2_5, g2_6, g2_7, g2_8, g2_9⟩ : v2.cell? ⟨n0, 0, none⟩ = some (.slice a1 4 c1) ∧ v2.cell? ⟨n0, 1, none⟩ = some (.slice a2 4 c2) ∧ v2.cell? ⟨n0, 2, none⟩ = some (.slice a3 2 c3) ∧ v2.cell? ⟨n0, 3, none⟩ = some (.int .i64 6) ∧ v2.cell? ⟨n0 + 1, 0, none⟩ = some (.slice b1 4 d1) ∧ v2.cell? ⟨n0 + 1, 1, none⟩ = some (.slice b2 4 d2) ∧ v2.cell? ⟨n0 + 1, 2, none⟩ = some (.slice b3 2 d3) ∧ v2.cell? ⟨n0 + 1, 3, none⟩ = some (.int .i64 6) ∧ v2.cell? ⟨v1.heap.size, 0, none⟩ = some (.int .i64 3) ∧ v2.cell? ⟨v1.heap.size, 1, none⟩ = some (.int .i64 9) :=
    ⟨(hb2.cell (p := ⟨n0, 0, none⟩) (by first | omega | (simp; omega))).trans (by go_simp), (hb2.cell (p := ⟨n0, 1, none⟩) (by first | omega | (simp; omega))).trans (by go_simp), (hb2.cell (p := ⟨n0, 2, none⟩) (by first | omega | (simp; omega))).trans (by go_simp), (hb2.cell (p := ⟨n0, 3, none⟩) (by first | omega | (simp; omega))).trans (by go_simp), (hb2.cell (p := ⟨n0 + 1, 0, none⟩) (by first | omega | (simp; omega))).trans (by go_simp), (hb2.cell (p := ⟨n0 + 1, 1, none⟩) (by first | omega | (simp; omega))).trans (by go_simp), (hb2.cell (p := ⟨n0 + 1, 2, none⟩) (by first | omega | (simp; omega))).trans (by go_simp), (hb2.cell (p := ⟨n0 + 1, 3, none⟩) (by first | omega | (simp; omega))).trans (by go_simp), (hb2.cell (p := ⟨v1.heap.size, 0, none⟩) (by first | omega | (simp; done) | (simp; omega))).trans (by go_simp), (hb2.cell (p := ⟨v1.heap.size, 1, none⟩) (by first | omega | (simp; done) | (simp; omega))).trans (by go_simp)⟩
  have q2_0 : n0 < v2.heap.size := by omega
  have q2_1 : n0 + 1 < v2.heap.size := by omega
  have q2_2 : v1.heap.size < v2.heap.size := by omega
  have HB2 := Lib.hid hB2
  rw [exS_sum]
  clear hb2 hB2 g1_0 g1_1 g1_2 g1_3 g1_4 g1_5 g1_6 g1_7 q1_0 q1_1
  go_wp2_with fail
  refine (New_yes exT b1 4 d1 b2 4 d2 b3 2 d3 _ (HT.out _ (by repeat (first | exact Below.refl _ _ | with_reducible exact HB2.out | (refine Below.alloc ?_ (by first | omega | (simp; omega) | simp) _) | refine Below.drew ?_))) exT_ok (by rw [exT_left]; decide)).mono ?_
  rintro e v3 ⟨rfl, hb3⟩
  have hB3 : Below W0.heap.size W0 v3 := below_via (Lib.hid hb3) (by first | omega | (simp; done) | (simp; omega)) (by repeat (first | exact Below.refl _ _ | with_reducible exact HB2.out | (refine Below.alloc ?_ (by first | omega | (simp; omega) | simp) _) | refine Below.drew ?_))
  have z3 := hb3.size
  (try simp at z3)
  obtain ⟨g3_0, g3_1, g3_2, g3_3, g3_4, g3_5, g3_6, g3_7, g3_8, g3_9⟩ : v3.cell? ⟨n0, 0, none⟩ = some (.slice a1 4 c1) ∧ v3.cell? ⟨n0, 1, none⟩ = some (.slice a2 4 c2) ∧ v3.cell? ⟨n0, 2, none⟩ = some (.slice a3 2 c3) ∧ v3.cell? ⟨n0, 3, none⟩ = some (.int .i64 6) ∧ v3.cell? ⟨n0 + 1, 0, none⟩ = some (.slice b1 4 d1) ∧ v3.cell? ⟨n0 + 1, 1, none⟩ = some (.slice b2 4 d2) ∧ v3.cell? ⟨n0 + 1, 2, none⟩ = some (.slice b3 2 d3) ∧ v3.cell? ⟨n0 + 1, 3, none⟩ = some (.int .i64 6) ∧ v3.cell? ⟨v1.heap.size, 0, none⟩ = some (.int .i64 3) ∧ v3.cell? ⟨v1.heap.size, 1, none⟩ = some (.int .i64 9) :=
    ⟨(hb3.cell (p := ⟨n0, 0, none⟩) (by first | omega | (simp; omega))).trans (by go_simp), (hb3.cell (p := ⟨n0, 1, none⟩) (by first | omega | (simp; omega))).trans (by go_simp), (hb3.cell (p := ⟨n0, 2, none⟩) (by first | omega | (simp; omega))).trans (by go_simp), (hb3.cell (p := ⟨n0, 3, none⟩) (by first | omega | (simp; omega))).trans (by go_simp), (hb3.cell (p := ⟨n0 + 1, 0, none⟩) (by first | omega | (simp; omega))).trans (by go_simp), (hb3.cell (p := ⟨n0 + 1, 1, none⟩) (by first | omega | (simp; omega))).trans (by go_simp), (hb3.cell (p := ⟨n0 + 1, 2, none⟩) (by first | omega | (simp; omega))).trans (by go_simp), (hb3.cell (p := ⟨n0 + 1, 3, none⟩) (by first | omega | (simp; omega))).trans (by go_simp), (hb3.cell (p := ⟨v1.heap.size, 0, none⟩) (by first | omega | (simp; omega))).trans (by go_simp), (hb3.cell (p := ⟨v1.heap.size, 1, none⟩) (by first | omega | (simp; omega))).trans (by go_simp)⟩
  have q3_0 : n0 < v3.heap.size := by omega
  have q3_1 : n0 + 1 < v3.heap.size := by omega
  have q3_2 : v1.heap.size < v3.heap.size := by omega
  have HB3 := Lib.hid hB3
  rw [exT_new]
  clear hb3 hB3 g2_0 g2_1 g2_2 g2_3 g2_4 g2_5 g2_6 g2_7 g2_8 g2_9 q2_0 q2_1 q2_2
  go_wp2_with fail
  refine (Chance_yes exS a1 4 c1 a2 4 c2 a3 2 c3 (some ⟨v3.heap.size, 0, none⟩) 4 4 [5, 3, 0, 3] _ (HS.out _ (by repeat (first | exact Below.refl _ _ | with_reducible exact HB3.out | (refine Below.alloc ?_ (by first | omega | (simp; omega) | simp) _) | refine Below.drew ?_))) (ints4 (World.alloc_heap_new _ _)) exS_ok exS_shares (by rw [exS_left]; decide) 1 3 1 exS_hold exS_left (by decide)).mono ?_
  rintro e v4 ⟨rfl, hb4⟩
  have hB4 : Below W0.heap.size W0 v4 := below_via (Lib.hid hb4) (by first | omega | (simp; done) | (simp; omega)) (by repeat (first | exact Below.refl _ _ | with_reducible exact HB3.out | (refine Below.alloc ?_ (by first | omega | (simp; omega) | simp) _) | refine Below.drew ?_))
  have z4 := hb4.size
  (try simp at z4)
  obtain ⟨g4_0, g4_1, g4_2, g4_3, g4_4, g4_5, g4_6, g4_7, g4_8, g4_9⟩ : v4.cell? ⟨n0, 0, none⟩ = some (.slice a1 4 c1) ∧ v4.cell? ⟨n0, 1, none⟩ = some (.slice a2 4 c2) ∧ v4.cell? ⟨n0, 2, none⟩ = some (.slice a3 2 c3) ∧ v4.cell? ⟨n0, 3, none⟩ = some (.int .i64 6) ∧ v4.cell? ⟨n0 + 1, 0, none⟩ = some (.slice b1 4 d1) ∧ v4.cell? ⟨n0 + 1, 1, none⟩ = some (.slice b2 4 d2) ∧ v4.cell? ⟨n0 + 1, 2, none⟩ = some (.slice b3 2 d3) ∧ v4.cell? ⟨n0 + 1, 3, none⟩ = some (.int .i64 6) ∧ v4.cell? ⟨v1.heap.size, 0, none⟩ = some (.int .i64 3) ∧ v4.cell? ⟨v1.heap.size, 1, none⟩ = some (.int .i64 9) :=
    ⟨(hb4.cell (p := ⟨n0, 0, none⟩) (by first | omega | (simp; omega))).trans (by go_simp), (hb4.cell (p := ⟨n0, 1, none⟩) (by first | omega | (simp; omega))).trans (by go_simp), (hb4.cell (p := ⟨n0, 2, none⟩) (by first | omega | (simp; omega))).trans (by go_simp), (hb4.cell (p := ⟨n0, 3, none⟩) (by first | omega | (simp; omega))).trans (by go_simp), (hb4.cell (p := ⟨n0 + 1, 0, none⟩) (by first | omega | (simp; omega))).trans (by go_simp), (hb4.cell (p := ⟨n0 + 1, 1, none⟩) (by first | omega | (simp; omega))).trans (by go_simp), (hb4.cell (p := ⟨n0 + 1, 2, none⟩) (by first | omega | (simp; omega))).trans (by go_simp), (hb4.cell (p := ⟨n0 + 1, 3, none⟩) (by first | omega | (simp; omega))).trans (by go_simp), (hb4.cell (p := ⟨v1.heap.size, 0, none⟩) (by first | omega | (simp; omega))).trans (by go_simp), (hb4.cell (p := ⟨v1.heap.size, 1, none⟩) (by first | omega | (simp; omega))).trans (by go_simp)⟩
  have q4_0 : n0 < v4.heap.size := by omega
  have q4_1 : n0 + 1 < v4.heap.size := by omega
  have q4_2 : v1.heap.size < v4.heap.size := by omega
  have HB4 := Lib.hid hB4
  clear hb4 hB4 g3_0 g3_1 g3_2 g3_3 g3_4 g3_5 g3_6 g3_7 g3_8 g3_9 q3_0 q3_1 q3_2
  go_wp2_with fail
  refine (Divide_S a1 c1 a2 c2 a3 c3 _ (HS.out _ (by repeat (first | exact Below.refl _ _ | with_reducible exact HB4.out | (refine Below.alloc ?_ (by first | omega | (simp; omega) | simp) _) | refine Below.drew ?_)))).mono ?_
  rintro e v5 ⟨gd, cd, rfl, hdi, hb5⟩
  have hB5 : Below W0.heap.size W0 v5 := below_via (Lib.hid hb5) (by first | omega | (simp; done) | (simp; omega)) (by repeat (first | exact Below.refl _ _ | with_reducible exact HB4.out | (refine Below.alloc ?_ (by first | omega | (simp; omega) | simp) _) | refine Below.drew ?_))
  have z5 := hb5.size
  (try simp at z5)
  obtain ⟨g5_0, g5_1, g5_2, g5_3, g5_4, g5_5, g5_6, g5_7, g5_8, g5_9, g5_10, g5_11⟩ : v5.cell? ⟨n0, 0, none⟩ = some (.slice a1 4 c1) ∧ v5.cell? ⟨n0, 1, none⟩ = some (.slice a2 4 c2) ∧ v5.cell? ⟨n0, 2, none⟩ = some (.slice a3 2 c3) ∧ v5.cell? ⟨n0, 3, none⟩ = some (.int .i64 6) ∧ v5.cell? ⟨n0 + 1, 0, none⟩ = some (.slice b1 4 d1) ∧ v5.cell? ⟨n0 + 1, 1, none⟩ = some (.slice b2 4 d2) ∧ v5.cell? ⟨n0 + 1, 2, none⟩ = some (.slice b3 2 d3) ∧ v5.cell? ⟨n0 + 1, 3, none⟩ = some (.int .i64 6) ∧ v5.cell? ⟨v1.heap.size, 0, none⟩ = some (.int .i64 3) ∧ v5.cell? ⟨v1.heap.size, 1, none⟩ = some (.int .i64 9) ∧ v5.cell? ⟨v4.heap.size, 0, none⟩ = some (.int .i64 1) ∧ v5.cell? ⟨v4.heap.size, 1, none⟩ = some (.int .i64 3) :=
    ⟨(hb5.cell (p := ⟨n0, 0, none⟩) (by first | omega | (simp; omega))).trans (by go_simp), (hb5.cell (p := ⟨n0, 1, none⟩) (by first | omega | (simp; omega))).trans (by go_simp), (hb5.cell (p := ⟨n0, 2, none⟩) (by first | omega | (simp; omega))).trans (by go_simp), (hb5.cell (p := ⟨n0, 3, none⟩) (by first | omega | (simp; omega))).trans (by go_simp), (hb5.cell (p := ⟨n0 + 1, 0, none⟩) (by first | omega | (simp; omega))).trans (by go_simp), (hb5.cell (p := ⟨n0 + 1, 1, none⟩) (by first | omega | (simp; omega))).trans (by go_simp), (hb5.cell (p := ⟨n0 + 1, 2, none⟩) (by first | omega | (simp; omega))).trans (by go_simp), (hb5.cell (p := ⟨n0 + 1, 3, none⟩) (by first | omega | (simp; omega))).trans (by go_simp), (hb5.cell (p := ⟨v1.heap.size, 0, none⟩) (by first | omega | (simp; omega))).trans (by go_simp), (hb5.cell (p := ⟨v1.heap.size, 1, none⟩) (by first | omega | (simp; omega))).trans (by go_simp), (hb5.cell (p := ⟨v4.heap.size, 0, none⟩) (by first | omega | (simp; done) | (simp; omega))).trans (by go_simp), (hb5.cell (p := ⟨v4.heap.size, 1, none⟩) (by first | omega | (simp; done) | (simp; omega))).trans (by go_simp)⟩
  have q5_0 : n0 < v5.heap.size := by omega
  have q5_1 : n0 + 1 < v5.heap.size := by omega
  have q5_2 : v1.heap.size < v5.heap.size := by omega
  have q5_3 : v4.heap.size < v5.heap.size := by omega
  have HB5 := Lib.hid hB5
  have HD := Lib.hid (fun W (h : Below v5.heap.size v5 W) => hdi.below h)
  clear hdi
  clear hb5 hB5 g4_0 g4_1 g4_2 g4_3 g4_4 g4_5 g4_6 g4_7 g4_8 g4_9 q4_0 q4_1 q4_2
  go_wp2_with fail
  refine (Bold_T b1 d1 b2 d2 b3 d3 _ (HT.out _ (by repeat (first | exact Below.refl _ _ | with_reducible exact HB5.out | (refine Below.alloc ?_ (by first | omega | (simp; omega) | simp) _) | refine Below.drew ?_)))).mono ?_
  rintro e v6 ⟨gb, cb, rfl, hbi, hb6⟩
  have hB6 : Below W0.heap.size W0 v6 := below_via (Lib.hid hb6) (by first | omega | (simp; done) | (simp; omega)) (by repeat (first | exact Below.refl _ _ | with_reducible exact HB5.out | (refine Below.alloc ?_ (by first | omega | (simp; omega) | simp) _) | refine Below.drew ?_))
  have z6 := hb6.size
  (try simp at z6)
  obtain ⟨g6_0, g6_1, g6_2, g6_3, g6_4, g6_5, g6_6, g6_7, g6_8, g6_9, g6_10, g6_11⟩ : v6.cell? ⟨n0, 0, none⟩ = some (.slice a1 4 c1) ∧ v6.cell? ⟨n0, 1, none⟩ = some (.slice a2 4 c2) ∧ v6.cell? ⟨n0, 2, none⟩ = some (.slice a3 2 c3) ∧ v6.cell? ⟨n0, 3, none⟩ = some (.int .i64 6) ∧ v6.cell? ⟨n0 + 1, 0, none⟩ = some (.slice b1 4 d1) ∧ v6.cell? ⟨n0 + 1, 1, none⟩ = some (.slice b2 4 d2) ∧ v6.cell? ⟨n0 + 1, 2, none⟩ = some (.slice b3 2 d3) ∧ v6.cell? ⟨n0 + 1, 3, none⟩ = some (.int .i64 6) ∧ v6.cell? ⟨v1.heap.size, 0, none⟩ = some (.int .i64 3) ∧ v6.cell? ⟨v1.heap.size, 1, none⟩ = some (.int .i64 9) ∧ v6.cell? ⟨v4.heap.size, 0, none⟩ = some (.int .i64 1) ∧ v6.cell? ⟨v4.heap.size, 1, none⟩ = some (.int .i64 3) :=
    ⟨(hb6.cell (p := ⟨n0, 0, none⟩) (by first | omega | (simp; omega))).trans (by go_simp), (hb6.cell (p := ⟨n0, 1, none⟩) (by first | omega | (simp; omega))).trans (by go_simp), (hb6.cell (p := ⟨n0, 2, none⟩) (by first | omega | (simp; omega))).trans (by go_simp), (hb6.cell (p := ⟨n0, 3, none⟩) (by first | omega | (simp; omega))).trans (by go_simp), (hb6.cell (p := ⟨n0 + 1, 0, none⟩) (by first | omega | (simp; omega))).trans (by go_simp), (hb6.cell (p := ⟨n0 + 1, 1, none⟩) (by first | omega | (simp; omega))).trans (by go_simp), (hb6.cell (p := ⟨n0 + 1, 2, none⟩) (by first | omega | (simp; omega))).trans (by go_simp), (hb6.cell (p := ⟨n0 + 1, 3, none⟩) (by first | omega | (simp; omega))).trans (by go_simp), (hb6.cell (p := ⟨v1.heap.size, 0, none⟩) (by first | omega | (simp; omega))).trans (by go_simp), (hb6.cell (p := ⟨v1.heap.size, 1, none⟩) (by first | omega | (simp; omega))).trans (by go_simp), (hb6.cell (p := ⟨v4.heap.size, 0, none⟩) (by first | omega | (simp; omega))).trans (by go_simp), (hb6.cell (p := ⟨v4.heap.size, 1, none⟩) (by first | omega | (simp; omega))).trans (by go_simp)⟩
  have q6_0 : n0 < v6.heap.size := by omega
  have q6_1 : n0 + 1 < v6.heap.size := by omega
  have q6_2 : v1.heap.size < v6.heap.size := by omega
  have q6_3 : v4.heap.size < v6.heap.size := by omega
  have HB6 := Lib.hid hB6
  have HDB := Lib.hid (HD.out _ hb6)
  have HDD := Lib.hid (fun W (h : Below v6.heap.size v6 W) => HDB.out.below h)
  have HBB := Lib.hid (fun W (h : Below v6.heap.size v6 W) => hbi.below h)
  clear hbi
  clear hb6 hB6 g5_0 g5_1 g5_2 g5_3 g5_4 g5_5 g5_6 g5_7 g5_8 g5_9 g5_10 g5_11 q5_0 q5_1 q5_2 q5_3
  have HSI := Lib.hid (fun W (a : Option Addr) (c : Nat) (x : List Int) (ya : Option Addr) (yc : Nat) (hx : IntsAt W a 4 x) (hy : IntsAt W ya 4 x) => show Calls Try.prog 48 #[.slice a 4 c, .slice ya 4 yc] W fun e w' => e = .returned (.bool true) ∧ Below W.heap.size W w' from by
    have h := SameInts_any a 4 c ya 4 yc x x W hx hy
    rw [show sameB x x = true by simp [sameB]] at h
    exact h)
  go_wp2_with fail
  refine (HSI.out _ _ _ [3, 2, 0, 3] _ _ (HDD.out _ (by repeat (first | exact Below.refl _ _ | (refine Below.alloc ?_ (by first | omega | (simp; omega) | simp) _) | (refine Below.setCell ?_ (by first | omega | (simp; omega) | simp) _) | refine Below.drew ?_))) (ints4 (World.alloc_heap_new _ _))).mono ?_
  rintro e v7 ⟨rfl, hb7⟩
  have HB7 := Lib.hid (below_via (Lib.hid hb7) (by simp) (by repeat (first | exact Below.refl _ _ | (refine Below.alloc ?_ (by first | omega | (simp; omega) | simp) _) | (refine Below.setCell ?_ (by first | omega | (simp; omega) | simp) _) | refine Below.drew ?_)) : Below v6.heap.size v6 v7)
  clear hb7
  have hz7 := HB7.out.size
  go_wp2_with fail
  refine (HSI.out _ _ _ [2, 4, 0, 3] _ _ (HBB.out _ (by have hbb := HB7.out; exact (by repeat (first | assumption | exact Below.refl _ _ | (refine Below.alloc ?_ (by first | omega | (simp; omega) | simp) _) | (refine Below.setCell ?_ (by first | omega | (simp; omega) | simp) _) | refine Below.drew ?_)))) (ints4 (World.alloc_heap_new _ _))).mono ?_
  rintro e v8 ⟨rfl, hb8⟩
  have HB8 := Lib.hid (below_via (Lib.hid hb8) (by have := HB7.out.size; simp; omega) (by have hbb := HB7.out; exact (by repeat (first | assumption | exact Below.refl _ _ | (refine Below.alloc ?_ (by first | omega | (simp; omega) | simp) _) | (refine Below.setCell ?_ (by first | omega | (simp; omega) | simp) _) | refine Below.drew ?_))) : Below v6.heap.size v6 v8)
  clear hb8
  go_wp2_with fail
  go_ret
  exact ⟨rfl, HBW.out.trans ((HB6.out.trans (HB8.out.mono HB6.out.size)).mono HBW.out.size)⟩
end Go.Proofs.Ytigeiaiohdemiaa
