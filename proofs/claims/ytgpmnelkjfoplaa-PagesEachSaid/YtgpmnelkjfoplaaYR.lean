/- The reference of pages: Within, within, IsColumn, IsPiece, Locked, Points, High. -/
import Derived.Test.YtgpmnelkjfoplaaYE
namespace Go.Proofs.Ytgpmnelkjfoplaa
set_option linter.unusedVariables false
set_option linter.unusedSimpArgs false
open Go.RowKit

set_option maxHeartbeats 400000 in
theorem Within_any (n lo hi : Int) (w : World) :
    Calls Try.prog 57 #[.int .i64 n, .int .i64 lo, .int .i64 hi] w fun e w' => e = .returned (.bool (btw n lo hi)) ∧ w = w' := by
  go_enter Try.func57, Try.ntmps57
  go_wp2
  all_goals (go_ret; refine ⟨ret_bool ?_, rfl⟩; rw [Bool.eq_iff_iff]; simp [btw]; omega)
theorem Within_is (n lo hi : Int) (b : Bool) (h : btw n lo hi = b) (w : World) :
    Calls Try.prog 57 #[.int .i64 n, .int .i64 lo, .int .i64 hi] w fun e w' => e = .returned (.bool b) ∧ w = w' := h ▸ Within_any n lo hi w
theorem within_is (n lo hi : Int) (b : Bool) (h : btw n lo hi = b) (w : World) :
    Calls Try.prog 80 #[.int .i64 n, .int .i64 lo, .int .i64 hi] w fun e w' => e = .returned (.bool b) ∧ w = w' := by
  subst h
  have HW := Lib.hid (fun w1 => Within_any n lo hi w1)
  go_enter Try.func80, Try.ntmps80
  go_wp2_with fail
  refine (HW.out _).mono ?_
  rintro e w1 ⟨rfl, rfl⟩
  go_wp2_with fail
  go_ret
  exact ⟨rfl, rfl⟩
theorem IsColumn_is (f : PFrame) (sa : Option Addr) (sl sc : Nat) (pa : Option Addr) (pl pc : Nat) (ca : Option Addr) (cl cc : Nat) (n : Int) (w : World) (hl : cl ≤ maxLen) (b : Bool) (h : btw n 0 (cl - 1) = b) :
    Calls Try.prog 70 #[.agg #[.int .i64 f.len, .int .i64 f.slack, .slice sa sl sc, .slice pa pl pc, .slice ca cl cc], .int .i64 n] w fun e w' => e = .returned (.bool b) ∧ Below w.heap.size w w' := by
  unfold maxLen at hl
  have HB := Lib.hid (fun w1 => within_is n 0 ((cl : Int) - 1) b h w1)
  clear h
  go_enter Try.func70, Try.ntmps70
  go_wp2_with fail
  refine (HB.out _).mono ?_
  rintro e w1 ⟨rfl, rfl⟩
  go_wp2_with fail
  go_ret
  exact ⟨rfl, (by repeat (first | exact Below.refl _ _ | (refine Below.alloc ?_ (by first | omega | (simp; omega) | simp) _) | (refine Below.setCell ?_ (by first | omega | (simp; omega) | simp) _) | refine Below.drew ?_))⟩
theorem IsPiece_is (f : PFrame) (sa : Option Addr) (sl sc : Nat) (pa : Option Addr) (pl pc : Nat) (ca : Option Addr) (cl cc : Nat) (n : Int) (w : World) (hl : pl ≤ maxLen) (b : Bool) (h : btw n 0 (pl - 1) = b) :
    Calls Try.prog 55 #[.agg #[.int .i64 f.len, .int .i64 f.slack, .slice sa sl sc, .slice pa pl pc, .slice ca cl cc], .int .i64 n] w fun e w' => e = .returned (.bool b) ∧ Below w.heap.size w w' := by
  unfold maxLen at hl
  have HB := Lib.hid (fun w1 => within_is n 0 ((pl : Int) - 1) b h w1)
  clear h
  go_enter Try.func55, Try.ntmps55
  go_wp2_with fail
  refine (HB.out _).mono ?_
  rintro e w1 ⟨rfl, rfl⟩
  go_wp2_with fail
  go_ret
  exact ⟨rfl, (by repeat (first | exact Below.refl _ _ | (refine Below.alloc ?_ (by first | omega | (simp; omega) | simp) _) | (refine Below.setCell ?_ (by first | omega | (simp; omega) | simp) _) | refine Below.drew ?_))⟩
theorem Locked_is (f : PFrame) (sa : Option Addr) (sl sc : Nat) (pa : Option Addr) (pl pc : Nat) (ca : Option Addr) (cl cc : Nat) (n : Int) (ho : f.ok = true) (b : Bool) (h : btw n (f.len - f.slack) f.len = b) (w : World) :
    Calls Try.prog 53 #[.agg #[.int .i64 f.len, .int .i64 f.slack, .slice sa sl sc, .slice pa pl pc, .slice ca cl cc], .int .i64 n] w fun e w' => e = .returned (.bool b) ∧ Below w.heap.size w w' := by
  obtain ⟨b1, b2, b3, b4, -⟩ := PFrame.ok_parts ho
  have HB := Lib.hid (fun w1 => within_is n (f.len - f.slack) f.len b h w1)
  clear h ho
  go_enter Try.func53, Try.ntmps53
  go_wp2_with fail
  refine (HB.out _).mono ?_
  rintro e w1 ⟨rfl, rfl⟩
  go_wp2_with fail
  go_ret
  exact ⟨rfl, (by repeat (first | exact Below.refl _ _ | (refine Below.alloc ?_ (by first | omega | (simp; omega) | simp) _) | (refine Below.setCell ?_ (by first | omega | (simp; omega) | simp) _) | refine Below.drew ?_))⟩

set_option maxRecDepth 100000 in
set_option maxHeartbeats 4000000 in
theorem refPoints_any (f : PFrame) (sa : Option Addr) (sl sc : Nat) (pa : Option Addr) (pl pc : Nat) (ca : Option Addr) (cl cc : Nat) (xa : Option Addr) (xl xc : Nat) (x : List Int) (ho : f.ok = true) (hl : x.length ≤ f.strips.length) (hb : ∀ i (h : i < x.length), 0 ≤ x[i] ∧ x[i] ≤ 4) (w : World) (hp : PAt w sa sl sc pa pl pc ca cl cc f) (hx : IntsAt w xa xl x) :
    Calls Try.prog 54 #[.agg #[.int .i64 f.len, .int .i64 f.slack, .slice sa sl sc, .slice pa pl pc, .slice ca cl cc], .slice xa xl xc] w fun e w' => e = .returned (.int .i64 (f.ptsL x)) ∧ Below w.heap.size w w' := by
  obtain ⟨hsl, hsm, hsc⟩ := hp.1
  obtain ⟨hxl, hxm, hxc⟩ := hx
  have hsl3 := (PFrame.ok_parts ho).2.2.2.2.1
  have HSL := Lib.hid hsl
  have HXL := Lib.hid hxl
  have HSC := Lib.hid hsc
  have HXC := Lib.hid hxc
  have HN := Lib.hid (fun k (h : k < x.length) (h2 : k < f.strips.length) => show f.ptsL (x.take (k + 1)) = f.ptsL (x.take k) + x[k] * f.strips[k].t from ptsZ_take _ _ _ h h2)
  have HBD := Lib.hid (fun k => ptsL_bd ho (x := x.take k) (fun i hi => by
    have hi2 : i < x.length := by rw [List.length_take] at hi; omega
    rw [List.getElem_take]
    exact hb i hi2))
  have HXB := Lib.hid hb
  have HSB := Lib.hid (fun k (h : k < f.strips.length) => PFrame.ok_strip ho k h)
  have HE := Lib.hid (show f.ptsL (x.take xl) = f.ptsL x from by rw [List.take_of_length_le (by omega)])
  have HE0 := Lib.hid (show f.ptsL (x.take 0) = 0 from by unfold PFrame.ptsL; cases f.strips <;> rfl)
  have hxs : xl ≤ sl := by omega
  have hsl4 : sl ≤ 3 := by omega
  clear hp hsl hsm hsc hxl hxm hxc ho hl hb hsl3
  go_enter Try.func54, Try.ntmps54
  go_wp2_with fail
  obtain ⟨W0, hW0, hB0, hs0, hz0⟩ := name1k w #[.int .i64 f.len, .int .i64 f.slack, .slice sa sl sc, .slice pa pl pc, .slice ca cl cc] 26
  rw [hW0]
  clear hW0
  have HB0 := Lib.hid hB0
  have HX2 := Lib.hid (show W0.cell? ⟨w.heap.size, 2, none⟩ = some (.slice sa sl sc) from hs0 2)
  clear hB0 hs0
  go_loopw [5, 6] (fun n i wr => ∃ k : Nat, k ≤ xl ∧ i = .int .i64 k ∧ n = .int .i64 (f.ptsL (x.take k)) ∧ Below W0.heap.size W0 wr) (fun _ i _ => xl - (intOf i).toNat)
  case atStart => exact ⟨0, by omega, rfl, by rw [HE0.out], Below.refl _ _⟩
  case round =>
    obtain ⟨k, hk, rfl, rfl, hB⟩ := hrel
    obtain ⟨hb1, hb2⟩ := HBD.out k
    have HB := Lib.hid hB
    have hbw := HB0.out.trans (hB.mono HB0.out.size)
    have HBW := Lib.hid hbw
    have x2 := (hB.cell (p := ⟨w.heap.size, 2, none⟩) hz0).trans HX2.out
    by_cases hlt : k < xl
    · have hk2 : k < f.strips.length := by rw [HSL.out]; omega
      have hk3 : k < x.length := by rw [HXL.out]; exact hlt
      obtain ⟨b, o, rfl, hbB, hcm⟩ := HSC.out (by omega)
      obtain ⟨b', o', rfl, hbB', hcx'⟩ := HXC.out (by omega)
      obtain ⟨d0, d1⟩ := hcm k hk2
      have c0 := (hbw.cell (p := ⟨b, o + k * 2, none⟩) hbB).trans d0
      have hcx := (hbw.cell (p := ⟨b', o' + k, none⟩) hbB').trans (hcx' k hk3)
      have hkl : (k : Int) < (xl : Int) := by omega
      have hks : (k : Int) < (sl : Int) := by omega
      have hk0 : (0 : Int) ≤ (k : Int) := by omega
      have HNK := Lib.hid (HN.out k hk3 hk2)
      obtain ⟨v1, v2⟩ := HXB.out k hk3
      obtain ⟨t1, t2, -, -⟩ := HSB.out k hk2
      clear hcm hcx' d0 d1 hB hbw
      generalize f.strips[k].t = t at *
      generalize x[k] = v at *
      generalize f.ptsL (x.take k) = n at *
      obtain ⟨m1, m2⟩ := mul_bd v1 v2 (show 0 ≤ t by omega) t2
      have hw1 : IntKind.i64.wrap (v * t) = v * t := IntWalk.i64_in _ ⟨by omega, by omega⟩
      have hw2 : IntKind.i64.wrap (n + v * t) = n + v * t := IntWalk.i64_in _ ⟨by omega, by omega⟩
      clear hk2 hk3
      go_wp2_with fail
      go_quiet (fail)
      go_wp2_with fail
      go_roundw
      case rel => exact ⟨k + 1, by omega, by go_num, by rw [HNK.out], HB.out.trans (show Below _ wr (wr.drewN _) from ⟨rfl, rfl, rfl, Nat.le_refl _, fun _ _ => rfl⟩)⟩
      case measure => simp [intOf]; omega
    · obtain rfl : xl = k := by omega
      clear hB hbw
      go_wp2_with fail
      go_ret
      exact ⟨ret_i64 HE.out, HBW.out⟩
end Go.Proofs.Ytgpmnelkjfoplaa
