/- YR YT YU, joined. -/
import Derived.Test.YtcklhojeneejiaaYE
/- The reference of pages: Within, within, IsColumn, IsPiece, Locked, Points, High. -/
namespace Go.Proofs.Ytcklhojeneejiaa
set_option linter.unusedVariables false
set_option linter.unusedSimpArgs false
open Go.RowKit
/-- A frame all of whose parts are in their bounds, but for where pieces stand: some of them may be in no column. -/
def PFrame.okW (f : PFrame) : Prop := ∃ cs : List (List Int), ({ f with cols := cs } : PFrame).ok = true ∧ cs.length = f.cols.length ∧ ∀ i (h : i < f.cols.length), (∀ x ∈ f.cols[i], 0 ≤ x ∧ x < (f.pieces.length : Int)) ∧ f.cols[i].length ≤ 6
theorem PFrame.okW_of {f : PFrame} (h : f.ok = true) : f.okW := ⟨f.cols, h, rfl, fun i hi => PFrame.ok_col h i hi⟩
theorem PFrame.okW.parts {f : PFrame} (h : f.okW) : 0 ≤ f.len ∧ f.len ≤ 300 ∧ 0 ≤ f.slack ∧ f.slack ≤ 9 ∧ f.strips.length ≤ 3 ∧ f.pieces.length ≤ 6 ∧ f.cols.length ≤ 3 := by
  obtain ⟨cs, h1, h2, -⟩ := h
  have := PFrame.ok_parts h1
  rw [← h2]
  exact this
theorem PFrame.okW.strip {f : PFrame} (h : f.okW) (i : Nat) (hi : i < f.strips.length) : 1 ≤ f.strips[i].t ∧ f.strips[i].t ≤ 30 ∧ 0 ≤ f.strips[i].m ∧ f.strips[i].m ≤ 4 := by
  obtain ⟨cs, h1, -⟩ := h
  exact PFrame.ok_strip h1 i hi
theorem PFrame.okW.piece {f : PFrame} (h : f.okW) (i : Nat) (hi : i < f.pieces.length) : 0 ≤ f.pieces[i].lo ∧ f.pieces[i].lo ≤ f.pieces[i].hi ∧ f.pieces[i].hi ≤ 99 ∧ 0 ≤ f.pieces[i].pe ∧ f.pieces[i].pe ≤ 99 := by
  obtain ⟨cs, h1, -⟩ := h
  exact PFrame.ok_piece h1 i hi
theorem PFrame.okW.col {f : PFrame} (h : f.okW) (i : Nat) (hi : i < f.cols.length) : (∀ x ∈ f.cols[i], 0 ≤ x ∧ x < (f.pieces.length : Int)) ∧ f.cols[i].length ≤ 6 := h.choose_spec.2.2 i hi
theorem PFrame.okW.loS_bd {f : PFrame} (h : f.okW) (xs : List Int) (h6 : xs.length ≤ 6) : 0 ≤ f.loS xs ∧ f.loS xs ≤ 594 := by
  obtain ⟨cs, h1, -⟩ := h
  exact PFrame.loS_bd h1 xs h6
theorem PFrame.okW.hiS_bd {f : PFrame} (h : f.okW) (xs : List Int) (h6 : xs.length ≤ 6) : 0 ≤ f.hiS xs ∧ f.hiS xs ≤ 594 := by
  obtain ⟨cs, h1, -⟩ := h
  exact PFrame.hiS_bd h1 xs h6
theorem PFrame.okW.ptsL_bd {f : PFrame} (h : f.okW) {x : List Int} (hb : ∀ i (h : i < x.length), 0 ≤ x[i] ∧ x[i] ≤ 4) : 0 ≤ f.ptsL x ∧ f.ptsL x ≤ 360 := by
  obtain ⟨cs, h1, -⟩ := h
  exact _root_.Go.Proofs.Ytcklhojeneejiaa.ptsL_bd h1 hb

set_option maxHeartbeats 400000 in
theorem Within_any (n lo hi : Int) (w : World) :
    Calls Try.prog 57 #[.int .i64 n, .int .i64 lo, .int .i64 hi] w fun e w' => e = .returned (.bool (btw n lo hi)) ∧ w = w' := by
  go_enter Try.func57, Try.ntmps57
  go_wp2
  all_goals (go_ret; refine ⟨ret_bool ?_, rfl⟩; rw [Bool.eq_iff_iff]; simp [btw]; omega)
theorem Within_is (n lo hi : Int) (b : Bool) (h : btw n lo hi = b) (w : World) :
    Calls Try.prog 57 #[.int .i64 n, .int .i64 lo, .int .i64 hi] w fun e w' => e = .returned (.bool b) ∧ w = w' := h ▸ Within_any n lo hi w
theorem within_is (n lo hi : Int) (b : Bool) (h : btw n lo hi = b) (w : World) :
    Calls Try.prog 80 #[.int .i64 n, .int .i64 lo, .int .i64 hi] w fun e w' => e = .returned (.bool b) ∧ w = w' := by
  subst h
  have HW := Lib.hid (fun w1 => Within_any n lo hi w1)
  go_enter Try.func80, Try.ntmps80
  go_wp2_with fail
  refine (HW.out _).mono ?_
  rintro e w1 ⟨rfl, rfl⟩
  go_wp2_with fail
  go_ret
  exact ⟨rfl, rfl⟩
theorem IsColumn_is (f : PFrame) (sa : Option Addr) (sl sc : Nat) (pa : Option Addr) (pl pc : Nat) (ca : Option Addr) (cl cc : Nat) (n : Int) (w : World) (hl : cl ≤ maxLen) (b : Bool) (h : btw n 0 (cl - 1) = b) :
    Calls Try.prog 70 #[.agg #[.int .i64 f.len, .int .i64 f.slack, .slice sa sl sc, .slice pa pl pc, .slice ca cl cc], .int .i64 n] w fun e w' => e = .returned (.bool b) ∧ Below w.heap.size w w' := by
  unfold maxLen at hl
  have HB := Lib.hid (fun w1 => within_is n 0 ((cl : Int) - 1) b h w1)
  clear h
  go_enter Try.func70, Try.ntmps70
  go_wp2_with fail
  refine (HB.out _).mono ?_
  rintro e w1 ⟨rfl, rfl⟩
  go_wp2_with fail
  go_ret
  exact ⟨rfl, (by repeat (first | exact Below.refl _ _ | (refine Below.alloc ?_ (by first | omega | (simp; omega) | simp) _) | (refine Below.setCell ?_ (by first | omega | (simp; omega) | simp) _) | refine Below.drew ?_))⟩
theorem IsPiece_is (f : PFrame) (sa : Option Addr) (sl sc : Nat) (pa : Option Addr) (pl pc : Nat) (ca : Option Addr) (cl cc : Nat) (n : Int) (w : World) (hl : pl ≤ maxLen) (b : Bool) (h : btw n 0 (pl - 1) = b) :
    Calls Try.prog 55 #[.agg #[.int .i64 f.len, .int .i64 f.slack, .slice sa sl sc, .slice pa pl pc, .slice ca cl cc], .int .i64 n] w fun e w' => e = .returned (.bool b) ∧ Below w.heap.size w w' := by
  unfold maxLen at hl
  have HB := Lib.hid (fun w1 => within_is n 0 ((pl : Int) - 1) b h w1)
  clear h
  go_enter Try.func55, Try.ntmps55
  go_wp2_with fail
  refine (HB.out _).mono ?_
  rintro e w1 ⟨rfl, rfl⟩
  go_wp2_with fail
  go_ret
  exact ⟨rfl, (by repeat (first | exact Below.refl _ _ | (refine Below.alloc ?_ (by first | omega | (simp; omega) | simp) _) | (refine Below.setCell ?_ (by first | omega | (simp; omega) | simp) _) | refine Below.drew ?_))⟩
theorem Locked_isW (f : PFrame) (sa : Option Addr) (sl sc : Nat) (pa : Option Addr) (pl pc : Nat) (ca : Option Addr) (cl cc : Nat) (n : Int) (ho : f.okW) (b : Bool) (h : btw n (f.len - f.slack) f.len = b) (w : World) :
    Calls Try.prog 53 #[.agg #[.int .i64 f.len, .int .i64 f.slack, .slice sa sl sc, .slice pa pl pc, .slice ca cl cc], .int .i64 n] w fun e w' => e = .returned (.bool b) ∧ Below w.heap.size w w' := by
  obtain ⟨b1, b2, b3, b4, -⟩ := PFrame.okW.parts ho
  have HB := Lib.hid (fun w1 => within_is n (f.len - f.slack) f.len b h w1)
  clear h ho
  go_enter Try.func53, Try.ntmps53
  go_wp2_with fail
  refine (HB.out _).mono ?_
  rintro e w1 ⟨rfl, rfl⟩
  go_wp2_with fail
  go_ret
  exact ⟨rfl, (by repeat (first | exact Below.refl _ _ | (refine Below.alloc ?_ (by first | omega | (simp; omega) | simp) _) | (refine Below.setCell ?_ (by first | omega | (simp; omega) | simp) _) | refine Below.drew ?_))⟩
theorem Locked_is (f : PFrame) (sa : Option Addr) (sl sc : Nat) (pa : Option Addr) (pl pc : Nat) (ca : Option Addr) (cl cc : Nat) (n : Int) (ho : f.ok = true) (b : Bool) (h : btw n (f.len - f.slack) f.len = b) (w : World) :
    Calls Try.prog 53 #[.agg #[.int .i64 f.len, .int .i64 f.slack, .slice sa sl sc, .slice pa pl pc, .slice ca cl cc], .int .i64 n] w fun e w' => e = .returned (.bool b) ∧ Below w.heap.size w w' :=
  Locked_isW f sa sl sc pa pl pc ca cl cc n (PFrame.okW_of ho) b h w

set_option maxRecDepth 100000 in
set_option maxHeartbeats 4000000 in
theorem refPoints_anyW (f : PFrame) (sa : Option Addr) (sl sc : Nat) (pa : Option Addr) (pl pc : Nat) (ca : Option Addr) (cl cc : Nat) (xa : Option Addr) (xl xc : Nat) (x : List Int) (ho : f.okW) (hl : x.length ≤ f.strips.length) (hb : ∀ i (h : i < x.length), 0 ≤ x[i] ∧ x[i] ≤ 4) (w : World) (hp : PAt w sa sl sc pa pl pc ca cl cc f) (hx : IntsAt w xa xl x) :
    Calls Try.prog 54 #[.agg #[.int .i64 f.len, .int .i64 f.slack, .slice sa sl sc, .slice pa pl pc, .slice ca cl cc], .slice xa xl xc] w fun e w' => e = .returned (.int .i64 (f.ptsL x)) ∧ Below w.heap.size w w' := by
  obtain ⟨hsl, hsm, hsc⟩ := hp.1
  obtain ⟨hxl, hxm, hxc⟩ := hx
  have hsl3 := (PFrame.okW.parts ho).2.2.2.2.1
  have HSL := Lib.hid hsl
  have HXL := Lib.hid hxl
  have HSC := Lib.hid hsc
  have HXC := Lib.hid hxc
  have HN := Lib.hid (fun k (h : k < x.length) (h2 : k < f.strips.length) => show f.ptsL (x.take (k + 1)) = f.ptsL (x.take k) + x[k] * f.strips[k].t from ptsZ_take _ _ _ h h2)
  have HBD := Lib.hid (fun k => PFrame.okW.ptsL_bd ho (x := x.take k) (fun i hi => by
    have hi2 : i < x.length := by rw [List.length_take] at hi; omega
    rw [List.getElem_take]
    exact hb i hi2))
  have HXB := Lib.hid hb
  have HSB := Lib.hid (fun k (h : k < f.strips.length) => PFrame.okW.strip ho k h)
  have HE := Lib.hid (show f.ptsL (x.take xl) = f.ptsL x from by rw [List.take_of_length_le (by omega)])
  have HE0 := Lib.hid (show f.ptsL (x.take 0) = 0 from by unfold PFrame.ptsL; cases f.strips <;> rfl)
  have hxs : xl ≤ sl := by omega
  have hsl4 : sl ≤ 3 := by omega
  clear hp hsl hsm hsc hxl hxm hxc ho hl hb hsl3
  go_enter Try.func54, Try.ntmps54
  go_wp2_with fail
  obtain ⟨W0, hW0, hB0, hs0, hz0⟩ := name1k w #[.int .i64 f.len, .int .i64 f.slack, .slice sa sl sc, .slice pa pl pc, .slice ca cl cc] 26
  rw [hW0]
  clear hW0
  have HB0 := Lib.hid hB0
  have HX2 := Lib.hid (show W0.cell? ⟨w.heap.size, 2, none⟩ = some (.slice sa sl sc) from hs0 2)
  clear hB0 hs0
  go_loopw [5, 6] (fun n i wr => ∃ k : Nat, k ≤ xl ∧ i = .int .i64 k ∧ n = .int .i64 (f.ptsL (x.take k)) ∧ Below W0.heap.size W0 wr) (fun _ i _ => xl - (intOf i).toNat)
  case atStart => exact ⟨0, by omega, rfl, by rw [HE0.out], Below.refl _ _⟩
  case round =>
    obtain ⟨k, hk, rfl, rfl, hB⟩ := hrel
    obtain ⟨hb1, hb2⟩ := HBD.out k
    have HB := Lib.hid hB
    have hbw := HB0.out.trans (hB.mono HB0.out.size)
    have HBW := Lib.hid hbw
    have x2 := (hB.cell (p := ⟨w.heap.size, 2, none⟩) hz0).trans HX2.out
    by_cases hlt : k < xl
    · have hk2 : k < f.strips.length := by rw [HSL.out]; omega
      have hk3 : k < x.length := by rw [HXL.out]; exact hlt
      obtain ⟨b, o, rfl, hbB, hcm⟩ := HSC.out (by omega)
      obtain ⟨b', o', rfl, hbB', hcx'⟩ := HXC.out (by omega)
      obtain ⟨d0, d1⟩ := hcm k hk2
      have c0 := (hbw.cell (p := ⟨b, o + k * 2, none⟩) hbB).trans d0
      have hcx := (hbw.cell (p := ⟨b', o' + k, none⟩) hbB').trans (hcx' k hk3)
      have hkl : (k : Int) < (xl : Int) := by omega
      have hks : (k : Int) < (sl : Int) := by omega
      have hk0 : (0 : Int) ≤ (k : Int) := by omega
      have HNK := Lib.hid (HN.out k hk3 hk2)
      obtain ⟨v1, v2⟩ := HXB.out k hk3
      obtain ⟨t1, t2, -, -⟩ := HSB.out k hk2
      clear hcm hcx' d0 d1 hB hbw
      generalize f.strips[k].t = t at *
      generalize x[k] = v at *
      generalize f.ptsL (x.take k) = n at *
      obtain ⟨m1, m2⟩ := mul_bd v1 v2 (show 0 ≤ t by omega) t2
      have hw1 : IntKind.i64.wrap (v * t) = v * t := IntWalk.i64_in _ ⟨by omega, by omega⟩
      have hw2 : IntKind.i64.wrap (n + v * t) = n + v * t := IntWalk.i64_in _ ⟨by omega, by omega⟩
      clear hk2 hk3
      go_wp2_with fail
      go_quiet (fail)
      go_wp2_with fail
      go_roundw
      case rel => exact ⟨k + 1, by omega, by go_num, by rw [HNK.out], HB.out.trans (show Below _ wr (wr.drewN _) from ⟨rfl, rfl, rfl, Nat.le_refl _, fun _ _ => rfl⟩)⟩
      case measure => simp [intOf]; omega
    · obtain rfl : xl = k := by omega
      clear hB hbw
      go_wp2_with fail
      go_ret
      exact ⟨ret_i64 HE.out, HBW.out⟩
theorem refPoints_any (f : PFrame) (sa : Option Addr) (sl sc : Nat) (pa : Option Addr) (pl pc : Nat) (ca : Option Addr) (cl cc : Nat) (xa : Option Addr) (xl xc : Nat) (x : List Int) (ho : f.ok = true) (hl : x.length ≤ f.strips.length) (hb : ∀ i (h : i < x.length), 0 ≤ x[i] ∧ x[i] ≤ 4) (w : World) (hp : PAt w sa sl sc pa pl pc ca cl cc f) (hx : IntsAt w xa xl x) :
    Calls Try.prog 54 #[.agg #[.int .i64 f.len, .int .i64 f.slack, .slice sa sl sc, .slice pa pl pc, .slice ca cl cc], .slice xa xl xc] w fun e w' => e = .returned (.int .i64 (f.ptsL x)) ∧ Below w.heap.size w w' :=
  refPoints_anyW f sa sl sc pa pl pc ca cl cc xa xl xc x (PFrame.okW_of ho) hl hb w hp hx
end Go.Proofs.Ytcklhojeneejiaa

/- The reference of pages: High. -/
namespace Go.Proofs.Ytcklhojeneejiaa
set_option linter.unusedVariables false
set_option linter.unusedSimpArgs false
open Go.RowKit

set_option maxRecDepth 100000 in
set_option maxHeartbeats 4000000 in
theorem refHigh_anyW (f : PFrame) (sa : Option Addr) (sl sc : Nat) (pa : Option Addr) (pl pc : Nat) (ca : Option Addr) (cl cc : Nat) (xa : Option Addr) (xl xc : Nat) (xs : List Int) (ho : f.okW) (hin : ∀ x ∈ xs, 0 ≤ x ∧ x < (f.pieces.length : Int)) (h6 : xs.length ≤ 6) (w : World) (hp : PAt w sa sl sc pa pl pc ca cl cc f) (hx : IntsAt w xa xl xs) :
    Calls Try.prog 78 #[.agg #[.int .i64 f.len, .int .i64 f.slack, .slice sa sl sc, .slice pa pl pc, .slice ca cl cc], .slice xa xl xc] w fun e w' => e = .returned (.agg #[.int .i64 (f.loS xs), .int .i64 (f.hiS xs)]) ∧ Below w.heap.size w w' := by
  obtain ⟨hpl, hpm, hpc⟩ := hp.2.1
  obtain ⟨hxl, hxm, hxc⟩ := hx
  have hpl6 := (PFrame.okW.parts ho).2.2.2.2.2.1
  have HPL := Lib.hid hpl
  have HPC := Lib.hid hpc
  have HXL := Lib.hid hxl
  have HXC := Lib.hid hxc
  have HIN := Lib.hid (fun k (hk : k < xs.length) => hin xs[k] (List.getElem_mem hk))
  have HLN := Lib.hid (fun k (hk : k < xs.length) => show f.loS (xs.take (k + 1)) = f.loS (xs.take k) + f.lo xs[k] from sumG_next hk)
  have HHN := Lib.hid (fun k (hk : k < xs.length) => show f.hiS (xs.take (k + 1)) = f.hiS (xs.take k) + f.hi xs[k] from sumG_next hk)
  have HLB := Lib.hid (fun k => PFrame.okW.loS_bd ho (xs.take k) (by rw [List.length_take]; omega))
  have HHB := Lib.hid (fun k => PFrame.okW.hiS_bd ho (xs.take k) (by rw [List.length_take]; omega))
  have HL1 := Lib.hid (fun (j : Nat) (hj : j < f.pieces.length) => show f.lo (j : Int) = f.pieces[j].lo from by unfold PFrame.lo; simp [hj])
  have HH1 := Lib.hid (fun (j : Nat) (hj : j < f.pieces.length) => show f.hi (j : Int) = f.pieces[j].hi from by unfold PFrame.hi; simp [hj])
  have HPB := Lib.hid (fun (j : Nat) (hj : j < f.pieces.length) => PFrame.okW.piece ho j hj)
  have HEL := Lib.hid (show f.loS (xs.take xl) = f.loS xs from by rw [List.take_of_length_le (by omega)])
  have HEH := Lib.hid (show f.hiS (xs.take xl) = f.hiS xs from by rw [List.take_of_length_le (by omega)])
  have HE0 := Lib.hid (show f.loS (xs.take 0) = 0 ∧ f.hiS (xs.take 0) = 0 from ⟨rfl, rfl⟩)
  have hxl6 : xl ≤ 6 := by omega
  have hpl7 : pl ≤ 6 := by omega
  clear hp hpl hpm hpc hxl hxm hxc hin ho h6 hpl6
  go_enter Try.func78, Try.ntmps78
  go_wp2_with fail
  obtain ⟨W0, hW0, hB0, ha0, hr0, hg0, hrf, hgf, hz0⟩ := name3 w #[.int .i64 f.len, .int .i64 f.slack, .slice sa sl sc, .slice pa pl pc, .slice ca cl cc] 26 #[.int .i64 0, .int .i64 0] 32 #[.int .i64 0, .int .i64 0] 32
  rw [hW0]
  clear hW0
  obtain ⟨g, hg⟩ : ∃ g, g = w.heap.size + 1 + 1 := ⟨_, rfl⟩
  rw [← hg]
  rw [← hg] at hg0 hgf hz0
  have hgr : w.heap.size < g := by omega
  have hgr1 : w.heap.size + 1 < g := by omega
  have hgz : g < W0.heap.size := by omega
  have HB0 := Lib.hid hB0
  have HA0 := Lib.hid ha0
  have HR0 := Lib.hid hr0
  have HRF := Lib.hid hrf
  clear hB0 ha0 hr0 hrf hg hz0
  go_loopw [6] (fun i wr => ∃ k : Nat, k ≤ xl ∧ i = .int .i64 k ∧ wr.cell? ⟨g, 0, none⟩ = some (.int .i64 (f.loS (xs.take k))) ∧ wr.cell? ⟨g, 1, none⟩ = some (.int .i64 (f.hiS (xs.take k))) ∧ wr.frozen? ⟨g, 0, none⟩ = false ∧ wr.frozen? ⟨g, 1, none⟩ = false ∧ g < wr.heap.size ∧ Below g W0 wr) (fun i _ => xl - (intOf i).toNat)
  case atStart => exact ⟨0, by omega, rfl, by rw [HE0.out.1]; exact hg0 0, by rw [HE0.out.2]; exact hg0 1, hgf 0, hgf 1, hgz, Below.refl _ _⟩
  case round =>
    clear hg0 hgf
    obtain ⟨k, hk, rfl, l0, l1, y0, y1, hzr, hB⟩ := hrel
    have HB := Lib.hid hB
    have hlb := HLB.out k
    have hhb := HHB.out k
    by_cases hlt : k < xl
    · have hk2 : k < xs.length := by rw [HXL.out]; exact hlt
      have hxi := HIN.out k hk2
      obtain ⟨xb, xo, rfl, hxB, hxcell⟩ := HXC.out (by omega)
      have HL := Lib.hid (HLN.out k hk2)
      have HH := Lib.hid (HHN.out k hk2)
      have hbw := HB0.out.trans (hB.mono (Nat.le_of_lt hgr))
      have cx := (hbw.cell (p := ⟨xb, xo + k, none⟩) hxB).trans (hxcell k hk2)
      obtain ⟨x, hx⟩ : ∃ x, xs[k] = x := ⟨_, rfl⟩
      rw [hx] at HL HH cx hxi
      clear hx hxcell
      obtain ⟨j, rfl⟩ : ∃ j : Nat, x = (j : Int) := ⟨x.toNat, by omega⟩
      have hj : j < f.pieces.length := by omega
      have hjp : j < pl := by have := HPL.out; omega
      obtain ⟨pb, po, rfl, hpB, hpcell⟩ := HPC.out (by omega)
      obtain ⟨d0, d1, -⟩ := hpcell j hj
      have e0 := (hbw.cell (p := ⟨pb, po + j * 3, none⟩) hpB).trans d0
      have e1 := (hbw.cell (p := ⟨pb, po + j * 3 + 1, none⟩) hpB).trans d1
      rw [HL1.out j hj] at HL
      rw [HH1.out j hj] at HH
      obtain ⟨hpb1, hpb2, hpb3, -, -⟩ := HPB.out j hj
      have x3 := (hB.cell (p := ⟨w.heap.size, 3, none⟩) hgr).trans (HA0.out 3)
      have hpW : pb < wr.heap.size := Nat.lt_of_lt_of_le hpB hbw.size
      have hxW : xb < wr.heap.size := Nat.lt_of_lt_of_le hxB hbw.size
      have hwW : w.heap.size < wr.heap.size := by omega
      have hpg : ¬ pb = g := by omega
      have hxg : ¬ xb = g := by omega
      have hwg : ¬ w.heap.size = g := by omega
      have hkl : (k : Int) < (xl : Int) := by omega
      have hk0 : (0 : Int) ≤ (k : Int) := by omega
      have hjl : (j : Int) < (pl : Int) := by omega
      have hj0 : (0 : Int) ≤ (j : Int) := by omega
      clear hB hpcell d0 d1 hxi hbw
      generalize f.pieces[j].lo = lo at *
      generalize f.pieces[j].hi = hi at *
      clear hk2
      generalize hls : f.loS (xs.take k) = ls at *
      generalize hhs : f.hiS (xs.take k) = hs at *
      go_wp2_with fail
      go_region
      all_goals
       go_wp2_with fail
       go_roundw
       case rel =>
         refine ⟨k + 1, by omega, by go_num, ?_, ?_, by go_simp, by go_simp, by simp; omega, ?_⟩
         · rw [HL.out]; go_simp
         · rw [HH.out]; go_simp
         · have hBB := HB.out
           exact (by repeat (first | assumption | exact Below.refl _ _ | (refine Below.alloc ?_ (by first | omega | (simp; omega) | simp) _) | (refine Below.setCell ?_ (by first | omega | (simp; omega) | simp) _) | refine Below.drew ?_))
       case measure => simp [intOf]; omega
    · obtain rfl : xl = k := by omega
      have r0 := (hB.cell (p := ⟨w.heap.size + 1, 0, none⟩) hgr1).trans (HR0.out 0)
      have r1 := (hB.cell (p := ⟨w.heap.size + 1, 1, none⟩) hgr1).trans (HR0.out 1)
      have r2 := (hB.frozen (p := ⟨w.heap.size + 1, 0, none⟩) hgr1).trans (HRF.out 0)
      have r3 := (hB.frozen (p := ⟨w.heap.size + 1, 1, none⟩) hgr1).trans (HRF.out 1)
      have HBW := Lib.hid (HB0.out.trans (hB.mono (Nat.le_of_lt hgr)))
      clear hB
      go_wp2_with fail
      refine bodyPost_ret (v := .agg #[.int .i64 (f.loS (xs.take xl)), .int .i64 (f.hiS (xs.take xl))]) (by simp [results, Try.results78, go_sem, *]) rfl ⟨by rw [HEL.out, HEH.out], ?_⟩
      have hBB := HBW.out
      exact (by repeat (first | assumption | exact Below.refl _ _ | (refine Below.alloc ?_ (by first | omega | (simp; omega) | simp) _) | (refine Below.setCell ?_ (by first | omega | (simp; omega) | simp) _) | refine Below.drew ?_))
theorem refHigh_any (f : PFrame) (sa : Option Addr) (sl sc : Nat) (pa : Option Addr) (pl pc : Nat) (ca : Option Addr) (cl cc : Nat) (xa : Option Addr) (xl xc : Nat) (xs : List Int) (ho : f.ok = true) (hin : ∀ x ∈ xs, 0 ≤ x ∧ x < (f.pieces.length : Int)) (h6 : xs.length ≤ 6) (w : World) (hp : PAt w sa sl sc pa pl pc ca cl cc f) (hx : IntsAt w xa xl xs) :
    Calls Try.prog 78 #[.agg #[.int .i64 f.len, .int .i64 f.slack, .slice sa sl sc, .slice pa pl pc, .slice ca cl cc], .slice xa xl xc] w fun e w' => e = .returned (.agg #[.int .i64 (f.loS xs), .int .i64 (f.hiS xs)]) ∧ Below w.heap.size w w' :=
  refHigh_anyW f sa sl sc pa pl pc ca cl cc xa xl xc xs (PFrame.okW_of ho) hin h6 w hp hx

end Go.Proofs.Ytcklhojeneejiaa

/- The reference of pages: IsSet, KnownOf. -/
namespace Go.Proofs.Ytcklhojeneejiaa
set_option linter.unusedVariables false
set_option linter.unusedSimpArgs false
open Go.RowKit

set_option maxRecDepth 100000 in
set_option maxHeartbeats 4000000 in
theorem refIsSet_any (f : PFrame) (sa : Option Addr) (sl sc : Nat) (pa : Option Addr) (pl pc : Nat) (ca : Option Addr) (cl cc : Nat) (xa : Option Addr) (xl xc : Nat) (x : List Int) (w : World) (hp : PAt w sa sl sc pa pl pc ca cl cc f) (hx : IntsAt w xa xl x) :
    Calls Try.prog 85 #[.agg #[.int .i64 f.len, .int .i64 f.slack, .slice sa sl sc, .slice pa pl pc, .slice ca cl cc], .slice xa xl xc] w fun e w' => e = .returned (.bool (f.setB x)) ∧ Below w.heap.size w w' := by
  obtain ⟨hsl, hsm, hsc⟩ := hp.1
  obtain ⟨hxl, hxm, hxc⟩ := hx
  unfold maxLen at hsm hxm
  clear hp
  by_cases hne : xl = sl
  · subst hne
    have HSL := Lib.hid hsl
    have HXL := Lib.hid hxl
    have HSC := Lib.hid hsc
    have HXC := Lib.hid hxc
    have HWI := Lib.hid (fun n lo hi b (h : btw n lo hi = b) W => show Calls Try.prog 80 #[.int .i64 n, .int .i64 lo, .int .i64 hi] W fun e w' => e = .returned (.bool b) ∧ Below W.heap.size W w' from (within_is n lo hi b h W).mono fun e w' ⟨he, hw⟩ => ⟨he, hw ▸ Below.refl _ _⟩)
    clear hsl hxl hsc hxc
    go_enter Try.func85, Try.ntmps85
    go_wp2_with fail
    obtain ⟨W0, hW0, hB0, hs0, hz0⟩ := name1k w #[.int .i64 f.len, .int .i64 f.slack, .slice sa xl sc, .slice pa pl pc, .slice ca cl cc] 26
    rw [hW0]
    clear hW0
    have HB0 := Lib.hid hB0
    have HX2 := Lib.hid (show W0.cell? ⟨w.heap.size, 2, none⟩ = some (.slice sa xl sc) from hs0 2)
    clear hB0 hs0
    go_loopw [5] (fun i wr => ∃ k : Nat, k ≤ xl ∧ i = .int .i64 k ∧ ((f.strips.zip x).take k).all (fun q => btw q.2 0 q.1.m) = true ∧ Below W0.heap.size W0 wr) (fun i _ => xl - (intOf i).toNat)
    case atStart => exact ⟨0, by omega, rfl, by simp, Below.refl _ _⟩
    case round =>
      obtain ⟨k, hk, rfl, hall, hB⟩ := hrel
      obtain ⟨W1, rfl⟩ : ∃ W1 : World, W1 = wr := ⟨_, rfl⟩
      have HALL := Lib.hid hall
      have HB := Lib.hid hB
      have hbw := HB0.out.trans (hB.mono HB0.out.size)
      have HBW := Lib.hid hbw
      have x2 := (hB.cell (p := ⟨w.heap.size, 2, none⟩) hz0).trans HX2.out
      clear hall
      by_cases hlt : k < xl
      · have hk2 : k < f.strips.length := by rw [HSL.out]; exact hlt
        have hk3 : k < x.length := by rw [HXL.out]; exact hlt
        obtain ⟨b, o, rfl, hbB, hcm⟩ := HSC.out (by omega)
        obtain ⟨b', o', rfl, hbB', hcx'⟩ := HXC.out (by omega)
        obtain ⟨d0, d1⟩ := hcm k hk2
        have c1 := (hbw.cell (p := ⟨b, o + k * 2 + 1, none⟩) hbB).trans d1
        have hcx := (hbw.cell (p := ⟨b', o' + k, none⟩) hbB').trans (hcx' k hk3)
        have z0 : w.heap.size < W1.heap.size := Nat.lt_of_lt_of_le hz0 hB.size
        have z1 : b < W1.heap.size := Nat.lt_of_lt_of_le hbB hbw.size
        have z2 : b' < W1.heap.size := Nat.lt_of_lt_of_le hbB' hbw.size
        have hkl : (k : Int) < (xl : Int) := by omega
        have hk0 : (0 : Int) ≤ (k : Int) := by omega
        have HN := Lib.hid (zip_next HALL.out hk2 hk3)
        have HX := Lib.hid (fun (h : btw x[k] 0 f.strips[k].m = false) => show f.setB x = false by rw [PFrame.setB, zip_no (f := fun q => btw q.2 0 q.1.m) hk2 hk3 h]; simp)
        clear hcm hcx' d0 d1 hB hbw
        generalize f.strips[k].m = m at *
        generalize x[k] = v at *
        obtain ⟨r, hr⟩ : ∃ r, btw v 0 m = r := ⟨_, rfl⟩
        have HWX := Lib.hid (fun W (h : Below W1.heap.size W1 W ∧ ∀ b o, b < W1.heap.size → W.cell? ⟨b, o, none⟩ = W1.cell? ⟨b, o, none⟩) => bothS1 (W0 := W1) (HWI.out v 0 m r hr W) h)
        go_upto_region 6 with fail
        go_cut [29] (fun v wx => v = .bool (!r) ∧ Below W1.heap.size W1 wx)
        case first =>
          go_region_held3 (fun w' => Below W1.heap.size W1 w' ∧ ∀ b o, b < W1.heap.size → w'.cell? ⟨b, o, none⟩ = W1.cell? ⟨b, o, none⟩) (first | with_reducible assumption | ((repeat (first | with_reducible refine bothS_drew ?_ | with_reducible refine bothS_alloc _ ?_ | with_reducible refine bothS_set _ _ (by first | omega | (simp; omega) | simp) ?_)); first | with_reducible assumption | with_reducible exact Hid.out (by assumption) | with_reducible exact ⟨Below.refl _ _, fun _ _ _ => rfl⟩)) (first | (go_at_call 80; with_reducible refine (HWX.out _ ?_).mono ?_; (first | with_reducible assumption | ((repeat (first | with_reducible refine bothS_drew ?_ | with_reducible refine bothS_alloc _ ?_ | with_reducible refine bothS_set _ _ (by first | omega | (simp; omega) | simp) ?_)); first | with_reducible assumption | with_reducible exact Hid.out (by assumption) | with_reducible exact ⟨Below.refl _ _, fun _ _ _ => rfl⟩)); rintro e w' ⟨rfl, k, k1, k2, k3⟩; have HK := Lib.hid k; (try simp at k3); (try have k6 := Nat.lt_of_succ_le k3); (try have k7 := Nat.lt_of_succ_lt k6); (try have k8 := Nat.lt_of_succ_lt k3)) | fail "no arm")
          all_goals (go_wp2_with fail; go_meet; exact ⟨rfl, And.left (by assumption)⟩)
        case rest =>
        obtain ⟨rfl, hB5⟩ := hcut
        have HB5 := Lib.hid (HB.out.trans (hB5.mono HB.out.size))
        have HB6 := Lib.hid (HBW.out.trans (hB5.mono HBW.out.size))
        clear hB5 c1 hcx HWX x2
        cases r
        · have HR := Lib.hid (HX.out hr)
          clear HN HX hr
          go_wp2_with fail
          go_ret
          exact ⟨ret_bool HR.out.symm, HB6.out⟩
        · have HR := Lib.hid (HN.out.trans hr)
          clear HN HX hr
          go_wp2_with fail
          go_roundw
          case rel => exact ⟨k + 1, by omega, by go_num, HR.out, HB5.out⟩
          case measure => simp [intOf]; omega
      · obtain rfl : xl = k := by omega
        have HR := Lib.hid (show f.setB x = true by rw [PFrame.setB, zip_done HALL.out HSL.out, HXL.out, HSL.out]; simp)
        clear hB hbw
        go_wp2_with fail
        go_ret
        exact ⟨ret_bool HR.out.symm, HBW.out⟩
  · have hne' : ¬ (xl : Int) = (sl : Int) := by omega
    have HR := Lib.hid (show f.setB x = false by simp [PFrame.setB]; omega)
    clear hsc hxc
    go_enter Try.func85, Try.ntmps85
    go_wp2_with fail
    go_ret
    exact ⟨ret_bool HR.out.symm, (by repeat (first | exact Below.refl _ _ | (refine Below.alloc ?_ (by first | omega | (simp; omega) | simp) _) | (refine Below.setCell ?_ (by first | omega | (simp; omega) | simp) _) | refine Below.drew ?_))⟩
theorem refIsSet_is (f : PFrame) (sa : Option Addr) (sl sc : Nat) (pa : Option Addr) (pl pc : Nat) (ca : Option Addr) (cl cc : Nat) (xa : Option Addr) (xl xc : Nat) (x : List Int) (b : Bool) (h : f.setB x = b) (w : World) (hp : PAt w sa sl sc pa pl pc ca cl cc f) (hx : IntsAt w xa xl x) :
    Calls Try.prog 85 #[.agg #[.int .i64 f.len, .int .i64 f.slack, .slice sa sl sc, .slice pa pl pc, .slice ca cl cc], .slice xa xl xc] w fun e w' => e = .returned (.bool b) ∧ Below w.heap.size w w' := h ▸ refIsSet_any f sa sl sc pa pl pc ca cl cc xa xl xc x w hp hx
end Go.Proofs.Ytcklhojeneejiaa
