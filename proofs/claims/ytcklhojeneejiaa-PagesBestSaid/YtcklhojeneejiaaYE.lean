/- Package pages: isSet, points, Column, Room. -/
import Derived.Test.YtcklhojeneejiaaYD
namespace Go.Proofs.Ytcklhojeneejiaa
set_option linter.unusedVariables false
set_option linter.unusedSimpArgs false
open Go.RowKit

theorem zip_next {α : Type} {f : α × Int → Bool} {ms : List α} {x : List Int} {k : Nat} (h : ((ms.zip x).take k).all f = true) (h1 : k < ms.length) (h2 : k < x.length) : ((ms.zip x).take (k + 1)).all f = f (ms[k], x[k]) := by
  rw [all_next h (by simp; omega), List.getElem_zip]
theorem zip_no {α : Type} {f : α × Int → Bool} {ms : List α} {x : List Int} {k : Nat} (h1 : k < ms.length) (h2 : k < x.length) (h : f (ms[k], x[k]) = false) : (ms.zip x).all f = false :=
  all_no (k := k) (by simp; omega) (by rw [List.getElem_zip]; exact h)
theorem zip_done {α : Type} {f : α × Int → Bool} {ms : List α} {x : List Int} {n : Nat} (h : ((ms.zip x).take n).all f = true) (h1 : ms.length = n) : (ms.zip x).all f = true := by
  rwa [List.take_of_length_le (by simp; omega)] at h
def PFrame.setB (f : PFrame) (x : List Int) : Bool := decide (x.length = f.strips.length) && (f.strips.zip x).all fun q => btw q.2 0 q.1.m
theorem setB_len {f : PFrame} {x : List Int} (h : f.setB x = true) : x.length = f.strips.length := by
  unfold PFrame.setB at h; simp at h; exact h.1
theorem setB_bd {f : PFrame} {x : List Int} (ho : f.ok = true) (h : f.setB x = true) (i : Nat) (hi : i < x.length) : 0 ≤ x[i] ∧ x[i] ≤ 4 := by
  have hl := setB_len h
  unfold PFrame.setB at h
  rw [Bool.and_eq_true] at h
  have hm : (f.strips[i]'(by omega), x[i]) ∈ f.strips.zip x := by
    refine List.mem_iff_getElem.2 ⟨i, by simp; omega, ?_⟩
    rw [List.getElem_zip]
  have h1 := List.all_eq_true.1 h.2 _ hm
  have h2 := PFrame.ok_strip ho i (by omega)
  unfold btw at h1
  simp at h1
  omega

set_option maxRecDepth 100000 in
set_option maxHeartbeats 4000000 in
theorem isSet_any (f : PFrame) (sa : Option Addr) (sl sc : Nat) (pa : Option Addr) (pl pc : Nat) (ca : Option Addr) (cl cc : Nat) (xa : Option Addr) (xl xc : Nat) (x : List Int) (w : World) (hp : PAt w sa sl sc pa pl pc ca cl cc f) (hx : IntsAt w xa xl x) :
    Calls Try.prog 83 #[.agg #[.int .i64 f.len, .int .i64 f.slack, .slice sa sl sc, .slice pa pl pc, .slice ca cl cc], .slice xa xl xc] w fun e w' => e = .returned (.bool (f.setB x)) ∧ Below w.heap.size w w' := by
  obtain ⟨hsl, hsm, hsc⟩ := hp.1
  obtain ⟨hxl, hxm, hxc⟩ := hx
  unfold maxLen at hsm hxm
  clear hp
  by_cases hne : xl = sl
  · subst hne
    have HSL := Lib.hid hsl
    have HXL := Lib.hid hxl
    have HSC := Lib.hid hsc
    have HXC := Lib.hid hxc
    have HWI := Lib.hid (fun n lo hi b (h : btw n lo hi = b) W => between_is n lo hi b h W)
    clear hsl hxl hsc hxc
    go_enter Try.func83, Try.ntmps83
    go_wp2_with fail
    obtain ⟨W0, hW0, hB0, hs0, hz0⟩ := name1k w #[.int .i64 f.len, .int .i64 f.slack, .slice sa xl sc, .slice pa pl pc, .slice ca cl cc] 87
    rw [hW0]
    clear hW0
    have HB0 := Lib.hid hB0
    have x2 : W0.cell? ⟨w.heap.size, 2, none⟩ = some (.slice sa xl sc) := hs0 2
    clear hB0 hs0
    go_loopw [16] (fun i wr => ∃ k : Nat, k ≤ xl ∧ i = .int .i64 k ∧ ((f.strips.zip x).take k).all (fun q => btw q.2 0 q.1.m) = true ∧ W0 = wr) (fun i _ => xl - (intOf i).toNat)
    case atStart => exact ⟨0, by omega, rfl, by simp, rfl⟩
    case round =>
      obtain ⟨k, hk, rfl, hall, rfl⟩ := hrel
      have HALL := Lib.hid hall
      clear hall
      by_cases hlt : k < xl
      · have hk2 : k < f.strips.length := by rw [HSL.out]; exact hlt
        have hk3 : k < x.length := by rw [HXL.out]; exact hlt
        obtain ⟨b, o, rfl, hbB, hcm⟩ := HSC.out (by omega)
        obtain ⟨b', o', rfl, hbB', hcx'⟩ := HXC.out (by omega)
        obtain ⟨d0, d1⟩ := hcm k hk2
        have c1 := (HB0.out.cell (p := ⟨b, o + k * 2 + 1, none⟩) hbB).trans d1
        have hcx := (HB0.out.cell (p := ⟨b', o' + k, none⟩) hbB').trans (hcx' k hk3)
        have hkl : (k : Int) < (xl : Int) := by omega
        have hk0 : (0 : Int) ≤ (k : Int) := by omega
        have HN := Lib.hid (zip_next HALL.out hk2 hk3)
        have HX := Lib.hid (fun (h : btw x[k] 0 f.strips[k].m = false) => show f.setB x = false by rw [PFrame.setB, zip_no (f := fun q => btw q.2 0 q.1.m) hk2 hk3 h]; simp)
        clear hcm hcx' d0 d1
        generalize f.strips[k].m = m at *
        generalize x[k] = v at *
        rcases hb : btw v 0 m with - | -
        · have HR := Lib.hid (HX.out hb)
          have HW := Lib.hid (HWI.out _ _ _ _ hb)
          clear HN HX hb
          go_wp2_with fail
          refine (HW.out _).mono ?_
          rintro e w1 ⟨rfl, rfl⟩
          go_wp2_with fail
          go_ret
          exact ⟨ret_bool HR.out.symm, HB0.out⟩
        · have HW := Lib.hid (HWI.out _ _ _ _ hb)
          have HR := Lib.hid (HN.out.trans hb)
          clear HN HX hb
          go_wp2_with fail
          refine (HW.out _).mono ?_
          rintro e w1 ⟨rfl, rfl⟩
          go_wp2_with fail
          go_roundw
          case rel => exact ⟨k + 1, by omega, by go_num, HR.out, trivial⟩
          case measure => simp [intOf]; omega
      · obtain rfl : xl = k := by omega
        have HR := Lib.hid (show f.setB x = true by rw [PFrame.setB, zip_done HALL.out HSL.out, HXL.out, HSL.out]; simp)
        go_wp2_with fail
        go_ret
        exact ⟨ret_bool HR.out.symm, HB0.out⟩
  · have hne' : ¬ (xl : Int) = (sl : Int) := by omega
    have HR := Lib.hid (show f.setB x = false by simp [PFrame.setB]; omega)
    clear hsc hxc
    go_enter Try.func83, Try.ntmps83
    go_wp2_with fail
    go_ret
    exact ⟨ret_bool HR.out.symm, (by repeat (first | exact Below.refl _ _ | (refine Below.alloc ?_ (by first | omega | (simp; omega) | simp) _) | (refine Below.setCell ?_ (by first | omega | (simp; omega) | simp) _) | refine Below.drew ?_))⟩
theorem isSet_is (f : PFrame) (sa : Option Addr) (sl sc : Nat) (pa : Option Addr) (pl pc : Nat) (ca : Option Addr) (cl cc : Nat) (xa : Option Addr) (xl xc : Nat) (x : List Int) (b : Bool) (h : f.setB x = b) (w : World) (hp : PAt w sa sl sc pa pl pc ca cl cc f) (hx : IntsAt w xa xl x) :
    Calls Try.prog 83 #[.agg #[.int .i64 f.len, .int .i64 f.slack, .slice sa sl sc, .slice pa pl pc, .slice ca cl cc], .slice xa xl xc] w fun e w' => e = .returned (.bool b) ∧ Below w.heap.size w w' := h ▸ isSet_any f sa sl sc pa pl pc ca cl cc xa xl xc x w hp hx

/-- How many points some strips have together. -/
def ptsZ : List Strip → List Int → Int
  | s :: ss, n :: x => n * s.t + ptsZ ss x
  | _, _ => 0
theorem ptsZ_take : ∀ (ss : List Strip) (x : List Int) (k : Nat) (h : k < x.length) (h2 : k < ss.length), ptsZ ss (x.take (k + 1)) = ptsZ ss (x.take k) + x[k] * ss[k].t
  | [], _, _, _, h2 => by simp at h2
  | _ :: _, [], _, h, _ => by simp at h
  | s :: ss, n :: x, 0, _, _ => by cases ss <;> simp [ptsZ]
  | s :: ss, n :: x, k + 1, h, h2 => by
    have := ptsZ_take ss x k (by simpa using h) (by simpa using h2)
    simp only [List.take_succ_cons, ptsZ, List.getElem_cons_succ]
    omega
theorem mul_bd {a b A B : Int} (h1 : 0 ≤ a) (h2 : a ≤ A) (h3 : 0 ≤ b) (h4 : b ≤ B) : 0 ≤ a * b ∧ a * b ≤ A * B :=
  ⟨Int.mul_nonneg h1 h3, Int.mul_le_mul h2 h4 h3 (Int.le_trans h1 h2)⟩
theorem ptsZ_bd : ∀ (ss : List Strip) (x : List Int), (∀ i (h : i < ss.length), 0 ≤ ss[i].t ∧ ss[i].t ≤ 30) → (∀ i (h : i < x.length), 0 ≤ x[i] ∧ x[i] ≤ 4) → 0 ≤ ptsZ ss x ∧ ptsZ ss x ≤ 120 * ss.length
  | [], _, _, _ => by simp [ptsZ]
  | _ :: _, [], _, _ => by simp [ptsZ]; omega
  | s :: ss, n :: x, h1, h2 => by
    have ih := ptsZ_bd ss x (fun i hi => by have := h1 (i + 1) (by simpa using hi); simpa using this) (fun i hi => by have := h2 (i + 1) (by simpa using hi); simpa using this)
    have a1 := h1 0 (by simp)
    have a2 := h2 0 (by simp)
    simp only [List.getElem_cons_zero] at a1 a2
    have := mul_bd a2.1 a2.2 a1.1 a1.2
    simp only [ptsZ, List.length_cons]
    push_cast
    omega
def PFrame.ptsL (f : PFrame) (x : List Int) : Int := ptsZ f.strips x
theorem ptsL_bd {f : PFrame} (ho : f.ok = true) {x : List Int} (hb : ∀ i (h : i < x.length), 0 ≤ x[i] ∧ x[i] ≤ 4) : 0 ≤ f.ptsL x ∧ f.ptsL x ≤ 360 := by
  have := ptsZ_bd f.strips x (fun i hi => by have := PFrame.ok_strip ho i hi; omega) hb
  have h3 := (PFrame.ok_parts ho).2.2.2.2.1
  unfold PFrame.ptsL
  omega

set_option maxRecDepth 100000 in
set_option maxHeartbeats 4000000 in
theorem points_any (f : PFrame) (sa : Option Addr) (sl sc : Nat) (pa : Option Addr) (pl pc : Nat) (ca : Option Addr) (cl cc : Nat) (xa : Option Addr) (xl xc : Nat) (x : List Int) (ho : f.ok = true) (hl : x.length ≤ f.strips.length) (hb : ∀ i (h : i < x.length), 0 ≤ x[i] ∧ x[i] ≤ 4) (w : World) (hp : PAt w sa sl sc pa pl pc ca cl cc f) (hx : IntsAt w xa xl x) :
    Calls Try.prog 84 #[.agg #[.int .i64 f.len, .int .i64 f.slack, .slice sa sl sc, .slice pa pl pc, .slice ca cl cc], .slice xa xl xc] w fun e w' => e = .returned (.int .i64 (f.ptsL x)) ∧ Below w.heap.size w w' := by
  obtain ⟨hsl, hsm, hsc⟩ := hp.1
  obtain ⟨hxl, hxm, hxc⟩ := hx
  have hsl3 := (PFrame.ok_parts ho).2.2.2.2.1
  have HSL := Lib.hid hsl
  have HXL := Lib.hid hxl
  have HSC := Lib.hid hsc
  have HXC := Lib.hid hxc
  have HN := Lib.hid (fun k (h : k < x.length) (h2 : k < f.strips.length) => show f.ptsL (x.take (k + 1)) = f.ptsL (x.take k) + x[k] * f.strips[k].t from ptsZ_take _ _ _ h h2)
  have HBD := Lib.hid (fun k => ptsL_bd ho (x := x.take k) (fun i hi => by
    have hi2 : i < x.length := by rw [List.length_take] at hi; omega
    rw [List.getElem_take]
    exact hb i hi2))
  have HXB := Lib.hid hb
  have HSB := Lib.hid (fun k (h : k < f.strips.length) => PFrame.ok_strip ho k h)
  have HE := Lib.hid (show f.ptsL (x.take xl) = f.ptsL x from by rw [List.take_of_length_le (by omega)])
  have HE0 := Lib.hid (show f.ptsL (x.take 0) = 0 from by unfold PFrame.ptsL; cases f.strips <;> rfl)
  have hxs : xl ≤ sl := by omega
  have hsl4 : sl ≤ 3 := by omega
  clear hp hsl hsm hsc hxl hxm hxc ho hl hb hsl3
  go_enter Try.func84, Try.ntmps84
  go_wp2_with fail
  obtain ⟨W0, hW0, hB0, hs0, hz0⟩ := name1k w #[.int .i64 f.len, .int .i64 f.slack, .slice sa sl sc, .slice pa pl pc, .slice ca cl cc] 87
  rw [hW0]
  clear hW0
  have HB0 := Lib.hid hB0
  have x2 : W0.cell? ⟨w.heap.size, 2, none⟩ = some (.slice sa sl sc) := hs0 2
  clear hB0 hs0
  go_loopw [5, 10] (fun n i wr => ∃ k : Nat, k ≤ xl ∧ i = .int .i64 k ∧ n = .int .i64 (f.ptsL (x.take k)) ∧ W0 = wr) (fun _ i _ => xl - (intOf i).toNat)
  case atStart => exact ⟨0, by omega, rfl, by rw [HE0.out], rfl⟩
  case round =>
    obtain ⟨k, hk, rfl, rfl, rfl⟩ := hrel
    obtain ⟨hb1, hb2⟩ := HBD.out k
    by_cases hlt : k < xl
    · have hk2 : k < f.strips.length := by rw [HSL.out]; omega
      have hk3 : k < x.length := by rw [HXL.out]; exact hlt
      obtain ⟨b, o, rfl, hbB, hcm⟩ := HSC.out (by omega)
      obtain ⟨b', o', rfl, hbB', hcx'⟩ := HXC.out (by omega)
      obtain ⟨d0, d1⟩ := hcm k hk2
      have c0 := (HB0.out.cell (p := ⟨b, o + k * 2, none⟩) hbB).trans d0
      have hcx := (HB0.out.cell (p := ⟨b', o' + k, none⟩) hbB').trans (hcx' k hk3)
      have hkl : (k : Int) < (xl : Int) := by omega
      have hks : (k : Int) < (sl : Int) := by omega
      have hk0 : (0 : Int) ≤ (k : Int) := by omega
      have HNK := Lib.hid (HN.out k hk3 hk2)
      obtain ⟨v1, v2⟩ := HXB.out k hk3
      obtain ⟨t1, t2, -, -⟩ := HSB.out k hk2
      clear hcm hcx' d0 d1
      generalize f.strips[k].t = t at *
      generalize x[k] = v at *
      generalize f.ptsL (x.take k) = n at *
      have hm := mul_bd v1 v2 (show 0 ≤ t by omega) t2
      obtain ⟨m1, m2⟩ := hm
      have hw1 : IntKind.i64.wrap (v * t) = v * t := IntWalk.i64_in _ ⟨by omega, by omega⟩
      have hw2 : IntKind.i64.wrap (n + v * t) = n + v * t := IntWalk.i64_in _ ⟨by omega, by omega⟩
      clear hk2 hk3
      go_wp2_with fail
      go_roundw
      case rel => exact ⟨k + 1, by omega, by go_num, by rw [HNK.out], trivial⟩
      case measure => simp [intOf]; omega
    · obtain rfl : xl = k := by omega
      go_wp2_with fail
      go_ret
      exact ⟨ret_i64 HE.out, HB0.out⟩
end Go.Proofs.Ytcklhojeneejiaa
