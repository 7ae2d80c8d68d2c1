/- ME MF, joined. -/
import Derived.Test.YtajabapcmpmboaaRJ
/- In and IsSafe of the reference. -/
namespace Go.Proofs.Ytajabapcmpmboaa
set_option linter.unusedVariables false
set_option linter.unusedSimpArgs false
open Go.RowKit

set_option maxHeartbeats 1000000 in
theorem In_any (xa : Option Addr) (xl xc : Nat) (x : List Int) (n : Int) (w : World) (hx : IntsAt w xa xl x) :
    Calls Try.prog 55 #[.slice xa xl xc, .int .i64 n] w fun e w' => e = .returned (.bool (decide (n ∈ x))) ∧ Below w.heap.size w w' := by
  obtain ⟨hxl, hxm, hxc⟩ := hx
  unfold maxLen at hxm
  rcases Nat.eq_zero_or_pos xl with h0 | h0
  · subst h0
    have HS := Lib.hid (show decide (n ∈ x) = false by rw [List.length_eq_zero_iff.1 hxl]; rfl)
    clear hxl hxc
    go_enter Try.func55, Try.ntmps55
    go_wp2
    go_loopw [5] (fun i wr => i = .int .i64 0 ∧ Below w.heap.size w wr) (fun _ _ => 0)
    case atStart => exact ⟨rfl, Below.refl _ _⟩
    case round =>
      obtain ⟨rfl, hB⟩ := hrel
      go_wp2
      go_ret
      exact ⟨ret_bool HS.out.symm, hB⟩
  · obtain ⟨xb, xo, rfl, hxB, hxcell⟩ := hxc h0
    have HX := Lib.hid hxl
    clear hxl hxc
    go_enter Try.func55, Try.ntmps55
    go_wp2
    go_loopw [5] (fun i wr => ∃ k : Nat, k ≤ xl ∧ i = .int .i64 k ∧ (∀ q (h1 : q < x.length), q < k → x[q] ≠ n) ∧ Below w.heap.size w wr) (fun i _ => xl - (intOf i).toNat)
    case atStart => exact ⟨0, by omega, rfl, fun q _ h => by omega, Below.refl _ _⟩
    case round =>
      obtain ⟨k, hk, rfl, hsm, hB⟩ := hrel
      have HSM := Lib.hid hsm; clear hsm
      by_cases hlt : k < xl
      · have hk2 : k < x.length := by rw [HX.out]; exact hlt
        have cx := (hB.cell (p := ⟨xb, _, none⟩) hxB).trans (hxcell k hk2)
        have hkl : (k : Int) < (xl : Int) := by omega
        by_cases he : x[k] = n
        · have HN := Lib.hid (show decide (n ∈ x) = true by simp only [decide_eq_true_eq]; rw [← he]; exact List.getElem_mem _)
          rw [he] at cx
          clear he
          go_wp2
          go_ret
          exact ⟨ret_bool HN.out.symm, hB⟩
        · have HSM2 := Lib.hid (show ∀ q (h1 : q < x.length), q < k + 1 → x[q] ≠ n from fun q h1 hq => by
            by_cases e : q = k
            · subst e; exact he
            · exact HSM.out q h1 (by omega))
          have e1 : (x[k] == n) = false := by simpa using he
          clear he
          generalize x[k] = m at *
          go_wp2
          go_roundw
          case rel => exact ⟨k + 1, by omega, by go_num, HSM2.out, hB⟩
          case measure => simp [intOf]; omega
      · have hk' : k = xl := by omega
        subst hk'
        have HS := Lib.hid (show decide (n ∈ x) = false by
          simp only [decide_eq_false_iff_not]
          intro hm
          obtain ⟨q, hq, e⟩ := List.getElem_of_mem hm
          exact HSM.out q hq (by have := HX.out; omega) e)
        go_wp2
        go_ret
        exact ⟨ret_bool HS.out.symm, hB⟩

/-- A pot is within all limits in each of its truths. -/
def isSafeR (s : Shop) (P tl th al ah : Int) : Bool := keepsR s 1 P tl 0 && keepsR s 2 P th 0 && keepsR s 3 P 0 al && keepsR s 4 P 0 ah
theorem keeps_is1 (s : Shop) (a : Option Addr) (len cap : Nat) (P t : Int) (b : Bool) (h : keepsR s 1 P t 0 = b) (w : World) (hP : 0 ≤ P ∧ P ≤ 2000) (hx : 0 ≤ s.xl ∧ s.xl ≤ 1000) (hv : Fair t) :
    Calls Try.prog 54 #[.agg #[.int .i64 s.P, .int .i64 s.tl, .int .i64 s.th, .int .i64 s.al, .int .i64 s.ah, .int .i64 s.room, .int .i64 s.xl, .int .i64 s.xh, .int .i64 s.yl, .int .i64 s.yh, .slice a len cap], .int .i64 1, .int .i64 P, .int .i64 t, .int .i64 0] w fun e w' => e = .returned (.bool b) ∧ Below w.heap.size w w' := h ▸ refKeeps_1 s a len cap P t 0 w hP hx hv
theorem keeps_is2 (s : Shop) (a : Option Addr) (len cap : Nat) (P t : Int) (b : Bool) (h : keepsR s 2 P t 0 = b) (w : World) (hP : 0 ≤ P ∧ P ≤ 2000) (hx : 0 ≤ s.xh ∧ s.xh ≤ 1000) (hv : Fair t) :
    Calls Try.prog 54 #[.agg #[.int .i64 s.P, .int .i64 s.tl, .int .i64 s.th, .int .i64 s.al, .int .i64 s.ah, .int .i64 s.room, .int .i64 s.xl, .int .i64 s.xh, .int .i64 s.yl, .int .i64 s.yh, .slice a len cap], .int .i64 2, .int .i64 P, .int .i64 t, .int .i64 0] w fun e w' => e = .returned (.bool b) ∧ Below w.heap.size w w' := h ▸ refKeeps_2 s a len cap P t 0 w hP hx hv
theorem keeps_is3 (s : Shop) (a : Option Addr) (len cap : Nat) (P x : Int) (b : Bool) (h : keepsR s 3 P 0 x = b) (w : World) (hP : 0 ≤ P ∧ P ≤ 2000) (hx : 0 ≤ s.yl ∧ s.yl ≤ 1000) (hv : Fair x) :
    Calls Try.prog 54 #[.agg #[.int .i64 s.P, .int .i64 s.tl, .int .i64 s.th, .int .i64 s.al, .int .i64 s.ah, .int .i64 s.room, .int .i64 s.xl, .int .i64 s.xh, .int .i64 s.yl, .int .i64 s.yh, .slice a len cap], .int .i64 3, .int .i64 P, .int .i64 0, .int .i64 x] w fun e w' => e = .returned (.bool b) ∧ Below w.heap.size w w' := h ▸ refKeeps_3 s a len cap P 0 x w hP hx hv
theorem keeps_is4 (s : Shop) (a : Option Addr) (len cap : Nat) (P x : Int) (b : Bool) (h : keepsR s 4 P 0 x = b) (w : World) (hP : 0 ≤ P ∧ P ≤ 2000) (hx : 0 ≤ s.yh ∧ s.yh ≤ 1000) (hv : Fair x) :
    Calls Try.prog 54 #[.agg #[.int .i64 s.P, .int .i64 s.tl, .int .i64 s.th, .int .i64 s.al, .int .i64 s.ah, .int .i64 s.room, .int .i64 s.xl, .int .i64 s.xh, .int .i64 s.yl, .int .i64 s.yh, .slice a len cap], .int .i64 4, .int .i64 P, .int .i64 0, .int .i64 x] w fun e w' => e = .returned (.bool b) ∧ Below w.heap.size w w' := h ▸ refKeeps_4 s a len cap P 0 x w hP hx hv
set_option maxHeartbeats 1000000 in
theorem IsSafe_0 (s : Shop) (a : Option Addr) (len cap : Nat) (P tl th al ah : Int) (w : World) (hP : 0 ≤ P ∧ P ≤ 2000) (hL : ((0 ≤ s.xl ∧ s.xl ≤ 1000) ∧ (0 ≤ s.xh ∧ s.xh ≤ 1000)) ∧ ((0 ≤ s.yl ∧ s.yl ≤ 1000) ∧ (0 ≤ s.yh ∧ s.yh ≤ 1000))) (f1 : Fair tl) (f2 : Fair th) (f3 : Fair al) (f4 : Fair ah) (h1 : keepsR s 1 P tl 0 = false) :
    Calls Try.prog 64 #[.agg #[.int .i64 s.P, .int .i64 s.tl, .int .i64 s.th, .int .i64 s.al, .int .i64 s.ah, .int .i64 s.room, .int .i64 s.xl, .int .i64 s.xh, .int .i64 s.yl, .int .i64 s.yh, .slice a len cap], .agg #[.int .i64 P, .int .i64 tl, .int .i64 th, .int .i64 al, .int .i64 ah]] w fun e w' => e = .returned (.bool false) ∧ Below w.heap.size w w' := by
  have H1 := Lib.hid (fun w1 => keeps_is1 s a len cap P tl false h1 w1 hP hL.1.1 f1)
  clear hP hL f1 f2 f3 f4 h1
  go_enter Try.func64, Try.ntmps64
  go_wp2_with fail
  refine (H1.out _).mono ?_; rintro e w1 ⟨rfl, hb1⟩; obtain ⟨hc1, hf1⟩ := bcell hb1; have hz1 := hb1.size; (try simp at hz1); have hw1 := ((by repeat (first | assumption | exact Below.refl _ _ | (refine Below.alloc ?_ (by first | omega | (simp; omega) | simp) _) | (refine Below.setCell ?_ (by first | omega | (simp; omega) | simp) _) | refine Below.drew ?_)) : Below w.heap.size w _).trans (hb1.mono (by first | (simp; done) | (simp; omega) | omega)); clear hb1; have p1 : w.heap.size < w1.heap.size := (by omega); have r1 : w.heap.size + 1 < w1.heap.size := (by omega); go_wp2_with fail
  go_ret
  exact ⟨rfl, (by repeat (first | assumption | exact Below.refl _ _ | (refine Below.alloc ?_ (by first | omega | (simp; omega) | simp) _) | (refine Below.setCell ?_ (by first | omega | (simp; omega) | simp) _) | refine Below.drew ?_))⟩
set_option maxHeartbeats 1000000 in
theorem IsSafe_1 (s : Shop) (a : Option Addr) (len cap : Nat) (P tl th al ah : Int) (w : World) (hP : 0 ≤ P ∧ P ≤ 2000) (hL : ((0 ≤ s.xl ∧ s.xl ≤ 1000) ∧ (0 ≤ s.xh ∧ s.xh ≤ 1000)) ∧ ((0 ≤ s.yl ∧ s.yl ≤ 1000) ∧ (0 ≤ s.yh ∧ s.yh ≤ 1000))) (f1 : Fair tl) (f2 : Fair th) (f3 : Fair al) (f4 : Fair ah) (h1 : keepsR s 1 P tl 0 = true) (h2 : keepsR s 2 P th 0 = false) :
    Calls Try.prog 64 #[.agg #[.int .i64 s.P, .int .i64 s.tl, .int .i64 s.th, .int .i64 s.al, .int .i64 s.ah, .int .i64 s.room, .int .i64 s.xl, .int .i64 s.xh, .int .i64 s.yl, .int .i64 s.yh, .slice a len cap], .agg #[.int .i64 P, .int .i64 tl, .int .i64 th, .int .i64 al, .int .i64 ah]] w fun e w' => e = .returned (.bool false) ∧ Below w.heap.size w w' := by
  have H1 := Lib.hid (fun w1 => keeps_is1 s a len cap P tl true h1 w1 hP hL.1.1 f1)
  have H2 := Lib.hid (fun w1 => keeps_is2 s a len cap P th false h2 w1 hP hL.1.2 f2)
  clear hP hL f1 f2 f3 f4 h1 h2
  go_enter Try.func64, Try.ntmps64
  go_wp2_with fail
  refine (H1.out _).mono ?_; rintro e w1 ⟨rfl, hb1⟩; obtain ⟨hc1, hf1⟩ := bcell hb1; have hz1 := hb1.size; (try simp at hz1); have hw1 := ((by repeat (first | assumption | exact Below.refl _ _ | (refine Below.alloc ?_ (by first | omega | (simp; omega) | simp) _) | (refine Below.setCell ?_ (by first | omega | (simp; omega) | simp) _) | refine Below.drew ?_)) : Below w.heap.size w _).trans (hb1.mono (by first | (simp; done) | (simp; omega) | omega)); clear hb1; have p1 : w.heap.size < w1.heap.size := (by omega); have r1 : w.heap.size + 1 < w1.heap.size := (by omega); go_wp2_with fail
  refine (H2.out _).mono ?_; rintro e w2 ⟨rfl, hb2⟩; obtain ⟨hc2, hf2⟩ := bcell hb2; have hz2 := hb2.size; (try simp at hz2); have hw2 := ((by repeat (first | assumption | exact Below.refl _ _ | (refine Below.alloc ?_ (by first | omega | (simp; omega) | simp) _) | (refine Below.setCell ?_ (by first | omega | (simp; omega) | simp) _) | refine Below.drew ?_)) : Below w.heap.size w _).trans (hb2.mono (by first | (simp; done) | (simp; omega) | omega)); clear hb2; have p2 : w.heap.size < w2.heap.size := (by omega); have r2 : w.heap.size + 1 < w2.heap.size := (by omega); go_wp2_with fail
  go_ret
  exact ⟨rfl, (by repeat (first | assumption | exact Below.refl _ _ | (refine Below.alloc ?_ (by first | omega | (simp; omega) | simp) _) | (refine Below.setCell ?_ (by first | omega | (simp; omega) | simp) _) | refine Below.drew ?_))⟩
set_option maxHeartbeats 1000000 in
theorem IsSafe_2 (s : Shop) (a : Option Addr) (len cap : Nat) (P tl th al ah : Int) (w : World) (hP : 0 ≤ P ∧ P ≤ 2000) (hL : ((0 ≤ s.xl ∧ s.xl ≤ 1000) ∧ (0 ≤ s.xh ∧ s.xh ≤ 1000)) ∧ ((0 ≤ s.yl ∧ s.yl ≤ 1000) ∧ (0 ≤ s.yh ∧ s.yh ≤ 1000))) (f1 : Fair tl) (f2 : Fair th) (f3 : Fair al) (f4 : Fair ah) (h1 : keepsR s 1 P tl 0 = true) (h2 : keepsR s 2 P th 0 = true) (h3 : keepsR s 3 P 0 al = false) :
    Calls Try.prog 64 #[.agg #[.int .i64 s.P, .int .i64 s.tl, .int .i64 s.th, .int .i64 s.al, .int .i64 s.ah, .int .i64 s.room, .int .i64 s.xl, .int .i64 s.xh, .int .i64 s.yl, .int .i64 s.yh, .slice a len cap], .agg #[.int .i64 P, .int .i64 tl, .int .i64 th, .int .i64 al, .int .i64 ah]] w fun e w' => e = .returned (.bool false) ∧ Below w.heap.size w w' := by
  have H1 := Lib.hid (fun w1 => keeps_is1 s a len cap P tl true h1 w1 hP hL.1.1 f1)
  have H2 := Lib.hid (fun w1 => keeps_is2 s a len cap P th true h2 w1 hP hL.1.2 f2)
  have H3 := Lib.hid (fun w1 => keeps_is3 s a len cap P al false h3 w1 hP hL.2.1 f3)
  clear hP hL f1 f2 f3 f4 h1 h2 h3
  go_enter Try.func64, Try.ntmps64
  go_wp2_with fail
  refine (H1.out _).mono ?_; rintro e w1 ⟨rfl, hb1⟩; obtain ⟨hc1, hf1⟩ := bcell hb1; have hz1 := hb1.size; (try simp at hz1); have hw1 := ((by repeat (first | assumption | exact Below.refl _ _ | (refine Below.alloc ?_ (by first | omega | (simp; omega) | simp) _) | (refine Below.setCell ?_ (by first | omega | (simp; omega) | simp) _) | refine Below.drew ?_)) : Below w.heap.size w _).trans (hb1.mono (by first | (simp; done) | (simp; omega) | omega)); clear hb1; have p1 : w.heap.size < w1.heap.size := (by omega); have r1 : w.heap.size + 1 < w1.heap.size := (by omega); go_wp2_with fail
  refine (H2.out _).mono ?_; rintro e w2 ⟨rfl, hb2⟩; obtain ⟨hc2, hf2⟩ := bcell hb2; have hz2 := hb2.size; (try simp at hz2); have hw2 := ((by repeat (first | assumption | exact Below.refl _ _ | (refine Below.alloc ?_ (by first | omega | (simp; omega) | simp) _) | (refine Below.setCell ?_ (by first | omega | (simp; omega) | simp) _) | refine Below.drew ?_)) : Below w.heap.size w _).trans (hb2.mono (by first | (simp; done) | (simp; omega) | omega)); clear hb2; have p2 : w.heap.size < w2.heap.size := (by omega); have r2 : w.heap.size + 1 < w2.heap.size := (by omega); go_wp2_with fail
  refine (H3.out _).mono ?_; rintro e w3 ⟨rfl, hb3⟩; obtain ⟨hc3, hf3⟩ := bcell hb3; have hz3 := hb3.size; (try simp at hz3); have hw3 := ((by repeat (first | assumption | exact Below.refl _ _ | (refine Below.alloc ?_ (by first | omega | (simp; omega) | simp) _) | (refine Below.setCell ?_ (by first | omega | (simp; omega) | simp) _) | refine Below.drew ?_)) : Below w.heap.size w _).trans (hb3.mono (by first | (simp; done) | (simp; omega) | omega)); clear hb3; have p3 : w.heap.size < w3.heap.size := (by omega); have r3 : w.heap.size + 1 < w3.heap.size := (by omega); go_wp2_with fail
  go_ret
  exact ⟨rfl, (by repeat (first | assumption | exact Below.refl _ _ | (refine Below.alloc ?_ (by first | omega | (simp; omega) | simp) _) | (refine Below.setCell ?_ (by first | omega | (simp; omega) | simp) _) | refine Below.drew ?_))⟩
set_option maxHeartbeats 1000000 in
theorem IsSafe_3 (s : Shop) (a : Option Addr) (len cap : Nat) (P tl th al ah : Int) (w : World) (hP : 0 ≤ P ∧ P ≤ 2000) (hL : ((0 ≤ s.xl ∧ s.xl ≤ 1000) ∧ (0 ≤ s.xh ∧ s.xh ≤ 1000)) ∧ ((0 ≤ s.yl ∧ s.yl ≤ 1000) ∧ (0 ≤ s.yh ∧ s.yh ≤ 1000))) (f1 : Fair tl) (f2 : Fair th) (f3 : Fair al) (f4 : Fair ah) (h1 : keepsR s 1 P tl 0 = true) (h2 : keepsR s 2 P th 0 = true) (h3 : keepsR s 3 P 0 al = true) (h4 : keepsR s 4 P 0 ah = false) :
    Calls Try.prog 64 #[.agg #[.int .i64 s.P, .int .i64 s.tl, .int .i64 s.th, .int .i64 s.al, .int .i64 s.ah, .int .i64 s.room, .int .i64 s.xl, .int .i64 s.xh, .int .i64 s.yl, .int .i64 s.yh, .slice a len cap], .agg #[.int .i64 P, .int .i64 tl, .int .i64 th, .int .i64 al, .int .i64 ah]] w fun e w' => e = .returned (.bool false) ∧ Below w.heap.size w w' := by
  have H1 := Lib.hid (fun w1 => keeps_is1 s a len cap P tl true h1 w1 hP hL.1.1 f1)
  have H2 := Lib.hid (fun w1 => keeps_is2 s a len cap P th true h2 w1 hP hL.1.2 f2)
  have H3 := Lib.hid (fun w1 => keeps_is3 s a len cap P al true h3 w1 hP hL.2.1 f3)
  have H4 := Lib.hid (fun w1 => keeps_is4 s a len cap P ah false h4 w1 hP hL.2.2 f4)
  clear hP hL f1 f2 f3 f4 h1 h2 h3 h4
  go_enter Try.func64, Try.ntmps64
  go_wp2_with fail
  refine (H1.out _).mono ?_; rintro e w1 ⟨rfl, hb1⟩; obtain ⟨hc1, hf1⟩ := bcell hb1; have hz1 := hb1.size; (try simp at hz1); have hw1 := ((by repeat (first | assumption | exact Below.refl _ _ | (refine Below.alloc ?_ (by first | omega | (simp; omega) | simp) _) | (refine Below.setCell ?_ (by first | omega | (simp; omega) | simp) _) | refine Below.drew ?_)) : Below w.heap.size w _).trans (hb1.mono (by first | (simp; done) | (simp; omega) | omega)); clear hb1; have p1 : w.heap.size < w1.heap.size := (by omega); have r1 : w.heap.size + 1 < w1.heap.size := (by omega); go_wp2_with fail
  refine (H2.out _).mono ?_; rintro e w2 ⟨rfl, hb2⟩; obtain ⟨hc2, hf2⟩ := bcell hb2; have hz2 := hb2.size; (try simp at hz2); have hw2 := ((by repeat (first | assumption | exact Below.refl _ _ | (refine Below.alloc ?_ (by first | omega | (simp; omega) | simp) _) | (refine Below.setCell ?_ (by first | omega | (simp; omega) | simp) _) | refine Below.drew ?_)) : Below w.heap.size w _).trans (hb2.mono (by first | (simp; done) | (simp; omega) | omega)); clear hb2; have p2 : w.heap.size < w2.heap.size := (by omega); have r2 : w.heap.size + 1 < w2.heap.size := (by omega); go_wp2_with fail
  refine (H3.out _).mono ?_; rintro e w3 ⟨rfl, hb3⟩; obtain ⟨hc3, hf3⟩ := bcell hb3; have hz3 := hb3.size; (try simp at hz3); have hw3 := ((by repeat (first | assumption | exact Below.refl _ _ | (refine Below.alloc ?_ (by first | omega | (simp; omega) | simp) _) | (refine Below.setCell ?_ (by first | omega | (simp; omega) | simp) _) | refine Below.drew ?_)) : Below w.heap.size w _).trans (hb3.mono (by first | (simp; done) | (simp; omega) | omega)); clear hb3; have p3 : w.heap.size < w3.heap.size := (by omega); have r3 : w.heap.size + 1 < w3.heap.size := (by omega); go_wp2_with fail
  refine (H4.out _).mono ?_; rintro e w4 ⟨rfl, hb4⟩; obtain ⟨hc4, hf4⟩ := bcell hb4; have hz4 := hb4.size; (try simp at hz4); have hw4 := ((by repeat (first | assumption | exact Below.refl _ _ | (refine Below.alloc ?_ (by first | omega | (simp; omega) | simp) _) | (refine Below.setCell ?_ (by first | omega | (simp; omega) | simp) _) | refine Below.drew ?_)) : Below w.heap.size w _).trans (hb4.mono (by first | (simp; done) | (simp; omega) | omega)); clear hb4; have p4 : w.heap.size < w4.heap.size := (by omega); have r4 : w.heap.size + 1 < w4.heap.size := (by omega); go_wp2_with fail
  go_ret
  exact ⟨rfl, (by repeat (first | assumption | exact Below.refl _ _ | (refine Below.alloc ?_ (by first | omega | (simp; omega) | simp) _) | (refine Below.setCell ?_ (by first | omega | (simp; omega) | simp) _) | refine Below.drew ?_))⟩
set_option maxHeartbeats 1000000 in
theorem IsSafe_4 (s : Shop) (a : Option Addr) (len cap : Nat) (P tl th al ah : Int) (w : World) (hP : 0 ≤ P ∧ P ≤ 2000) (hL : ((0 ≤ s.xl ∧ s.xl ≤ 1000) ∧ (0 ≤ s.xh ∧ s.xh ≤ 1000)) ∧ ((0 ≤ s.yl ∧ s.yl ≤ 1000) ∧ (0 ≤ s.yh ∧ s.yh ≤ 1000))) (f1 : Fair tl) (f2 : Fair th) (f3 : Fair al) (f4 : Fair ah) (h1 : keepsR s 1 P tl 0 = true) (h2 : keepsR s 2 P th 0 = true) (h3 : keepsR s 3 P 0 al = true) (h4 : keepsR s 4 P 0 ah = true) :
    Calls Try.prog 64 #[.agg #[.int .i64 s.P, .int .i64 s.tl, .int .i64 s.th, .int .i64 s.al, .int .i64 s.ah, .int .i64 s.room, .int .i64 s.xl, .int .i64 s.xh, .int .i64 s.yl, .int .i64 s.yh, .slice a len cap], .agg #[.int .i64 P, .int .i64 tl, .int .i64 th, .int .i64 al, .int .i64 ah]] w fun e w' => e = .returned (.bool true) ∧ Below w.heap.size w w' := by
  have H1 := Lib.hid (fun w1 => keeps_is1 s a len cap P tl true h1 w1 hP hL.1.1 f1)
  have H2 := Lib.hid (fun w1 => keeps_is2 s a len cap P th true h2 w1 hP hL.1.2 f2)
  have H3 := Lib.hid (fun w1 => keeps_is3 s a len cap P al true h3 w1 hP hL.2.1 f3)
  have H4 := Lib.hid (fun w1 => keeps_is4 s a len cap P ah true h4 w1 hP hL.2.2 f4)
  clear hP hL f1 f2 f3 f4 h1 h2 h3 h4
  go_enter Try.func64, Try.ntmps64
  go_wp2_with fail
  refine (H1.out _).mono ?_; rintro e w1 ⟨rfl, hb1⟩; obtain ⟨hc1, hf1⟩ := bcell hb1; have hz1 := hb1.size; (try simp at hz1); have hw1 := ((by repeat (first | assumption | exact Below.refl _ _ | (refine Below.alloc ?_ (by first | omega | (simp; omega) | simp) _) | (refine Below.setCell ?_ (by first | omega | (simp; omega) | simp) _) | refine Below.drew ?_)) : Below w.heap.size w _).trans (hb1.mono (by first | (simp; done) | (simp; omega) | omega)); clear hb1; have p1 : w.heap.size < w1.heap.size := (by omega); have r1 : w.heap.size + 1 < w1.heap.size := (by omega); go_wp2_with fail
  refine (H2.out _).mono ?_; rintro e w2 ⟨rfl, hb2⟩; obtain ⟨hc2, hf2⟩ := bcell hb2; have hz2 := hb2.size; (try simp at hz2); have hw2 := ((by repeat (first | assumption | exact Below.refl _ _ | (refine Below.alloc ?_ (by first | omega | (simp; omega) | simp) _) | (refine Below.setCell ?_ (by first | omega | (simp; omega) | simp) _) | refine Below.drew ?_)) : Below w.heap.size w _).trans (hb2.mono (by first | (simp; done) | (simp; omega) | omega)); clear hb2; have p2 : w.heap.size < w2.heap.size := (by omega); have r2 : w.heap.size + 1 < w2.heap.size := (by omega); go_wp2_with fail
  refine (H3.out _).mono ?_; rintro e w3 ⟨rfl, hb3⟩; obtain ⟨hc3, hf3⟩ := bcell hb3; have hz3 := hb3.size; (try simp at hz3); have hw3 := ((by repeat (first | assumption | exact Below.refl _ _ | (refine Below.alloc ?_ (by first | omega | (simp; omega) | simp) _) | (refine Below.setCell ?_ (by first | omega | (simp; omega) | simp) _) | refine Below.drew ?_)) : Below w.heap.size w _).trans (hb3.mono (by first | (simp; done) | (simp; omega) | omega)); clear hb3; have p3 : w.heap.size < w3.heap.size := (by omega); have r3 : w.heap.size + 1 < w3.heap.size := (by omega); go_wp2_with fail
  refine (H4.out _).mono ?_; rintro e w4 ⟨rfl, hb4⟩; obtain ⟨hc4, hf4⟩ := bcell hb4; have hz4 := hb4.size; (try simp at hz4); have hw4 := ((by repeat (first | assumption | exact Below.refl _ _ | (refine Below.alloc ?_ (by first | omega | (simp; omega) | simp) _) | (refine Below.setCell ?_ (by first | omega | (simp; omega) | simp) _) | refine Below.drew ?_)) : Below w.heap.size w _).trans (hb4.mono (by first | (simp; done) | (simp; omega) | omega)); clear hb4; have p4 : w.heap.size < w4.heap.size := (by omega); have r4 : w.heap.size + 1 < w4.heap.size := (by omega); go_wp2_with fail
  go_ret
  exact ⟨rfl, (by repeat (first | assumption | exact Below.refl _ _ | (refine Below.alloc ?_ (by first | omega | (simp; omega) | simp) _) | (refine Below.setCell ?_ (by first | omega | (simp; omega) | simp) _) | refine Below.drew ?_))⟩
theorem IsSafe_any (s : Shop) (a : Option Addr) (len cap : Nat) (P tl th al ah : Int) (w : World) (hP : 0 ≤ P ∧ P ≤ 2000) (hL : ((0 ≤ s.xl ∧ s.xl ≤ 1000) ∧ (0 ≤ s.xh ∧ s.xh ≤ 1000)) ∧ ((0 ≤ s.yl ∧ s.yl ≤ 1000) ∧ (0 ≤ s.yh ∧ s.yh ≤ 1000))) (f1 : Fair tl) (f2 : Fair th) (f3 : Fair al) (f4 : Fair ah) :
    Calls Try.prog 64 #[.agg #[.int .i64 s.P, .int .i64 s.tl, .int .i64 s.th, .int .i64 s.al, .int .i64 s.ah, .int .i64 s.room, .int .i64 s.xl, .int .i64 s.xh, .int .i64 s.yl, .int .i64 s.yh, .slice a len cap], .agg #[.int .i64 P, .int .i64 tl, .int .i64 th, .int .i64 al, .int .i64 ah]] w fun e w' => e = .returned (.bool (isSafeR s P tl th al ah)) ∧ Below w.heap.size w w' := by
  unfold isSafeR
  rcases h1 : keepsR s 1 P tl 0 with - | -
  · simp only [Bool.false_and, Bool.and_false, Bool.true_and, Bool.and_true]; exact IsSafe_0 s a len cap P tl th al ah w hP hL f1 f2 f3 f4 h1
  rcases h2 : keepsR s 2 P th 0 with - | -
  · simp only [Bool.false_and, Bool.and_false, Bool.true_and, Bool.and_true]; exact IsSafe_1 s a len cap P tl th al ah w hP hL f1 f2 f3 f4 h1 h2
  rcases h3 : keepsR s 3 P 0 al with - | -
  · simp only [Bool.false_and, Bool.and_false, Bool.true_and, Bool.and_true]; exact IsSafe_2 s a len cap P tl th al ah w hP hL f1 f2 f3 f4 h1 h2 h3
  rcases h4 : keepsR s 4 P 0 ah with - | -
  · simp only [Bool.false_and, Bool.and_false, Bool.true_and, Bool.and_true]; exact IsSafe_3 s a len cap P tl th al ah w hP hL f1 f2 f3 f4 h1 h2 h3 h4
  exact IsSafe_4 s a len cap P tl th al ah w hP hL f1 f2 f3 f4 h1 h2 h3 h4
end Go.Proofs.Ytajabapcmpmboaa

/- Rising of the reference. -/
namespace Go.Proofs.Ytajabapcmpmboaa
set_option linter.unusedVariables false
set_option linter.unusedSimpArgs false
open Go.RowKit

/-- The number at a place is within the bounds, and more than the one before it. -/
def goodAt (x : List Int) (lo hi : Int) (k : Nat) : Bool := btw (x.getD k 0) lo hi && (k == 0 || decide (x.getD (k - 1) 0 < x.getD k 0))
def risingB (x : List Int) (lo hi : Int) : Bool := (List.range x.length).all (goodAt x lo hi)
theorem rising_no {x : List Int} {lo hi : Int} {k : Nat} (h : k < x.length) (hg : goodAt x lo hi k = false) : risingB x lo hi = false := by
  rcases hb : risingB x lo hi with - | -
  · rfl
  · have := List.all_eq_true.1 hb k (List.mem_range.2 h)
    rw [hg] at this; exact absurd this (by decide)
theorem rising_yes {x : List Int} {lo hi : Int} (h : ∀ k, k < x.length → goodAt x lo hi k = true) : risingB x lo hi = true :=
  List.all_eq_true.2 fun k hk => h k (List.mem_range.1 hk)

set_option maxHeartbeats 2000000 in
theorem Rising_any (xa : Option Addr) (xl xc : Nat) (x : List Int) (lo hi : Int) (w : World) (hx : IntsAt w xa xl x) :
    Calls Try.prog 49 #[.slice xa xl xc, .int .i64 lo, .int .i64 hi] w fun e w' => e = .returned (.bool (risingB x lo hi)) ∧ Below w.heap.size w w' := by
  obtain ⟨hxl, hxm, hxc⟩ := hx
  unfold maxLen at hxm
  rcases Nat.eq_zero_or_pos xl with h0 | h0
  · subst h0
    have HS := Lib.hid (show risingB x lo hi = true by rw [List.length_eq_zero_iff.1 hxl]; rfl)
    clear hxl hxc
    go_enter Try.func49, Try.ntmps49
    go_wp2
    go_loopw [7] (fun i wr => i = .int .i64 0 ∧ Below w.heap.size w wr) (fun _ _ => 0)
    case atStart => exact ⟨rfl, Below.refl _ _⟩
    case round =>
      obtain ⟨rfl, hB⟩ := hrel
      go_wp2
      go_ret
      exact ⟨ret_bool HS.out.symm, hB⟩
  · obtain ⟨xb, xo, rfl, hxB, hxcell⟩ := hxc h0
    have HX := Lib.hid hxl
    have HC := Lib.hid hxcell
    clear hxl hxc hxcell
    go_enter Try.func49, Try.ntmps49
    go_wp2
    go_loopw [7] (fun i wr => ∃ k : Nat, k ≤ xl ∧ i = .int .i64 k ∧ (∀ q, q < k → goodAt x lo hi q = true) ∧ Below w.heap.size w wr) (fun i _ => xl - (intOf i).toNat)
    case atStart => exact ⟨0, by omega, rfl, fun q h => by omega, Below.refl _ _⟩
    case round =>
      obtain ⟨k, hk, rfl, hsm, hB⟩ := hrel
      have HSM := Lib.hid hsm; clear hsm
      by_cases hlt : k < xl
      · have hk2 : k < x.length := by rw [HX.out]; exact hlt
        have cx := (hB.cell (p := ⟨xb, _, none⟩) hxB).trans (HC.out k hk2)
        have hkl : (k : Int) < (xl : Int) := by omega
        have hgx : x.getD k 0 = x[k] := by simp [List.getD, hk2]
        rcases hb : btw x[k] lo hi with - | -
        · have HN := Lib.hid (rising_no (lo := lo) (hi := hi) hk2 (by simp only [goodAt, hgx, hb, Bool.false_and]))
          have HW := Lib.hid hb
          clear hb hgx
          generalize x[k] = m at *
          go_wp2_with fail
          go_quiet ((go_at_call 53; exact Calls.quiet_of_same ((Within_is _ _ _ _ HW.out _).mono fun _ _ h => ⟨h.1, h.2.symm⟩)))
          go_wp2_with fail
          go_ret
          exact ⟨ret_bool HN.out.symm, hB.trans (Go.Joins.below_draws _ _ _)⟩
        · rcases Nat.eq_zero_or_pos k with hz | hz
          · subst hz
            have HSM2 := Lib.hid (show ∀ q, q < 0 + 1 → goodAt x lo hi q = true from fun q hq => by
              obtain rfl : q = 0 := by omega
              simp only [goodAt, hgx, hb]; rfl)
            have HW := Lib.hid hb
            clear hb hgx
            generalize x[0] = m at *
            have cx0 : wr.cell? ⟨xb, xo, none⟩ = some (.int .i64 m) := by simpa using cx
            have hkl0 : (0 : Int) < (xl : Int) := by omega
            clear cx
            go_wp2_with fail
            go_quiet ((go_at_call 53; exact Calls.quiet_of_same ((Within_is _ _ _ _ HW.out _).mono fun _ _ h => ⟨h.1, h.2.symm⟩)))
            go_wp2_with fail
            go_roundw
            case rel => exact ⟨0 + 1, by omega, by go_num, HSM2.out, hB.trans (Go.Joins.below_draws _ _ _)⟩
            case measure => simp [intOf]; omega
          · obtain ⟨j, rfl⟩ : ∃ j, k = j + 1 := ⟨k - 1, by omega⟩
            have hj2 : j < x.length := by omega
            have cj := (hB.cell (p := ⟨xb, _, none⟩) hxB).trans (HC.out j hj2)
            have hgj : x.getD (j + 1 - 1) 0 = x[j] := by simp [List.getD, hj2]
            have hjl : (j : Int) < (xl : Int) := by omega
            have w1 : IntKind.i64.wrap (j : Int) = (j : Int) := IntWalk.i64_in _ ⟨by omega, by omega⟩
            have w2 : IntKind.i64.wrap ((j : Int) + 1 - 1) = (j : Int) := by rw [show (j : Int) + 1 - 1 = j by omega]; exact w1
            have w3 : ((j : Int) + 1).toNat = j + 1 := by omega
            have w4 : 0 < (j : Int) + 1 := by omega
            have w5 : 0 ≤ (j : Int) + 1 := by omega
            have hkl' : (j : Int) + 1 < (xl : Int) := by omega
            by_cases ho : x[j] < x[j + 1]
            · have HSM2 := Lib.hid (show ∀ q, q < j + 1 + 1 → goodAt x lo hi q = true from fun q hq => by
                by_cases e : q = j + 1
                · subst e; simp only [goodAt, hgx, hgj, hb, decide_eq_true ho, Bool.or_true, Bool.and_self]
                · exact HSM.out q (by omega))
              have HW := Lib.hid hb
              have ho' : ¬ x[j + 1] ≤ x[j] := by omega
              clear hb hgx hgj
              generalize x[j + 1] = m at *
              generalize x[j] = n at *
              go_wp2_with fail
              go_quiet ((go_at_call 53; exact Calls.quiet_of_same ((Within_is _ _ _ _ HW.out _).mono fun _ _ h => ⟨h.1, h.2.symm⟩)))
              go_wp2_with fail
              go_roundw
              case rel => exact ⟨j + 1 + 1, by omega, by go_num, HSM2.out, hB.trans (Go.Joins.below_draws _ _ _)⟩
              case measure => simp [intOf]; omega
            · have HN := Lib.hid (rising_no (lo := lo) (hi := hi) hk2 (by simp only [goodAt, hgx, hgj, hb, decide_eq_false ho]; rfl))
              have HW := Lib.hid hb
              have ho' : x[j + 1] ≤ x[j] := by omega
              clear hb hgx hgj
              generalize x[j + 1] = m at *
              generalize x[j] = n at *
              go_wp2_with fail
              go_quiet ((go_at_call 53; exact Calls.quiet_of_same ((Within_is _ _ _ _ HW.out _).mono fun _ _ h => ⟨h.1, h.2.symm⟩)))
              go_wp2_with fail
              go_ret
              exact ⟨ret_bool HN.out.symm, hB.trans (Go.Joins.below_draws _ _ _)⟩
      · have hk' : k = xl := by omega
        subst hk'
        have HS := Lib.hid (show risingB x lo hi = true from rising_yes fun q hq => HSM.out q (by have := HX.out; omega))
        go_wp2
        go_ret
        exact ⟨ret_bool HS.out.symm, hB⟩
end Go.Proofs.Ytajabapcmpmboaa
