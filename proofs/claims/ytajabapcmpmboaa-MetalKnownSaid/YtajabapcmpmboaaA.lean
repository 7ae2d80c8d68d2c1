/- A B C, joined. -/
import Derived.Test.YtajabapcmpmboaaRows
import Derived.WalkKit
import Derived.WalkSpells
import Derived.WalkLawsBesides
import Derived.Lib.Hide
import Derived.Deep.QuietTactic
import Derived.BigQuiet
import Derived.Deep.RegionHeld3
/- The leaves of package metal. -/
namespace Go.Proofs.Ytajabapcmpmboaa
set_option linter.unusedVariables false
set_option linter.unusedSimpArgs false
open Go.RowKit

theorem bcell {W w1 : World} (hb : Below W.heap.size W w1) : (∀ b o, b < W.heap.size → w1.cell? ⟨b, o, none⟩ = W.cell? ⟨b, o, none⟩) ∧ (∀ b o, b < W.heap.size → w1.frozen? ⟨b, o, none⟩ = W.frozen? ⟨b, o, none⟩) :=
  ⟨fun b o h => hb.cell (p := ⟨b, o, none⟩) h, fun b o h => hb.frozen (p := ⟨b, o, none⟩) h⟩
theorem ret_bool {a b : Bool} (h : a = b) : Ending.returned (.bool a) = .returned (.bool b) := by rw [h]

def btw (n lo hi : Int) : Bool := decide (lo ≤ n ∧ n ≤ hi)
def spanB (lo hi m : Int) : Bool := decide (0 ≤ lo ∧ lo ≤ hi ∧ hi ≤ m)
def potB (P tl th al ah : Int) : Bool := btw P 0 400 && spanB tl th P && spanB al ah P && decide (th + ah ≤ P)
def pigB (P t a c m : Int) : Bool := btw P 1 40 && btw t 0 P && btw a 0 P && decide (t + a ≤ P) && btw c 0 99 && btw m 0 5

set_option maxHeartbeats 400000 in
theorem between_any (n lo hi : Int) (w : World) :
    Calls Try.prog 110 #[.int .i64 n, .int .i64 lo, .int .i64 hi] w fun e w' => e = .returned (.bool (btw n lo hi)) ∧ w = w' := by
  go_enter Try.func110, Try.ntmps110
  go_wp2
  all_goals (go_ret; refine ⟨ret_bool ?_, rfl⟩; rw [Bool.eq_iff_iff]; simp [btw]; omega)

theorem between_is (n lo hi : Int) (b : Bool) (h : btw n lo hi = b) (w : World) :
    Calls Try.prog 110 #[.int .i64 n, .int .i64 lo, .int .i64 hi] w fun e w' => e = .returned (.bool b) ∧ w = w' := h ▸ between_any n lo hi w

set_option maxHeartbeats 400000 in
theorem validSpan_any (lo hi m : Int) (w : World) :
    Calls Try.prog 99 #[.agg #[.int .i64 lo, .int .i64 hi], .int .i64 m] w fun e w' => e = .returned (.bool (spanB lo hi m)) ∧ w.alloc (.cells #[.int .i64 lo, .int .i64 hi] 23) = w' := by
  go_enter Try.func99, Try.ntmps99
  go_wp2
  all_goals (go_ret; refine ⟨ret_bool ?_, rfl⟩; rw [Bool.eq_iff_iff]; simp [spanB]; omega)

theorem validSpan_is (lo hi m : Int) (b : Bool) (h : spanB lo hi m = b) (w : World) :
    Calls Try.prog 99 #[.agg #[.int .i64 lo, .int .i64 hi], .int .i64 m] w fun e w' => e = .returned (.bool b) ∧ w.alloc (.cells #[.int .i64 lo, .int .i64 hi] 23) = w' := h ▸ validSpan_any lo hi m w

set_option maxHeartbeats 400000 in
theorem validPot_any (P tl th al ah : Int) (w : World) :
    Calls Try.prog 92 #[.agg #[.int .i64 P, .int .i64 tl, .int .i64 th, .int .i64 al, .int .i64 ah]] w fun e w' => e = .returned (.bool (potB P tl th al ah)) ∧ Below w.heap.size w w' := by
  rcases h1 : btw P 0 400 with - | -
  · go_enter Try.func92, Try.ntmps92
    go_wp2_with (go_at_call 110; with_reducible refine (between_is _ _ _ _ h1 _).mono ?_; rintro e w' ⟨rfl, rfl⟩)
    go_ret
    exact ⟨ret_bool (by simp [potB, h1]), (Below.refl _ _).alloc (Nat.le_refl _) _⟩
  rcases h2 : spanB tl th P with - | -
  · go_enter Try.func92, Try.ntmps92
    go_wp2_with (first | (go_at_call 110; with_reducible refine (between_is _ _ _ _ h1 _).mono ?_; rintro e w' ⟨rfl, rfl⟩) | (go_at_call 99; with_reducible refine (validSpan_is _ _ _ _ h2 _).mono ?_; rintro e w' ⟨rfl, rfl⟩))
    go_ret
    exact ⟨ret_bool (by simp [potB, h2]), ((Below.refl _ _).alloc (Nat.le_refl _) _).alloc (by simp) _⟩
  rcases h3 : spanB al ah P with - | -
  · go_enter Try.func92, Try.ntmps92
    go_wp2_with (first | (go_at_call 110; with_reducible refine (between_is _ _ _ _ h1 _).mono ?_; rintro e w' ⟨rfl, rfl⟩) | (go_at_call 99; with_reducible refine (validSpan_is _ _ _ _ h2 _).mono ?_; rintro e w' ⟨rfl, rfl⟩) | (go_at_call 99; with_reducible refine (validSpan_is _ _ _ _ h3 _).mono ?_; rintro e w' ⟨rfl, rfl⟩))
    go_ret
    exact ⟨ret_bool (by simp [potB, h3]), (((Below.refl _ _).alloc (Nat.le_refl _) _).alloc (by simp) _).alloc (by simp; omega) _⟩
  · have b1 : 0 ≤ th ∧ th ≤ 400 ∧ 0 ≤ ah ∧ ah ≤ 400 := by simp [btw, spanB] at h1 h2 h3; omega
    obtain ⟨b1, b2, b3, b4⟩ := b1
    go_enter Try.func92, Try.ntmps92
    go_wp2_with (first | (go_at_call 110; with_reducible refine (between_is _ _ _ _ h1 _).mono ?_; rintro e w' ⟨rfl, rfl⟩) | (go_at_call 99; with_reducible refine (validSpan_is _ _ _ _ h2 _).mono ?_; rintro e w' ⟨rfl, rfl⟩) | (go_at_call 99; with_reducible refine (validSpan_is _ _ _ _ h3 _).mono ?_; rintro e w' ⟨rfl, rfl⟩))
    go_ret
    exact ⟨ret_bool (by simp [potB, h1, h2, h3]), (((Below.refl _ _).alloc (Nat.le_refl _) _).alloc (by simp) _).alloc (by simp; omega) _⟩

set_option maxHeartbeats 400000 in
theorem validPig_any (P t a c m : Int) (w : World) :
    Calls Try.prog 100 #[.agg #[.int .i64 P, .int .i64 t, .int .i64 a, .int .i64 c, .int .i64 m]] w fun e w' => e = .returned (.bool (pigB P t a c m)) ∧ w.alloc (.cells #[.int .i64 P, .int .i64 t, .int .i64 a, .int .i64 c, .int .i64 m] 70) = w' := by
  rcases h1 : btw P 1 40 with - | -
  · go_enter Try.func100, Try.ntmps100
    go_wp2_with (first | (go_at_call 110; with_reducible refine (between_is _ _ _ _ h1 _).mono ?_; rintro e w' ⟨rfl, rfl⟩))
    go_ret
    exact ⟨ret_bool (by simp [pigB, h1]), rfl⟩
  rcases h2 : btw t 0 P with - | -
  · go_enter Try.func100, Try.ntmps100
    go_wp2_with (first | (go_at_call 110; with_reducible refine (between_is _ _ _ _ h1 _).mono ?_; rintro e w' ⟨rfl, rfl⟩) | (go_at_call 110; with_reducible refine (between_is _ _ _ _ h2 _).mono ?_; rintro e w' ⟨rfl, rfl⟩))
    go_ret
    exact ⟨ret_bool (by simp [pigB, h2]), rfl⟩
  rcases h3 : btw a 0 P with - | -
  · go_enter Try.func100, Try.ntmps100
    go_wp2_with (first | (go_at_call 110; with_reducible refine (between_is _ _ _ _ h1 _).mono ?_; rintro e w' ⟨rfl, rfl⟩) | (go_at_call 110; with_reducible refine (between_is _ _ _ _ h2 _).mono ?_; rintro e w' ⟨rfl, rfl⟩) | (go_at_call 110; with_reducible refine (between_is _ _ _ _ h3 _).mono ?_; rintro e w' ⟨rfl, rfl⟩))
    go_ret
    exact ⟨ret_bool (by simp [pigB, h3]), rfl⟩
  rcases h4 : decide (t + a ≤ P) with - | -
  · have k4 : ¬ t + a ≤ P := by simpa using h4
    have b1 : 0 ≤ t ∧ t ≤ 40 ∧ 0 ≤ a ∧ a ≤ 40 := by simp [btw] at h1 h2 h3; omega
    obtain ⟨b1, b2, b3, b4⟩ := b1
    go_enter Try.func100, Try.ntmps100
    go_wp2_with (first | (go_at_call 110; with_reducible refine (between_is _ _ _ _ h1 _).mono ?_; rintro e w' ⟨rfl, rfl⟩) | (go_at_call 110; with_reducible refine (between_is _ _ _ _ h2 _).mono ?_; rintro e w' ⟨rfl, rfl⟩) | (go_at_call 110; with_reducible refine (between_is _ _ _ _ h3 _).mono ?_; rintro e w' ⟨rfl, rfl⟩))
    go_ret
    exact ⟨ret_bool (by simp [pigB, h4]), rfl⟩
  rcases h5 : btw c 0 99 with - | -
  · have k4 : t + a ≤ P := by simpa using h4
    have b1 : 0 ≤ t ∧ t ≤ 40 ∧ 0 ≤ a ∧ a ≤ 40 := by simp [btw] at h1 h2 h3; omega
    obtain ⟨b1, b2, b3, b4⟩ := b1
    go_enter Try.func100, Try.ntmps100
    go_wp2_with (first | (go_at_call 110; with_reducible refine (between_is _ _ _ _ h1 _).mono ?_; rintro e w' ⟨rfl, rfl⟩) | (go_at_call 110; with_reducible refine (between_is _ _ _ _ h2 _).mono ?_; rintro e w' ⟨rfl, rfl⟩) | (go_at_call 110; with_reducible refine (between_is _ _ _ _ h3 _).mono ?_; rintro e w' ⟨rfl, rfl⟩) | (go_at_call 110; with_reducible refine (between_is _ _ _ _ h5 _).mono ?_; rintro e w' ⟨rfl, rfl⟩))
    go_ret
    exact ⟨ret_bool (by simp [pigB, h5]), rfl⟩
  rcases h6 : btw m 0 5 with - | -
  · have k4 : t + a ≤ P := by simpa using h4
    have b1 : 0 ≤ t ∧ t ≤ 40 ∧ 0 ≤ a ∧ a ≤ 40 := by simp [btw] at h1 h2 h3; omega
    obtain ⟨b1, b2, b3, b4⟩ := b1
    go_enter Try.func100, Try.ntmps100
    go_wp2_with (first | (go_at_call 110; with_reducible refine (between_is _ _ _ _ h1 _).mono ?_; rintro e w' ⟨rfl, rfl⟩) | (go_at_call 110; with_reducible refine (between_is _ _ _ _ h2 _).mono ?_; rintro e w' ⟨rfl, rfl⟩) | (go_at_call 110; with_reducible refine (between_is _ _ _ _ h3 _).mono ?_; rintro e w' ⟨rfl, rfl⟩) | (go_at_call 110; with_reducible refine (between_is _ _ _ _ h5 _).mono ?_; rintro e w' ⟨rfl, rfl⟩) | (go_at_call 110; with_reducible refine (between_is _ _ _ _ h6 _).mono ?_; rintro e w' ⟨rfl, rfl⟩))
    go_ret
    exact ⟨ret_bool (by simp [pigB, h6]), rfl⟩
  have k4 : t + a ≤ P := by simpa using h4
  have b1 : 0 ≤ t ∧ t ≤ 40 ∧ 0 ≤ a ∧ a ≤ 40 := by simp [btw] at h1 h2 h3; omega
  obtain ⟨b1, b2, b3, b4⟩ := b1
  go_enter Try.func100, Try.ntmps100
  go_wp2_with (first | (go_at_call 110; with_reducible refine (between_is _ _ _ _ h1 _).mono ?_; rintro e w' ⟨rfl, rfl⟩) | (go_at_call 110; with_reducible refine (between_is _ _ _ _ h2 _).mono ?_; rintro e w' ⟨rfl, rfl⟩) | (go_at_call 110; with_reducible refine (between_is _ _ _ _ h3 _).mono ?_; rintro e w' ⟨rfl, rfl⟩) | (go_at_call 110; with_reducible refine (between_is _ _ _ _ h5 _).mono ?_; rintro e w' ⟨rfl, rfl⟩) | (go_at_call 110; with_reducible refine (between_is _ _ _ _ h6 _).mono ?_; rintro e w' ⟨rfl, rfl⟩))
  go_ret
  exact ⟨ret_bool (by simp [pigB, h1, h2, h3, h5, h6]; omega), rfl⟩

theorem validPig_is (P t a c m : Int) (b : Bool) (h : pigB P t a c m = b) (w : World) :
    Calls Try.prog 100 #[.agg #[.int .i64 P, .int .i64 t, .int .i64 a, .int .i64 c, .int .i64 m]] w fun e w' => e = .returned (.bool b) ∧ w.alloc (.cells #[.int .i64 P, .int .i64 t, .int .i64 a, .int .i64 c, .int .i64 m] 70) = w' := h ▸ validPig_any P t a c m w

theorem poundsOf_any (P t a c m : Int) (w : World) :
    Calls Try.prog 87 #[.agg #[.int .i64 P, .int .i64 t, .int .i64 a, .int .i64 c, .int .i64 m]] w fun e w' => e = .returned (.int .i64 P) ∧ w.alloc (.cells #[.int .i64 P, .int .i64 t, .int .i64 a, .int .i64 c, .int .i64 m] 70) = w' := by
  go_enter Try.func87, Try.ntmps87
  go_wp2
  go_ret
  exact ⟨rfl, rfl⟩

theorem tinOf_any (P t a c m : Int) (w : World) :
    Calls Try.prog 90 #[.agg #[.int .i64 P, .int .i64 t, .int .i64 a, .int .i64 c, .int .i64 m]] w fun e w' => e = .returned (.int .i64 t) ∧ w.alloc (.cells #[.int .i64 P, .int .i64 t, .int .i64 a, .int .i64 c, .int .i64 m] 70) = w' := by
  go_enter Try.func90, Try.ntmps90
  go_wp2
  go_ret
  exact ⟨rfl, rfl⟩

theorem antimonyOf_any (P t a c m : Int) (w : World) :
    Calls Try.prog 97 #[.agg #[.int .i64 P, .int .i64 t, .int .i64 a, .int .i64 c, .int .i64 m]] w fun e w' => e = .returned (.int .i64 a) ∧ w.alloc (.cells #[.int .i64 P, .int .i64 t, .int .i64 a, .int .i64 c, .int .i64 m] 70) = w' := by
  go_enter Try.func97, Try.ntmps97
  go_wp2
  go_ret
  exact ⟨rfl, rfl⟩

theorem penceOf_any (P t a c m : Int) (w : World) :
    Calls Try.prog 85 #[.agg #[.int .i64 P, .int .i64 t, .int .i64 a, .int .i64 c, .int .i64 m]] w fun e w' => e = .returned (.int .i64 c) ∧ w.alloc (.cells #[.int .i64 P, .int .i64 t, .int .i64 a, .int .i64 c, .int .i64 m] 70) = w' := by
  go_enter Try.func85, Try.ntmps85
  go_wp2
  go_ret
  exact ⟨rfl, rfl⟩

theorem validPot_is (P tl th al ah : Int) (b : Bool) (h : potB P tl th al ah = b) (w : World) :
    Calls Try.prog 92 #[.agg #[.int .i64 P, .int .i64 tl, .int .i64 th, .int .i64 al, .int .i64 ah]] w fun e w' => e = .returned (.bool b) ∧ Below w.heap.size w w' := h ▸ validPot_any P tl th al ah w

/-- A number that adds up with another such one without a wrap. -/
def Fair (n : Int) : Prop := -1000000 ≤ n ∧ n ≤ 1000000

theorem moved_any (lo hi by' : Int) (w : World) (h1 : Fair lo) (h2 : Fair hi) (h3 : Fair by') :
    Calls Try.prog 96 #[.agg #[.int .i64 lo, .int .i64 hi], .int .i64 by'] w fun e w' => e = .returned (.agg #[.int .i64 (lo + by'), .int .i64 (hi + by')]) ∧ (w.alloc (.cells #[.int .i64 lo, .int .i64 hi] 23)).alloc (.cells #[.int .i64 (lo + by'), .int .i64 (hi + by')] 23) = w' := by
  obtain ⟨a1, a2⟩ := h1; obtain ⟨a3, a4⟩ := h2; obtain ⟨a5, a6⟩ := h3
  go_enter Try.func96, Try.ntmps96
  go_wp2
  exact bodyPost_ret (v := .agg #[.int .i64 (lo + by'), .int .i64 (hi + by')]) (by simp [results, Try.results96, go_sem]) rfl ⟨rfl, rfl⟩

def emptyB (lo hi : Int) : Bool := decide (hi < lo)
theorem empty_any (lo hi : Int) (w : World) :
    Calls Try.prog 103 #[.agg #[.int .i64 lo, .int .i64 hi]] w fun e w' => e = .returned (.bool (emptyB lo hi)) ∧ w.alloc (.cells #[.int .i64 lo, .int .i64 hi] 23) = w' := by
  go_enter Try.func103, Try.ntmps103
  go_wp2
  all_goals go_ret
  exact ⟨ret_bool rfl, rfl⟩
theorem empty_is (lo hi : Int) (b : Bool) (h : emptyB lo hi = b) (w : World) :
    Calls Try.prog 103 #[.agg #[.int .i64 lo, .int .i64 hi]] w fun e w' => e = .returned (.bool b) ∧ w.alloc (.cells #[.int .i64 lo, .int .i64 hi] 23) = w' := h ▸ empty_any lo hi w

def withinB (il ih ol oh : Int) : Bool := decide (ol ≤ il ∧ ih ≤ oh)
theorem within_any (il ih ol oh : Int) (w : World) :
    Calls Try.prog 102 #[.agg #[.int .i64 il, .int .i64 ih], .agg #[.int .i64 ol, .int .i64 oh]] w fun e w' => e = .returned (.bool (withinB il ih ol oh)) ∧ (w.alloc (.cells #[.int .i64 il, .int .i64 ih] 23)).alloc (.cells #[.int .i64 ol, .int .i64 oh] 23) = w' := by
  go_enter Try.func102, Try.ntmps102
  go_wp2
  all_goals (go_ret; refine ⟨ret_bool ?_, rfl⟩; rw [Bool.eq_iff_iff]; simp [withinB]; omega)
theorem within_is (il ih ol oh : Int) (b : Bool) (h : withinB il ih ol oh = b) (w : World) :
    Calls Try.prog 102 #[.agg #[.int .i64 il, .int .i64 ih], .agg #[.int .i64 ol, .int .i64 oh]] w fun e w' => e = .returned (.bool b) ∧ (w.alloc (.cells #[.int .i64 il, .int .i64 ih] 23)).alloc (.cells #[.int .i64 ol, .int .i64 oh] 23) = w' := h ▸ within_any il ih ol oh w

theorem ret_agg2 {a b c d : Int} (h : a = c) (k : b = d) : Ending.returned (.agg #[.int .i64 a, .int .i64 b]) = .returned (.agg #[.int .i64 c, .int .i64 d]) := by rw [h, k]
def maxI (a b : Int) : Int := if a ≤ b then b else a
def minI (a b : Int) : Int := if a ≤ b then a else b
theorem common_any (il ih ol oh : Int) (w : World) :
    Calls Try.prog 104 #[.agg #[.int .i64 il, .int .i64 ih], .agg #[.int .i64 ol, .int .i64 oh]] w fun e w' => e = .returned (.agg #[.int .i64 (maxI il ol), .int .i64 (minI ih oh)]) ∧ ((w.alloc (.cells #[.int .i64 il, .int .i64 ih] 23)).alloc (.cells #[.int .i64 ol, .int .i64 oh] 23)).alloc (.cells #[.int .i64 (maxI il ol), .int .i64 (minI ih oh)] 23) = w' := by
  rcases Int.lt_or_le il ol with k1 | k1 <;> rcases Int.lt_or_le oh ih with k2 | k2
  · go_enter Try.func104, Try.ntmps104
    go_wp2
    have e1 : ol = maxI il ol := by unfold maxI; split <;> omega
    have e2 : oh = minI ih oh := by unfold minI; split <;> omega
    exact bodyPost_ret (v := .agg #[.int .i64 ol, .int .i64 oh]) (by simp [results, Try.results104, go_sem]) rfl ⟨ret_agg2 e1 e2, by rw [← e1, ← e2]⟩
  · go_enter Try.func104, Try.ntmps104
    go_wp2
    have e1 : ol = maxI il ol := by unfold maxI; split <;> omega
    have e2 : ih = minI ih oh := by unfold minI; split <;> omega
    exact bodyPost_ret (v := .agg #[.int .i64 ol, .int .i64 ih]) (by simp [results, Try.results104, go_sem]) rfl ⟨ret_agg2 e1 e2, by rw [← e1, ← e2]⟩
  · go_enter Try.func104, Try.ntmps104
    go_wp2
    have e1 : il = maxI il ol := by unfold maxI; split <;> omega
    have e2 : oh = minI ih oh := by unfold minI; split <;> omega
    exact bodyPost_ret (v := .agg #[.int .i64 il, .int .i64 oh]) (by simp [results, Try.results104, go_sem]) rfl ⟨ret_agg2 e1 e2, by rw [← e1, ← e2]⟩
  · go_enter Try.func104, Try.ntmps104
    go_wp2
    have e1 : il = maxI il ol := by unfold maxI; split <;> omega
    have e2 : ih = minI ih oh := by unfold minI; split <;> omega
    exact bodyPost_ret (v := .agg #[.int .i64 il, .int .i64 ih]) (by simp [results, Try.results104, go_sem]) rfl ⟨ret_agg2 e1 e2, by rw [← e1, ← e2]⟩

theorem bd_mul (p x : Int) (h1 : 0 ≤ p ∧ p ≤ 2000) (h2 : 0 ≤ x ∧ x ≤ 1000) : 0 ≤ p * x ∧ p * x ≤ 2000000 :=
  ⟨Int.mul_nonneg h1.1 h2.1, Int.le_trans (Int.mul_le_mul h1.2 h2.2 h2.1 (by omega)) (by decide)⟩
def allowLo (p lo : Int) : Int := (p * lo + 1000 - 1) / 1000
def allowHi (p hi : Int) : Int := p * hi / 1000
set_option maxHeartbeats 400000 in
theorem allowed_any (p lo hi : Int) (w : World) (h1 : 0 ≤ p ∧ p ≤ 2000) (h2 : 0 ≤ lo ∧ lo ≤ 1000) (h3 : 0 ≤ hi ∧ hi ≤ 1000) :
    Calls Try.prog 101 #[.int .i64 p, .agg #[.int .i64 lo, .int .i64 hi]] w fun e w' => e = .returned (.agg #[.int .i64 (allowLo p lo), .int .i64 (allowHi p hi)]) ∧ (w.alloc (.cells #[.int .i64 lo, .int .i64 hi] 23)).alloc (.cells #[.int .i64 (allowLo p lo), .int .i64 (allowHi p hi)] 23) = w' := by
  obtain ⟨m1, m2⟩ := bd_mul p lo h1 h2
  obtain ⟨m3, m4⟩ := bd_mul p hi h1 h3
  go_enter Try.func101, Try.ntmps101
  go_wp2
  exact bodyPost_ret (v := .agg #[.int .i64 ((p * lo + 1000 - 1) / 1000), .int .i64 (p * hi / 1000)]) (by simp [results, Try.results101, go_sem]) rfl ⟨rfl, rfl⟩

end Go.Proofs.Ytajabapcmpmboaa

/- A shop of package metal is valid, or is not. -/
namespace Go.Proofs.Ytajabapcmpmboaa
set_option linter.unusedVariables false
set_option linter.unusedSimpArgs false
open Go.RowKit

structure Pig where
  P : Int
  t : Int
  a : Int
  c : Int
  m : Int
structure Shop where
  P : Int
  tl : Int
  th : Int
  al : Int
  ah : Int
  room : Int
  xl : Int
  xh : Int
  yl : Int
  yh : Int
  pigs : List Pig

def Pig.ok (p : Pig) : Bool := pigB p.P p.t p.a p.c p.m
def Pig.at (w : World) (b o : Nat) (p : Pig) : Prop :=
  w.cell? ⟨b, o, none⟩ = some (.int .i64 p.P) ∧ w.cell? ⟨b, o + 1, none⟩ = some (.int .i64 p.t) ∧ w.cell? ⟨b, o + 2, none⟩ = some (.int .i64 p.a) ∧ w.cell? ⟨b, o + 3, none⟩ = some (.int .i64 p.c) ∧ w.cell? ⟨b, o + 4, none⟩ = some (.int .i64 p.m)
/-- A slice of pigs reads as a list. -/
def PigsAt (w : World) (a : Option Addr) (len : Nat) (ps : List Pig) : Prop :=
  ps.length = len ∧ len ≤ maxLen ∧ (0 < len → ∃ b o, a = some ⟨b, o, none⟩ ∧ b < w.heap.size ∧ ∀ i (h : i < ps.length), (ps[i]).at w b (o + i * 5))
def Shop.okH (s : Shop) : Bool := potB s.P s.tl s.th s.al s.ah && decide (s.P ≤ s.room) && decide (s.room ≤ 999) && spanB s.xl s.xh 1000 && spanB s.yl s.yh 1000 && decide (s.pigs.length ≤ 4)
def Shop.ok (s : Shop) : Bool := s.okH && s.pigs.all Pig.ok

theorem Pig.at_below {w w1 : World} {b o : Nat} {p : Pig} {B : Nat} (hb : Below B w w1) (hB : b < B) (h : p.at w b o) : p.at w1 b o := by
  obtain ⟨h0, h1, h2, h3, h4⟩ := h
  exact ⟨(hb.cell (p := ⟨b, _, none⟩) hB).trans h0, (hb.cell (p := ⟨b, _, none⟩) hB).trans h1, (hb.cell (p := ⟨b, _, none⟩) hB).trans h2, (hb.cell (p := ⟨b, _, none⟩) hB).trans h3, (hb.cell (p := ⟨b, _, none⟩) hB).trans h4⟩
theorem PigsAt.below {w w1 : World} {a : Option Addr} {len : Nat} {ps : List Pig} (hb : Below w.heap.size w w1) (h : PigsAt w a len ps) : PigsAt w1 a len ps := by
  obtain ⟨h1, h2, h3⟩ := h
  refine ⟨h1, h2, fun hl => ?_⟩
  obtain ⟨b, o, ha, hB, hc⟩ := h3 hl
  exact ⟨b, o, ha, Nat.lt_of_lt_of_le hB hb.size, fun i hi => Pig.at_below hb hB (hc i hi)⟩

/-- A pot that has been looked at, and blocks behind it. -/
theorem below_pot {w w1 w2 : World} {o : Obj} (hb : Below (w.alloc o).heap.size (w.alloc o) w1) (h : Below w.heap.size w1 w2) : Below w.heap.size w w2 :=
  (((Below.refl _ w).alloc (Nat.le_refl _) o).trans (hb.mono (by simp))).trans h

set_option maxHeartbeats 400000 in
theorem valid_no (s : Shop) (a : Option Addr) (len cap : Nat) (w : World) (hl : s.pigs.length = len) (hno : s.okH = false) :
    Calls Try.prog 71 #[.agg #[.int .i64 s.P, .int .i64 s.tl, .int .i64 s.th, .int .i64 s.al, .int .i64 s.ah, .int .i64 s.room, .int .i64 s.xl, .int .i64 s.xh, .int .i64 s.yl, .int .i64 s.yh, .slice a len cap]] w fun e w' => e = .returned (.bool s.ok) ∧ Below w.heap.size w w' := by
  have HS := Lib.hid (show s.ok = false by simp [Shop.ok, hno])
  rcases h1 : potB s.P s.tl s.th s.al s.ah with - | -
  · go_enter Try.func71, Try.ntmps71
    go_wp2_with (first | (go_at_call 92; with_reducible refine (validPot_is _ _ _ _ _ _ h1 _).mono ?_; rintro e w1 ⟨rfl, hb1⟩; obtain ⟨hc1, hf1⟩ := bcell hb1; have hz1 : w.heap.size < w1.heap.size := (by have := hb1.size; simp at this; omega)))
    go_ret
    exact ⟨ret_bool HS.out.symm, below_pot hb1 (by repeat (first | exact Below.refl _ _ | (refine Below.alloc ?_ (by first | omega | (simp; omega) | simp) _)))⟩
  rcases Int.lt_or_le s.room s.P with k2 | k2
  · have j2 : ¬ s.P ≤ s.room := by omega
    go_enter Try.func71, Try.ntmps71
    go_wp2_with (first | (go_at_call 92; with_reducible refine (validPot_is _ _ _ _ _ _ h1 _).mono ?_; rintro e w1 ⟨rfl, hb1⟩; obtain ⟨hc1, hf1⟩ := bcell hb1; have hz1 : w.heap.size < w1.heap.size := (by have := hb1.size; simp at this; omega)))
    go_ret
    exact ⟨ret_bool HS.out.symm, below_pot hb1 (by repeat (first | exact Below.refl _ _ | (refine Below.alloc ?_ (by first | omega | (simp; omega) | simp) _)))⟩
  rcases Int.lt_or_le 999 s.room with k3 | k3
  · have j3 : ¬ s.room ≤ 999 := by omega
    go_enter Try.func71, Try.ntmps71
    go_wp2_with (first | (go_at_call 92; with_reducible refine (validPot_is _ _ _ _ _ _ h1 _).mono ?_; rintro e w1 ⟨rfl, hb1⟩; obtain ⟨hc1, hf1⟩ := bcell hb1; have hz1 : w.heap.size < w1.heap.size := (by have := hb1.size; simp at this; omega)))
    go_ret
    exact ⟨ret_bool HS.out.symm, below_pot hb1 (by repeat (first | exact Below.refl _ _ | (refine Below.alloc ?_ (by first | omega | (simp; omega) | simp) _)))⟩
  rcases h4 : spanB s.xl s.xh 1000 with - | -
  · go_enter Try.func71, Try.ntmps71
    go_wp2_with (first | (go_at_call 92; with_reducible refine (validPot_is _ _ _ _ _ _ h1 _).mono ?_; rintro e w1 ⟨rfl, hb1⟩; obtain ⟨hc1, hf1⟩ := bcell hb1; have hz1 : w.heap.size < w1.heap.size := (by have := hb1.size; simp at this; omega)) | (go_at_call 99; with_reducible refine (validSpan_is _ _ _ _ h4 _).mono ?_; rintro e w2 ⟨rfl, rfl⟩))
    go_ret
    exact ⟨ret_bool HS.out.symm, below_pot hb1 (by repeat (first | exact Below.refl _ _ | (refine Below.alloc ?_ (by first | omega | (simp; omega) | simp) _)))⟩
  rcases h5 : spanB s.yl s.yh 1000 with - | -
  · go_enter Try.func71, Try.ntmps71
    go_wp2_with (first | (go_at_call 92; with_reducible refine (validPot_is _ _ _ _ _ _ h1 _).mono ?_; rintro e w1 ⟨rfl, hb1⟩; obtain ⟨hc1, hf1⟩ := bcell hb1; have hz1 : w.heap.size < w1.heap.size := (by have := hb1.size; simp at this; omega)) | (go_at_call 99; with_reducible refine (validSpan_is _ _ _ _ h4 _).mono ?_; rintro e w2 ⟨rfl, rfl⟩) | (go_at_call 99; with_reducible refine (validSpan_is _ _ _ _ h5 _).mono ?_; rintro e w3 ⟨rfl, rfl⟩))
    go_ret
    exact ⟨ret_bool HS.out.symm, below_pot hb1 (by repeat (first | exact Below.refl _ _ | (refine Below.alloc ?_ (by first | omega | (simp; omega) | simp) _)))⟩
  rcases Nat.lt_or_ge 4 len with k6 | k6
  · have j6 : ¬ s.pigs.length ≤ 4 := by omega
    go_enter Try.func71, Try.ntmps71
    go_wp2_with (first | (go_at_call 92; with_reducible refine (validPot_is _ _ _ _ _ _ h1 _).mono ?_; rintro e w1 ⟨rfl, hb1⟩; obtain ⟨hc1, hf1⟩ := bcell hb1; have hz1 : w.heap.size < w1.heap.size := (by have := hb1.size; simp at this; omega)) | (go_at_call 99; with_reducible refine (validSpan_is _ _ _ _ h4 _).mono ?_; rintro e w2 ⟨rfl, rfl⟩) | (go_at_call 99; with_reducible refine (validSpan_is _ _ _ _ h5 _).mono ?_; rintro e w3 ⟨rfl, rfl⟩))
    go_ret
    exact ⟨ret_bool HS.out.symm, below_pot hb1 (by repeat (first | exact Below.refl _ _ | (refine Below.alloc ?_ (by first | omega | (simp; omega) | simp) _)))⟩
  · exfalso; have j6 : s.pigs.length ≤ 4 := by omega
    simp [Shop.okH, h1, h4, h5, j6] at hno; omega

set_option maxHeartbeats 400000 in
theorem valid_yes (s : Shop) (a : Option Addr) (len cap : Nat) (w : World) (hp : PigsAt w a len s.pigs) (hyes : s.okH = true) :
    Calls Try.prog 71 #[.agg #[.int .i64 s.P, .int .i64 s.tl, .int .i64 s.th, .int .i64 s.al, .int .i64 s.ah, .int .i64 s.room, .int .i64 s.xl, .int .i64 s.xh, .int .i64 s.yl, .int .i64 s.yh, .slice a len cap]] w fun e w' => e = .returned (.bool s.ok) ∧ Below w.heap.size w w' := by
  have hh := hyes
  simp only [Shop.okH, Bool.and_eq_true, decide_eq_true_eq] at hh
  obtain ⟨⟨⟨⟨⟨h1, k2⟩, k3⟩, h4⟩, h5⟩, k6⟩ := hh
  obtain ⟨hl, hm, hc⟩ := hp
  rw [hl] at k6
  have HO := Lib.hid hyes; clear hyes
  rcases Nat.eq_zero_or_pos len with h0 | h0
  · subst h0
    have hs : s.pigs = [] := List.length_eq_zero_iff.1 hl
    have HS := Lib.hid (show s.ok = true by simp [Shop.ok, HO.out, hs]); clear hs hl hc
    go_enter Try.func71, Try.ntmps71
    go_wp2_with (first | (go_at_call 92; with_reducible refine (validPot_is _ _ _ _ _ _ h1 _).mono ?_; rintro e w1 ⟨rfl, hb1⟩; obtain ⟨hc1, hf1⟩ := bcell hb1; have hz1 : w.heap.size < w1.heap.size := (by have := hb1.size; simp at this; omega)) | (go_at_call 99; with_reducible refine (validSpan_is _ _ _ _ h4 _).mono ?_; rintro e w2 ⟨rfl, rfl⟩) | (go_at_call 99; with_reducible refine (validSpan_is _ _ _ _ h5 _).mono ?_; rintro e w3 ⟨rfl, rfl⟩))
    go_loopw [47] (fun i wr => i = .int .i64 0 ∧ Below w.heap.size w wr) (fun _ _ => 0)
    case atStart => exact ⟨rfl, below_pot hb1 (by repeat (first | exact Below.refl _ _ | (refine Below.alloc ?_ (by first | omega | (simp; omega) | simp) _) | (refine Below.setCell ?_ (by first | omega | (simp; omega) | simp) _) | refine Below.drew ?_))⟩
    case round =>
      obtain ⟨rfl, hB⟩ := hrel
      go_wp2
      go_ret
      exact ⟨ret_bool HS.out.symm, hB⟩
  · obtain ⟨b, o, rfl, hbB, hcell⟩ := hc h0
    have HL := Lib.hid hl; clear hl hc
    go_enter Try.func71, Try.ntmps71
    go_wp2_with (first | (go_at_call 92; with_reducible refine (validPot_is _ _ _ _ _ _ h1 _).mono ?_; rintro e w1 ⟨rfl, hb1⟩; obtain ⟨hc1, hf1⟩ := bcell hb1; have hz1 : w.heap.size < w1.heap.size := (by have := hb1.size; simp at this; omega)) | (go_at_call 99; with_reducible refine (validSpan_is _ _ _ _ h4 _).mono ?_; rintro e w2 ⟨rfl, rfl⟩) | (go_at_call 99; with_reducible refine (validSpan_is _ _ _ _ h5 _).mono ?_; rintro e w3 ⟨rfl, rfl⟩))
    go_loopw [47] (fun i wr => ∃ k : Nat, k ≤ len ∧ i = .int .i64 k ∧ (s.pigs.take k).all Pig.ok = true ∧ Below w.heap.size w wr) (fun i _ => len - (intOf i).toNat)
    case atStart => exact ⟨0, by omega, rfl, by simp, below_pot hb1 (by repeat (first | exact Below.refl _ _ | (refine Below.alloc ?_ (by first | omega | (simp; omega) | simp) _) | (refine Below.setCell ?_ (by first | omega | (simp; omega) | simp) _) | refine Below.drew ?_))⟩
    case round =>
      obtain ⟨k, hk, rfl, hall, hB⟩ := hrel
      have HA := Lib.hid hall; clear hall
      by_cases hlt : k < len
      · have hk2 : k < s.pigs.length := by rw [HL.out]; exact hlt
        obtain ⟨c0, c1, c2, c3, c4⟩ := Pig.at_below hB hbB (hcell k hk2)
        have HT := Lib.hid (List.take_succ_eq_append_getElem hk2)
        have HG := Lib.hid (show s.pigs[k] ∈ s.pigs from List.getElem_mem hk2)
        generalize s.pigs[k] = p at c0 c1 c2 c3 c4 HT HG
        have hz := hB.size
        rcases hpig : pigB p.P p.t p.a p.c p.m with - | -
        · go_wp2_with (go_at_call 100; with_reducible refine (validPig_is _ _ _ _ _ _ hpig _).mono ?_; rintro e w4 ⟨rfl, rfl⟩)
          go_ret
          refine ⟨ret_bool ?_, hB.trans (by repeat (first | exact Below.refl _ _ | (refine Below.alloc ?_ (by first | omega | (simp; omega) | simp) _) | (refine Below.setCell ?_ (by first | omega | (simp; omega) | simp) _) | refine Below.drew ?_))⟩
          rw [Shop.ok, HO.out, Bool.true_and, eq_comm, List.all_eq_false]
          exact ⟨p, HG.out, by simp [Pig.ok, hpig]⟩
        · go_wp2_with (go_at_call 100; with_reducible refine (validPig_is _ _ _ _ _ _ hpig _).mono ?_; rintro e w4 ⟨rfl, rfl⟩)
          go_roundw
          case rel => exact ⟨k + 1, by omega, by go_num, by rw [HT.out, List.all_append, HA.out]; simp [Pig.ok, hpig], hB.trans (by repeat (first | exact Below.refl _ _ | (refine Below.alloc ?_ (by first | omega | (simp; omega) | simp) _) | (refine Below.setCell ?_ (by first | omega | (simp; omega) | simp) _) | refine Below.drew ?_))⟩
          case measure => simp [intOf]; omega
      · have hk' : k = len := by omega
        subst hk'
        go_wp2
        go_ret
        exact ⟨ret_bool (by rw [List.take_of_length_le (by rw [HL.out]; omega)] at HA; simp [Shop.ok, HO.out, HA.out]), hB⟩
theorem valid_any (s : Shop) (a : Option Addr) (len cap : Nat) (w : World) (hp : PigsAt w a len s.pigs) :
    Calls Try.prog 71 #[.agg #[.int .i64 s.P, .int .i64 s.tl, .int .i64 s.th, .int .i64 s.al, .int .i64 s.ah, .int .i64 s.room, .int .i64 s.xl, .int .i64 s.xh, .int .i64 s.yl, .int .i64 s.yh, .slice a len cap]] w fun e w' => e = .returned (.bool s.ok) ∧ Below w.heap.size w w' := by
  rcases h : s.okH with - | -
  · exact valid_no s a len cap w hp.1 h
  · exact valid_yes s a len cap w hp h
theorem valid_is (s : Shop) (a : Option Addr) (len cap : Nat) (b : Bool) (h : s.ok = b) (w : World) (hp : PigsAt w a len s.pigs) :
    Calls Try.prog 71 #[.agg #[.int .i64 s.P, .int .i64 s.tl, .int .i64 s.th, .int .i64 s.al, .int .i64 s.ah, .int .i64 s.room, .int .i64 s.xl, .int .i64 s.xh, .int .i64 s.yl, .int .i64 s.yh, .slice a len cap]] w fun e w' => e = .returned (.bool b) ∧ Below w.heap.size w w' := h ▸ valid_any s a len cap w hp

theorem ret_i64 {a b : Int} (h : a = b) : Ending.returned (.int .i64 a) = .returned (.int .i64 b) := by rw [h]
theorem below_one {w w1 : World} {o : Obj} (hb : Below (w.alloc o).heap.size (w.alloc o) w1) : Below w.heap.size w w1 := below_pot hb (Below.refl _ _)
/-- Check: OK or ErrMetal. -/
theorem Check_any (s : Shop) (a : Option Addr) (len cap : Nat) (w : World) (hp : PigsAt w a len s.pigs) :
    Calls Try.prog 20 #[.agg #[.int .i64 s.P, .int .i64 s.tl, .int .i64 s.th, .int .i64 s.al, .int .i64 s.ah, .int .i64 s.room, .int .i64 s.xl, .int .i64 s.xh, .int .i64 s.yl, .int .i64 s.yh, .slice a len cap]] w fun e w' => e = .returned (.int .i64 (if s.ok then 0 else 10)) ∧ Below w.heap.size w w' := by
  rcases h : s.ok with - | -
  · go_enter Try.func20, Try.ntmps20
    go_wp2_with (go_at_call 71; with_reducible refine (valid_is _ _ _ _ _ h _ (hp.below (by repeat (first | exact Below.refl _ _ | (refine Below.alloc ?_ (by first | omega | (simp; omega) | simp) _) | (refine Below.setCell ?_ (by first | omega | (simp; omega) | simp) _) | refine Below.drew ?_)))).mono ?_; rintro e w1 ⟨rfl, hb1⟩)
    go_ret
    exact ⟨ret_i64 (by simp), below_one hb1⟩
  · go_enter Try.func20, Try.ntmps20
    go_wp2_with (go_at_call 71; with_reducible refine (valid_is _ _ _ _ _ h _ (hp.below (by repeat (first | exact Below.refl _ _ | (refine Below.alloc ?_ (by first | omega | (simp; omega) | simp) _) | (refine Below.setCell ?_ (by first | omega | (simp; omega) | simp) _) | refine Below.drew ?_)))).mono ?_; rintro e w1 ⟨rfl, hb1⟩)
    go_ret
    exact ⟨ret_i64 (by simp), below_one hb1⟩
end Go.Proofs.Ytajabapcmpmboaa

/- Additions of package metal: their sums, whether they have room, whether they are any. -/
namespace Go.Proofs.Ytajabapcmpmboaa
set_option linter.unusedVariables false
set_option linter.unusedSimpArgs false
open Go.RowKit

/-- A slice of numbers reads as a list. -/
def IntsAt (w : World) (a : Option Addr) (len : Nat) (xs : List Int) : Prop :=
  xs.length = len ∧ len ≤ maxLen ∧ (0 < len → ∃ b o, a = some ⟨b, o, none⟩ ∧ b < w.heap.size ∧ ∀ i (h : i < xs.length), w.cell? ⟨b, o + i, none⟩ = some (.int .i64 xs[i]))
theorem IntsAt.below {w w1 : World} {a : Option Addr} {len : Nat} {xs : List Int} (hb : Below w.heap.size w w1) (h : IntsAt w a len xs) : IntsAt w1 a len xs := by
  obtain ⟨h1, h2, h3⟩ := h
  refine ⟨h1, h2, fun hl => ?_⟩
  obtain ⟨b, o, ha, hB, hc⟩ := h3 hl
  exact ⟨b, o, ha, Nat.lt_of_lt_of_le hB hb.size, fun i hi => (hb.cell (p := ⟨b, _, none⟩) hB).trans (hc i hi)⟩

theorem cell_more {W : World} {a : Addr} {v : Value} (o : Obj) (h : W.cell? a = some v) : (W.alloc o).cell? a = some v :=
  ((Below.refl W.heap.size W).alloc (Nat.le_refl _) o).cell (World.block_lt_of_cell? W a h) |>.trans h

/-- What is asked of each pig, for all pigs of an addition. -/
def tot (f : Pig → Int) (ps : List Pig) (ns : List Int) : Int := ((ps.zip ns).map fun x => x.2 * f x.1).sum
theorem tot_nil (f : Pig → Int) (ns : List Int) : tot f [] ns = 0 := by simp [tot]
theorem tot_nil' (f : Pig → Int) (ps : List Pig) : tot f ps [] = 0 := by simp [tot]
theorem tot_cons (f : Pig → Int) (p : Pig) (ps : List Pig) (n : Int) (ns : List Int) : tot f (p :: ps) (n :: ns) = n * f p + tot f ps ns := by simp [tot]
theorem tot_snoc (f : Pig → Int) (ps : List Pig) (ns : List Int) (k : Nat) (h : k < ps.length) (h' : k < ns.length) :
    tot f (ps.take (k + 1)) (ns.take (k + 1)) = tot f (ps.take k) (ns.take k) + ns[k] * f ps[k] := by
  induction ps generalizing ns k with
  | nil => simp at h
  | cons p ps ih =>
    cases ns with
    | nil => simp at h'
    | cons n ns =>
      cases k with
      | zero => simp [tot_cons, tot_nil]
      | succ k =>
        have := ih ns k (by simpa using h) (by simpa using h')
        simp only [List.take_succ_cons, tot_cons, List.getElem_cons_succ]
        omega
/-- Each number is of a valid pig, and from 0 to its Many. -/
def Few (ps : List Pig) (ns : List Int) : Prop := ∀ (k : Nat) (h : k < ps.length) (h' : k < ns.length), (ps[k]).ok = true ∧ 0 ≤ ns[k] ∧ ns[k] ≤ (ps[k]).m
theorem Pig.ok_bd {p : Pig} (h : p.ok = true) : 1 ≤ p.P ∧ p.P ≤ 40 ∧ 0 ≤ p.t ∧ 0 ≤ p.a ∧ p.t + p.a ≤ p.P ∧ 0 ≤ p.c ∧ p.c ≤ 99 ∧ 0 ≤ p.m ∧ p.m ≤ 5 := by
  simp [Pig.ok, pigB, btw] at h; omega
theorem mul_bd {n f : Int} (h1 : 0 ≤ n ∧ n ≤ 5) (h2 : 0 ≤ f ∧ f ≤ 99) : 0 ≤ n * f ∧ n * f ≤ 500 :=
  ⟨Int.mul_nonneg h1.1 h2.1, Int.le_trans (Int.mul_le_mul h1.2 h2.2 h2.1 (by omega)) (by decide)⟩
theorem tot_bd (f : Pig → Int) (hf : ∀ p : Pig, p.ok = true → 0 ≤ f p ∧ f p ≤ 99) (ps : List Pig) (ns : List Int) (h : Few ps ns) (k : Nat) (hk : k ≤ ps.length) (hk' : k ≤ ns.length) :
    0 ≤ tot f (ps.take k) (ns.take k) ∧ tot f (ps.take k) (ns.take k) ≤ 500 * k := by
  induction k with
  | zero => simp [tot]
  | succ k ih =>
    obtain ⟨i1, i2⟩ := ih (by omega) (by omega)
    obtain ⟨a1, a2, a3⟩ := h k (by omega) (by omega)
    have := Pig.ok_bd a1
    have := mul_bd (f := f ps[k]) ⟨a2, by omega⟩ (hf _ a1)
    rw [tot_snoc f ps ns k (by omega) (by omega)]
    omega
theorem bd_pounds (p : Pig) (h : p.ok = true) : 0 ≤ p.P ∧ p.P ≤ 99 := by have := Pig.ok_bd h; omega
set_option maxHeartbeats 400000 in
theorem total_pounds (s : Shop) (a : Option Addr) (cap : Nat) (x : Option Addr) (len xcap : Nat) (ns : List Int) (w : World) (hp : PigsAt w a len s.pigs) (hx : IntsAt w x len ns) (hl4 : len ≤ 4) (hf : Few s.pigs ns) :
    Calls Try.prog 84 #[.agg #[.int .i64 s.P, .int .i64 s.tl, .int .i64 s.th, .int .i64 s.al, .int .i64 s.ah, .int .i64 s.room, .int .i64 s.xl, .int .i64 s.xh, .int .i64 s.yl, .int .i64 s.yh, .slice a len cap], .slice x len xcap, .func (.func 87) #[] #[]] w fun e w' => e = .returned (.int .i64 (tot Pig.P s.pigs ns)) ∧ Below w.heap.size w w' := by
  obtain ⟨hl, hm, hc⟩ := hp
  obtain ⟨hxl, _, hxc⟩ := hx
  have hbd := tot_bd Pig.P bd_pounds s.pigs ns hf
  rcases Nat.eq_zero_or_pos len with h0 | h0
  · subst h0
    have hs : s.pigs = [] := List.length_eq_zero_iff.1 hl
    have HS := Lib.hid (show tot Pig.P s.pigs ns = 0 by simp [hs, tot_nil]); clear hs hl hc hxl hxc hbd
    go_enter Try.func84, Try.ntmps84
    go_wp2
    go_loopw [7, 12] (fun n i wr => n = .int .i64 0 ∧ i = .int .i64 0 ∧ Below w.heap.size w wr) (fun _ _ _ => 0)
    case atStart => exact ⟨rfl, rfl, (by repeat (first | exact Below.refl _ _ | (refine Below.alloc ?_ (by first | omega | (simp; omega) | simp) _) | (refine Below.setCell ?_ (by first | omega | (simp; omega) | simp) _) | refine Below.drew ?_))⟩
    case round =>
      obtain ⟨rfl, rfl, hB⟩ := hrel
      go_wp2
      go_ret
      exact ⟨ret_i64 HS.out.symm, hB⟩
  · obtain ⟨b, o, rfl, hbB, hcell⟩ := hc h0
    obtain ⟨xb, xo, rfl, hxB, hxcell⟩ := hxc h0
    have HL := Lib.hid hl; clear hl hc
    have HX := Lib.hid hxl; clear hxl hxc
    have HB := Lib.hid hbd; clear hbd
    go_enter Try.func84, Try.ntmps84
    go_wp2
    go_loopw [7, 12] (fun n i wr => ∃ k : Nat, k ≤ len ∧ i = .int .i64 k ∧ n = .int .i64 (tot Pig.P (s.pigs.take k) (ns.take k)) ∧ Below w.heap.size w wr ∧ wr.cell? ⟨w.heap.size, 10, none⟩ = some (.slice (some ⟨b, o, none⟩) len cap)) (fun _ i _ => len - (intOf i).toNat)
    case atStart => exact ⟨0, by omega, rfl, by simp [tot_nil], (by repeat (first | exact Below.refl _ _ | (refine Below.alloc ?_ (by first | omega | (simp; omega) | simp) _) | (refine Below.setCell ?_ (by first | omega | (simp; omega) | simp) _) | refine Below.drew ?_)), by simp⟩
    case round =>
      obtain ⟨k, hk, rfl, rfl, hB, hbox⟩ := hrel
      have hz := hB.size
      by_cases hlt : k < len
      · have hk2 : k < s.pigs.length := by rw [HL.out]; exact hlt
        have hk3 : k < ns.length := by rw [HX.out]; exact hlt
        obtain ⟨c0, c1, c2, c3, c4⟩ := Pig.at_below hB hbB (hcell k hk2)
        have cx := (hB.cell (p := ⟨xb, _, none⟩) hxB).trans (hxcell k hk3)
        obtain ⟨f1, f2, f3⟩ := hf k hk2 hk3
        have f4 := Pig.ok_bd f1
        have f5 := mul_bd (f := (s.pigs[k]).P) ⟨f2, by omega⟩ (bd_pounds _ f1)
        obtain ⟨g1, g2⟩ := HB.out k (by omega) (by omega)
        have HT := Lib.hid (tot_snoc Pig.P s.pigs ns k hk2 hk3)
        have hq : k < 4 := by omega
        clear f1 f4
        generalize s.pigs[k] = p at *
        generalize ns[k] = n at *
        generalize tot Pig.P (s.pigs.take k) (ns.take k) = t at *
        obtain ⟨f5, f6⟩ := f5
        go_wp2_with (go_at_call 87; with_reducible refine (poundsOf_any _ _ _ _ _ _).mono ?_; rintro e w4 ⟨rfl, rfl⟩)
        go_roundw
        case rel => exact ⟨k + 1, by omega, by go_num, by rw [HT.out], hB.trans (by repeat (first | exact Below.refl _ _ | (refine Below.alloc ?_ (by first | omega | (simp; omega) | simp) _) | (refine Below.setCell ?_ (by first | omega | (simp; omega) | simp) _) | refine Below.drew ?_)), cell_more _ hbox⟩
        case measure => simp [intOf]; omega
      · have hk' : k = len := by omega
        subst hk'
        go_wp2
        go_ret
        exact ⟨ret_i64 (by rw [List.take_of_length_le (by rw [HL.out]; omega), List.take_of_length_le (by rw [HX.out]; omega)]), hB⟩
theorem bd_tin (p : Pig) (h : p.ok = true) : 0 ≤ p.t ∧ p.t ≤ 99 := by have := Pig.ok_bd h; omega
set_option maxHeartbeats 400000 in
theorem total_tin (s : Shop) (a : Option Addr) (cap : Nat) (x : Option Addr) (len xcap : Nat) (ns : List Int) (w : World) (hp : PigsAt w a len s.pigs) (hx : IntsAt w x len ns) (hl4 : len ≤ 4) (hf : Few s.pigs ns) :
    Calls Try.prog 84 #[.agg #[.int .i64 s.P, .int .i64 s.tl, .int .i64 s.th, .int .i64 s.al, .int .i64 s.ah, .int .i64 s.room, .int .i64 s.xl, .int .i64 s.xh, .int .i64 s.yl, .int .i64 s.yh, .slice a len cap], .slice x len xcap, .func (.func 90) #[] #[]] w fun e w' => e = .returned (.int .i64 (tot Pig.t s.pigs ns)) ∧ Below w.heap.size w w' := by
  obtain ⟨hl, hm, hc⟩ := hp
  obtain ⟨hxl, _, hxc⟩ := hx
  have hbd := tot_bd Pig.t bd_tin s.pigs ns hf
  rcases Nat.eq_zero_or_pos len with h0 | h0
  · subst h0
    have hs : s.pigs = [] := List.length_eq_zero_iff.1 hl
    have HS := Lib.hid (show tot Pig.t s.pigs ns = 0 by simp [hs, tot_nil]); clear hs hl hc hxl hxc hbd
    go_enter Try.func84, Try.ntmps84
    go_wp2
    go_loopw [7, 12] (fun n i wr => n = .int .i64 0 ∧ i = .int .i64 0 ∧ Below w.heap.size w wr) (fun _ _ _ => 0)
    case atStart => exact ⟨rfl, rfl, (by repeat (first | exact Below.refl _ _ | (refine Below.alloc ?_ (by first | omega | (simp; omega) | simp) _) | (refine Below.setCell ?_ (by first | omega | (simp; omega) | simp) _) | refine Below.drew ?_))⟩
    case round =>
      obtain ⟨rfl, rfl, hB⟩ := hrel
      go_wp2
      go_ret
      exact ⟨ret_i64 HS.out.symm, hB⟩
  · obtain ⟨b, o, rfl, hbB, hcell⟩ := hc h0
    obtain ⟨xb, xo, rfl, hxB, hxcell⟩ := hxc h0
    have HL := Lib.hid hl; clear hl hc
    have HX := Lib.hid hxl; clear hxl hxc
    have HB := Lib.hid hbd; clear hbd
    go_enter Try.func84, Try.ntmps84
    go_wp2
    go_loopw [7, 12] (fun n i wr => ∃ k : Nat, k ≤ len ∧ i = .int .i64 k ∧ n = .int .i64 (tot Pig.t (s.pigs.take k) (ns.take k)) ∧ Below w.heap.size w wr ∧ wr.cell? ⟨w.heap.size, 10, none⟩ = some (.slice (some ⟨b, o, none⟩) len cap)) (fun _ i _ => len - (intOf i).toNat)
    case atStart => exact ⟨0, by omega, rfl, by simp [tot_nil], (by repeat (first | exact Below.refl _ _ | (refine Below.alloc ?_ (by first | omega | (simp; omega) | simp) _) | (refine Below.setCell ?_ (by first | omega | (simp; omega) | simp) _) | refine Below.drew ?_)), by simp⟩
    case round =>
      obtain ⟨k, hk, rfl, rfl, hB, hbox⟩ := hrel
      have hz := hB.size
      by_cases hlt : k < len
      · have hk2 : k < s.pigs.length := by rw [HL.out]; exact hlt
        have hk3 : k < ns.length := by rw [HX.out]; exact hlt
        obtain ⟨c0, c1, c2, c3, c4⟩ := Pig.at_below hB hbB (hcell k hk2)
        have cx := (hB.cell (p := ⟨xb, _, none⟩) hxB).trans (hxcell k hk3)
        obtain ⟨f1, f2, f3⟩ := hf k hk2 hk3
        have f4 := Pig.ok_bd f1
        have f5 := mul_bd (f := (s.pigs[k]).t) ⟨f2, by omega⟩ (bd_tin _ f1)
        obtain ⟨g1, g2⟩ := HB.out k (by omega) (by omega)
        have HT := Lib.hid (tot_snoc Pig.t s.pigs ns k hk2 hk3)
        have hq : k < 4 := by omega
        clear f1 f4
        generalize s.pigs[k] = p at *
        generalize ns[k] = n at *
        generalize tot Pig.t (s.pigs.take k) (ns.take k) = t at *
        obtain ⟨f5, f6⟩ := f5
        go_wp2_with (go_at_call 90; with_reducible refine (tinOf_any _ _ _ _ _ _).mono ?_; rintro e w4 ⟨rfl, rfl⟩)
        go_roundw
        case rel => exact ⟨k + 1, by omega, by go_num, by rw [HT.out], hB.trans (by repeat (first | exact Below.refl _ _ | (refine Below.alloc ?_ (by first | omega | (simp; omega) | simp) _) | (refine Below.setCell ?_ (by first | omega | (simp; omega) | simp) _) | refine Below.drew ?_)), cell_more _ hbox⟩
        case measure => simp [intOf]; omega
      · have hk' : k = len := by omega
        subst hk'
        go_wp2
        go_ret
        exact ⟨ret_i64 (by rw [List.take_of_length_le (by rw [HL.out]; omega), List.take_of_length_le (by rw [HX.out]; omega)]), hB⟩
theorem bd_antimony (p : Pig) (h : p.ok = true) : 0 ≤ p.a ∧ p.a ≤ 99 := by have := Pig.ok_bd h; omega
set_option maxHeartbeats 400000 in
theorem total_antimony (s : Shop) (a : Option Addr) (cap : Nat) (x : Option Addr) (len xcap : Nat) (ns : List Int) (w : World) (hp : PigsAt w a len s.pigs) (hx : IntsAt w x len ns) (hl4 : len ≤ 4) (hf : Few s.pigs ns) :
    Calls Try.prog 84 #[.agg #[.int .i64 s.P, .int .i64 s.tl, .int .i64 s.th, .int .i64 s.al, .int .i64 s.ah, .int .i64 s.room, .int .i64 s.xl, .int .i64 s.xh, .int .i64 s.yl, .int .i64 s.yh, .slice a len cap], .slice x len xcap, .func (.func 97) #[] #[]] w fun e w' => e = .returned (.int .i64 (tot Pig.a s.pigs ns)) ∧ Below w.heap.size w w' := by
  obtain ⟨hl, hm, hc⟩ := hp
  obtain ⟨hxl, _, hxc⟩ := hx
  have hbd := tot_bd Pig.a bd_antimony s.pigs ns hf
  rcases Nat.eq_zero_or_pos len with h0 | h0
  · subst h0
    have hs : s.pigs = [] := List.length_eq_zero_iff.1 hl
    have HS := Lib.hid (show tot Pig.a s.pigs ns = 0 by simp [hs, tot_nil]); clear hs hl hc hxl hxc hbd
    go_enter Try.func84, Try.ntmps84
    go_wp2
    go_loopw [7, 12] (fun n i wr => n = .int .i64 0 ∧ i = .int .i64 0 ∧ Below w.heap.size w wr) (fun _ _ _ => 0)
    case atStart => exact ⟨rfl, rfl, (by repeat (first | exact Below.refl _ _ | (refine Below.alloc ?_ (by first | omega | (simp; omega) | simp) _) | (refine Below.setCell ?_ (by first | omega | (simp; omega) | simp) _) | refine Below.drew ?_))⟩
    case round =>
      obtain ⟨rfl, rfl, hB⟩ := hrel
      go_wp2
      go_ret
      exact ⟨ret_i64 HS.out.symm, hB⟩
  · obtain ⟨b, o, rfl, hbB, hcell⟩ := hc h0
    obtain ⟨xb, xo, rfl, hxB, hxcell⟩ := hxc h0
    have HL := Lib.hid hl; clear hl hc
    have HX := Lib.hid hxl; clear hxl hxc
    have HB := Lib.hid hbd; clear hbd
    go_enter Try.func84, Try.ntmps84
    go_wp2
    go_loopw [7, 12] (fun n i wr => ∃ k : Nat, k ≤ len ∧ i = .int .i64 k ∧ n = .int .i64 (tot Pig.a (s.pigs.take k) (ns.take k)) ∧ Below w.heap.size w wr ∧ wr.cell? ⟨w.heap.size, 10, none⟩ = some (.slice (some ⟨b, o, none⟩) len cap)) (fun _ i _ => len - (intOf i).toNat)
    case atStart => exact ⟨0, by omega, rfl, by simp [tot_nil], (by repeat (first | exact Below.refl _ _ | (refine Below.alloc ?_ (by first | omega | (simp; omega) | simp) _) | (refine Below.setCell ?_ (by first | omega | (simp; omega) | simp) _) | refine Below.drew ?_)), by simp⟩
    case round =>
      obtain ⟨k, hk, rfl, rfl, hB, hbox⟩ := hrel
      have hz := hB.size
      by_cases hlt : k < len
      · have hk2 : k < s.pigs.length := by rw [HL.out]; exact hlt
        have hk3 : k < ns.length := by rw [HX.out]; exact hlt
        obtain ⟨c0, c1, c2, c3, c4⟩ := Pig.at_below hB hbB (hcell k hk2)
        have cx := (hB.cell (p := ⟨xb, _, none⟩) hxB).trans (hxcell k hk3)
        obtain ⟨f1, f2, f3⟩ := hf k hk2 hk3
        have f4 := Pig.ok_bd f1
        have f5 := mul_bd (f := (s.pigs[k]).a) ⟨f2, by omega⟩ (bd_antimony _ f1)
        obtain ⟨g1, g2⟩ := HB.out k (by omega) (by omega)
        have HT := Lib.hid (tot_snoc Pig.a s.pigs ns k hk2 hk3)
        have hq : k < 4 := by omega
        clear f1 f4
        generalize s.pigs[k] = p at *
        generalize ns[k] = n at *
        generalize tot Pig.a (s.pigs.take k) (ns.take k) = t at *
        obtain ⟨f5, f6⟩ := f5
        go_wp2_with (go_at_call 97; with_reducible refine (antimonyOf_any _ _ _ _ _ _).mono ?_; rintro e w4 ⟨rfl, rfl⟩)
        go_roundw
        case rel => exact ⟨k + 1, by omega, by go_num, by rw [HT.out], hB.trans (by repeat (first | exact Below.refl _ _ | (refine Below.alloc ?_ (by first | omega | (simp; omega) | simp) _) | (refine Below.setCell ?_ (by first | omega | (simp; omega) | simp) _) | refine Below.drew ?_)), cell_more _ hbox⟩
        case measure => simp [intOf]; omega
      · have hk' : k = len := by omega
        subst hk'
        go_wp2
        go_ret
        exact ⟨ret_i64 (by rw [List.take_of_length_le (by rw [HL.out]; omega), List.take_of_length_le (by rw [HX.out]; omega)]), hB⟩
theorem bd_pence (p : Pig) (h : p.ok = true) : 0 ≤ p.c ∧ p.c ≤ 99 := by have := Pig.ok_bd h; omega
set_option maxHeartbeats 400000 in
theorem total_pence (s : Shop) (a : Option Addr) (cap : Nat) (x : Option Addr) (len xcap : Nat) (ns : List Int) (w : World) (hp : PigsAt w a len s.pigs) (hx : IntsAt w x len ns) (hl4 : len ≤ 4) (hf : Few s.pigs ns) :
    Calls Try.prog 84 #[.agg #[.int .i64 s.P, .int .i64 s.tl, .int .i64 s.th, .int .i64 s.al, .int .i64 s.ah, .int .i64 s.room, .int .i64 s.xl, .int .i64 s.xh, .int .i64 s.yl, .int .i64 s.yh, .slice a len cap], .slice x len xcap, .func (.func 85) #[] #[]] w fun e w' => e = .returned (.int .i64 (tot Pig.c s.pigs ns)) ∧ Below w.heap.size w w' := by
  obtain ⟨hl, hm, hc⟩ := hp
  obtain ⟨hxl, _, hxc⟩ := hx
  have hbd := tot_bd Pig.c bd_pence s.pigs ns hf
  rcases Nat.eq_zero_or_pos len with h0 | h0
  · subst h0
    have hs : s.pigs = [] := List.length_eq_zero_iff.1 hl
    have HS := Lib.hid (show tot Pig.c s.pigs ns = 0 by simp [hs, tot_nil]); clear hs hl hc hxl hxc hbd
    go_enter Try.func84, Try.ntmps84
    go_wp2
    go_loopw [7, 12] (fun n i wr => n = .int .i64 0 ∧ i = .int .i64 0 ∧ Below w.heap.size w wr) (fun _ _ _ => 0)
    case atStart => exact ⟨rfl, rfl, (by repeat (first | exact Below.refl _ _ | (refine Below.alloc ?_ (by first | omega | (simp; omega) | simp) _) | (refine Below.setCell ?_ (by first | omega | (simp; omega) | simp) _) | refine Below.drew ?_))⟩
    case round =>
      obtain ⟨rfl, rfl, hB⟩ := hrel
      go_wp2
      go_ret
      exact ⟨ret_i64 HS.out.symm, hB⟩
  · obtain ⟨b, o, rfl, hbB, hcell⟩ := hc h0
    obtain ⟨xb, xo, rfl, hxB, hxcell⟩ := hxc h0
    have HL := Lib.hid hl; clear hl hc
    have HX := Lib.hid hxl; clear hxl hxc
    have HB := Lib.hid hbd; clear hbd
    go_enter Try.func84, Try.ntmps84
    go_wp2
    go_loopw [7, 12] (fun n i wr => ∃ k : Nat, k ≤ len ∧ i = .int .i64 k ∧ n = .int .i64 (tot Pig.c (s.pigs.take k) (ns.take k)) ∧ Below w.heap.size w wr ∧ wr.cell? ⟨w.heap.size, 10, none⟩ = some (.slice (some ⟨b, o, none⟩) len cap)) (fun _ i _ => len - (intOf i).toNat)
    case atStart => exact ⟨0, by omega, rfl, by simp [tot_nil], (by repeat (first | exact Below.refl _ _ | (refine Below.alloc ?_ (by first | omega | (simp; omega) | simp) _) | (refine Below.setCell ?_ (by first | omega | (simp; omega) | simp) _) | refine Below.drew ?_)), by simp⟩
    case round =>
      obtain ⟨k, hk, rfl, rfl, hB, hbox⟩ := hrel
      have hz := hB.size
      by_cases hlt : k < len
      · have hk2 : k < s.pigs.length := by rw [HL.out]; exact hlt
        have hk3 : k < ns.length := by rw [HX.out]; exact hlt
        obtain ⟨c0, c1, c2, c3, c4⟩ := Pig.at_below hB hbB (hcell k hk2)
        have cx := (hB.cell (p := ⟨xb, _, none⟩) hxB).trans (hxcell k hk3)
        obtain ⟨f1, f2, f3⟩ := hf k hk2 hk3
        have f4 := Pig.ok_bd f1
        have f5 := mul_bd (f := (s.pigs[k]).c) ⟨f2, by omega⟩ (bd_pence _ f1)
        obtain ⟨g1, g2⟩ := HB.out k (by omega) (by omega)
        have HT := Lib.hid (tot_snoc Pig.c s.pigs ns k hk2 hk3)
        have hq : k < 4 := by omega
        clear f1 f4
        generalize s.pigs[k] = p at *
        generalize ns[k] = n at *
        generalize tot Pig.c (s.pigs.take k) (ns.take k) = t at *
        obtain ⟨f5, f6⟩ := f5
        go_wp2_with (go_at_call 85; with_reducible refine (penceOf_any _ _ _ _ _ _).mono ?_; rintro e w4 ⟨rfl, rfl⟩)
        go_roundw
        case rel => exact ⟨k + 1, by omega, by go_num, by rw [HT.out], hB.trans (by repeat (first | exact Below.refl _ _ | (refine Below.alloc ?_ (by first | omega | (simp; omega) | simp) _) | (refine Below.setCell ?_ (by first | omega | (simp; omega) | simp) _) | refine Below.drew ?_)), cell_more _ hbox⟩
        case measure => simp [intOf]; omega
      · have hk' : k = len := by omega
        subst hk'
        go_wp2
        go_ret
        exact ⟨ret_i64 (by rw [List.take_of_length_le (by rw [HL.out]; omega), List.take_of_length_le (by rw [HX.out]; omega)]), hB⟩
end Go.Proofs.Ytajabapcmpmboaa
