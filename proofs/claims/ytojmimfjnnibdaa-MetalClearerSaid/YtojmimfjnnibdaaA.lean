/- The leaves of package metal. -/
import Derived.Test.YtojmimfjnnibdaaRows
import Derived.WalkKit
import Derived.WalkSpells
import Derived.WalkLawsBesides
import Derived.Lib.Hide
import Derived.Deep.QuietTactic
import Derived.BigQuiet
namespace Go.Proofs.Ytojmimfjnnibdaa
set_option linter.unusedVariables false
set_option linter.unusedSimpArgs false
open Go.RowKit

theorem bcell {W w1 : World} (hb : Below W.heap.size W w1) : (∀ b o, b < W.heap.size → w1.cell? ⟨b, o, none⟩ = W.cell? ⟨b, o, none⟩) ∧ (∀ b o, b < W.heap.size → w1.frozen? ⟨b, o, none⟩ = W.frozen? ⟨b, o, none⟩) :=
  ⟨fun b o h => hb.cell (p := ⟨b, o, none⟩) h, fun b o h => hb.frozen (p := ⟨b, o, none⟩) h⟩
theorem ret_bool {a b : Bool} (h : a = b) : Ending.returned (.bool a) = .returned (.bool b) := by rw [h]

def btw (n lo hi : Int) : Bool := decide (lo ≤ n ∧ n ≤ hi)
def spanB (lo hi m : Int) : Bool := decide (0 ≤ lo ∧ lo ≤ hi ∧ hi ≤ m)
def potB (P tl th al ah : Int) : Bool := btw P 0 400 && spanB tl th P && spanB al ah P && decide (th + ah ≤ P)
def pigB (P t a c m : Int) : Bool := btw P 1 40 && btw t 0 P && btw a 0 P && decide (t + a ≤ P) && btw c 0 99 && btw m 0 5

set_option maxHeartbeats 400000 in
theorem between_any (n lo hi : Int) (w : World) :
    Calls Try.prog 110 #[.int .i64 n, .int .i64 lo, .int .i64 hi] w fun e w' => e = .returned (.bool (btw n lo hi)) ∧ w = w' := by
  go_enter Try.func110, Try.ntmps110
  go_wp2
  all_goals (go_ret; refine ⟨ret_bool ?_, rfl⟩; rw [Bool.eq_iff_iff]; simp [btw]; omega)

theorem between_is (n lo hi : Int) (b : Bool) (h : btw n lo hi = b) (w : World) :
    Calls Try.prog 110 #[.int .i64 n, .int .i64 lo, .int .i64 hi] w fun e w' => e = .returned (.bool b) ∧ w = w' := h ▸ between_any n lo hi w

set_option maxHeartbeats 400000 in
theorem validSpan_any (lo hi m : Int) (w : World) :
    Calls Try.prog 99 #[.agg #[.int .i64 lo, .int .i64 hi], .int .i64 m] w fun e w' => e = .returned (.bool (spanB lo hi m)) ∧ w.alloc (.cells #[.int .i64 lo, .int .i64 hi] 23) = w' := by
  go_enter Try.func99, Try.ntmps99
  go_wp2
  all_goals (go_ret; refine ⟨ret_bool ?_, rfl⟩; rw [Bool.eq_iff_iff]; simp [spanB]; omega)

theorem validSpan_is (lo hi m : Int) (b : Bool) (h : spanB lo hi m = b) (w : World) :
    Calls Try.prog 99 #[.agg #[.int .i64 lo, .int .i64 hi], .int .i64 m] w fun e w' => e = .returned (.bool b) ∧ w.alloc (.cells #[.int .i64 lo, .int .i64 hi] 23) = w' := h ▸ validSpan_any lo hi m w

set_option maxHeartbeats 400000 in
theorem validPot_any (P tl th al ah : Int) (w : World) :
    Calls Try.prog 92 #[.agg #[.int .i64 P, .int .i64 tl, .int .i64 th, .int .i64 al, .int .i64 ah]] w fun e w' => e = .returned (.bool (potB P tl th al ah)) ∧ Below w.heap.size w w' := by
  rcases h1 : btw P 0 400 with - | -
  · go_enter Try.func92, Try.ntmps92
    go_wp2_with (go_at_call 110; with_reducible refine (between_is _ _ _ _ h1 _).mono ?_; rintro e w' ⟨rfl, rfl⟩)
    go_ret
    exact ⟨ret_bool (by simp [potB, h1]), (Below.refl _ _).alloc (Nat.le_refl _) _⟩
  rcases h2 : spanB tl th P with - | -
  · go_enter Try.func92, Try.ntmps92
    go_wp2_with (first | (go_at_call 110; with_reducible refine (between_is _ _ _ _ h1 _).mono ?_; rintro e w' ⟨rfl, rfl⟩) | (go_at_call 99; with_reducible refine (validSpan_is _ _ _ _ h2 _).mono ?_; rintro e w' ⟨rfl, rfl⟩))
    go_ret
    exact ⟨ret_bool (by simp [potB, h2]), ((Below.refl _ _).alloc (Nat.le_refl _) _).alloc (by simp) _⟩
  rcases h3 : spanB al ah P with - | -
  · go_enter Try.func92, Try.ntmps92
    go_wp2_with (first | (go_at_call 110; with_reducible refine (between_is _ _ _ _ h1 _).mono ?_; rintro e w' ⟨rfl, rfl⟩) | (go_at_call 99; with_reducible refine (validSpan_is _ _ _ _ h2 _).mono ?_; rintro e w' ⟨rfl, rfl⟩) | (go_at_call 99; with_reducible refine (validSpan_is _ _ _ _ h3 _).mono ?_; rintro e w' ⟨rfl, rfl⟩))
    go_ret
    exact ⟨ret_bool (by simp [potB, h3]), (((Below.refl _ _).alloc (Nat.le_refl _) _).alloc (by simp) _).alloc (by simp; omega) _⟩
  · have b1 : 0 ≤ th ∧ th ≤ 400 ∧ 0 ≤ ah ∧ ah ≤ 400 := by simp [btw, spanB] at h1 h2 h3; omega
    obtain ⟨b1, b2, b3, b4⟩ := b1
    go_enter Try.func92, Try.ntmps92
    go_wp2_with (first | (go_at_call 110; with_reducible refine (between_is _ _ _ _ h1 _).mono ?_; rintro e w' ⟨rfl, rfl⟩) | (go_at_call 99; with_reducible refine (validSpan_is _ _ _ _ h2 _).mono ?_; rintro e w' ⟨rfl, rfl⟩) | (go_at_call 99; with_reducible refine (validSpan_is _ _ _ _ h3 _).mono ?_; rintro e w' ⟨rfl, rfl⟩))
    go_ret
    exact ⟨ret_bool (by simp [potB, h1, h2, h3]), (((Below.refl _ _).alloc (Nat.le_refl _) _).alloc (by simp) _).alloc (by simp; omega) _⟩

set_option maxHeartbeats 400000 in
theorem validPig_any (P t a c m : Int) (w : World) :
    Calls Try.prog 100 #[.agg #[.int .i64 P, .int .i64 t, .int .i64 a, .int .i64 c, .int .i64 m]] w fun e w' => e = .returned (.bool (pigB P t a c m)) ∧ w.alloc (.cells #[.int .i64 P, .int .i64 t, .int .i64 a, .int .i64 c, .int .i64 m] 70) = w' := by
  rcases h1 : btw P 1 40 with - | -
  · go_enter Try.func100, Try.ntmps100
    go_wp2_with (first | (go_at_call 110; with_reducible refine (between_is _ _ _ _ h1 _).mono ?_; rintro e w' ⟨rfl, rfl⟩))
    go_ret
    exact ⟨ret_bool (by simp [pigB, h1]), rfl⟩
  rcases h2 : btw t 0 P with - | -
  · go_enter Try.func100, Try.ntmps100
    go_wp2_with (first | (go_at_call 110; with_reducible refine (between_is _ _ _ _ h1 _).mono ?_; rintro e w' ⟨rfl, rfl⟩) | (go_at_call 110; with_reducible refine (between_is _ _ _ _ h2 _).mono ?_; rintro e w' ⟨rfl, rfl⟩))
    go_ret
    exact ⟨ret_bool (by simp [pigB, h2]), rfl⟩
  rcases h3 : btw a 0 P with - | -
  · go_enter Try.func100, Try.ntmps100
    go_wp2_with (first | (go_at_call 110; with_reducible refine (between_is _ _ _ _ h1 _).mono ?_; rintro e w' ⟨rfl, rfl⟩) | (go_at_call 110; with_reducible refine (between_is _ _ _ _ h2 _).mono ?_; rintro e w' ⟨rfl, rfl⟩) | (go_at_call 110; with_reducible refine (between_is _ _ _ _ h3 _).mono ?_; rintro e w' ⟨rfl, rfl⟩))
    go_ret
    exact ⟨ret_bool (by simp [pigB, h3]), rfl⟩
  rcases h4 : decide (t + a ≤ P) with - | -
  · have k4 : ¬ t + a ≤ P := by simpa using h4
    have b1 : 0 ≤ t ∧ t ≤ 40 ∧ 0 ≤ a ∧ a ≤ 40 := by simp [btw] at h1 h2 h3; omega
    obtain ⟨b1, b2, b3, b4⟩ := b1
    go_enter Try.func100, Try.ntmps100
    go_wp2_with (first | (go_at_call 110; with_reducible refine (between_is _ _ _ _ h1 _).mono ?_; rintro e w' ⟨rfl, rfl⟩) | (go_at_call 110; with_reducible refine (between_is _ _ _ _ h2 _).mono ?_; rintro e w' ⟨rfl, rfl⟩) | (go_at_call 110; with_reducible refine (between_is _ _ _ _ h3 _).mono ?_; rintro e w' ⟨rfl, rfl⟩))
    go_ret
    exact ⟨ret_bool (by simp [pigB, h4]), rfl⟩
  rcases h5 : btw c 0 99 with - | -
  · have k4 : t + a ≤ P := by simpa using h4
    have b1 : 0 ≤ t ∧ t ≤ 40 ∧ 0 ≤ a ∧ a ≤ 40 := by simp [btw] at h1 h2 h3; omega
    obtain ⟨b1, b2, b3, b4⟩ := b1
    go_enter Try.func100, Try.ntmps100
    go_wp2_with (first | (go_at_call 110; with_reducible refine (between_is _ _ _ _ h1 _).mono ?_; rintro e w' ⟨rfl, rfl⟩) | (go_at_call 110; with_reducible refine (between_is _ _ _ _ h2 _).mono ?_; rintro e w' ⟨rfl, rfl⟩) | (go_at_call 110; with_reducible refine (between_is _ _ _ _ h3 _).mono ?_; rintro e w' ⟨rfl, rfl⟩) | (go_at_call 110; with_reducible refine (between_is _ _ _ _ h5 _).mono ?_; rintro e w' ⟨rfl, rfl⟩))
    go_ret
    exact ⟨ret_bool (by simp [pigB, h5]), rfl⟩
  rcases h6 : btw m 0 5 with - | -
  · have k4 : t + a ≤ P := by simpa using h4
    have b1 : 0 ≤ t ∧ t ≤ 40 ∧ 0 ≤ a ∧ a ≤ 40 := by simp [btw] at h1 h2 h3; omega
    obtain ⟨b1, b2, b3, b4⟩ := b1
    go_enter Try.func100, Try.ntmps100
    go_wp2_with (first | (go_at_call 110; with_reducible refine (between_is _ _ _ _ h1 _).mono ?_; rintro e w' ⟨rfl, rfl⟩) | (go_at_call 110; with_reducible refine (between_is _ _ _ _ h2 _).mono ?_; rintro e w' ⟨rfl, rfl⟩) | (go_at_call 110; with_reducible refine (between_is _ _ _ _ h3 _).mono ?_; rintro e w' ⟨rfl, rfl⟩) | (go_at_call 110; with_reducible refine (between_is _ _ _ _ h5 _).mono ?_; rintro e w' ⟨rfl, rfl⟩) | (go_at_call 110; with_reducible refine (between_is _ _ _ _ h6 _).mono ?_; rintro e w' ⟨rfl, rfl⟩))
    go_ret
    exact ⟨ret_bool (by simp [pigB, h6]), rfl⟩
  have k4 : t + a ≤ P := by simpa using h4
  have b1 : 0 ≤ t ∧ t ≤ 40 ∧ 0 ≤ a ∧ a ≤ 40 := by simp [btw] at h1 h2 h3; omega
  obtain ⟨b1, b2, b3, b4⟩ := b1
  go_enter Try.func100, Try.ntmps100
  go_wp2_with (first | (go_at_call 110; with_reducible refine (between_is _ _ _ _ h1 _).mono ?_; rintro e w' ⟨rfl, rfl⟩) | (go_at_call 110; with_reducible refine (between_is _ _ _ _ h2 _).mono ?_; rintro e w' ⟨rfl, rfl⟩) | (go_at_call 110; with_reducible refine (between_is _ _ _ _ h3 _).mono ?_; rintro e w' ⟨rfl, rfl⟩) | (go_at_call 110; with_reducible refine (between_is _ _ _ _ h5 _).mono ?_; rintro e w' ⟨rfl, rfl⟩) | (go_at_call 110; with_reducible refine (between_is _ _ _ _ h6 _).mono ?_; rintro e w' ⟨rfl, rfl⟩))
  go_ret
  exact ⟨ret_bool (by simp [pigB, h1, h2, h3, h5, h6]; omega), rfl⟩

theorem validPig_is (P t a c m : Int) (b : Bool) (h : pigB P t a c m = b) (w : World) :
    Calls Try.prog 100 #[.agg #[.int .i64 P, .int .i64 t, .int .i64 a, .int .i64 c, .int .i64 m]] w fun e w' => e = .returned (.bool b) ∧ w.alloc (.cells #[.int .i64 P, .int .i64 t, .int .i64 a, .int .i64 c, .int .i64 m] 70) = w' := h ▸ validPig_any P t a c m w

theorem poundsOf_any (P t a c m : Int) (w : World) :
    Calls Try.prog 87 #[.agg #[.int .i64 P, .int .i64 t, .int .i64 a, .int .i64 c, .int .i64 m]] w fun e w' => e = .returned (.int .i64 P) ∧ w.alloc (.cells #[.int .i64 P, .int .i64 t, .int .i64 a, .int .i64 c, .int .i64 m] 70) = w' := by
  go_enter Try.func87, Try.ntmps87
  go_wp2
  go_ret
  exact ⟨rfl, rfl⟩

theorem tinOf_any (P t a c m : Int) (w : World) :
    Calls Try.prog 90 #[.agg #[.int .i64 P, .int .i64 t, .int .i64 a, .int .i64 c, .int .i64 m]] w fun e w' => e = .returned (.int .i64 t) ∧ w.alloc (.cells #[.int .i64 P, .int .i64 t, .int .i64 a, .int .i64 c, .int .i64 m] 70) = w' := by
  go_enter Try.func90, Try.ntmps90
  go_wp2
  go_ret
  exact ⟨rfl, rfl⟩

theorem antimonyOf_any (P t a c m : Int) (w : World) :
    Calls Try.prog 97 #[.agg #[.int .i64 P, .int .i64 t, .int .i64 a, .int .i64 c, .int .i64 m]] w fun e w' => e = .returned (.int .i64 a) ∧ w.alloc (.cells #[.int .i64 P, .int .i64 t, .int .i64 a, .int .i64 c, .int .i64 m] 70) = w' := by
  go_enter Try.func97, Try.ntmps97
  go_wp2
  go_ret
  exact ⟨rfl, rfl⟩

theorem penceOf_any (P t a c m : Int) (w : World) :
    Calls Try.prog 85 #[.agg #[.int .i64 P, .int .i64 t, .int .i64 a, .int .i64 c, .int .i64 m]] w fun e w' => e = .returned (.int .i64 c) ∧ w.alloc (.cells #[.int .i64 P, .int .i64 t, .int .i64 a, .int .i64 c, .int .i64 m] 70) = w' := by
  go_enter Try.func85, Try.ntmps85
  go_wp2
  go_ret
  exact ⟨rfl, rfl⟩

theorem validPot_is (P tl th al ah : Int) (b : Bool) (h : potB P tl th al ah = b) (w : World) :
    Calls Try.prog 92 #[.agg #[.int .i64 P, .int .i64 tl, .int .i64 th, .int .i64 al, .int .i64 ah]] w fun e w' => e = .returned (.bool b) ∧ Below w.heap.size w w' := h ▸ validPot_any P tl th al ah w

/-- A number that adds up with another such one without a wrap. -/
def Fair (n : Int) : Prop := -1000000 ≤ n ∧ n ≤ 1000000

theorem moved_any (lo hi by' : Int) (w : World) (h1 : Fair lo) (h2 : Fair hi) (h3 : Fair by') :
    Calls Try.prog 96 #[.agg #[.int .i64 lo, .int .i64 hi], .int .i64 by'] w fun e w' => e = .returned (.agg #[.int .i64 (lo + by'), .int .i64 (hi + by')]) ∧ (w.alloc (.cells #[.int .i64 lo, .int .i64 hi] 23)).alloc (.cells #[.int .i64 (lo + by'), .int .i64 (hi + by')] 23) = w' := by
  obtain ⟨a1, a2⟩ := h1; obtain ⟨a3, a4⟩ := h2; obtain ⟨a5, a6⟩ := h3
  go_enter Try.func96, Try.ntmps96
  go_wp2
  exact bodyPost_ret (v := .agg #[.int .i64 (lo + by'), .int .i64 (hi + by')]) (by simp [results, Try.results96, go_sem]) rfl ⟨rfl, rfl⟩

def emptyB (lo hi : Int) : Bool := decide (hi < lo)
theorem empty_any (lo hi : Int) (w : World) :
    Calls Try.prog 103 #[.agg #[.int .i64 lo, .int .i64 hi]] w fun e w' => e = .returned (.bool (emptyB lo hi)) ∧ w.alloc (.cells #[.int .i64 lo, .int .i64 hi] 23) = w' := by
  go_enter Try.func103, Try.ntmps103
  go_wp2
  all_goals go_ret
  exact ⟨ret_bool rfl, rfl⟩
theorem empty_is (lo hi : Int) (b : Bool) (h : emptyB lo hi = b) (w : World) :
    Calls Try.prog 103 #[.agg #[.int .i64 lo, .int .i64 hi]] w fun e w' => e = .returned (.bool b) ∧ w.alloc (.cells #[.int .i64 lo, .int .i64 hi] 23) = w' := h ▸ empty_any lo hi w

def withinB (il ih ol oh : Int) : Bool := decide (ol ≤ il ∧ ih ≤ oh)
theorem within_any (il ih ol oh : Int) (w : World) :
    Calls Try.prog 102 #[.agg #[.int .i64 il, .int .i64 ih], .agg #[.int .i64 ol, .int .i64 oh]] w fun e w' => e = .returned (.bool (withinB il ih ol oh)) ∧ (w.alloc (.cells #[.int .i64 il, .int .i64 ih] 23)).alloc (.cells #[.int .i64 ol, .int .i64 oh] 23) = w' := by
  go_enter Try.func102, Try.ntmps102
  go_wp2
  all_goals (go_ret; refine ⟨ret_bool ?_, rfl⟩; rw [Bool.eq_iff_iff]; simp [withinB]; omega)
theorem within_is (il ih ol oh : Int) (b : Bool) (h : withinB il ih ol oh = b) (w : World) :
    Calls Try.prog 102 #[.agg #[.int .i64 il, .int .i64 ih], .agg #[.int .i64 ol, .int .i64 oh]] w fun e w' => e = .returned (.bool b) ∧ (w.alloc (.cells #[.int .i64 il, .int .i64 ih] 23)).alloc (.cells #[.int .i64 ol, .int .i64 oh] 23) = w' := h ▸ within_any il ih ol oh w

theorem ret_agg2 {a b c d : Int} (h : a = c) (k : b = d) : Ending.returned (.agg #[.int .i64 a, .int .i64 b]) = .returned (.agg #[.int .i64 c, .int .i64 d]) := by rw [h, k]
def maxI (a b : Int) : Int := if a ≤ b then b else a
def minI (a b : Int) : Int := if a ≤ b then a else b
theorem common_any (il ih ol oh : Int) (w : World) :
    Calls Try.prog 104 #[.agg #[.int .i64 il, .int .i64 ih], .agg #[.int .i64 ol, .int .i64 oh]] w fun e w' => e = .returned (.agg #[.int .i64 (maxI il ol), .int .i64 (minI ih oh)]) ∧ ((w.alloc (.cells #[.int .i64 il, .int .i64 ih] 23)).alloc (.cells #[.int .i64 ol, .int .i64 oh] 23)).alloc (.cells #[.int .i64 (maxI il ol), .int .i64 (minI ih oh)] 23) = w' := by
  rcases Int.lt_or_le il ol with k1 | k1 <;> rcases Int.lt_or_le oh ih with k2 | k2
  · go_enter Try.func104, Try.ntmps104
    go_wp2
    have e1 : ol = maxI il ol := by unfold maxI; split <;> omega
    have e2 : oh = minI ih oh := by unfold minI; split <;> omega
    exact bodyPost_ret (v := .agg #[.int .i64 ol, .int .i64 oh]) (by simp [results, Try.results104, go_sem]) rfl ⟨ret_agg2 e1 e2, by rw [← e1, ← e2]⟩
  · go_enter Try.func104, Try.ntmps104
    go_wp2
    have e1 : ol = maxI il ol := by unfold maxI; split <;> omega
    have e2 : ih = minI ih oh := by unfold minI; split <;> omega
    exact bodyPost_ret (v := .agg #[.int .i64 ol, .int .i64 ih]) (by simp [results, Try.results104, go_sem]) rfl ⟨ret_agg2 e1 e2, by rw [← e1, ← e2]⟩
  · go_enter Try.func104, Try.ntmps104
    go_wp2
    have e1 : il = maxI il ol := by unfold maxI; split <;> omega
    have e2 : oh = minI ih oh := by unfold minI; split <;> omega
    exact bodyPost_ret (v := .agg #[.int .i64 il, .int .i64 oh]) (by simp [results, Try.results104, go_sem]) rfl ⟨ret_agg2 e1 e2, by rw [← e1, ← e2]⟩
  · go_enter Try.func104, Try.ntmps104
    go_wp2
    have e1 : il = maxI il ol := by unfold maxI; split <;> omega
    have e2 : ih = minI ih oh := by unfold minI; split <;> omega
    exact bodyPost_ret (v := .agg #[.int .i64 il, .int .i64 ih]) (by simp [results, Try.results104, go_sem]) rfl ⟨ret_agg2 e1 e2, by rw [← e1, ← e2]⟩

theorem bd_mul (p x : Int) (h1 : 0 ≤ p ∧ p ≤ 2000) (h2 : 0 ≤ x ∧ x ≤ 1000) : 0 ≤ p * x ∧ p * x ≤ 2000000 :=
  ⟨Int.mul_nonneg h1.1 h2.1, Int.le_trans (Int.mul_le_mul h1.2 h2.2 h2.1 (by omega)) (by decide)⟩
def allowLo (p lo : Int) : Int := (p * lo + 1000 - 1) / 1000
def allowHi (p hi : Int) : Int := p * hi / 1000
set_option maxHeartbeats 400000 in
theorem allowed_any (p lo hi : Int) (w : World) (h1 : 0 ≤ p ∧ p ≤ 2000) (h2 : 0 ≤ lo ∧ lo ≤ 1000) (h3 : 0 ≤ hi ∧ hi ≤ 1000) :
    Calls Try.prog 101 #[.int .i64 p, .agg #[.int .i64 lo, .int .i64 hi]] w fun e w' => e = .returned (.agg #[.int .i64 (allowLo p lo), .int .i64 (allowHi p hi)]) ∧ (w.alloc (.cells #[.int .i64 lo, .int .i64 hi] 23)).alloc (.cells #[.int .i64 (allowLo p lo), .int .i64 (allowHi p hi)] 23) = w' := by
  obtain ⟨m1, m2⟩ := bd_mul p lo h1 h2
  obtain ⟨m3, m4⟩ := bd_mul p hi h1 h3
  go_enter Try.func101, Try.ntmps101
  go_wp2
  exact bodyPost_ret (v := .agg #[.int .i64 ((p * lo + 1000 - 1) / 1000), .int .i64 (p * hi / 1000)]) (by simp [results, Try.results101, go_sem]) rfl ⟨rfl, rfl⟩

end Go.Proofs.Ytojmimfjnnibdaa
