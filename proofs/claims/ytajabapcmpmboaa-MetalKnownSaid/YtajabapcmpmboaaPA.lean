/- MetalLead: what Lead's ends mean. -/
import Derived.Test.YtajabapcmpmboaaMC
import Derived.Test.YtajabapcmpmboaaME
namespace Go.Proofs.Ytajabapcmpmboaa
set_option linter.unusedVariables false
set_option linter.unusedSimpArgs false
open Go.RowKit

theorem safeI_1 (s : Shop) (P tl th al ah : Int) : safeI s P tl th al ah = 1 ↔ (allowLo P s.xl ≤ tl ∧ th ≤ allowHi P s.xh) ∧ (allowLo P s.yl ≤ al ∧ ah ≤ allowHi P s.yh) :=
  verdict_1 tl th al ah (allowLo P s.xl) (allowHi P s.xh) (allowLo P s.yl) (allowHi P s.yh)
theorem isSafeR_1 (s : Shop) (P tl th al ah : Int) : isSafeR s P tl th al ah = true ↔ safeI s P tl th al ah = 1 := by
  rw [safeI_1]
  simp only [isSafeR, keepsR, Bool.and_eq_true]
  simp only [if_true, show (2 : Int) ≠ 1 by decide, show (3 : Int) ≠ 1 by decide, show (3 : Int) ≠ 2 by decide, show (4 : Int) ≠ 1 by decide, show (4 : Int) ≠ 2 by decide, show (4 : Int) ≠ 3 by decide, if_false, decide_eq_true_eq]
  unfold allowLo allowHi
  generalize P * s.xl = a
  generalize P * s.xh = b
  generalize P * s.yl = c
  generalize P * s.yh = d
  constructor
  · rintro ⟨⟨⟨h1, h2⟩, h3⟩, h4⟩; omega
  · rintro ⟨⟨h1, h2⟩, h3, h4⟩; omega
theorem allowLo_up {p q l : Int} (hl : 0 ≤ l) (h : p ≤ q) : allowLo p l ≤ allowLo q l := by
  have := Int.mul_le_mul_of_nonneg_right h hl
  unfold allowLo; omega
theorem allowHi_up {p q l : Int} (hl : 0 ≤ l) (h : p ≤ q) : allowHi p l ≤ allowHi q l := by
  have := Int.mul_le_mul_of_nonneg_right h hl
  unfold allowHi; omega
/-- What is safe with less and with more lead is so with any between. -/
theorem safe_between {s : Shop} (hL : ((0 ≤ s.xl ∧ s.xl ≤ 1000) ∧ (0 ≤ s.xh ∧ s.xh ≤ 1000)) ∧ ((0 ≤ s.yl ∧ s.yl ≤ 1000) ∧ (0 ≤ s.yh ∧ s.yh ≤ 1000))) {P Q R tl th al ah : Int} (h1 : P ≤ Q) (h2 : Q ≤ R)
    (hP : safeI s P tl th al ah = 1) (hR : safeI s R tl th al ah = 1) : safeI s Q tl th al ah = 1 := by
  rw [safeI_1] at *
  have a1 := allowLo_up (l := s.xl) hL.1.1.1 h2
  have a2 := allowHi_up (l := s.xh) hL.1.2.1 h1
  have a3 := allowLo_up (l := s.yl) hL.2.1.1 h2
  have a4 := allowHi_up (l := s.yh) hL.2.2.1 h1
  omega
/-- What leadsTo finds among the first k pounds. -/
theorem leadsTo_spec (s : Shop) (n1 n2 n3 n4 n5 : Int) : ∀ (k : Nat),
    ((leadsTo s n1 n2 n3 n4 n5 k).2.2 = false ∧ ∀ j : Nat, j < k → safeI s (n1 + j) n2 n3 n4 n5 ≠ 1) ∨
    ∃ lo hi : Nat, leadsTo s n1 n2 n3 n4 n5 k = ((lo : Int), (hi : Int), true) ∧ lo ≤ hi ∧ hi < k ∧ safeI s (n1 + lo) n2 n3 n4 n5 = 1 ∧ safeI s (n1 + hi) n2 n3 n4 n5 = 1 ∧ ∀ j : Nat, j < k → safeI s (n1 + j) n2 n3 n4 n5 = 1 → lo ≤ j ∧ j ≤ hi
  | 0 => .inl ⟨rfl, fun j h => by omega⟩
  | k + 1 => by
    by_cases hk : safeI s (n1 + k) n2 n3 n4 n5 = 1
    · rcases leadsTo_spec s n1 n2 n3 n4 n5 k with ⟨h1, h2⟩ | ⟨lo, hi, h1, h2, h3, h4, h5, h6⟩
      · refine .inr ⟨k, k, ?_, Nat.le_refl _, Nat.lt_succ_self _, hk, hk, fun j hj hs => ?_⟩
        · simp [leadsTo, hk, h1]
        · rcases Nat.lt_or_ge j k with h | h
          · exact absurd hs (h2 j h)
          · omega
      · refine .inr ⟨lo, k, ?_, by omega, Nat.lt_succ_self _, h4, hk, fun j hj hs => ?_⟩
        · simp [leadsTo, hk, h1]
        · rcases Nat.lt_or_ge j k with h | h
          · have := h6 j h hs; omega
          · omega
    · rcases leadsTo_spec s n1 n2 n3 n4 n5 k with ⟨h1, h2⟩ | ⟨lo, hi, h1, h2, h3, h4, h5, h6⟩
      · refine .inl ⟨by simp [leadsTo, hk, h1], fun j hj => ?_⟩
        rcases Nat.lt_or_ge j k with h | h
        · exact h2 j h
        · obtain rfl : j = k := by omega
          exact hk
      · refine .inr ⟨lo, hi, by simp [leadsTo, hk, h1], h2, by omega, h4, h5, fun j hj hs => ?_⟩
        rcases Nat.lt_or_ge j k with h | h
        · exact h6 j h hs
        · obtain rfl : j = k := by omega
          exact absurd hs hk

/-- What MetalLead asks of Lead's answer. -/
structure LeadOk (s : Shop) (ns : List Int) (lo hi : Int) (f : Bool) (left : Int) : Prop where
  low : f = true → 0 ≤ lo
  both : f = true → lo ≤ hi
  high : f = true → hi ≤ left
  all : ∀ n : Int, 0 ≤ n → n ≤ left → isSafeR s (s.P + tot Pig.P s.pigs ns + n) (s.tl + tot Pig.t s.pigs ns) (s.th + tot Pig.t s.pigs ns) (s.al + tot Pig.a s.pigs ns) (s.ah + tot Pig.a s.pigs ns) = (if f then btw n lo hi else btw n 0 (-1))
theorem lead_ok {s : Shop} (ho : s.ok = true) {ns : List Int} (ha : s.isAdd ns = true) {lo hi : Int} {f : Bool} (h : s.leadsOf ns = (lo, hi, f)) : LeadOk s ns lo hi f (s.room - (s.P + tot Pig.P s.pigs ns)) := by
  have hr := Shop.isAdd_room ha
  have hL := Shop.lims ho
  unfold Shop.leadsOf at h
  rcases leadsTo_spec s (s.P + tot Pig.P s.pigs ns) (s.tl + tot Pig.t s.pigs ns) (s.th + tot Pig.t s.pigs ns) (s.al + tot Pig.a s.pigs ns) (s.ah + tot Pig.a s.pigs ns) (s.room - (s.P + tot Pig.P s.pigs ns) + 1).toNat with ⟨h1, h2⟩ | ⟨l, u, h1, h2, h3, h4, h5, h6⟩
  · rw [h] at h1
    obtain rfl : f = false := h1
    refine ⟨(by intro h; cases h), (by intro h; cases h), (by intro h; cases h), fun n k1 k2 => ?_⟩
    have k := h2 n.toNat (by omega)
    rw [Int.toNat_of_nonneg k1] at k
    rw [Bool.eq_iff_iff, isSafeR_1]
    simp [btw, k]; omega
  · rw [h] at h1
    simp only [Prod.mk.injEq] at h1
    obtain ⟨rfl, rfl, rfl⟩ := h1
    refine ⟨fun _ => by omega, fun _ => by omega, fun _ => by omega, fun n k1 k2 => ?_⟩
    rw [Bool.eq_iff_iff, isSafeR_1, if_pos rfl]
    simp only [btw, decide_eq_true_eq]
    constructor
    · intro hs
      have := h6 n.toNat (by omega) (by rw [Int.toNat_of_nonneg k1]; exact hs)
      omega
    · rintro ⟨b1, b2⟩
      exact safe_between hL (by omega) (by omega) h4 h5
end Go.Proofs.Ytajabapcmpmboaa
