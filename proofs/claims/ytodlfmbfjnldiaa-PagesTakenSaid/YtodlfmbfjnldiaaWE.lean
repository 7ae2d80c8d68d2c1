/- Pages: what a frame is in which a piece has another height. -/
import Derived.Test.YtodlfmbfjnldiaaWA
import Derived.Test.YtodlfmbfjnldiaaZS
namespace Go.Proofs.Ytodlfmbfjnldiaa
set_option linter.unusedVariables false
set_option linter.unusedSimpArgs false
open Go.RowKit

/-- The frame in which a piece has another height. -/
def PFrame.tallS (f : PFrame) (k : Nat) (a b : Int) : PFrame := { f with pieces := f.pieces.set k ⟨a, b, f.pay k⟩ }
theorem high_is (f : PFrame) (k : Nat) (h : Int) : f.high k h = f.tallS k (f.lo k) h := rfl
theorem tall_lo {f : PFrame} {k : Nat} (hk : k < f.pieces.length) (a b x : Int) (hx : 0 ≤ x) : (f.tallS k a b).lo x = if x = (k : Int) then a else f.lo x := by
  unfold PFrame.lo PFrame.tallS
  simp only
  rw [List.getElem?_set]
  by_cases h : k = x.toNat
  · rw [if_pos h, if_pos hk, if_pos (by omega)]; rfl
  · rw [if_neg h, if_neg (by omega)]
theorem tall_hi {f : PFrame} {k : Nat} (hk : k < f.pieces.length) (a b x : Int) (hx : 0 ≤ x) : (f.tallS k a b).hi x = if x = (k : Int) then b else f.hi x := by
  unfold PFrame.hi PFrame.tallS
  simp only
  rw [List.getElem?_set]
  by_cases h : k = x.toNat
  · rw [if_pos h, if_pos hk, if_pos (by omega)]; rfl
  · rw [if_neg h, if_neg (by omega)]
theorem tall_pay {f : PFrame} {k : Nat} (hk : k < f.pieces.length) (a b : Int) (i : Nat) : (f.tallS k a b).pay i = f.pay i := by
  show (((f.pieces.set k ⟨a, b, f.pay k⟩)[i]?).map Piece.pe).getD 0 = f.pay i
  rw [List.getElem?_set]
  by_cases h : k = i
  · subst h; rw [if_pos rfl, if_pos hk]; rfl
  · rw [if_neg h]; rfl
theorem tall_ok {f : PFrame} (ho : f.ok = true) (k : Nat) (a b : Int) (h0 : 0 ≤ a) (h1 : a ≤ b) (h2 : b ≤ 99) : (f.tallS k a b).ok = true := by
  have hpy := pay_bd ho k
  unfold PFrame.ok at ho ⊢
  simp only [Bool.and_eq_true] at ho ⊢
  obtain ⟨⟨⟨⟨⟨a1, a2⟩, a3⟩, a4⟩, a5⟩, a6⟩ := ho
  refine ⟨⟨⟨⟨⟨a1, a2⟩, ?_⟩, a4⟩, ?_⟩, ?_⟩
  · unfold PFrame.few PFrame.tallS at *; simpa using a3
  · refine List.all_eq_true.2 fun p hp => ?_
    unfold PFrame.tallS at hp
    rcases List.mem_or_eq_of_mem_set hp with h3 | h3
    · exact List.all_eq_true.1 a5 _ h3
    · subst h3
      unfold pieceB btw
      simp
      omega
  · unfold PFrame.placed PFrame.flat PFrame.tallS at *; simpa using a6
/-- With a lesser span of a height. -/
theorem tall_in {f : PFrame} {k : Nat} (hk : k < f.pieces.length) {a b : Int} (h1 : f.lo k ≤ a) (h2 : b ≤ f.hi k) {x : Int} (hx : 0 ≤ x) : f.lo x ≤ (f.tallS k a b).lo x ∧ (f.tallS k a b).hi x ≤ f.hi x := by
  rw [tall_lo hk a b x hx, tall_hi hk a b x hx]
  split
  · rename_i h; subst h; exact ⟨h1, h2⟩
  · exact ⟨Int.le_refl _, Int.le_refl _⟩
theorem sum_on {g h : Int → Int} : ∀ {xs : List Int}, (∀ x ∈ xs, g x ≤ h x) → sumG g xs ≤ sumG h xs
  | [], _ => Int.le_refl _
  | x :: xs, hh => by
    have h1 := hh x (by simp)
    have h2 := sum_on (xs := xs) (fun y hy => hh y (by simp [hy]))
    simp only [sumG]; omega
theorem tall_sums {f : PFrame} {k : Nat} (hk : k < f.pieces.length) {a b : Int} (h1 : f.lo k ≤ a) (h2 : b ≤ f.hi k) {xs : List Int} (hx : ∀ x ∈ xs, 0 ≤ x) : f.loS xs ≤ (f.tallS k a b).loS xs ∧ (f.tallS k a b).hiS xs ≤ f.hiS xs :=
  ⟨sum_on fun x h => (tall_in hk h1 h2 (hx x h)).1, sum_on fun x h => (tall_in hk h1 h2 (hx x h)).2⟩
theorem col_pos {f : PFrame} (ho : f.ok = true) {x : List Int} (hx : x ∈ f.cols) : ∀ y ∈ x, 0 ≤ y := by
  obtain ⟨i, hi, rfl⟩ := List.getElem_of_mem hx
  exact fun y hy => ((PFrame.ok_col ho i hi).1 y hy).1
theorem lays_tall {f : PFrame} (ho : f.ok = true) {k : Nat} (hk : k < f.pieces.length) {a b : Int} (h0 : 0 ≤ a) (hab : a ≤ b) (hb : b ≤ 99) (h1 : f.lo k ≤ a) (h2 : b ≤ f.hi k) (c : Nat) (x : List T3) (hx : x ∈ f.lays c) : x ∈ (f.tallS k a b).lays c := by
  refine lays_wider ho (tall_ok ho k a b h0 hab hb) (fun s => rfl) ⟨Int.le_refl _, Int.le_refl _, Int.le_refl _⟩ c ?_ x hx
  refine wider_map fun y hy => ?_
  have hs := tall_sums hk h1 h2 (xs := keepC c y) (fun z hz => col_pos ho hy z (List.mem_filter.1 hz).1)
  unfold PFrame.roomLo PFrame.roomHi
  simp only
  refine ⟨?_, ?_⟩
  · show max 0 (f.len - f.slack - (f.tallS k a b).loS (keepC c y)) ≤ max 0 (f.len - f.slack - f.loS (keepC c y)); omega
  · show f.len - f.hiS (keepC c y) ≤ f.len - (f.tallS k a b).hiS (keepC c y); omega
theorem clearer_better {f : PFrame} (ho : f.ok = true) {k : Nat} (hk : k < f.pieces.length) {a b : Int} (hab : a ≤ b) (h1 : f.lo k ≤ a) (h2 : b ≤ f.hi k) : (f.tallS k a b).ok = true ∧ (f.tallS k a b).stripsN ≤ f.stripsN ∧ (f.tallS k a b).lostN ≤ f.lostN := by
  have e1 := PFrame.lo_bd ho (k : Int)
  have e2 := PFrame.hi_bd ho (k : Int)
  have h3 := tall_ok ho k a b (by omega) hab (by omega)
  refine ⟨h3, better_of ho h3 ?_ (fun c => payTo_same (fun i => tall_pay hk a b i) c _) fun c x hx => lays_tall ho hk (by omega) hab (by omega) h1 h2 c x hx⟩
  unfold PFrame.tallS; simp
theorem self_tall {f : PFrame} {k : Nat} (hk : k < f.pieces.length) : f.tallS k (f.lo k) (f.hi k) = f := by
  have e : f.pieces.set k ⟨f.lo k, f.hi k, f.pay k⟩ = f.pieces := by
    refine List.ext_getElem? fun i => ?_
    rw [List.getElem?_set]
    by_cases h : k = i
    · subst h
      rw [if_pos rfl, if_pos hk, List.getElem?_eq_getElem hk]
      unfold PFrame.lo PFrame.hi PFrame.pay
      simp [hk]
    · rw [if_neg h]
  unfold PFrame.tallS
  rw [e]
/-- What Grow gives. -/
theorem growFrom_are (f : PFrame) (k : Nat) : ∀ N : Nat, (f.growFrom k N = none ∧ ∀ n : Nat, n < N → (f.high k (f.lo k + n)).locks 0 = false) ∨ ∃ m : Nat, f.growFrom k N = some (f.lo k + m) ∧ m < N ∧ (f.high k (f.lo k + m)).locks 0 = true ∧ ∀ n : Nat, m < n → n < N → (f.high k (f.lo k + n)).locks 0 = false
  | 0 => .inl ⟨rfl, fun n h => absurd h (by omega)⟩
  | N + 1 => by
    rw [PFrame.growFrom]
    cases hl : (f.high k (f.lo k + N)).locks 0 with
    | true => exact .inr ⟨N, by simp, by omega, hl, fun n h1 h2 => absurd h2 (by omega)⟩
    | false =>
      rcases growFrom_are f k N with ⟨h1, h2⟩ | ⟨m, h1, h2, h3, h4⟩
      · refine .inl ⟨by simpa using h1, fun n hn => ?_⟩
        rcases Nat.lt_succ_iff_lt_or_eq.1 hn with h | rfl
        · exact h2 n h
        · exact hl
      · refine .inr ⟨m, by simpa using h1, by omega, h3, fun n hn1 hn2 => ?_⟩
        rcases Nat.lt_succ_iff_lt_or_eq.1 hn2 with h | rfl
        · exact h4 n hn1 h
        · exact hl
theorem stripsN_none {f : PFrame} (ho : f.ok = true) : (f.stripsN = 100000 ↔ f.locks 0 = false) ∧ (f.stripsN < 100000 ↔ f.locks 0 = true) := by
  rcases strips_are ho with ⟨-, h1, h2⟩ | ⟨n, -, h1, h2, h3, l, h4, -, -⟩
  · have : f.locks 0 = false := by unfold PFrame.locks; rw [h2]; rfl
    rw [this, h1]; simp
  · have : f.locks 0 = true := locks_iff.2 ⟨l, h4⟩
    rw [this, h1]
    constructor
    · constructor <;> intro h
      · omega
      · cases h
    · constructor <;> intro h
      · rfl
      · omega
/-- The law of how high a piece can be. -/
theorem grown_are {f : PFrame} (ho : f.ok = true) {k : Nat} (hk : k < f.pieces.length) :
    (f.growR k = (0, 3) ∧ f.stripsN = 100000 ∧ (f.high k (f.lo k)).stripsN = 100000) ∨
    (∃ h : Int, f.growR k = (h, 0) ∧ f.lo k ≤ h ∧ h ≤ 99 ∧ (f.stripsN = 100000 ∨ f.hi k ≤ h) ∧ (f.high k h).stripsN < 100000 ∧ (h < 99 → (f.high k (h + 1)).stripsN = 100000)) := by
  have e1 := PFrame.lo_bd ho (k : Int)
  have e2 := PFrame.hi_bd ho (k : Int)
  have e3 := PFrame.lo_hi ho (k : Int)
  have hok : ∀ h, f.lo k ≤ h → h ≤ 99 → (f.high k h).ok = true := fun h h1 h2 => tall_ok ho k (f.lo k) h e1.1 h1 h2
  have hself : f.high k (f.lo k + ((f.hi k - f.lo k).toNat : Nat)) = f := by
    rw [high_is, show f.lo k + ((f.hi k - f.lo k).toNat : Nat) = f.hi k by omega, self_tall hk]
  unfold PFrame.growR
  rcases growFrom_are f k (100 - f.lo k).toNat with ⟨h1, h2⟩ | ⟨m, h1, h2, h3, h4⟩
  · rw [h1]
    refine .inl ⟨rfl, ?_, ?_⟩
    · have := h2 (f.hi k - f.lo k).toNat (by omega)
      rw [hself] at this
      exact (stripsN_none ho).1.2 this
    · have := h2 0 (by omega)
      rw [show f.lo k + ((0 : Nat) : Int) = f.lo k by omega] at this
      exact (stripsN_none (hok _ (by omega) (by omega))).1.2 this
  · rw [h1]
    refine .inr ⟨f.lo k + m, rfl, by omega, by omega, ?_, (stripsN_none (hok _ (by omega) (by omega))).2.2 h3, fun h5 => ?_⟩
    · by_cases h6 : f.hi k ≤ f.lo k + m
      · exact .inr h6
      · have := h4 (f.hi k - f.lo k).toNat (by omega) (by omega)
        rw [hself] at this
        exact .inl ((stripsN_none ho).1.2 this)
    · have := h4 (m + 1) (by omega) (by omega)
      rw [show f.lo k + ((m + 1 : Nat) : Int) = f.lo k + m + 1 by omega] at this
      exact (stripsN_none (hok _ (by omega) (by omega))).1.2 this
theorem stripsN_bd {f : PFrame} (ho : f.ok = true) : 0 ≤ f.stripsN ∧ f.stripsN ≤ 100000 := by
  rcases strips_are ho with ⟨-, h1, -⟩ | ⟨n, -, h1, h2, h3, -⟩ <;> omega
theorem lostN_bd {f : PFrame} (ho : f.ok = true) : 0 ≤ f.lostN ∧ f.lostN ≤ 100000 := by
  rcases lost_are ho with ⟨-, -, h1, -⟩ | ⟨n, -, -, h1, h2, h3, -⟩ <;> omega
end Go.Proofs.Ytodlfmbfjnldiaa
