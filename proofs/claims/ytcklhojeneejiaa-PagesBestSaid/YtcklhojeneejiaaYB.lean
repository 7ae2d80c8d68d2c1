/- YM YB, joined. -/
import Derived.Test.YtcklhojeneejiaaYA
/- Pages: each piece just once: two ways to say it. -/
namespace Go.Proofs.Ytcklhojeneejiaa
set_option linter.unusedVariables false
set_option linter.unusedSimpArgs false
open Go.RowKit

theorem once_le : ∀ xs : List Int, onceB xs = true ↔ ∀ x, xs.count x ≤ 1
  | [] => by simp [onceB]
  | y :: xs => by
    rw [onceB, Bool.and_eq_true, once_le xs]
    constructor
    · rintro ⟨h1, h2⟩ x
      rw [List.count_cons]
      by_cases h : y = x
      · subst h
        have : xs.count y = 0 := List.count_eq_zero.2 (by simpa using h1)
        simp [this]
      · have := h2 x
        have : (y == x) = false := by simpa using h
        simp [this]; omega
    · intro h
      constructor
      · have := h y
        rw [List.count_cons] at this
        have h0 : xs.count y = 0 := by simp at this; exact this
        simpa using List.count_eq_zero.1 h0
      · intro x
        have := h x
        rw [List.count_cons] at this
        omega
theorem sum_ind (x : Int) : ∀ n : Nat, ((List.range n).map fun i => if (x == ((i : Nat) : Int)) = true then 1 else 0).sum = if 0 ≤ x ∧ x < (n : Int) then 1 else 0
  | 0 => by simp
  | n + 1 => by
    rw [List.range_succ, List.map_append, List.sum_append, sum_ind x n]
    simp only [List.map_cons, List.map_nil, List.sum_cons, List.sum_nil, beq_iff_eq]
    by_cases h : x = (n : Int)
    · rw [if_pos h, if_neg (by omega), if_pos (by omega)]; rfl
    · rw [if_neg h]
      by_cases h2 : 0 ≤ x ∧ x < (n : Int)
      · rw [if_pos h2, if_pos (by omega)]; rfl
      · rw [if_neg h2, if_neg (by omega)]; rfl
theorem sum_cnt (n : Nat) : ∀ xs : List Int, (∀ x ∈ xs, 0 ≤ x ∧ x < (n : Int)) → ((List.range n).map fun i => xs.count ((i : Nat) : Int)).sum = xs.length
  | [], _ => by
    have : ∀ m : Nat, ((List.range m).map fun _ => 0).sum = 0 := by
      intro m; induction m with
      | zero => rfl
      | succ m ih => rw [List.range_succ, List.map_append, List.sum_append, ih]; rfl
    simpa using this n
  | y :: xs, h => by
    have ih := sum_cnt n xs (fun x hx => h x (by simp [hx]))
    have hy := sum_ind y n
    rw [if_pos (h y (by simp))] at hy
    have e : ∀ l : List Nat, (l.map fun i => (y :: xs).count ((i : Nat) : Int)).sum = (l.map fun i => xs.count ((i : Nat) : Int)).sum + (l.map fun i => if (y == ((i : Nat) : Int)) = true then 1 else 0).sum := by
      intro l; induction l with
      | nil => rfl
      | cons i l ih2 => have h1 : (y :: xs).count (i : Int) = xs.count (i : Int) + if (y == (i : Int)) = true then 1 else 0 := List.count_cons; simp only [List.map_cons, List.sum_cons]; omega
    rw [e, ih, hy, List.length_cons]
theorem sum_one (c : Nat → Nat) : ∀ n : Nat, (∀ i, i < n → c i ≤ 1) → ((List.range n).map c).sum ≤ n ∧ (((List.range n).map c).sum = n ↔ ∀ i, i < n → c i = 1)
  | 0, _ => by simp
  | n + 1, h => by
    obtain ⟨h1, h2⟩ := sum_one c n (fun i hi => h i (by omega))
    have h3 := h n (by omega)
    rw [List.range_succ, List.map_append, List.sum_append]
    simp only [List.map_cons, List.map_nil, List.sum_cons, List.sum_nil]
    refine ⟨by omega, fun e => ?_, fun e => ?_⟩
    · intro i hi
      have e1 := h2.1 (by omega)
      by_cases hin : i < n
      · exact e1 i hin
      · obtain rfl : i = n := by omega
        omega
    · have := h2.2 (fun i hi => e i (by omega))
      have := e n (by omega)
      omega
theorem placed_times (f : PFrame) : f.placed = (f.flat.all (fun i => btw i 0 (f.pieces.length - 1)) && (List.range f.pieces.length).all fun i => decide (f.flat.count (i : Int) = 1)) := by
  unfold PFrame.placed
  cases ha : f.flat.all (fun i => btw i 0 (f.pieces.length - 1))
  · rfl
  · have hr : ∀ x ∈ f.flat, 0 ≤ x ∧ x < (f.pieces.length : Int) := fun x hx => by
      have := List.all_eq_true.1 ha x hx
      unfold btw at this
      simp at this
      omega
    have hs := sum_cnt f.pieces.length f.flat hr
    simp only [Bool.true_and]
    rw [Bool.eq_iff_iff, Bool.and_eq_true, decide_eq_true_eq, once_le, List.all_eq_true]
    constructor
    · rintro ⟨h1, h2⟩ i hi
      have h3 := (sum_one (fun i => f.flat.count ((i : Nat) : Int)) f.pieces.length (fun i _ => h1 _)).2.1 (by rw [hs, h2])
      simpa using h3 i (List.mem_range.1 hi)
    · intro h
      have h1 : ∀ i : Nat, i < f.pieces.length → f.flat.count (i : Int) = 1 := fun i hi => by simpa using h i (List.mem_range.2 hi)
      refine ⟨fun x => ?_, ?_⟩
      · by_cases hx : x ∈ f.flat
        · obtain ⟨h2, h3⟩ := hr x hx
          have := h1 x.toNat (by omega)
          rw [Int.toNat_of_nonneg h2] at this
          omega
        · rw [List.count_eq_zero.2 hx]; omega
      · have := (sum_one (fun i => f.flat.count ((i : Nat) : Int)) f.pieces.length (fun i hi => by rw [h1 i hi]; exact Nat.le_refl _)).2.2 h1
        rw [hs] at this
        exact this
end Go.Proofs.Ytcklhojeneejiaa

/- Package pages: leaves; whether each piece is placed just once. -/
namespace Go.Proofs.Ytcklhojeneejiaa
set_option linter.unusedVariables false
set_option linter.unusedSimpArgs false
open Go.RowKit

set_option maxHeartbeats 400000 in
theorem between_any (n lo hi : Int) (w : World) :
    Calls Try.prog 102 #[.int .i64 n, .int .i64 lo, .int .i64 hi] w fun e w' => e = .returned (.bool (btw n lo hi)) ∧ w = w' := by
  go_enter Try.func102, Try.ntmps102
  go_wp2
  all_goals (go_ret; refine ⟨ret_bool ?_, rfl⟩; rw [Bool.eq_iff_iff]; simp [btw]; omega)
theorem between_is (n lo hi : Int) (b : Bool) (h : btw n lo hi = b) (w : World) :
    Calls Try.prog 102 #[.int .i64 n, .int .i64 lo, .int .i64 hi] w fun e w' => e = .returned (.bool b) ∧ w = w' := h ▸ between_any n lo hi w

set_option maxHeartbeats 400000 in
theorem hasPiece_any (f : PFrame) (sa : Option Addr) (sl sc : Nat) (pa : Option Addr) (pl pc : Nat) (ca : Option Addr) (cl cc : Nat) (n : Int) (w : World) (hl : pl ≤ maxLen) :
    Calls Try.prog 98 #[.agg #[.int .i64 f.len, .int .i64 f.slack, .slice sa sl sc, .slice pa pl pc, .slice ca cl cc], .int .i64 n] w fun e w' => e = .returned (.bool (btw n 0 (pl - 1))) ∧ Below w.heap.size w w' := by
  unfold maxLen at hl
  have HB := Lib.hid (fun w1 => between_any n 0 ((pl : Int) - 1) w1)
  go_enter Try.func98, Try.ntmps98
  go_wp2_with fail
  refine (HB.out _).mono ?_
  rintro e w1 ⟨rfl, rfl⟩
  go_wp2_with fail
  go_ret
  exact ⟨rfl, (by repeat (first | exact Below.refl _ _ | (refine Below.alloc ?_ (by first | omega | (simp; omega) | simp) _) | (refine Below.setCell ?_ (by first | omega | (simp; omega) | simp) _) | refine Below.drew ?_))⟩
theorem hasPiece_is (f : PFrame) (sa : Option Addr) (sl sc : Nat) (pa : Option Addr) (pl pc : Nat) (ca : Option Addr) (cl cc : Nat) (n : Int) (w : World) (hl : pl ≤ maxLen) (b : Bool) (h : btw n 0 (pl - 1) = b) :
    Calls Try.prog 98 #[.agg #[.int .i64 f.len, .int .i64 f.slack, .slice sa sl sc, .slice pa pl pc, .slice ca cl cc], .int .i64 n] w fun e w' => e = .returned (.bool b) ∧ Below w.heap.size w w' := h ▸ hasPiece_any f sa sl sc pa pl pc ca cl cc n w hl
set_option maxHeartbeats 400000 in
theorem hasColumn_any (f : PFrame) (sa : Option Addr) (sl sc : Nat) (pa : Option Addr) (pl pc : Nat) (ca : Option Addr) (cl cc : Nat) (n : Int) (w : World) (hl : cl ≤ maxLen) :
    Calls Try.prog 75 #[.agg #[.int .i64 f.len, .int .i64 f.slack, .slice sa sl sc, .slice pa pl pc, .slice ca cl cc], .int .i64 n] w fun e w' => e = .returned (.bool (btw n 0 (cl - 1))) ∧ Below w.heap.size w w' := by
  unfold maxLen at hl
  have HB := Lib.hid (fun w1 => between_any n 0 ((cl : Int) - 1) w1)
  go_enter Try.func75, Try.ntmps75
  go_wp2_with fail
  refine (HB.out _).mono ?_
  rintro e w1 ⟨rfl, rfl⟩
  go_wp2_with fail
  go_ret
  exact ⟨rfl, (by repeat (first | exact Below.refl _ _ | (refine Below.alloc ?_ (by first | omega | (simp; omega) | simp) _) | (refine Below.setCell ?_ (by first | omega | (simp; omega) | simp) _) | refine Below.drew ?_))⟩
theorem hasColumn_is (f : PFrame) (sa : Option Addr) (sl sc : Nat) (pa : Option Addr) (pl pc : Nat) (ca : Option Addr) (cl cc : Nat) (n : Int) (w : World) (hl : cl ≤ maxLen) (b : Bool) (h : btw n 0 (cl - 1) = b) :
    Calls Try.prog 75 #[.agg #[.int .i64 f.len, .int .i64 f.slack, .slice sa sl sc, .slice pa pl pc, .slice ca cl cc], .int .i64 n] w fun e w' => e = .returned (.bool b) ∧ Below w.heap.size w w' := h ▸ hasColumn_any f sa sl sc pa pl pc ca cl cc n w hl

set_option maxHeartbeats 1000000 in
theorem validPiece_any (p : Piece) (w : World) :
    Calls Try.prog 105 #[.agg #[.int .i64 p.lo, .int .i64 p.hi, .int .i64 p.pe]] w fun e w' => e = .returned (.bool (pieceB p)) ∧ Below w.heap.size w w' := by
  have HB := Lib.hid (fun w1 => between_any p.pe 0 99 w1)
  by_cases h1 : 0 ≤ p.lo
  · by_cases h2 : p.lo ≤ p.hi
    · by_cases h3 : p.hi ≤ 99
      · go_enter Try.func105, Try.ntmps105
        go_wp2_with fail
        refine (HB.out _).mono ?_
        rintro e w1 ⟨rfl, rfl⟩
        go_wp2_with fail
        go_ret
        exact ⟨ret_bool (by simp [pieceB, h1, h2, h3]), (by repeat (first | exact Below.refl _ _ | (refine Below.alloc ?_ (by first | omega | (simp; omega) | simp) _) | (refine Below.setCell ?_ (by first | omega | (simp; omega) | simp) _) | refine Below.drew ?_))⟩
      · go_enter Try.func105, Try.ntmps105
        go_wp2_with fail
        go_ret
        exact ⟨ret_bool (by simp [pieceB]; intros; omega), (by repeat (first | exact Below.refl _ _ | (refine Below.alloc ?_ (by first | omega | (simp; omega) | simp) _) | (refine Below.setCell ?_ (by first | omega | (simp; omega) | simp) _) | refine Below.drew ?_))⟩
    · go_enter Try.func105, Try.ntmps105
      go_wp2_with fail
      go_ret
      exact ⟨ret_bool (by simp [pieceB]; intros; omega), (by repeat (first | exact Below.refl _ _ | (refine Below.alloc ?_ (by first | omega | (simp; omega) | simp) _) | (refine Below.setCell ?_ (by first | omega | (simp; omega) | simp) _) | refine Below.drew ?_))⟩
  · go_enter Try.func105, Try.ntmps105
    go_wp2_with fail
    go_ret
    exact ⟨ret_bool (by simp [pieceB]; intros; omega), (by repeat (first | exact Below.refl _ _ | (refine Below.alloc ?_ (by first | omega | (simp; omega) | simp) _) | (refine Below.setCell ?_ (by first | omega | (simp; omega) | simp) _) | refine Below.drew ?_))⟩
theorem validPiece_is (p : Piece) (b : Bool) (h : pieceB p = b) (w : World) :
    Calls Try.prog 105 #[.agg #[.int .i64 p.lo, .int .i64 p.hi, .int .i64 p.pe]] w fun e w' => e = .returned (.bool b) ∧ Below w.heap.size w w' := h ▸ validPiece_any p w

theorem once_left {xs ys : List Int} (h : onceB (xs ++ ys) = true) : onceB xs = true := by
  rw [once_le] at h ⊢
  intro x
  have := h x
  rw [List.count_append] at this
  omega
theorem once_len {xs : List Int} {n : Nat} (h : onceB xs = true) (hr : ∀ x ∈ xs, 0 ≤ x ∧ x < (n : Int)) : xs.length ≤ n := by
  rw [← sum_cnt n xs hr]
  exact (sum_one _ n (fun i _ => (once_le xs).1 h _)).1
def PFrame.pre (f : PFrame) (ci k : Nat) : List Int := (f.cols.take ci).flatten ++ ((f.cols[ci]?).getD []).take k
theorem pre_end (f : PFrame) (ci : Nat) (h : ci < f.cols.length) : f.pre ci f.cols[ci].length = f.pre (ci + 1) 0 := by
  unfold PFrame.pre
  rw [List.getElem?_eq_getElem h, List.take_succ_eq_append_getElem h, List.flatten_append]
  simp
theorem pre_next (f : PFrame) (ci k : Nat) (h : ci < f.cols.length) (hk : k < f.cols[ci].length) : f.pre ci (k + 1) = f.pre ci k ++ [f.cols[ci][k]] := by
  unfold PFrame.pre
  rw [List.getElem?_eq_getElem h]
  simp only [Option.getD_some]
  rw [List.take_succ_eq_append_getElem hk, List.append_assoc]
theorem pre_all (f : PFrame) : f.pre f.cols.length 0 = f.flat := by
  unfold PFrame.pre PFrame.flat; simp
theorem pre_split (f : PFrame) (ci k : Nat) (h : ci < f.cols.length) (hk : k ≤ f.cols[ci].length) : ∃ rest, f.flat = f.pre ci k ++ rest := by
  refine ⟨f.cols[ci].drop k ++ (f.cols.drop (ci + 1)).flatten, ?_⟩
  unfold PFrame.pre PFrame.flat
  rw [List.getElem?_eq_getElem h]
  simp only [Option.getD_some]
  conv => lhs; rw [← List.take_append_drop ci f.cols, List.drop_eq_getElem_cons h, List.flatten_append, List.flatten_cons]
  rw [List.append_assoc]
  congr 1
  rw [← List.append_assoc, List.take_append_drop]
/-- Which pieces were met. -/
def MetAt (w : World) (b : Nat) (xs : List Int) : Prop := (∀ i, i < 6 → w.cell? ⟨b, i, none⟩ = some (.bool (xs.contains (i : Int)))) ∧ ∀ i, w.frozen? ⟨b, i, none⟩ = false
theorem MetAt.below {w w' : World} {b : Nat} {xs : List Int} (h : MetAt w b xs) (hb : Below w.heap.size w w') (hlt : b < w.heap.size) : MetAt w' b xs :=
  ⟨fun i hi => (hb.cell (p := ⟨b, i, none⟩) hlt).trans (h.1 i hi), fun i => (hb.frozen (p := ⟨b, i, none⟩) hlt).trans (h.2 i)⟩
theorem MetAt.set {w : World} {b : Nat} {xs : List Int} (h : MetAt w b xs) (j : Nat) (hj : j < 6) : MetAt (w.setCell ⟨b, j, none⟩ (.bool true)) b (xs ++ [(j : Int)]) := by
  refine ⟨fun i hi => ?_, fun i => ?_⟩
  · by_cases e : i = j
    · subst e
      have hs : (w.setCell ⟨b, i, none⟩ (.bool true)).cell? ⟨b, i, none⟩ = some (.bool true) := by
        have hc := h.1 i hi
        go_simp
      rw [hs]; simp
    · have hs : (w.setCell ⟨b, j, none⟩ (.bool true)).cell? ⟨b, i, none⟩ = w.cell? ⟨b, i, none⟩ := by
        have e' : ¬ j = i := fun h => e h.symm
        go_simp
      rw [hs, h.1 i hi]
      have e2 : ¬ (i : Int) = (j : Int) := by omega
      simp [e2]
  · have := h.2 i
    go_simp
theorem met_new (w : World) : MetAt (w.alloc (.cells #[.bool false, .bool false, .bool false, .bool false, .bool false, .bool false] 132)) w.heap.size [] :=
  ⟨fun i hi => by
    rw [World.cell?_alloc_new]
    match i, hi with
    | 0, _ => rfl
    | 1, _ => rfl
    | 2, _ => rfl
    | 3, _ => rfl
    | 4, _ => rfl
    | 5, _ => rfl, fun i => by go_simp⟩

theorem grown_low {w w' : World} {R : Option Nat} {N : Nat} (h : w.grownBy w' R) (hN : N ≤ w.heap.size) (hR : ∀ r, R = some r → N ≤ r) : Below N w w' :=
  ⟨h.os, h.tape, h.output, h.size, fun k hk => h.block k (by omega) (fun e => by have := hR k e.symm; omega)⟩
def PlI (f : PFrame) (pl b : Nat) (W0 : World) (xs : List Int) (wr : World) : Prop := onceB xs = true ∧ (xs.all fun i => btw i 0 ((pl : Int) - 1)) = true ∧ MetAt wr b xs ∧ W0.grownBy wr (some b)
set_option maxRecDepth 100000 in
set_option maxHeartbeats 4000000 in
theorem placed_any (f : PFrame) (sa : Option Addr) (sl sc : Nat) (pa : Option Addr) (pl pc : Nat) (ca : Option Addr) (cl cc : Nat) (hfew : f.few = true) (w : World) (hp : PAt w sa sl sc pa pl pc ca cl cc f) :
    Calls Try.prog 106 #[.agg #[.int .i64 f.len, .int .i64 f.slack, .slice sa sl sc, .slice pa pl pc, .slice ca cl cc]] w fun e w' => e = .returned (.bool f.placed) ∧ Below w.heap.size w w' := by
  obtain ⟨-, ⟨hpl, hpm, -⟩, ⟨hcl, hcm, hcc⟩⟩ := hp
  have hf2 := hfew
  unfold PFrame.few at hf2
  simp only [Bool.and_eq_true, decide_eq_true_eq] at hf2
  have hp6 : pl ≤ 6 := by omega
  have hc3 : cl ≤ 3 := by omega
  have HCL := Lib.hid hcl
  have HCC := Lib.hid hcc
  have HPL := Lib.hid hpl
  have HHP := Lib.hid (fun n b (h : btw n 0 ((pl : Int) - 1) = b) W => hasPiece_is f sa sl sc pa pl pc ca cl cc n W hpm b h)
  have HPE := Lib.hid (fun ci (h : ci < f.cols.length) => pre_end f ci h)
  have HPN := Lib.hid (fun ci k (h : ci < f.cols.length) (hk : k < f.cols[ci].length) => pre_next f ci k h hk)
  have HPS := Lib.hid (fun ci k (h : ci < f.cols.length) (hk : k ≤ f.cols[ci].length) => pre_split f ci k h hk)
  have HPA := Lib.hid (pre_all f)
  have HP0 := Lib.hid (show f.pre 0 0 = [] by simp [PFrame.pre])
  have HNO := Lib.hid (fun (xs rest : List Int) (x : Int) (h : f.flat = (xs ++ [x]) ++ rest) (h2 : btw x 0 ((pl : Int) - 1) = false ∨ xs.contains x = true) => show f.placed = false from by
    unfold PFrame.placed
    rcases h2 with h2 | h2
    · have : f.flat.all (fun i => btw i 0 ((f.pieces.length : Int) - 1)) = false := List.all_eq_false.2 ⟨x, by rw [h]; simp, by rw [hpl, h2]; simp⟩
      rw [this]; rfl
    · cases ho : onceB f.flat
      · simp
      · rw [h] at ho
        have := once_left ho
        rw [once_snoc, h2] at this
        simp at this)
  have HLN := Lib.hid (fun (xs : List Int) (h : onceB xs = true) (h2 : xs.all (fun i => btw i 0 ((pl : Int) - 1)) = true) => show xs.length ≤ 6 from by
    have := once_len (n := pl) h (fun x hx => by
      have := List.all_eq_true.1 h2 x hx
      unfold btw at this
      simp at this
      omega)
    omega)
  have HYES := Lib.hid (fun (h : onceB f.flat = true) (h2 : f.flat.all (fun i => btw i 0 ((pl : Int) - 1)) = true) => show f.placed = decide (f.flat.length = pl) from by
    unfold PFrame.placed; rw [hpl, h2, h]; simp)
  clear hpl hcl hcc hfew hf2 hpm hcm
  go_enter Try.func106, Try.ntmps106
  go_wp2_with fail
  obtain ⟨W0, hW0, hB0, hs0, hg0, hz0⟩ := name2c w #[.int .i64 f.len, .int .i64 f.slack, .slice sa sl sc, .slice pa pl pc, .slice ca cl cc] 87 #[.bool false, .bool false, .bool false, .bool false, .bool false, .bool false] 132
  have hM0 : MetAt W0 (w.heap.size + 1) [] := by
    rw [← hW0]
    have := met_new (w.alloc (.cells #[.int .i64 f.len, .int .i64 f.slack, .slice sa sl sc, .slice pa pl pc, .slice ca cl cc] 87))
    simpa using this
  rw [hW0]
  clear hW0
  have z0 : w.heap.size < W0.heap.size := by omega
  have z1 : w.heap.size + 1 < W0.heap.size := by omega
  have HB0 := Lib.hid hB0
  have HS0 := Lib.hid hs0
  have HM0 := Lib.hid hM0
  clear hB0 hs0 hg0 hM0
  obtain ⟨x0, x1, x2, x3, x4⟩ : W0.cell? ⟨w.heap.size, 0, none⟩ = some (.int .i64 f.len) ∧ W0.cell? ⟨w.heap.size, 1, none⟩ = some (.int .i64 f.slack) ∧ W0.cell? ⟨w.heap.size, 2, none⟩ = some (.slice sa sl sc) ∧ W0.cell? ⟨w.heap.size, 3, none⟩ = some (.slice pa pl pc) ∧ W0.cell? ⟨w.heap.size, 4, none⟩ = some (.slice ca cl cc) := ⟨HS0.out 0, HS0.out 1, HS0.out 2, HS0.out 3, HS0.out 4⟩
  go_wp2_with fail
  clear x0 x1 x2 x3 x4
  have HBX := Lib.hid (fun wr (hg : W0.grownBy wr (some (w.heap.size + 1))) => show wr.cell? ⟨w.heap.size, 0, none⟩ = some (.int .i64 f.len) ∧ wr.cell? ⟨w.heap.size, 1, none⟩ = some (.int .i64 f.slack) ∧ wr.cell? ⟨w.heap.size, 2, none⟩ = some (.slice sa sl sc) ∧ wr.cell? ⟨w.heap.size, 3, none⟩ = some (.slice pa pl pc) ∧ wr.cell? ⟨w.heap.size, 4, none⟩ = some (.slice ca cl cc) from
    have hne : some w.heap.size ≠ some (w.heap.size + 1) := by simp
    ⟨hg.cell (a := ⟨w.heap.size, 0, none⟩) (HS0.out 0) hne, hg.cell (a := ⟨w.heap.size, 1, none⟩) (HS0.out 1) hne, hg.cell (a := ⟨w.heap.size, 2, none⟩) (HS0.out 2) hne, hg.cell (a := ⟨w.heap.size, 3, none⟩) (HS0.out 3) hne, hg.cell (a := ⟨w.heap.size, 4, none⟩) (HS0.out 4) hne⟩)
  have HLO := Lib.hid (fun wr (hg : W0.grownBy wr (some (w.heap.size + 1))) => show Below w.heap.size w wr from HB0.out.trans (grown_low hg HB0.out.size (fun r e => by injection e with e; omega)))
  go_loopw [4, 13] (fun v4 v13 wr => ∃ ci : Nat, ci ≤ cl ∧ v13 = .int .i64 ci ∧ v4 = .int .i64 ((f.pre ci 0).length : Nat) ∧ PlI f pl (w.heap.size + 1) W0 (f.pre ci 0) wr) (fun _ v13 _ => cl - (intOf v13).toNat)
  case atStart => exact ⟨0, by omega, rfl, by rw [HP0.out]; rfl, by rw [HP0.out]; rfl, by rw [HP0.out]; rfl, by rw [HP0.out]; exact HM0.out, gbx_refl _ _⟩
  case round =>
    obtain ⟨ci, hci, rfl, rfl, hI⟩ := hrel
    have HI := Lib.hid hI
    have hbw := HLO.out wr hI.2.2.2
    have HBW := Lib.hid hbw
    obtain ⟨x0, x1, x2, x3, x4⟩ := HBX.out wr hI.2.2.2
    by_cases hlt : ci < cl
    · have hci2 : ci < f.cols.length := by rw [HCL.out]; exact hlt
      obtain ⟨cb, co, rfl, hcB, hccell⟩ := HCC.out (by omega)
      obtain ⟨ra, rl, rc, hcell, -, hri⟩ := hccell ci hci2
      have c0 := (hbw.cell (p := ⟨cb, co + ci, none⟩) hcB).trans hcell
      have hkl : (ci : Int) < (cl : Int) := by omega
      have hk0 : (0 : Int) ≤ (ci : Int) := by omega
      obtain ⟨hrl, hrm, hrc⟩ := hri
      unfold maxLen at hrm
      have HRL := Lib.hid hrl
      have HRC := Lib.hid hrc
      clear hI hbw hccell hcell hrl hrc
      go_wp2_with fail
      clear x0 x1 x2 x3 x4
      clear c0
      obtain ⟨Wo, rfl⟩ : ∃ Wo : World, Wo = wr := ⟨_, rfl⟩
      go_loopw [4, 19] (fun v4 v19 wi => ∃ k : Nat, k ≤ rl ∧ v19 = .int .i64 k ∧ v4 = .int .i64 ((f.pre ci k).length : Nat) ∧ PlI f pl (w.heap.size + 1) W0 (f.pre ci k) wi) (fun _ v19 _ => rl - (intOf v19).toNat)
      case atStart => exact ⟨0, by omega, rfl, rfl, HI.out⟩
      case round =>
        obtain ⟨k, hk, rfl, rfl, hJ⟩ := hrel
        have hln := HLN.out _ hJ.1 hJ.2.1
        have HJ := Lib.hid hJ
        have HBI := Lib.hid (HLO.out wr hJ.2.2.2)
        obtain ⟨x0, x1, x2, x3, x4⟩ := HBX.out wr hJ.2.2.2
        by_cases hlt2 : k < rl
        · have hk2 : k < f.cols[ci].length := by rw [HRL.out]; exact hlt2
          obtain ⟨rb, ro, rfl, hrB, hrcell⟩ := HRC.out (by omega)
          have cx := (HBI.out.cell (p := ⟨rb, ro + k, none⟩) hrB).trans (hrcell k hk2)
          have hkl2 : (k : Int) < (rl : Int) := by omega
          have hk02 : (0 : Int) ≤ (k : Int) := by omega
          have HN := Lib.hid (HPN.out ci k hci2 hk2)
          obtain ⟨rest, hrest⟩ := HPS.out ci (k + 1) hci2 hk2
          rw [HN.out] at hrest
          have HX := Lib.hid (fun h => HNO.out _ _ _ hrest h)
          have hM := hJ.2.2.1
          have hz : w.heap.size + 1 < wr.heap.size := Nat.lt_of_lt_of_le z1 hJ.2.2.2.size
          clear hrest hrcell hJ
          obtain ⟨x, hx⟩ : ∃ x, f.cols[ci][k] = x := ⟨_, rfl⟩
          rw [hx] at HX cx HN
          clear hx
          obtain ⟨xs, hxs⟩ : ∃ xs, f.pre ci k = xs := ⟨_, rfl⟩
          rw [hxs] at HX HN HJ hM hln ⊢
          rcases hb : btw x 0 ((pl : Int) - 1) with - | -
          · have HR := Lib.hid (HX.out (.inl hb))
            have HH := Lib.hid (HHP.out x false hb wr)
            clear hb HX hM
            go_wp2_with fail
            refine HH.out.mono ?_
            rintro e w2 ⟨rfl, hb2⟩
            have HB2 := Lib.hid (HBI.out.trans (hb2.mono HBI.out.size))
            clear hb2
            go_wp2_with fail
            go_ret
            exact ⟨ret_bool HR.out.symm, HB2.out⟩
          · have HH := Lib.hid (HHP.out x true hb wr)
            obtain ⟨j, rfl⟩ : ∃ j : Nat, x = (j : Int) := ⟨x.toNat, by unfold btw at hb; simp at hb; omega⟩
            have hj6 : j < 6 := by unfold btw at hb; simp at hb; omega
            have hj6' : (j : Int) < 6 := by omega
            have hj0 : (0 : Int) ≤ (j : Int) := by omega
            have m0 := hM.1 j hj6
            have HBB := Lib.hid hb
            have HM := Lib.hid hM
            rcases hc : xs.contains (j : Int) with - | -
            · rw [hc] at m0
              have HC := Lib.hid hc
              clear hb hc HX hM
              go_wp2_with fail
              refine HH.out.mono ?_
              rintro e w2 ⟨rfl, hb2⟩
              have m2 := (hb2.cell (p := ⟨w.heap.size + 1, j, none⟩) hz).trans m0
              have hM2 := HM.out.below hb2 hz
              have f2 := hM2.2 j
              have HM2 := Lib.hid hM2
              have HG2 := Lib.hid (gbx_below hb2 HJ.out.2.2.2)
              clear hb2 hM2 m0
              go_wp2_with fail
              go_roundw
              case rel =>
                refine ⟨k + 1, by omega, by go_num, ?_, ?_⟩
                · rw [HN.out, List.length_append]; first | rfl | go_num
                · rw [HN.out]
                  refine ⟨?_, ?_, HM2.out.set j hj6, gbx_set HG2.out _ _⟩
                  · rw [once_snoc, HJ.out.1, HC.out]; rfl
                  · rw [List.all_append, HJ.out.2.1]; simp [HBB.out]
              case measure => simp [intOf]; omega
            · rw [hc] at m0
              have HR := Lib.hid (HX.out (.inr hc))
              clear hb hc HX hM
              go_wp2_with fail
              refine HH.out.mono ?_
              rintro e w2 ⟨rfl, hb2⟩
              have m2 := (hb2.cell (p := ⟨w.heap.size + 1, j, none⟩) hz).trans m0
              have HB2 := Lib.hid (HBI.out.trans (hb2.mono HBI.out.size))
              clear hb2 m0
              go_wp2_with fail
              go_ret
              exact ⟨ret_bool HR.out.symm, HB2.out⟩
        · obtain rfl : rl = k := by omega
          have HE := Lib.hid (show f.pre ci rl = f.pre (ci + 1) 0 by rw [← HPE.out ci hci2, HRL.out])
          clear hJ
          clear x0 x1 x2 x3 x4
          go_wp2_with fail
          go_roundw
          case rel => exact ⟨ci + 1, by omega, by go_num, by rw [← HE.out], by rw [← HE.out]; exact HJ.out⟩
          case measure => simp [intOf]; omega
    · obtain rfl : cl = ci := by omega
      have e1 : f.pre cl 0 = f.flat := by rw [← HPA.out, HCL.out]
      rw [e1] at HI hI ⊢
      have hln := HLN.out _ hI.1 hI.2.1
      have HR := Lib.hid (HYES.out hI.1 hI.2.1)
      clear hI e1 hbw
      go_wp2_with fail
      go_ret
      exact ⟨ret_bool (by rw [HR.out, Bool.eq_iff_iff]; simp; omega), HBW.out⟩
end Go.Proofs.Ytcklhojeneejiaa
