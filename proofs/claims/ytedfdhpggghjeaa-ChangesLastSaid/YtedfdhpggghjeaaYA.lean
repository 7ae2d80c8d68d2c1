/- Package pages: what a frame's slices read; whether a frame is valid; sums. -/
import Derived.Test.YtedfdhpggghjeaaGA
import Derived.Lib.Hide
import Derived.Deep.QuietTactic
import Derived.BigQuiet
namespace Go.Proofs.Ytedfdhpggghjeaa
set_option linter.unusedVariables false
set_option linter.unusedSimpArgs false
open Go.RowKit

theorem bcell {W w1 : World} (hb : Below W.heap.size W w1) : (∀ b o, b < W.heap.size → w1.cell? ⟨b, o, none⟩ = W.cell? ⟨b, o, none⟩) ∧ (∀ b o, b < W.heap.size → w1.frozen? ⟨b, o, none⟩ = W.frozen? ⟨b, o, none⟩) :=
  ⟨fun b o h => hb.cell (p := ⟨b, o, none⟩) h, fun b o h => hb.frozen (p := ⟨b, o, none⟩) h⟩
theorem ret_bool {a b : Bool} (h : a = b) : Ending.returned (.bool a) = .returned (.bool b) := by rw [h]
theorem ret_i64 {a b : Int} (h : a = b) : Ending.returned (.int .i64 a) = .returned (.int .i64 b) := by rw [h]
theorem below_via {B B0 : Nat} {a b c : World} (h : Hid (Below B0 b c)) (hb : B ≤ B0) (k : Below B a b) : Below B a c := k.trans (h.out.mono hb)
theorem name1k (w : World) (ds : Array Value) (U : TypeId) :
    ∃ W0, w.alloc (.cells ds U) = W0 ∧ Below w.heap.size w W0 ∧ (∀ i, W0.cell? ⟨w.heap.size, i, none⟩ = ds[i]?) ∧ w.heap.size < W0.heap.size :=
  ⟨_, rfl, (by repeat (first | exact Below.refl _ _ | (refine Below.alloc ?_ (by first | omega | (simp; omega) | simp) _) | (refine Below.setCell ?_ (by first | omega | (simp; omega) | simp) _) | refine Below.drew ?_)), fun i => World.cell?_alloc_new w _ _ i, by simp⟩
theorem name2c (w : World) (cs : Array Value) (T : TypeId) (ds : Array Value) (U : TypeId) :
    ∃ W0, (w.alloc (.cells cs T)).alloc (.cells ds U) = W0 ∧ Below w.heap.size w W0 ∧ (∀ i, W0.cell? ⟨w.heap.size, i, none⟩ = cs[i]?) ∧ (∀ i, W0.cell? ⟨w.heap.size + 1, i, none⟩ = ds[i]?) ∧ W0.heap.size = w.heap.size + 1 + 1 :=
  ⟨_, rfl, (by repeat (first | exact Below.refl _ _ | (refine Below.alloc ?_ (by first | omega | (simp; omega) | simp) _) | (refine Below.setCell ?_ (by first | omega | (simp; omega) | simp) _) | refine Below.drew ?_)), fun i => by go_simp, fun i => by go_simp, by simp⟩
theorem all_next {α : Type} {f : α → Bool} {x : List α} {k : Nat} (h : (x.take k).all f = true) (hk : k < x.length) : (x.take (k + 1)).all f = f x[k] := by
  rw [List.take_succ_eq_append_getElem hk, List.all_append, h]; simp
theorem all_no {α : Type} {f : α → Bool} {x : List α} {k : Nat} (hk : k < x.length) (h : f x[k] = false) : x.all f = false :=
  List.all_eq_false.2 ⟨x[k], List.getElem_mem hk, by simp [h]⟩
theorem all_done {α : Type} {f : α → Bool} {x : List α} {n : Nat} (h : (x.take n).all f = true) (hn : x.length = n) : x.all f = true := by
  rwa [List.take_of_length_le (by omega)] at h
def btw (n lo hi : Int) : Bool := decide (lo ≤ n ∧ n ≤ hi)

structure Strip where
  t : Int
  m : Int
structure Piece where
  lo : Int
  hi : Int
  pe : Int
structure PFrame where
  len : Int
  slack : Int
  strips : List Strip
  pieces : List Piece
  cols : List (List Int)
def StripsAt (w : World) (a : Option Addr) (len : Nat) (ps : List Strip) : Prop :=
  ps.length = len ∧ len ≤ maxLen ∧ (0 < len → ∃ b o, a = some ⟨b, o, none⟩ ∧ b < w.heap.size ∧ ∀ i (h : i < ps.length), w.cell? ⟨b, o + i * 2, none⟩ = some (.int .i64 ps[i].t) ∧ w.cell? ⟨b, o + i * 2 + 1, none⟩ = some (.int .i64 ps[i].m))
def PiecesAt (w : World) (a : Option Addr) (len : Nat) (ps : List Piece) : Prop :=
  ps.length = len ∧ len ≤ maxLen ∧ (0 < len → ∃ b o, a = some ⟨b, o, none⟩ ∧ b < w.heap.size ∧ ∀ i (h : i < ps.length), w.cell? ⟨b, o + i * 3, none⟩ = some (.int .i64 ps[i].lo) ∧ w.cell? ⟨b, o + i * 3 + 1, none⟩ = some (.int .i64 ps[i].hi) ∧ w.cell? ⟨b, o + i * 3 + 2, none⟩ = some (.int .i64 ps[i].pe))
def IntsAt (w : World) (a : Option Addr) (len : Nat) (xs : List Int) : Prop :=
  xs.length = len ∧ len ≤ maxLen ∧ (0 < len → ∃ b o, a = some ⟨b, o, none⟩ ∧ b < w.heap.size ∧ ∀ i (h : i < xs.length), w.cell? ⟨b, o + i, none⟩ = some (.int .i64 xs[i]))
def ListsAt (w : World) (a : Option Addr) (len : Nat) (xs : List (List Int)) : Prop :=
  xs.length = len ∧ len ≤ maxLen ∧ (0 < len → ∃ b o, a = some ⟨b, o, none⟩ ∧ b < w.heap.size ∧ ∀ i (h : i < xs.length), ∃ ra rl rc, w.cell? ⟨b, o + i, none⟩ = some (.slice ra rl rc) ∧ (rl ≤ rc ∧ rc ≤ maxLen) ∧ IntsAt w ra rl xs[i])
theorem StripsAt.below {w w1 : World} {a : Option Addr} {len : Nat} {ps : List Strip} (hb : Below w.heap.size w w1) (h : StripsAt w a len ps) : StripsAt w1 a len ps := by
  obtain ⟨h1, h2, h3⟩ := h
  refine ⟨h1, h2, fun hl => ?_⟩
  obtain ⟨b, o, ha, hB, hc⟩ := h3 hl
  exact ⟨b, o, ha, Nat.lt_of_lt_of_le hB hb.size, fun i hi => ⟨(hb.cell (p := ⟨b, _, none⟩) hB).trans (hc i hi).1, (hb.cell (p := ⟨b, _, none⟩) hB).trans (hc i hi).2⟩⟩
theorem PiecesAt.below {w w1 : World} {a : Option Addr} {len : Nat} {ps : List Piece} (hb : Below w.heap.size w w1) (h : PiecesAt w a len ps) : PiecesAt w1 a len ps := by
  obtain ⟨h1, h2, h3⟩ := h
  refine ⟨h1, h2, fun hl => ?_⟩
  obtain ⟨b, o, ha, hB, hc⟩ := h3 hl
  exact ⟨b, o, ha, Nat.lt_of_lt_of_le hB hb.size, fun i hi => ⟨(hb.cell (p := ⟨b, _, none⟩) hB).trans (hc i hi).1, (hb.cell (p := ⟨b, _, none⟩) hB).trans (hc i hi).2.1, (hb.cell (p := ⟨b, _, none⟩) hB).trans (hc i hi).2.2⟩⟩
theorem IntsAt.below {w w1 : World} {a : Option Addr} {len : Nat} {xs : List Int} (hb : Below w.heap.size w w1) (h : IntsAt w a len xs) : IntsAt w1 a len xs := by
  obtain ⟨h1, h2, h3⟩ := h
  refine ⟨h1, h2, fun hl => ?_⟩
  obtain ⟨b, o, ha, hB, hc⟩ := h3 hl
  exact ⟨b, o, ha, Nat.lt_of_lt_of_le hB hb.size, fun i hi => (hb.cell (p := ⟨b, _, none⟩) hB).trans (hc i hi)⟩
theorem ListsAt.below {w w1 : World} {a : Option Addr} {len : Nat} {xs : List (List Int)} (hb : Below w.heap.size w w1) (h : ListsAt w a len xs) : ListsAt w1 a len xs := by
  obtain ⟨h1, h2, h3⟩ := h
  refine ⟨h1, h2, fun hl => ?_⟩
  obtain ⟨b, o, ha, hB, hc⟩ := h3 hl
  refine ⟨b, o, ha, Nat.lt_of_lt_of_le hB hb.size, fun i hi => ?_⟩
  obtain ⟨ra, rl, rc, h4, h5, h6⟩ := hc i hi
  exact ⟨ra, rl, rc, (hb.cell (p := ⟨b, _, none⟩) hB).trans h4, h5, h6.below hb⟩
theorem ints_nil (w : World) : IntsAt w none 0 [] := ⟨rfl, by unfold maxLen; omega, fun h => by omega⟩
/-- What a frame's three slices read. -/
def PAt (w : World) (sa : Option Addr) (sl sc : Nat) (pa : Option Addr) (pl pc : Nat) (ca : Option Addr) (cl cc : Nat) (f : PFrame) : Prop := StripsAt w sa sl f.strips ∧ PiecesAt w pa pl f.pieces ∧ ListsAt w ca cl f.cols
theorem PAt.below {w w1 : World} {sa : Option Addr} {sl sc : Nat} {pa : Option Addr} {pl pc : Nat} {ca : Option Addr} {cl cc : Nat} {f : PFrame} (hb : Below w.heap.size w w1) (h : PAt w sa sl sc pa pl pc ca cl cc f) : PAt w1 sa sl sc pa pl pc ca cl cc f :=
  ⟨h.1.below hb, h.2.1.below hb, h.2.2.below hb⟩

def stripB (s : Strip) : Bool := btw s.t 1 30 && btw s.m 0 4
def pieceB (p : Piece) : Bool := decide (0 ≤ p.lo) && decide (p.lo ≤ p.hi) && decide (p.hi ≤ 99) && btw p.pe 0 99
def PFrame.few (f : PFrame) : Bool := decide (f.strips.length ≤ 3) && decide (f.pieces.length ≤ 6) && decide (f.cols.length ≤ 3)
/-- Each piece is in the columns just once. -/
def onceB : List Int → Bool
  | [] => true
  | x :: xs => !xs.contains x && onceB xs
def PFrame.flat (f : PFrame) : List Int := f.cols.flatten
def PFrame.placed (f : PFrame) : Bool := f.flat.all (fun i => btw i 0 (f.pieces.length - 1)) && onceB f.flat && decide (f.flat.length = f.pieces.length)
def PFrame.ok (f : PFrame) : Bool := btw f.len 0 300 && btw f.slack 0 9 && f.few && f.strips.all stripB && f.pieces.all pieceB && f.placed

theorem once_snoc : ∀ (xs : List Int) (x : Int), onceB (xs ++ [x]) = (onceB xs && !xs.contains x)
  | [], x => by simp [onceB]
  | y :: xs, x => by
    rw [List.cons_append, onceB, onceB, once_snoc xs x]
    by_cases h : y = x
    · subst h; simp
    · have h' : ¬ x = y := fun e => h e.symm
      simp [h, h']
      cases xs.contains y <;> cases onceB xs <;> simp
theorem once_take {xs : List Int} {k : Nat} (h : onceB xs = true) : onceB (xs.take k) = true := by
  induction xs generalizing k with
  | nil => simp [onceB]
  | cons x xs ih =>
    cases k with
    | zero => simp [onceB]
    | succ k =>
      simp [onceB] at h ⊢
      exact ⟨fun hm => h.1 (List.mem_of_mem_take hm), ih h.2⟩
/-- Sums. -/
def sumG (g : Int → Int) : List Int → Int
  | [] => 0
  | x :: xs => g x + sumG g xs
theorem sumG_app (g : Int → Int) : ∀ xs ys, sumG g (xs ++ ys) = sumG g xs + sumG g ys
  | [], ys => by simp [sumG]
  | x :: xs, ys => by rw [List.cons_append, sumG, sumG, sumG_app g xs ys]; omega
theorem sumG_next {g : Int → Int} {xs : List Int} {k : Nat} (h : k < xs.length) : sumG g (xs.take (k + 1)) = sumG g (xs.take k) + g xs[k] := by
  rw [List.take_succ_eq_append_getElem h, sumG_app]; simp [sumG]
theorem sumG_bd {g : Int → Int} {xs : List Int} {B : Int} (h : ∀ x ∈ xs, 0 ≤ g x ∧ g x ≤ B) : 0 ≤ sumG g xs ∧ sumG g xs ≤ B * xs.length := by
  induction xs with
  | nil => simp [sumG]
  | cons x xs ih =>
    have h1 := h x (by simp)
    have h2 := ih (fun y hy => h y (by simp [hy]))
    simp only [sumG, List.length_cons]
    push_cast
    rw [Int.mul_add]
    omega
def PFrame.lo (f : PFrame) (i : Int) : Int := ((f.pieces[i.toNat]?).map Piece.lo).getD 0
def PFrame.hi (f : PFrame) (i : Int) : Int := ((f.pieces[i.toNat]?).map Piece.hi).getD 0
def PFrame.loS (f : PFrame) (xs : List Int) : Int := sumG f.lo xs
def PFrame.hiS (f : PFrame) (xs : List Int) : Int := sumG f.hi xs
theorem PFrame.ok_parts {f : PFrame} (h : f.ok = true) : 0 ≤ f.len ∧ f.len ≤ 300 ∧ 0 ≤ f.slack ∧ f.slack ≤ 9 ∧ f.strips.length ≤ 3 ∧ f.pieces.length ≤ 6 ∧ f.cols.length ≤ 3 := by
  unfold PFrame.ok PFrame.few btw at h
  simp at h
  omega
theorem PFrame.ok_strip {f : PFrame} (h : f.ok = true) (i : Nat) (hi : i < f.strips.length) : 1 ≤ f.strips[i].t ∧ f.strips[i].t ≤ 30 ∧ 0 ≤ f.strips[i].m ∧ f.strips[i].m ≤ 4 := by
  unfold PFrame.ok at h
  simp only [Bool.and_eq_true] at h
  have := List.all_eq_true.1 h.1.1.2 _ (List.getElem_mem hi)
  unfold stripB btw at this
  simp at this
  omega
theorem PFrame.ok_piece {f : PFrame} (h : f.ok = true) (i : Nat) (hi : i < f.pieces.length) : 0 ≤ f.pieces[i].lo ∧ f.pieces[i].lo ≤ f.pieces[i].hi ∧ f.pieces[i].hi ≤ 99 ∧ 0 ≤ f.pieces[i].pe ∧ f.pieces[i].pe ≤ 99 := by
  unfold PFrame.ok at h
  simp only [Bool.and_eq_true] at h
  have := List.all_eq_true.1 h.1.2 _ (List.getElem_mem hi)
  unfold pieceB btw at this
  simp at this
  omega
theorem PFrame.ok_flat {f : PFrame} (h : f.ok = true) : (∀ x ∈ f.flat, 0 ≤ x ∧ x < (f.pieces.length : Int)) ∧ onceB f.flat = true ∧ f.flat.length = f.pieces.length := by
  unfold PFrame.ok PFrame.placed at h
  simp only [Bool.and_eq_true, decide_eq_true_eq] at h
  refine ⟨fun x hx => ?_, h.2.1.2, h.2.2⟩
  have := List.all_eq_true.1 h.2.1.1 x hx
  unfold btw at this
  simp at this
  omega
theorem PFrame.ok_col {f : PFrame} (h : f.ok = true) (i : Nat) (hi : i < f.cols.length) : (∀ x ∈ f.cols[i], 0 ≤ x ∧ x < (f.pieces.length : Int)) ∧ f.cols[i].length ≤ 6 := by
  obtain ⟨h1, -, h3⟩ := PFrame.ok_flat h
  have h6 := (PFrame.ok_parts h).2.2.2.2.2.1
  refine ⟨fun x hx => h1 x (List.mem_flatten.2 ⟨_, List.getElem_mem hi, hx⟩), ?_⟩
  have : ∀ (ls : List (List Int)) (i : Nat) (hi : i < ls.length), ls[i].length ≤ ls.flatten.length := by
    intro ls
    induction ls with
    | nil => intro i hi; simp at hi
    | cons l ls ih =>
      intro i hi
      cases i with
      | zero => simp
      | succ i => have := ih i (by simpa using hi); rw [List.flatten_cons, List.length_append, List.getElem_cons_succ]; omega
  have h2 := this f.cols i hi
  unfold PFrame.flat at h3
  omega
theorem PFrame.lo_bd {f : PFrame} (h : f.ok = true) (x : Int) : 0 ≤ f.lo x ∧ f.lo x ≤ 99 := by
  unfold PFrame.lo
  by_cases hx : x.toNat < f.pieces.length
  · have := PFrame.ok_piece h _ hx
    rw [List.getElem?_eq_getElem hx]; simp; omega
  · rw [List.getElem?_eq_none (by omega)]; simp
theorem PFrame.hi_bd {f : PFrame} (h : f.ok = true) (x : Int) : 0 ≤ f.hi x ∧ f.hi x ≤ 99 := by
  unfold PFrame.hi
  by_cases hx : x.toNat < f.pieces.length
  · have := PFrame.ok_piece h _ hx
    rw [List.getElem?_eq_getElem hx]; simp; omega
  · rw [List.getElem?_eq_none (by omega)]; simp
theorem PFrame.lo_hi {f : PFrame} (h : f.ok = true) (x : Int) : f.lo x ≤ f.hi x := by
  unfold PFrame.lo PFrame.hi
  by_cases hx : x.toNat < f.pieces.length
  · have := PFrame.ok_piece h _ hx
    rw [List.getElem?_eq_getElem hx]; simp; omega
  · rw [List.getElem?_eq_none (by omega)]; simp
end Go.Proofs.Ytedfdhpggghjeaa
