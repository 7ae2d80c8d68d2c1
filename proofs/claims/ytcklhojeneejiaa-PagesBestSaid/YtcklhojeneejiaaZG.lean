/- Package pages: lay: all layouts that begin so, one behind the other. -/
import Derived.Test.YtcklhojeneejiaaZF
namespace Go.Proofs.Ytcklhojeneejiaa
set_option linter.unusedVariables false
set_option linter.unusedSimpArgs false
open Go.RowKit Go.Shelf

attribute [local go_sem] Oper.semAt_some

def colAt (ls : List T3) (i : Nat) : T3 := (ls[i]?).getD ⟨0, 0, 0⟩
def cells9 (ls : List T3) : Array Value := #[.int .i64 (colAt ls 0).a, .int .i64 (colAt ls 0).b, .int .i64 (colAt ls 0).c, .int .i64 (colAt ls 1).a, .int .i64 (colAt ls 1).b, .int .i64 (colAt ls 1).c, .int .i64 (colAt ls 2).a, .int .i64 (colAt ls 2).b, .int .i64 (colAt ls 2).c]
def encL (ls : List T3) : Array Value := #[.agg (cells9 ls)]
def GoodL (ls : List T3) : Prop := ls.length ≤ 3 ∧ ∀ s ∈ ls, fewS s
/-- How a walk of lay ends. -/
def LayPost (N : Nat) (J : List (List T3) → World → Prop) (Stop : World → Prop) (pre new : List (List T3)) (W : World) (e : Ending) (W' : World) : Prop :=
  (e = .returned (.bool true) ∧ J (pre ++ new) W' ∧ KeepsUp N W W') ∨ (e = .returned (.bool false) ∧ Stop W' ∧ KeepsUp N W W')
/-- The rooms, in a block from N on. -/
def RoomsAt (N : Nat) (w : World) (a : Option Addr) (len : Nat) (rs : List (Int × Int)) : Prop :=
  rs.length = len ∧ (0 < len → ∃ b, a = some ⟨b, 0, none⟩ ∧ N ≤ b ∧ b < w.heap.size ∧ ∀ i (h : i < rs.length), w.cell? ⟨b, i * 2, none⟩ = some (.int .i64 rs[i].1) ∧ w.cell? ⟨b, i * 2 + 1, none⟩ = some (.int .i64 rs[i].2))
theorem RoomsAt.up {N : Nat} {w w' : World} {a : Option Addr} {len : Nat} {rs : List (Int × Int)} (h : RoomsAt N w a len rs) (hk : KeepsUp N w w') : RoomsAt N w' a len rs := by
  obtain ⟨h1, h2⟩ := h
  refine ⟨h1, fun hl => ?_⟩
  obtain ⟨b, ha, hN, hb, hc⟩ := h2 hl
  exact ⟨b, ha, hN, Nat.lt_of_lt_of_le hb hk.1, fun i hi => ⟨(hk.cell hN hb _).trans (hc i hi).1, (hk.cell hN hb _).trans (hc i hi).2⟩⟩

/-- What lay's seven blocks hold: the frame, what is begun, how many columns, the rooms, what is left, yield, the answer. -/
def LayBox (f : PFrame) (sa : Option Addr) (sl sc : Nat) (pa : Option Addr) (pl pc : Nat) (ca : Option Addr) (cl cc : Nat) (begun : List T3) (k : Int) (ra : Option Addr) (rl rc : Nat) (left : T3) (l B : Nat) (w : World) : Prop :=
  B + 1 + 1 + 1 + 1 + 1 + 1 < w.heap.size ∧ (∀ i, w.cell? ⟨B, i, none⟩ = (#[.int .i64 f.len, .int .i64 f.slack, .slice sa sl sc, .slice pa pl pc, .slice ca cl cc] : Array Value)[i]?) ∧ ((∀ i, w.cell? ⟨B + 1, i, none⟩ = (cells9 begun)[i]?) ∧ ∀ i, w.frozen? ⟨B + 1, i, none⟩ = false) ∧ w.cell? ⟨B + 1 + 1, 0, none⟩ = some (.int .i64 k) ∧ w.cell? ⟨B + 1 + 1 + 1, 0, none⟩ = some (.slice ra rl rc) ∧
  (∀ i, w.cell? ⟨B + 1 + 1 + 1 + 1, i, none⟩ = (#[.int .i64 left.a, .int .i64 left.b, .int .i64 left.c] : Array Value)[i]?) ∧ w.cell? ⟨B + 1 + 1 + 1 + 1 + 1, 0, none⟩ = some (.func (.yield l) #[] #[]) ∧ w.cell? ⟨B + 1 + 1 + 1 + 1 + 1 + 1, 0, none⟩ = some (.bool false) ∧ w.frozen? ⟨B + 1 + 1 + 1 + 1 + 1 + 1, 0, none⟩ = false
theorem LayBox.of {f : PFrame} {sa : Option Addr} {sl sc : Nat} {pa : Option Addr} {pl pc : Nat} {ca : Option Addr} {cl cc : Nat} {begun : List T3} {k : Int} {ra : Option Addr} {rl rc : Nat} {left : T3} {l B : Nat} {w w' : World} (h : LayBox f sa sl sc pa pl pc ca cl cc begun k ra rl rc left l B w)
    (hs : w.heap.size ≤ w'.heap.size) (hb : ∀ j, B ≤ j → j ≤ B + 6 → w'.heap[j]? = w.heap[j]?) : LayBox f sa sl sc pa pl pc ca cl cc begun k ra rl rc left l B w' := by
  obtain ⟨h0, h1, ⟨h2, h2f⟩, h3, h4, h5, h6, h7, h7f⟩ := h
  have hc : ∀ j i, B ≤ j → j ≤ B + 6 → w'.cell? ⟨j, i, none⟩ = w.cell? ⟨j, i, none⟩ := fun j i h1 h2 => World.cell?_of_block (w := w) (a := ⟨j, i, none⟩) (hb j h1 h2)
  have hf : ∀ j i, B ≤ j → j ≤ B + 6 → w'.frozen? ⟨j, i, none⟩ = w.frozen? ⟨j, i, none⟩ := fun j i h1 h2 => World.frozen?_of_block (w := w) (a := ⟨j, i, none⟩) (hb j h1 h2)
  exact ⟨by omega, fun i => (hc _ i (by omega) (by omega)).trans (h1 i), ⟨fun i => (hc _ i (by omega) (by omega)).trans (h2 i), fun i => (hf _ i (by omega) (by omega)).trans (h2f i)⟩, (hc _ _ (by omega) (by omega)).trans h3, (hc _ _ (by omega) (by omega)).trans h4,
    fun i => (hc _ i (by omega) (by omega)).trans (h5 i), (hc _ _ (by omega) (by omega)).trans h6, (hc _ _ (by omega) (by omega)).trans h7, (hf _ _ (by omega) (by omega)).trans h7f⟩
theorem lay_boxes (f : PFrame) (sa : Option Addr) (sl sc : Nat) (pa : Option Addr) (pl pc : Nat) (ca : Option Addr) (cl cc : Nat) (begun : List T3) (k : Int) (ra : Option Addr) (rl rc : Nat) (left : T3) (l : Nat) (W : World) :
    ∃ W0, (((((((W.alloc (.cells #[.int .i64 f.len, .int .i64 f.slack, .slice sa sl sc, .slice pa pl pc, .slice ca cl cc] 87)).alloc (.cells (cells9 begun) 101)).alloc (.cells #[.int .i64 k] 3)).alloc (.cells #[.slice ra rl rc] 135)).alloc (.cells #[.int .i64 left.a, .int .i64 left.b, .int .i64 left.c] 99)).alloc (.cells #[.func (.yield l) #[] #[]] 133)).alloc (.cells #[.bool false] 4)) = W0 ∧
      Below W.heap.size W W0 ∧ LayBox f sa sl sc pa pl pc ca cl cc begun k ra rl rc left l W.heap.size W0 ∧ W0.heap.size = W.heap.size + 7 := by
  refine ⟨_, rfl, (by repeat (first | exact Below.refl _ _ | (refine Below.alloc ?_ (by first | omega | (simp; omega) | simp) _) | (refine Below.setCell ?_ (by first | omega | (simp; omega) | simp) _) | refine Below.drew ?_)), ⟨by simp, fun i => by go_simp, ⟨fun i => by go_simp, fun i => by go_simp⟩, by go_simp, by go_simp, fun i => by go_simp, by go_simp, by go_simp, by go_simp⟩, by simp⟩

set_option maxRecDepth 100000 in
set_option maxHeartbeats 8000000 in
theorem lay_end (f : PFrame) (sa : Option Addr) (sl sc : Nat) (pa : Option Addr) (pl pc : Nat) (ca : Option Addr) (cl cc : Nat) (l N : Nat) (Good : List T3 → Prop) (J : List (List T3) → World → Prop) (Stop : World → Prop)
    (hJ : ∀ pre W1 W2, J pre W1 → Below N W1 W2 → J pre W2) (hStop : ∀ W1 W2, Stop W1 → Below N W1 W2 → Stop W2)
    (hY : ∀ pre x W, J pre W → N ≤ W.heap.size → Good x → YieldAt Fence.wide 12 Try.prog l (encL x) W (LayPost N J Stop pre [x] W))
    (ra : Option Addr) (rl rc : Nat) (begun : List T3) (left : T3) (pre : List (List T3)) (W : World) (hg : Good begun) (hJp : J pre W) (hN : N ≤ W.heap.size) :
    Calls Try.prog 117 #[.agg #[.int .i64 f.len, .int .i64 f.slack, .slice sa sl sc, .slice pa pl pc, .slice ca cl cc], .agg (cells9 begun), .int .i64 rl, .slice ra rl rc, .agg #[.int .i64 left.a, .int .i64 left.b, .int .i64 left.c], .func (.yield l) #[] #[]] W (LayPost N J Stop pre [begun] W) := by
  obtain ⟨W0, hW0, hB0, hbx, hz0⟩ := lay_boxes f sa sl sc pa pl pc ca cl cc begun (rl : Int) ra rl rc left l W
  have hJ0 := hJ _ _ _ hJp (hB0.mono hN)
  obtain ⟨fn, tmps, assign, body, hy, hR⟩ := yield_deep (F := Fence.wide) rfl 13 (hY _ begun W0 hJ0 (by omega) hg)
  unfold encL cells9 at hy
  obtain ⟨hx0, b0, ⟨b1, b1f⟩, b2, b3, b4, b5, b6, b6f⟩ := hbx
  have y0 := b1 0
  have y1 := b1 1
  have y2 := b1 2
  have y3 := b1 3
  have y4 := b1 4
  have y5 := b1 5
  have y6 := b1 6
  have y7 := b1 7
  have y8 := b1 8
  unfold cells9 at y0 y1 y2 y3 y4 y5 y6 y7 y8
  simp only [List.getElem?_toArray, List.getElem?_cons_zero, List.getElem?_cons_succ] at y0 y1 y2 y3 y4 y5 y6 y7 y8
  have HR := Lib.hid hR
  have HB0 := Lib.hid hB0
  have HST := Lib.hid hStop
  have HJ := Lib.hid hJ
  clear hR hJ0 hB0 hJp hY hJ hStop b1 b1f b0 b4
  have e1 : ((rl : Int) == (rl : Int)) = true := by simp
  refine (callsIn_wide (n := 14)).1 ?_
  refine callsIn_of_wp_marks Try.func117 rfl trivial ?_ rfl
  simp only [Try.ntmps117, List.size_toArray, List.length_cons, List.length_nil, Nat.reduceAdd, Nat.reduceSub, Array.replicate_succ, Array.replicate_zero, List.push_toArray, List.append_toArray, List.nil_append, List.cons_append]
  gi_upto_region 1 with fail
  try rw [hW0]
  clear hW0
  gi_wp2_with fail
  refine HR.out.mono ?_
  rintro e w3 (⟨rfl, hJ3, hk3⟩ | ⟨rfl, hJ3, hk3⟩)
  all_goals have c6 := (hk3.cell (by omega) (by omega) 0).trans b6
  all_goals have c6f := (hk3.frozen (by omega) (by omega) 0).trans b6f
  all_goals have hs3 := hk3.1
  all_goals clear b6 b6f y0 y1 y2 y3 y4 y5 y6 y7 y8 b2 b3 b5 hy
  · gi_wp2_with fail
    have hrd := set_cell (v := .bool true) c6
    exact ⟨.bool true, by simp [results, Try.results117, go_sem, hrd], .inl ⟨rfl, HJ.out _ _ _ hJ3 ((Below.refl N w3).setCell (by show N ≤ W.heap.size + 1 + 1 + 1 + 1 + 1 + 1; omega) _), ((KeepsUp.below HB0.out).trans hk3).set (.inr (by omega)) _⟩⟩
  · gi_wp2_with fail
    have hrd := set_cell (v := .bool false) c6
    exact ⟨.bool false, by simp [results, Try.results117, go_sem, hrd], .inr ⟨rfl, HST.out _ _ hJ3 ((Below.refl N w3).setCell (by show N ≤ W.heap.size + 1 + 1 + 1 + 1 + 1 + 1; omega) _), ((KeepsUp.below HB0.out).trans hk3).set (.inr (by omega)) _⟩⟩
end Go.Proofs.Ytcklhojeneejiaa
