/- Package flongs: all shares that are just enough, and the leaves of their walk. -/
import Derived.Test.YtigeiaiohdemiaaFI
import Derived.RangeFuncNested
import Derived.RangeFuncBound
import Derived.RangeFuncCalls
import Derived.RangeFuncLeaves
import Derived.Shelf.Abstract
import Derived.Shelf.RegionOpen
import Derived.OwnWalkIn
import Derived.TacticsInMore
import Derived.LoopNIn
import Derived.LoopIn
import Derived.Deep.OwnRows
import Derived.Sort.LoopGhostIn
namespace Go.Proofs.Ytigeiaiohdemiaa
set_option linter.unusedVariables false
set_option linter.unusedSimpArgs false
open Go.RowKit Go.Shelf

theorem round_deep {F : Fence} (hd : F.depth = none) {m m' : Nat} {P : Program} {l : Nat} {f : FuncId} {tmps : Array Value} {assign body : Code} {w : World} {R : Ending → World → Prop}
    (h : RoundIn F m P l f tmps assign body w R) : RoundIn F m' P l f tmps assign body w R := ⟨h.1, fun c cs _ => h.2 c cs (fun d e => by rw [hd] at e; cases e)⟩
/-- At a fence that asks no depth the depths are all one. -/
theorem yield_deep {F : Fence} (hd : F.depth = none) {m : Nat} (m' : Nat) {P : Program} {l : Nat} {args : Array Value} {W : World} {R : Ending → World → Prop} (h : YieldAt F m P l args W R) : YieldAt F m' P l args W R := by
  obtain ⟨fn, tmps, assign, body, hy, hR⟩ := h
  exact ⟨fn, tmps, assign, body, hy, round_deep hd hR⟩

/-- A block of numbers. -/
def HoldsI (w : World) (b : Nat) (x : List Int) : Prop := b < w.heap.size ∧ (∀ i (h : i < x.length), w.cell? ⟨b, i, none⟩ = some (.int .i64 x[i])) ∧ ∀ i, w.frozen? ⟨b, i, none⟩ = false
theorem HoldsI.block {w w' : World} {b : Nat} {x : List Int} (h : HoldsI w b x) (hs : w.heap.size ≤ w'.heap.size) (e : w'.heap[b]? = w.heap[b]?) : HoldsI w' b x :=
  ⟨Nat.lt_of_lt_of_le h.1 hs, fun i hi => (World.cell?_of_block (w := w) (a := ⟨b, i, none⟩) e).trans (h.2.1 i hi), fun i => (World.frozen?_of_block (w := w) (a := ⟨b, i, none⟩) e).trans (h.2.2 i)⟩
theorem HoldsI.other {w w' : World} {b : Nat} {x : List Int} {row : Option Nat} (h : HoldsI w b x) (hg : w.grownBy w' row) (hne : some b ≠ row) : HoldsI w' b x :=
  h.block hg.size (hg.block b h.1 hne)
theorem HoldsI.below {w w' : World} {b : Nat} {x : List Int} (h : HoldsI w b x) (hb : Below w.heap.size w w') : HoldsI w' b x := h.block hb.size (hb.block b h.1)
theorem HoldsI.set {w : World} {b : Nat} {x : List Int} (h : HoldsI w b x) {p : Nat} (hp : p < x.length) (v : Int) : HoldsI (w.setCell ⟨b, p, none⟩ (.int .i64 v)) b (x.set p v) := by
  refine ⟨by simpa using h.1, fun i hi => ?_, fun i => (World.frozen?_setCell _ _ _ _).trans (h.2.2 i)⟩
  have hi' : i < x.length := by simpa using hi
  by_cases e : i = p
  · subst e
    rw [set_same (h.2.1 i hi')]; simp
  · rw [set_other (by intro k; injection k with _ k2; exact e k2.symm), h.2.1 i hi', List.getElem_set_ne (by omega)]
theorem HoldsI.ints {w : World} {b : Nat} {x : List Int} (h : HoldsI w b x) (hm : x.length ≤ maxLen) : IntsAt w (some ⟨b, 0, none⟩) x.length x :=
  ⟨rfl, hm, fun _ => ⟨b, 0, rfl, h.1, fun i hi => by rw [Nat.zero_add]; exact h.2.1 i hi⟩⟩

/-- The numbers of a row that calls have made. -/
def RowI (w : World) (n0 b k cap : Nat) (x : List Int) : Prop := w.ownsRow n0 3 1 (.slice (some ⟨b, 0, none⟩) k cap) k (x.map (Value.int .i64))
theorem RowI.len {w : World} {n0 b k cap : Nat} {x : List Int} (h : RowI w n0 b k cap x) : x.length = k := by have := h.1; simpa using this
theorem RowI.parts {w : World} {n0 b k cap : Nat} {x : List Int} (h : RowI w n0 b k cap x) : n0 ≤ b ∧ k ≤ cap ∧ cap ≤ maxLen ∧ ∃ cur : Array Value, w.heap[b]? = some (.cells cur 3 (0, 0)) ∧ cur.size = cap ∧ cur.toList.take k = x.map (Value.int .i64) := by
  rcases h.2 with ⟨e, _⟩ | ⟨g, c, cur, e, h1, h2, h3, h4, h5, h6⟩
  · cases e
  · injection e with e1 _ e3
    injection e1 with e1
    injection e1 with e1
    subst e1 e3
    exact ⟨h1, h3, h4, cur, h2, by simpa using h5, by simpa [h.len] using h6⟩
theorem RowI.of {w : World} {n0 b k cap : Nat} {x : List Int} (h0 : n0 ≤ b) (hk : k ≤ cap) (hm : cap ≤ maxLen) (hx : x.length = k) (cur : Array Value) (hc : w.heap[b]? = some (.cells cur 3 (0, 0))) (hz : cur.size = cap) (ht : cur.toList.take k = x.map (Value.int .i64)) : RowI w n0 b k cap x :=
  ⟨by simpa using hx, .inr ⟨b, cap, cur, rfl, h0, hc, hk, hm, by simpa using hz, by simpa [hx] using ht⟩⟩
theorem RowI.lt {w : World} {n0 b k cap : Nat} {x : List Int} (h : RowI w n0 b k cap x) : b < w.heap.size := by
  obtain ⟨_, _, _, cur, hc, _⟩ := h.parts
  exact (Array.getElem?_eq_some_iff.1 hc).1
theorem RowI.block {w w' : World} {n0 b k cap : Nat} {x : List Int} (h : RowI w n0 b k cap x) (e : w'.heap[b]? = w.heap[b]?) : RowI w' n0 b k cap x := by
  obtain ⟨h1, h2, h3, cur, hc, h4, h5⟩ := h.parts
  exact RowI.of h1 h2 h3 h.len cur (e.trans hc) h4 h5
theorem RowI.back {w : World} {n0 b k cap : Nat} {x : List Int} {n : Int} (h : RowI w n0 b (k + 1) cap (x ++ [n])) : RowI w n0 b k cap x := by
  have hl := h.len
  simp only [List.length_append, List.length_cons, List.length_nil] at hl
  obtain ⟨h1, h2, h3, cur, hc, h4, h5⟩ := h.parts
  refine RowI.of h1 (by omega) h3 (by omega) cur hc h4 ?_
  have e : cur.toList.take k = (cur.toList.take (k + 1)).take k := by rw [List.take_take, Nat.min_eq_left (Nat.le_succ k)]
  rw [e, h5, List.map_append, List.take_left' (by simp; omega)]
theorem RowI.holds {w : World} {n0 b k cap : Nat} {x : List Int} (h : RowI w n0 b k cap x) : HoldsI w b x := by
  obtain ⟨h1, h2, h3, cur, hc, h4, h5⟩ := h.parts
  refine ⟨h.lt, fun i hi => ?_, fun i => by simp [World.frozen?, hc]⟩
  have e : (cur.toList.take k)[i]? = (x.map (Value.int .i64))[i]? := by rw [h5]
  have hk : i < k := by rw [← h.len]; exact hi
  rw [List.getElem?_take, if_pos hk] at e
  simp only [World.cell?, hc]
  simpa [hi] using e
theorem RowI.ints {w : World} {n0 b k cap : Nat} {x : List Int} (h : RowI w n0 b k cap x) : IntsAt w (some ⟨b, 0, none⟩) k x := by
  have h3 := h.parts.2.2.1
  have h2 := h.parts.2.1
  have := h.holds.ints (by rw [h.len]; omega)
  rwa [h.len] at this

/-- From N on all that lay lies as it lay. -/
def KeepsUp (N : Nat) (w w' : World) : Prop := w.heap.size ≤ w'.heap.size ∧ ∀ k, N ≤ k → k < w.heap.size → w'.heap[k]? = w.heap[k]?
/-- So does it, but for two blocks. -/
def KeepsBut (N b c : Nat) (w w' : World) : Prop := w.heap.size ≤ w'.heap.size ∧ ∀ k, N ≤ k → k < w.heap.size → k ≠ b → k ≠ c → w'.heap[k]? = w.heap[k]?
theorem KeepsUp.but {N b c : Nat} {w w' : World} (h : KeepsUp N w w') : KeepsBut N b c w w' := ⟨h.1, fun k h1 h2 _ _ => h.2 k h1 h2⟩
theorem KeepsBut.refl (N b c : Nat) (w : World) : KeepsBut N b c w w := ⟨Nat.le_refl _, fun _ _ _ _ _ => rfl⟩
theorem KeepsBut.trans {N b c : Nat} {u v w : World} (h : KeepsBut N b c u v) (k : KeepsBut N b c v w) : KeepsBut N b c u w :=
  ⟨Nat.le_trans h.1 k.1, fun j h1 h2 h3 h4 => (k.2 j h1 (Nat.lt_of_lt_of_le h2 h.1) h3 h4).trans (h.2 j h1 h2 h3 h4)⟩
theorem KeepsBut.below {N b c : Nat} {w w' : World} (h : Below w.heap.size w w') : KeepsBut N b c w w' := ⟨h.size, fun k _ h2 _ _ => h.block k h2⟩
theorem KeepsBut.grown {N b c : Nat} {w w' : World} {row : Option Nat} (h : w.grownBy w' row) (hr : row = none ∨ row = some b ∨ row = some c) : KeepsBut N b c w w' :=
  ⟨h.size, fun k _ h2 h3 h4 => h.block k h2 (by rcases hr with rfl | rfl | rfl <;> simp <;> omega)⟩
theorem KeepsBut.cell {N b c : Nat} {w w' : World} (h : KeepsBut N b c w w') {k : Nat} (h1 : N ≤ k) (h2 : k < w.heap.size) (h3 : k ≠ b) (h4 : k ≠ c) (o : Nat) : w'.cell? ⟨k, o, none⟩ = w.cell? ⟨k, o, none⟩ :=
  World.cell?_of_block (w := w) (a := ⟨k, o, none⟩) (h.2 k h1 h2 h3 h4)

/-- All lists that go on so, of which so many are still wanted of each page: the least first. -/
def justsF : List Mould → List Int → List Int → List (List Int)
  | [], cur, x => if cur.any fun n => decide (0 < n) then [] else [x]
  | m :: ms, cur, x => (List.range (min m.most (cur[m.p.toNat]?.getD 0) + 1).toNat).flatMap fun (n : Nat) => justsF ms (cur.set m.p.toNat (cur[m.p.toNat]?.getD 0 - n)) (x ++ [(n : Int)])
def FShop.justs (s : FShop) : List (List Int) := justsF s.moulds s.wants []
/-- The lists of which the next number is less than j. -/
def justsTo (m : Mould) (ms : List Mould) (cur x : List Int) (j : Nat) : List (List Int) :=
  (List.range j).flatMap fun (n : Nat) => justsF ms (cur.set m.p.toNat (cur[m.p.toNat]?.getD 0 - n)) (x ++ [(n : Int)])
theorem justsTo_succ (m : Mould) (ms : List Mould) (cur x : List Int) (j : Nat) : justsTo m ms cur x (j + 1) = justsTo m ms cur x j ++ justsF ms (cur.set m.p.toNat (cur[m.p.toNat]?.getD 0 - j)) (x ++ [(j : Int)]) := by
  unfold justsTo; rw [List.range_succ, List.flatMap_append]; simp
theorem justsTo_mem {m : Mould} {ms : List Mould} {cur x : List Int} {j k : Nat} (h : j < k) {y : List Int} (hy : y ∈ justsF ms (cur.set m.p.toNat (cur[m.p.toNat]?.getD 0 - j)) (x ++ [(j : Int)])) : y ∈ justsTo m ms cur x k := by
  unfold justsTo
  exact List.mem_flatMap.2 ⟨j, List.mem_range.2 h, hy⟩

set_option maxHeartbeats 400000 in
theorem above0_any (n : Int) (w : World) : Calls Try.prog 110 #[.int .i64 n] w fun e w' => e = .returned (.bool (decide (0 < n))) ∧ w = w' := by
  go_enter Try.func110, Try.ntmps110
  go_wp2
  all_goals (go_ret; exact ⟨ret_bool (by simp), rfl⟩)
theorem above0_is (n : Int) (b : Bool) (h : decide (0 < n) = b) (w : World) : Calls Try.prog 110 #[.int .i64 n] w fun e w' => e = .returned (.bool b) ∧ w = w' := h ▸ above0_any n w

def IndexPost (x : List Int) (w : World) (e : Ending) (w' : World) : Prop := ∃ r : Int, e = .returned (.int .i64 r) ∧ (-1 ≤ r ∧ r ≤ 100) ∧ (x.any fun n => decide (0 < n)) = decide (0 ≤ r) ∧ w = w'
set_option maxRecDepth 100000 in
set_option maxHeartbeats 2000000 in
theorem IndexFunc_any (xa : Option Addr) (xl xc : Nat) (x : List Int) (w : World) (hx : IntsAt w xa xl x) (h100 : xl ≤ 100) :
    Calls Try.prog 112 #[.slice xa xl xc, .func (.func 110) #[] #[]] w fun e w' => IndexPost x w e w' := by
  obtain ⟨hxl, -, hxc⟩ := hx
  have HXL := Lib.hid hxl
  have HXC := Lib.hid hxc
  clear hxl hxc
  go_enter Try.func112, Try.ntmps112
  go_wp2_with fail
  go_loopw [8] (fun i wr => ∃ k : Nat, k ≤ xl ∧ i = .int .i64 k ∧ ((x.take k).any fun n => decide (0 < n)) = false ∧ w = wr) (fun i _ => xl - (intOf i).toNat)
  case atStart => exact ⟨0, by omega, rfl, by simp, rfl⟩
  case round =>
    obtain ⟨k, hk, rfl, hall, rfl⟩ := hrel
    have HALL := Lib.hid hall
    clear hall
    by_cases hlt : k < xl
    · have hk3 : k < x.length := by rw [HXL.out]; exact hlt
      obtain ⟨b', o', rfl, hbB', hcell'⟩ := HXC.out (by omega)
      have hcx := hcell' k hk3
      have hkl : (k : Int) < (xl : Int) := by omega
      have hk0 : (0 : Int) ≤ (k : Int) := by omega
      rcases hb : decide (0 < x[k]) with - | -
      · have HN := Lib.hid (show ((x.take (k + 1)).any fun n => decide (0 < n)) = false by rw [List.take_succ_eq_append_getElem hk3, List.any_append, HALL.out]; simp; simpa using hb)
        have HAB := Lib.hid (above0_is _ _ hb)
        clear hb hcell'
        generalize x[k] = n at *
        go_wp2_with fail
        refine (HAB.out _).mono ?_
        rintro e w1 ⟨rfl, rfl⟩
        go_wp2_with fail
        go_roundw
        case rel => exact ⟨k + 1, by omega, by go_num, HN.out, trivial⟩
        case measure => simp [intOf]; omega
      · have HN := Lib.hid (show (x.any fun n => decide (0 < n)) = true from List.any_eq_true.2 ⟨x[k], List.getElem_mem hk3, by simpa using hb⟩)
        have HAB := Lib.hid (above0_is _ _ hb)
        clear hb hcell'
        generalize x[k] = n at *
        go_wp2_with fail
        refine (HAB.out _).mono ?_
        rintro e w1 ⟨rfl, rfl⟩
        go_wp2_with fail
        go_ret
        exact ⟨k, rfl, by omega, by rw [HN.out]; simp, rfl⟩
    · obtain rfl : xl = k := by omega
      have HR := Lib.hid (show (x.any fun n => decide (0 < n)) = false by have h := HALL.out; rwa [List.take_of_length_le (by rw [HXL.out]; exact Nat.le_refl _)] at h)
      go_wp2_with fail
      go_ret
      exact ⟨-1, rfl, by omega, by rw [HR.out]; rfl, rfl⟩
set_option maxHeartbeats 400000 in
theorem ContainsFunc_is (xa : Option Addr) (xl xc : Nat) (x : List Int) (w : World) (hx : IntsAt w xa xl x) (h100 : xl ≤ 100) (b : Bool) (hb : (x.any fun n => decide (0 < n)) = b) :
    Calls Try.prog 109 #[.slice xa xl xc, .func (.func 110) #[] #[]] w fun e w' => e = .returned (.bool b) ∧ w = w' := by
  have HI := Lib.hid (IndexFunc_any xa xl xc x w hx h100)
  clear hx
  go_enter Try.func109, Try.ntmps109
  go_wp2_with fail
  refine HI.out.mono ?_
  rintro e w1 ⟨r, rfl, hr, hd, rfl⟩
  rw [hb] at hd
  subst hd
  go_wp2_with fail
  all_goals (go_ret; exact ⟨ret_bool (by simp), rfl⟩)
end Go.Proofs.Ytigeiaiohdemiaa
