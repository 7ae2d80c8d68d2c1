/- The safe addition of which what is asked is the least: the walk. -/
import Derived.Test.YtojmimfjnnibdaaU
namespace Go.Proofs.Ytojmimfjnnibdaa
set_option linter.unusedVariables false
set_option linter.unusedSimpArgs false
open Go.RowKit Go.Shelf

attribute [local go_sem] Oper.semAt_some

def askF (f : Nat) (s : Shop) (x : List Int) : Int := if f = 0 then tot Pig.c s.pigs x else if f = 1 then tot Pig.t s.pigs x else tot Pig.c s.pigs x * 1000 + tot Pig.P s.pigs x
/-- What the walk ends with. -/
def SafestPost (s : Shop) (f : List Int → Int) (len : Nat) (w : World) (e : Ending) (w' : World) : Prop :=
  Below w.heap.size w w' ∧ ((bestOf s f ((allL s.most).filter s.room?) = none ∧ e = .returned (.tuple #[.slice none 0 0, .int .i64 0, .int .i64 3])) ∨
    ∃ y m v, bestOf s f ((allL s.most).filter s.room?) = some (y, m) ∧ e = .returned (.tuple #[v, .int .i64 m, .int .i64 0]) ∧ w'.ownsRow w.heap.size 3 1 v len (y.map (Value.int .i64)))
/-- What the three boxes hold, some lists having come. -/
def BestIs (s : Shop) (f : List Int → Int) (len B n0 b : Nat) (pre : List (List Int)) (w : World) : Prop :=
  (bestOf s f pre = none ∧ Boxed w B 29 (.slice none 0 0) ∧ Boxed w (B + 1) 3 (.int .i64 0) ∧ Boxed w (B + 2) 4 (.bool false)) ∨
  ∃ y m v, bestOf s f pre = some (y, m) ∧ Boxed w B 29 v ∧ Boxed w (B + 1) 3 (.int .i64 m) ∧ Boxed w (B + 2) 4 (.bool true) ∧ w.ownsRow n0 3 1 v len (y.map (Value.int .i64)) ∧ v.ownBlock ≠ some b

theorem row_kept {w w' : World} {row : Option Nat} {n0 len b L : Nat} {v : Value} {xs : List Value} (h : w.ownsRow n0 3 1 v len xs) (hg : w.grownBy w' row) (hr : ∀ r, row = some r → r = b ∨ (L ≤ r ∧ ∃ o : Obj, w.heap[r]? = some o ∧ o.isCells = false)) (hne : v.ownBlock ≠ some b) : w'.ownsRow n0 3 1 v len xs := by
  rcases h.2 with ⟨rfl, _⟩ | ⟨g, cap, cur, rfl, _, hgg, _⟩
  · exact h.kept hg (.inl rfl)
  · refine h.kept hg (.inr fun e => ?_)
    have e' : row = some g := by rw [← e]; rfl
    rcases hr g e' with rfl | ⟨_, o, ho, hoc⟩
    · exact hne rfl
    · rw [hgg] at ho; cases ho; cases hoc
theorem BestIs.kept {s : Shop} {f : List Int → Int} {len B n0 b L : Nat} {pre : List (List Int)} {w w' : World} {row : Option Nat} (h : BestIs s f len B n0 b pre w) (hg : w.grownBy w' row)
    (hr : ∀ r, row = some r → r = b ∨ (L ≤ r ∧ ∃ o : Obj, w.heap[r]? = some o ∧ o.isCells = false)) (hL : B + 2 < L) (hb : B + 2 < b) : BestIs s f len B n0 b pre w' := by
  have hne : ∀ k, k ≤ B + 2 → some k ≠ row := fun k hk e => by rcases hr k e.symm with h1 | h1 <;> omega
  rcases h with ⟨h0, h1, h2, h3⟩ | ⟨y, m, v, h0, h1, h2, h3, h4, h5⟩
  · exact .inl ⟨h0, h1.kept hg (hne _ (by omega)), h2.kept hg (hne _ (by omega)), h3.kept hg (hne _ (by omega))⟩
  · exact .inr ⟨y, m, v, h0, h1.kept hg (hne _ (by omega)), h2.kept hg (hne _ (by omega)), h3.kept hg (hne _ (by omega)), row_kept h4 hg hr h5, h5⟩
theorem BestIs.of {s : Shop} {f : List Int → Int} {len B n0 b : Nat} {pre pre' : List (List Int)} {w w' : World} (h : BestIs s f len B n0 b pre w) (hb : Below w.heap.size w w') (he : bestOf s f pre' = bestOf s f pre) (hL : B + 2 < b) : BestIs s f len B n0 b pre' w' := by
  have h' := h.kept (L := B + 3) (grown_none hb) (fun r e => by cases e) (by omega) hL
  unfold BestIs at *
  rw [he]
  exact h'
theorem own_ge {w : World} {n0 len k : Nat} {v : Value} {xs : List Value} (h : w.ownsRow n0 3 1 v len xs) (hk : k < n0) : v.ownBlock ≠ some k := by
  rcases h.2 with ⟨rfl, _⟩ | ⟨g, cap, cur, rfl, hg, _⟩
  · simp [Value.ownBlock]
  · simp [Value.ownBlock]; omega
/-- The three boxes written anew. -/
theorem BestIs.write {s : Shop} {f : List Int → Int} {len B n0 b : Nat} {pre : List (List Int)} {w : World} {u7 u8 u9 v : Value} {y : List Int} {m : Int} (h7 : Boxed w B 29 u7) (h8 : Boxed w (B + 1) 3 u8) (h9 : Boxed w (B + 2) 4 u9)
    (hr : w.ownsRow n0 3 1 v len (y.map (Value.int .i64))) (hb : bestOf s f pre = some (y, m)) (n1 : Nat) (hr1 : w.ownsRow n1 3 1 v len (y.map (Value.int .i64))) (hn1 : B + 2 < n1) (hbn : b < n1) :
    BestIs s f len B n0 b pre (((w.setCell ⟨B, 0, none⟩ v).setCell ⟨B + 1, 0, none⟩ (.int .i64 m)).setCell ⟨B + 2, 0, none⟩ (.bool true)) := by
  have o7 := own_ge hr1 (k := B) (by omega)
  have o8 := own_ge hr1 (k := B + 1) (by omega)
  have o9 := own_ge hr1 (k := B + 2) (by omega)
  refine .inr ⟨y, m, v, hb, ((h7.set v).other (by omega) _).other (by omega) _, ((h8.other (by omega) _).set _).other (by omega) _, ((h9.other (by omega) _).other (by omega) _).set _, ?_, own_ge hr1 hbn⟩
  exact ((hr.kept (grownBy_setCell' w B v) (.inr o7)).kept (grownBy_setCell' _ (B + 1) _) (.inr o8)).kept (grownBy_setCell' _ (B + 2) _) (.inr o9)
theorem But3.toBelow {B n : Nat} {w w' : World} (h : But3 B w w') (hn : n ≤ B) (hw : n ≤ w.heap.size) : Below n w w' := ⟨h.os, h.tape, h.output, h.size, fun k hk => h.block k (by omega) (.inl (by omega))⟩
theorem box11 {s : Shop} {a : Option Addr} {len cap B : Nat} {w : World} (h : ∀ i, w.cell? ⟨B, i, none⟩ = (#[.int .i64 s.P, .int .i64 s.tl, .int .i64 s.th, .int .i64 s.al, .int .i64 s.ah, .int .i64 s.room, .int .i64 s.xl, .int .i64 s.xh, .int .i64 s.yl, .int .i64 s.yh, .slice a len cap] : Array Value)[i]?) :
    w.cell? ⟨B, 0, none⟩ = some (.int .i64 s.P) ∧ w.cell? ⟨B, 1, none⟩ = some (.int .i64 s.tl) ∧ w.cell? ⟨B, 2, none⟩ = some (.int .i64 s.th) ∧ w.cell? ⟨B, 3, none⟩ = some (.int .i64 s.al) ∧ w.cell? ⟨B, 4, none⟩ = some (.int .i64 s.ah) ∧ w.cell? ⟨B, 5, none⟩ = some (.int .i64 s.room) ∧ w.cell? ⟨B, 6, none⟩ = some (.int .i64 s.xl) ∧ w.cell? ⟨B, 7, none⟩ = some (.int .i64 s.xh) ∧ w.cell? ⟨B, 8, none⟩ = some (.int .i64 s.yl) ∧ w.cell? ⟨B, 9, none⟩ = some (.int .i64 s.yh) ∧ w.cell? ⟨B, 10, none⟩ = some (.slice a len cap) :=
  ⟨h 0, h 1, h 2, h 3, h 4, h 5, h 6, h 7, h 8, h 9, h 10⟩
theorem new4 (w : World) (o1 o2 o3 : Obj) (cs : Array Value) (T : TypeId) (i : Nat) : ((((w.alloc o1).alloc o2).alloc o3).alloc (.cells cs T)).cell? ⟨w.heap.size + 3, i, none⟩ = cs[i]? := by
  have h := World.cell?_alloc_new (((w.alloc o1).alloc o2).alloc o3) cs T i
  simpa using h
theorem Shop.fewB_all {s : Shop} (ho : s.ok = true) {x : List Int} (hx : x ∈ allL s.most) : s.fewB x = true := by
  have hf := Shop.few_all ho hx
  have hl := allL_len _ _ hx
  simp only [Shop.most, List.length_map] at hl
  refine List.all_eq_true.2 fun q hq => ?_
  obtain ⟨k, hk, rfl⟩ := List.getElem_of_mem hq
  have h1 : k < s.pigs.length := by simp at hk; omega
  have h2 : k < x.length := by simp at hk; omega
  obtain ⟨-, h3, h4⟩ := hf k h1 h2
  rw [List.getElem_zip]
  simp [btw, h3, h4]
theorem Shop.isAdd_all {s : Shop} (ho : s.ok = true) {x : List Int} (hx : x ∈ allL s.most) (hr : s.room? x = true) : s.isAdd x = true := by
  have hl := allL_len _ _ hx
  simp only [Shop.most, List.length_map] at hl
  simp [Shop.isAdd, hl, Shop.fewB_all ho hx, hr]
theorem ints_len {w : World} {b len : Nat} {x : List Int} (h : Holds w b x) (hl : x.length = len) (hl4 : len ≤ 4) : IntsAt w (some ⟨b, 0, none⟩) len x := by
  have := ints_of_holds h (by rw [hl]; unfold maxLen; omega); rwa [hl] at this

end Go.Proofs.Ytojmimfjnnibdaa
