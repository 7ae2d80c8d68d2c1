/- T U V, joined. -/
import Derived.Test.YtajabapcmpmboaaS
/- A copy of a list; what is asked of an addition. -/
namespace Go.Proofs.Ytajabapcmpmboaa
set_option linter.unusedVariables false
set_option linter.unusedSimpArgs false
open Go.RowKit Go.Shelf

set_option maxHeartbeats 1000000 in
theorem Clone_any (b len cap : Nat) (x : List Int) (w : World) (hx : Holds w b x) (hl : x.length = len) (hl4 : len ≤ 4) :
    Calls Try.prog 107 #[.slice (some ⟨b, 0, none⟩) len cap] w fun e w' => ∃ (g c : Nat), e = .returned (.slice (some ⟨g, 0, none⟩) len c) ∧ w'.ownsRow w.heap.size 3 1 (.slice (some ⟨g, 0, none⟩) len c) len (x.map (Value.int .i64)) ∧ Below w.heap.size w w' := by
  obtain ⟨i0, hi, hy0, hy1, hy2⟩ := info_parts Try.info3
  obtain ⟨hb, hc, hf⟩ := hx
  have hn : ∀ wx, (binOp .eql 29 (.slice (some ⟨b, 0, none⟩) len cap) (.slice none 0 0)).run Try.prog wx = .ok (.bool false) wx := fun wx => Lib.run_eql_slice_nil wx _ _ _ _ _ _ _ Try.underlying29
  have HC := Lib.hid hc; clear hc
  go_enter Try.func107, Try.ntmps107
  go_wp2_with (at_builtin; refine wpList_append_own _ rfl _ _ 29 rfl w.heap.size 3 i0 (.int .i64 0) 1 8 Try.underlying29 hi hy0 hy1 hy2 rfl (by decide) _ _ _ rfl (World.ownsRow_made w #[] 0 (Nat.le_refl _) (Nat.zero_le _) rfl) ⟨b, 0, none⟩ len cap (x.map (Value.int .i64)) rfl ?c1 ?c2 ?c3 ?c4 ?c5 ?c6 ?_)
  case c1 => simp [hl]
  case c2 =>
    intro j u hj
    have hjx : j < x.length := by have := (List.getElem?_eq_some_iff.1 hj).1; simpa using this
    rw [Addr.add_lit, Nat.zero_add]
    refine (World.cell?_of_block (Below.heap_alloc w _ b hb)).trans ((HC.out j hjx).trans ?_)
    rw [← hj]; simp [hjx]
  case c3 => intro u hu; obtain ⟨y, _, rfl⟩ := List.mem_map.1 hu; rfl
  case c4 => unfold maxLen; omega
  case c5 => omega
  case c6 => simp
  intro v' w1 hown hgrow hnil
  obtain ⟨g, c, rfl⟩ : ∃ g c, v' = .slice (some ⟨g, 0, none⟩) len c := by
    rcases hown.2 with ⟨h, _⟩ | ⟨g, c, cur, h, _⟩
    · exact (hnil h).elim
    · exact ⟨g, c, by simpa using h⟩
  clear hnil
  go_wp2
  go_ret
  exact ⟨g, c, rfl, by simpa using hown, ((Below.refl _ w).alloc (Nat.le_refl _) _).grown hgrow (by simp) (by intro k hk; simp [Value.ownBlock] at hk; omega)⟩

set_option maxHeartbeats 400000 in
theorem ask_Cheap (s : Shop) (a : Option Addr) (len cap Wb b : Nat) (x : List Int) (w : World) (hbx : ∀ i, w.cell? ⟨Wb, i, none⟩ = (#[.int .i64 s.P, .int .i64 s.tl, .int .i64 s.th, .int .i64 s.al, .int .i64 s.ah, .int .i64 s.room, .int .i64 s.xl, .int .i64 s.xh, .int .i64 s.yl, .int .i64 s.yh, .slice a len cap] : Array Value)[i]?) (hp : PigsAt w a len s.pigs) (hx : Holds w b x) (hl : x.length = len) (hl4 : len ≤ 4) (hf : Few s.pigs x) :
    Calls Try.prog 83 #[.slice (some ⟨b, 0, none⟩) len len, .pointer (some ⟨Wb, 0, none⟩)] w fun e w' => e = .returned (.int .i64 (tot Pig.c s.pigs x)) ∧ Below w.heap.size w w' := by
  have HT := Lib.hid (total_pence s a cap (some ⟨b, 0, none⟩) len len x w hp (by have := ints_of_holds hx (by rw [hl]; unfold maxLen; omega); rwa [hl] at this) hl4 hf)
  clear hp hx hf hl
  go_enter Try.func83, Try.ntmps83
  go_wp2_with (go_at_call 84; refine HT.out.mono ?_; rintro e w' ⟨rfl, hb⟩)
  go_ret
  exact ⟨rfl, hb⟩
set_option maxHeartbeats 400000 in
theorem ask_Tin (s : Shop) (a : Option Addr) (len cap Wb b : Nat) (x : List Int) (w : World) (hbx : ∀ i, w.cell? ⟨Wb, i, none⟩ = (#[.int .i64 s.P, .int .i64 s.tl, .int .i64 s.th, .int .i64 s.al, .int .i64 s.ah, .int .i64 s.room, .int .i64 s.xl, .int .i64 s.xh, .int .i64 s.yl, .int .i64 s.yh, .slice a len cap] : Array Value)[i]?) (hp : PigsAt w a len s.pigs) (hx : Holds w b x) (hl : x.length = len) (hl4 : len ≤ 4) (hf : Few s.pigs x) :
    Calls Try.prog 89 #[.slice (some ⟨b, 0, none⟩) len len, .pointer (some ⟨Wb, 0, none⟩)] w fun e w' => e = .returned (.int .i64 (tot Pig.t s.pigs x)) ∧ Below w.heap.size w w' := by
  have HT := Lib.hid (total_tin s a cap (some ⟨b, 0, none⟩) len len x w hp (by have := ints_of_holds hx (by rw [hl]; unfold maxLen; omega); rwa [hl] at this) hl4 hf)
  clear hp hx hf hl
  go_enter Try.func89, Try.ntmps89
  go_wp2_with (go_at_call 84; refine HT.out.mono ?_; rintro e w' ⟨rfl, hb⟩)
  go_ret
  exact ⟨rfl, hb⟩
end Go.Proofs.Ytajabapcmpmboaa

/- The safe addition of which what is asked is the least. -/
namespace Go.Proofs.Ytajabapcmpmboaa
set_option linter.unusedVariables false
set_option linter.unusedSimpArgs false
open Go.RowKit Go.Shelf

attribute [local go_sem] Oper.semAt_some

set_option maxHeartbeats 1000000 in
theorem ask_Mend (s : Shop) (a : Option Addr) (len cap Wb b : Nat) (x : List Int) (w : World) (hbx : ∀ i, w.cell? ⟨Wb, i, none⟩ = (#[.int .i64 s.P, .int .i64 s.tl, .int .i64 s.th, .int .i64 s.al, .int .i64 s.ah, .int .i64 s.room, .int .i64 s.xl, .int .i64 s.xh, .int .i64 s.yl, .int .i64 s.yh, .slice a len cap] : Array Value)[i]?) (hp : PigsAt w a len s.pigs) (hx : Holds w b x) (hl : x.length = len) (hl4 : len ≤ 4) (hf : Few s.pigs x) :
    Calls Try.prog 86 #[.slice (some ⟨b, 0, none⟩) len len, .pointer (some ⟨Wb, 0, none⟩)] w fun e w' => e = .returned (.int .i64 (tot Pig.c s.pigs x * 1000 + tot Pig.P s.pigs x)) ∧ Below w.heap.size w w' := by
  have hxi : IntsAt w (some ⟨b, 0, none⟩) len x := by have := ints_of_holds hx (by rw [hl]; unfold maxLen; omega); rwa [hl] at this
  have hWb : Wb < w.heap.size := World.block_lt_of_cell? w _ (hbx 0)
  have HC := Lib.hid (held2 (Below.refl _ w) fun w1 (hb : Below w.heap.size w w1) => total_pence s a cap (some ⟨b, 0, none⟩) len len x w1 (hp.below hb) (hxi.below hb) hl4 hf)
  have HP := Lib.hid (held2 (Below.refl _ w) fun w1 (hb : Below w.heap.size w w1) => total_pounds s a cap (some ⟨b, 0, none⟩) len len x w1 (hp.below hb) (hxi.below hb) hl4 hf)
  obtain ⟨c1, c2⟩ := tot_all Pig.c bd_pence s.pigs x hf hp.1 hl
  obtain ⟨p1, p2⟩ := tot_all Pig.P bd_pounds s.pigs x hf hp.1 hl
  clear hp hx hf hl hxi
  generalize tot Pig.c s.pigs x = tc at *
  generalize tot Pig.P s.pigs x = tp at *
  have hw1 : IntKind.i64.wrap (tc * 1000) = tc * 1000 := IntWalk.i64_in _ ⟨by omega, by omega⟩
  have hw2 : IntKind.i64.wrap (tc * 1000 + tp) = tc * 1000 + tp := IntWalk.i64_in _ ⟨by omega, by omega⟩
  go_enter Try.func86, Try.ntmps86
  go_wp2_with fail
  go_region_held3 (fun w' => Below w.heap.size w w' ∧ ∀ b o, b < w.heap.size → w'.cell? ⟨b, o, none⟩ = w.cell? ⟨b, o, none⟩) (first | with_reducible assumption | exact ⟨(Below.refl _ _).drew, fun _ _ _ => rfl⟩)
    (first | (go_at_call 84; with_reducible refine (HC.out _ ?_).mono ?_; (first | with_reducible assumption | exact ⟨(Below.refl _ _).drew, fun _ _ _ => rfl⟩); rintro e w' ⟨rfl, k⟩) | (go_at_call 84; with_reducible refine (HP.out _ ?_).mono ?_; (first | with_reducible assumption | exact ⟨(Below.refl _ _).drew, fun _ _ _ => rfl⟩); rintro e w' ⟨rfl, k⟩))
  have hh := ‹Below w.heap.size w _ ∧ _›
  go_wp2_with fail
  go_ret
  exact ⟨rfl, hh.1⟩

/-- The least of what is asked, and the first list that it is asked of. -/
def stepBest (s : Shop) (f : List Int → Int) (o : Option (List Int × Int)) (x : List Int) : Option (List Int × Int) :=
  if s.safeOf x = 1 then (match o with | none => some (x, f x) | some (y, m) => if f x < m then some (x, f x) else some (y, m)) else o
def bestOf (s : Shop) (f : List Int → Int) (l : List (List Int)) : Option (List Int × Int) := l.foldl (stepBest s f) none
theorem bestOf_snoc (s : Shop) (f : List Int → Int) (l : List (List Int)) (x : List Int) : bestOf s f (l ++ [x]) = stepBest s f (bestOf s f l) x := by simp [bestOf]

/-- All but three blocks from B on lie as they lay. -/
structure But3 (B : Nat) (w w' : World) : Prop where
  os : w'.os = w.os
  tape : w'.tape = w.tape
  output : w'.output = w.output
  size : w.heap.size ≤ w'.heap.size
  block : ∀ k, k < w.heap.size → (k < B ∨ B + 3 ≤ k) → w'.heap[k]? = w.heap[k]?
theorem But3.refl (B : Nat) (w : World) : But3 B w w := ⟨rfl, rfl, rfl, Nat.le_refl _, fun _ _ _ => rfl⟩
theorem But3.grown {B : Nat} {w w' w2 : World} {row : Option Nat} (h : But3 B w w') (hg : w'.grownBy w2 row) (hr : ∀ r, row = some r → w.heap.size ≤ r ∨ (B ≤ r ∧ r < B + 3)) : But3 B w w2 :=
  ⟨hg.os.trans h.os, hg.tape.trans h.tape, hg.output.trans h.output, Nat.le_trans h.size hg.size, fun k hk hne => (hg.block k (Nat.lt_of_lt_of_le hk h.size) (fun e => by have := hr k e.symm; omega)).trans (h.block k hk hne)⟩
theorem But3.below {B : Nat} {w w' w2 : World} (h : But3 B w w') (hb : Below w'.heap.size w' w2) : But3 B w w2 := h.grown (grown_none hb) (fun r e => by cases e)
theorem But3.cell {B : Nat} {w w' : World} (h : But3 B w w') {k : Nat} (hk : k < w.heap.size) (hne : k < B ∨ B + 3 ≤ k) (o : Nat) : w'.cell? ⟨k, o, none⟩ = w.cell? ⟨k, o, none⟩ :=
  World.cell?_of_block (w := w) (a := ⟨k, o, none⟩) (h.block k hk hne)
theorem But3.pigs {B : Nat} {w w' : World} (h : But3 B w w') {a : Option Addr} {len : Nat} {ps : List Pig} (hp : PigsAt w a len ps) (hB : 0 < len → ∀ pb po, a = some ⟨pb, po, none⟩ → pb < B ∨ B + 3 ≤ pb) : PigsAt w' a len ps := by
  obtain ⟨h1, h2, h3⟩ := hp
  refine ⟨h1, h2, fun hl => ?_⟩
  obtain ⟨b, o, ha, hb, hc⟩ := h3 hl
  refine ⟨b, o, ha, Nat.lt_of_lt_of_le hb h.size, fun i hi => ?_⟩
  obtain ⟨c0, c1, c2, c3, c4⟩ := hc i hi
  have e := fun o => h.cell hb (hB hl _ _ ha) o
  exact ⟨(e _).trans c0, (e _).trans c1, (e _).trans c2, (e _).trans c3, (e _).trans c4⟩

theorem additions_in (n : Nat) (s : Shop) (a : Option Addr) (len cap : Nat) (w : World) :
    CallsIn Fence.wide n Try.prog 106 #[.agg #[.int .i64 s.P, .int .i64 s.tl, .int .i64 s.th, .int .i64 s.al, .int .i64 s.ah, .int .i64 s.room, .int .i64 s.xl, .int .i64 s.xh, .int .i64 s.yl, .int .i64 s.yh, .slice a len cap]] w fun e w' => e = .returned (.func (.func 112) #[] #[.pointer (some ⟨w.heap.size, 0, none⟩)]) ∧ w.alloc (.cells #[.int .i64 s.P, .int .i64 s.tl, .int .i64 s.th, .int .i64 s.al, .int .i64 s.ah, .int .i64 s.room, .int .i64 s.xl, .int .i64 s.xh, .int .i64 s.yl, .int .i64 s.yh, .slice a len cap] 78) = w' := by
  refine callsIn_of_wp Try.func106 rfl trivial ?_ rfl
  simp only [Try.ntmps106, List.size_toArray, List.length_cons, List.length_nil, Nat.reduceAdd, Nat.reduceSub, Array.replicate_succ, Array.replicate_zero, List.push_toArray, List.append_toArray, List.nil_append, List.cons_append]
  gi_wp2
  go_ret
  exact ⟨rfl, rfl⟩
end Go.Proofs.Ytajabapcmpmboaa

/- The safe addition of which what is asked is the least: the walk. -/
namespace Go.Proofs.Ytajabapcmpmboaa
set_option linter.unusedVariables false
set_option linter.unusedSimpArgs false
open Go.RowKit Go.Shelf

attribute [local go_sem] Oper.semAt_some

def askF (f : Nat) (s : Shop) (x : List Int) : Int := if f = 0 then tot Pig.c s.pigs x else if f = 1 then tot Pig.t s.pigs x else tot Pig.c s.pigs x * 1000 + tot Pig.P s.pigs x
/-- What the walk ends with. -/
def SafestPost (s : Shop) (f : List Int → Int) (len : Nat) (w : World) (e : Ending) (w' : World) : Prop :=
  Below w.heap.size w w' ∧ ((bestOf s f ((allL s.most).filter s.room?) = none ∧ e = .returned (.tuple #[.slice none 0 0, .int .i64 0, .int .i64 3])) ∨
    ∃ y m v, bestOf s f ((allL s.most).filter s.room?) = some (y, m) ∧ e = .returned (.tuple #[v, .int .i64 m, .int .i64 0]) ∧ w'.ownsRow w.heap.size 3 1 v len (y.map (Value.int .i64)))
/-- What the three boxes hold, some lists having come. -/
def BestIs (s : Shop) (f : List Int → Int) (len B n0 b : Nat) (pre : List (List Int)) (w : World) : Prop :=
  (bestOf s f pre = none ∧ Boxed w B 29 (.slice none 0 0) ∧ Boxed w (B + 1) 3 (.int .i64 0) ∧ Boxed w (B + 2) 4 (.bool false)) ∨
  ∃ y m v, bestOf s f pre = some (y, m) ∧ Boxed w B 29 v ∧ Boxed w (B + 1) 3 (.int .i64 m) ∧ Boxed w (B + 2) 4 (.bool true) ∧ w.ownsRow n0 3 1 v len (y.map (Value.int .i64)) ∧ v.ownBlock ≠ some b

theorem row_kept {w w' : World} {row : Option Nat} {n0 len b L : Nat} {v : Value} {xs : List Value} (h : w.ownsRow n0 3 1 v len xs) (hg : w.grownBy w' row) (hr : ∀ r, row = some r → r = b ∨ (L ≤ r ∧ ∃ o : Obj, w.heap[r]? = some o ∧ o.isCells = false)) (hne : v.ownBlock ≠ some b) : w'.ownsRow n0 3 1 v len xs := by
  rcases h.2 with ⟨rfl, _⟩ | ⟨g, cap, cur, rfl, _, hgg, _⟩
  · exact h.kept hg (.inl rfl)
  · refine h.kept hg (.inr fun e => ?_)
    have e' : row = some g := by rw [← e]; rfl
    rcases hr g e' with rfl | ⟨_, o, ho, hoc⟩
    · exact hne rfl
    · rw [hgg] at ho; cases ho; cases hoc
theorem BestIs.kept {s : Shop} {f : List Int → Int} {len B n0 b L : Nat} {pre : List (List Int)} {w w' : World} {row : Option Nat} (h : BestIs s f len B n0 b pre w) (hg : w.grownBy w' row)
    (hr : ∀ r, row = some r → r = b ∨ (L ≤ r ∧ ∃ o : Obj, w.heap[r]? = some o ∧ o.isCells = false)) (hL : B + 2 < L) (hb : B + 2 < b) : BestIs s f len B n0 b pre w' := by
  have hne : ∀ k, k ≤ B + 2 → some k ≠ row := fun k hk e => by rcases hr k e.symm with h1 | h1 <;> omega
  rcases h with ⟨h0, h1, h2, h3⟩ | ⟨y, m, v, h0, h1, h2, h3, h4, h5⟩
  · exact .inl ⟨h0, h1.kept hg (hne _ (by omega)), h2.kept hg (hne _ (by omega)), h3.kept hg (hne _ (by omega))⟩
  · exact .inr ⟨y, m, v, h0, h1.kept hg (hne _ (by omega)), h2.kept hg (hne _ (by omega)), h3.kept hg (hne _ (by omega)), row_kept h4 hg hr h5, h5⟩
theorem BestIs.of {s : Shop} {f : List Int → Int} {len B n0 b : Nat} {pre pre' : List (List Int)} {w w' : World} (h : BestIs s f len B n0 b pre w) (hb : Below w.heap.size w w') (he : bestOf s f pre' = bestOf s f pre) (hL : B + 2 < b) : BestIs s f len B n0 b pre' w' := by
  have h' := h.kept (L := B + 3) (grown_none hb) (fun r e => by cases e) (by omega) hL
  unfold BestIs at *
  rw [he]
  exact h'
theorem own_ge {w : World} {n0 len k : Nat} {v : Value} {xs : List Value} (h : w.ownsRow n0 3 1 v len xs) (hk : k < n0) : v.ownBlock ≠ some k := by
  rcases h.2 with ⟨rfl, _⟩ | ⟨g, cap, cur, rfl, hg, _⟩
  · simp [Value.ownBlock]
  · simp [Value.ownBlock]; omega
/-- The three boxes written anew. -/
theorem BestIs.write {s : Shop} {f : List Int → Int} {len B n0 b : Nat} {pre : List (List Int)} {w : World} {u7 u8 u9 v : Value} {y : List Int} {m : Int} (h7 : Boxed w B 29 u7) (h8 : Boxed w (B + 1) 3 u8) (h9 : Boxed w (B + 2) 4 u9)
    (hr : w.ownsRow n0 3 1 v len (y.map (Value.int .i64))) (hb : bestOf s f pre = some (y, m)) (n1 : Nat) (hr1 : w.ownsRow n1 3 1 v len (y.map (Value.int .i64))) (hn1 : B + 2 < n1) (hbn : b < n1) :
    BestIs s f len B n0 b pre (((w.setCell ⟨B, 0, none⟩ v).setCell ⟨B + 1, 0, none⟩ (.int .i64 m)).setCell ⟨B + 2, 0, none⟩ (.bool true)) := by
  have o7 := own_ge hr1 (k := B) (by omega)
  have o8 := own_ge hr1 (k := B + 1) (by omega)
  have o9 := own_ge hr1 (k := B + 2) (by omega)
  refine .inr ⟨y, m, v, hb, ((h7.set v).other (by omega) _).other (by omega) _, ((h8.other (by omega) _).set _).other (by omega) _, ((h9.other (by omega) _).other (by omega) _).set _, ?_, own_ge hr1 hbn⟩
  exact ((hr.kept (grownBy_setCell' w B v) (.inr o7)).kept (grownBy_setCell' _ (B + 1) _) (.inr o8)).kept (grownBy_setCell' _ (B + 2) _) (.inr o9)
theorem But3.toBelow {B n : Nat} {w w' : World} (h : But3 B w w') (hn : n ≤ B) (hw : n ≤ w.heap.size) : Below n w w' := ⟨h.os, h.tape, h.output, h.size, fun k hk => h.block k (by omega) (.inl (by omega))⟩
theorem box11 {s : Shop} {a : Option Addr} {len cap B : Nat} {w : World} (h : ∀ i, w.cell? ⟨B, i, none⟩ = (#[.int .i64 s.P, .int .i64 s.tl, .int .i64 s.th, .int .i64 s.al, .int .i64 s.ah, .int .i64 s.room, .int .i64 s.xl, .int .i64 s.xh, .int .i64 s.yl, .int .i64 s.yh, .slice a len cap] : Array Value)[i]?) :
    w.cell? ⟨B, 0, none⟩ = some (.int .i64 s.P) ∧ w.cell? ⟨B, 1, none⟩ = some (.int .i64 s.tl) ∧ w.cell? ⟨B, 2, none⟩ = some (.int .i64 s.th) ∧ w.cell? ⟨B, 3, none⟩ = some (.int .i64 s.al) ∧ w.cell? ⟨B, 4, none⟩ = some (.int .i64 s.ah) ∧ w.cell? ⟨B, 5, none⟩ = some (.int .i64 s.room) ∧ w.cell? ⟨B, 6, none⟩ = some (.int .i64 s.xl) ∧ w.cell? ⟨B, 7, none⟩ = some (.int .i64 s.xh) ∧ w.cell? ⟨B, 8, none⟩ = some (.int .i64 s.yl) ∧ w.cell? ⟨B, 9, none⟩ = some (.int .i64 s.yh) ∧ w.cell? ⟨B, 10, none⟩ = some (.slice a len cap) :=
  ⟨h 0, h 1, h 2, h 3, h 4, h 5, h 6, h 7, h 8, h 9, h 10⟩
theorem new4 (w : World) (o1 o2 o3 : Obj) (cs : Array Value) (T : TypeId) (i : Nat) : ((((w.alloc o1).alloc o2).alloc o3).alloc (.cells cs T)).cell? ⟨w.heap.size + 3, i, none⟩ = cs[i]? := by
  have h := World.cell?_alloc_new (((w.alloc o1).alloc o2).alloc o3) cs T i
  simpa using h
theorem Shop.fewB_all {s : Shop} (ho : s.ok = true) {x : List Int} (hx : x ∈ allL s.most) : s.fewB x = true := by
  have hf := Shop.few_all ho hx
  have hl := allL_len _ _ hx
  simp only [Shop.most, List.length_map] at hl
  refine List.all_eq_true.2 fun q hq => ?_
  obtain ⟨k, hk, rfl⟩ := List.getElem_of_mem hq
  have h1 : k < s.pigs.length := by simp at hk; omega
  have h2 : k < x.length := by simp at hk; omega
  obtain ⟨-, h3, h4⟩ := hf k h1 h2
  rw [List.getElem_zip]
  simp [btw, h3, h4]
theorem Shop.isAdd_all {s : Shop} (ho : s.ok = true) {x : List Int} (hx : x ∈ allL s.most) (hr : s.room? x = true) : s.isAdd x = true := by
  have hl := allL_len _ _ hx
  simp only [Shop.most, List.length_map] at hl
  simp [Shop.isAdd, hl, Shop.fewB_all ho hx, hr]
theorem ints_len {w : World} {b len : Nat} {x : List Int} (h : Holds w b x) (hl : x.length = len) (hl4 : len ≤ 4) : IntsAt w (some ⟨b, 0, none⟩) len x := by
  have := ints_of_holds h (by rw [hl]; unfold maxLen; omega); rwa [hl] at this

end Go.Proofs.Ytajabapcmpmboaa
