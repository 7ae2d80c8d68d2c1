/- The offers of all additions. -/
import Derived.Test.YtajabapcmpmboaaKA
import Derived.Maps.OwnIn
import Derived.Outline
namespace Go.Proofs.Ytajabapcmpmboaa
set_option linter.unusedVariables false
set_option linter.unusedSimpArgs false
open Go.RowKit Go.Shelf Go.Sort

attribute [local go_sem] Oper.semAt_some

/-- All but one block lie as they lay. -/
structure But1 (B : Nat) (w w' : World) : Prop where
  os : w'.os = w.os
  tape : w'.tape = w.tape
  output : w'.output = w.output
  size : w.heap.size ≤ w'.heap.size
  block : ∀ k, k < w.heap.size → k ≠ B → w'.heap[k]? = w.heap[k]?
theorem But1.refl (B : Nat) (w : World) : But1 B w w := ⟨rfl, rfl, rfl, Nat.le_refl _, fun _ _ _ => rfl⟩
theorem But1.grown {B : Nat} {w w' w2 : World} {row : Option Nat} (h : But1 B w w') (hg : w'.grownBy w2 row) (hr : ∀ r, row = some r → w.heap.size ≤ r ∨ r = B) : But1 B w w2 :=
  ⟨hg.os.trans h.os, hg.tape.trans h.tape, hg.output.trans h.output, Nat.le_trans h.size hg.size, fun k hk hne => (hg.block k (Nat.lt_of_lt_of_le hk h.size) (fun e => by have := hr k e.symm; omega)).trans (h.block k hk hne)⟩
theorem But1.below {B : Nat} {w w' w2 : World} (h : But1 B w w') (hb : Below w'.heap.size w' w2) : But1 B w w2 := h.grown (grown_none hb) (fun r e => by cases e)
theorem But1.cell {B : Nat} {w w' : World} (h : But1 B w w') {k : Nat} (hk : k < w.heap.size) (hne : k ≠ B) (o : Nat) : w'.cell? ⟨k, o, none⟩ = w.cell? ⟨k, o, none⟩ :=
  World.cell?_of_block (w := w) (a := ⟨k, o, none⟩) (h.block k hk hne)
theorem But1.pigs {B : Nat} {w w' : World} (h : But1 B w w') {a : Option Addr} {len : Nat} {ps : List Pig} (hp : PigsAt w a len ps) (hB : 0 < len → ∀ pb po, a = some ⟨pb, po, none⟩ → pb ≠ B) : PigsAt w' a len ps := by
  obtain ⟨h1, h2, h3⟩ := hp
  refine ⟨h1, h2, fun hl => ?_⟩
  obtain ⟨b, o, ha, hb, hc⟩ := h3 hl
  refine ⟨b, o, ha, Nat.lt_of_lt_of_le hb h.size, fun i hi => ?_⟩
  obtain ⟨c0, c1, c2, c3, c4⟩ := hc i hi
  have e := fun o => h.cell hb (hB hl _ _ ha) o
  exact ⟨(e _).trans c0, (e _).trans c1, (e _).trans c2, (e _).trans c3, (e _).trans c4⟩
theorem But1.toBelow {B n : Nat} {w w' : World} (h : But1 B w w') (hn : n ≤ B) (hw : n ≤ w.heap.size) : Below n w w' := ⟨h.os, h.tape, h.output, h.size, fun k hk => h.block k (by omega) (by omega)⟩

/-- What the box holds, some lists having come. -/
def OffersIs (s : Shop) (B n0 m0 b : Nat) (pre : List (List Int)) (w : World) : Prop :=
  ∃ v, Boxed w B 115 v ∧ w.ownsRow n0 118 5 v (s.offersOf pre).length ((s.offersOf pre).flatMap Offer.cells) ∧ v.ownBlock ≠ some b ∧ ∀ r, v.ownBlock = some r → m0 ≤ r
theorem row_kept5 {w w' : World} {row : Option Nat} {n0 m b L : Nat} {v : Value} {xs : List Value} (h : w.ownsRow n0 118 5 v m xs) (hg : w.grownBy w' row) (hr : ∀ r, row = some r → r = b ∨ (L ≤ r ∧ ∃ o : Obj, w.heap[r]? = some o ∧ o.isCells = false)) (hne : v.ownBlock ≠ some b) : w'.ownsRow n0 118 5 v m xs := by
  rcases h.2 with ⟨rfl, _⟩ | ⟨g, cap, cur, rfl, _, hgg, _⟩
  · exact h.kept hg (.inl rfl)
  · refine h.kept hg (.inr fun e => ?_)
    have e' : row = some g := by rw [← e]; rfl
    rcases hr g e' with rfl | ⟨_, o, ho, hoc⟩
    · exact hne rfl
    · rw [hgg] at ho; cases ho; cases hoc
theorem OffersIs.kept {s : Shop} {B n0 m0 b L : Nat} {pre : List (List Int)} {w w' : World} {row : Option Nat} (h : OffersIs s B n0 m0 b pre w) (hg : w.grownBy w' row)
    (hr : ∀ r, row = some r → r = b ∨ (L ≤ r ∧ ∃ o : Obj, w.heap[r]? = some o ∧ o.isCells = false)) (hL : B < L) (hb : B < b) : OffersIs s B n0 m0 b pre w' := by
  obtain ⟨v, h1, h2, h3, h4⟩ := h
  exact ⟨v, h1.kept hg (fun e => by rcases hr B e.symm with h1 | h1 <;> omega), row_kept5 h2 hg hr h3, h3, h4⟩
theorem gb_setCell (W : World) (b i : Nat) (v : Value) : W.grownBy (W.setCell ⟨b, i, none⟩ v) (some b) :=
  ⟨rfl, rfl, rfl, by simp [World.setCell], fun k _ hk => Below.heap_setCell _ _ _ k (fun e => hk (by rw [e]))⟩
theorem World.grownBy.trans' {a b c : World} {row : Option Nat} (h : a.grownBy b row) (k : b.grownBy c row) : a.grownBy c row := h.trans k
theorem set_one {w : World} {b : Nat} {c : Array Value} {T : TypeId} {f : Nat × Nat} (i : Nat) (v : Value) (h : w.heap[b]? = some (.cells c T f)) : (w.setCell ⟨b, i, none⟩ v).heap[b]? = some (.cells (c.setIfInBounds i v) T f) := by
  obtain ⟨hlt, hb⟩ := Array.getElem?_eq_some_iff.1 h
  show (w.heap.modify b _)[b]? = _
  rw [Array.getElem?_eq_getElem (by rw [Array.size_modify]; exact hlt), Array.getElem_modify_self, hb]
  simp
theorem five_set {w : World} {b : Nat} {T : TypeId} {u0 u1 u2 u3 u4 : Value} (v0 v1 v2 v3 v4 : Value) (h : w.heap[b]? = some (.cells #[u0, u1, u2, u3, u4] T (0, 0))) :
    (((((w.setCell ⟨b, 0, none⟩ v0).setCell ⟨b, 1, none⟩ v1).setCell ⟨b, 2, none⟩ v2).setCell ⟨b, 3, none⟩ v3).setCell ⟨b, 4, none⟩ v4).heap[b]? = some (.cells #[v0, v1, v2, v3, v4] T (0, 0)) ∧
    w.grownBy (((((w.setCell ⟨b, 0, none⟩ v0).setCell ⟨b, 1, none⟩ v1).setCell ⟨b, 2, none⟩ v2).setCell ⟨b, 3, none⟩ v3).setCell ⟨b, 4, none⟩ v4) (some b) := by
  refine ⟨?_, ?_⟩
  · exact set_one 4 v4 (set_one 3 v3 (set_one 2 v2 (set_one 1 v1 (set_one 0 v0 h))))
  · exact ((((gb_setCell w b 0 v0).trans (gb_setCell _ b 1 v1)).trans (gb_setCell _ b 2 v2)).trans (gb_setCell _ b 3 v3)).trans (gb_setCell _ b 4 v4)
theorem five_cells {w : World} {b : Nat} {T : TypeId} {v0 v1 v2 v3 v4 : Value} (h : w.heap[b]? = some (.cells #[v0, v1, v2, v3, v4] T (0, 0))) :
    w.cell? ⟨b, 0, none⟩ = some v0 ∧ w.cell? ⟨b, 1, none⟩ = some v1 ∧ w.cell? ⟨b, 2, none⟩ = some v2 ∧ w.cell? ⟨b, 3, none⟩ = some v3 ∧ w.cell? ⟨b, 4, none⟩ = some v4 := by
  simp [World.cell?, h]
theorem Try.info118 : (Try.prog.info? 118).map (fun i => (i.zero, i.size, i.bytes)) = some (some (.agg #[.int .i64 0, .int .i64 0, .int .i64 0, .int .i64 0, .int .i64 0]), 5, 40) := by kernel_rfl
theorem five_new (w : World) (v0 v1 v2 v3 v4 : Value) (T : TypeId) : ∀ j u, [v0, v1, v2, v3, v4][j]? = some u → (w.alloc (.cells #[v0, v1, v2, v3, v4] T)).cell? ((⟨w.heap.size, 0, none⟩ : Addr).add j) = some u := fun j u h => by
  have e : (⟨w.heap.size, 0, none⟩ : Addr).add j = ⟨w.heap.size, j, none⟩ := by simp [Addr.add]; intro h; exact h.symm
  rw [e, World.cell?_alloc_new, ← h]; exact List.getElem?_toArray
theorem flatMap_len {α β : Type} (f : α → List β) (k : Nat) : ∀ l : List α, (∀ x ∈ l, (f x).length ≤ k) → (l.flatMap f).length ≤ l.length * k
  | [], _ => by simp
  | x :: l, h => by
    have h1 := h x (List.mem_cons_self ..)
    have h2 := flatMap_len f k l (fun y hy => h y (List.mem_cons_of_mem _ hy))
    rw [List.flatMap_cons, List.length_append, List.length_cons, Nat.succ_mul]; omega
theorem row_len : ∀ (ms : List Int), (∀ m ∈ ms, m ≤ 5) → (allL ms).length ≤ 6 ^ ms.length
  | [], _ => by simp [allL]
  | m :: ms, h => by
    have h1 := h m (List.mem_cons_self ..)
    have h2 := row_len ms (fun y hy => h y (List.mem_cons_of_mem _ hy))
    have h3 := flatMap_len (fun (n : Nat) => (allL ms).map fun r => (n : Int) :: r) (6 ^ ms.length) (List.range (m.toNat + 1)) (fun x _ => by simpa using h2)
    have h4 : (List.range (m.toNat + 1)).length * 6 ^ ms.length ≤ 6 * 6 ^ ms.length := Nat.mul_le_mul_right _ (by simp; omega)
    rw [List.length_cons, Nat.pow_succ]
    simp only [allL]
    omega
theorem rows_few {s : Shop} (ho : s.ok = true) : (allL s.most).length ≤ 1296 := by
  have h1 := row_len s.most (fun m hm => by
    simp only [Shop.most, List.mem_map] at hm
    obtain ⟨p, hp, rfl⟩ := hm
    obtain ⟨k, hk, rfl⟩ := List.getElem_of_mem hp
    have := Pig.ok_bd (Shop.ok_pig ho k hk); omega)
  have h2 := Shop.ok_bd ho
  have h3 : 6 ^ s.most.length ≤ 6 ^ 4 := Nat.pow_le_pow_right (by omega) (by simp [Shop.most]; omega)
  omega
theorem allow_fair {p m : Int} (h1 : 0 ≤ p ∧ p ≤ 2000) (h2 : 0 ≤ m ∧ m ≤ 1000) : Fair (allowLo p m) ∧ Fair (allowHi p m) := by
  have h3 := bd_mul p m h1 h2
  unfold Fair allowLo allowHi; omega

/-- All offers of a shop, the cheapest first. -/
def OffersOf (s : Shop) (l : List Offer) : Prop := l.Perm (s.offersOf ((allL s.most).filter s.room?)) ∧ l.Pairwise fun x y => x.c ≤ y.c

set_option maxRecDepth 100000 in
set_option maxHeartbeats 1000000 in
theorem offers_any (s : Shop) (a : Option Addr) (len cap : Nat) (w : World) (hp : PigsAt w a len s.pigs) (ho : s.ok = true) :
    Calls Try.prog 108 #[.agg #[.int .i64 s.P, .int .i64 s.tl, .int .i64 s.th, .int .i64 s.al, .int .i64 s.ah, .int .i64 s.room, .int .i64 s.xl, .int .i64 s.xh, .int .i64 s.yl, .int .i64 s.yh, .slice a len cap]] w fun e w' => Below w.heap.size w w' ∧ ∃ v l, e = .returned v ∧ OffersOf s l ∧ w'.ownsRow w.heap.size 118 5 v l.length (l.flatMap Offer.cells) := by
  have hpl := hp.1
  have hl4 : len ≤ 4 := by have := Shop.ok_bd ho; omega
  obtain ⟨i0, hi, hy0, hy1, hy2⟩ := info_parts Try.info118
  have hrows := rows_few ho
  refine (callsIn_wide (n := 12)).1 ?_
  refine callsIn_of_wp_marks Try.func108 rfl trivial ?_ rfl
  simp only [Try.ntmps108, List.size_toArray, List.length_cons, List.length_nil, Nat.reduceAdd, Nat.reduceSub, Array.replicate_succ, Array.replicate_zero, List.push_toArray, List.append_toArray, List.nil_append, List.cons_append]
  gi_wp2_with (refine ⟨trivial, ?_⟩; gi_at_call 106; refine (additions_in _ s a len cap _).mono ?_; rintro e w2 ⟨rfl, rfl⟩)
  obtain ⟨Wl, hWl⟩ : ∃ Wl, ((w.alloc (.cells #[.int .i64 s.P, .int .i64 s.tl, .int .i64 s.th, .int .i64 s.al, .int .i64 s.ah, .int .i64 s.room, .int .i64 s.xl, .int .i64 s.xh, .int .i64 s.yl, .int .i64 s.yh, .slice a len cap] 78)).alloc (.cells #[.slice none 0 0] 115)).alloc (.cells #[.int .i64 s.P, .int .i64 s.tl, .int .i64 s.th, .int .i64 s.al, .int .i64 s.ah, .int .i64 s.room, .int .i64 s.xl, .int .i64 s.xh, .int .i64 s.yl, .int .i64 s.yh, .slice a len cap] 78) = Wl := ⟨_, rfl⟩
  have hzl : Wl.heap.size = w.heap.size + 3 := by rw [← hWl]; simp
  have hBw : Below w.heap.size w Wl := by rw [← hWl]; exact (by repeat (first | exact Below.refl _ _ | (refine Below.alloc ?_ (by first | omega | (simp; omega) | simp) _) | (refine Below.setCell ?_ (by first | omega | (simp; omega) | simp) _) | refine Below.drew ?_))
  have bF : Boxed Wl (w.heap.size + 1) 115 (.slice none 0 0) := by
    rw [← hWl]; have h := Boxed.new (w.alloc (.cells #[.int .i64 s.P, .int .i64 s.tl, .int .i64 s.th, .int .i64 s.al, .int .i64 s.ah, .int .i64 s.room, .int .i64 s.xl, .int .i64 s.xh, .int .i64 s.yl, .int .i64 s.yh, .slice a len cap] 78)) 115 (.slice none 0 0); rw [World.size_alloc] at h; exact h.alloc _
  have hcl : ∀ i, Wl.cell? ⟨w.heap.size + 1 + 1, i, none⟩ = (#[.int .i64 s.P, .int .i64 s.tl, .int .i64 s.th, .int .i64 s.al, .int .i64 s.ah, .int .i64 s.room, .int .i64 s.xl, .int .i64 s.xh, .int .i64 s.yl, .int .i64 s.yh, .slice a len cap] : Array Value)[i]? := fun i => by
    rw [← hWl]; have h := World.cell?_alloc_new ((w.alloc (.cells #[.int .i64 s.P, .int .i64 s.tl, .int .i64 s.th, .int .i64 s.al, .int .i64 s.ah, .int .i64 s.room, .int .i64 s.xl, .int .i64 s.xh, .int .i64 s.yl, .int .i64 s.yh, .slice a len cap] 78)).alloc (.cells #[.slice none 0 0] 115)) #[.int .i64 s.P, .int .i64 s.tl, .int .i64 s.th, .int .i64 s.al, .int .i64 s.ah, .int .i64 s.room, .int .i64 s.xl, .int .i64 s.xh, .int .i64 s.yl, .int .i64 s.yh, .slice a len cap] 78 i; simpa using h
  have hsl : ∀ i, Wl.cell? ⟨w.heap.size, i, none⟩ = (#[.int .i64 s.P, .int .i64 s.tl, .int .i64 s.th, .int .i64 s.al, .int .i64 s.ah, .int .i64 s.room, .int .i64 s.xl, .int .i64 s.xh, .int .i64 s.yl, .int .i64 s.yh, .slice a len cap] : Array Value)[i]? := fun i => by
    have e1 : Below (w.heap.size + 1) (w.alloc (.cells #[.int .i64 s.P, .int .i64 s.tl, .int .i64 s.th, .int .i64 s.al, .int .i64 s.ah, .int .i64 s.room, .int .i64 s.xl, .int .i64 s.xh, .int .i64 s.yl, .int .i64 s.yh, .slice a len cap] 78)) Wl := by rw [← hWl]; exact (by repeat (first | exact Below.refl _ _ | (refine Below.alloc ?_ (by first | omega | (simp; omega) | simp) _) | (refine Below.setCell ?_ (by first | omega | (simp; omega) | simp) _) | refine Below.drew ?_))
    rw [e1.cell (p := ⟨w.heap.size, i, none⟩) (show w.heap.size < w.heap.size + 1 by omega)]
    exact World.cell?_alloc_new w _ _ i
  have hpgl := hp.below hBw
  have hpb : 0 < len → ∀ pb po, a = some ⟨pb, po, none⟩ → pb < w.heap.size := fun h0 pb po e => by
    obtain ⟨b', o', e', hb', _⟩ := hp.2.2 h0; rw [e] at e'; cases e'; exact hb'
  rw [hWl]
  clear hWl hp
  refine wpIn_rangeAddsP (n := 12) (by omega) (w.heap.size + 1 + 1) s a len cap rfl rfl ho hpl
    (fun b pre W => OffersIs s (w.heap.size + 1) w.heap.size Wl.heap.size b pre W ∧ But1 (w.heap.size + 1) Wl W ∧ Wl.heap.size ≤ b)
    ?hI ?hS ?h0 (fun y => { tmps := #[.agg #[.int .i64 s.P, .int .i64 s.tl, .int .i64 s.th, .int .i64 s.al, .int .i64 s.ah, .int .i64 s.room, .int .i64 s.xl, .int .i64 s.xh, .int .i64 s.yl, .int .i64 s.yh, .slice a len cap], .pointer (some ⟨w.heap.size, 0, none⟩), .slice none 0 0, .pointer (some ⟨w.heap.size + 1, 0, none⟩), y, undef, undef, .agg #[.int .i64 s.P, .int .i64 s.tl, .int .i64 s.th, .int .i64 s.al, .int .i64 s.ah, .int .i64 s.room, .int .i64 s.xl, .int .i64 s.xh, .int .i64 s.yl, .int .i64 s.yh, .slice a len cap], .func (.func 112) #[] #[.pointer (some ⟨w.heap.size + 1 + 1, 0, none⟩)], y, undef, undef, undef, undef, undef, undef, undef, undef, undef, undef, undef, undef, undef, undef, undef, undef, undef, undef, undef, undef, undef, undef, undef, undef, undef, undef, undef, undef, undef, undef, undef, undef, undef, undef, undef, undef, undef, undef, undef, undef, undef, undef, undef, undef, undef, undef, undef, undef, undef, undef, undef, undef, undef, undef, undef, undef, undef, undef, undef], defers := [] }) ?assign ?body ?done
  case hI =>
    rintro b pre W W' row ⟨hb, h3, hbb⟩ hg hr
    exact ⟨hb.kept hg hr (by omega) (by omega), h3.grown hg (fun r e => by rcases hr r e with h1 | h1 <;> omega), hbb⟩
  case hS =>
    rintro b pre W ⟨hb, h3, hbb⟩
    exact ⟨fun i => (h3.cell (by omega) (by omega) i).trans (hcl i), h3.pigs hpgl (fun h0 pb po e => by have := hpb h0 pb po e; omega), fun h0 pb po e => by have := hpb h0 pb po e; omega⟩
  case h0 =>
    intro W' b hb hle
    exact ⟨⟨_, (hb.block _ (by omega)).trans bF, World.ownsRow_nil _ _ _ _, by simp [Value.ownBlock], by simp [Value.ownBlock]⟩, (But1.refl _ _).below hb, hle⟩
  case assign =>
    intro l y W K hK
    gi_wp2
    exact hK
  case body =>
    rintro l b pre x W ⟨hbest, h3, hbb⟩ hHo hxl hxa hxr hpx
    have hs2 : ∀ i, W.cell? ⟨w.heap.size, i, none⟩ = (#[.int .i64 s.P, .int .i64 s.tl, .int .i64 s.th, .int .i64 s.al, .int .i64 s.ah, .int .i64 s.room, .int .i64 s.xl, .int .i64 s.xh, .int .i64 s.yl, .int .i64 s.yh, .slice a len cap] : Array Value)[i]? := fun i => (h3.cell (by omega) (by omega) i).trans (hsl i)
    have hpW : PigsAt W a len s.pigs := h3.pigs hpgl (fun h0 pb po e => by have := hpb h0 pb po e; omega)
    have hzW : Wl.heap.size ≤ W.heap.size := h3.size
    have hxi := ints_len hHo hxl hl4
    have hadd := Shop.isAdd_all ho hxa hxr
    have hfw := Shop.few_all ho hxa
    have HTP := Lib.hid (fun W1 (hb : Below W.heap.size W W1) => total_pounds s a cap (some ⟨b, 0, none⟩) len len x W1 (hpW.below hb) (hxi.below hb) hl4 hfw)
    have HTC := Lib.hid (fun W1 (hb : Below W.heap.size W W1) => total_pence s a cap (some ⟨b, 0, none⟩) len len x W1 (hpW.below hb) (hxi.below hb) hl4 hfw)
    have HTT := Lib.hid (fun W1 (hb : Below W.heap.size W W1) => total_tin s a cap (some ⟨b, 0, none⟩) len len x W1 (hpW.below hb) (hxi.below hb) hl4 hfw)
    have HTA := Lib.hid (fun W1 (hb : Below W.heap.size W W1) => total_antimony s a cap (some ⟨b, 0, none⟩) len len x W1 (hpW.below hb) (hxi.below hb) hl4 hfw)
    have hP := Shop.tot_P ho hadd
    obtain ⟨t1, t2⟩ := tot_all Pig.t bd_tin s.pigs x hfw hpl hxl
    obtain ⟨t3, t4⟩ := tot_all Pig.a bd_antimony s.pigs x hfw hpl hxl
    obtain ⟨t5, t6⟩ := tot_all Pig.P bd_pounds s.pigs x hfw hpl hxl
    have hok := Shop.ok_bd ho
    have HHo := Lib.hid hHo
    have HOF : s.offerOf x = { c := tot Pig.c s.pigs x, tl := maxI s.tl (allowLo (s.P + tot Pig.P s.pigs x) s.xl + -(tot Pig.t s.pigs x)), th := minI s.th (allowHi (s.P + tot Pig.P s.pigs x) s.xh + -(tot Pig.t s.pigs x)), al := maxI s.al (allowLo (s.P + tot Pig.P s.pigs x) s.yl + -(tot Pig.a s.pigs x)), ah := minI s.ah (allowHi (s.P + tot Pig.P s.pigs x) s.yh + -(tot Pig.a s.pigs x)) } := rfl
    replace HOF := Lib.hid HOF
    obtain ⟨x0, x1, x2, x3, x4, x5, x6, x7, x8, x9, x10⟩ := box11 hs2
    clear hs2 hxi hadd hfw
    generalize tot Pig.P s.pigs x = tp at *
    generalize tot Pig.c s.pigs x = tc at *
    generalize tot Pig.t s.pigs x = tt at *
    generalize tot Pig.a s.pigs x = ta at *
    have hmx : Try.prog.follows .mixedOrders = true := by kernel_rfl
    have v1 : IntKind.i64.wrap (s.P + tp) = s.P + tp := IntWalk.i64_in _ ⟨by omega, by omega⟩
    have v2 : IntKind.i64.wrap (-tt) = -tt := IntWalk.i64_in _ ⟨by omega, by omega⟩
    have v3 : IntKind.i64.wrap (-ta) = -ta := IntWalk.i64_in _ ⟨by omega, by omega⟩
    have g0 : 0 ≤ s.P + tp ∧ s.P + tp ≤ 2000 := hP
    have g1 := allow_fair g0 (Shop.lims ho).1.1
    have g2 := allow_fair g0 (Shop.lims ho).1.2
    have g3 := allow_fair g0 (Shop.lims ho).2.1
    have g4 := allow_fair g0 (Shop.lims ho).2.2
    have g5 : Fair (-tt) := by unfold Fair; omega
    have g6 : Fair (-ta) := by unfold Fair; omega
    replace g1 := g1.1; replace g2 := g2.2; replace g3 := g3.1; replace g4 := g4.2
    clear ho hP
    dsimp only
    gi_wp2
    apply wpIn_region_all (hm := hmx) (hB := by kernel_rfl)
    case h =>
      intro W1 hW1
      have k0 := cell_regrown (w := W1) ((hW1.cell (p := ⟨w.heap.size, 0, none⟩) (World.block_lt_of_cell? _ _ x0)).trans x0); have k1 := cell_regrown (w := W1) ((hW1.cell (p := ⟨w.heap.size, 1, none⟩) (World.block_lt_of_cell? _ _ x1)).trans x1); have k2 := cell_regrown (w := W1) ((hW1.cell (p := ⟨w.heap.size, 2, none⟩) (World.block_lt_of_cell? _ _ x2)).trans x2); have k3 := cell_regrown (w := W1) ((hW1.cell (p := ⟨w.heap.size, 3, none⟩) (World.block_lt_of_cell? _ _ x3)).trans x3); have k4 := cell_regrown (w := W1) ((hW1.cell (p := ⟨w.heap.size, 4, none⟩) (World.block_lt_of_cell? _ _ x4)).trans x4); have k5 := cell_regrown (w := W1) ((hW1.cell (p := ⟨w.heap.size, 5, none⟩) (World.block_lt_of_cell? _ _ x5)).trans x5); have k6 := cell_regrown (w := W1) ((hW1.cell (p := ⟨w.heap.size, 6, none⟩) (World.block_lt_of_cell? _ _ x6)).trans x6); have k7 := cell_regrown (w := W1) ((hW1.cell (p := ⟨w.heap.size, 7, none⟩) (World.block_lt_of_cell? _ _ x7)).trans x7); have k8 := cell_regrown (w := W1) ((hW1.cell (p := ⟨w.heap.size, 8, none⟩) (World.block_lt_of_cell? _ _ x8)).trans x8); have k9 := cell_regrown (w := W1) ((hW1.cell (p := ⟨w.heap.size, 9, none⟩) (World.block_lt_of_cell? _ _ x9)).trans x9); have k10 := cell_regrown (w := W1) ((hW1.cell (p := ⟨w.heap.size, 10, none⟩) (World.block_lt_of_cell? _ _ x10)).trans x10)
      repeat (refine wpQuietIn_step (fun _ _ _ _ => trivial) (fun K hK => ?_); go_simp; first | (refine hK _ ?_; clear hK K) | (apply Exists.intro; refine ⟨fun _ => ?_, hK _ ?_⟩; (with_reducible exact meet (fun w1 h1 => HTP.out w1 (hW1.trans (h1.mono hW1.size))) _ _); clear hK K))
      all_goals exact wpQuietIn_nil rfl
    case hQ =>
      intro W2 hW2
      have y0 := (hW2.cell (p := ⟨w.heap.size, 0, none⟩) (World.block_lt_of_cell? _ _ x0)).trans x0; have y1 := (hW2.cell (p := ⟨w.heap.size, 1, none⟩) (World.block_lt_of_cell? _ _ x1)).trans x1; have y2 := (hW2.cell (p := ⟨w.heap.size, 2, none⟩) (World.block_lt_of_cell? _ _ x2)).trans x2; have y3 := (hW2.cell (p := ⟨w.heap.size, 3, none⟩) (World.block_lt_of_cell? _ _ x3)).trans x3; have y4 := (hW2.cell (p := ⟨w.heap.size, 4, none⟩) (World.block_lt_of_cell? _ _ x4)).trans x4; have y5 := (hW2.cell (p := ⟨w.heap.size, 5, none⟩) (World.block_lt_of_cell? _ _ x5)).trans x5; have y6 := (hW2.cell (p := ⟨w.heap.size, 6, none⟩) (World.block_lt_of_cell? _ _ x6)).trans x6; have y7 := (hW2.cell (p := ⟨w.heap.size, 7, none⟩) (World.block_lt_of_cell? _ _ x7)).trans x7; have y8 := (hW2.cell (p := ⟨w.heap.size, 8, none⟩) (World.block_lt_of_cell? _ _ x8)).trans x8; have y9 := (hW2.cell (p := ⟨w.heap.size, 9, none⟩) (World.block_lt_of_cell? _ _ x9)).trans x9; have y10 := (hW2.cell (p := ⟨w.heap.size, 10, none⟩) (World.block_lt_of_cell? _ _ x10)).trans x10
      clear x0 x1 x2 x3 x4 x5 x6 x7 x8 x9 x10
      gi_wp2
      apply wpIn_region_split (k := 34) (cs := #[.int .i64 0, .int .i64 0, .int .i64 0, .int .i64 0, .int .i64 0]) (T := 118) (hsplit := by kernel_rfl) (hlen := rfl) (hm := hmx) (hB := by kernel_rfl) (hs := by kernel_rfl) (hgA := rfl) (hgS := rfl)
      case hA =>
        intro ρ W3
        simp [go_sem]
      case hAa =>
        intro ρ W3
        rfl
      case h =>
        intro W3 hW3
        have k0 := cell_regrown (w := W3) ((hW3.cell (p := ⟨w.heap.size, 0, none⟩) (World.block_lt_of_cell? _ _ y0)).trans y0); have k1 := cell_regrown (w := W3) ((hW3.cell (p := ⟨w.heap.size, 1, none⟩) (World.block_lt_of_cell? _ _ y1)).trans y1); have k2 := cell_regrown (w := W3) ((hW3.cell (p := ⟨w.heap.size, 2, none⟩) (World.block_lt_of_cell? _ _ y2)).trans y2); have k3 := cell_regrown (w := W3) ((hW3.cell (p := ⟨w.heap.size, 3, none⟩) (World.block_lt_of_cell? _ _ y3)).trans y3); have k4 := cell_regrown (w := W3) ((hW3.cell (p := ⟨w.heap.size, 4, none⟩) (World.block_lt_of_cell? _ _ y4)).trans y4); have k5 := cell_regrown (w := W3) ((hW3.cell (p := ⟨w.heap.size, 5, none⟩) (World.block_lt_of_cell? _ _ y5)).trans y5); have k6 := cell_regrown (w := W3) ((hW3.cell (p := ⟨w.heap.size, 6, none⟩) (World.block_lt_of_cell? _ _ y6)).trans y6); have k7 := cell_regrown (w := W3) ((hW3.cell (p := ⟨w.heap.size, 7, none⟩) (World.block_lt_of_cell? _ _ y7)).trans y7); have k8 := cell_regrown (w := W3) ((hW3.cell (p := ⟨w.heap.size, 8, none⟩) (World.block_lt_of_cell? _ _ y8)).trans y8); have k9 := cell_regrown (w := W3) ((hW3.cell (p := ⟨w.heap.size, 9, none⟩) (World.block_lt_of_cell? _ _ y9)).trans y9); have k10 := cell_regrown (w := W3) ((hW3.cell (p := ⟨w.heap.size, 10, none⟩) (World.block_lt_of_cell? _ _ y10)).trans y10)
        simp only [List.take_succ_cons, List.take_zero]
        repeat (refine wpQuietIn_step (fun _ _ _ _ => trivial) (fun K hK => ?_); go_simp; first | (refine hK _ ?_; clear hK K) | (apply Exists.intro; refine ⟨fun _ => ?_, hK _ ?_⟩; (first | (gi_at_call 84; first | with_reducible exact meet (fun w1 h1 => HTC.out w1 (hW2.trans ((hW3.trans (h1.mono hW3.size)).mono hW2.size))) _ _ | with_reducible exact meet (fun w1 h1 => HTT.out w1 (hW2.trans ((hW3.trans (h1.mono hW3.size)).mono hW2.size))) _ _ | with_reducible exact meet (fun w1 h1 => HTA.out w1 (hW2.trans ((hW3.trans (h1.mono hW3.size)).mono hW2.size))) _ _) | (gi_at_call 101; with_reducible exact meet (fun w1 h1 => allowed_below _ _ _ (by omega) (by omega) (by omega) w1) _ _) | (gi_at_call 96; with_reducible exact meet (fun w1 h1 => moved_below _ _ _ (by assumption) (by assumption) (by assumption) w1) _ _) | (gi_at_call 104; with_reducible exact meet (fun w1 h1 => common_below _ _ _ _ w1) _ _)); clear hK K))
        all_goals exact wpQuietIn_nil rfl
      case hS =>
        intro W3 b3 hW3 hb3 hc3
        simp only [List.drop_succ_cons, List.drop_zero, List.getD_cons_succ, List.getD_cons_zero, Act.put, List.setIfInBounds_toArray, List.set_cons_succ, List.set_cons_zero]
        have z0 : W3.cell? ⟨b3, 0, none⟩ = some (.int .i64 0) := by simp [World.cell?, hc3]
        have z1 : W3.cell? ⟨b3, 1, none⟩ = some (.int .i64 0) := by simp [World.cell?, hc3]
        have z2 : W3.cell? ⟨b3, 2, none⟩ = some (.int .i64 0) := by simp [World.cell?, hc3]
        have z3 : W3.cell? ⟨b3, 3, none⟩ = some (.int .i64 0) := by simp [World.cell?, hc3]
        have z4 : W3.cell? ⟨b3, 4, none⟩ = some (.int .i64 0) := by simp [World.cell?, hc3]
        have zf : ∀ i, W3.frozen? ⟨b3, i, none⟩ = false := fun i => by simp [World.frozen?, hc3]
        have hB13 : Below W.heap.size W W3 := hW2.trans (hW3.mono hW2.size)
        obtain ⟨v, hv, hrow, hne, hge⟩ := hbest
        have hzW2 := hW2.size
        have hv3 := hv.kept (grown_none hB13) (by simp)
        have hrow3 := hrow.kept (grown_none hB13) (Classical.em _)
        have hvlt := hv.lt
        have hrlt := hrow.lt
        have hbw := HHo.out.1
        generalize maxI s.tl (allowLo (s.P + tp) s.xl + -tt) = o1 at *
        generalize minI s.th (allowHi (s.P + tp) s.xh + -tt) = o2 at *
        generalize maxI s.al (allowLo (s.P + tp) s.yl + -ta) = o3 at *
        generalize minI s.ah (allowHi (s.P + tp) s.yh + -ta) = o4 at *
        clear y0 y1 y2 y3 y4 y5 y6 y7 y8 y9 y10 hv hrow v1 v2 v3 g0 g1 g2 g3 g4 g5 g6
        gi_wp2_with fail
        obtain ⟨W4, hW4⟩ : ∃ W4, (((((W3.setCell ⟨b3, 0, none⟩ (.int .i64 tc)).setCell ⟨b3, 1, none⟩ (.int .i64 o1)).setCell ⟨b3, 2, none⟩ (.int .i64 o2)).setCell ⟨b3, 3, none⟩ (.int .i64 o3)).setCell ⟨b3, 4, none⟩ (.int .i64 o4)) = W4 := ⟨_, rfl⟩
        obtain ⟨q4, gr4⟩ := five_set (.int .i64 tc) (.int .i64 o1) (.int .i64 o2) (.int .i64 o3) (.int .i64 o4) hc3
        have hcb3 : ∀ o : Obj, W3.heap[b3]? = some o → o.isCells = true := fun o ho => by rw [hc3] at ho; cases ho; rfl
        rw [hW4] at q4 gr4 ⊢
        clear hW4 z0 z1 z2 z3 z4 zf hc3
        obtain ⟨z0, z1, z2, z3, z4⟩ := five_cells q4
        have hv4 := hv3.kept gr4 (by simp; omega)
        have hrow4 := hrow3.kept gr4 (.inr (fun e => by have := hrlt _ e; omega))
        clear hv3 hrow3
        have k4 : KeepsOthers W W4 := (keeps_others hB13).trans (KeepsOthers.of_grownBy gr4 (fun j o e ho => by cases e; exact hcb3 o ho))
        have b4 : But1 (w.heap.size + 1) Wl W4 := (h3.below hB13).grown gr4 (fun r e => by cases e; omega)
        have h4 : Holds W4 b x := (HHo.out.below hB13).other gr4 (by simp; omega)
        have hz4 : W3.heap.size ≤ W4.heap.size := gr4.size
        have hz3 := hW3.size
        have hlen : (s.offersOf pre).length + 1 ≤ 1296 := by
          have e1 : (s.offersOf pre).length ≤ pre.length := by unfold Shop.offersOf; exact Nat.le_trans (List.length_filter_le _ _) (by simp)
          have e2 := hpx.length_le
          have e3 : ((allL s.most).filter s.room?).length ≤ (allL s.most).length := List.length_filter_le _ _
          have e4 := hrows
          simp only [List.length_append, List.length_cons, List.length_nil] at e2
          omega
        have HSN := Lib.hid (offersOf_snoc s pre x)
        have hb34 := (Array.getElem?_eq_some_iff.1 q4).1
        have hb35 : w.heap.size + 1 < W4.heap.size := by omega
        have cv := hv4.cell
        have fv := hv4.frozen
        refine ⟨trivial, ?_⟩
        rcases he1 : emptyB o1 o2 with - | -
        · refine (CallsIn.inRound l (callsIn_wide.2 (empty_is _ _ _ he1 _))).mono ?_
          rintro e w5 ⟨rfl, rfl⟩
          gi_wp2_with fail
          refine ⟨trivial, ?_⟩
          rcases he2 : emptyB o3 o4 with - | -
          · have HG := Lib.hid (show s.offersOf (pre ++ [x]) = s.offersOf pre ++ [s.offerOf x] by rw [HSN.out, HOF.out]; simp [Offer.good, he1, he2])
            refine (CallsIn.inRound l (callsIn_wide.2 (empty_is _ _ _ he2 _))).mono ?_
            rintro e w6 ⟨rfl, rfl⟩
            have hB6 : Below W4.heap.size W4 _ := ((Below.refl _ W4).alloc (Nat.le_refl _) (.cells #[.int .i64 o1, .int .i64 o2] 23)).alloc (by simp) (.cells #[.int .i64 o3, .int .i64 o4] 23)
            obtain ⟨W6, hW6⟩ : ∃ W6, (W4.alloc (.cells #[.int .i64 o1, .int .i64 o2] 23)).alloc (.cells #[.int .i64 o3, .int .i64 o4] 23) = W6 := ⟨_, rfl⟩
            rw [hW6] at hB6 ⊢
            clear hW6
            have hz6 := hB6.size
            have hv6 := hv4.kept (grown_none hB6) (by simp)
            have hrow6 := hrow4.kept (grown_none hB6) (Classical.em _)
            have k6 := k4.trans (keeps_others hB6)
            have b6 := b4.below hB6
            have h6 := h4.below hB6
            have p0 := (hB6.cell (p := ⟨b3, 0, none⟩) hb34).trans z0
            have p1 := (hB6.cell (p := ⟨b3, 1, none⟩) hb34).trans z1
            have p2 := (hB6.cell (p := ⟨b3, 2, none⟩) hb34).trans z2
            have p3 := (hB6.cell (p := ⟨b3, 3, none⟩) hb34).trans z3
            have p4 := (hB6.cell (p := ⟨b3, 4, none⟩) hb34).trans z4
            have cv6 := hv6.cell
            clear z0 z1 z2 z3 z4 cv fv hv4 hrow4 k4 b4 h4
            gi_wp2_with (gi_at_builtin; refine wpListIn_append_own_at _ rfl _ _ 115 rfl w.heap.size 118 i0 (.agg #[.int .i64 0, .int .i64 0, .int .i64 0, .int .i64 0, .int .i64 0]) 5 40 Try.underlying115 hi hy0 hy1 hy2 rfl (by decide) v _ _ rfl (hrow6.alloc _) ⟨W6.heap.size, 0, none⟩ 1 1 [.int .i64 tc, .int .i64 o1, .int .i64 o2, .int .i64 o3, .int .i64 o4] rfl rfl (five_new _ _ _ _ _ _ _) (by simp [Value.oneCell']) (by unfold maxLen; omega) (by omega) (by simp; omega) ?_; intro v' w7 hown' hgrow _ hat; obtain ⟨g', cap', rfl⟩ := ownsRow_succ hown'; obtain ⟨hv7, hv8, hr8, hk8, hb8⟩ := hv6.appended (by decide) hrow6 (by omega) (by omega) hown' hgrow; have hc7 := hv7.cell; have hf7 := hv7.frozen)
            have ho7 : ∀ r, (Value.slice (some ⟨g', 0, none⟩) ((s.offersOf pre).length + 1) cap').ownBlock = some r → Wl.heap.size ≤ r ∧ r ≠ b := fun r e => by
              have hat' : (Value.slice (some ⟨g', 0, none⟩) ((s.offersOf pre).length + 1) cap').ownBlock = v.ownBlock ∨ (Value.slice (some ⟨g', 0, none⟩) ((s.offersOf pre).length + 1) cap').ownBlock = some (W6.heap.size + 1) := by simpa using hat
              rcases hat' with ha | ha
              · rw [ha] at e; exact ⟨hge r e, fun e' => hne (by rw [e, e'])⟩
              · rw [ha] at e; simp at e; omega
            have hE : (s.offersOf pre ++ [s.offerOf x]).flatMap Offer.cells = (s.offersOf pre).flatMap Offer.cells ++ [.int .i64 tc, .int .i64 o1, .int .i64 o2, .int .i64 o3, .int .i64 o4] := by rw [List.flatMap_append, HOF.out]; simp [Offer.cells]
            exact ⟨(k6.trans hk8).from _, ⟨⟨_, hv8, by rw [HG.out, hE]; simpa using hr8, fun e => (ho7 b e).2 rfl, fun r e => (ho7 r e).1⟩, ((b6.grown (World.grownBy_alloc _ _ none) (fun r e => by cases e)).grown hgrow (fun r e => .inl (hge r e))).grown (gb_setCell _ _ 0 _) (fun r e => by cases e; exact .inr rfl), hbb⟩, ((h6.other (World.grownBy_alloc _ _ none) (by simp)).other hgrow (fun e => hne e.symm)).other (gb_setCell _ _ 0 _) (by simp; omega)⟩
          · have HG := Lib.hid (show s.offersOf (pre ++ [x]) = s.offersOf pre by rw [HSN.out, HOF.out]; simp [Offer.good, he1, he2])
            refine (CallsIn.inRound l (callsIn_wide.2 (empty_is _ _ _ he2 _))).mono ?_
            rintro e w6 ⟨rfl, rfl⟩
            gi_wp2_with fail
            have hB6 : Below W4.heap.size W4 _ := ((Below.refl _ W4).alloc (Nat.le_refl _) (.cells #[.int .i64 o1, .int .i64 o2] 23)).alloc (by simp) (.cells #[.int .i64 o3, .int .i64 o4] 23)
            exact ⟨(k4.trans (keeps_others hB6)).from _, ⟨⟨v, hv4.kept (grown_none hB6) (by simp), by rw [HG.out]; exact hrow4.kept (grown_none hB6) (Classical.em _), hne, hge⟩, b4.below hB6, hbb⟩, h4.below hB6⟩
        · have HG := Lib.hid (show s.offersOf (pre ++ [x]) = s.offersOf pre by rw [HSN.out, HOF.out]; simp [Offer.good, he1])
          refine (CallsIn.inRound l (callsIn_wide.2 (empty_is _ _ _ he1 _))).mono ?_
          rintro e w5 ⟨rfl, rfl⟩
          gi_wp2_with fail
          refine ⟨trivial, ?_⟩
          gi_wp2
          have hB6 : Below W4.heap.size W4 _ := (Below.refl _ W4).alloc (Nat.le_refl _) (.cells #[.int .i64 o1, .int .i64 o2] 23)
          exact ⟨(k4.trans (keeps_others hB6)).from _, ⟨⟨v, hv4.kept (grown_none hB6) (by simp), by rw [HG.out]; exact hrow4.kept (grown_none hB6) (Classical.em _), hne, hge⟩, b4.below hB6, hbb⟩, h4.below hB6⟩
  case done =>
    rintro D b W hD ⟨⟨v, hv, hrow, hne, hge⟩, h3, hbb⟩ hK
    have hlen : (s.offersOf ((allL s.most).filter s.room?)).length ≤ 1296 := by
      have e1 : (s.offersOf ((allL s.most).filter s.room?)).length ≤ ((allL s.most).filter s.room?).length := by unfold Shop.offersOf; exact Nat.le_trans (List.length_filter_le _ _) (by simp)
      have e3 : ((allL s.most).filter s.room?).length ≤ (allL s.most).length := List.length_filter_le _ _
      omega
    have hbW : Below w.heap.size w W := hBw.trans (h3.toBelow (by omega) hBw.size)
    have hOF : ∀ l, OffersOf s l → OffersOf s l := fun _ h => h
    have HOF := Lib.hid (show ∀ l, l.Perm (s.offersOf ((allL s.most).filter s.room?)) → (l.Pairwise fun x y => x.c ≤ y.c) → OffersOf s l from fun l h1 h2 => ⟨h1, h2⟩)
    generalize s.offersOf ((allL s.most).filter s.room?) = L at *
    clear hOF hrows hsl hcl hpgl hpb bF
    have cv := hv.cell
    rcases hrow.2 with ⟨rfl, h0⟩ | ⟨g, cap', cur, rfl, hgg, hg2, _⟩
    · have hL : L = [] := List.eq_nil_of_length_eq_zero h0
      have hN := AnyF.slices_SortFunc_none Try.sortOffers none 0 (.func (.func 115) #[] #[]) W
      change Calls Try.prog 114 _ _ _ at hN
      have HN := Lib.hid hN
      clear hN
      gi_wp2_with (refine ⟨trivial, ?_⟩; gi_at_call 114; refine (callsIn_wide.2 HN.out).mono ?_; rintro e w3 ⟨rfl, rfl⟩)
      refine ⟨by simp, .inl ⟨_, _, rfl, run_takeDeferred hK, ?_⟩⟩
      exact ⟨.slice none 0 0, by simp [results, Try.results108, go_sem], hbW.trans (belowK_b (w := w) (Nat.le_refl _) _ D _ (.deferred none) (by omega) hK rfl rfl), _, [], rfl, HOF.out [] (by rw [hL]) List.Pairwise.nil, World.ownsRow_nil _ _ _ _⟩
    · have hSF := SortFunc_any w.heap.size g cap' L W hrow (by omega)
      have HSF := Lib.hid hSF
      clear hSF
      have hge' := hge g rfl
      gi_wp2_with (refine ⟨trivial, ?_⟩; gi_at_call 114; refine (callsIn_wide.2 HSF.out).mono ?_; rintro e w3 ⟨rfl, l', hp', hs', hr', hgr'⟩; have hv' := hv.kept hgr' (by simp; omega); have cv' := hv'.cell; have hD3 : w3.heap[D]? = some (.deferred (some [])) := ((hgr'.block D (Array.getElem?_eq_some_iff.1 hK).1 (by intro e; cases e; rw [hg2] at hK; cases hK)).trans hK))
      refine ⟨by simp, .inl ⟨_, _, rfl, run_takeDeferred hD3, ?_⟩⟩
      have hb3 : Below w.heap.size w w3 := hbW.trans ⟨hgr'.os, hgr'.tape, hgr'.output, hgr'.size, fun k hk => hgr'.block k (Nat.lt_of_lt_of_le hk hbW.size) (by intro e; cases e; omega)⟩
      exact ⟨.slice (some ⟨g, 0, none⟩) L.length cap', by simp [results, Try.results108, go_sem], hb3.trans (belowK_b (w := w) (Nat.le_refl _) _ D _ (.deferred none) (by omega) hD3 rfl rfl), _, l', rfl, HOF.out l' hp' hs', by rw [hp'.length_eq]; exact ownsRow_putObj hr' _ hD3 rfl⟩
end Go.Proofs.Ytajabapcmpmboaa
