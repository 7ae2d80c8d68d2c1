/- Package changes: slices.AppendSeq and slices.Collect of remedies: the remedies in a row. -/
import Derived.Test.YtedfdhpggghjeaaDD
namespace Go.Proofs.Ytedfdhpggghjeaa
set_option linter.unusedVariables false
set_option linter.unusedSimpArgs false
open Go.RowKit Go.Shelf

attribute [local go_sem] Oper.semAt_some

/-! Any program: an ordered region within a round, as outside. -/
theorem listIn_of {l n : Nat} {P : Program} {ops : Array Oper} {Q : Exit → Act → World → Prop} (hQ : ¬ LetsOut Q) :
    ∀ (rest : List Oper) (a : Act) (w : World), (∀ o ∈ rest, ∀ c, o.op ≠ .defer c) → wpList P ops Q rest a w → wpListIn (Fence.wide.inRound l) n P ops Q rest a w
  | [], _, _, _, h => h
  | o :: rest, a, w, hd, h => by
    unfold wpList at h
    unfold wpListIn
    have hd2 : ∀ o ∈ rest, ∀ c, o.op ≠ .defer c := fun o ho => hd o (List.mem_cons_of_mem _ ho)
    by_cases hw : Region.wanted o (yielded ops a.tmps) = true
    · rw [if_pos hw] at h ⊢
      rcases h with h | h
      · exact Oper.wpIn_mono (fun a' w' h' => listIn_of hQ rest a' w' hd2 h') (operIn_of (hd o (List.mem_cons_self ..)) h)
      · exact absurd h.2 hQ
    · rw [if_neg hw] at h ⊢
      exact ⟨fun _ _ => trivial, listIn_of hQ rest _ _ hd2 h⟩
theorem wpIn_region_round {l n : Nat} {P : Program} {ops : List Oper} {Q : Exit → Act → World → Prop} {id : Nat} {a : Act} {w : World} (hd : ∀ o ∈ ops, ∀ c, o.op ≠ .defer c) (hQ : ¬ LetsOut Q) (h : wpList P ops.toArray Q ops a w) :
    (Code.region id ops.toArray false).wpIn (Fence.wide.inRound l) n P Q a w := wpIn_region_lit (listIn_of hQ _ _ _ hd h)
theorem cell_put {w : World} {b : Nat} {o : Obj} (o' : Obj) {p : Addr} {v : Value} (h : w.heap[b]? = some o) (hc : o.isCells = false) (hx : w.cell? p = some v) : (w.putObj b o').cell? p = some v := by
  refine (World.cell?_of_block (World.putObj_heap_other (fun e => ?_))).trans hx
  unfold World.cell? at hx
  rw [e, h] at hx
  cases o <;> simp_all [Obj.isCells]
theorem frz_put {w : World} {b : Nat} {o : Obj} (o' : Obj) {p : Addr} {v : Value} (h : w.heap[b]? = some o) (hc : o.isCells = false) (hx : w.cell? p = some v) (hf : w.frozen? p = false) : (w.putObj b o').frozen? p = false := by
  refine (World.frozen?_of_block (World.putObj_heap_other (fun e => ?_))).trans hf
  unfold World.cell? at hx
  rw [e, h] at hx
  cases o <;> simp_all [Obj.isCells]
theorem ints_put {w : World} {b : Nat} {o : Obj} (o' : Obj) {a : Option Addr} {n : Nat} {xs : List Int} (h : w.heap[b]? = some o) (hc : o.isCells = false) (hx : IntsAt w a n xs) : IntsAt (w.putObj b o') a n xs := by
  refine ⟨hx.1, hx.2.1, fun hp => ?_⟩
  obtain ⟨g, z, e, hg, hcell⟩ := hx.2.2 hp
  exact ⟨g, z, e, Nat.lt_of_lt_of_le hg (grownBy_putObj' w b o').size, fun i hi => cell_put o' h hc (hcell i hi)⟩
theorem own_block {w : World} {n0 len sz : Nat} {e : TypeId} {v : Value} {xs : List Value} (h : w.ownsRow n0 e sz v len xs) : ∀ r, v.ownBlock = some r → ∃ o : Obj, w.heap[r]? = some o ∧ o.isCells = true := by
  intro r hr
  rcases h.2 with ⟨rfl, _⟩ | ⟨g, c, cur, rfl, _, h2, _⟩
  · simp [Value.ownBlock] at hr
  · simp [Value.ownBlock] at hr; rw [← hr]; exact ⟨_, h2, rfl⟩
theorem own_put {w : World} {n0 len sz b : Nat} {o : Obj} (o' : Obj) {e : TypeId} {v : Value} {xs : List Value} (hb : w.heap[b]? = some o) (hc : o.isCells = false) (h : w.ownsRow n0 e sz v len xs) : (w.putObj b o').ownsRow n0 e sz v len xs :=
  h.kept (grownBy_putObj' w b o') (Or.inr (fun e => by
    obtain ⟨o2, h2, h3⟩ := own_block h _ e
    rw [hb] at h2; injection h2 with h2; rw [h2] at hc; rw [hc] at h3; cases h3))
theorem KeepsN.grown {w w' : World} {R : Option Nat} (h : w.grownBy w' R) (hR : ∀ r, R = some r → ∃ o : Obj, w.heap[r]? = some o ∧ o.isCells = true) : KeepsN w w' :=
  ⟨h.size, fun b o hb hc => (h.block b (Array.getElem?_eq_some_iff.1 hb).1 (fun e => by
    obtain ⟨o2, h2, h3⟩ := hR b e.symm
    rw [hb] at h2; injection h2 with h2; rw [h2] at hc; rw [hc] at h3; cases h3)).trans hb⟩
theorem cell_isCells {w : World} {g i : Nat} {u : Value} (h : w.cell? ⟨g, i, none⟩ = some u) : ∃ o : Obj, w.heap[g]? = some o ∧ o.isCells = true := by
  unfold World.cell? at h
  rcases ho : w.heap[g]? with - | o
  · simp [ho] at h
  · refine ⟨o, rfl, ?_⟩
    cases o <;> simp_all [Obj.isCells]
theorem KeepsN.set {w : World} {g i : Nat} {u v : Value} (h : w.cell? ⟨g, i, none⟩ = some u) : KeepsN w (w.setCell ⟨g, i, none⟩ v) :=
  KeepsN.grown (gbx_set (gbx_refl w g) i v) (fun r e => by injection e with e; rw [← e]; exact cell_isCells h)
theorem KeepsUp.grown {N : Nat} {w w' : World} {R : Option Nat} (h : w.grownBy w' R) (hR : ∀ r, R = some r → r < N) : KeepsUp N w w' :=
  ⟨h.size, fun k h1 h2 => h.block k h2 (fun e => by have := hR k e.symm; omega)⟩

/-- The remedies in a row. -/
def remCells (h : CHouse) (l : List Rem) : List Value := l.flatMap fun r => [.slice r.a (h.pick r.x).length r.n, .int .i64 (h.cost r.x)]
theorem remCells_snoc (h : CHouse) (l : List Rem) (r : Rem) : remCells h (l ++ [r]) = remCells h l ++ [.slice r.a (h.pick r.x).length r.n, .int .i64 (h.cost r.x)] := by
  unfold remCells; rw [List.flatMap_append]; simp
def RemsAt (h : CHouse) (B : Nat) (w : World) (a : Option Addr) (len : Nat) (l : List Rem) : Prop :=
  l.length = len ∧ len ≤ maxLen ∧ (0 < len → ∃ b, a = some ⟨b, 0, none⟩ ∧ b < w.heap.size ∧ ∀ i (hi : i < l.length), w.cell? ⟨b, i * 2, none⟩ = some (.slice l[i].a (h.pick l[i].x).length l[i].n) ∧ w.cell? ⟨b, i * 2 + 1, none⟩ = some (.int .i64 (h.cost l[i].x))) ∧ ∀ r ∈ l, IntsAt w r.a (h.pick r.x).length (h.pick r.x) ∧ (0 < (h.pick r.x).length → ∀ ad, r.a = some ad → B ≤ ad.block)
theorem remCells_get (h : CHouse) : ∀ (l : List Rem) (i : Nat) (hi : i < l.length), (remCells h l)[i * 2]? = some (.slice l[i].a (h.pick l[i].x).length l[i].n) ∧ (remCells h l)[i * 2 + 1]? = some (.int .i64 (h.cost l[i].x))
  | [], i, hi => by simp at hi
  | r :: l, 0, hi => by simp [remCells]
  | r :: l, i + 1, hi => by
    have ih := remCells_get h l i (by simpa using hi)
    have e : remCells h (r :: l) = .slice r.a (h.pick r.x).length r.n :: .int .i64 (h.cost r.x) :: remCells h l := by simp [remCells]
    rw [e, show (i + 1) * 2 = i * 2 + 1 + 1 by omega]
    simpa using ih
theorem rems_own {h : CHouse} {w : World} {B n0 len : Nat} {v : Value} {l : List Rem} (ho : w.ownsRow n0 89 2 v len (remCells h l)) (hl : l.length = len) (hi : ∀ r ∈ l, IntsAt w r.a (h.pick r.x).length (h.pick r.x) ∧ (0 < (h.pick r.x).length → ∀ ad, r.a = some ad → B ≤ ad.block)) : ∃ a cap, v = .slice a len cap ∧ RemsAt h B w a len l := by
  rcases ho.2 with ⟨rfl, hz⟩ | ⟨g, cap, cur, rfl, -, hg, hc1, hc2, -, hrow⟩
  · exact ⟨_, _, by rw [hz], hl, by unfold maxLen; omega, fun h0 => absurd h0 (by omega), hi⟩
  · refine ⟨some ⟨g, 0, none⟩, cap, rfl, hl, by omega, fun _ => ⟨g, rfl, (Array.getElem?_eq_some_iff.1 hg).1, fun i hi2 => ?_⟩, hi⟩
    have e : ∀ j u, (remCells h l)[j]? = some u → w.cell? ⟨g, j, none⟩ = some u := fun j u hu => by
      rw [← hrow, List.getElem?_take] at hu
      split at hu
      · simp only [World.cell?, hg]; simpa using hu
      · cases hu
    exact ⟨e _ _ (remCells_get h l i hi2).1, e _ _ (remCells_get h l i hi2).2⟩
theorem Try.info89 : (Try.prog.info? 89).map (fun i => (i.zero, i.size, i.bytes)) = some (some (.agg #[.slice none 0 0, .int .i64 0]), 2, 32) := by kernel_rfl
theorem wpList_append_rem {ops : Array Oper} {rest : List Oper} {o : Oper} {a : Act} {Q : Exit → Act → World → Prop} (w : World) (n0 k : Nat) (v : Value) (cs : List Value) (ra : Option Addr) (rl rn : Nat) (q : Int) (hgd : o.guard = none) (s x : Operand)
    (ho : o.op = .call { callee := .builtin .append, args := #[s, x], argTypes := #[98, 98] }) (hs : a.eval s = v) (hxv : ∃ p, a.eval x = .slice (some ⟨p, 0, none⟩) 1 1 ∧ w.cell? ⟨p, 0, none⟩ = some (.slice ra rl rn) ∧ w.cell? ⟨p, 1, none⟩ = some (.int .i64 q))
    (hrow : w.ownsRow n0 89 2 v k cs) (hl : k ≤ 1000) (hnw : n0 ≤ w.heap.size)
    (h : ∀ v' w', w'.ownsRow n0 89 2 v' (k + 1) (cs ++ [.slice ra rl rn, .int .i64 q]) → w.grownBy w' v.ownBlock → (∀ g, v'.ownBlock = some g → v.ownBlock = some g ∨ w.heap.size ≤ g) → wpList Try.prog ops Q rest (a.put o.dst v') w') : wpList Try.prog ops Q (o :: rest) a w := by
  obtain ⟨p, hxv, h0, h1⟩ := hxv
  obtain ⟨i0, hi0, hy0, hy1, hy2⟩ := info_parts Try.info89
  obtain ⟨v', w3, hr, hown, hgrow, hnew, hn2⟩ := run_append_own_at (P := Try.prog) w n0 98 o.type 89 i0 _ 2 32 Try.underlying98 hi0 hy0 hy1 hy2 rfl (by decide) _ k _ hrow ⟨p, 0, none⟩ 1 1 [.slice ra rl rn, .int .i64 q] rfl (by
    intro j x hj
    match j, hj with
    | 0, hj => cases hj; rw [Addr.add_lit]; exact h0
    | 1, hj => cases hj; rw [Addr.add_lit]; exact h1
    | j + 2, hj => simp at hj) (by intro x hx; simp at hx; rcases hx with rfl | rfl <;> rfl) (by unfold maxLen; omega) (by omega) hnw
  exact wpList_append_run w hgd s x 98 ho _ _ _ _ hs hxv hr (h v' w3 hown hgrow (fun g hg => by
    rcases hn2 with e | e
    · exact .inl (e ▸ hg)
    · rw [e] at hg; injection hg with hg; exact .inr (by omega)))

theorem ints_grown {w w' : World} {R : Option Nat} {a : Option Addr} {n : Nat} {xs : List Int} (hg : w.grownBy w' R) (hx : IntsAt w a n xs) (hne : 0 < n → ∀ ad, a = some ad → R ≠ some ad.block) : IntsAt w' a n xs := by
  refine ⟨hx.1, hx.2.1, fun hp => ?_⟩
  obtain ⟨g, z, e, hb, hc⟩ := hx.2.2 hp
  exact ⟨g, z, e, Nat.lt_of_lt_of_le hb hg.size, fun i hi => (World.cell?_of_block (a := ⟨g, z + i, none⟩) (hg.block g hb (fun q => hne hp _ e q.symm))).trans (hc i hi)⟩
theorem ints_lt {w : World} {a : Option Addr} {n : Nat} {xs : List Int} (hx : IntsAt w a n xs) (hp : 0 < n) (ad : Addr) (e : a = some ad) : ad.block < w.heap.size := by
  obtain ⟨g, z, e2, hb, -⟩ := hx.2.2 hp
  rw [e] at e2; injection e2 with e2; rw [e2]; exact hb
theorem rems_put {h : CHouse} {B : Nat} {w : World} {b : Nat} {o : Obj} (o' : Obj) {a : Option Addr} {len : Nat} {l : List Rem} (hb : w.heap[b]? = some o) (hc : o.isCells = false) (hx : RemsAt h B w a len l) : RemsAt h B (w.putObj b o') a len l := by
  obtain ⟨h1, h2, h3, h4⟩ := hx
  refine ⟨h1, h2, fun hp => ?_, fun r hr => ⟨ints_put o' hb hc (h4 r hr).1, (h4 r hr).2⟩⟩
  obtain ⟨g, e, hg, hcell⟩ := h3 hp
  exact ⟨g, e, Nat.lt_of_lt_of_le hg (grownBy_putObj' w b o').size, fun i hi => ⟨cell_put o' hb hc (hcell i hi).1, cell_put o' hb hc (hcell i hi).2⟩⟩
theorem RemsAt.below {h : CHouse} {B : Nat} {w w' : World} {a : Option Addr} {len : Nat} {l : List Rem} (hb : Below w.heap.size w w') (hx : RemsAt h B w a len l) : RemsAt h B w' a len l := by
  obtain ⟨h1, h2, h3, h4⟩ := hx
  refine ⟨h1, h2, fun hp => ?_, fun r hr => ⟨(h4 r hr).1.below hb, (h4 r hr).2⟩⟩
  obtain ⟨g, e, hg, hcell⟩ := h3 hp
  exact ⟨g, e, Nat.lt_of_lt_of_le hg hb.size, fun i hi => ⟨(hb.cell (p := ⟨g, _, none⟩) hg).trans (hcell i hi).1, (hb.cell (p := ⟨g, _, none⟩) hg).trans (hcell i hi).2⟩⟩
/-- What AppendSeq's box holds when some have come. -/
def ColV (h : CHouse) (ta : Option Addr) (tl tc : Nat) (ma : Option Addr) (ml mc : Nat) (c now : Int) (bh bc bn : Nat) (w : World) (v : Value) (pre : List Rem) (W : World) : Prop :=
  RemsEnv h ta tl tc ma ml mc c now bh bc bn W ∧ W.cell? ⟨w.heap.size, 0, none⟩ = some v ∧ W.frozen? ⟨w.heap.size, 0, none⟩ = false ∧ W.ownsRow (w.heap.size + 1) 89 2 v pre.length (remCells h pre) ∧ Below w.heap.size w W ∧
  (∀ r ∈ pre, IntsAt W r.a (h.pick r.x).length (h.pick r.x) ∧ (0 < (h.pick r.x).length → ∀ ad, r.a = some ad → w.heap.size < ad.block ∧ ∀ g, v.ownBlock = some g → ad.block ≠ g)) ∧ w.heap.size + 1 ≤ W.heap.size ∧ pre.length ≤ 256
theorem ColV.below {h : CHouse} {ta : Option Addr} {tl tc : Nat} {ma : Option Addr} {ml mc : Nat} {c now : Int} {bh bc bn : Nat} {w W W' : World} {v : Value} {pre : List Rem} (hv : ColV h ta tl tc ma ml mc c now bh bc bn w v pre W) (hb : Below W.heap.size W W') (h1 : bh < w.heap.size) (h2 : bc < w.heap.size) (h3 : bn < w.heap.size) : ColV h ta tl tc ma ml mc c now bh bc bn w v pre W' := by
  obtain ⟨⟨a1, a2, a3, a4, a5⟩, b, cz, d, e, f, g, k⟩ := hv
  refine ⟨⟨a1.below hb, (hb.cell (p := ⟨bh, 0, none⟩) (by show bh < _; omega)).trans a2, (hb.cell (p := ⟨bh, 1, none⟩) (by show bh < _; omega)).trans a3, (hb.cell (p := ⟨bc, 0, none⟩) (by show bc < _; omega)).trans a4, (hb.cell (p := ⟨bn, 0, none⟩) (by show bn < _; omega)).trans a5⟩,
    (hb.cell (p := ⟨w.heap.size, 0, none⟩) (by show w.heap.size < _; omega)).trans b, (hb.frozen (p := ⟨w.heap.size, 0, none⟩) (by show w.heap.size < _; omega)).trans cz, d.kept (grown_none hb) (Classical.em _), e.trans (hb.mono e.size), fun r hr => ⟨(f r hr).1.below hb, (f r hr).2⟩, Nat.le_trans g hb.size, k⟩
theorem ColV.put {h : CHouse} {ta : Option Addr} {tl tc : Nat} {ma : Option Addr} {ml mc : Nat} {c now : Int} {bh bc bn : Nat} {w W : World} {v : Value} {pre : List Rem} {b : Nat} {o : Obj} (o' : Obj) (hv : ColV h ta tl tc ma ml mc c now bh bc bn w v pre W) (hw : HAt w ta tl tc ma ml mc h) (hn : w.heap.size ≤ b) (ho : W.heap[b]? = some o) (hc : o.isCells = false) : ColV h ta tl tc ma ml mc c now bh bc bn w v pre (W.putObj b o') := by
  obtain ⟨⟨a1, a2, a3, a4, a5⟩, bz, cz, d, e, f, g, k⟩ := hv
  have hb := e.trans (below_putObj o' ho hn)
  exact ⟨⟨hw.below hb, cell_put o' ho hc a2, cell_put o' ho hc a3, cell_put o' ho hc a4, cell_put o' ho hc a5⟩, cell_put o' ho hc bz, frz_put o' ho hc bz cz, own_put o' ho hc d, hb, fun r hr => ⟨ints_put o' ho hc (f r hr).1, (f r hr).2⟩, Nat.le_trans g (grownBy_putObj' W b o').size, k⟩

set_option maxRecDepth 100000 in
set_option maxHeartbeats 16000000 in
theorem AppendSeq_any (h : CHouse) (ta : Option Addr) (tl tc : Nat) (ma : Option Addr) (ml mc : Nat) (ho : h.okT = true) (hm6 : ml ≤ 6) (c now : Int) (bh bc bn : Nat) (w : World) (hE : RemsEnv h ta tl tc ma ml mc c now bh bc bn w) :
    Calls Try.prog 105 #[.slice none 0 0, .func (.func 106) #[] #[.pointer (some ⟨bh, 0, none⟩), .pointer (some ⟨bc, 0, none⟩), .pointer (some ⟨bn, 0, none⟩)]] w fun e w' => ∃ (a : Option Addr) (cap : Nat) (all : List Rem), all.map Rem.x = h.rems c now ∧ e = .returned (.slice a all.length cap) ∧ RemsAt h w.heap.size w' a all.length all ∧ Below w.heap.size w w' := by
  have hbh : bh < w.heap.size := World.block_lt_of_cell? _ _ hE.2.1
  have hbc : bc < w.heap.size := World.block_lt_of_cell? _ _ hE.2.2.2.1
  have hbn : bn < w.heap.size := World.block_lt_of_cell? _ _ hE.2.2.2.2
  have HIT := Lib.hid (remedies1_it h ta tl tc ma ml mc ho hm6 c now bh bc bn)
  have hw := hE.1
  have HE0 := Lib.hid hE
  clear hE ho
  refine (callsIn_wide (n := 14)).1 ?_
  refine callsIn_of_wp_marks Try.func105 rfl trivial ?_ rfl
  simp only [Try.ntmps105, List.size_toArray, List.length_cons, List.length_nil, Nat.reduceAdd, Nat.reduceSub, Array.replicate_succ, Array.replicate_zero, List.push_toArray, List.append_toArray, List.nil_append, List.cons_append]
  gi_upto_region 1 with fail
  obtain ⟨W0, hW0, hB0, ⟨s0, s1⟩, hz0⟩ : ∃ W0, w.alloc (.cells #[.slice none 0 0] 98) = W0 ∧ Below w.heap.size w W0 ∧ (W0.cell? ⟨w.heap.size, 0, none⟩ = some (.slice none 0 0) ∧ W0.frozen? ⟨w.heap.size, 0, none⟩ = false) ∧ W0.heap.size = w.heap.size + 1 :=
    ⟨_, rfl, (by repeat (first | exact Below.refl _ _ | (refine Below.alloc ?_ (by first | omega | (simp; omega) | simp) _) | (refine Below.setCell ?_ (by first | omega | (simp; omega) | simp) _) | refine Below.drew ?_)), ⟨by go_simp, by go_simp⟩, by simp⟩
  try rw [hW0]
  clear hW0
  have HI0 := Lib.hid (show ColV h ta tl tc ma ml mc c now bh bc bn w (.slice none 0 0) [] W0 from by
    obtain ⟨a1, a2, a3, a4, a5⟩ := HE0.out
    exact ⟨⟨a1.below hB0, (hB0.cell (p := ⟨bh, 0, none⟩) hbh).trans a2, (hB0.cell (p := ⟨bh, 1, none⟩) hbh).trans a3, (hB0.cell (p := ⟨bc, 0, none⟩) hbc).trans a4, (hB0.cell (p := ⟨bn, 0, none⟩) hbn).trans a5⟩, s0, s1, ⟨rfl, .inl ⟨rfl, rfl⟩⟩, hB0, fun r hr => (by cases hr), by omega, by simp⟩)
  clear s0 s1 hB0
  gi_wp2_with fail
  have hw0 : w.heap.size ≤ W0.heap.size := by omega
  refine wpIn_rangeV HIT.out rfl (enters_of Try.func106 (by kernel_rfl) rfl) (fun _ => rfl)
    (fun pre W => ∃ v, ColV h ta tl tc ma ml mc c now bh bc bn w v pre W) (fun _ => False) ?hI ?hIx ?hIp ?hIxp ?hEnv ?hIxE ?h0
    (fun N pre x a' W => ∃ (b5 : Nat) (v : Value), a' = { tmps := List.toArray (.slice none 0 0 :: .func (.func 106) #[] #[.pointer (some ⟨bh, 0, none⟩), .pointer (some ⟨bc, 0, none⟩), .pointer (some ⟨bn, 0, none⟩)] :: .pointer (some ⟨w.heap.size, 0, none⟩) :: undef :: .slice none 0 0 :: .pointer (some ⟨b5, 0, none⟩) :: .func (.func 106) #[] #[.pointer (some ⟨bh, 0, none⟩), .pointer (some ⟨bc, 0, none⟩), .pointer (some ⟨bn, 0, none⟩)] :: .agg #[.slice x.a (h.pick x.x).length x.n, .int .i64 (h.cost x.x)] :: undef :: undef :: undef :: undef :: undef :: []), defers := [] } ∧
      ColV h ta tl tc ma ml mc c now bh bc bn w v pre W ∧ (∀ g, v.ownBlock = some g → g < N) ∧ N ≤ b5 ∧ W.cell? ⟨b5, 0, none⟩ = some (.slice x.a (h.pick x.x).length x.n) ∧ W.cell? ⟨b5, 1, none⟩ = some (.int .i64 (h.cost x.x)) ∧ IntsAt W x.a (h.pick x.x).length (h.pick x.x) ∧ (∀ ad, x.a = some ad → N ≤ ad.block) ∧ (pre ++ [x]).length ≤ 256) ?hR ?assign ?body ?done ?stop
  case hI =>
    rintro pre W1 W2 ⟨v, hv⟩ hb
    exact ⟨v, hv.below hb hbh hbc hbn⟩
  case hIx => rintro W1 W2 hx -; exact hx
  case hIp =>
    rintro pre W1 b o o' hb ⟨v, hv⟩ ho hc
    exact ⟨v, hv.put o' hw (by omega) ho hc⟩
  case hIxp => rintro W1 b o o' - hx; exact hx.elim
  case hEnv => rintro pre W ⟨v, hv⟩; exact hv.1
  case hIxE => rintro W hx; exact hx.elim
  case h0 => exact ⟨_, HI0.out⟩
  case hR =>
    rintro N pre x a' W1 b o o' hb hbN ⟨b5, v, rfl, hv, h1, h2, h3, h4, h5, h6, h7⟩ ho hc
    exact ⟨b5, v, rfl, hv.put o' hw (by omega) ho hc, h1, h2, cell_put o' ho hc h3, cell_put o' ho hc h4, ints_put o' ho hc h5, h6, h7⟩
  case assign =>
    rintro l pre x W1 W K hz ⟨v, hv⟩ hb ⟨hpx, hx256, hh, hi, hf⟩ hK
    have hlen : (pre ++ [x]).length ≤ 256 := by
      have h1 : pre.length = ((List.range x.x).filter (h.heals c now)).length := by rw [← hpx, List.length_map]
      have h2 := List.length_filter_le (h.heals c now) (List.range x.x)
      rw [List.length_range] at h2
      rw [List.length_append, List.length_singleton]
      omega
    have HV := Lib.hid (hv.below hb hbh hbc hbn)
    have HLT := Lib.hid (own_lt hv.2.2.2.1)
    have HIX := Lib.hid hi
    have HFX := Lib.hid hf
    have hzb := hb.size
    clear hv hb hpx hh hi hf HIT HI0 hw HE0
    unfold encR
    gi_wp2
    refine hK _ _ ?_ ?_
    · exact (by repeat (first | exact Below.refl _ _ | (refine Below.alloc ?_ (by first | omega | (simp; omega) | simp) _) | (refine Below.setCell ?_ (by first | omega | (simp; omega) | simp) _) | refine Below.drew ?_))
    · exact ⟨W.heap.size, v, rfl, HV.out.below (by repeat (first | exact Below.refl _ _ | (refine Below.alloc ?_ (by first | omega | (simp; omega) | simp) _) | (refine Below.setCell ?_ (by first | omega | (simp; omega) | simp) _) | refine Below.drew ?_)) hbh hbc hbn, HLT.out, hzb, World.cell?_alloc_new W _ _ 0, World.cell?_alloc_new W _ _ 1, HIX.out.below (by repeat (first | exact Below.refl _ _ | (refine Below.alloc ?_ (by first | omega | (simp; omega) | simp) _) | (refine Below.setCell ?_ (by first | omega | (simp; omega) | simp) _) | refine Below.drew ?_)), HFX.out, hlen⟩
  case body =>
    rintro l N pre x a' W hz hNW ⟨b5, v, rfl, hv, h1, h2, h3, h4, h5, h6, h7⟩
    have hCOL := hv
    obtain ⟨⟨a1, a2, a3, a4, a5⟩, b1, c1, d, e, f, g, k⟩ := hv
    gi_upto_region 3 with fail
    refine wpIn_region_round ?_ ?_ ?_
    · intro o ho c
      simp at ho
      rcases ho with rfl | rfl | rfl | rfl | rfl <;> simp
    · rintro ⟨a, w, h⟩
      exact h
    · have HCOL := Lib.hid hCOL
      have HD := Lib.hid d
      have HH1 := Lib.hid h1
      have HH5 := Lib.hid h5
      have HH6 := Lib.hid h6
      have hBW : w.heap.size < W.heap.size := by omega
      have hb5 : b5 < W.heap.size := World.block_lt_of_cell? _ _ h3
      have hk1000 : pre.length ≤ 1000 := by omega
      have HNE := Lib.hid (show ∀ g, v.ownBlock = some g → w.heap.size < g ∧ g < W.heap.size from fun g hg => ⟨own_low d g hg, own_lt d g hg⟩)
      have HCE := Lib.hid (fun r hr => own_block d r hr)
      have HA5 := Lib.hid (And.intro a2 (And.intro a3 (And.intro a4 a5)))
      have HEE := Lib.hid e
      have HFF := Lib.hid f
      have HW := Lib.hid hw
      clear hCOL a1 a2 a3 a4 a5 d e f h1 h5 h6 HIT HI0 hw HE0
      go_wp2_with (at_builtin; go_must (refine wpList_append_rem _ (w.heap.size + 1) pre.length v (remCells h pre) x.a (h.pick x.x).length x.n (h.cost x.x) rfl _ _ rfl rfl ⟨_, rfl, ?_, ?_⟩ ?_ hk1000 ?_ ?_); go_must (focus (simp; done)); go_must (focus (simp; done)); go_must (· exact HD.out.kept (grown_none (by repeat (first | exact Below.refl _ _ | (refine Below.alloc ?_ (by first | omega | (simp; omega) | simp) _) | (refine Below.setCell ?_ (by first | omega | (simp; omega) | simp) _) | refine Below.drew ?_))) (Classical.em _)); go_must (focus (first | omega | (simp; omega))); intro v2 wF hoF hgF hnF; obtain ⟨a2, n2, rfl⟩ := own_slice1 hoF; have f0 : wF.cell? ⟨w.heap.size, 0, none⟩ = some v := (World.cell?_of_block (a := ⟨w.heap.size, 0, none⟩) (hgF.block w.heap.size (by simp; omega) (fun e => by have := HNE.out _ e.symm; omega))).trans (by go_simp); have f2 : wF.frozen? ⟨w.heap.size, 0, none⟩ = false := (World.frozen?_of_block (a := ⟨w.heap.size, 0, none⟩) (hgF.block w.heap.size (by simp; omega) (fun e => by have := HNE.out _ e.symm; omega))).trans (by go_simp); have HOF := Lib.hid hoF; have HGF := Lib.hid hgF; have HNF := Lib.hid hnF; clear hoF hgF hnF b1 c1 h3 h4)
      have hb1 : Below W.heap.size W (W.alloc (.cells #[.slice x.a (h.pick x.x).length x.n, .int .i64 (h.cost x.x)] 89)) := (by repeat (first | exact Below.refl _ _ | (refine Below.alloc ?_ (by first | omega | (simp; omega) | simp) _) | (refine Below.setCell ?_ (by first | omega | (simp; omega) | simp) _) | refine Below.drew ?_))
      generalize (W.alloc (.cells #[.slice x.a (h.pick x.x).length x.n, .int .i64 (h.cost x.x)] 89)) = W1 at *
      have hz1 := hb1.size
      have hlow : Below (w.heap.size + 1) W wF := (hb1.mono (by omega)).trans (grown_low HGF.out (by omega) (fun r hr => by have := HNE.out r hr; omega))
      have hset : Below w.heap.size wF (wF.setCell ⟨w.heap.size, 0, none⟩ (.slice a2 (pre.length + 1) n2)) := (Below.refl _ wF).setCell (by show w.heap.size ≤ w.heap.size; omega) _
      have hlow2 : Below w.heap.size W (wF.setCell ⟨w.heap.size, 0, none⟩ (.slice a2 (pre.length + 1) n2)) := (hlow.mono (by omega)).trans hset
      have hww := HEE.out.trans hlow2
      have hsz := hlow.size
      refine ⟨((KeepsN.below hb1).trans (KeepsN.grown HGF.out (fun r hr => ?_))).trans (KeepsN.set f0), ((KeepsUp.below (N := N) hb1).trans (KeepsUp.grown HGF.out HH1.out)).trans ((KeepsUp.refl N wF).set (.inl (by omega)) _), .slice a2 (pre.length + 1) n2, ?_⟩
      · obtain ⟨o, h1, h2⟩ := HCE.out r hr
        exact ⟨o, (hb1.block r (HNE.out r hr).2).trans h1, h2⟩
      · obtain ⟨p2, p3, p4, p5⟩ := HA5.out
        refine ⟨⟨HW.out.below hww, (hlow2.cell (p := ⟨bh, 0, none⟩) hbh).trans p2, (hlow2.cell (p := ⟨bh, 1, none⟩) hbh).trans p3, (hlow2.cell (p := ⟨bc, 0, none⟩) hbc).trans p4, (hlow2.cell (p := ⟨bn, 0, none⟩) hbn).trans p5⟩, set_cell f0, set_frz f2, ?_, hww, ?_, ?_, h7⟩
        · rw [List.length_append, List.length_singleton, remCells_snoc]
          exact HOF.out.kept (gbx_set (gbx_refl wF w.heap.size) _ _) (Or.inr (fun e => by have := own_low HOF.out _ e; omega))
        · have hel : ∀ r : Rem, IntsAt W r.a (h.pick r.x).length (h.pick r.x) → (0 < (h.pick r.x).length → ∀ ad, r.a = some ad → w.heap.size < ad.block ∧ ∀ g, v.ownBlock = some g → ad.block ≠ g) →
              IntsAt (wF.setCell ⟨w.heap.size, 0, none⟩ (.slice a2 (pre.length + 1) n2)) r.a (h.pick r.x).length (h.pick r.x) ∧ (0 < (h.pick r.x).length → ∀ ad, r.a = some ad → w.heap.size < ad.block ∧ ∀ g, (Value.slice a2 (pre.length + 1) n2).ownBlock = some g → ad.block ≠ g) := fun r hi hd => by
            refine ⟨ints_grown (gbx_set (gbx_refl wF w.heap.size) _ _) (ints_grown HGF.out (hi.below hb1) (fun hp ad e q => (hd hp ad e).2 _ q rfl)) (fun hp ad e q => ?_), fun hp ad e => ⟨(hd hp ad e).1, fun g hg q => ?_⟩⟩
            · injection q with q
              have := (hd hp ad e).1
              omega
            · rcases HNF.out g hg with q2 | q2
              · exact (hd hp ad e).2 g q2 q
              · have := ints_lt hi hp ad e
                omega
          intro r hr
          rcases List.mem_append.1 hr with hr | hr
          · exact hel r (HFF.out r hr).1 (HFF.out r hr).2
          · rw [List.mem_singleton] at hr
            subst hr
            exact hel r HH5.out (fun hp ad e => ⟨by have := HH6.out ad e; omega, fun g hg q => by have := HH6.out ad e; have := HH1.out g hg; omega⟩)
        · show w.heap.size + 1 ≤ _
          have := hset.size
          omega
  case done =>
    rintro D W2 all hall hD ⟨v, hv⟩ hd
    obtain ⟨-, b1, c1, d, e, f, g, k⟩ := hv
    have hDs := (Array.getElem?_eq_some_iff.1 hd).1
    have hDw : w.heap.size + 1 ≤ D := by omega
    obtain ⟨a, cap, rfl, hrems⟩ := rems_own (B := w.heap.size) d rfl (fun r hr => ⟨(f r hr).1, fun hp ad e => Nat.le_of_lt ((f r hr).2 hp ad e).1⟩)
    have HR := Lib.hid hrems
    have HD := Lib.hid hd
    have HE := Lib.hid e
    have HALL := Lib.hid hall
    clear c1 d e f g k hrems hd hall HIT HI0 hw HE0
    gi_wp2_with fail
    refine ⟨by simp, .inl ⟨_, _, rfl, run_takeDeferred HD.out, ?_⟩⟩
    refine ⟨.slice a all.length cap, by simp [results, Try.results105, go_sem], a, cap, all, HALL.out, rfl, rems_put _ HD.out rfl HR.out, HE.out.trans (below_putObj _ HD.out (by omega))⟩
  case stop => rintro D W - hx; exact hx.elim
set_option maxHeartbeats 1000000 in
theorem Collect_any (h : CHouse) (ta : Option Addr) (tl tc : Nat) (ma : Option Addr) (ml mc : Nat) (ho : h.okT = true) (hm6 : ml ≤ 6) (c now : Int) (bh bc bn : Nat) (w : World) (hE : RemsEnv h ta tl tc ma ml mc c now bh bc bn w) :
    Calls Try.prog 95 #[.func (.func 106) #[] #[.pointer (some ⟨bh, 0, none⟩), .pointer (some ⟨bc, 0, none⟩), .pointer (some ⟨bn, 0, none⟩)]] w fun e w' => ∃ (a : Option Addr) (cap : Nat) (all : List Rem), all.map Rem.x = h.rems c now ∧ e = .returned (.slice a all.length cap) ∧ RemsAt h w.heap.size w' a all.length all ∧ Below w.heap.size w w' := by
  have HA := Lib.hid (AppendSeq_any h ta tl tc ma ml mc ho hm6 c now bh bc bn w hE)
  clear hE ho
  go_enter Try.func95, Try.ntmps95
  go_wp2_with fail
  refine HA.out.mono ?_
  rintro e w1 ⟨a, cap, all, h1, rfl, h2, h3⟩
  have H1 := Lib.hid h1
  have H2 := Lib.hid h2
  have H3 := Lib.hid h3
  clear h1 h2 h3
  go_wp2_with fail
  go_ret
  exact ⟨a, cap, all, H1.out, rfl, H2.out, H3.out⟩
end Go.Proofs.Ytedfdhpggghjeaa
