/- HP HQ, joined. -/
import Derived.Test.YtigeiaiohdemiaaHE
import Derived.Test.YtigeiaiohdemiaaHH
/- Flongs: one mould more, one plate more: mathematics. -/
namespace Go.Proofs.Ytigeiaiohdemiaa
set_option linter.unusedVariables false
set_option linter.unusedSimpArgs false
open Go.RowKit

/-- A shop with one mould more, nothing cast of it yet. -/
def moreL (ws : List (List Int)) (cs : List Int) : List (List Int) := List.zipWith (fun x c => x ++ [c]) ws cs
def FShop.more (s : FShop) (p : Int) (cs : List Int) : FShop := { s with moulds := s.moulds ++ [⟨p, 0, 0⟩], worlds := moreL s.worlds cs }
def resF (n : Nat) (c : Nat → Int) : Nat → Int := fun t => if t < n then c t else 0

theorem more_agree {ms : List Mould} {x : List Int} (p : Int) {c : Int} (hl : x.length = ms.length) (hc : 0 ≤ c) : agreeB (ms ++ [⟨p, 0, 0⟩]) (x ++ [c]) = agreeB ms x := by
  unfold agreeB
  rw [List.zip_append hl.symm, List.all_append]
  have : ([(⟨p, 0, 0⟩ : Mould)].zip [c]).all (fun q => agM q.1 q.2) = true := by simp [agM, hc]
  rw [this, Bool.and_true]
theorem more_cst {ms : List Mould} {x : List Int} (p c : Int) (hl : x.length = ms.length) {t : Nat} (ht : t < ms.length) : cst (ms ++ [⟨p, 0, 0⟩]) (x ++ [c]) t = cst ms x t := by
  rw [cst_at (by rw [List.length_append]; omega) (by rw [List.length_append]; omega), cst_at ht (by omega), List.getElem_append_left (by omega), List.getElem_append_left ht]
theorem more_left : ∀ (ms : List Mould) (p : Int) (ws : List (List Int)) (cs : List Int), cs.length = ws.length → (∀ x ∈ ws, x.length = ms.length) → (∀ c ∈ cs, 0 ≤ c) →
    (((moreL ws cs).filter (agreeB (ms ++ [⟨p, 0, 0⟩]))).map (cst (ms ++ [⟨p, 0, 0⟩]))).map (resF ms.length) = ((ws.filter (agreeB ms)).map (cst ms)).map (resF ms.length)
  | _, _, [], _, _, _, _ => by simp [moreL]
  | _, _, x :: ws, [], h, _, _ => by simp at h
  | ms, p, x :: ws, c :: cs, h, hx, hc => by
    have ih := more_left ms p ws cs (by simpa using h) (fun y hy => hx y (List.mem_cons_of_mem _ hy)) (fun y hy => hc y (List.mem_cons_of_mem _ hy))
    have hl := hx x List.mem_cons_self
    have e : moreL (x :: ws) (c :: cs) = (x ++ [c]) :: moreL ws cs := rfl
    rw [e, List.filter_cons, List.filter_cons, more_agree p hl (hc c List.mem_cons_self)]
    split
    · rw [List.map_cons, List.map_cons, List.map_cons, List.map_cons, ih]
      have e2 : resF ms.length (cst (ms ++ [⟨p, 0, 0⟩]) (x ++ [c])) = resF ms.length (cst ms x) := by
        funext t
        unfold resF
        split
        · exact more_cst p c hl (by assumption)
        · rfl
      rw [e2]
    · exact ih
theorem lo_res (L : List (Nat → Int)) {n t : Nat} (ht : t < n) : loOf (L.map (resF n)) t = loOf L t := by
  have e : ∀ c : Nat → Int, resF n c t = c t := fun c => by simp [resF, ht]
  unfold loOf loTo
  rw [List.length_map, List.take_of_length_le (Nat.le_of_eq (List.length_map _)), List.take_of_length_le (Nat.le_refl _), List.foldl_map]
  simp only [e]
  cases L with
  | nil => rfl
  | cons a L => simp only [List.map_cons, List.headD_cons, e]
theorem moreL_len (ws : List (List Int)) (cs : List Int) (h : cs.length = ws.length) : (moreL ws cs).length = ws.length := by simp [moreL, h]
theorem moreL_get {ws : List (List Int)} {cs : List Int} (h : cs.length = ws.length) (i : Nat) (hi : i < ws.length) : (moreL ws cs)[i]'(by rw [moreL_len ws cs h]; exact hi) = ws[i] ++ [cs[i]] := by simp [moreL]
/-- What a valid shop with one mould more says of the casts. -/
theorem more_casts {s : FShop} {p : Int} {cs : List Int} (hl : cs.length = s.worlds.length) (ho : s.ok = true) (ho2 : (s.more p cs).ok = true) : ∀ c ∈ cs, 0 ≤ c ∧ c ≤ 12 := by
  intro c hc
  obtain ⟨i, hi, rfl⟩ := List.mem_iff_getElem.1 hc
  have hi2 : i < s.worlds.length := by omega
  have hi3 : i < (s.more p cs).worlds.length := by show i < (moreL _ _).length; rw [moreL_len _ _ hl]; exact hi2
  have h1 := FShop.ok_world ho2 i hi3
  have h2 := (FShop.ok_world ho i hi2).1
  have e : (s.more p cs).worlds[i] = s.worlds[i] ++ [cs[i]] := moreL_get hl i hi2
  simp only [e] at h1
  have h3 := h1.2 s.worlds[i].length (by simp)
  simpa using h3
theorem more_lefts {s : FShop} {p : Int} {cs : List Int} (hl : cs.length = s.worlds.length) (ho : s.ok = true) (ho2 : (s.more p cs).ok = true) : (s.more p cs).left.map (resF s.moulds.length) = s.left.map (resF s.moulds.length) :=
  more_left s.moulds p s.worlds cs hl (fun x hx => by
    obtain ⟨i, hi, rfl⟩ := List.mem_iff_getElem.1 hx
    exact (FShop.ok_world ho i hi).1) (fun c hc => (more_casts hl ho ho2 c hc).1)
theorem more_len {s : FShop} {p : Int} {cs : List Int} (hl : cs.length = s.worlds.length) (ho : s.ok = true) (ho2 : (s.more p cs).ok = true) : (s.more p cs).left.length = s.left.length := by
  have := congrArg List.length (more_lefts hl ho ho2)
  simpa using this
theorem more_lo {s : FShop} {p : Int} {cs : List Int} (hl : cs.length = s.worlds.length) (ho : s.ok = true) (ho2 : (s.more p cs).ok = true) {t : Nat} (ht : t < s.moulds.length) : loOf (s.more p cs).left t = loOf s.left t := by
  rw [← lo_res _ ht, ← lo_res s.left ht, more_lefts hl ho ho2]
theorem sumTo_snoc (ms : List Mould) (m : Mould) {c d : Nat → Int} (h : ∀ t, t < ms.length → c t = d t) (p : Int) : ∀ k, k ≤ ms.length → sumTo (ms ++ [m]) c p k = sumTo ms d p k
  | 0, _ => by simp [sumTo]
  | k + 1, hk => by
    have hk2 : k < ms.length := by omega
    rw [sumTo_next (by rw [List.length_append]; omega), sumTo_next hk2, sumTo_snoc ms m h p k (by omega), h k hk2, List.getElem_append_left hk2]
/-- Sure of the page is greater by the Low of Left of the new mould. -/
theorem more_sure {s : FShop} {p : Int} {cs : List Int} (hl : cs.length = s.worlds.length) (ho : s.ok = true) (ho2 : (s.more p cs).ok = true) : sumOf (s.more p cs).moulds (loOf (s.more p cs).left) p = sumOf s.moulds (loOf s.left) p + loOf (s.more p cs).left s.moulds.length := by
  have e : (s.more p cs).moulds = s.moulds ++ [⟨p, 0, 0⟩] := rfl
  have h1 := sumTo_snoc s.moulds ⟨p, 0, 0⟩ (c := loOf (s.more p cs).left) (d := loOf s.left) (fun t ht => more_lo hl ho ho2 ht) p s.moulds.length (Nat.le_refl _)
  unfold sumOf
  rw [e, List.length_append, List.length_singleton, sumTo_next (by simp), List.getElem_append_right (Nat.le_refl _)]
  simp only [Nat.sub_self, List.getElem_cons_zero, if_pos]
  rw [h1]

/-- One plate more. -/
theorem ceil_one (x : Int) {f : Int} (hf : 1 ≤ f) : ceilF (x + 1) f = ceilF x f ∨ ceilF (x + 1) f = ceilF x f + 1 := by
  have h1 := ceil_mono (show x ≤ x + 1 by omega) hf
  have h2 : ceilF (x + 1) f ≤ ceilF x f + 1 := by
    unfold ceilF
    have e : (max 0 x + f - 1) / f + 1 = (max 0 x + f - 1 + 1 * f) / f := by rw [Int.add_mul_ediv_right _ _ (by omega)]
    rw [e]
    exact Int.ediv_le_ediv (by omega) (by omega)
  omega
theorem want_newTo {s : FShop} (h1 : 1 ≤ s.fresh) {p : Nat} (hp : p < s.wants.length) : ∀ k, k ≤ s.wants.length → (k ≤ p → newTo (s.want p (s.wants[p] + 1)) k = newTo s k) ∧ (p < k → newTo (s.want p (s.wants[p] + 1)) k = newTo s k ∨ newTo (s.want p (s.wants[p] + 1)) k = newTo s k + 1)
  | 0, _ => ⟨fun _ => by simp [newTo], fun h => by omega⟩
  | k + 1, hk => by
    have ih := want_newTo h1 hp k (by omega)
    have hk2 : k < s.wants.length := by omega
    have hk3 : k < (s.want p (s.wants[p] + 1)).wants.length := by simpa [FShop.want] using hk2
    have hw : (s.want p (s.wants[p] + 1)).wants[k] = if p = k then s.wants[p] + 1 else s.wants[k] := by
      show (s.wants.set p (s.wants[p] + 1))[k]'(by rw [List.length_set]; exact hk2) = _
      rw [List.getElem_set]
    have hf : ∀ v, newFor (s.want p (s.wants[p] + 1)) v k = newFor s v k := fun v => rfl
    rw [newTo_next hk3, newTo_next hk2, hf, hw]
    rcases Nat.lt_trichotomy p k with h | h | h
    · rw [if_neg (by omega)]
      exact ⟨fun h => by omega, fun _ => by have := ih.2 h; omega⟩
    · subst h
      rw [if_pos rfl]
      refine ⟨fun h => by omega, fun _ => ?_⟩
      have h3 := ih.1 (Nat.le_refl _)
      have h4 : newFor s (s.wants[p] + 1) p = newFor s s.wants[p] p ∨ newFor s (s.wants[p] + 1) p = newFor s s.wants[p] p + 1 := by
        have := ceil_one (s.wants[p] - sumOf s.moulds (loOf s.left) p) h1
        rw [show s.wants[p] - sumOf s.moulds (loOf s.left) p + 1 = s.wants[p] + 1 - sumOf s.moulds (loOf s.left) p by omega] at this
        exact this
      omega
    · rw [if_neg (by omega)]
      exact ⟨fun _ => by have := ih.1 (by omega); omega, fun h => by omega⟩
theorem want_new {s : FShop} (h1 : 1 ≤ s.fresh) {p : Nat} (hp : p < s.wants.length) : (s.want p (s.wants[p] + 1)).newAll = s.newAll ∨ (s.want p (s.wants[p] + 1)).newAll = s.newAll + 1 := by
  have := (want_newTo h1 hp s.wants.length (Nat.le_refl _)).2 hp
  have e : (s.want p (s.wants[p] + 1)).wants.length = s.wants.length := by simp [FShop.want]
  unfold FShop.newAll
  rwa [e]
end Go.Proofs.Ytigeiaiohdemiaa

/- Package flongref02: Copy, whose rows are each in a block of its own; an empty one has no room. -/
namespace Go.Proofs.Ytigeiaiohdemiaa
set_option linter.unusedVariables false
set_option linter.unusedSimpArgs false
open Go.RowKit

def FRow2 (w : World) (n0 : Nat) (e : TypeId) (size : Nat) (ga : Option Addr) (k cap : Nat) (cs : List Value) : Prop := FRow w n0 e size ga k cap cs ∧ (k = 0 → cap = 0)
theorem FRow2.kept {w w' : World} {row : Option Nat} {n0 : Nat} {e : TypeId} {size : Nat} {ga : Option Addr} {k cap : Nat} {cs : List Value} (h : FRow2 w n0 e size ga k cap cs) (hg : w.grownBy w' row)
    (hne : ∀ r, row = some r → (∃ (c : Array Value) (e' : TypeId), w.heap[r]? = some (.cells c e' (0, 0)) ∧ e' ≠ e) ∨ r < n0 ∨ w.heap.size ≤ r) : FRow2 w' n0 e size ga k cap cs := ⟨h.1.kept hg hne, h.2⟩
theorem FRow2.low {w : World} {n0 n1 : Nat} {e : TypeId} {size : Nat} {ga : Option Addr} {k cap : Nat} {cs : List Value} (h : FRow2 w n0 e size ga k cap cs) (hn : n1 ≤ n0) : FRow2 w n1 e size ga k cap cs := ⟨h.1.low hn, h.2⟩
theorem FRow2.blt {w : World} {n0 : Nat} {e : TypeId} {size : Nat} {ga : Addr} {k cap : Nat} {cs : List Value} (h : FRow2 w n0 e size (some ga) k cap cs) (h0 : 0 < k) : ga.block < w.heap.size := h.1.blt h0
def LRow2 (w : World) (n0 : Nat) (vs : List Value) (xs : List (List Int)) : Prop :=
  vs.length = xs.length ∧ ∀ i (hi : i < xs.length), ∃ (ga : Addr) (c : Nat), vs[i]? = some (.slice (some ga) xs[i].length c) ∧ FRow2 w n0 3 1 (some ga) xs[i].length c (xs[i].map (Value.int .i64)) ∧
    ∀ j, j < i → ∀ (gb : Addr) (lb cb : Nat), vs[j]? = some (.slice (some gb) lb cb) → 0 < lb → 0 < xs[i].length → gb.block < ga.block
theorem LRow2.nil (w : World) (n0 : Nat) : LRow2 w n0 [] [] := ⟨rfl, fun i hi => by simp at hi⟩
theorem LRow2.kept {w w' : World} {n0 : Nat} {vs : List Value} {xs : List (List Int)} {row : Option Nat} (h : LRow2 w n0 vs xs) (hg : w.grownBy w' row)
    (hne : ∀ r, row = some r → (∃ (c : Array Value) (e' : TypeId), w.heap[r]? = some (.cells c e' (0, 0)) ∧ e' ≠ 3) ∨ r < n0 ∨ w.heap.size ≤ r) : LRow2 w' n0 vs xs :=
  ⟨h.1, fun i hi => by obtain ⟨ga, c, h1, h2, h3⟩ := h.2 i hi; exact ⟨ga, c, h1, h2.kept hg hne, h3⟩⟩
theorem LRow2.snoc {w : World} {n0 : Nat} {vs : List Value} {xs : List (List Int)} (h : LRow2 w n0 vs xs) (ga : Addr) (x : List Int) (c : Nat) (hx : FRow2 w n0 3 1 (some ga) x.length c (x.map (Value.int .i64)))
    (hn : ∀ (j : Nat) (gb : Addr) (lb cb : Nat), vs[j]? = some (.slice (some gb) lb cb) → 0 < lb → 0 < x.length → gb.block < ga.block) : LRow2 w n0 (vs ++ [.slice (some ga) x.length c]) (xs ++ [x]) := by
  refine ⟨by simp [h.1], fun i hi => ?_⟩
  rcases Nat.lt_or_ge i xs.length with hl | hl
  · obtain ⟨ga', c', h1, h2, h3⟩ := h.2 i hl
    refine ⟨ga', c', by rw [List.getElem?_append_left (by rw [h.1]; exact hl), List.getElem_append_left hl]; exact h1, by rw [List.getElem_append_left hl]; exact h2, fun j hj gb lb cb e h0 h0' => ?_⟩
    rw [List.getElem?_append_left (by rw [h.1]; omega)] at e
    rw [List.getElem_append_left hl] at h0'
    exact h3 j hj gb lb cb e h0 h0'
  · have e : i = xs.length := by simp at hi; omega
    subst e
    refine ⟨ga, c, by rw [List.getElem?_append_right (by rw [h.1]; exact Nat.le_refl _), h.1]; simp, by simpa using hx, fun j hj gb lb cb e h0 h0' => ?_⟩
    rw [List.getElem?_append_left (by rw [h.1]; omega)] at e
    exact hn j gb lb cb e h0 (by simpa using h0')
theorem LRow2.old {w : World} {n0 : Nat} {vs : List Value} {xs : List (List Int)} (h : LRow2 w n0 vs xs) : LRow w n0 vs xs :=
  ⟨h.1, fun i hi => by obtain ⟨ga, c, h1, h2, _⟩ := h.2 i hi; exact ⟨ga, c, h1, h2.1⟩⟩
theorem run_append_fresh2 {P : Program} (w : World) (t ty e : TypeId) (z : Value) (size bytes : Nat) (ht : P.underlying t = some (.slice e)) (hinfo : (P.info? e).map (fun i => (i.zero, i.size, i.bytes)) = some (some z, size, bytes)) (hz : z.cells.size = size) (hs0 : 0 < size)
    (hby : bytes ≤ 1000) (p : Addr) (xlen xcap : Nat) (xa : Option Addr) (cs : List Value) (hcs : cs.length = xlen * size)
    (hsrc : 0 < xlen → ∃ pb po, xa = some ⟨pb, po, none⟩ ∧ ∀ j u, cs[j]? = some u → w.cell? ⟨pb, po + j, none⟩ = some u) (hl : xlen ≤ 1000) :
    ∃ ga cap' w3, (Builtin.append_ #[t, t] ty #[.slice (some p) 0 0, .slice xa xlen xcap]).run P w = .ok (.slice (some ga) xlen cap') w3 ∧ FRow2 w3 w.heap.size e size (some ga) xlen cap' cs ∧ Below w.heap.size w w3 := by
  obtain ⟨i0, hi, hy0, hy1, hy2⟩ := info_parts hinfo
  rcases Nat.eq_zero_or_pos xlen with h0 | h0
  · subst h0
    have hxs : cs = [] := List.length_eq_zero_iff.1 (by simpa using hcs)
    subst hxs
    have hsrc : Src P i0.size t (.slice xa 0 xcap) 0 [] w := by
      cases xa with
      | none => exact Src.ofNil w ht xcap
      | some xa => exact Src.ofSlice w ht xa 0 xcap [] (by simp) (by simp) (by simp)
    obtain ⟨hk1 | hk1, hk2, hk3, hk4, -, -⟩ := hsrc
    · obtain ⟨e', hk⟩ := hk1
      refine ⟨p, 0, w, ?_, ⟨⟨by simp, fun h => by omega⟩, fun _ => rfl⟩, Below.refl _ _⟩
      simp [Builtin.append_, run_underlying ht, sizeOf, typeInfo, hi, hk2, hk3, storeCells]
    · rw [ht] at hk1; cases hk1
  · obtain ⟨pb, po, rfl, hat⟩ := hsrc h0
    obtain ⟨v', w3, hr, hown, hgrow⟩ := run_append_arg_grows (P := P) w t ty e i0 z size bytes ht hi hy0 hy1 hy2 hz hs0 p 0 0 [] (by simp) (by simp) ⟨pb, po, none⟩ xlen xcap cs hcs (by
      intro j u hj
      rw [Addr.add_lit]
      exact hat j u hj) (by omega) (by unfold maxLen; omega) (by
        have : (0 + xlen) * bytes ≤ 1000 * 1000 := Nat.mul_le_mul (by omega) hby
        omega)
    rw [Nat.zero_add, List.nil_append] at hown
    have hown' := hown
    rcases hown.2 with ⟨_, h⟩ | ⟨g, cap, cur, rfl, hg, _⟩
    · omega
    · exact ⟨⟨g, 0, none⟩, cap, w3, hr, ⟨⟨hcs, fun _ => ⟨g, rfl, hown'⟩⟩, fun h => by omega⟩, ⟨hgrow.os, hgrow.tape, hgrow.output, hgrow.size, fun k hk => hgrow.block k hk (by simp)⟩⟩
theorem step_append_fresh2 {P : Program} {ops : Array Oper} {o : Oper} {a : Act} {K : Act → World → Prop} {Q : Exit → Act → World → Prop} {E : Prop} (w : World) (t e : TypeId) (z : Value) (size bytes : Nat) (ht : P.underlying t = some (.slice e)) (hinfo : (P.info? e).map (fun i => (i.zero, i.size, i.bytes)) = some (some z, size, bytes)) (hz : z.cells.size = size) (hs0 : 0 < size)
    (hby : bytes ≤ 1000) (xlen xcap : Nat) (xa : Option Addr) (cs : List Value) (hcs : cs.length = xlen * size) (hl : xlen ≤ 1000) (hgd : o.guard = none) (s x : Operand)
    (ho : o.op = .call { callee := .builtin .append, args := #[s, x], argTypes := #[t, t] }) (hs : ∃ p, a.eval s = .slice (some p) 0 0) (hxv : a.eval x = .slice xa xlen xcap)
    (hsrc : 0 < xlen → ∃ pb po, xa = some ⟨pb, po, none⟩ ∧ ∀ j u, cs[j]? = some u → w.cell? ⟨pb, po + j, none⟩ = some u)
    (h : ∀ ga cap' w3, FRow2 w3 w.heap.size e size (some ga) xlen cap' cs → Below w.heap.size w w3 → K (a.put o.dst (.slice (some ga) xlen cap')) w3) : if Region.wanted o (yielded ops a.tmps) = true then Oper.wp P o a w K Q else E := by
  obtain ⟨p, hs⟩ := hs
  obtain ⟨g, c, w3, hr, hi, hb⟩ := run_append_fresh2 w t o.type e z size bytes ht hinfo hz hs0 hby p xlen xcap xa cs hcs hsrc hl
  exact step_append_run w w3 _ _ _ t hgd s x ho hs hxv hr (h g c w3 hi hb)

def CopyPost2 (s : FShop) (ml wl nl : Nat) (w : World) (e : Ending) (w' : World) : Prop :=
  ∃ (gm : Addr) (cm : Nat) (va : Option Addr) (vc : Nat) (gw : Addr) (cw : Nat) (vs : List Value) (N1 : Nat), e = .returned (.agg #[.slice (some gm) ml cm, .slice va wl vc, .slice (some gw) nl cw, .int .i64 s.fresh]) ∧
    FRow2 w' w.heap.size 48 3 (some gm) ml cm (s.moulds.flatMap Mould.cells) ∧ FRow2 w' w.heap.size 3 1 (some gw) nl cw (s.wants.map (Value.int .i64)) ∧ (0 < nl → gw.block < N1) ∧
    w'.ownsRow w.heap.size 24 1 (.slice va wl vc) wl vs ∧ LRow2 w' N1 vs s.worlds ∧ w.heap.size ≤ N1 ∧ Below w.heap.size w w'
def CopyBox2 (s : FShop) (ml nl : Nat) (n0 gb k : Nat) (gm : Addr) (cm : Nat) (v : Value) (vs : List Value) (gw : Addr) (cw N1 : Nat) (w : World) : Prop :=
  (w.cell? ⟨gb, 0, none⟩ = some (.slice (some gm) ml cm) ∧ w.cell? ⟨gb, 1, none⟩ = some v ∧ w.cell? ⟨gb, 2, none⟩ = some (.slice (some gw) nl cw) ∧ w.cell? ⟨gb, 3, none⟩ = some (.int .i64 s.fresh)) ∧ (∀ i, w.frozen? ⟨gb, i, none⟩ = false) ∧
    IsC w gb 26 ∧
    FRow2 w n0 48 3 (some gm) ml cm (s.moulds.flatMap Mould.cells) ∧ FRow2 w n0 3 1 (some gw) nl cw (s.wants.map (Value.int .i64)) ∧ (0 < nl → gw.block < N1) ∧ w.ownsRow n0 24 1 v k vs ∧ LRow2 w N1 vs (s.worlds.take k)

theorem copybox_first2 {s : FShop} {ml nl n0 nA nB gb cm cw : Nat} {gm gw : Addr} {wA wB Wf : World} (hl : 0 < nl → gw.block < wB.heap.size)
    (hcells : Wf.cell? ⟨gb, 0, none⟩ = some (.slice (some gm) ml cm) ∧ Wf.cell? ⟨gb, 1, none⟩ = some (.slice none 0 0) ∧ Wf.cell? ⟨gb, 2, none⟩ = some (.slice (some gw) nl cw) ∧ Wf.cell? ⟨gb, 3, none⟩ = some (.int .i64 s.fresh)) (hfr : ∀ i, Wf.frozen? ⟨gb, i, none⟩ = false) (hi : IsC Wf gb 26)
    (hA : FRow2 wA nA 48 3 (some gm) ml cm (s.moulds.flatMap Mould.cells)) (hgA : wA.grownBy Wf (some gb)) (hAo : gb < nA ∨ wA.heap.size ≤ gb) (hAn : n0 ≤ nA)
    (hB : FRow2 wB nB 3 1 (some gw) nl cw (s.wants.map (Value.int .i64))) (hgB : wB.grownBy Wf (some gb)) (hBo : gb < nB ∨ wB.heap.size ≤ gb) (hBn : n0 ≤ nB) :
    CopyBox2 s ml nl n0 gb 0 gm cm (.slice none 0 0) [] gw cw Wf.heap.size Wf :=
  ⟨hcells, hfr, hi, (hA.kept hgA fun r e => by injection e with e; subst e; exact .inr hAo).low hAn, (hB.kept hgB fun r e => by injection e with e; subst e; exact .inr hBo).low hBn, fun h0 => Nat.lt_of_lt_of_le (hl h0) hgB.size, World.ownsRow_nil _ _ _ _, LRow2.nil _ _⟩

theorem copybox_next2 {s : FShop} {ml nl n0 nA gb k cm cw N1 rl c : Nat} {gm gw ga : Addr} {v v' : Value} {vs : List Value} {x : List Int} {wr wA wP wB : World} (hb : CopyBox2 s ml nl n0 gb k gm cm v vs gw cw N1 wr) (hk : k < s.worlds.length) (hx : s.worlds[k] = x) (hrl : x.length = rl) (hN : N1 ≤ wr.heap.size)
    (hA : FRow2 wA nA 3 1 (some ga) rl c (x.map (Value.int .i64))) (hnA : wr.heap.size ≤ nA) (hP : Below wr.heap.size wr wP) (hAP : Below wA.heap.size wA wP) (hg : wP.grownBy wB v.ownBlock) (ho : wB.ownsRow n0 24 1 v' (k + 1) (vs ++ [.slice (some ga) rl c])) :
    CopyBox2 s ml nl n0 gb (k + 1) gm cm v' (vs ++ [.slice (some ga) rl c]) gw cw N1 (wB.setCell ⟨gb, 1, none⟩ v') := by
  obtain ⟨⟨c0, c1, c2, c3⟩, hf, hi, hM, hW, hlt, hO, hL⟩ := hb
  have hgb := hi.lt
  have hne := own_ne hO hi (by decide)
  have e : wB.heap[gb]? = wr.heap[gb]? := (hg.block gb (Nat.lt_of_lt_of_le hgb hP.size) hne).trans (hP.block gb hgb)
  have hc : ∀ i, wB.cell? ⟨gb, i, none⟩ = wr.cell? ⟨gb, i, none⟩ := fun i => World.cell?_of_block (w := wr) (a := ⟨gb, i, none⟩) e
  have o : ∀ {j : Nat}, 1 ≠ j → (wB.setCell ⟨gb, 1, none⟩ v').cell? ⟨gb, j, none⟩ = wB.cell? ⟨gb, j, none⟩ := fun h => set_other (by intro e; injection e with _ e2; exact h e2)
  have hiB : IsC wB gb 26 := ⟨hi.choose, e.trans hi.choose_spec⟩
  have hOP := hO.kept (grown_none hP) (Classical.em _)
  have hR : ∀ r, v.ownBlock = some r → ∃ (c : Array Value) (e' : TypeId), wP.heap[r]? = some (.cells c e' (0, 0)) ∧ e' = 24 := fun r hr => by
    obtain ⟨c, hc⟩ := own_isC hOP r hr
    exact ⟨c, _, hc, rfl⟩
  have hgs : ∀ w1, wB.grownBy w1 none → w1 = w1 := fun _ _ => rfl
  have hset : wB.grownBy (wB.setCell ⟨gb, 1, none⟩ v') (some gb) := gbx_set (gbx_refl _ _) _ _
  have hsT : ∀ {e : TypeId}, e ≠ 26 → ∀ r, (some gb : Option Nat) = some r → (∃ (c : Array Value) (e' : TypeId), wB.heap[r]? = some (.cells c e' (0, 0)) ∧ e' ≠ e) := fun he r er => by
    injection er with er; subst er
    exact ⟨hiB.choose, _, hiB.choose_spec, fun h => he h.symm⟩
  have hrT : ∀ {e : TypeId}, e ≠ 24 → ∀ r, v.ownBlock = some r → (∃ (c : Array Value) (e' : TypeId), wP.heap[r]? = some (.cells c e' (0, 0)) ∧ e' ≠ e) := fun he r hr => by
    obtain ⟨c, e', h1, h2⟩ := hR r hr
    exact ⟨c, e', h1, by rw [h2]; exact fun h => he h.symm⟩
  refine ⟨⟨?_, ?_, ?_, ?_⟩, fun i => ?_, hiB.set _, ?_, ?_, hlt, ?_, ?_⟩
  · rw [o (by decide), hc]; exact c0
  · exact set_same (by rw [hc]; exact c1)
  · rw [o (by decide), hc]; exact c2
  · rw [o (by decide), hc]; exact c3
  · rw [World.frozen?_setCell, World.frozen?_of_block (w := wr) (a := ⟨gb, i, none⟩) e]; exact hf i
  · exact ((hM.kept (grown_none hP) (fun r e => by cases e)).kept hg (fun r hr => .inl (hrT (by decide) r hr))).kept hset (fun r hr => .inl (hsT (by decide) r hr))
  · exact ((hW.kept (grown_none hP) (fun r e => by cases e)).kept hg (fun r hr => .inl (hrT (by decide) r hr))).kept hset (fun r hr => .inl (hsT (by decide) r hr))
  · exact ho.kept hset (.inr (fun e => own_ne ho hiB (by decide) e.symm))
  · rw [List.take_succ_eq_append_getElem hk, hx]
    have h1 := ((hL.kept (grown_none hP) (fun r e => by cases e)).kept hg (fun r hr => .inl (hrT (by decide) r hr))).kept hset (fun r hr => .inl (hsT (by decide) r hr))
    have h2 := (((hA.kept (grown_none hAP) (fun r e => by cases e)).kept hg (fun r hr => .inl (hrT (by decide) r hr))).kept hset (fun r hr => .inl (hsT (by decide) r hr))).low (n1 := N1) (by omega)
    subst hrl
    refine h1.snoc ga x c h2 (fun j gb' lb cb hj h0 h0' => ?_)
    have hj2 : j < (s.worlds.take k).length := by rw [← hL.1]; exact (List.getElem?_eq_some_iff.1 hj).1
    obtain ⟨gc, cc, e1, e2, -⟩ := hL.2 j hj2
    rw [e1] at hj
    injection hj with hj
    injection hj with e3 e4 _
    injection e3 with e3
    subst e3
    have h5 := e2.1.blt (by omega)
    obtain ⟨gd, e6, h6, -⟩ := hA.1.cell h0'
    injection e6 with e6
    subst e6
    show gc.block < gd
    omega

set_option maxRecDepth 100000 in
set_option maxHeartbeats 8000000 in
theorem Copy_any2 (s : FShop) (ma : Option Addr) (ml mc : Nat) (wa : Option Addr) (wl wc : Nat) (na : Option Addr) (nl nc : Nat) (w : World) (hp : FAt w ma ml mc wa wl wc na nl nc s) (hm1 : ml ≤ 1000) (hw1 : wl ≤ 1000) (hn1 : nl ≤ 1000) (hx1 : ∀ x ∈ s.worlds, x.length ≤ 1000) :
    Calls Try.prog 32 #[.agg #[.slice ma ml mc, .slice wa wl wc, .slice na nl nc, .int .i64 s.fresh]] w fun e w' => CopyPost2 s ml wl nl w e w' := by
  have HMS := Lib.hid (fun W (hb : Below w.heap.size w W) => moulds_src (hp.1.below hb))
  have HNS := Lib.hid (fun W (hb : Below w.heap.size w W) => ints_src (hp.2.2.below hb))
  have HML := Lib.hid hp.1.1
  have HNL := Lib.hid hp.2.2.1
  have HWL := Lib.hid hp.2.1.1
  have HWC := Lib.hid hp.2.1.2.2
  have HX1 := Lib.hid hx1
  have hmc : (s.moulds.flatMap Mould.cells).length = ml * 3 := by rw [cells3_len, HML.out]
  have hnc : (s.wants.map (Value.int .i64)).length = nl * 1 := by simp [HNL.out]
  generalize hmcs : s.moulds.flatMap Mould.cells = mcs at *
  generalize hncs : s.wants.map (Value.int .i64) = ncs at *
  clear hp hx1
  go_enter Try.func32, Try.ntmps32
  go_wp2_with fail
  obtain ⟨W0, hW0, hB0, hr0, hg0, hrf, hgf, hz0⟩ := name2e w #[.slice ma ml mc, .slice wa wl wc, .slice na nl nc, .int .i64 s.fresh] 26 #[.slice none 0 0, .slice none 0 0, .slice none 0 0, .int .i64 0] 26
  rw [hW0]
  clear hW0
  obtain ⟨x0, x1, x2, x3⟩ : W0.cell? ⟨w.heap.size, 0, none⟩ = some (.slice ma ml mc) ∧ W0.cell? ⟨w.heap.size, 1, none⟩ = some (.slice wa wl wc) ∧ W0.cell? ⟨w.heap.size, 2, none⟩ = some (.slice na nl nc) ∧ W0.cell? ⟨w.heap.size, 3, none⟩ = some (.int .i64 s.fresh) := ⟨hr0 0, hr0 1, hr0 2, hr0 3⟩
  have z0 : w.heap.size < W0.heap.size := by omega
  have HB0 := Lib.hid hB0
  have HMX := Lib.hid (fun W (h : Below W0.heap.size W0 W) => HMS.out W (hB0.trans (h.mono hB0.size)))
  have HNX := Lib.hid (fun W (h : Below W0.heap.size W0 W) => HNS.out W (hB0.trans (h.mono hB0.size)))
  have z1 : w.heap.size + 1 < W0.heap.size := by omega
  have HR0 := Lib.hid hr0
  have HG0 := Lib.hid hg0
  have HGF := Lib.hid hgf
  clear hB0 hr0 hg0 hrf hgf hz0
  go_upto_region 1 with fail
  go_cut [3] (fun v3 wx => ∃ gb gm cm gw cw, v3 = .pointer (some ⟨gb, 0, none⟩) ∧ CopyBox2 s ml nl W0.heap.size gb 0 gm cm (.slice none 0 0) [] gw cw wx.heap.size wx ∧ W0.heap.size ≤ gb ∧ Below W0.heap.size W0 wx)
  case first =>
    go_region_held3 (fun w' => Below W0.heap.size W0 w' ∧ ∀ b o, b < W0.heap.size → w'.cell? ⟨b, o, none⟩ = W0.cell? ⟨b, o, none⟩) (first | with_reducible assumption | ((repeat (first | with_reducible refine bothS_drew ?_ | with_reducible refine bothS_alloc _ ?_ | with_reducible refine bothS_set _ _ (by first | omega | (simp; omega) | simp) ?_)); first | with_reducible assumption | with_reducible exact Hid.out (by assumption) | with_reducible exact ⟨Below.refl _ _, fun _ _ _ => rfl⟩)) (first
      | ((with_reducible refine step_append_fresh2 _ 22 48 _ 3 24 Try.underlying22 Try.info48 rfl (by decide) (by decide) ml mc ma mcs hmc hm1 rfl _ _ rfl ?_ ?_ ?_ ?_); (· exact ⟨_, rfl⟩); (· rfl); (· intro h0; obtain ⟨pb, po, e1, -, e2⟩ := HMX.out _ (And.left (by assumption)) h0; exact ⟨pb, po, e1, e2⟩); intro gm cm wA hfA hbA; have kA := bothS_below (by assumption) hbA; have HFA := Lib.hid hfA; have HBA := Lib.hid hbA; have hzA := hbA.size; obtain ⟨hcA, hfrA⟩ := bcell hbA; (try have hcA2 := fun o => hcA (W0.heap.size + 1 + 1) o (by first | omega | (simp; done) | (simp; omega))); (try have hfrA2 := fun o => hfrA (W0.heap.size + 1 + 1) o (by first | omega | (simp; done) | (simp; omega))); (try simp at hzA); (try have yA := Nat.lt_of_succ_le hzA); (try have yA1 := Nat.lt_of_succ_lt yA); (try have yA2 := Nat.lt_of_succ_lt yA1); clear hfA hbA)
      | ((with_reducible refine step_append_fresh2 _ 24 3 _ 1 8 Try.underlying24 Try.info3 rfl (by decide) (by decide) nl nc na ncs hnc hn1 rfl _ _ rfl ?_ ?_ ?_ ?_); (· exact ⟨_, rfl⟩); (· rfl); (· intro h0; obtain ⟨pb, po, e1, -, e2⟩ := HNX.out _ (And.left (by assumption)) h0; exact ⟨pb, po, e1, e2⟩); intro gw cw wB hfB hbB; have kB := bothS_below (by assumption) hbB; have HFB := Lib.hid hfB; have HBB := Lib.hid hbB; have hzB := hbB.size; obtain ⟨hcB, hfrB⟩ := bcell hbB; (try have hcB2 := fun o => hcB (W0.heap.size + 1 + 1) o (by first | omega | (simp; done) | (simp; omega))); (try have hfrB2 := fun o => hfrB (W0.heap.size + 1 + 1) o (by first | omega | (simp; done) | (simp; omega))); (try simp at hzB); (try have yB := Nat.lt_of_succ_le hzB); (try have yB1 := Nat.lt_of_succ_lt yB); (try have yB2 := Nat.lt_of_succ_lt yB1); clear hfB hbB)
      | fail "no arm")
    all_goals go_wp2_with fail
    all_goals go_meet
    all_goals
      refine ⟨_, gm, cm, gw, cw, rfl, ?_, ?_, And.left (by assumption)⟩
      · rw [← hmcs] at HFA
        rw [← hncs] at HFB
        refine copybox_first2 (fun h0 => HFB.out.blt h0) ?_ ?_ ?_ HFA.out ?_ ?_ ?_ HFB.out ?_ ?_ ?_
        · first | (with_reducible refine set4 (u0 := .slice none 0 0) (u1 := .slice none 0 0) (u2 := .slice none 0 0) (u3 := .int .i64 0) _ _ _ _ ?_ ?_ ?_ ?_ <;> (go_simp; done)) | (refine ⟨?_, ?_, ?_, ?_⟩ <;> (go_simp; done))
        · intro i; go_simp
        · repeat (first | with_reducible refine IsC.set _ ?_ | (with_reducible refine IsC.new' ?_; (first | rfl | (simp; done))) | with_reducible refine IsC.alloc _ ?_ | with_reducible refine IsC.drew ?_ | with_reducible refine IsC.below HBB.out ?_ | with_reducible refine IsC.below HBA.out ?_)
        · repeat (first | with_reducible exact gbx_refl _ _ | with_reducible refine gbx_set ?_ _ _ | with_reducible refine gbx_alloc ?_ _ | with_reducible refine gbx_drew ?_ | with_reducible refine gbx_below HBB.out ?_)
        · first | exact .inr (by first | omega | (simp; done) | (simp; omega)) | exact .inl (by first | omega | (simp; done) | (simp; omega))
        · first | omega | (simp; done) | (simp; omega)
        · repeat (first | with_reducible exact gbx_refl _ _ | with_reducible refine gbx_set ?_ _ _ | with_reducible refine gbx_alloc ?_ _ | with_reducible refine gbx_drew ?_)
        · first | exact .inr (by first | omega | (simp; done) | (simp; omega)) | exact .inl (by first | omega | (simp; done) | (simp; omega))
        · first | omega | (simp; done) | (simp; omega)
      · first | omega | (simp; done) | (simp; omega)
  case rest =>
  obtain ⟨gb, gm, cm, gw, cw, rfl, hbox, hgb, hB1⟩ := hcut
  obtain ⟨w1, rfl⟩ : ∃ w1 : World, w1 = wc := ⟨_, rfl⟩
  obtain ⟨N1, hN1⟩ : ∃ N1, N1 = w1.heap.size := ⟨_, rfl⟩
  rw [← hN1] at hbox
  have HCB := Lib.hid hbox
  have HB1 := Lib.hid hB1
  have HLW := Lib.hid (fun W (hb : Below W0.heap.size W0 W) => hb)
  clear x0 x1 x2 x3 hbox hB1 HMX HNX HMS HNS hmc hnc hmcs hncs
  go_wp2_with fail
  go_loopw [4] (fun v4 wr => ∃ (k : Nat) (v : Value) (vs : List Value), k ≤ wl ∧ v4 = .int .i64 k ∧ CopyBox2 s ml nl W0.heap.size gb k gm cm v vs gw cw N1 wr ∧ Below W0.heap.size W0 wr ∧ N1 ≤ wr.heap.size) (fun i _ => wl - (intOf i).toNat)
  case atStart => exact ⟨0, _, _, by omega, rfl, HCB.out, HB1.out, by omega⟩
  case round =>
    obtain ⟨k, v, vs, hk, rfl, hbox, hB, hN⟩ := hrel
    have hbx := fun i => (hB.cell (p := ⟨w.heap.size, i, none⟩) z0).trans (HR0.out i)
    obtain ⟨x0, x1, x2, x3⟩ : wr.cell? ⟨w.heap.size, 0, none⟩ = some (.slice ma ml mc) ∧ wr.cell? ⟨w.heap.size, 1, none⟩ = some (.slice wa wl wc) ∧ wr.cell? ⟨w.heap.size, 2, none⟩ = some (.slice na nl nc) ∧ wr.cell? ⟨w.heap.size, 3, none⟩ = some (.int .i64 s.fresh) := ⟨hbx 0, hbx 1, hbx 2, hbx 3⟩
    have HBX := Lib.hid hbox
    have HB := Lib.hid hB
    have hzr := hB.size
    clear hbx
    by_cases hlt : k < wl
    · have hk2 : k < s.worlds.length := by rw [HWL.out]; exact hlt
      obtain ⟨wb, wo, rfl, hwb, hwc⟩ := HWC.out (by omega)
      obtain ⟨ra, rl, rc, hcell, hints⟩ := hwc k hk2
      have hBw := HB0.out.trans (hB.mono HB0.out.size)
      have hcx := (hBw.cell (p := ⟨wb, wo + k, none⟩) hwb).trans hcell
      have HXS := Lib.hid (fun W (hb : Below wr.heap.size wr W) h0 => ints_src2 (hints.below (hBw.trans (hb.mono hBw.size))) h0)
      have hrl := hints.1
      have hrl1 : rl ≤ 1000 := by rw [← hrl]; exact HX1.out _ (List.getElem_mem hk2)
      have hxc : (s.worlds[k].map (Value.int .i64)).length = rl * 1 := by simp [hrl]
      obtain ⟨x, hx⟩ : ∃ x, s.worlds[k] = x := ⟨_, rfl⟩
      rw [hx] at hrl hxc HXS
      have HHX := Lib.hid hx
      have HRL := Lib.hid hrl
      obtain ⟨⟨b0, b1, b2, b3⟩, hbf, hbi, hbM, hbW, hblt, hbO, hbL⟩ := hbox
      have hbf1 := hbf 1
      obtain ⟨R, hR⟩ : ∃ R, v.ownBlock = R := ⟨_, rfl⟩
      have hRb := own_base hbO
      rw [hR] at hRb
      have hgbr := hbi.lt
      have hgne : ¬ some gb = R := by rw [← hR]; exact own_ne hbO hbi (by decide)
      have HO := Lib.hid hbO
      have HRB := Lib.hid hRb
      have r1 : ¬ w.heap.size = gb := by omega
      have r2 : ¬ some w.heap.size = R := fun e => by have := (hRb _ e.symm).1; omega
      have r3 : ¬ wb = gb := by omega
      have r4 : ¬ some wb = R := fun e => by have := (hRb _ e.symm).1; omega
      have q0 : w.heap.size < wr.heap.size := by omega
      have q1 : wb < wr.heap.size := by omega
      have hk0 : (0 : Int) ≤ (k : Int) := by omega
      have hkl : (k : Int) < (wl : Int) := by omega
      have hk1000 : k ≤ 1000 := by omega
      clear hwc hcell hints hB hx hrl hbM hbW hblt hbO hbL hRb hbf b0 b2 b3 hbi
      go_upto_region 5 with fail
      have k0 : wr.heap.size ≤ wr.heap.size ∧ ∀ b o, b < wr.heap.size → ¬ b = gb → ¬ some b = R → wr.cell? ⟨b, o, none⟩ = wr.cell? ⟨b, o, none⟩ := ⟨Nat.le_refl _, fun _ _ _ _ _ => rfl⟩
      have hmx : Try.prog.follows .mixedOrders = true := by kernel_rfl
      go_region_law
        (first
          | ((with_reducible refine step_append_fresh2 _ 24 3 _ 1 8 Try.underlying24 Try.info3 rfl (by decide) (by decide) rl rc ra (x.map (Value.int .i64)) hxc hrl1 rfl _ _ rfl ?_ ?_ ?_ ?_); (· exact ⟨_, rfl⟩); (· rfl); (· intro h0; refine HXS.out _ ?_ h0; exact (by repeat (first | exact Below.refl _ _ | (refine Below.alloc ?_ (by first | omega | (simp; omega) | simp) _) | (refine Below.setCell ?_ (by first | omega | (simp; omega) | simp) _) | refine Below.drew ?_))); intro ga cA wA hfA hbA; have kAb : Below wr.heap.size wr wA := below_via (Lib.hid hbA) (by simp) (by repeat (first | exact Below.refl _ _ | (refine Below.alloc ?_ (by first | omega | (simp; omega) | simp) _) | (refine Below.setCell ?_ (by first | omega | (simp; omega) | simp) _) | refine Below.drew ?_)); have kA := boxT_below (W := wr) k0 kAb; have HKA := Lib.hid kAb; have hzK := kAb.size; have gA := (kAb.cell (p := ⟨gb, 1, none⟩) hgbr).trans b1; have hgbA : gb < wA.heap.size := (by omega); clear kAb; have HFA := Lib.hid hfA; have HBA := Lib.hid hbA; have hzA := hbA.size; obtain ⟨hcA, hfrA⟩ := bcell hbA; (try simp at hzA); (try have yA := Nat.lt_of_succ_le hzA); have kq0 : w.heap.size < wA.heap.size := (by omega); have kq1 : wb < wA.heap.size := (by omega); clear hfA hbA)
          | ((with_reducible refine step_append_val _ 23 24 (.slice none 0 0) 24 Try.underlying23 Try.info24 rfl (by decide) W0.heap.size k wA.heap.size v vs (.slice (some ga) rl cA) rfl hk1000 rfl _ _ rfl ?_ ?_ ?_ ?_ ?_ ?_); (· rfl); (· first | rfl | (go_simp; done)); (· exact (HO.out.kept (grown_none HKA.out) (Classical.em _)).kept (grown_none (by repeat (first | exact Below.refl _ _ | (refine Below.alloc ?_ (by first | omega | (simp; omega) | simp) _) | (refine Below.setCell ?_ (by first | omega | (simp; omega) | simp) _) | refine Below.drew ?_))) (Classical.em _)); (· go_simp; done); (· first | omega | (simp; omega)); intro v' wB hown hgr hat; obtain ⟨g', c', rfl, -⟩ := ownsRow_pos hown (by omega); have eB : wB.heap[gb]? = wr.heap[gb]? := (hgr.block gb (by first | omega | (simp; omega)) (by rw [hR]; exact hgne)).trans (Below.block (w := wr) (by repeat (first | with_reducible exact HKA.out | exact Below.refl _ _ | (refine Below.alloc ?_ (by first | omega | (simp; omega) | simp) _) | refine Below.drew ?_)) gb hgbr); have gB : wB.cell? ⟨gb, 1, none⟩ = some v := (World.cell?_of_block (w := wr) (a := ⟨gb, 1, none⟩) eB).trans b1; have fB : wB.frozen? ⟨gb, 1, none⟩ = false := (World.frozen?_of_block (w := wr) (a := ⟨gb, 1, none⟩) eB).trans hbf1; clear eB; have kB := boxT_grown (boxT_below (W := wA) kA (by repeat (first | exact Below.refl _ _ | (refine Below.alloc ?_ (by first | omega | (simp; omega) | simp) _) | (refine Below.setCell ?_ (by first | omega | (simp; omega) | simp) _) | refine Below.drew ?_))) hgr (.inl hR); have HOB := Lib.hid hown; have HGB := Lib.hid hgr; clear hown hgr hat)
          | fail "no arm")
      all_goals
        go_wp2_with fail
        go_roundw
        case rel =>
          refine ⟨k + 1, _, _, by omega, by go_num, copybox_next2 HBX.out hk2 HHX.out HRL.out hN HFA.out ?_ ?_ ?_ HGB.out HOB.out, copy_below HB.out ?_ HGB.out (fun r hr => (HRB.out r (by rw [← hR]; exact hr)).1) hgb, ?_⟩
          · first | omega | (simp; done) | (simp; omega)
          · repeat (first | with_reducible exact HKA.out | exact Below.refl _ _ | (refine Below.alloc ?_ (by first | omega | (simp; omega) | simp) _) | refine Below.drew ?_)
          · exact (by repeat (first | exact Below.refl _ _ | (refine Below.alloc ?_ (by first | omega | (simp; omega) | simp) _) | (refine Below.setCell ?_ (by first | omega | (simp; omega) | simp) _) | refine Below.drew ?_))
          · repeat (first | with_reducible exact HKA.out | exact Below.refl _ _ | (refine Below.alloc ?_ (by first | omega | (simp; omega) | simp) _) | refine Below.drew ?_)
          · have := kB.1
            first | omega | (simp [World.setCell]; omega)
        case measure => simp [intOf]; omega
    · obtain rfl : wl = k := by omega
      obtain ⟨⟨b0, b1, b2, b3⟩, hbf, hbi, hbM, hbW, hblt, hbO, hbL⟩ := hbox
      obtain ⟨va, vc, rfl⟩ := own_slice hbO
      rw [List.take_of_length_le (by rw [HWL.out]; exact Nat.le_refl _)] at hbL
      obtain ⟨y0, y1, y2, y3⟩ : wr.cell? ⟨w.heap.size + 1, 0, none⟩ = some (.slice none 0 0) ∧ wr.cell? ⟨w.heap.size + 1, 1, none⟩ = some (.slice none 0 0) ∧ wr.cell? ⟨w.heap.size + 1, 2, none⟩ = some (.slice none 0 0) ∧ wr.cell? ⟨w.heap.size + 1, 3, none⟩ = some (.int .i64 0) :=
        ⟨(hB.cell (p := ⟨w.heap.size + 1, 0, none⟩) z1).trans (HG0.out 0), (hB.cell (p := ⟨w.heap.size + 1, 1, none⟩) z1).trans (HG0.out 1), (hB.cell (p := ⟨w.heap.size + 1, 2, none⟩) z1).trans (HG0.out 2), (hB.cell (p := ⟨w.heap.size + 1, 3, none⟩) z1).trans (HG0.out 3)⟩
      have hfz : ∀ i, wr.frozen? ⟨w.heap.size + 1, i, none⟩ = false := fun i => (hB.frozen (p := ⟨w.heap.size + 1, i, none⟩) z1).trans (HGF.out i)
      obtain ⟨t0, t1, t2, t3⟩ : wr.frozen? ⟨w.heap.size + 1, 0, none⟩ = false ∧ wr.frozen? ⟨w.heap.size + 1, 1, none⟩ = false ∧ wr.frozen? ⟨w.heap.size + 1, 2, none⟩ = false ∧ wr.frozen? ⟨w.heap.size + 1, 3, none⟩ = false := ⟨hfz 0, hfz 1, hfz 2, hfz 3⟩
      have hN1 : W0.heap.size ≤ N1 := by rw [hN1]; exact HB1.out.size
      have HM := Lib.hid hbM
      have HW := Lib.hid hbW
      have HO := Lib.hid hbO
      have HL := Lib.hid hbL
      clear hfz hbf hbi hbM hbW hbO hbL hB hzr
      go_wp2_with fail
      refine bodyPost_ret (v := .agg #[.slice (some gm) ml cm, .slice va wl vc, .slice (some gw) nl cw, .int .i64 s.fresh]) (by simp [results, Try.results32, go_sem, *]) rfl ?_
      have hg : wr.grownBy ((((wr.setCell ⟨w.heap.size + 1, 0, none⟩ (.slice (some gm) ml cm)).setCell ⟨w.heap.size + 1, 1, none⟩ (.slice va wl vc)).setCell ⟨w.heap.size + 1, 2, none⟩ (.slice (some gw) nl cw)).setCell ⟨w.heap.size + 1, 3, none⟩ (.int .i64 s.fresh)) (some (w.heap.size + 1)) := gbx_set (gbx_set (gbx_set (gbx_set (gbx_refl _ _) _ _) _ _) _ _) _ _
      have h0 := HB0.out.size
      exact ⟨gm, cm, va, vc, gw, cw, vs, N1, rfl, (HM.out.kept hg (fun r e => by injection e with e; exact .inr (.inl (by omega)))).low h0, (HW.out.kept hg (fun r e => by injection e with e; exact .inr (.inl (by omega)))).low h0, hblt,
        Go.Joins.ownsRow_le (HO.out.kept hg (.inr (own_ge HO.out (by omega)))) h0, HL.out.kept hg (fun r e => by injection e with e; exact .inr (.inl (by omega))), by omega,
        ((((HB0.out.trans (HB.out.mono h0)).setCell (by simp) _).setCell (by simp) _).setCell (by simp) _).setCell (by simp) _⟩
end Go.Proofs.Ytigeiaiohdemiaa
