/- The reference's Put. -/
import Derived.Test.YtcklhojeneejiaaWU
namespace Go.Proofs.Ytcklhojeneejiaa
set_option linter.unusedVariables false
set_option linter.unusedSimpArgs false
open Go.RowKit Go.Shelf

theorem CapOk.fits {l c : Nat} (h : CapOk l c) : l ≤ c ∧ c ≤ maxLen := h.1
/-- append of one element that was built for it, to a row of a copy. -/
theorem run_append_frow {P : Program} (w : World) (t ty e : TypeId) (z : Value) (size bytes : Nat) (ht : P.underlying t = some (.slice e)) (hinfo : (P.info? e).map (fun i => (i.zero, i.size, i.bytes)) = some (some z, size, bytes)) (hz : z.cells.size = size) (hs0 : 0 < size)
    (hby : bytes ≤ 1000) (n0 k rc : Nat) (ga : Addr) (cs us : List Value) (hcap : CapOk k rc) (hF : FRow w n0 e size (some ga) k rc cs) (hk : k ≤ 1000) (hus : us.length = 1 * size) (h1c : ∀ u ∈ us, u.oneCell' = true) (p : Nat) (hat : ∀ j u, us[j]? = some u → w.cell? ⟨p, j, none⟩ = some u) (hnw : n0 ≤ w.heap.size) :
    ∃ na nc w' row, (Builtin.append_ #[t, t] ty #[.slice (some ga) k rc, .slice (some ⟨p, 0, none⟩) 1 1]).run P w = .ok (.slice na (k + 1) nc) w' ∧ w'.ownsRow n0 e size (.slice na (k + 1) nc) (k + 1) (cs ++ us) ∧ w.grownBy w' row ∧ (∀ r, row = some r → 0 < k ∧ ga = ⟨r, 0, none⟩) ∧ Below n0 w w' := by
  have hsrc : 0 < 1 → ∃ pb po, some (⟨p, 0, none⟩ : Addr) = some ⟨pb, po, none⟩ ∧ ∀ j u, us[j]? = some u → w.cell? ⟨pb, po + j, none⟩ = some u := fun _ => ⟨p, 0, rfl, fun j u hj => by rw [Nat.zero_add]; exact hat j u hj⟩
  rcases Nat.eq_zero_or_pos k with h0 | h0
  · subst h0
    obtain rfl := hcap.2 rfl
    have hx0 : cs = [] := by have := hF.1; simpa using this
    subst hx0
    obtain ⟨g, c, w3, hr, hi, -, hb⟩ := run_append_freshC (P := P) w t ty e z size bytes ht hinfo hz hs0 hby ga 1 1 (some ⟨p, 0, none⟩) us hus hsrc (by omega)
    obtain ⟨g', e1, hown⟩ := hi.2 (by omega)
    injection e1 with e1
    subst e1
    have hown1 : w3.ownsRow w.heap.size e size (.slice (some ⟨g', 0, none⟩) (0 + 1) c) (0 + 1) ([] ++ us) := hown
    exact ⟨_, c, w3, none, hr, own_base2 hown1 hnw, grow_gb hb none, fun r e => (by cases e), hb.mono hnw⟩
  · obtain ⟨g, e1, hown⟩ := hF.2 h0
    injection e1 with e1
    subst e1
    obtain ⟨v', w3, hr, h1, h2, -⟩ := run_append_src (P := P) w t ty e z size bytes ht hinfo hz hs0 hby n0 k 1 1 _ cs us (some ⟨p, 0, none⟩) hown hus h1c hsrc (by omega) hnw
    obtain ⟨na, nc, rfl⟩ := own_slice1 h1
    refine ⟨na, nc, w3, _, hr, h1, h2, fun r e => ⟨h0, ?_⟩, grown_low h2 hnw (own_low hown)⟩
    simp [Value.ownBlock] at e
    subst e
    rfl
theorem step_append_col {ops : Array Oper} {o : Oper} {a : Act} {K : Act → World → Prop} {Q : Exit → Act → World → Prop} {E : Prop} (w : World) (n0 rl rc : Nat) (ga : Addr) (x : List Int) (n : Int) (hcap : CapOk rl rc) (hF : FRow w n0 3 1 (some ga) rl rc (x.map (Value.int .i64))) (hl : rl ≤ 1000) (hgd : o.guard = none) (s y : Operand)
    (ho : o.op = .call { callee := .builtin .append, args := #[s, y], argTypes := #[27, 27] }) (hs : a.eval s = .slice (some ga) rl rc) (hxv : ∃ p, a.eval y = .slice (some ⟨p, 0, none⟩) 1 1 ∧ w.cell? ⟨p, 0, none⟩ = some (.int .i64 n)) (hnw : n0 ≤ w.heap.size)
    (h : ∀ na nc w' row, w'.ownsRow n0 3 1 (.slice na (rl + 1) nc) (rl + 1) ((x ++ [n]).map (Value.int .i64)) → w.grownBy w' row → (∀ r, row = some r → 0 < rl ∧ ga = ⟨r, 0, none⟩) → Below n0 w w' → K (a.put o.dst (.slice na (rl + 1) nc)) w') : if Region.wanted o (yielded ops a.tmps) = true then Oper.wp Try.prog o a w K Q else E := by
  obtain ⟨p, hx1, hx2⟩ := hxv
  obtain ⟨na, nc, w3, row, hr, h1, h2, h3, h4⟩ := run_append_frow (P := Try.prog) w 27 o.type 3 _ 1 8 Try.underlying27 Try.info3 rfl (by decide) (by decide) n0 rl rc ga _ [.int .i64 n] hcap hF hl rfl (by intro u hu; simp at hu; subst hu; rfl) p (src1 hx2) hnw
  exact step_append_run w w3 _ _ _ 27 hgd s y ho hs hx1 hr (h na nc w3 row (by rw [List.map_append]; exact h1) h2 h3 h4)
/-- append of one piece, to a row of a copy. -/
theorem wpList_append_piece {ops : Array Oper} {rest : List Oper} {o : Oper} {a : Act} {Q : Exit → Act → World → Prop} (w : World) (n0 k rc : Nat) (ga : Addr) (cs : List Value) (lo hi pe : Int) (hcap : CapOk k rc) (hF : FRow w n0 43 3 (some ga) k rc cs) (hl : k ≤ 1000) (hgd : o.guard = none) (s y : Operand)
    (ho : o.op = .call { callee := .builtin .append, args := #[s, y], argTypes := #[23, 23] }) (hs : a.eval s = .slice (some ga) k rc) (hxv : ∃ p, a.eval y = .slice (some ⟨p, 0, none⟩) 1 1 ∧ w.cell? ⟨p, 0, none⟩ = some (.int .i64 lo) ∧ w.cell? ⟨p, 1, none⟩ = some (.int .i64 hi) ∧ w.cell? ⟨p, 2, none⟩ = some (.int .i64 pe)) (hnw : n0 ≤ w.heap.size)
    (h : ∀ na nc w' row, w'.ownsRow n0 43 3 (.slice na (k + 1) nc) (k + 1) (cs ++ [.int .i64 lo, .int .i64 hi, .int .i64 pe]) → w.grownBy w' row → (∀ r, row = some r → 0 < k ∧ ga = ⟨r, 0, none⟩) → Below n0 w w' → wpList Try.prog ops Q rest (a.put o.dst (.slice na (k + 1) nc)) w') : wpList Try.prog ops Q (o :: rest) a w := by
  obtain ⟨p, hx1, x0, x1, x2⟩ := hxv
  obtain ⟨na, nc, w3, row, hr, h1, h2, h3, h4⟩ := run_append_frow (P := Try.prog) w 23 o.type 43 (.agg #[.int .i64 0, .int .i64 0, .int .i64 0]) 3 24 Try.underlying23 Try.info43 rfl (by decide) (by decide) n0 k rc ga cs [.int .i64 lo, .int .i64 hi, .int .i64 pe] hcap hF hl rfl (by intro u hu; simp at hu; rcases hu with rfl | rfl | rfl <;> rfl) p (src3 x0 x1 x2) hnw
  exact wpList_append_run w hgd s y _ ho _ _ _ _ hs hx1 hr (h na nc w3 row h1 h2 h3 h4)
/-- What lies in another block than the grown row. -/
theorem row_keeps {X wA : World} {row : Option Nat} {k b : Nat} {ga : Addr} (hg : X.grownBy wA row) (hr : ∀ r, row = some r → 0 < k ∧ ga = ⟨r, 0, none⟩) (hb : b < X.heap.size) (hne : 0 < k → ga.block ≠ b) (i : Nat) : wA.cell? ⟨b, i, none⟩ = X.cell? ⟨b, i, none⟩ ∧ wA.frozen? ⟨b, i, none⟩ = X.frozen? ⟨b, i, none⟩ := by
  have h : wA.heap[b]? = X.heap[b]? := hg.block b hb fun e => by
    obtain ⟨h0, e2⟩ := hr b e.symm
    exact hne h0 (by rw [e2])
  exact ⟨World.cell?_of_block (w := X) (a := ⟨b, i, none⟩) h, World.frozen?_of_block (w := X) (a := ⟨b, i, none⟩) h⟩
theorem IsC.grown {X wA : World} {row : Option Nat} {k b : Nat} {ga : Addr} {T : TypeId} (h : IsC X b T) (hg : X.grownBy wA row) (hr : ∀ r, row = some r → 0 < k ∧ ga = ⟨r, 0, none⟩) (hne : 0 < k → ga.block ≠ b) : IsC wA b T := by
  obtain ⟨c, hc⟩ := h
  refine ⟨c, (hg.block b (Array.getElem?_eq_some_iff.1 hc).1 fun e => ?_).trans hc⟩
  obtain ⟨h0, e2⟩ := hr b e.symm
  exact hne h0 (by rw [e2])
theorem FRow.ne {w : World} {n0 k c size b : Nat} {e T : TypeId} {ga : Addr} {cs : List Value} (h : FRow w n0 e size (some ga) k c cs) (hb : IsC w b T) (hT : T ≠ e) : 0 < k → ga.block ≠ b := fun h0 => by
  obtain ⟨g, e1, ho⟩ := h.2 h0
  injection e1 with e1
  subst e1
  exact ne_of_type ho hb hT
/-- Two columns of a valid frame lie in two blocks. -/
theorem cols_apart {f : PFrame} (ho : f.ok = true) {w : World} {n0 g i c : Nat} {ci cc : Nat} (hi : i < f.cols.length) (hc : c < f.cols.length) (hne : i ≠ c) (h0 : 0 < f.cols[c].length) (h1 : 0 < f.cols[i].length)
    (hF : FRow w n0 3 1 (some ⟨g, 0, none⟩) f.cols[c].length cc (f.cols[c].map (Value.int .i64))) (hG : FRow w n0 3 1 (some ⟨g, 0, none⟩) f.cols[i].length ci (f.cols[i].map (Value.int .i64))) : False := by
  obtain ⟨g1, e1, -, -, hc1, -⟩ := hF.cell h0
  obtain ⟨g2, e2, -, -, hc2, -⟩ := hG.cell h1
  injection e1 with e1
  injection e1 with e1
  injection e2 with e2
  injection e2 with e2
  subst e1 e2
  have k1 := hc1 0 (.int .i64 f.cols[c][0]) (by simp [h0])
  have k2 := hc2 0 (.int .i64 f.cols[i][0]) (by simp [h1])
  rw [k1] at k2
  injection k2 with k2
  injection k2 with _ k2
  exact hne (at_col ho (n := f.cols[c][0]) ⟨hi, h1, k2.symm⟩ ⟨hc, h0, rfl⟩)

/-- Lists of numbers in rows of their own; an empty one anywhere. -/
def CRow (w : World) (n0 : Nat) (vs : List Value) (xs : List (List Int)) : Prop :=
  vs.length = xs.length ∧ ∀ i (h : i < xs.length), ∃ (ga : Option Addr) (c : Nat), vs[i]? = some (.slice ga xs[i].length c) ∧ (xs[i].length ≤ c ∧ c ≤ maxLen) ∧ FRow w n0 3 1 ga xs[i].length c (xs[i].map (Value.int .i64))
theorem CRow.kept {w w' : World} {n0 : Nat} {vs : List Value} {xs : List (List Int)} {row : Option Nat} (h : CRow w n0 vs xs) (hg : w.grownBy w' row)
    (hne : ∀ r, row = some r → (∃ (c : Array Value) (e' : TypeId), w.heap[r]? = some (.cells c e' (0, 0)) ∧ e' ≠ 3) ∨ r < n0 ∨ w.heap.size ≤ r) : CRow w' n0 vs xs :=
  ⟨h.1, fun i hi => by obtain ⟨ga, c, h1, h3, h2⟩ := h.2 i hi; exact ⟨ga, c, h1, h3, h2.kept hg hne⟩⟩
theorem CRow.up {N : Nat} {w w' : World} {n0 : Nat} {vs : List Value} {xs : List (List Int)} (h : CRow w n0 vs xs) (hk : KeepsUp N w w') (hn : N ≤ n0) : CRow w' n0 vs xs :=
  ⟨h.1, fun i hi => by obtain ⟨ga, c, h1, h3, h2⟩ := h.2 i hi; exact ⟨ga, c, h1, h3, h2.up hk hn⟩⟩
theorem CRow.vrow {w : World} {n0 : Nat} {vs : List Value} {xs : List (List Int)} (h : CRow w n0 vs xs) : VRow w vs xs :=
  ⟨h.1, fun i hi => by obtain ⟨ga, c, h1, h3, h2⟩ := h.2 i hi; exact ⟨ga, _, c, h1, h3, h2.ints (by omega)⟩⟩
theorem row_typed {w : World} {n0 k c size : Nat} {e : TypeId} {ga : Addr} {cs : List Value} {row : Option Nat} (h : FRow w n0 e size (some ga) k c cs) (hr : ∀ r, row = some r → 0 < k ∧ ga = ⟨r, 0, none⟩) : ∀ r, row = some r → IsC w r e := fun r er => by
  obtain ⟨h0, rfl⟩ := hr r er
  obtain ⟨g, e1, ho⟩ := h.2 h0
  obtain ⟨_, cur, hcur⟩ := own_parts ho
  injection e1 with e1
  injection e1 with e1
  subst e1
  exact ⟨cur, hcur⟩
/-- What stands behind the new number of a column. -/
def PutMid (f : PFrame) (n0 sl pl cl c rl : Nat) (gs : Addr) (gsc : Nat) (gp : Addr) (gpc : Nat) (gv vc : Nat) (vs : List Value) (U wx : World) : Prop :=
  ∃ na nc, FRow wx n0 80 2 (some gs) sl gsc (f.strips.flatMap Strip.cells) ∧ FRow wx n0 43 3 (some gp) pl gpc (f.pieces.flatMap Piece.cells) ∧
    wx.ownsRow n0 27 1 (.slice (some ⟨gv, 0, none⟩) cl vc) cl (vs.set c (.slice na (rl + 1) nc)) ∧ CRow wx n0 (vs.set c (.slice na (rl + 1) nc)) (f.cols.set c (f.cols[c]?.getD [] ++ [(pl : Int)])) ∧ Below n0 U wx ∧
    (∀ b, b < U.heap.size → (∃ cs T, U.heap[b]? = some (.cells cs T (0, 0)) ∧ T ≠ 3 ∧ T ≠ 27) → wx.heap[b]? = U.heap[b]?)
theorem put_mid {f : PFrame} (ho : f.ok = true) {n0 sl pl cl c rl rc : Nat} {gs : Addr} {gsc : Nat} {gp : Addr} {gpc : Nat} {gv vc : Nat} {vs : List Value} {N1 : Nat} {ga : Addr} {U X wA : World} {na : Option Addr} {nc : Nat} {row : Option Nat} (hP : PRow f n0 sl pl cl gs gsc gp gpc (some ⟨gv, 0, none⟩) vc vs N1 U) (hc : c < f.cols.length) (hrl : f.cols[c].length = rl)
    (hv : vs[c]? = some (.slice (some ga) rl rc)) (hF : FRow U N1 3 1 (some ga) rl rc (f.cols[c].map (Value.int .i64))) (hn : n0 ≤ U.heap.size) (hb : Below U.heap.size U X) (hown : wA.ownsRow n0 3 1 (.slice na (rl + 1) nc) (rl + 1) ((f.cols[c] ++ [(pl : Int)]).map (Value.int .i64))) (hg : X.grownBy wA row) (hr : ∀ r, row = some r → 0 < rl ∧ ga = ⟨r, 0, none⟩) (hlow : Below n0 X wA) :
    PutMid f n0 sl pl cl c rl gs gsc gp gpc gv vc vs U (wA.setCell ⟨gv, c, none⟩ (.slice na (rl + 1) nc)) := by
  obtain ⟨p1, p2, p3, p4, p5⟩ := hP
  have hint : ∀ r, row = some r → ∃ cs, X.heap[r]? = some (.cells cs 3 (0, 0)) := fun r e => by
    obtain ⟨h0, rfl⟩ := hr r e
    obtain ⟨g, e1, ho'⟩ := hF.2 h0
    obtain ⟨_, cur, hcur⟩ := own_parts ho'
    injection e1 with e1
    injection e1 with e1
    subst e1
    exact ⟨cur, (hb.block _ (Array.getElem?_eq_some_iff.1 hcur).1).trans hcur⟩
  have hnT : ∀ {e : TypeId} {n : Nat}, 3 ≠ e → ∀ r, row = some r → (∃ (c : Array Value) (e' : TypeId), X.heap[r]? = some (.cells c e' (0, 0)) ∧ e' ≠ e) ∨ r < n ∨ X.heap.size ≤ r := fun he r e => by
    obtain ⟨cs, h⟩ := hint r e
    exact .inl ⟨cs, _, h, he⟩
  obtain ⟨hgn, curv, hcurv⟩ := own_parts p3
  have hgl : gv < U.heap.size := (Array.getElem?_eq_some_iff.1 hcurv).1
  have hXv : X.heap[gv]? = some (.cells curv 27 (0, 0)) := (hb.block _ hgl).trans hcurv
  have hrow : some gv ≠ row := fun e => by
    obtain ⟨cs, h⟩ := hint gv e.symm
    rw [hXv] at h
    injection h with h
    injection h with _ h
    exact absurd h (by decide)
  have hAv : wA.heap[gv]? = some (.cells curv 27 (0, 0)) := (hg.block gv (Nat.lt_of_lt_of_le hgl hb.size) hrow).trans hXv
  have hgS : wA.grownBy (wA.setCell ⟨gv, c, none⟩ (.slice na (rl + 1) nc)) (some gv) := gbx_set (gbx_refl _ _) _ _
  have hnS : ∀ {e : TypeId} {n : Nat}, 27 ≠ e → ∀ r, (some gv : Option Nat) = some r → (∃ (c : Array Value) (e' : TypeId), wA.heap[r]? = some (.cells c e' (0, 0)) ∧ e' ≠ e) ∨ r < n ∨ wA.heap.size ≤ r := fun he r e => by
    injection e with e; subst e; exact .inl ⟨curv, _, hAv, he⟩
  have hownF : (wA.setCell ⟨gv, c, none⟩ (.slice na (rl + 1) nc)).ownsRow n0 3 1 (.slice na (rl + 1) nc) (rl + 1) ((f.cols[c] ++ [(pl : Int)]).map (Value.int .i64)) := hown.kept hgS (.inr fun e => own_ne hown ⟨curv, hAv⟩ (by decide) e.symm)
  refine ⟨na, nc, ((p1.kept (grown_none hb) (fun r e => by cases e)).kept hg (hnT (by decide))).kept hgS (hnS (by decide)), ((p2.kept (grown_none hb) (fun r e => by cases e)).kept hg (hnT (by decide))).kept hgS (hnS (by decide)), ?_, ?_, ?_, ?_⟩
  · exact own_set ((p3.kept (grown_none hb) (Classical.em _)).kept hg (.inr fun e => hrow (by rw [← e]; rfl))) c _
  · have e : f.cols.set c (f.cols[c]?.getD [] ++ [(pl : Int)]) = f.cols.set c (f.cols[c] ++ [(pl : Int)]) := by simp [hc]
    rw [e]
    refine ⟨by simp [p4.1], fun q hq => ?_⟩
    have hq' : q < f.cols.length := by simpa using hq
    by_cases eq : c = q
    · subst eq
      have hle : (f.cols[c] ++ [(pl : Int)]).length = rl + 1 := by simp [hrl]
      refine ⟨na, nc, ?_, ?_, ?_⟩
      · rw [List.getElem?_set_self (by rw [p4.1]; exact hq'), List.getElem_set_self, hle]
      · rw [List.getElem_set_self, hle]; exact own_cap hownF
      · rw [List.getElem_set_self, hle]; exact own_frow hownF
    · obtain ⟨gb, cb, f1, f3, f2⟩ := p4.2 q hq'
      refine ⟨some gb, cb, by rw [List.getElem?_set_ne eq, List.getElem_set_ne eq]; exact f1, by rw [List.getElem_set_ne eq]; exact f3.1, ?_⟩
      rw [List.getElem_set_ne eq]
      rcases Nat.eq_zero_or_pos f.cols[q].length with h0 | h0
      · exact ⟨by simp, fun h => absurd h (by omega)⟩
      · have hk : FRow (wA.setCell ⟨gv, c, none⟩ (.slice na (rl + 1) nc)) N1 3 1 (some gb) f.cols[q].length cb (f.cols[q].map (Value.int .i64)) := by
          obtain ⟨gq, e1, hoq⟩ := f2.2 h0
          injection e1 with e1
          subst e1
          have hneq : ∀ r, row = some r → gq ≠ r := fun r er e => by
            obtain ⟨hr0, rfl⟩ := hr r er
            subst e
            have hF' := hF
            rw [← hrl] at hF' hr0
            exact cols_apart ho hq' hc (fun e => eq e.symm) hr0 h0 hF' f2
          have hq1 : wA.ownsRow N1 3 1 (.slice (some ⟨gq, 0, none⟩) f.cols[q].length cb) f.cols[q].length (f.cols[q].map (Value.int .i64)) := (hoq.kept (grown_none hb) (Classical.em _)).kept hg (.inr fun e => by
            obtain ⟨_, cur, hcur⟩ := own_parts hoq
            cases hrw : row with
            | none => rw [hrw] at e; simp [Value.ownBlock] at e
            | some r =>
              have hz : gq = r := by
                simp [Value.ownBlock, hrw] at e
                exact e
              exact hneq r hrw hz)
          exact own_frow (hq1.kept hgS (.inr fun e => own_ne hq1 ⟨curv, hAv⟩ (by decide) e.symm))
        exact hk.low p5
  · exact ((hb.mono hn).trans hlow).setCell hgn _
  · rintro b hbU ⟨cs, T, hT, hn1, hn2⟩
    have h1 : X.heap[b]? = U.heap[b]? := hb.block b hbU
    have h2 : wA.heap[b]? = X.heap[b]? := hg.block b (Nat.lt_of_lt_of_le hbU hb.size) (fun e => by
      obtain ⟨cs', h⟩ := hint b e.symm
      rw [h1, hT] at h
      injection h with h
      injection h with _ h
      exact hn1 h)
    have h3 : b ≠ gv := fun e => by
      subst e
      rw [hcurv] at hT
      injection hT with hT
      injection hT with _ hT
      exact hn2 hT.symm
    exact (Below.heap_setCell wA ⟨gv, c, none⟩ _ b h3).trans (h2.trans h1)
end Go.Proofs.Ytcklhojeneejiaa
