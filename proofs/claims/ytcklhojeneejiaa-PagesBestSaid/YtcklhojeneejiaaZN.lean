/- Package pages: refusal: the pieces of a choice. -/
import Derived.Test.YtcklhojeneejiaaZE
import Derived.Test.YtcklhojeneejiaaZD
namespace Go.Proofs.Ytcklhojeneejiaa
set_option linter.unusedVariables false
set_option linter.unusedSimpArgs false
open Go.RowKit Go.Shelf

/-- append of one number, to a row that the call has made. -/
theorem wpList_append_int {ops : Array Oper} {rest : List Oper} {o : Oper} {a : Act} {Q : Exit → Act → World → Prop} (w : World) (n0 k : Nat) (v : Value) (cs : List Value) (n : Int) (hgd : o.guard = none) (s x : Operand)
    (ho : o.op = .call { callee := .builtin .append, args := #[s, x], argTypes := #[27, 27] }) (hs : a.eval s = v) (hxv : ∃ p, a.eval x = .slice (some ⟨p, 0, none⟩) 1 1 ∧ w.cell? ⟨p, 0, none⟩ = some (.int .i64 n))
    (hrow : w.ownsRow n0 3 1 v k cs) (hl : k ≤ 1000) (hnw : n0 ≤ w.heap.size)
    (h : ∀ v' w', w'.ownsRow n0 3 1 v' (k + 1) (cs ++ [.int .i64 n]) → w.grownBy w' v.ownBlock → (∀ g, v'.ownBlock = some g → v.ownBlock = some g ∨ w.heap.size ≤ g) → wpList Try.prog ops Q rest (a.put o.dst v') w') : wpList Try.prog ops Q (o :: rest) a w := by
  obtain ⟨p, hxv, h0⟩ := hxv
  obtain ⟨i0, hi0, hy0, hy1, hy2⟩ := info_parts Try.info3
  obtain ⟨v', w3, hr, hown, hgrow, hnew, hn2⟩ := run_append_own_at (P := Try.prog) w n0 27 o.type 3 i0 _ 1 8 Try.underlying27 hi0 hy0 hy1 hy2 rfl (by decide) _ k _ hrow ⟨p, 0, none⟩ 1 1 [.int .i64 n] rfl (by
    intro j x hj
    match j, hj with
    | 0, hj => cases hj; rw [Addr.add_lit]; exact h0
    | j + 1, hj => simp at hj) (by intro x hx; simp at hx; subst hx; rfl) (by unfold maxLen; omega) (by omega) hnw
  exact wpList_append_run w hgd s x 27 ho _ _ _ _ hs hxv hr (h v' w3 hown hgrow (fun g hg => by
    rcases hn2 with e | e
    · exact .inl (e ▸ hg)
    · rw [e] at hg; injection hg with hg; exact .inr (by omega)))
theorem own_lt {w : World} {n0 len sz : Nat} {e : TypeId} {v : Value} {xs : List Value} (h : w.ownsRow n0 e sz v len xs) : ∀ r, v.ownBlock = some r → r < w.heap.size := by
  intro r hr
  rcases h.2 with ⟨rfl, _⟩ | ⟨g, c, cur, rfl, _, h2, _⟩
  · simp [Value.ownBlock] at hr
  · simp [Value.ownBlock] at hr; rw [← hr]; exact (Array.getElem?_eq_some_iff.1 h2).1

theorem own_slice {w : World} {n0 len sz : Nat} {e : TypeId} {v : Value} {xs : List Value} (h : w.ownsRow n0 e sz v len xs) : ∃ a l c, v = .slice a l c := by
  rcases h.2 with ⟨rfl, _⟩ | ⟨g, c, cur, rfl, _⟩
  · exact ⟨_, _, _, rfl⟩
  · exact ⟨_, _, _, rfl⟩
/-- The pieces of a choice among the first ones. -/
def pickR (c n : Nat) : List Int := ((List.range n).filter (hasN c)).map fun (i : Nat) => (i : Int)
theorem pickR_snoc (c n : Nat) : pickR c (n + 1) = if hasN c n then pickR c n ++ [(n : Int)] else pickR c n := by
  unfold pickR
  rw [List.range_succ, List.filter_append, List.map_append]
  cases h : hasN c n <;> simp [h]
theorem pickR_len (c n : Nat) : (pickR c n).length ≤ n := by
  unfold pickR
  rw [List.length_map]
  exact Nat.le_trans (List.length_filter_le _ _) (by simp)
def PFrame.pay (f : PFrame) (i : Nat) : Int := ((f.pieces[i]?).map Piece.pe).getD 0
def PFrame.payTo (f : PFrame) (c : Nat) : Nat → Int
  | 0 => 0
  | n + 1 => PFrame.payTo f c n + (if hasN c n then f.pay n else 0)
theorem pay_bd {f : PFrame} (ho : f.ok = true) (i : Nat) : 0 ≤ f.pay i ∧ f.pay i ≤ 99 := by
  unfold PFrame.pay
  by_cases hk : i < f.pieces.length
  · have := PFrame.ok_piece ho i hk
    rw [List.getElem?_eq_getElem hk]; simp; omega
  · rw [List.getElem?_eq_none (by omega)]; simp
theorem payTo_bd {f : PFrame} (ho : f.ok = true) (c : Nat) : ∀ n, 0 ≤ f.payTo c n ∧ f.payTo c n ≤ 99 * n
  | 0 => by simp [PFrame.payTo]
  | n + 1 => by
    have h1 := payTo_bd ho c n
    have h2 := pay_bd ho n
    unfold PFrame.payTo
    split <;> (push_cast; omega)
/-- What the box of r holds when so many pieces have been looked at. -/
def RefRel (f : PFrame) (c B n0 : Nat) (w : World) (k : Nat) (wr : World) : Prop :=
  ∃ v, wr.cell? ⟨B, 0, none⟩ = some v ∧ wr.cell? ⟨B, 1, none⟩ = some (.int .i64 (f.payTo c k)) ∧ (∀ i, wr.frozen? ⟨B, i, none⟩ = false) ∧ wr.ownsRow n0 3 1 v (pickR c k).length ((pickR c k).map (Value.int .i64)) ∧ Below w.heap.size w wr ∧ n0 ≤ wr.heap.size

theorem RefRel.next {f : PFrame} {c B n0 k : Nat} {w wr wr' : World} (h : RefRel f c B n0 w k wr) (hb : Below wr.heap.size wr wr') (h1 : pickR c (k + 1) = pickR c k) (h2 : f.payTo c (k + 1) = f.payTo c k) : RefRel f c B n0 w (k + 1) wr' := by
  obtain ⟨v, c0, c1, c2, h3, h4, h5⟩ := h
  have hB := World.block_lt_of_cell? _ _ c0
  exact ⟨v, (hb.cell (p := ⟨B, 0, none⟩) hB).trans c0, by rw [h2]; exact (hb.cell (p := ⟨B, 1, none⟩) hB).trans c1, fun i => (hb.frozen (p := ⟨B, i, none⟩) hB).trans (c2 i), by rw [h1]; exact h3.kept (grow_gb hb none) (Classical.em _), h4.trans (hb.mono h4.size), Nat.le_trans h5 hb.size⟩
theorem name3c (w : World) (cs : Array Value) (T : TypeId) (ds : Array Value) (U : TypeId) (es : Array Value) (V : TypeId) :
    ∃ W0, ((w.alloc (.cells cs T)).alloc (.cells ds U)).alloc (.cells es V) = W0 ∧ Below w.heap.size w W0 ∧ (∀ i, W0.cell? ⟨w.heap.size, i, none⟩ = cs[i]?) ∧ (∀ i, W0.cell? ⟨w.heap.size + 1, i, none⟩ = ds[i]?) ∧ (∀ i, W0.cell? ⟨w.heap.size + 1 + 1, i, none⟩ = es[i]?) ∧ W0.heap.size = w.heap.size + 1 + 1 + 1 :=
  ⟨_, rfl, (by repeat (first | exact Below.refl _ _ | (refine Below.alloc ?_ (by first | omega | (simp; omega) | simp) _) | (refine Below.setCell ?_ (by first | omega | (simp; omega) | simp) _) | refine Below.drew ?_)), fun i => by go_simp, fun i => by go_simp, fun i => by go_simp, by simp⟩
set_option maxRecDepth 100000 in
set_option maxHeartbeats 8000000 in
theorem refusal_any (f : PFrame) (sa : Option Addr) (sl sc : Nat) (pa : Option Addr) (pl pc : Nat) (ca : Option Addr) (cl cc : Nat) (ho : f.ok = true) (c : Nat) (hc : c < 64) (w : World) (hp : PAt w sa sl sc pa pl pc ca cl cc f) :
    Calls Try.prog 112 #[.agg #[.int .i64 f.len, .int .i64 f.slack, .slice sa sl sc, .slice pa pl pc, .slice ca cl cc], .int .i64 c] w fun e w' => ∃ v n0, e = .returned (.agg #[v, .int .i64 (f.payTo c pl)]) ∧ w.heap.size ≤ n0 ∧ w'.ownsRow n0 3 1 v (pickR c pl).length ((pickR c pl).map (Value.int .i64)) ∧ Below w.heap.size w w' := by
  obtain ⟨hpl, hpm, hpc⟩ := hp.2.1
  have hpl6 := (PFrame.ok_parts ho).2.2.2.2.2.1
  have HHAS := Lib.hid (fun (k : Nat) (b : Bool) (hk : k < 6) (h : hasN c k = b) (W : World) => (h ▸ has_any c k hc hk W : Calls Try.prog 120 #[.int .i64 c, .int .i64 k] W fun e w' => e = .returned (.bool b) ∧ w' = W))
  have HPB := Lib.hid (fun k => payTo_bd ho c k)
  have HPY := Lib.hid (fun k => pay_bd ho k)
  have HPE := Lib.hid (show ∀ k (h : k < f.pieces.length), f.pay k = f.pieces[k].pe from fun k h => by unfold PFrame.pay; rw [List.getElem?_eq_getElem h]; rfl)
  have HPL := Lib.hid hpl
  have HPC := Lib.hid hpc
  have HP := Lib.hid hp
  have hpl7 : pl ≤ 6 := by omega
  clear hp hpl hpm hpc ho
  go_enter Try.func112, Try.ntmps112
  go_wp2_with fail
  obtain ⟨W0, hW0, hB0, hs0, hr0, hq0, hz0⟩ := name3c w #[.int .i64 f.len, .int .i64 f.slack, .slice sa sl sc, .slice pa pl pc, .slice ca cl cc] 87 #[.slice none 0 0, .int .i64 0] 112 #[.slice none 0 0, .int .i64 0] 112
  have hfr1 : ∀ i, W0.frozen? ⟨w.heap.size + 1, i, none⟩ = false := by subst hW0; intro i; go_simp
  have hfr2 : ∀ i, W0.frozen? ⟨w.heap.size + 1 + 1, i, none⟩ = false := by subst hW0; intro i; go_simp
  rw [hW0]
  clear hW0
  have HB0 := Lib.hid hB0
  have HR0 := Lib.hid hr0
  have HF1 := Lib.hid hfr1
  go_loopw [12] (fun i wr => ∃ k : Nat, k ≤ pl ∧ i = .int .i64 k ∧ RefRel f c (w.heap.size + 1 + 1) W0.heap.size w k wr ∧ (∀ i, wr.cell? ⟨w.heap.size + 1, i, none⟩ = (#[.slice none 0 0, .int .i64 0] : Array Value)[i]?) ∧ ∀ i, wr.frozen? ⟨w.heap.size + 1, i, none⟩ = false) (fun i _ => pl - (intOf i).toNat)
  case atStart => exact ⟨0, by omega, rfl, ⟨_, hq0 0, hq0 1, hfr2, ⟨rfl, .inl ⟨rfl, rfl⟩⟩, hB0, Nat.le_refl _⟩, hr0, hfr1⟩
  case round =>
    obtain ⟨k, hk, rfl, ⟨v, c0, c1, c2, hrow, hbw, hn⟩, hrc, hrf⟩ := hrel
    clear hB0 hs0 hr0 hq0 hfr1 hfr2
    have HROW := Lib.hid hrow
    have HBW := Lib.hid hbw
    have HRC := Lib.hid hrc
    have HRF := Lib.hid hrf
    by_cases hlt : k < pl
    · have hk3 : k < f.pieces.length := by rw [HPL.out]; exact hlt
      obtain ⟨pb, po, rfl, hpB, hpcell⟩ := HPC.out (by omega)
      have hbc : ∀ o, wr.cell? ⟨pb, o, none⟩ = w.cell? ⟨pb, o, none⟩ := fun o => hbw.cell (p := ⟨pb, o, none⟩) hpB
      obtain ⟨d0, d1, d2⟩ := hpcell k hk3
      rw [← hbc] at d0 d1 d2
      have hpe := HPE.out k hk3
      rw [← hpe] at d2
      have hkl : (k : Int) < (pl : Int) := by omega
      have hk0 : (0 : Int) ≤ (k : Int) := by omega
      have hpb := HPB.out k
      have hpy := HPY.out k
      clear hpcell hbc hrow hbw hrc hrf hpe
      generalize f.pieces[k].lo = q0 at *
      generalize f.pieces[k].hi = q1 at *
      have g0 := c2 0
      have g1 := c2 1
      rcases hh : hasN c k with - | -
      · have HH := Lib.hid (HHAS.out k false (by omega) hh)
        have HPS := Lib.hid (show pickR c (k + 1) = pickR c k by rw [pickR_snoc, hh]; rfl)
        have HPT := Lib.hid (show f.payTo c (k + 1) = f.payTo c k by rw [PFrame.payTo, hh]; simp)
        clear hh
        go_wp2_with (go_at_call 120; refine (HH.out _).mono ?_; rintro e w2 ⟨rfl, rfl⟩)
        have hbx : Below wr.heap.size wr (wr.alloc (.cells #[.int .i64 q0, .int .i64 q1, .int .i64 (f.pay k)] 43)) := (by repeat (first | exact Below.refl _ _ | (refine Below.alloc ?_ (by first | omega | (simp; omega) | simp) _) | (refine Below.setCell ?_ (by first | omega | (simp; omega) | simp) _) | refine Below.drew ?_))
        refine ⟨⟨k + 1, by omega, by go_num, RefRel.next ⟨v, c0, c1, c2, HROW.out, HBW.out, hn⟩ hbx HPS.out HPT.out, fun i => (hbx.cell (p := ⟨w.heap.size + 1, i, none⟩) (by have := World.block_lt_of_cell? _ _ c0; show w.heap.size + 1 < _; simp only at this; omega)).trans (HRC.out i), fun i => (hbx.frozen (p := ⟨w.heap.size + 1, i, none⟩) (by have := World.block_lt_of_cell? _ _ c0; show w.heap.size + 1 < _; simp only at this; omega)).trans (HRF.out i)⟩, by simp [intOf]; omega⟩
      · have HH := Lib.hid (HHAS.out k true (by omega) hh)
        have HPS := Lib.hid (show pickR c (k + 1) = pickR c k ++ [(k : Int)] by rw [pickR_snoc, hh]; rfl)
        have HPT := Lib.hid (show f.payTo c (k + 1) = f.payTo c k + f.pay k by rw [PFrame.payTo, hh]; simp)
        have hpl := pickR_len c k
        have hB := World.block_lt_of_cell? _ _ c0
        simp only at hB
        clear hh
        have hbA : Below wr.heap.size wr ((wr.alloc (.cells #[.int .i64 q0, .int .i64 q1, .int .i64 (f.pay k)] 43)).alloc (.cells #[.int .i64 (k : Int)] 3)) := (by repeat (first | exact Below.refl _ _ | (refine Below.alloc ?_ (by first | omega | (simp; omega) | simp) _) | (refine Below.setCell ?_ (by first | omega | (simp; omega) | simp) _) | refine Below.drew ?_))
        have HAP := Lib.hid (show ∀ (v2 : Value) (wF : World), World.grownBy ((wr.alloc (.cells #[.int .i64 q0, .int .i64 q1, .int .i64 (f.pay k)] 43)).alloc (.cells #[.int .i64 (k : Int)] 3)) wF v.ownBlock → wF.cell? ⟨w.heap.size + 1 + 1, 0, none⟩ = some v ∧ wF.cell? ⟨w.heap.size + 1 + 1, 1, none⟩ = some (.int .i64 (f.payTo c k)) ∧ wF.frozen? ⟨w.heap.size + 1 + 1, 0, none⟩ = false ∧ wF.frozen? ⟨w.heap.size + 1 + 1, 1, none⟩ = false ∧ (∀ i, wF.frozen? ⟨w.heap.size + 1 + 1, i, none⟩ = false) ∧ wF.cell? ⟨wr.heap.size, 2, none⟩ = some (.int .i64 (f.pay k)) ∧ wr.heap.size + 2 ≤ wF.heap.size ∧ Below W0.heap.size wr wF ∧ True from fun v2 wF hg => by
          have hlow := own_low HROW.out
          have hlt := own_lt HROW.out
          have hz : ((wr.alloc (.cells #[.int .i64 q0, .int .i64 q1, .int .i64 (f.pay k)] 43)).alloc (.cells #[.int .i64 (k : Int)] 3)).heap.size = wr.heap.size + 2 := by simp
          have hk : ∀ b, b < wr.heap.size + 2 → (∀ g, v.ownBlock = some g → b ≠ g) → wF.heap[b]? = (World.heap ((wr.alloc (.cells #[.int .i64 q0, .int .i64 q1, .int .i64 (f.pay k)] 43)).alloc (.cells #[.int .i64 (k : Int)] 3)))[b]? := fun b h1 h2 => hg.block b (by rw [hz]; exact h1) (fun e => h2 b e.symm rfl)
          have hB1 : wF.heap[w.heap.size + 1 + 1]? = (World.heap ((wr.alloc (.cells #[.int .i64 q0, .int .i64 q1, .int .i64 (f.pay k)] 43)).alloc (.cells #[.int .i64 (k : Int)] 3)))[w.heap.size + 1 + 1]? := hk _ (by omega) (fun g hg => by have := hlow g hg; omega)
          have hB2 : wF.heap[wr.heap.size]? = (World.heap ((wr.alloc (.cells #[.int .i64 q0, .int .i64 q1, .int .i64 (f.pay k)] 43)).alloc (.cells #[.int .i64 (k : Int)] 3)))[wr.heap.size]? := hk _ (by omega) (fun g hg => by have := hlt g hg; omega)
          have hzF := hg.size
          rw [hz] at hzF
          refine ⟨(World.cell?_of_block (a := ⟨w.heap.size + 1 + 1, 0, none⟩) hB1).trans ((hbA.cell (p := ⟨w.heap.size + 1 + 1, 0, none⟩) hB).trans c0), (World.cell?_of_block (a := ⟨w.heap.size + 1 + 1, 1, none⟩) hB1).trans ((hbA.cell (p := ⟨w.heap.size + 1 + 1, 1, none⟩) hB).trans c1), (World.frozen?_of_block (a := ⟨w.heap.size + 1 + 1, 0, none⟩) hB1).trans ((hbA.frozen (p := ⟨w.heap.size + 1 + 1, 0, none⟩) hB).trans (c2 0)), (World.frozen?_of_block (a := ⟨w.heap.size + 1 + 1, 1, none⟩) hB1).trans ((hbA.frozen (p := ⟨w.heap.size + 1 + 1, 1, none⟩) hB).trans (c2 1)), fun i => (World.frozen?_of_block (a := ⟨w.heap.size + 1 + 1, i, none⟩) hB1).trans ((hbA.frozen (p := ⟨w.heap.size + 1 + 1, i, none⟩) hB).trans (c2 i)), (World.cell?_of_block (a := ⟨wr.heap.size, 2, none⟩) hB2).trans (by go_simp), hzF, (hbA.mono hn).trans (grown_low hg (by rw [hz]; omega) hlow), trivial⟩)
        go_wp2_with (first
          | (go_at_call 120; refine (HH.out _).mono ?_; rintro e w2 ⟨rfl, rfl⟩)
          | (at_builtin; go_must (refine wpList_append_int _ W0.heap.size (pickR c k).length _ ((pickR c k).map (Value.int .i64)) (k : Int) rfl _ _ rfl rfl ⟨_, rfl, ?_⟩ ?_ (by omega) ?_ ?_); go_must (focus (simp; done)); go_must (· exact HROW.out.kept (grow_gb hbA none) (Classical.em _)); go_must (focus (simp; omega)); intro v2 wF hoF hgF hnF; obtain ⟨a0, a1, a2, a3, a4', a4, a5, a6, a7⟩ := HAP.out v2 wF hgF; have HA4 := Lib.hid a4'; clear a4'; obtain ⟨r1, r2, r3, rfl⟩ := own_slice hoF; have HOF := Lib.hid hoF; have HGF := Lib.hid hgF; clear hoF hgF hnF))
        have hwn : w.heap.size ≤ W0.heap.size := by omega
        have hset : ∀ j, j ≠ w.heap.size + 1 + 1 → ((wF.setCell ⟨w.heap.size + 1 + 1, 0, none⟩ (.slice r1 r2 r3)).setCell ⟨w.heap.size + 1 + 1, 1, none⟩ (.int .i64 (f.payTo c k + f.pay k))).heap[j]? = wF.heap[j]? := fun j h => (Below.heap_setCell _ ⟨w.heap.size + 1 + 1, 1, none⟩ _ j h).trans (Below.heap_setCell _ ⟨w.heap.size + 1 + 1, 0, none⟩ _ j h)
        have hB3 : Below w.heap.size wF ((wF.setCell ⟨w.heap.size + 1 + 1, 0, none⟩ (.slice r1 r2 r3)).setCell ⟨w.heap.size + 1 + 1, 1, none⟩ (.int .i64 (f.payTo c k + f.pay k))) := ((Below.refl _ wF).setCell (by show w.heap.size ≤ w.heap.size + 1 + 1; omega) _).setCell (by show w.heap.size ≤ w.heap.size + 1 + 1; omega) _
        have hgs : wF.grownBy ((wF.setCell ⟨w.heap.size + 1 + 1, 0, none⟩ (.slice r1 r2 r3)).setCell ⟨w.heap.size + 1 + 1, 1, none⟩ (.int .i64 (f.payTo c k + f.pay k))) (some (w.heap.size + 1 + 1)) := gbx_set (gbx_set (gbx_refl _ _) _ _) _ _
        have hown := HOF.out.kept hgs (.inr fun e => by have := own_low HOF.out _ e; omega)
        have hc4 : ∀ i, ((wF.setCell ⟨w.heap.size + 1 + 1, 0, none⟩ (.slice r1 r2 r3)).setCell ⟨w.heap.size + 1 + 1, 1, none⟩ (.int .i64 (f.payTo c k + f.pay k))).cell? ⟨w.heap.size + 1, i, none⟩ = wr.cell? ⟨w.heap.size + 1, i, none⟩ := fun i => (World.cell?_of_block (w := wF) (a := ⟨w.heap.size + 1, i, none⟩) (hset (w.heap.size + 1) (by omega))).trans (a6.cell (p := ⟨w.heap.size + 1, i, none⟩) (by show w.heap.size + 1 < _; omega))
        have hf4 : ∀ i, ((wF.setCell ⟨w.heap.size + 1 + 1, 0, none⟩ (.slice r1 r2 r3)).setCell ⟨w.heap.size + 1 + 1, 1, none⟩ (.int .i64 (f.payTo c k + f.pay k))).frozen? ⟨w.heap.size + 1, i, none⟩ = wr.frozen? ⟨w.heap.size + 1, i, none⟩ := fun i => (World.frozen?_of_block (w := wF) (a := ⟨w.heap.size + 1, i, none⟩) (hset (w.heap.size + 1) (by omega))).trans (a6.frozen (p := ⟨w.heap.size + 1, i, none⟩) (by show w.heap.size + 1 < _; omega))
        refine ⟨⟨k + 1, by omega, by go_num, ⟨.slice r1 r2 r3, (set_cell' (by decide)).trans (set_cell a0), by rw [HPT.out]; exact set_cell ((set_cell' (by decide)).trans a1), fun i => set_frz (set_frz (HA4.out i)), by rw [HPS.out]; simpa using hown, (HBW.out.trans (a6.mono hwn)).trans hB3, by simp [World.setCell]; have := a6.size; omega⟩, fun i => (hc4 i).trans (HRC.out i), fun i => (hf4 i).trans (HRF.out i)⟩, by simp [intOf]; omega⟩
    · obtain rfl : pl = k := by omega
      obtain ⟨r1, r2, r3, rfl⟩ := own_slice hrow
      have t0 := hrc 0
      have t1 := hrc 1
      have tf0 := hrf 0
      have tf1 := hrf 1
      simp only [List.getElem?_toArray, List.getElem?_cons_zero, List.getElem?_cons_succ] at t0 t1
      have hgs : wr.grownBy ((wr.setCell ⟨w.heap.size + 1, 0, none⟩ (.slice r1 r2 r3)).setCell ⟨w.heap.size + 1, 1, none⟩ (.int .i64 (f.payTo c pl))) (some (w.heap.size + 1)) := gbx_set (gbx_set (gbx_refl _ _) _ _) _ _
      have HRES := Lib.hid (hrow.kept hgs (.inr fun e => by have := own_low hrow _ e; omega))
      have HB3 := Lib.hid (hbw.trans (((Below.refl w.heap.size wr).setCell (p := ⟨w.heap.size + 1, 0, none⟩) (by show w.heap.size ≤ w.heap.size + 1; omega) (.slice r1 r2 r3)).setCell (p := ⟨w.heap.size + 1, 1, none⟩) (by show w.heap.size ≤ w.heap.size + 1; omega) (.int .i64 (f.payTo c pl))))
      have hR : World.cell? ((wr.setCell ⟨w.heap.size + 1, 0, none⟩ (.slice r1 r2 r3)).setCell ⟨w.heap.size + 1, 1, none⟩ (.int .i64 (f.payTo c pl))) ⟨w.heap.size + 1, 0, none⟩ = some (.slice r1 r2 r3) := (set_cell' (by decide)).trans (set_cell t0)
      have hR2 : World.cell? ((wr.setCell ⟨w.heap.size + 1, 0, none⟩ (.slice r1 r2 r3)).setCell ⟨w.heap.size + 1, 1, none⟩ (.int .i64 (f.payTo c pl))) ⟨w.heap.size + 1, 1, none⟩ = some (.int .i64 (f.payTo c pl)) := set_cell ((set_cell' (by decide)).trans t1)
      clear hrc hrf hrow hbw c2 hgs
      go_wp2_with fail
      refine bodyPost_ret (v := .agg #[.slice r1 r2 r3, .int .i64 (f.payTo c pl)]) ?_ rfl ⟨_, _, rfl, by omega, HRES.out, HB3.out⟩
      simp [results, Try.results112, go_sem, hR, hR2]
end Go.Proofs.Ytcklhojeneejiaa
