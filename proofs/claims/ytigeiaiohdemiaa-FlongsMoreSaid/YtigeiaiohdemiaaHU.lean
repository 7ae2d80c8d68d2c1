/- FlongsMore: what the box of the copy with one mould more holds, in the loop that appends the casts. -/
import Derived.Test.YtigeiaiohdemiaaHS
namespace Go.Proofs.Ytigeiaiohdemiaa
set_option linter.unusedVariables false
set_option linter.unusedSimpArgs false
open Go.RowKit

/-- The worlds, the first k with their new cast. -/
def moreTo (ws : List (List Int)) (x : List Int) (k : Nat) : List (List Int) := moreL (ws.take k) (x.take k) ++ ws.drop k
theorem moreTo_zero (ws : List (List Int)) (x : List Int) : moreTo ws x 0 = ws := by simp [moreTo, moreL]
theorem moreTo_all (ws : List (List Int)) (x : List Int) (h : x.length = ws.length) : moreTo ws x ws.length = moreL ws x := by
  unfold moreTo
  rw [List.take_of_length_le (Nat.le_refl _), List.take_of_length_le (Nat.le_of_eq h), List.drop_eq_nil_of_le (Nat.le_refl _), List.append_nil]
theorem moreTo_len (ws : List (List Int)) (x : List Int) (h : x.length = ws.length) (k : Nat) (hk : k ≤ ws.length) : (moreTo ws x k).length = ws.length := by
  simp [moreTo, moreL]; omega
theorem moreTo_get (ws : List (List Int)) (x : List Int) (h : x.length = ws.length) (k : Nat) (hk : k < ws.length) : (moreTo ws x k)[k]'(by rw [moreTo_len ws x h k (by omega)]; exact hk) = ws[k] := by
  have hl : (moreL (ws.take k) (x.take k)).length = k := by simp [moreL]; omega
  unfold moreTo
  rw [List.getElem_append_right (by omega)]
  simp [hl]
theorem moreTo_next (ws : List (List Int)) (x : List Int) (h : x.length = ws.length) (k : Nat) (hk : k < ws.length) (hx : k < x.length) : moreTo ws x (k + 1) = (moreTo ws x k).set k (ws[k] ++ [x[k]]) := by
  have hl : (moreL (ws.take k) (x.take k)).length = k := by simp [moreL]; omega
  have e1 : moreL (ws.take (k + 1)) (x.take (k + 1)) = moreL (ws.take k) (x.take k) ++ [ws[k] ++ [x[k]]] := by
    unfold moreL
    rw [List.take_succ_eq_append_getElem hk, List.take_succ_eq_append_getElem hx, List.zipWith_append (by simp; omega)]
    rfl
  unfold moreTo
  rw [e1, List.set_append_right _ _ (by omega), hl, Nat.sub_self, List.drop_eq_getElem_cons hk, List.set_cons_zero, List.append_assoc]
  rfl
theorem FRow.keptNe {w w' : World} {row : Option Nat} {n0 : Nat} {e : TypeId} {size : Nat} {ga : Option Addr} {k cap : Nat} {cs : List Value} (h : FRow w n0 e size ga k cap cs) (hg : w.grownBy w' row)
    (hne : ∀ g : Addr, ga = some g → 0 < k → ¬ row = some g.block) : FRow w' n0 e size ga k cap cs := by
  refine ⟨h.1, fun h0 => ?_⟩
  obtain ⟨g, rfl, ho⟩ := h.2 h0
  exact ⟨g, rfl, ho.kept hg (.inr fun e1 => hne _ rfl h0 (by rw [← e1]; rfl))⟩

def MoreBox (s : FShop) (p : Int) (x : List Int) (ml wl nl nB N2 gP k : Nat) (ga : Addr) (gc : Nat) (ka : Option Addr) (kc : Nat) (fw : Addr) (fe : Nat) (us : List Value) (w : World) : Prop :=
  (w.cell? ⟨gP, 0, none⟩ = some (.slice (some ga) (ml + 1) gc) ∧ w.cell? ⟨gP, 1, none⟩ = some (.slice ka wl kc) ∧ w.cell? ⟨gP, 2, none⟩ = some (.slice (some fw) nl fe) ∧ w.cell? ⟨gP, 3, none⟩ = some (.int .i64 s.fresh)) ∧ IsC w gP 26 ∧
    FRow w nB 48 3 (some ga) (ml + 1) gc ((s.moulds ++ [(⟨p, 0, 0⟩ : Mould)]).flatMap Mould.cells) ∧ FRow w nB 3 1 (some fw) nl fe (s.wants.map (Value.int .i64)) ∧ (0 < nl → fw.block < N2) ∧
    w.ownsRow nB 24 1 (.slice ka wl kc) wl us ∧ DRow w N2 us (moreTo s.worlds x k) ∧ nB ≤ N2 ∧ N2 ≤ w.heap.size
/-- What is read of the copy when the loop is done. -/
theorem MoreBox.at {s : FShop} {p : Int} {x : List Int} {ml wl nl nB N2 gP : Nat} {ga : Addr} {gc : Nat} {ka : Option Addr} {kc : Nat} {fw : Addr} {fe : Nat} {us : List Value} {w : World} (h : MoreBox s p x ml wl nl nB N2 gP s.worlds.length ga gc ka kc fw fe us w) (hx : x.length = s.worlds.length)
    (hm : ml ≤ 40) (hw : wl ≤ 40) (hn : nl ≤ 40) (hxl : ∀ y ∈ s.worlds, y.length ≤ 40) : FAt w (some ga) (ml + 1) gc ka wl kc (some fw) nl fe (s.more p x) := by
  obtain ⟨-, -, h1, h2, -, h4, h5, -, -⟩ := h
  rw [moreTo_all _ _ hx] at h5
  refine ⟨h1.moulds (by unfold maxLen; omega), h5.old.lists h4 (by unfold maxLen; omega) (fun y hy => ?_), h2.ints (by unfold maxLen; omega)⟩
  obtain ⟨i, hi, rfl⟩ := List.mem_iff_getElem.1 hy
  have hi2 : i < s.worlds.length := by rwa [moreL_len _ _ hx] at hi
  rw [moreL_get hx i hi2, List.length_append, List.length_singleton]
  have := hxl _ (List.getElem_mem hi2)
  unfold maxLen; omega
/-- One world gets its cast: memory made (wP), append (wB), the row's header written. -/
theorem MoreBox.next {s : FShop} {p : Int} {x : List Int} {ml wl nl nB N2 gP k : Nat} {ga : Addr} {gc : Nat} {kg : Nat} {kc : Nat} {fw : Addr} {fe : Nat} {us : List Value} {w wP wB : World} (h : MoreBox s p x ml wl nl nB N2 gP k ga gc (some ⟨kg, 0, none⟩) kc fw fe us w) (hx : x.length = s.worlds.length) (hk : k < s.worlds.length) (hk2 : k < x.length)
    {ra : Addr} {rc : Nat} (hrow : us[k]? = some (.slice (some ra) s.worlds[k].length rc)) (hP : Below w.heap.size w wP) {R : Option Nat} {r2 : Addr} {c2 : Nat}
    (hF : FRow2 wB N2 3 1 (some r2) (s.worlds[k].length + 1) c2 (s.worlds[k].map (Value.int .i64) ++ [.int .i64 x[k]])) (hg : wP.grownBy wB R) (hR : ∀ r, R = some r → r = ra.block ∧ 0 < s.worlds[k].length) (hat : (r2.block = ra.block ∧ 0 < s.worlds[k].length) ∨ wP.heap.size ≤ r2.block) :
    MoreBox s p x ml wl nl nB N2 gP (k + 1) ga gc (some ⟨kg, 0, none⟩) kc fw fe (us.set k (.slice (some r2) (s.worlds[k].length + 1) c2)) (wB.setCell ⟨kg, k, none⟩ (.slice (some r2) (s.worlds[k].length + 1) c2)) := by
  obtain ⟨⟨c0, c1, c2', c3⟩, hI, hM, hW, hf, hO, hD, hn, hN⟩ := h
  have hkl : k < (moreTo s.worlds x k).length := by rw [moreTo_len _ _ hx k (by omega)]; exact hk
  have hDP := hD.kept (grown_none hP) (fun r e => by cases e)
  have hOP := hO.kept (grown_none hP) (Classical.em _)
  -- the row that append writes is a row of numbers at N2 or above
  have hRT : ∀ r, R = some r → N2 ≤ r ∧ ∃ c : Array Value, wP.heap[r]? = some (.cells c 3 (0, 0)) := by
    intro r hr
    obtain ⟨e1, h0⟩ := hR r hr
    obtain ⟨gb, cb, f1, f2⟩ := hDP.2.1 k hkl
    rw [hrow] at f1
    injection f1 with f1
    injection f1 with f3 f4 _
    injection f3 with f3
    subst f3
    obtain ⟨g, e2, ho⟩ := f2.1.2 (by omega)
    injection e2 with e2
    subst e2
    obtain ⟨h1, cur, h2⟩ := own_parts ho
    subst e1
    exact ⟨h1, cur, h2⟩
  have hRne : ∀ {e : TypeId}, 3 ≠ e → ∀ r, R = some r → (∃ (c : Array Value) (e' : TypeId), wP.heap[r]? = some (.cells c e' (0, 0)) ∧ e' ≠ e) := fun he r hr => by
    obtain ⟨-, c, h2⟩ := hRT r hr
    exact ⟨c, _, h2, he⟩
  have hIP := hI.below hP
  have hRg : ¬ some gP = R := fun e => by
    obtain ⟨-, c, h2⟩ := hRT gP e.symm
    obtain ⟨d, h3⟩ := hIP
    rw [h2] at h3
    injection h3 with h3
    injection h3 with _ h4
    exact absurd h4 (by decide)
  have hIB : IsC wB gP 26 := IsC.other hg hRg hIP
  have hOB : wB.ownsRow nB 24 1 (.slice (some ⟨kg, 0, none⟩) wl kc) wl us := hOP.kept hg (.inr fun e => by
    obtain ⟨-, c, h2⟩ := hRT kg (by rw [← e]; rfl)
    exact own_ne hOP ⟨c, h2⟩ (by decide) rfl)
  obtain ⟨hg0, cur, hc⟩ := own_parts hOB
  have hset : wB.grownBy (wB.setCell ⟨kg, k, none⟩ (.slice (some r2) (s.worlds[k].length + 1) c2)) (some kg) := gbx_set (gbx_refl _ _) _ _
  have hkne : ∀ {e : TypeId} {N : Nat}, 24 ≠ e → ∀ r, some kg = some r → (∃ (c : Array Value) (e' : TypeId), wB.heap[r]? = some (.cells c e' (0, 0)) ∧ e' ≠ e) ∨ r < N ∨ wB.heap.size ≤ r := fun he r hr => by
    injection hr with hr; subst hr; exact .inl ⟨cur, _, hc, he⟩
  have hgk : ¬ kg = gP := fun e => by
    subst e
    obtain ⟨d, h3⟩ := hIB
    rw [hc] at h3
    injection h3 with h3
    injection h3 with _ h4
    exact absurd h4 (by decide)
  have hcell : ∀ i, (wB.setCell ⟨kg, k, none⟩ (.slice (some r2) (s.worlds[k].length + 1) c2)).cell? ⟨gP, i, none⟩ = w.cell? ⟨gP, i, none⟩ := fun i =>
    (set_other (by intro e; injection e with e; exact hgk e)).trans (World.cell?_of_block (w := w) (a := ⟨gP, i, none⟩) ((hg.block gP (Nat.lt_of_lt_of_le hI.lt hP.size) hRg).trans (hP.block gP hI.lt)))
  refine ⟨⟨(hcell 0).trans c0, (hcell 1).trans c1, (hcell 2).trans c2', (hcell 3).trans c3⟩, IsC.other hset (fun e => hgk (by injection e with e; exact e.symm)) hIB, ?_, ?_, hf, own_set hOB k _, ?_, hn, ?_⟩
  · exact ((hM.kept (grown_none hP) (fun r e => by cases e)).kept hg (fun r hr => .inl (hRne (by decide) r hr))).kept hset (hkne (by decide))
  · refine ((hW.kept (grown_none hP) (fun r e => by cases e)).keptNe hg (fun g e h0 hr => ?_)).kept hset (hkne (by decide))
    injection e with e
    subst e
    have h1 := (hRT _ hr).1
    have h2 := hf h0
    omega
  · rw [moreTo_next _ _ hx k hk hk2]
    exact hDP.more (Nat.le_trans hN hP.size) k hkl ra r2 rc c2 s.worlds[k] x[k] (moreTo_get _ _ hx k hk) hrow hF R (some kg) hg hR hat hset (hkne (by decide))
  · have := hP.size
    have := hg.size
    have := hset.size
    omega
theorem LRow2.low {w : World} {n0 n1 : Nat} {vs : List Value} {xs : List (List Int)} (h : LRow2 w n0 vs xs) (hn : n1 ≤ n0) : LRow2 w n1 vs xs :=
  ⟨h.1, fun i hi => by obtain ⟨ga, c, h1, h2, h3⟩ := h.2 i hi; exact ⟨ga, c, h1, h2.low hn, h3⟩⟩
/-- The mould is appended, the box written: no cast yet. -/
theorem MoreBox.first {s : FShop} {p : Int} (x : List Int) {ml wl nl nB N2 gP : Nat} {ga : Addr} {gc : Nat} {ka : Option Addr} {kc : Nat} {fw fm : Addr} {fe fc : Nat} {us : List Value} {U2 U3 wA : World} {u0 : Value}
    (hc1 : U2.cell? ⟨gP, 1, none⟩ = some (.slice ka wl kc)) (hc2 : U2.cell? ⟨gP, 2, none⟩ = some (.slice (some fw) nl fe)) (hc3 : U2.cell? ⟨gP, 3, none⟩ = some (.int .i64 s.fresh)) (hI : IsC U2 gP 26)
    (hM : FRow2 U2 nB 48 3 (some fm) ml fc (s.moulds.flatMap Mould.cells)) (hW : FRow2 U2 nB 3 1 (some fw) nl fe (s.wants.map (Value.int .i64))) (hf : 0 < nl → fw.block < N2) (hO : U2.ownsRow nB 24 1 (.slice ka wl kc) wl us) (hL : LRow2 U2 N2 us s.worlds) (hn : nB ≤ N2) (hn2 : nB ≤ U2.heap.size)
    (hP : Below U2.heap.size U2 U3) {R : Option Nat} (hF : FRow2 wA nB 48 3 (some ga) (ml + 1) gc (s.moulds.flatMap Mould.cells ++ [.int .i64 p, .int .i64 0, .int .i64 0])) (hg : U3.grownBy wA R) (hR : ∀ r, R = some r → r = fm.block ∧ 0 < ml) (h0 : wA.cell? ⟨gP, 0, none⟩ = some u0) :
    MoreBox s p x ml wl nl nB (min N2 U2.heap.size) gP 0 ga gc ka kc fw fe us (wA.setCell ⟨gP, 0, none⟩ (.slice (some ga) (ml + 1) gc)) := by
  have hRT : ∀ r, R = some r → ∃ c : Array Value, U3.heap[r]? = some (.cells c 48 (0, 0)) := by
    intro r hr
    obtain ⟨e1, h1⟩ := hR r hr
    obtain ⟨g, e2, ho⟩ := (hM.kept (grown_none hP) (fun r e => by cases e)).1.2 h1
    injection e2 with e2
    subst e2
    obtain ⟨-, cur, h2⟩ := own_parts ho
    subst e1
    exact ⟨cur, h2⟩
  have hRne : ∀ {e : TypeId}, 48 ≠ e → ∀ r, R = some r → (∃ (c : Array Value) (e' : TypeId), U3.heap[r]? = some (.cells c e' (0, 0)) ∧ e' ≠ e) := fun he r hr => by
    obtain ⟨c, h2⟩ := hRT r hr
    exact ⟨c, _, h2, he⟩
  have hIP := hI.below hP
  have hRg : ¬ some gP = R := fun e => by
    obtain ⟨c, h2⟩ := hRT gP e.symm
    obtain ⟨d, h3⟩ := hIP
    rw [h2] at h3
    injection h3 with h3
    injection h3 with _ h4
    exact absurd h4 (by decide)
  have hIA : IsC wA gP 26 := IsC.other hg hRg hIP
  have hOP := hO.kept (grown_none hP) (Classical.em _)
  have hset : wA.grownBy (wA.setCell ⟨gP, 0, none⟩ (.slice (some ga) (ml + 1) gc)) (some gP) := gbx_set (gbx_refl _ _) _ _
  have hsne : ∀ {e : TypeId} {N : Nat}, 26 ≠ e → ∀ r, some gP = some r → (∃ (c : Array Value) (e' : TypeId), wA.heap[r]? = some (.cells c e' (0, 0)) ∧ e' ≠ e) ∨ r < N ∨ wA.heap.size ≤ r := fun he r hr => by
    injection hr with hr; subst hr; exact .inl ⟨hIA.choose, _, hIA.choose_spec, he⟩
  have hOA : wA.ownsRow nB 24 1 (.slice ka wl kc) wl us := hOP.kept hg (by
    rcases hv : (Value.slice ka wl kc).ownBlock with - | r
    · exact .inl rfl
    · refine .inr fun e => ?_
      obtain ⟨c, h2⟩ := hRT r e.symm
      exact own_ne hOP ⟨c, h2⟩ (by decide) hv.symm)
  have hcell : ∀ i, ¬ i = 0 → (wA.setCell ⟨gP, 0, none⟩ (.slice (some ga) (ml + 1) gc)).cell? ⟨gP, i, none⟩ = U2.cell? ⟨gP, i, none⟩ := fun i hi =>
    (set_other (by intro e; injection e with _ e; exact hi e.symm)).trans (World.cell?_of_block (w := U2) (a := ⟨gP, i, none⟩) ((hg.block gP (Nat.lt_of_lt_of_le hI.lt hP.size) hRg).trans (hP.block gP hI.lt)))
  have hcs : s.moulds.flatMap Mould.cells ++ [.int .i64 p, .int .i64 0, .int .i64 0] = (s.moulds ++ [(⟨p, 0, 0⟩ : Mould)]).flatMap Mould.cells := by rw [List.flatMap_append]; rfl
  rw [hcs] at hF
  refine ⟨⟨set_same h0, (hcell 1 (by decide)).trans hc1, (hcell 2 (by decide)).trans hc2, (hcell 3 (by decide)).trans hc3⟩, hIA.set _, hF.1.kept hset (hsne (by decide)), ?_, fun h => ?_, hOA.kept hset (.inr fun e => own_ne hOA hIA (by decide) e.symm), ?_, by omega, ?_⟩
  · exact ((hW.1.kept (grown_none hP) (fun r e => by cases e)).kept hg (fun r hr => .inl (hRne (by decide) r hr))).kept hset (hsne (by decide))
  · have := hf h
    have := hW.blt h
    omega
  · rw [moreTo_zero]
    exact (((hL.low (Nat.min_le_left _ _)).kept (grown_none hP) (fun r e => by cases e)).kept hg (fun r hr => .inl (hRne (by decide) r hr))).apart.kept hset (hsne (by decide))
  · have := hP.size
    have := hg.size
    have := hset.size
    omega
end Go.Proofs.Ytigeiaiohdemiaa
