/- Package pages: lay, whole. -/
import Derived.Test.YtcklhojeneejiaaZG
namespace Go.Proofs.Ytcklhojeneejiaa
set_option linter.unusedVariables false
set_option linter.unusedSimpArgs false
open Go.RowKit Go.Shelf

attribute [local go_sem] Oper.semAt_some

theorem KeepsUp.low {N n : Nat} {w w1 w2 : World} (h : KeepsUp N w w1) (hb : Below n w1 w2) (hn : w.heap.size ≤ n) : KeepsUp N w w2 :=
  ⟨Nat.le_trans h.1 hb.size, fun k h1 h2 => (hb.block k (by omega)).trans (h.2 k h1 h2)⟩
theorem colAt_snoc (ls : List T3) (s : T3) (i : Nat) : colAt (ls ++ [s]) i = if i = ls.length then s else colAt ls i := by
  unfold colAt
  by_cases h : i < ls.length
  · rw [List.getElem?_append_left h, if_neg (by omega)]
  · rw [List.getElem?_append_right (by omega)]
    by_cases h2 : i = ls.length
    · subst h2; simp
    · rw [if_neg h2, List.getElem?_eq_none (by simp; omega), List.getElem?_eq_none (by omega)]

theorem LayBox.set3 {f : PFrame} {sa : Option Addr} {sl sc : Nat} {pa : Option Addr} {pl pc : Nat} {ca : Option Addr} {cl cc : Nat} {bg bg' : List T3} {k : Int} {ra : Option Addr} {rl rc : Nat} {left x : T3} {l B : Nat} {w : World} (h : LayBox f sa sl sc pa pl pc ca cl cc bg k ra rl rc left l B w)
    {j j0 j1 j2 : Nat} (hj : j = 0 ∧ j0 = 0 ∧ j1 = 1 ∧ j2 = 2 ∨ j = 1 ∧ j0 = 3 ∧ j1 = 4 ∧ j2 = 5 ∨ j = 2 ∧ j0 = 6 ∧ j1 = 7 ∧ j2 = 8) (hb : ∀ i, colAt bg' i = if i = j then x else colAt bg i) :
    LayBox f sa sl sc pa pl pc ca cl cc bg' k ra rl rc left l B (((w.setCell ⟨B + 1, j0, none⟩ (.int .i64 x.a)).setCell ⟨B + 1, j1, none⟩ (.int .i64 x.b)).setCell ⟨B + 1, j2, none⟩ (.int .i64 x.c)) ∧
    w.grownBy (((w.setCell ⟨B + 1, j0, none⟩ (.int .i64 x.a)).setCell ⟨B + 1, j1, none⟩ (.int .i64 x.b)).setCell ⟨B + 1, j2, none⟩ (.int .i64 x.c)) (some (B + 1)) := by
  have hg : w.grownBy (((w.setCell ⟨B + 1, j0, none⟩ (.int .i64 x.a)).setCell ⟨B + 1, j1, none⟩ (.int .i64 x.b)).setCell ⟨B + 1, j2, none⟩ (.int .i64 x.c)) (some (B + 1)) := gbx_set (gbx_set (gbx_set (gbx_refl _ _) _ _) _ _) _ _
  refine ⟨?_, hg⟩
  obtain ⟨h0, h1, ⟨h2, h2f⟩, h3, h4, h5, h6, h7, h7f⟩ := h
  have hc : ∀ b i, b ≠ B + 1 → b < w.heap.size → (((w.setCell ⟨B + 1, j0, none⟩ (.int .i64 x.a)).setCell ⟨B + 1, j1, none⟩ (.int .i64 x.b)).setCell ⟨B + 1, j2, none⟩ (.int .i64 x.c)).cell? ⟨b, i, none⟩ = w.cell? ⟨b, i, none⟩ := fun b i h1 h2 => World.cell?_of_block (w := w) (a := ⟨b, i, none⟩) (hg.block b h2 (by simp; exact h1))
  have hf : ∀ b i, b ≠ B + 1 → b < w.heap.size → (((w.setCell ⟨B + 1, j0, none⟩ (.int .i64 x.a)).setCell ⟨B + 1, j1, none⟩ (.int .i64 x.b)).setCell ⟨B + 1, j2, none⟩ (.int .i64 x.c)).frozen? ⟨b, i, none⟩ = w.frozen? ⟨b, i, none⟩ := fun b i h1 h2 => World.frozen?_of_block (w := w) (a := ⟨b, i, none⟩) (hg.block b h2 (by simp; exact h1))
  refine ⟨by simpa using h0, fun i => (hc _ i (by omega) (by omega)).trans (h1 i), ⟨fun i => ?_, fun i => set_frz (set_frz (set_frz (h2f i)))⟩, (hc _ _ (by omega) (by omega)).trans h3, (hc _ _ (by omega) (by omega)).trans h4,
    fun i => (hc _ i (by omega) (by omega)).trans (h5 i), (hc _ _ (by omega) (by omega)).trans h6, (hc _ _ (by omega) (by omega)).trans h7, (hf _ _ (by omega) (by omega)).trans h7f⟩
  have e : ∀ i, (cells9 bg')[i]? = if i = j0 then some (.int .i64 x.a) else if i = j1 then some (.int .i64 x.b) else if i = j2 then some (.int .i64 x.c) else (cells9 bg)[i]? := by
    intro i
    unfold cells9
    simp only [hb]
    rcases hj with ⟨rfl, rfl, rfl, rfl⟩ | ⟨rfl, rfl, rfl, rfl⟩ | ⟨rfl, rfl, rfl, rfl⟩ <;>
      (rcases i with _ | _ | _ | _ | _ | _ | _ | _ | _ | i <;> simp)
  rw [e]
  have hs : ∀ i, i < 9 → ∃ u, w.cell? ⟨B + 1, i, none⟩ = some u := fun i hi => ⟨(cells9 bg)[i]'(by simp [cells9]; omega), by rw [h2 i]; exact Array.getElem?_eq_getElem _⟩
  obtain ⟨u0, hu0⟩ := hs j0 (by omega)
  obtain ⟨u1, hu1⟩ := hs j1 (by omega)
  obtain ⟨u2, hu2⟩ := hs j2 (by omega)
  by_cases c0 : i = j0
  · rw [if_pos c0, c0, set_cell' (by omega), set_cell' (by omega)]; exact set_cell hu0
  · rw [if_neg c0]
    by_cases c1 : i = j1
    · rw [if_pos c1, c1, set_cell' (by omega)]; exact set_cell ((set_cell' (by omega)).trans hu1)
    · rw [if_neg c1]
      by_cases c2 : i = j2
      · rw [if_pos c2, c2]; exact set_cell ((set_cell' (by omega)).trans ((set_cell' (by omega)).trans hu2))
      · rw [if_neg c2, set_cell' (by omega), set_cell' (by omega), set_cell' (by omega)]; exact h2 i
theorem T3At.of {w w' : World} {g : Nat} {t : T3} (h : T3At w g t) (e : w'.heap[g]? = w.heap[g]?) : T3At w' g t :=
  ⟨⟨(World.cell?_of_block (w := w) (a := ⟨g, 0, none⟩) e).trans h.1.1, (World.cell?_of_block (w := w) (a := ⟨g, 1, none⟩) e).trans h.1.2.1, (World.cell?_of_block (w := w) (a := ⟨g, 2, none⟩) e).trans h.1.2.2⟩, fun i => (World.frozen?_of_block (w := w) (a := ⟨g, i, none⟩) e).trans (h.2 i)⟩

/-- What lay's loop keeps, some sets having come. -/
def LayI (f : PFrame) (sa : Option Addr) (sl sc : Nat) (pa : Option Addr) (pl pc : Nat) (ca : Option Addr) (cl cc : Nat) (N : Nat) (J : List (List T3) → World → Prop) (begun : List T3) (k : Nat) (ra : Option Addr) (rl rc : Nat) (left : T3) (lo hi : Int) (l B bl bf br : Nat) (pre : List (List T3)) (news : T3 → List (List T3)) (W : World) (sets : List T3) (w : World) : Prop :=
  J (pre ++ sets.flatMap news) w ∧ (∃ bg, LayBox f sa sl sc pa pl pc ca cl cc bg k ra rl rc left l B w ∧ ∀ i, i ≠ k → colAt bg i = colAt begun i) ∧ KeepsUp N W w ∧
  (∀ i, w.cell? ⟨bf, i, none⟩ = (#[.int .i64 f.len, .int .i64 f.slack, .slice sa sl sc, .slice pa pl pc, .slice ca cl cc] : Array Value)[i]?) ∧ (∀ i, w.cell? ⟨bl, i, none⟩ = (#[.int .i64 left.a, .int .i64 left.b, .int .i64 left.c] : Array Value)[i]?) ∧ (∀ i, w.cell? ⟨br, i, none⟩ = (#[.int .i64 lo, .int .i64 hi] : Array Value)[i]?)
/-- .. and where a round has said no. -/
def LayX (f : PFrame) (sa : Option Addr) (sl sc : Nat) (pa : Option Addr) (pl pc : Nat) (ca : Option Addr) (cl cc : Nat) (N : Nat) (Stop : World → Prop) (left : T3) (lo hi : Int) (B bl bf br : Nat) (W w : World) : Prop :=
  Stop w ∧ KeepsUp N W w ∧ w.cell? ⟨B + 1 + 1 + 1 + 1 + 1 + 1, 0, none⟩ = some (.bool false) ∧
  (∀ i, w.cell? ⟨bf, i, none⟩ = (#[.int .i64 f.len, .int .i64 f.slack, .slice sa sl sc, .slice pa pl pc, .slice ca cl cc] : Array Value)[i]?) ∧ (∀ i, w.cell? ⟨bl, i, none⟩ = (#[.int .i64 left.a, .int .i64 left.b, .int .i64 left.c] : Array Value)[i]?) ∧ (∀ i, w.cell? ⟨br, i, none⟩ = (#[.int .i64 lo, .int .i64 hi] : Array Value)[i]?)

set_option maxRecDepth 100000 in
set_option maxHeartbeats 16000000 in
theorem lay_step (f : PFrame) (sa : Option Addr) (sl sc : Nat) (pa : Option Addr) (pl pc : Nat) (ca : Option Addr) (cl cc : Nat) (ho : f.ok = true) (l N : Nat) (J : List (List T3) → World → Prop) (Stop : World → Prop)
    (hJ : ∀ pre W1 W2, J pre W1 → Below N W1 W2 → J pre W2) (hStop : ∀ W1 W2, Stop W1 → Below N W1 W2 → Stop W2) (hEnv : ∀ pre W, J pre W → PAt W sa sl sc pa pl pc ca cl cc f) (hEnvS : ∀ W, Stop W → PAt W sa sl sc pa pl pc ca cl cc f)
    (ra : Option Addr) (rl rc : Nat) (rooms : List (Int × Int)) (hrl3 : rl ≤ 3) (k : Nat) (hk : k < rooms.length) (begun : List T3) (hbl : begun.length = k) (left : T3) (hl : fewS left) (pre : List (List T3)) (news : T3 → List (List T3)) (W : World)
    (hJp : J pre W) (hN : N ≤ W.heap.size) (hro : RoomsAt N W ra rl rooms)
    (IH : ∀ (s : T3) (pre : List (List T3)) (W : World), s ∈ f.setsOf left rooms[k] → J pre W → N ≤ W.heap.size → RoomsAt N W ra rl rooms →
      Calls Try.prog 117 #[.agg #[.int .i64 f.len, .int .i64 f.slack, .slice sa sl sc, .slice pa pl pc, .slice ca cl cc], .agg (cells9 (begun ++ [s])), .int .i64 ((k : Int) + 1), .slice ra rl rc, .agg #[.int .i64 (subS left s).a, .int .i64 (subS left s).b, .int .i64 (subS left s).c], .func (.yield l) #[] #[]] W (LayPost N J Stop pre (news s) W)) :
    Calls Try.prog 117 #[.agg #[.int .i64 f.len, .int .i64 f.slack, .slice sa sl sc, .slice pa pl pc, .slice ca cl cc], .agg (cells9 begun), .int .i64 k, .slice ra rl rc, .agg #[.int .i64 left.a, .int .i64 left.b, .int .i64 left.c], .func (.yield l) #[] #[]] W (LayPost N J Stop pre ((f.setsOf left rooms[k]).flatMap news) W) := by
  obtain ⟨W0, hW0, hB0, hbx, hz0⟩ := lay_boxes f sa sl sc pa pl pc ca cl cc begun (k : Int) ra rl rc left l W
  have hrl := hro.1
  obtain ⟨rb, rfl, hrN, hrb, hrc⟩ := hro.2 (by omega)
  have hr0 := hB0.cell (p := ⟨rb, k * 2, none⟩) hrb |>.trans (hrc k hk).1
  have hr1 := hB0.cell (p := ⟨rb, k * 2 + 1, none⟩) hrb |>.trans (hrc k hk).2
  obtain ⟨⟨lo, hi⟩, hrk⟩ : ∃ r, rooms[k] = r := ⟨_, rfl⟩
  rw [hrk] at hr0 hr1 IH ⊢
  simp only at hr0 hr1
  have hJ0 := hJ _ _ _ hJp (hB0.mono hN)
  have HBX := Lib.hid hbx
  obtain ⟨hx0, b0, ⟨b1, b1f⟩, b2, b3, b4, b5, b6, b6f⟩ := hbx
  obtain ⟨x0, x1, x2, x3, x4⟩ : W0.cell? ⟨W.heap.size, 0, none⟩ = some (.int .i64 f.len) ∧ W0.cell? ⟨W.heap.size, 1, none⟩ = some (.int .i64 f.slack) ∧ W0.cell? ⟨W.heap.size, 2, none⟩ = some (.slice sa sl sc) ∧ W0.cell? ⟨W.heap.size, 3, none⟩ = some (.slice pa pl pc) ∧ W0.cell? ⟨W.heap.size, 4, none⟩ = some (.slice ca cl cc) := ⟨b0 0, b0 1, b0 2, b0 3, b0 4⟩
  obtain ⟨z0, z1, z2⟩ : W0.cell? ⟨W.heap.size + 1 + 1 + 1 + 1, 0, none⟩ = some (.int .i64 left.a) ∧ W0.cell? ⟨W.heap.size + 1 + 1 + 1 + 1, 1, none⟩ = some (.int .i64 left.b) ∧ W0.cell? ⟨W.heap.size + 1 + 1 + 1 + 1, 2, none⟩ = some (.int .i64 left.c) := ⟨b4 0, b4 1, b4 2⟩
  have HB0 := Lib.hid hB0
  have HST := Lib.hid hStop
  have HJ := Lib.hid hJ
  have HJ0 := Lib.hid hJ0
  have HE := Lib.hid hEnv
  have HES := Lib.hid hEnvS
  have HRO := Lib.hid hro
  have HIH := Lib.hid IH
  have HSE := Lib.hid (fun w1 => sets_any f sa sl sc pa pl pc ca cl cc left lo hi w1)
  have hkr : (k : Int) < (rl : Int) := by omega
  have hk0 : (0 : Int) ≤ (k : Int) := by omega
  have hkne : ¬ (k : Int) = (rl : Int) := by omega
  have e1 : ((k : Int) == (rl : Int)) = false := by simp; omega
  clear hJ0 hB0 hJp hJ hStop hEnv hEnvS b0 b1 b1f b4 b5 b6 b6f IH hro hrc
  refine (callsIn_wide (n := 14)).1 ?_
  refine callsIn_of_wp_marks Try.func117 rfl trivial ?_ rfl
  simp only [Try.ntmps117, List.size_toArray, List.length_cons, List.length_nil, Nat.reduceAdd, Nat.reduceSub, Array.replicate_succ, Array.replicate_zero, List.push_toArray, List.append_toArray, List.nil_append, List.cons_append]
  gi_upto_region 1 with fail
  try rw [hW0]
  clear hW0
  gi_upto_region 3 with fail
  gi_cut [27] from 43 (fun v27 wx => ∃ bl bf br, v27 = .func (.func 129) #[] #[.pointer (some ⟨bl, 0, none⟩), .pointer (some ⟨bf, 0, none⟩), .pointer (some ⟨br, 0, none⟩)] ∧ Below W0.heap.size W0 wx ∧
    (W0.heap.size ≤ bl ∧ W0.heap.size ≤ bf ∧ W0.heap.size ≤ br) ∧ (bl < wx.heap.size ∧ bf < wx.heap.size ∧ br < wx.heap.size) ∧ (∀ i, wx.cell? ⟨bf, i, none⟩ = (#[.int .i64 f.len, .int .i64 f.slack, .slice sa sl sc, .slice pa pl pc, .slice ca cl cc] : Array Value)[i]?) ∧ (∀ i, wx.cell? ⟨bl, i, none⟩ = (#[.int .i64 left.a, .int .i64 left.b, .int .i64 left.c] : Array Value)[i]?) ∧ (∀ i, wx.cell? ⟨br, i, none⟩ = (#[.int .i64 lo, .int .i64 hi] : Array Value)[i]?))
  case first =>
    refine wpIn_wide.2 ?_
    go_region_held3 (fun w' => (w'.cell? ⟨W.heap.size, 0, none⟩ = some (.int .i64 f.len) ∧ w'.cell? ⟨W.heap.size, 1, none⟩ = some (.int .i64 f.slack) ∧ w'.cell? ⟨W.heap.size, 2, none⟩ = some (.slice sa sl sc) ∧ w'.cell? ⟨W.heap.size, 3, none⟩ = some (.slice pa pl pc) ∧ w'.cell? ⟨W.heap.size, 4, none⟩ = some (.slice ca cl cc) ∧ w'.cell? ⟨W.heap.size + 1 + 1, 0, none⟩ = some (.int .i64 (k : Int)) ∧ w'.cell? ⟨W.heap.size + 1 + 1 + 1, 0, none⟩ = some (.slice (some ⟨rb, 0, none⟩) rl rc) ∧ w'.cell? ⟨W.heap.size + 1 + 1 + 1 + 1, 0, none⟩ = some (.int .i64 left.a) ∧ w'.cell? ⟨W.heap.size + 1 + 1 + 1 + 1, 1, none⟩ = some (.int .i64 left.b) ∧ w'.cell? ⟨W.heap.size + 1 + 1 + 1 + 1, 2, none⟩ = some (.int .i64 left.c) ∧ w'.cell? ⟨rb, k * 2, none⟩ = some (.int .i64 lo) ∧ w'.cell? ⟨rb, k * 2 + 1, none⟩ = some (.int .i64 hi)) ∧ Below W0.heap.size W0 w')
      (first | with_reducible assumption | exact ⟨⟨x0, x1, x2, x3, x4, b2, b3, z0, z1, z2, hr0, hr1⟩, (by repeat (first | exact Below.refl _ _ | (refine Below.alloc ?_ (by first | omega | (simp; omega) | simp) _) | (refine Below.setCell ?_ (by first | omega | (simp; omega) | simp) _) | refine Below.drew ?_))⟩)
      (first
        | (go_at_call 125; with_reducible refine (HSE.out _).mono ?_; rintro e w2 ⟨bl, bf, br, rfl, hb2, hlow, hrest⟩; have kB : Below W0.heap.size W0 w2 := ((by repeat (first | exact Below.refl _ _ | (refine Below.alloc ?_ (by first | omega | (simp; omega) | simp) _) | (refine Below.setCell ?_ (by first | omega | (simp; omega) | simp) _) | refine Below.drew ?_)) : Below W0.heap.size W0 _).trans (hb2.mono (Nat.le_refl _)); have kA : (w2.cell? ⟨W.heap.size, 0, none⟩ = some (.int .i64 f.len) ∧ w2.cell? ⟨W.heap.size, 1, none⟩ = some (.int .i64 f.slack) ∧ w2.cell? ⟨W.heap.size, 2, none⟩ = some (.slice sa sl sc) ∧ w2.cell? ⟨W.heap.size, 3, none⟩ = some (.slice pa pl pc) ∧ w2.cell? ⟨W.heap.size, 4, none⟩ = some (.slice ca cl cc) ∧ w2.cell? ⟨W.heap.size + 1 + 1, 0, none⟩ = some (.int .i64 (k : Int)) ∧ w2.cell? ⟨W.heap.size + 1 + 1 + 1, 0, none⟩ = some (.slice (some ⟨rb, 0, none⟩) rl rc) ∧ w2.cell? ⟨W.heap.size + 1 + 1 + 1 + 1, 0, none⟩ = some (.int .i64 left.a) ∧ w2.cell? ⟨W.heap.size + 1 + 1 + 1 + 1, 1, none⟩ = some (.int .i64 left.b) ∧ w2.cell? ⟨W.heap.size + 1 + 1 + 1 + 1, 2, none⟩ = some (.int .i64 left.c) ∧ w2.cell? ⟨rb, k * 2, none⟩ = some (.int .i64 lo) ∧ w2.cell? ⟨rb, k * 2 + 1, none⟩ = some (.int .i64 hi)) ∧ Below W0.heap.size W0 w2 := ⟨⟨(kB.cell (p := ⟨W.heap.size, 0, none⟩) (by first | omega | (show W.heap.size < _; omega))).trans x0, (kB.cell (p := ⟨W.heap.size, 1, none⟩) (by first | omega | (show W.heap.size < _; omega))).trans x1, (kB.cell (p := ⟨W.heap.size, 2, none⟩) (by first | omega | (show W.heap.size < _; omega))).trans x2, (kB.cell (p := ⟨W.heap.size, 3, none⟩) (by first | omega | (show W.heap.size < _; omega))).trans x3, (kB.cell (p := ⟨W.heap.size, 4, none⟩) (by first | omega | (show W.heap.size < _; omega))).trans x4, (kB.cell (p := ⟨W.heap.size + 1 + 1, 0, none⟩) (by first | omega | (show W.heap.size + 1 + 1 < _; omega))).trans b2, (kB.cell (p := ⟨W.heap.size + 1 + 1 + 1, 0, none⟩) (by first | omega | (show W.heap.size + 1 + 1 + 1 < _; omega))).trans b3, (kB.cell (p := ⟨W.heap.size + 1 + 1 + 1 + 1, 0, none⟩) (by first | omega | (show W.heap.size + 1 + 1 + 1 + 1 < _; omega))).trans z0, (kB.cell (p := ⟨W.heap.size + 1 + 1 + 1 + 1, 1, none⟩) (by first | omega | (show W.heap.size + 1 + 1 + 1 + 1 < _; omega))).trans z1, (kB.cell (p := ⟨W.heap.size + 1 + 1 + 1 + 1, 2, none⟩) (by first | omega | (show W.heap.size + 1 + 1 + 1 + 1 < _; omega))).trans z2, (kB.cell (p := ⟨rb, k * 2, none⟩) (by first | omega | (show rb < _; omega))).trans hr0, (kB.cell (p := ⟨rb, k * 2 + 1, none⟩) (by first | omega | (show rb < _; omega))).trans hr1⟩, kB⟩; have HL := Lib.hid hlow; have HR := Lib.hid hrest; clear hb2 hlow hrest)
        )
    all_goals (go_wp2_with fail; go_meet; exact ⟨_, _, _, rfl, kB, HL.out, HR.out⟩)
  case rest =>
  obtain ⟨bl, bf, br, rfl, hB1, hlow, hhigh, hcf, hcl, hcr⟩ := hcut
  obtain ⟨w1, rfl⟩ : ∃ w1 : World, w1 = wc := ⟨_, rfl⟩
  clear x0 x1 x2 x3 x4 b2 b3 z0 z1 z2 hr0 hr1
  gi_wp2_with fail
  have hz1 := hB1.size
  have HB1 := Lib.hid hB1
  have hW1 : W.heap.size + 7 ≤ w1.heap.size := by omega
  have HCF := Lib.hid hcf
  have HCL := Lib.hid hcl
  have HCR := Lib.hid hcr
  refine wpIn_rangeUp (sets1_it f sa sl sc pa pl pc ca cl cc ho left hl lo hi bl bf br) rfl (enters_of Try.func129 (by kernel_rfl) rfl) (fun _ => rfl)
    (LayI f sa sl sc pa pl pc ca cl cc N J begun k (some ⟨rb, 0, none⟩) rl rc left lo hi l W.heap.size bl bf br pre news W) (LayX f sa sl sc pa pl pc ca cl cc N Stop left lo hi W.heap.size bl bf br W) ?hI ?hIx ?hEnv ?hIxE ?h0
    (fun x a' wx => ∃ b13, a' = { tmps := List.toArray ((.agg #[.int .i64 f.len, .int .i64 f.slack, .slice sa sl sc, .slice pa pl pc, .slice ca cl cc]) :: (.agg (cells9 begun)) :: (.int .i64 k) :: (.slice (some ⟨rb, 0, none⟩) rl rc) :: (.agg #[.int .i64 left.a, .int .i64 left.b, .int .i64 left.c]) :: (.func (.yield l) #[] #[]) :: (.pointer (some ⟨W.heap.size, 0, none⟩)) :: (.pointer (some ⟨W.heap.size + 1, 0, none⟩)) :: (.pointer (some ⟨W.heap.size + 1 + 1, 0, none⟩)) :: (.pointer (some ⟨W.heap.size + 1 + 1 + 1, 0, none⟩)) :: (.pointer (some ⟨W.heap.size + 1 + 1 + 1 + 1, 0, none⟩)) :: (.pointer (some ⟨W.heap.size + 1 + 1 + 1 + 1 + 1, 0, none⟩)) :: (.pointer (some ⟨W.heap.size + 1 + 1 + 1 + 1 + 1 + 1, 0, none⟩)) :: (.pointer (some ⟨b13, 0, none⟩)) :: (.int .i64 k) :: (.slice (some ⟨rb, 0, none⟩) rl rc) :: (.int .i64 rl) :: (.bool false) :: (undef) :: (undef) :: (undef) :: (u21) :: (u22) :: (u23) :: (u24) :: (u25) :: (u26) :: (.func (.func 129) #[] #[.pointer (some ⟨bl, 0, none⟩), .pointer (some ⟨bf, 0, none⟩), .pointer (some ⟨br, 0, none⟩)]) :: (.agg #[.int .i64 x.a, .int .i64 x.b, .int .i64 x.c]) :: (undef) :: (undef) :: (undef) :: (undef) :: (undef) :: (undef) :: (undef) :: (undef) :: (undef) :: (undef) :: (undef) :: (undef) :: (undef) :: (undef) :: []), defers := [] } ∧ w1.heap.size + 2 ≤ b13 ∧ T3At wx b13 x) ?hAx ?assign ?body ?done ?stop
  case hI =>
    rintro s W1 W2 ⟨h1, ⟨bg, h2, h2'⟩, h3, h4, h5, h6⟩ hb
    exact ⟨HJ.out _ _ _ h1 (hb.mono (by omega)), ⟨bg, h2.of hb.size (fun j _ hj => hb.block j (by omega)), h2'⟩, h3.low hb (by omega), fun i => (hb.cell (p := ⟨bf, i, none⟩) hhigh.2.1).trans (h4 i), fun i => (hb.cell (p := ⟨bl, i, none⟩) hhigh.1).trans (h5 i), fun i => (hb.cell (p := ⟨br, i, none⟩) hhigh.2.2).trans (h6 i)⟩
  case hIx =>
    rintro W1 W2 ⟨h1, h2, h3, h4, h5, h6⟩ hb
    exact ⟨HST.out _ _ h1 (hb.mono (by omega)), h2.low hb (by omega), (hb.cell (p := ⟨_, 0, none⟩) (by show W.heap.size + 1 + 1 + 1 + 1 + 1 + 1 < _; omega)).trans h3, fun i => (hb.cell (p := ⟨bf, i, none⟩) hhigh.2.1).trans (h4 i), fun i => (hb.cell (p := ⟨bl, i, none⟩) hhigh.1).trans (h5 i), fun i => (hb.cell (p := ⟨br, i, none⟩) hhigh.2.2).trans (h6 i)⟩
  case hIxE =>
    rintro W1 ⟨h1, -, -, h4, h5, h6⟩
    exact ⟨HES.out _ h1, h4, h5, h6⟩
  case hEnv =>
    rintro s W1 ⟨h1, -, -, h4, h5, h6⟩
    exact ⟨HE.out _ _ h1, h4, h5, h6⟩
  case h0 =>
    exact ⟨by simpa using HJ.out _ _ _ HJ0.out (HB1.out.mono (by omega)), ⟨begun, HBX.out.of hz1 (fun j _ hj => HB1.out.block j (by omega)), fun _ _ => rfl⟩, (KeepsUp.below HB0.out).trans (KeepsUp.below HB1.out), hcf, hcl, hcr⟩
  case hAx =>
    rintro x a' W1 W2 ⟨b13, rfl, h1, h2⟩ hk2
    have hlt := h2.lt
    exact ⟨b13, rfl, h1, ⟨⟨(hk2.cell h1 hlt 0).trans h2.1.1, (hk2.cell h1 hlt 1).trans h2.1.2.1, (hk2.cell h1 hlt 2).trans h2.1.2.2⟩, fun i => (hk2.frozen h1 hlt i).trans (h2.2 i)⟩⟩
  case assign =>
    intro l' x W1 K hz hK
    unfold encS
    gi_wp2
    refine hK _ _ ?_ ⟨W1.heap.size, rfl, hz, ?_⟩
    · exact (by repeat (first | exact Below.refl _ _ | (refine Below.alloc ?_ (by first | omega | (simp; omega) | simp) _) | (refine Below.setCell ?_ (by first | omega | (simp; omega) | simp) _) | refine Below.drew ?_))
    · refine ⟨⟨?_, ?_, ?_⟩, fun i => by go_simp⟩
      all_goals (rw [World.cell?_alloc_new]; rfl)
  case body =>
    rintro l' sets x a' W1 hz ⟨h1, ⟨bg, hbx1, hbg⟩, hup, h4, h5, h6⟩ hgood ⟨b13, rfl, h13, ht⟩
    have hmem : x ∈ f.setsOf left (lo, hi) := hgood
    have hgood : leS x left := mem_allS.1 (List.mem_filter.1 hmem).1
    have HBX1 := Lib.hid hbx1
    obtain ⟨q0, q1, ⟨q2, q2f⟩, q3, q4, q5, q6, q7, q7f⟩ := hbx1
    have ht2 := ht.1
    obtain ⟨t0, t1, t2⟩ := ht2
    have HT := Lib.hid ht
    have HUP := Lib.hid hup
    have H1 := Lib.hid h1
    have HBG := Lib.hid hbg
    have H4 := Lib.hid h4
    have H5 := Lib.hid h5
    have H6 := Lib.hid h6
    clear h1 hup h4 h5 h6 hbg ht
    gi_upto_region 5 with fail
    gi_cut [] from 43 (fun wx => LayBox f sa sl sc pa pl pc ca cl cc (begun ++ [x]) k (some ⟨rb, 0, none⟩) rl rc left l W.heap.size wx ∧ W1.grownBy wx (some (W.heap.size + 1)))
    case first =>
      have y0 := q2 0
      have y1 := q2 1
      have y2 := q2 2
      have y3 := q2 3
      have y4 := q2 4
      have y5 := q2 5
      have y6 := q2 6
      have y7 := q2 7
      have y8 := q2 8
      unfold cells9 at y0 y1 y2 y3 y4 y5 y6 y7 y8
      simp only [List.getElem?_toArray, List.getElem?_cons_zero, List.getElem?_cons_succ] at y0 y1 y2 y3 y4 y5 y6 y7 y8
      have g0 := q2f 0
      have g1 := q2f 1
      have g2 := q2f 2
      have g3 := q2f 3
      have g4 := q2f 4
      have g5 := q2f 5
      have g6 := q2f 6
      have g7 := q2f 7
      have g8 := q2f 8
      have hk3 : k = 0 ∨ k = 1 ∨ k = 2 := by omega
      clear q1 q2 q2f q4 q5 q6 q7 q7f
      have HCB := Lib.hid (show ∀ i, colAt (begun ++ [x]) i = if i = k then x else colAt bg i from fun i => by
        rw [colAt_snoc, hbl]
        by_cases h : i = k
        · rw [if_pos h, if_pos h]
        · rw [if_neg h, if_neg h, HBG.out i h])
      rcases hk3 with rfl | rfl | rfl
      · gi_wp2_with fail
        gi_meet
        exact HBX1.out.set3 (.inl ⟨rfl, rfl, rfl, rfl⟩) (fun i => HCB.out i)
      · gi_wp2_with fail
        gi_meet
        exact HBX1.out.set3 (.inr (.inl ⟨rfl, rfl, rfl, rfl⟩)) (fun i => HCB.out i)
      · gi_wp2_with fail
        gi_meet
        exact HBX1.out.set3 (.inr (.inr ⟨rfl, rfl, rfl, rfl⟩)) (fun i => HCB.out i)
    case rest =>
      obtain ⟨hbx2, hg2⟩ := hcut
      obtain ⟨w2, rfl⟩ : ∃ w2 : World, w2 = wc := ⟨_, rfl⟩
      clear q0 q1 q2 q2f q3 q4 q5 q6 q7 q7f t0 t1 t2
      have hlow2 : Below W.heap.size W1 w2 := low_grown hg2 (by omega) (by omega)
      have hT2 : T3At w2 b13 x := HT.out.of (hg2.block b13 HT.out.lt (by simp; omega))
      have hup2 := HUP.out.low hlow2 (Nat.le_refl _)
      have hJ2 := HJ.out _ _ _ H1.out (hlow2.mono hN)
      have hz2 := hlow2.size
      have HC := Lib.hid (fun (w3 : World) (hb : Below w2.heap.size w2 w3) => HIH.out x _ w3 hmem (HJ.out _ _ _ hJ2 (hb.mono (by omega))) (Nat.le_trans (by omega) hb.size) ((HRO.out.up hup2).up (KeepsUp.below hb)))
      have HWO := Lib.hid (fun w3 => without_any x left w3 hgood (fewS_bd hl))
      gi_upto_region 6 with fail
      gi_cut [42] from 43 (fun v42 wx => (v42 = .bool false ∧ J (pre ++ sets.flatMap news ++ news x) wx ∧ KeepsUp N w2 wx) ∨ (v42 = .bool true ∧ Stop wx ∧ KeepsUp N w2 wx))
      case first =>
        refine wpIn_region_held (S := fun w' => LayBox f sa sl sc pa pl pc ca cl cc (begun ++ [x]) k (some ⟨rb, 0, none⟩) rl rc left l W.heap.size w' ∧ T3At w' b13 x) (by kernel_rfl) ?_ ?_ ?_
        · intro i o ho c
          rcases i with _ | _ | _ | _ | _ | _ | _ | _ | _ | _ | _ | i <;> simp at ho <;> (subst ho; simp)
        · rintro ⟨a, w, h⟩
          exact h
        have hwr : IntKind.i64.wrap ((k : Int) + 1) = (k : Int) + 1 := IntWalk.i64_in _ ⟨by omega, by omega⟩
        have hS : LayBox f sa sl sc pa pl pc ca cl cc (begun ++ [x]) k (some ⟨rb, 0, none⟩) rl rc left l W.heap.size w2.drew ∧ T3At w2.drew b13 x := ⟨hbx2, hT2⟩
        refine wpAnyH_take (i := 0) (oi := (({ dst := some 32, op := _, type := _, pos := _, after := _, guard := _ } : Oper))) (v := .agg #[.int .i64 f.len, .int .i64 f.slack, .slice sa sl sc, .slice pa pl pc, .slice ca cl cc]) rfl (by kernel_rfl) (by kernel_rfl) (by kernel_rfl) (fun _ _ _ h => h) (Or.inl ⟨by rfl, ?_⟩) hS ?_
        · rintro wS ⟨⟨-, s0, ⟨s1, -⟩, s2, s3, s4, s5, -⟩, ⟨⟨s6, s7, s8⟩, -⟩⟩
          have p0 := s0 0
          have p1 := s0 1
          have p2 := s0 2
          have p3 := s0 3
          have p4 := s0 4
          have r0 := s4 0
          have r1 := s4 1
          have r2 := s4 2
          have y0 := s1 0
          have y1 := s1 1
          have y2 := s1 2
          have y3 := s1 3
          have y4 := s1 4
          have y5 := s1 5
          have y6 := s1 6
          have y7 := s1 7
          have y8 := s1 8
          unfold cells9 at y0 y1 y2 y3 y4 y5 y6 y7 y8
          simp only [List.getElem?_toArray, List.getElem?_cons_zero, List.getElem?_cons_succ] at y0 y1 y2 y3 y4 y5 y6 y7 y8
          clear s0 s1 s4
          go_simp
        simp only [Act.put, List.setIfInBounds_toArray, List.set_cons_zero, List.set_cons_succ]
        refine wpAnyH_take (i := 1) (oi := (({ dst := some 33, op := _, type := _, pos := _, after := _, guard := _ } : Oper))) (v := .agg #[.int .i64 (colAt (begun ++ [x]) 0).a, .int .i64 (colAt (begun ++ [x]) 0).b, .int .i64 (colAt (begun ++ [x]) 0).c, .int .i64 (colAt (begun ++ [x]) 1).a, .int .i64 (colAt (begun ++ [x]) 1).b, .int .i64 (colAt (begun ++ [x]) 1).c, .int .i64 (colAt (begun ++ [x]) 2).a, .int .i64 (colAt (begun ++ [x]) 2).b, .int .i64 (colAt (begun ++ [x]) 2).c]) rfl (by kernel_rfl) (by kernel_rfl) (by kernel_rfl) (fun _ _ _ h => h) (Or.inl ⟨by rfl, ?_⟩) hS ?_
        · rintro wS ⟨⟨-, s0, ⟨s1, -⟩, s2, s3, s4, s5, -⟩, ⟨⟨s6, s7, s8⟩, -⟩⟩
          have p0 := s0 0
          have p1 := s0 1
          have p2 := s0 2
          have p3 := s0 3
          have p4 := s0 4
          have r0 := s4 0
          have r1 := s4 1
          have r2 := s4 2
          have y0 := s1 0
          have y1 := s1 1
          have y2 := s1 2
          have y3 := s1 3
          have y4 := s1 4
          have y5 := s1 5
          have y6 := s1 6
          have y7 := s1 7
          have y8 := s1 8
          unfold cells9 at y0 y1 y2 y3 y4 y5 y6 y7 y8
          simp only [List.getElem?_toArray, List.getElem?_cons_zero, List.getElem?_cons_succ] at y0 y1 y2 y3 y4 y5 y6 y7 y8
          clear s0 s1 s4
          go_simp
        simp only [Act.put, List.setIfInBounds_toArray, List.set_cons_zero, List.set_cons_succ]
        refine wpAnyH_take (i := 2) (oi := (({ dst := some 34, op := _, type := _, pos := _, after := _, guard := _ } : Oper))) (v := .int .i64 (k : Int)) rfl (by kernel_rfl) (by kernel_rfl) (by kernel_rfl) (fun _ _ _ h => h) (Or.inl ⟨by rfl, ?_⟩) hS ?_
        · rintro wS ⟨⟨-, s0, ⟨s1, -⟩, s2, s3, s4, s5, -⟩, ⟨⟨s6, s7, s8⟩, -⟩⟩
          have p0 := s0 0
          have p1 := s0 1
          have p2 := s0 2
          have p3 := s0 3
          have p4 := s0 4
          have r0 := s4 0
          have r1 := s4 1
          have r2 := s4 2
          have y0 := s1 0
          have y1 := s1 1
          have y2 := s1 2
          have y3 := s1 3
          have y4 := s1 4
          have y5 := s1 5
          have y6 := s1 6
          have y7 := s1 7
          have y8 := s1 8
          unfold cells9 at y0 y1 y2 y3 y4 y5 y6 y7 y8
          simp only [List.getElem?_toArray, List.getElem?_cons_zero, List.getElem?_cons_succ] at y0 y1 y2 y3 y4 y5 y6 y7 y8
          clear s0 s1 s4
          go_simp
        simp only [Act.put, List.setIfInBounds_toArray, List.set_cons_zero, List.set_cons_succ]
        refine wpAnyH_take (i := 3) (oi := (({ dst := some 35, op := _, type := _, pos := _, after := _, guard := _ } : Oper))) (v := .int .i64 ((k : Int) + 1)) rfl (by kernel_rfl) (by kernel_rfl) (by kernel_rfl) (fun _ _ _ h => h) (Or.inl ⟨by rfl, ?_⟩) hS ?_
        · rintro wS ⟨⟨-, s0, ⟨s1, -⟩, s2, s3, s4, s5, -⟩, ⟨⟨s6, s7, s8⟩, -⟩⟩
          have p0 := s0 0
          have p1 := s0 1
          have p2 := s0 2
          have p3 := s0 3
          have p4 := s0 4
          have r0 := s4 0
          have r1 := s4 1
          have r2 := s4 2
          have y0 := s1 0
          have y1 := s1 1
          have y2 := s1 2
          have y3 := s1 3
          have y4 := s1 4
          have y5 := s1 5
          have y6 := s1 6
          have y7 := s1 7
          have y8 := s1 8
          unfold cells9 at y0 y1 y2 y3 y4 y5 y6 y7 y8
          simp only [List.getElem?_toArray, List.getElem?_cons_zero, List.getElem?_cons_succ] at y0 y1 y2 y3 y4 y5 y6 y7 y8
          clear s0 s1 s4
          go_simp
        simp only [Act.put, List.setIfInBounds_toArray, List.set_cons_zero, List.set_cons_succ]
        refine wpAnyH_take (i := 4) (oi := (({ dst := some 36, op := _, type := _, pos := _, after := _, guard := _ } : Oper))) (v := .slice (some ⟨rb, 0, none⟩) rl rc) rfl (by kernel_rfl) (by kernel_rfl) (by kernel_rfl) (fun _ _ _ h => h) (Or.inl ⟨by rfl, ?_⟩) hS ?_
        · rintro wS ⟨⟨-, s0, ⟨s1, -⟩, s2, s3, s4, s5, -⟩, ⟨⟨s6, s7, s8⟩, -⟩⟩
          have p0 := s0 0
          have p1 := s0 1
          have p2 := s0 2
          have p3 := s0 3
          have p4 := s0 4
          have r0 := s4 0
          have r1 := s4 1
          have r2 := s4 2
          have y0 := s1 0
          have y1 := s1 1
          have y2 := s1 2
          have y3 := s1 3
          have y4 := s1 4
          have y5 := s1 5
          have y6 := s1 6
          have y7 := s1 7
          have y8 := s1 8
          unfold cells9 at y0 y1 y2 y3 y4 y5 y6 y7 y8
          simp only [List.getElem?_toArray, List.getElem?_cons_zero, List.getElem?_cons_succ] at y0 y1 y2 y3 y4 y5 y6 y7 y8
          clear s0 s1 s4
          go_simp
        simp only [Act.put, List.setIfInBounds_toArray, List.set_cons_zero, List.set_cons_succ]
        refine wpAnyH_take (i := 5) (oi := (({ dst := some 37, op := _, type := _, pos := _, after := _, guard := _ } : Oper))) (v := .agg #[.int .i64 left.a, .int .i64 left.b, .int .i64 left.c]) rfl (by kernel_rfl) (by kernel_rfl) (by kernel_rfl) (fun _ _ _ h => h) (Or.inl ⟨by rfl, ?_⟩) hS ?_
        · rintro wS ⟨⟨-, s0, ⟨s1, -⟩, s2, s3, s4, s5, -⟩, ⟨⟨s6, s7, s8⟩, -⟩⟩
          have p0 := s0 0
          have p1 := s0 1
          have p2 := s0 2
          have p3 := s0 3
          have p4 := s0 4
          have r0 := s4 0
          have r1 := s4 1
          have r2 := s4 2
          have y0 := s1 0
          have y1 := s1 1
          have y2 := s1 2
          have y3 := s1 3
          have y4 := s1 4
          have y5 := s1 5
          have y6 := s1 6
          have y7 := s1 7
          have y8 := s1 8
          unfold cells9 at y0 y1 y2 y3 y4 y5 y6 y7 y8
          simp only [List.getElem?_toArray, List.getElem?_cons_zero, List.getElem?_cons_succ] at y0 y1 y2 y3 y4 y5 y6 y7 y8
          clear s0 s1 s4
          go_simp
        simp only [Act.put, List.setIfInBounds_toArray, List.set_cons_zero, List.set_cons_succ]
        refine wpAnyH_take (i := 6) (oi := (({ dst := some 38, op := _, type := _, pos := _, after := _, guard := _ } : Oper))) (v := .agg #[.int .i64 x.a, .int .i64 x.b, .int .i64 x.c]) rfl (by kernel_rfl) (by kernel_rfl) (by kernel_rfl) (fun _ _ _ h => h) (Or.inl ⟨by rfl, ?_⟩) hS ?_
        · rintro wS ⟨⟨-, s0, ⟨s1, -⟩, s2, s3, s4, s5, -⟩, ⟨⟨s6, s7, s8⟩, -⟩⟩
          have p0 := s0 0
          have p1 := s0 1
          have p2 := s0 2
          have p3 := s0 3
          have p4 := s0 4
          have r0 := s4 0
          have r1 := s4 1
          have r2 := s4 2
          have y0 := s1 0
          have y1 := s1 1
          have y2 := s1 2
          have y3 := s1 3
          have y4 := s1 4
          have y5 := s1 5
          have y6 := s1 6
          have y7 := s1 7
          have y8 := s1 8
          unfold cells9 at y0 y1 y2 y3 y4 y5 y6 y7 y8
          simp only [List.getElem?_toArray, List.getElem?_cons_zero, List.getElem?_cons_succ] at y0 y1 y2 y3 y4 y5 y6 y7 y8
          clear s0 s1 s4
          go_simp
        simp only [Act.put, List.setIfInBounds_toArray, List.set_cons_zero, List.set_cons_succ]
        refine wpAnyH_take (i := 8) (oi := (({ dst := some 40, op := _, type := _, pos := _, after := _, guard := _ } : Oper))) (v := .func (.yield l) #[] #[]) rfl (by kernel_rfl) (by kernel_rfl) (by kernel_rfl) (fun _ _ _ h => h) (Or.inl ⟨by rfl, ?_⟩) hS ?_
        · rintro wS ⟨⟨-, s0, ⟨s1, -⟩, s2, s3, s4, s5, -⟩, ⟨⟨s6, s7, s8⟩, -⟩⟩
          have p0 := s0 0
          have p1 := s0 1
          have p2 := s0 2
          have p3 := s0 3
          have p4 := s0 4
          have r0 := s4 0
          have r1 := s4 1
          have r2 := s4 2
          have y0 := s1 0
          have y1 := s1 1
          have y2 := s1 2
          have y3 := s1 3
          have y4 := s1 4
          have y5 := s1 5
          have y6 := s1 6
          have y7 := s1 7
          have y8 := s1 8
          unfold cells9 at y0 y1 y2 y3 y4 y5 y6 y7 y8
          simp only [List.getElem?_toArray, List.getElem?_cons_zero, List.getElem?_cons_succ] at y0 y1 y2 y3 y4 y5 y6 y7 y8
          clear s0 s1 s4
          go_simp
        simp only [Act.put, List.setIfInBounds_toArray, List.set_cons_zero, List.set_cons_succ]
        refine wpAnyH_ready (rs := [7]) (by kernel_rfl) (by simp) ?_
        refine AllReadyH.cons (o := (({ dst := some 39, op := _, type := _, pos := _, after := _, guard := _ } : Oper))) rfl (fun K7 hK7 => ?_) AllReadyH.nil
        go_simp
        refine (HWO.out _).mono ?_
        rintro e w3 ⟨rfl, hb3⟩
        have hb3 : Below w2.heap.size w2 w3 := ((by repeat (first | exact Below.refl _ _ | (refine Below.alloc ?_ (by first | omega | (simp; omega) | simp) _) | (refine Below.setCell ?_ (by first | omega | (simp; omega) | simp) _) | refine Below.drew ?_)) : Below w2.heap.size w2 w2.drew).trans hb3
        have hS3 : LayBox f sa sl sc pa pl pc ca cl cc (begun ++ [x]) k (some ⟨rb, 0, none⟩) rl rc left l W.heap.size w3 ∧ T3At w3 b13 x := ⟨hbx2.of hb3.size (fun j _ hj => hb3.block j (by omega)), hT2.below hb3⟩
        refine hK7.out _ _ hS3 (fun _ => ?_)
        clear hK7 K7
        try simp only [Act.put, List.setIfInBounds_toArray, List.set_cons_zero, List.set_cons_succ]
        refine wpAnyH_ready (rs := [9]) (by kernel_rfl) (by simp) ?_
        refine AllReadyH.cons (o := (({ dst := some 41, op := _, type := _, pos := _, after := _, guard := _ } : Oper))) rfl (fun K9 hK9 => ?_) AllReadyH.nil
        go_simp
        refine (HC.out w3 hb3).mono ?_
        have hz3 := hb3.size
        rintro e w4 (⟨rfl, hJ4, hk4⟩ | ⟨rfl, hJ4, hk4⟩)
        · have hS : LayBox f sa sl sc pa pl pc ca cl cc (begun ++ [x]) k (some ⟨rb, 0, none⟩) rl rc left l W.heap.size w4 ∧ T3At w4 b13 x := ⟨hS3.1.of hk4.1 (fun j _ hj => hk4.2 j (by omega) (by omega)), hS3.2.of (hk4.2 b13 (by omega) hS3.2.lt)⟩
          refine hK9.out _ _ hS (fun _ => ?_)
          clear hK9 K9
          try simp only [Act.put, List.setIfInBounds_toArray, List.set_cons_zero, List.set_cons_succ]
          refine wpAnyH_take (i := 10) (oi := (({ dst := some 42, op := _, type := _, pos := _, after := _, guard := _ } : Oper))) (v := .bool false) rfl (by kernel_rfl) (by kernel_rfl) (by kernel_rfl) (fun _ _ _ h => h) (Or.inl ⟨by rfl, ?_⟩) hS ?_
          · rintro wS ⟨⟨-, s0, ⟨s1, -⟩, s2, s3, s4, s5, -⟩, ⟨⟨s6, s7, s8⟩, -⟩⟩
            have p0 := s0 0
            have p1 := s0 1
            have p2 := s0 2
            have p3 := s0 3
            have p4 := s0 4
            have r0 := s4 0
            have r1 := s4 1
            have r2 := s4 2
            have y0 := s1 0
            have y1 := s1 1
            have y2 := s1 2
            have y3 := s1 3
            have y4 := s1 4
            have y5 := s1 5
            have y6 := s1 6
            have y7 := s1 7
            have y8 := s1 8
            unfold cells9 at y0 y1 y2 y3 y4 y5 y6 y7 y8
            simp only [List.getElem?_toArray, List.getElem?_cons_zero, List.getElem?_cons_succ] at y0 y1 y2 y3 y4 y5 y6 y7 y8
            clear s0 s1 s4
            go_simp
          simp only [Act.put, List.setIfInBounds_toArray, List.set_cons_zero, List.set_cons_succ]
          refine wpAnyH_done (by kernel_rfl) ?_ _
          gi_wp2_with fail
          gi_meet
          exact .inl ⟨rfl, hJ4, (KeepsUp.below hb3).trans hk4⟩
        · have hS : LayBox f sa sl sc pa pl pc ca cl cc (begun ++ [x]) k (some ⟨rb, 0, none⟩) rl rc left l W.heap.size w4 ∧ T3At w4 b13 x := ⟨hS3.1.of hk4.1 (fun j _ hj => hk4.2 j (by omega) (by omega)), hS3.2.of (hk4.2 b13 (by omega) hS3.2.lt)⟩
          refine hK9.out _ _ hS (fun _ => ?_)
          clear hK9 K9
          try simp only [Act.put, List.setIfInBounds_toArray, List.set_cons_zero, List.set_cons_succ]
          refine wpAnyH_take (i := 10) (oi := (({ dst := some 42, op := _, type := _, pos := _, after := _, guard := _ } : Oper))) (v := .bool true) rfl (by kernel_rfl) (by kernel_rfl) (by kernel_rfl) (fun _ _ _ h => h) (Or.inl ⟨by rfl, ?_⟩) hS ?_
          · rintro wS ⟨⟨-, s0, ⟨s1, -⟩, s2, s3, s4, s5, -⟩, ⟨⟨s6, s7, s8⟩, -⟩⟩
            have p0 := s0 0
            have p1 := s0 1
            have p2 := s0 2
            have p3 := s0 3
            have p4 := s0 4
            have r0 := s4 0
            have r1 := s4 1
            have r2 := s4 2
            have y0 := s1 0
            have y1 := s1 1
            have y2 := s1 2
            have y3 := s1 3
            have y4 := s1 4
            have y5 := s1 5
            have y6 := s1 6
            have y7 := s1 7
            have y8 := s1 8
            unfold cells9 at y0 y1 y2 y3 y4 y5 y6 y7 y8
            simp only [List.getElem?_toArray, List.getElem?_cons_zero, List.getElem?_cons_succ] at y0 y1 y2 y3 y4 y5 y6 y7 y8
            clear s0 s1 s4
            go_simp
          simp only [Act.put, List.setIfInBounds_toArray, List.set_cons_zero, List.set_cons_succ]
          refine wpAnyH_done (by kernel_rfl) ?_ _
          gi_wp2_with fail
          gi_meet
          exact .inr ⟨rfl, hJ4, (KeepsUp.below hb3).trans hk4⟩
      case rest =>
        have hbx0 := hbx2
        obtain ⟨w5, rfl⟩ : ∃ w5 : World, w5 = wc := ⟨_, rfl⟩
        have hk12 : KeepsUp w1.heap.size W1 w2 := ⟨hg2.size, fun j h1 h2 => hg2.block j h2 (by simp; omega)⟩
        have HFM := Lib.hid (show pre ++ (sets ++ [x]).flatMap news = pre ++ sets.flatMap news ++ news x by rw [List.flatMap_append, List.append_assoc]; simp)
        rcases hcut with ⟨rfl, hJ5, hk5⟩ | ⟨rfl, hJ5, hk5⟩
        · have hbx5 := hbx0.of hk5.1 (fun j _ hj => hk5.2 j (by omega) (by omega))
          have hcell : ∀ b i, W0.heap.size ≤ b → b < w1.heap.size → w5.cell? ⟨b, i, none⟩ = W1.cell? ⟨b, i, none⟩ := fun b i h1 h2 =>
            (hk5.cell (by omega) (by omega) i).trans (World.cell?_of_block (w := W1) (a := ⟨b, i, none⟩) (hg2.block b (by omega) (by simp; omega)))
          have HRES := Lib.hid (show KeepsUp w1.heap.size W1 w5 ∧ LayI f sa sl sc pa pl pc ca cl cc N J begun k (some ⟨rb, 0, none⟩) rl rc left lo hi l W.heap.size bl bf br pre news W (sets ++ [x]) w5 from
            ⟨hk12.trans (hk5.up (by omega)), by rw [HFM.out]; exact hJ5, ⟨begun ++ [x], hbx5, fun i hi => by rw [colAt_snoc, hbl, if_neg hi]⟩, hup2.trans hk5, fun i => (hcell bf i hlow.2.1 hhigh.2.1).trans (H4.out i), fun i => (hcell bl i hlow.1 hhigh.1).trans (H5.out i), fun i => (hcell br i hlow.2.2 hhigh.2.2).trans (H6.out i)⟩)
          clear hcell hbx5
          gi_wp2_with fail
          exact HRES.out
        · obtain ⟨c0, -, -, -, -, -, -, c6, c6f⟩ := hbx0.of hk5.1 (fun j _ hj => hk5.2 j (by omega) (by omega))
          have hcell : ∀ b i, W0.heap.size ≤ b → b < w1.heap.size → (w5.setCell ⟨W.heap.size + 1 + 1 + 1 + 1 + 1 + 1, 0, none⟩ (.bool false)).cell? ⟨b, i, none⟩ = W1.cell? ⟨b, i, none⟩ := fun b i h1 h2 =>
            (World.cell?_of_block (w := w5) (a := ⟨b, i, none⟩) (Below.heap_setCell w5 _ _ b (by show b ≠ W.heap.size + 1 + 1 + 1 + 1 + 1 + 1; omega))).trans ((hk5.cell (by omega) (by omega) i).trans (World.cell?_of_block (w := W1) (a := ⟨b, i, none⟩) (hg2.block b (by omega) (by simp; omega))))
          have HRES := Lib.hid (show KeepsUp w1.heap.size W1 (w5.setCell ⟨W.heap.size + 1 + 1 + 1 + 1 + 1 + 1, 0, none⟩ (.bool false)) ∧ LayX f sa sl sc pa pl pc ca cl cc N Stop left lo hi W.heap.size bl bf br W (w5.setCell ⟨W.heap.size + 1 + 1 + 1 + 1 + 1 + 1, 0, none⟩ (.bool false)) from
            ⟨(hk12.trans (hk5.up (by omega))).set (.inl (by omega)) _, HST.out _ _ hJ5 ((Below.refl N w5).setCell (by show N ≤ W.heap.size + 1 + 1 + 1 + 1 + 1 + 1; omega) _), (hup2.trans hk5).set (.inr (by omega)) _, set_cell c6, fun i => (hcell bf i hlow.2.1 hhigh.2.1).trans (H4.out i), fun i => (hcell bl i hlow.1 hhigh.1).trans (H5.out i), fun i => (hcell br i hlow.2.2 hhigh.2.2).trans (H6.out i)⟩)
          clear hcell
          gi_wp2_with fail
          exact HRES.out
  case done =>
    rintro D W2 hD ⟨h1, ⟨bg, h2, h2'⟩, h3, -⟩ hd
    obtain ⟨c0, -, -, -, -, -, -, c6, c6f⟩ := h2
    have hDs := (Array.getElem?_eq_some_iff.1 hd).1
    have hDB : W.heap.size + 7 ≤ D := by omega
    have hbs : Below W.heap.size W2 (W2.setCell ⟨W.heap.size + 1 + 1 + 1 + 1 + 1 + 1, 0, none⟩ (.bool true)) := (Below.refl _ W2).setCell (by show W.heap.size ≤ W.heap.size + 1 + 1 + 1 + 1 + 1 + 1; omega) _
    have hd2 : (W2.setCell ⟨W.heap.size + 1 + 1 + 1 + 1 + 1 + 1, 0, none⟩ (.bool true)).heap[D]? = some (.deferred (some [])) := (Below.heap_setCell W2 _ _ D (by show D ≠ W.heap.size + 1 + 1 + 1 + 1 + 1 + 1; omega)).trans hd
    have hbf := hbs.trans (below_putObj (n := W.heap.size) (.deferred none) hd2 (by omega))
    have hrd : ((W2.setCell ⟨W.heap.size + 1 + 1 + 1 + 1 + 1 + 1, 0, none⟩ (.bool true)).putObj D (.deferred none)).cell? ⟨W.heap.size + 1 + 1 + 1 + 1 + 1 + 1, 0, none⟩ = some (.bool true) :=
      (World.cell?_of_block (World.putObj_heap_other (by show W.heap.size + 1 + 1 + 1 + 1 + 1 + 1 ≠ D; omega))).trans (set_cell c6)
    have HP := Lib.hid (show LayPost N J Stop pre ((f.setsOf left (lo, hi)).flatMap news) W (.returned (.bool true)) ((W2.setCell ⟨W.heap.size + 1 + 1 + 1 + 1 + 1 + 1, 0, none⟩ (.bool true)).putObj D (.deferred none)) from .inl ⟨rfl, HJ.out _ _ _ h1 (hbf.mono hN), h3.low hbf (Nat.le_refl _)⟩)
    clear h1 h3 hbs hbf h2'
    gi_wp2_with fail
    refine ⟨by simp, .inl ⟨_, _, rfl, run_takeDeferred hd2, ?_⟩⟩
    exact ⟨.bool true, by simp [results, Try.results117, go_sem, hrd], HP.out⟩
  case stop =>
    rintro D W2 hD ⟨h1, h2, h3, -⟩ hd
    have hDB : W.heap.size + 7 ≤ D := by omega
    have hbf := below_putObj (n := W.heap.size) (.deferred none) hd (by omega)
    have hrd : (W2.putObj D (.deferred none)).cell? ⟨W.heap.size + 1 + 1 + 1 + 1 + 1 + 1, 0, none⟩ = some (.bool false) :=
      (World.cell?_of_block (World.putObj_heap_other (by show W.heap.size + 1 + 1 + 1 + 1 + 1 + 1 ≠ D; omega))).trans h3
    refine ⟨by simp, .inl ⟨_, _, rfl, run_takeDeferred hd, ?_⟩⟩
    exact ⟨.bool false, by simp [results, Try.results117, go_sem, hrd], .inr ⟨rfl, HST.out _ _ h1 (hbf.mono hN), h2.low hbf (Nat.le_refl _)⟩⟩
theorem fewS_sub {left s : T3} (hl : fewS left) (hs : leS s left) : fewS (subS left s) := by
  obtain ⟨h1, h2, h3, h4, h5, h6⟩ := hs
  obtain ⟨h7, h8, h9⟩ := hl
  refine ⟨⟨?_, ?_⟩, ⟨?_, ?_⟩, ⟨?_, ?_⟩⟩ <;> simp only [subS] <;> omega
theorem fewS_le {left s : T3} (hl : fewS left) (hs : leS s left) : fewS s := by
  obtain ⟨h1, h2, h3, h4, h5, h6⟩ := hs
  obtain ⟨h7, h8, h9⟩ := hl
  refine ⟨⟨?_, ?_⟩, ⟨?_, ?_⟩, ⟨?_, ?_⟩⟩ <;> omega
theorem lay_all (f : PFrame) (sa : Option Addr) (sl sc : Nat) (pa : Option Addr) (pl pc : Nat) (ca : Option Addr) (cl cc : Nat) (ho : f.ok = true) (l N : Nat) (Good : List T3 → Prop) (J : List (List T3) → World → Prop) (Stop : World → Prop)
    (hJ : ∀ pre W1 W2, J pre W1 → Below N W1 W2 → J pre W2) (hStop : ∀ W1 W2, Stop W1 → Below N W1 W2 → Stop W2) (hEnv : ∀ pre W, J pre W → PAt W sa sl sc pa pl pc ca cl cc f) (hEnvS : ∀ W, Stop W → PAt W sa sl sc pa pl pc ca cl cc f)
    (hY : ∀ pre x W, J pre W → N ≤ W.heap.size → Good x → YieldAt Fence.wide 12 Try.prog l (encL x) W (LayPost N J Stop pre [x] W))
    (ra : Option Addr) (rl rc : Nat) (rooms : List (Int × Int)) (hrl : rooms.length = rl) (hrl3 : rl ≤ 3) :
    ∀ (rs : List (Int × Int)) (k : Nat), rooms.drop k = rs → k ≤ rl → ∀ (begun : List T3) (left : T3) (pre : List (List T3)) (W : World), begun.length = k → fewS left → (∀ y ∈ laysF f rs left begun, Good y) → J pre W → N ≤ W.heap.size → RoomsAt N W ra rl rooms →
      Calls Try.prog 117 #[.agg #[.int .i64 f.len, .int .i64 f.slack, .slice sa sl sc, .slice pa pl pc, .slice ca cl cc], .agg (cells9 begun), .int .i64 k, .slice ra rl rc, .agg #[.int .i64 left.a, .int .i64 left.b, .int .i64 left.c], .func (.yield l) #[] #[]] W (LayPost N J Stop pre (laysF f rs left begun) W)
  | [], k, hd, hkl, begun, left, pre, W, hbl, hl, hg, hJp, hN, hro => by
    have hk1 : rooms.length ≤ k := List.drop_eq_nil_iff.1 hd
    obtain rfl : rl = k := by omega
    exact lay_end f sa sl sc pa pl pc ca cl cc l N Good J Stop hJ hStop hY ra rl rc begun left pre W (hg begun (by simp [laysF])) hJp hN
  | r :: rs, k, hd, hkl, begun, left, pre, W, hbl, hl, hg, hJp, hN, hro => by
    have hk : k < rooms.length := by
      rcases Nat.lt_or_ge k rooms.length with h | h
      · exact h
      · rw [List.drop_eq_nil_of_le h] at hd; cases hd
    rw [List.drop_eq_getElem_cons hk] at hd
    injection hd with hr hd'
    have h := lay_step f sa sl sc pa pl pc ca cl cc ho l N J Stop hJ hStop hEnv hEnvS ra rl rc rooms hrl3 k hk begun hbl left hl pre (fun s => laysF f rs (subS left s) (begun ++ [s])) W hJp hN hro
      (fun s pre W hs h1 h2 h3 => by
        have h := lay_all f sa sl sc pa pl pc ca cl cc ho l N Good J Stop hJ hStop hEnv hEnvS hY ra rl rc rooms hrl hrl3 rs (k + 1) hd' (by omega) (begun ++ [s]) (subS left s) pre W (by simp [hbl]) (fewS_sub hl (mem_allS.1 (List.mem_filter.1 hs).1)) (fun y hy => hg y (by
          unfold laysF
          rw [← hr]
          exact List.mem_flatMap.2 ⟨s, hs, hy⟩)) h1 h2 h3
        push_cast at h
        exact h)
    rw [hr] at h
    exact h
end Go.Proofs.Ytcklhojeneejiaa
