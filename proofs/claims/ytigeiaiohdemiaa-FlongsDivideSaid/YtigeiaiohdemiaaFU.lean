/- The chapter's examples, for the landed code: the shops. -/
import Derived.Test.YtigeiaiohdemiaaFT
namespace Go.Proofs.Ytigeiaiohdemiaa
set_option linter.unusedVariables false
set_option linter.unusedSimpArgs false
open Go.RowKit

def exS : FShop := ⟨[⟨0, 3, 0⟩, ⟨0, 5, 0⟩, ⟨1, 2, 1⟩, ⟨1, 0, 0⟩], [[8, 9, 2, 4], [6, 9, 2, 6], [12, 7, 2, 3], [9, 9, 4, 9]], [5, 3], 6⟩
def exT : FShop := { exS with wants := [6, 3] }

def allocs (w : World) (os : List (Array Value × TypeId)) : World := os.foldl (fun w o => w.alloc (.cells o.1 o.2)) w
theorem allocs_size : ∀ (os : List (Array Value × TypeId)) (w : World), (allocs w os).heap.size = w.heap.size + os.length
  | [], w => by simp [allocs]
  | o :: os, w => by
    show (allocs (w.alloc (.cells o.1 o.2)) os).heap.size = _
    rw [allocs_size os]; simp; omega
theorem allocs_below : ∀ (os : List (Array Value × TypeId)) (w : World), Below w.heap.size w (allocs w os)
  | [], w => Below.refl _ _
  | o :: os, w => by
    show Below w.heap.size w (allocs (w.alloc (.cells o.1 o.2)) os)
    exact ((Below.refl _ _).alloc (Nat.le_refl _) _).trans ((allocs_below os (w.alloc (.cells o.1 o.2))).mono (by simp))
/-- What lies in the blocks of a chain. -/
theorem allocs_at : ∀ (os : List (Array Value × TypeId)) (w : World) (k : Nat) (h : k < os.length), (allocs w os).heap[w.heap.size + k]? = some (.cells os[k].1 os[k].2 (0, 0))
  | o :: os, w, 0, h => by
    show (allocs (w.alloc (.cells o.1 o.2)) os).heap[w.heap.size]? = _
    rw [(allocs_below os (w.alloc (.cells o.1 o.2))).block _ (by simp)]
    exact World.alloc_heap_new _ _
  | o :: os, w, k + 1, h => by
    show (allocs (w.alloc (.cells o.1 o.2)) os).heap[w.heap.size + (k + 1)]? = _
    have := allocs_at os (w.alloc (.cells o.1 o.2)) k (by simpa using h)
    rw [World.size_alloc] at this
    rw [show w.heap.size + (k + 1) = w.heap.size + 1 + k by omega]
    exact this
theorem cell_at {w : World} {b : Nat} {c : Array Value} {T : TypeId} (h : w.heap[b]? = some (.cells c T (0, 0))) (i : Nat) : w.cell? ⟨b, i, none⟩ = c[i]? := by simp [World.cell?, h]

set_option maxHeartbeats 1000000 in
theorem mould_is (p u b : Int) (w : World) : Calls Try.prog 98 #[.int .i64 p, .int .i64 u, .int .i64 b] w fun e w' => e = .returned (.agg #[.int .i64 p, .int .i64 u, .int .i64 b]) ∧ w.alloc (.cells #[.int .i64 p, .int .i64 u, .int .i64 b] 48) = w' := by
  go_enter Try.func98, Try.ntmps98
  go_wp2_with fail
  refine bodyPost_ret (v := .agg #[.int .i64 p, .int .i64 u, .int .i64 b]) (by simp [results, Try.results98, go_sem]) rfl ⟨rfl, rfl⟩

/-- What the example lays. -/
def exOs (w : World) : List (Array Value × TypeId) :=
  [(#[.slice (some ⟨w.heap.size + 6, 0, none⟩) 4 4, .slice (some ⟨w.heap.size + 11, 0, none⟩) 4 4, .slice (some ⟨w.heap.size + 12, 0, none⟩) 2 2, .int .i64 6], 26),
   (#[.slice none 0 0, .slice none 0 0, .slice none 0 0, .int .i64 0], 26),
   (#[.int .i64 0, .int .i64 3, .int .i64 0], 48), (#[.int .i64 0, .int .i64 5, .int .i64 0], 48), (#[.int .i64 1, .int .i64 2, .int .i64 1], 48), (#[.int .i64 1, .int .i64 0, .int .i64 0], 48),
   (#[.int .i64 0, .int .i64 3, .int .i64 0, .int .i64 0, .int .i64 5, .int .i64 0, .int .i64 1, .int .i64 2, .int .i64 1, .int .i64 1, .int .i64 0, .int .i64 0], 48),
   (#[.int .i64 8, .int .i64 9, .int .i64 2, .int .i64 4], 3), (#[.int .i64 6, .int .i64 9, .int .i64 2, .int .i64 6], 3), (#[.int .i64 12, .int .i64 7, .int .i64 2, .int .i64 3], 3), (#[.int .i64 9, .int .i64 9, .int .i64 4, .int .i64 9], 3),
   (#[.slice (some ⟨w.heap.size + 7, 0, none⟩) 4 4, .slice (some ⟨w.heap.size + 8, 0, none⟩) 4 4, .slice (some ⟨w.heap.size + 9, 0, none⟩) 4 4, .slice (some ⟨w.heap.size + 10, 0, none⟩) 4 4], 24),
   (#[.int .i64 5, .int .i64 3], 3)]
theorem ints4 {W : World} {b : Nat} {a0 a1 a2 a3 : Int} {T : TypeId} (h : W.heap[b]? = some (.cells #[.int .i64 a0, .int .i64 a1, .int .i64 a2, .int .i64 a3] T (0, 0))) : IntsAt W (some ⟨b, 0, none⟩) 4 [a0, a1, a2, a3] :=
  ⟨rfl, by decide, fun _ => ⟨b, 0, rfl, (Array.getElem?_eq_some_iff.1 h).1, fun i hi => by
    rw [cell_at h]
    have : i = 0 ∨ i = 1 ∨ i = 2 ∨ i = 3 := by simp at hi; omega
    rcases this with rfl | rfl | rfl | rfl <;> rfl⟩⟩
theorem ex_FAt {w W : World} (h : ∀ k, 2 ≤ k → k < 13 → W.heap[w.heap.size + k]? = (allocs w (exOs w)).heap[w.heap.size + k]?) :
    FAt W (some ⟨w.heap.size + 6, 0, none⟩) 4 4 (some ⟨w.heap.size + 11, 0, none⟩) 4 4 (some ⟨w.heap.size + 12, 0, none⟩) 2 2 exS := by
  have e := fun k (h1 : 2 ≤ k) (h2 : k < 13) => (h k h1 h2).trans (allocs_at (exOs w) w k h2)
  have e6 := e 6 (by omega) (by omega)
  have e7 := e 7 (by omega) (by omega)
  have e8 := e 8 (by omega) (by omega)
  have e9 := e 9 (by omega) (by omega)
  have e10 := e 10 (by omega) (by omega)
  have e11 := e 11 (by omega) (by omega)
  have e12 := e 12 (by omega) (by omega)
  clear e h
  refine ⟨⟨rfl, by decide, fun _ => ⟨_, 0, rfl, (Array.getElem?_eq_some_iff.1 e6).1, fun i hi => ?_⟩⟩, ⟨rfl, by decide, fun _ => ⟨_, 0, rfl, (Array.getElem?_eq_some_iff.1 e11).1, fun i hi => ?_⟩⟩, ⟨rfl, by decide, fun _ => ⟨_, 0, rfl, (Array.getElem?_eq_some_iff.1 e12).1, fun i hi => ?_⟩⟩⟩
  · have : i = 0 ∨ i = 1 ∨ i = 2 ∨ i = 3 := by simp [exS] at hi; omega
    rcases this with rfl | rfl | rfl | rfl <;> refine ⟨?_, ?_, ?_⟩ <;> rw [cell_at e6] <;> rfl
  · have : i = 0 ∨ i = 1 ∨ i = 2 ∨ i = 3 := by simp [exS] at hi; omega
    rcases this with rfl | rfl | rfl | rfl
    · exact ⟨_, 4, 4, by rw [cell_at e11]; rfl, ints4 e7⟩
    · exact ⟨_, 4, 4, by rw [cell_at e11]; rfl, ints4 e8⟩
    · exact ⟨_, 4, 4, by rw [cell_at e11]; rfl, ints4 e9⟩
    · exact ⟨_, 4, 4, by rw [cell_at e11]; rfl, ints4 e10⟩
  · have : i = 0 ∨ i = 1 := by simp [exS] at hi; omega
    rcases this with rfl | rfl <;> rw [cell_at e12] <;> rfl

def ExPost (w : World) (e : Ending) (w' : World) : Prop :=
  ∃ a1 c1 a2 c2 a3 c3 b1 d1 b2 d2 b3 d3, e = .returned (.tuple #[.agg #[.slice a1 4 c1, .slice a2 4 c2, .slice a3 2 c3, .int .i64 6], .agg #[.slice b1 4 d1, .slice b2 4 d2, .slice b3 2 d3, .int .i64 6]]) ∧
    FAt w' a1 4 c1 a2 4 c2 a3 2 c3 exS ∧ FAt w' b1 4 d1 b2 4 d2 b3 2 d3 exT ∧ Below w.heap.size w w'
theorem FRow.block {w w' : World} {n0 : Nat} {e : TypeId} {size : Nat} {ga : Option Addr} {k cap : Nat} {cs : List Value} (h : FRow w n0 e size ga k cap cs) (he : ∀ g, ga = some ⟨g, 0, none⟩ → n0 ≤ g → IsC w g e → w'.heap[g]? = w.heap[g]?) : FRow w' n0 e size ga k cap cs :=
  ⟨h.1, fun h0 => by
    obtain ⟨g, e1, ho⟩ := h.2 h0
    obtain ⟨hn, cur, hc⟩ := own_parts ho
    refine ⟨g, e1, ho.1, ?_⟩
    rcases ho.2 with ⟨e2, _⟩ | ⟨g', c, cur', e2, h3, h4, h5⟩
    · cases e2
    · have : g' = g := by injection e2 with e2 _ _; injection e2 with e2; injection e2 with e2; exact e2.symm
      subst this
      exact .inr ⟨g', c, cur', e2, h3, (he g' e1 hn ⟨cur, hc⟩).trans h4, h5⟩⟩

set_option maxRecDepth 100000 in
set_option maxHeartbeats 8000000 in
theorem Example_any (w : World) : Calls Try.prog 70 #[] w fun e w' => ExPost w e w' := by
  have HC := Lib.hid (fun W (h : FAt W (some ⟨w.heap.size + 6, 0, none⟩) 4 4 (some ⟨w.heap.size + 11, 0, none⟩) 4 4 (some ⟨w.heap.size + 12, 0, none⟩) 2 2 exS) =>
    Copy_any exS (some ⟨w.heap.size + 6, 0, none⟩) 4 4 (some ⟨w.heap.size + 11, 0, none⟩) 4 4 (some ⟨w.heap.size + 12, 0, none⟩) 2 2 W h (by decide) (by decide) (by decide) (by decide))
  go_enter Try.func70, Try.ntmps70
  go_wp2_with (go_at_call 98; refine (mould_is _ _ _ _).mono ?_; rintro e w' ⟨rfl, rfl⟩)
  refine (HC.out (allocs w (exOs w)) (ex_FAt fun _ _ _ => rfl)).mono ?_
  rintro e w2 ⟨gm, cm, va, vc, gw, cw, vs, N1, rfl, hM, hW, hlt, hO, hL, hN, hb2⟩
  obtain ⟨W1, hW1⟩ : ∃ W1, allocs w (exOs w) = W1 := ⟨_, rfl⟩
  have hz1 : W1.heap.size = w.heap.size + 13 := by rw [← hW1, allocs_size]; rfl
  have h0 : W1.heap[w.heap.size]? = some (.cells #[.slice (some ⟨w.heap.size + 6, 0, none⟩) 4 4, .slice (some ⟨w.heap.size + 11, 0, none⟩) 4 4, .slice (some ⟨w.heap.size + 12, 0, none⟩) 2 2, .int .i64 6] 26 (0, 0)) := by rw [← hW1]; exact allocs_at (exOs w) w 0 (by simp [exOs])
  have h1 : W1.heap[w.heap.size + 1]? = some (.cells #[.slice none 0 0, .slice none 0 0, .slice none 0 0, .int .i64 0] 26 (0, 0)) := by rw [← hW1]; exact allocs_at (exOs w) w 1 (by simp [exOs])
  have hBw : Below w.heap.size w W1 := by rw [← hW1]; exact allocs_below _ _
  have hex := fun W (h : ∀ k, 2 ≤ k → k < 13 → W.heap[w.heap.size + k]? = W1.heap[w.heap.size + k]?) => ex_FAt (w := w) (W := W) (by rw [hW1]; exact h)
  rw [hW1] at hM hW hO hN hb2
  have e0 := (hb2.block _ (show w.heap.size < W1.heap.size by omega)).trans h0
  have e1 := (hb2.block _ (show w.heap.size + 1 < W1.heap.size by omega)).trans h1
  have hz2 := hb2.size
  obtain ⟨gwb, rfl, hgw1, hgw2, hgc, hgf⟩ : ∃ gwb, gw = ⟨gwb, 0, none⟩ ∧ W1.heap.size ≤ gwb ∧ gwb < w2.heap.size ∧ (∀ j u, (exS.wants.map (Value.int .i64))[j]? = some u → w2.cell? ⟨gwb, j, none⟩ = some u) ∧ ∀ j, w2.frozen? ⟨gwb, j, none⟩ = false := by
    obtain ⟨g, e, h2, h3, h4, h5⟩ := hW.cell (by decide)
    injection e with e
    exact ⟨g, e, h2, h3, h4, h5⟩
  have hlt' : gwb < N1 := hlt (by decide)
  obtain ⟨x0, x1, x2, x3⟩ : w2.cell? ⟨w.heap.size, 0, none⟩ = some (.slice (some ⟨w.heap.size + 6, 0, none⟩) 4 4) ∧ w2.cell? ⟨w.heap.size, 1, none⟩ = some (.slice (some ⟨w.heap.size + 11, 0, none⟩) 4 4) ∧ w2.cell? ⟨w.heap.size, 2, none⟩ = some (.slice (some ⟨w.heap.size + 12, 0, none⟩) 2 2) ∧ w2.cell? ⟨w.heap.size, 3, none⟩ = some (.int .i64 6) := ⟨cell_at e0 0, cell_at e0 1, cell_at e0 2, cell_at e0 3⟩
  obtain ⟨y0, y1, y2, y3⟩ : w2.cell? ⟨w.heap.size + 1, 0, none⟩ = some (.slice none 0 0) ∧ w2.cell? ⟨w.heap.size + 1, 1, none⟩ = some (.slice none 0 0) ∧ w2.cell? ⟨w.heap.size + 1, 2, none⟩ = some (.slice none 0 0) ∧ w2.cell? ⟨w.heap.size + 1, 3, none⟩ = some (.int .i64 0) := ⟨cell_at e1 0, cell_at e1 1, cell_at e1 2, cell_at e1 3⟩
  have f0 : ∀ i, w2.frozen? ⟨w.heap.size, i, none⟩ = false := fun i => by simp [World.frozen?, e0]
  have f1 : ∀ i, w2.frozen? ⟨w.heap.size + 1, i, none⟩ = false := fun i => by simp [World.frozen?, e1]
  have z0 := hgc 0 (.int .i64 5) rfl
  have z1 := hgc 1 (.int .i64 3) rfl
  have fz := hgf 0
  have q0 : w.heap.size < w2.heap.size := by omega
  have q1 : w.heap.size + 1 < w2.heap.size := by omega
  have n0 : ¬ w.heap.size = gwb := by omega
  have n1 : ¬ w.heap.size + 1 = gwb := by omega
  have n0' : ¬ gwb = w.heap.size := by omega
  have n1' : ¬ gwb = w.heap.size + 1 := by omega
  -- what is kept by all that comes
  have HK := Lib.hid (fun (W : World) (hk : ∀ k, k < w2.heap.size → k ≠ w.heap.size → k ≠ w.heap.size + 1 → k ≠ gwb → W.heap[k]? = w2.heap[k]?) (hg : HoldsI W gwb [6, 3]) =>
    show FAt W (some ⟨w.heap.size + 6, 0, none⟩) 4 4 (some ⟨w.heap.size + 11, 0, none⟩) 4 4 (some ⟨w.heap.size + 12, 0, none⟩) 2 2 exS ∧ FAt W (some gm) 4 cm va 4 vc (some ⟨gwb, 0, none⟩) 2 cw exT from by
      refine ⟨hex W fun k h2 h3 => (hk _ (by omega) (by omega) (by omega) (by omega)).trans (hb2.block _ (by omega)), ?_, ?_, ?_⟩
      · exact (hM.block fun g _ hg hi => hk g hi.lt (by omega) (by omega) (fun e => by
          subst e
          obtain ⟨c, hc⟩ := hi
          obtain ⟨g', e1, ho⟩ := hW.2 (by decide)
          injection e1 with e1; injection e1 with e1
          obtain ⟨_, cur, hcur⟩ := own_parts ho
          rw [← e1, hc] at hcur; injection hcur with hcur; injection hcur with _ h9; exact absurd h9 (by decide))).moulds (by decide)
      · refine LRow.lists (n0 := N1) (n1 := W1.heap.size) (vs := vs) (c := vc) ⟨hL.1, fun i hi => ?_⟩ ?_ (by decide) (by decide)
        · obtain ⟨ga, c, h2, h3⟩ := hL.2 i hi
          exact ⟨ga, c, h2, h3.block fun g _ hg hi => hk g hi.lt (by omega) (by omega) (by omega)⟩
        · refine hO.1 |> fun h1 => ⟨h1, ?_⟩
          rcases hO.2 with h2 | ⟨g, c, cur, e2, h3, h4, h5⟩
          · exact .inl h2
          · exact .inr ⟨g, c, cur, e2, h3, (hk g (Array.getElem?_eq_some_iff.1 h4).1 (by omega) (by omega) (fun e => by
              subst e
              obtain ⟨g', e1, ho⟩ := hW.2 (by decide)
              injection e1 with e1; injection e1 with e1
              obtain ⟨_, cur', hcur⟩ := own_parts ho
              rw [← e1, h4] at hcur; injection hcur with hcur; injection hcur with _ h9; exact absurd h9 (by decide))).trans h4, h5⟩
      · have := hg.ints (by decide)
        exact this)
  have HBW := Lib.hid (hBw.trans (hb2.mono (by omega)))
  have HF := Lib.hid hgf
  clear hM hW hO hL hgc hgf hex e0 e1 h0 h1 hb2 hBw hlt
  go_wp2_with fail
  obtain ⟨W3, hW3⟩ : ∃ W3, (((((w2.setCell ⟨w.heap.size + 1, 0, none⟩ (.slice (some gm) 4 cm)).setCell ⟨w.heap.size + 1, 1, none⟩ (.slice va 4 vc)).setCell ⟨w.heap.size + 1, 2, none⟩ (.slice (some ⟨gwb, 0, none⟩) 2 cw)).setCell ⟨w.heap.size + 1, 3, none⟩ (.int .i64 exS.fresh)).setCell ⟨gwb, 0, none⟩ (.int .i64 6)) = W3 := ⟨_, rfl⟩
  rw [hW3]
  have hne : ∀ {b c : Nat} {i j : Nat}, b ≠ c → ∀ (W : World) (v : Value), (W.setCell ⟨b, i, none⟩ v).cell? ⟨c, j, none⟩ = W.cell? ⟨c, j, none⟩ := fun h W v => set_other (by intro e; injection e with e1; exact h e1)
  have t := set4 (w := w2) (.slice (some gm) 4 cm) (.slice va 4 vc) (.slice (some ⟨gwb, 0, none⟩) 2 cw) (.int .i64 exS.fresh) y0 y1 y2 y3
  obtain ⟨t0, t1, t2, t3⟩ : W3.cell? ⟨w.heap.size + 1, 0, none⟩ = some (.slice (some gm) 4 cm) ∧ W3.cell? ⟨w.heap.size + 1, 1, none⟩ = some (.slice va 4 vc) ∧ W3.cell? ⟨w.heap.size + 1, 2, none⟩ = some (.slice (some ⟨gwb, 0, none⟩) 2 cw) ∧ W3.cell? ⟨w.heap.size + 1, 3, none⟩ = some (.int .i64 6) := by
    rw [← hW3]
    exact ⟨(hne n1' _ _).trans t.1, (hne n1' _ _).trans t.2.1, (hne n1' _ _).trans t.2.2.1, (hne n1' _ _).trans t.2.2.2⟩
  have hs1 : w.heap.size + 1 ≠ w.heap.size := by omega
  have hx : ∀ i, W3.cell? ⟨w.heap.size, i, none⟩ = w2.cell? ⟨w.heap.size, i, none⟩ := fun i => by
    rw [← hW3, hne n0', hne hs1, hne hs1, hne hs1, hne hs1]
  obtain ⟨s0, s1, s2, s3⟩ : W3.cell? ⟨w.heap.size, 0, none⟩ = some (.slice (some ⟨w.heap.size + 6, 0, none⟩) 4 4) ∧ W3.cell? ⟨w.heap.size, 1, none⟩ = some (.slice (some ⟨w.heap.size + 11, 0, none⟩) 4 4) ∧ W3.cell? ⟨w.heap.size, 2, none⟩ = some (.slice (some ⟨w.heap.size + 12, 0, none⟩) 2 2) ∧ W3.cell? ⟨w.heap.size, 3, none⟩ = some (.int .i64 6) := ⟨(hx 0).trans x0, (hx 1).trans x1, (hx 2).trans x2, (hx 3).trans x3⟩
  have hfr : ∀ b i, W3.frozen? ⟨b, i, none⟩ = w2.frozen? ⟨b, i, none⟩ := fun b i => by rw [← hW3]; simp only [World.frozen?_setCell]
  have g0 : ∀ i, W3.frozen? ⟨w.heap.size, i, none⟩ = false := fun i => (hfr _ _).trans (f0 i)
  have g1 : ∀ i, W3.frozen? ⟨w.heap.size + 1, i, none⟩ = false := fun i => (hfr _ _).trans (f1 i)
  have hk3 : ∀ k, k ≠ w.heap.size + 1 → k ≠ gwb → W3.heap[k]? = w2.heap[k]? := fun k h1 h2 => by
    rw [← hW3, Below.heap_setCell _ _ _ _ h2, Below.heap_setCell _ _ _ _ h1, Below.heap_setCell _ _ _ _ h1, Below.heap_setCell _ _ _ _ h1, Below.heap_setCell _ _ _ _ h1]
  have hz3 : W3.heap.size = w2.heap.size := by rw [← hW3]; simp [World.setCell]
  have hH : HoldsI W3 gwb [6, 3] := by
    refine ⟨by omega, fun i hi => ?_, fun i => (hfr _ _).trans (HF.out i)⟩
    have : i = 0 ∨ i = 1 := by simp at hi; omega
    rw [← hW3]
    have hs1' : w.heap.size + 1 ≠ gwb := n1
    rcases this with rfl | rfl
    · exact set_same (u := .int .i64 5) (by rw [hne hs1', hne hs1', hne hs1', hne hs1']; exact z0)
    · rw [set_other (by intro e; injection e with _ e2; cases e2), hne hs1', hne hs1', hne hs1', hne hs1']; exact z1
  have HH := Lib.hid hH
  have HK3 := Lib.hid hk3
  have HB3 := Lib.hid (show Below w.heap.size w W3 by
    rw [← hW3]
    exact ((((HBW.out.setCell (by simp) _).setCell (by simp) _).setCell (by simp) _).setCell (by simp) _).setCell (by simp; omega) _)
  have p0 : w.heap.size < W3.heap.size := by omega
  have p1 : w.heap.size + 1 < W3.heap.size := by omega
  clear hH hk3 hW3 t hx hfr x0 x1 x2 x3 y0 y1 y2 y3 z0 z1 fz f0 f1 hlt' hgw1 hgw2 hz1 hz2 hz3 hN
  go_region
  obtain ⟨W4, hW4⟩ : ∃ W4, ((((((((W3.setCell ⟨w.heap.size, 0, none⟩ (.slice (some ⟨w.heap.size + 6, 0, none⟩) 4 4)).setCell ⟨w.heap.size, 1, none⟩ (.slice (some ⟨w.heap.size + 11, 0, none⟩) 4 4)).setCell ⟨w.heap.size, 2, none⟩ (.slice (some ⟨w.heap.size + 12, 0, none⟩) 2 2)).setCell ⟨w.heap.size, 3, none⟩ (.int .i64 6)).setCell ⟨w.heap.size + 1, 0, none⟩ (.slice (some gm) 4 cm)).setCell ⟨w.heap.size + 1, 1, none⟩ (.slice va 4 vc)).setCell ⟨w.heap.size + 1, 2, none⟩ (.slice (some ⟨gwb, 0, none⟩) 2 cw)).setCell ⟨w.heap.size + 1, 3, none⟩ (.int .i64 6)) = W4 := ⟨_, rfl⟩
  rw [hW4]
  have u := set4 (w := W3) (.slice (some ⟨w.heap.size + 6, 0, none⟩) 4 4) (.slice (some ⟨w.heap.size + 11, 0, none⟩) 4 4) (.slice (some ⟨w.heap.size + 12, 0, none⟩) 2 2) (.int .i64 6) s0 s1 s2 s3
  have hs1' : w.heap.size ≠ w.heap.size + 1 := by omega
  have v := set4 (w := (((W3.setCell ⟨w.heap.size, 0, none⟩ (.slice (some ⟨w.heap.size + 6, 0, none⟩) 4 4)).setCell ⟨w.heap.size, 1, none⟩ (.slice (some ⟨w.heap.size + 11, 0, none⟩) 4 4)).setCell ⟨w.heap.size, 2, none⟩ (.slice (some ⟨w.heap.size + 12, 0, none⟩) 2 2)).setCell ⟨w.heap.size, 3, none⟩ (.int .i64 6)) (b := w.heap.size + 1)
    (.slice (some gm) 4 cm) (.slice va 4 vc) (.slice (some ⟨gwb, 0, none⟩) 2 cw) (.int .i64 6)
    ((hne hs1' _ _).trans ((hne hs1' _ _).trans ((hne hs1' _ _).trans ((hne hs1' _ _).trans t0)))) ((hne hs1' _ _).trans ((hne hs1' _ _).trans ((hne hs1' _ _).trans ((hne hs1' _ _).trans t1)))) ((hne hs1' _ _).trans ((hne hs1' _ _).trans ((hne hs1' _ _).trans ((hne hs1' _ _).trans t2)))) ((hne hs1' _ _).trans ((hne hs1' _ _).trans ((hne hs1' _ _).trans ((hne hs1' _ _).trans t3))))
  obtain ⟨k0, k1, k2, k3⟩ : W4.cell? ⟨w.heap.size + 1, 0, none⟩ = some (.slice (some gm) 4 cm) ∧ W4.cell? ⟨w.heap.size + 1, 1, none⟩ = some (.slice va 4 vc) ∧ W4.cell? ⟨w.heap.size + 1, 2, none⟩ = some (.slice (some ⟨gwb, 0, none⟩) 2 cw) ∧ W4.cell? ⟨w.heap.size + 1, 3, none⟩ = some (.int .i64 6) := by
    rw [← hW4]; exact v
  obtain ⟨l0, l1, l2, l3⟩ : W4.cell? ⟨w.heap.size, 0, none⟩ = some (.slice (some ⟨w.heap.size + 6, 0, none⟩) 4 4) ∧ W4.cell? ⟨w.heap.size, 1, none⟩ = some (.slice (some ⟨w.heap.size + 11, 0, none⟩) 4 4) ∧ W4.cell? ⟨w.heap.size, 2, none⟩ = some (.slice (some ⟨w.heap.size + 12, 0, none⟩) 2 2) ∧ W4.cell? ⟨w.heap.size, 3, none⟩ = some (.int .i64 6) := by
    rw [← hW4]
    exact ⟨(hne hs1 _ _).trans ((hne hs1 _ _).trans ((hne hs1 _ _).trans ((hne hs1 _ _).trans u.1))), (hne hs1 _ _).trans ((hne hs1 _ _).trans ((hne hs1 _ _).trans ((hne hs1 _ _).trans u.2.1))), (hne hs1 _ _).trans ((hne hs1 _ _).trans ((hne hs1 _ _).trans ((hne hs1 _ _).trans u.2.2.1))), (hne hs1 _ _).trans ((hne hs1 _ _).trans ((hne hs1 _ _).trans ((hne hs1 _ _).trans u.2.2.2)))⟩
  have hk4 : ∀ k, k ≠ w.heap.size → k ≠ w.heap.size + 1 → W4.heap[k]? = W3.heap[k]? := fun k h1 h2 => by
    rw [← hW4]
    refine (Below.heap_setCell _ _ _ _ h2).trans ((Below.heap_setCell _ _ _ _ h2).trans ((Below.heap_setCell _ _ _ _ h2).trans ((Below.heap_setCell _ _ _ _ h2).trans ?_)))
    exact (Below.heap_setCell _ _ _ _ h1).trans ((Below.heap_setCell _ _ _ _ h1).trans ((Below.heap_setCell _ _ _ _ h1).trans (Below.heap_setCell _ _ _ _ h1)))
  have hz4 : W4.heap.size = W3.heap.size := by rw [← hW4]; simp [World.setCell]
  have HP := Lib.hid (HK.out W4 (fun k _ h1 h2 h3 => (hk4 k h1 h2).trans (HK3.out k h2 h3)) (HH.out.block (Nat.le_of_eq hz4.symm) (hk4 gwb n0' n1')))
  have HB4 := Lib.hid (show Below w.heap.size w W4 by
    rw [← hW4]
    exact (((((((HB3.out.setCell (by simp) _).setCell (by simp) _).setCell (by simp) _).setCell (by simp) _).setCell (by simp) _).setCell (by simp) _).setCell (by simp) _).setCell (by simp) _)
  clear u v hk4 hz4 hW4 s0 s1 s2 s3 t0 t1 t2 t3
  go_wp2_with fail
  refine bodyPost_ret (v := .tuple #[.agg #[.slice (some ⟨w.heap.size + 6, 0, none⟩) 4 4, .slice (some ⟨w.heap.size + 11, 0, none⟩) 4 4, .slice (some ⟨w.heap.size + 12, 0, none⟩) 2 2, .int .i64 6], .agg #[.slice (some gm) 4 cm, .slice va 4 vc, .slice (some ⟨gwb, 0, none⟩) 2 cw, .int .i64 6]]) (by simp [results, Try.results70, go_sem, k0, k1, k2, k3, l0, l1, l2, l3]) rfl ?_
  exact ⟨_, _, _, _, _, _, _, _, _, _, _, _, rfl, HP.out.1.below (Below.refl _ _).drew, HP.out.2.below (Below.refl _ _).drew, HB4.out.drew⟩
end Go.Proofs.Ytigeiaiohdemiaa
