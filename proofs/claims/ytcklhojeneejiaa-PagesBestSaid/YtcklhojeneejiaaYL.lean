/- Package pages: without, strips. -/
import Derived.Test.YtcklhojeneejiaaYK
namespace Go.Proofs.Ytcklhojeneejiaa
set_option linter.unusedVariables false
set_option linter.unusedSimpArgs false
open Go.RowKit

theorem frz3 {w W0 : World} {cs : Array Value} {T : TypeId} {ds : Array Value} {U : TypeId} {es : Array Value} {V : TypeId} (h : ((w.alloc (.cells cs T)).alloc (.cells ds U)).alloc (.cells es V) = W0) (i : Nat) : W0.frozen? ⟨w.heap.size, i, none⟩ = false := by
  subst h; go_simp
set_option maxRecDepth 100000 in
@[local go_sem] theorem index0 (a b c : Int) (w : World) : Sem.run Try.prog (Instr.index 99 (.agg #[.int .i64 a, .int .i64 b, .int .i64 c]) (.int .i64 0)) w = .ok (.int .i64 a) w := by kernel_rfl
set_option maxRecDepth 100000 in
@[local go_sem] theorem index1 (a b c : Int) (w : World) : Sem.run Try.prog (Instr.index 99 (.agg #[.int .i64 a, .int .i64 b, .int .i64 c]) (.int .i64 1)) w = .ok (.int .i64 b) w := by kernel_rfl
set_option maxRecDepth 100000 in
@[local go_sem] theorem index2 (a b c : Int) (w : World) : Sem.run Try.prog (Instr.index 99 (.agg #[.int .i64 a, .int .i64 b, .int .i64 c]) (.int .i64 2)) w = .ok (.int .i64 c) w := by kernel_rfl
def WoI (l s : T3) (g : Nat) (W0 wr : World) (i : Value) : Prop := ∃ t : T3, T3At wr g t ∧ W0.grownBy wr (some g) ∧
  ((i = .int .i64 0 ∧ t = l) ∨ (i = .int .i64 1 ∧ t = ⟨l.a - s.a, l.b, l.c⟩) ∨ (i = .int .i64 2 ∧ t = ⟨l.a - s.a, l.b - s.b, l.c⟩) ∨ (i = .int .i64 3 ∧ t = subS l s))

set_option maxRecDepth 100000 in
set_option maxHeartbeats 4000000 in
theorem without_any (s l : T3) (w : World) (hs : leS s l) (hl : l.a ≤ 4 ∧ l.b ≤ 4 ∧ l.c ≤ 4) :
    Calls Try.prog 126 #[.agg #[.int .i64 l.a, .int .i64 l.b, .int .i64 l.c], .agg #[.int .i64 s.a, .int .i64 s.b, .int .i64 s.c]] w fun e w' => e = .returned (.agg #[.int .i64 (subS l s).a, .int .i64 (subS l s).b, .int .i64 (subS l s).c]) ∧ Below w.heap.size w w' := by
  obtain ⟨h1, h2, h3, h4, h5, h6⟩ := hs
  obtain ⟨h7, h8, h9⟩ := hl
  go_enter Try.func126, Try.ntmps126
  go_wp2_with fail
  obtain ⟨W0, hW0, hB0, hs0, -, hr0, -, hrf, hz0⟩ := name3 w #[.int .i64 l.a, .int .i64 l.b, .int .i64 l.c] 99 #[.int .i64 s.a, .int .i64 s.b, .int .i64 s.c] 99 #[.int .i64 0, .int .i64 0, .int .i64 0] 99
  have hT0 : T3At W0 w.heap.size l := ⟨⟨hs0 0, hs0 1, hs0 2⟩, fun i => frz3 hW0 i⟩
  rw [hW0]
  clear hW0
  have HB0 := Lib.hid hB0
  have HT0 := Lib.hid hT0
  have HR0 := Lib.hid hr0
  have HRF := Lib.hid hrf
  clear hB0 hs0 hT0 hr0 hrf
  go_loopw [8] (fun i wr => WoI l s w.heap.size W0 wr i) (fun i _ => (3 - intOf i).toNat)
  case atStart => exact ⟨l, HT0.out, gbx_refl _ _, .inl ⟨rfl, rfl⟩⟩
  case round =>
    obtain ⟨t, ht, hgr, hcase⟩ := hrel
    have HT := Lib.hid ht
    have HGR := Lib.hid hgr
    obtain ⟨⟨t0, t1, t2⟩, tf⟩ := ht
    have f0 := tf 0
    have f1 := tf 1
    have f2 := tf 2
    clear tf
    rcases hcase with ⟨rfl, rfl⟩ | ⟨rfl, rfl⟩ | ⟨rfl, rfl⟩ | ⟨rfl, rfl⟩
    · clear hgr
      go_wp2_with fail
      go_roundw
      case rel => exact ⟨_, HT.out.set0 _, gbx_set HGR.out _ _, .inr (.inl ⟨rfl, rfl⟩)⟩
      case measure => simp [intOf]
    · simp only at t0 t1 t2
      clear hgr
      go_wp2_with fail
      go_roundw
      case rel => exact ⟨_, HT.out.set1 _, gbx_set HGR.out _ _, .inr (.inr (.inl ⟨rfl, rfl⟩))⟩
      case measure => simp [intOf]
    · simp only at t0 t1 t2
      clear hgr
      go_wp2_with fail
      go_roundw
      case rel => exact ⟨_, HT.out.set2 _, gbx_set HGR.out _ _, .inr (.inr (.inr ⟨rfl, rfl⟩))⟩
      case measure => simp [intOf]
    · have hne : some (w.heap.size + 1 + 1) ≠ some w.heap.size := fun e => by injection e with e; omega
      have r0 := hgr.cell (a := ⟨w.heap.size + 1 + 1, 0, none⟩) (HR0.out 0) hne
      have r1 := hgr.cell (a := ⟨w.heap.size + 1 + 1, 1, none⟩) (HR0.out 1) hne
      have r2 := hgr.cell (a := ⟨w.heap.size + 1 + 1, 2, none⟩) (HR0.out 2) hne
      have hblk : wr.heap[w.heap.size + 1 + 1]? = W0.heap[w.heap.size + 1 + 1]? := hgr.block _ (by omega) hne
      have q0 : wr.frozen? ⟨w.heap.size + 1 + 1, 0, none⟩ = false := (World.frozen?_of_block (w := W0) (a := ⟨w.heap.size + 1 + 1, 0, none⟩) hblk).trans (HRF.out 0)
      have q1 : wr.frozen? ⟨w.heap.size + 1 + 1, 1, none⟩ = false := (World.frozen?_of_block (w := W0) (a := ⟨w.heap.size + 1 + 1, 1, none⟩) hblk).trans (HRF.out 1)
      have q2 : wr.frozen? ⟨w.heap.size + 1 + 1, 2, none⟩ = false := (World.frozen?_of_block (w := W0) (a := ⟨w.heap.size + 1 + 1, 2, none⟩) hblk).trans (HRF.out 2)
      have kz : w.heap.size + 1 + 1 < wr.heap.size := Nat.lt_of_lt_of_le (by omega) hgr.size
      have HBW := Lib.hid (HB0.out.trans (grown_low hgr HB0.out.size (fun r e => by injection e with e; omega)))
      clear hgr hne hblk
      go_wp2_with fail
      refine bodyPost_ret (v := .agg #[.int .i64 (subS l s).a, .int .i64 (subS l s).b, .int .i64 (subS l s).c]) (by simp [results, Try.results126, go_sem, *]) rfl ⟨rfl, ?_⟩
      have hBB := HBW.out
      exact (by repeat (first | assumption | exact Below.refl _ _ | (refine Below.alloc ?_ (by first | omega | (simp; omega) | simp) _) | (refine Below.setCell ?_ (by first | omega | (simp; omega) | simp) _) | refine Below.drew ?_))

def stockTo (f : PFrame) (k : Nat) : T3 := ⟨if 0 < k then f.many 0 else 0, if 1 < k then f.many 1 else 0, if 2 < k then f.many 2 else 0⟩
theorem stock_all {f : PFrame} (h : f.strips.length ≤ 3) : stockTo f f.strips.length = f.stock := by
  unfold stockTo PFrame.stock PFrame.many
  refine T3.ext' ?_ ?_ ?_ <;> simp only
  · split
    · rfl
    · rw [List.getElem?_eq_none (by omega)]; rfl
  · split
    · rfl
    · rw [List.getElem?_eq_none (by omega)]; rfl
  · split
    · rfl
    · rw [List.getElem?_eq_none (by omega)]; rfl

set_option maxRecDepth 100000 in
set_option maxHeartbeats 4000000 in
theorem strips_any (f : PFrame) (sa : Option Addr) (sl sc : Nat) (pa : Option Addr) (pl pc : Nat) (ca : Option Addr) (cl cc : Nat) (ho : f.ok = true) (w : World) (hp : PAt w sa sl sc pa pl pc ca cl cc f) :
    Calls Try.prog 119 #[.agg #[.int .i64 f.len, .int .i64 f.slack, .slice sa sl sc, .slice pa pl pc, .slice ca cl cc]] w fun e w' => e = .returned (.agg #[.int .i64 f.stock.a, .int .i64 f.stock.b, .int .i64 f.stock.c]) ∧ Below w.heap.size w w' := by
  obtain ⟨hsl, hsm, hsc⟩ := hp.1
  have hsl3 := (PFrame.ok_parts ho).2.2.2.2.1
  have HSL := Lib.hid hsl
  have HSC := Lib.hid hsc
  have HE := Lib.hid (stock_all hsl3)
  have HMA := Lib.hid (fun k (hk : k < f.strips.length) => show f.many k = f.strips[k].m from by unfold PFrame.many; simp [hk])
  have hsl4 : sl ≤ 3 := by omega
  clear hp hsl hsm hsc ho hsl3
  go_enter Try.func119, Try.ntmps119
  go_wp2_with fail
  obtain ⟨W0, hW0, hB0, hs0, hr0, hg0, hrf, hgf, hz0⟩ := name3 w #[.int .i64 f.len, .int .i64 f.slack, .slice sa sl sc, .slice pa pl pc, .slice ca cl cc] 87 #[.int .i64 0, .int .i64 0, .int .i64 0] 99 #[.int .i64 0, .int .i64 0, .int .i64 0] 99
  rw [hW0]
  clear hW0
  obtain ⟨g, hgd⟩ : ∃ g, g = w.heap.size + 1 + 1 := ⟨_, rfl⟩
  rw [← hgd]
  rw [← hgd] at hg0 hgf
  have hT0 : T3At W0 g ⟨0, 0, 0⟩ := ⟨⟨hg0 0, hg0 1, hg0 2⟩, hgf⟩
  have hgw : w.heap.size + 1 < g := by omega
  have hgz : g < W0.heap.size := by omega
  have HB0 := Lib.hid hB0
  have HS0 := Lib.hid hs0
  have HT0 := Lib.hid hT0
  have HR0 := Lib.hid hr0
  have HRF := Lib.hid hrf
  clear hB0 hT0 hr0 hrf hg0 hgf hgd hz0
  obtain ⟨x0, x1, x2, x3, x4⟩ : W0.cell? ⟨w.heap.size, 0, none⟩ = some (.int .i64 f.len) ∧ W0.cell? ⟨w.heap.size, 1, none⟩ = some (.int .i64 f.slack) ∧ W0.cell? ⟨w.heap.size, 2, none⟩ = some (.slice sa sl sc) ∧ W0.cell? ⟨w.heap.size, 3, none⟩ = some (.slice pa pl pc) ∧ W0.cell? ⟨w.heap.size, 4, none⟩ = some (.slice ca cl cc) := ⟨hs0 0, hs0 1, hs0 2, hs0 3, hs0 4⟩
  clear hs0
  go_wp2_with fail
  clear x0 x1 x2 x3 x4
  go_loopw [10] (fun i wr => ∃ k : Nat, k ≤ sl ∧ i = .int .i64 k ∧ T3At wr g (stockTo f k) ∧ W0.grownBy wr (some g)) (fun i _ => sl - (intOf i).toNat)
  case atStart => exact ⟨0, by omega, rfl, HT0.out, gbx_refl _ _⟩
  case round =>
    obtain ⟨k, hk, rfl, ht, hgr⟩ := hrel
    have HT := Lib.hid ht
    have HGR := Lib.hid hgr
    have hbw := HB0.out.trans (grown_low hgr HB0.out.size (fun r e => by injection e with e; omega))
    by_cases hlt : k < sl
    · have hk2 : k < f.strips.length := by rw [HSL.out]; exact hlt
      obtain ⟨b, o, rfl, hbB, hcell⟩ := HSC.out (by omega)
      obtain ⟨d0, d1⟩ := hcell k hk2
      have c0 := (hbw.cell (p := ⟨b, o + k * 2, none⟩) hbB).trans d0
      have c1 := (hbw.cell (p := ⟨b, o + k * 2 + 1, none⟩) hbB).trans d1
      rw [← HMA.out k hk2] at c1
      obtain ⟨⟨t0, t1, t2⟩, tf⟩ := ht
      have f0 := tf 0
      have f1 := tf 1
      have f2 := tf 2
      have hzr := hgr.size
      have hgr2 : g < wr.heap.size := Nat.lt_of_lt_of_le hgz hzr
      have hkl : (k : Int) < (sl : Int) := by omega
      clear hgr tf hbw hcell d0 d1
      have hk3 : k = 0 ∨ k = 1 ∨ k = 2 := by omega
      rcases hk3 with rfl | rfl | rfl
      · simp only [stockTo] at t0 t1 t2
        simp only [Nat.zero_mul, Nat.add_zero] at c0 c1
        go_wp2_with fail
        go_roundw
        case rel => exact ⟨1, by omega, by go_num, (HT.out.set0 _).below ((Below.refl _ _).alloc (Nat.le_refl _) _), gbx_alloc (gbx_set HGR.out _ _) _⟩
        case measure => simp [intOf]; omega
      · simp only [stockTo] at t0 t1 t2
        go_wp2_with fail
        go_roundw
        case rel => exact ⟨2, by omega, by go_num, (HT.out.set1 _).below ((Below.refl _ _).alloc (Nat.le_refl _) _), gbx_alloc (gbx_set HGR.out _ _) _⟩
        case measure => simp [intOf]; omega
      · simp only [stockTo] at t0 t1 t2
        go_wp2_with fail
        go_roundw
        case rel => exact ⟨3, by omega, by go_num, (HT.out.set2 _).below ((Below.refl _ _).alloc (Nat.le_refl _) _), gbx_alloc (gbx_set HGR.out _ _) _⟩
        case measure => simp [intOf]; omega
    · obtain rfl : sl = k := by omega
      rw [show stockTo f sl = f.stock by rw [← HE.out, HSL.out]] at ht
      obtain ⟨⟨t0, t1, t2⟩, tf⟩ := ht
      have hne : some (w.heap.size + 1) ≠ some g := fun e => by injection e with e; omega
      have r0 := hgr.cell (a := ⟨w.heap.size + 1, 0, none⟩) (HR0.out 0) hne
      have r1 := hgr.cell (a := ⟨w.heap.size + 1, 1, none⟩) (HR0.out 1) hne
      have r2 := hgr.cell (a := ⟨w.heap.size + 1, 2, none⟩) (HR0.out 2) hne
      have hblk : wr.heap[w.heap.size + 1]? = W0.heap[w.heap.size + 1]? := hgr.block _ (by omega) hne
      have q0 : wr.frozen? ⟨w.heap.size + 1, 0, none⟩ = false := (World.frozen?_of_block (w := W0) (a := ⟨w.heap.size + 1, 0, none⟩) hblk).trans (HRF.out 0)
      have q1 : wr.frozen? ⟨w.heap.size + 1, 1, none⟩ = false := (World.frozen?_of_block (w := W0) (a := ⟨w.heap.size + 1, 1, none⟩) hblk).trans (HRF.out 1)
      have q2 : wr.frozen? ⟨w.heap.size + 1, 2, none⟩ = false := (World.frozen?_of_block (w := W0) (a := ⟨w.heap.size + 1, 2, none⟩) hblk).trans (HRF.out 2)
      have kz : w.heap.size + 1 < wr.heap.size := Nat.lt_of_lt_of_le (by omega) hgr.size
      have HBW := Lib.hid hbw
      clear hgr hne hblk hbw tf
      go_wp2_with fail
      refine bodyPost_ret (v := .agg #[.int .i64 f.stock.a, .int .i64 f.stock.b, .int .i64 f.stock.c]) (by simp [results, Try.results119, go_sem, *]) rfl ⟨rfl, ?_⟩
      have hBB := HBW.out
      exact (by repeat (first | assumption | exact Below.refl _ _ | (refine Below.alloc ?_ (by first | omega | (simp; omega) | simp) _) | (refine Below.setCell ?_ (by first | omega | (simp; omega) | simp) _) | refine Below.drew ?_))
end Go.Proofs.Ytcklhojeneejiaa
