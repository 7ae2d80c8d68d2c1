/- Package pages: layouts, locks. -/
import Derived.Test.YtcklhojeneejiaaZI
namespace Go.Proofs.Ytcklhojeneejiaa
set_option linter.unusedVariables false
set_option linter.unusedSimpArgs false
open Go.RowKit Go.Shelf

attribute [local go_sem] Oper.semAt_some

set_option maxRecDepth 100000 in
set_option maxHeartbeats 1000000 in
theorem layouts_any (f : PFrame) (sa : Option Addr) (sl sc : Nat) (pa : Option Addr) (pl pc : Nat) (ca : Option Addr) (cl cc : Nat) (c : Nat) (w : World) :
    Calls Try.prog 107 #[.agg #[.int .i64 f.len, .int .i64 f.slack, .slice sa sl sc, .slice pa pl pc, .slice ca cl cc], .int .i64 c] w fun e w' => ∃ bf bo, e = .returned (.func (.func 116) #[] #[.pointer (some ⟨bf, 0, none⟩), .pointer (some ⟨bo, 0, none⟩)]) ∧ Below w.heap.size w w' ∧
      (w.heap.size ≤ bf ∧ w.heap.size ≤ bo) ∧ (bf < w'.heap.size ∧ bo < w'.heap.size) ∧ (∀ i, w'.cell? ⟨bf, i, none⟩ = (#[.int .i64 f.len, .int .i64 f.slack, .slice sa sl sc, .slice pa pl pc, .slice ca cl cc] : Array Value)[i]?) ∧ w'.cell? ⟨bo, 0, none⟩ = some (.int .i64 c) := by
  go_enter Try.func107, Try.ntmps107
  go_wp2_with fail
  go_ret
  exact ⟨_, _, rfl, (by repeat (first | exact Below.refl _ _ | (refine Below.alloc ?_ (by first | omega | (simp; omega) | simp) _) | (refine Below.setCell ?_ (by first | omega | (simp; omega) | simp) _) | refine Below.drew ?_)), ⟨by first | omega | (simp; omega) | simp, by first | omega | (simp; omega) | simp⟩, ⟨by first | omega | (simp; omega) | simp, by first | omega | (simp; omega) | simp⟩, fun i => by go_simp, by go_simp⟩

/-- Whether some layout locks the page without a choice's pieces. -/
def PFrame.locks (f : PFrame) (c : Nat) : Bool := !(f.lays c).isEmpty
def LocksI (f : PFrame) (sa : Option Addr) (sl sc : Nat) (pa : Option Addr) (pl pc : Nat) (ca : Option Addr) (cl cc : Nat) (c bf bo : Nat) (b : Bool) (w W : World) : Prop :=
  Below w.heap.size w W ∧ (∀ i, W.cell? ⟨bf, i, none⟩ = (#[.int .i64 f.len, .int .i64 f.slack, .slice sa sl sc, .slice pa pl pc, .slice ca cl cc] : Array Value)[i]?) ∧ W.cell? ⟨bo, 0, none⟩ = some (.int .i64 c) ∧ W.cell? ⟨w.heap.size + 1, 0, none⟩ = some (.bool b) ∧ W.frozen? ⟨w.heap.size + 1, 0, none⟩ = false
theorem LocksI.low {f : PFrame} {sa : Option Addr} {sl sc : Nat} {pa : Option Addr} {pl pc : Nat} {ca : Option Addr} {cl cc : Nat} {c bf bo n : Nat} {b : Bool} {w W1 W2 : World} (h : LocksI f sa sl sc pa pl pc ca cl cc c bf bo b w W1) (hb : Below n W1 W2) (h1 : bf < n) (h2 : bo < n) (h3 : w.heap.size + 1 < n) : LocksI f sa sl sc pa pl pc ca cl cc c bf bo b w W2 := by
  obtain ⟨k1, k2, k3, k4, k5⟩ := h
  exact ⟨k1.trans (hb.mono (by omega)), fun i => (hb.cell (p := ⟨bf, i, none⟩) h1).trans (k2 i), (hb.cell (p := ⟨bo, 0, none⟩) h2).trans k3, (hb.cell (p := ⟨_, 0, none⟩) h3).trans k4, (hb.frozen (p := ⟨_, 0, none⟩) h3).trans k5⟩

set_option maxRecDepth 100000 in
set_option maxHeartbeats 8000000 in
theorem locks_any (f : PFrame) (sa : Option Addr) (sl sc : Nat) (pa : Option Addr) (pl pc : Nat) (ca : Option Addr) (cl cc : Nat) (ho : f.ok = true) (c : Nat) (hc : c < 64) (w : World) (hp : PAt w sa sl sc pa pl pc ca cl cc f) :
    Calls Try.prog 94 #[.agg #[.int .i64 f.len, .int .i64 f.slack, .slice sa sl sc, .slice pa pl pc, .slice ca cl cc], .int .i64 c] w fun e w' => e = .returned (.bool (f.locks c)) ∧ Below w.heap.size w w' := by
  have HLY := Lib.hid (fun w1 => layouts_any f sa sl sc pa pl pc ca cl cc c w1)
  refine (callsIn_wide (n := 14)).1 ?_
  refine callsIn_of_wp_marks Try.func94 rfl trivial ?_ rfl
  simp only [Try.ntmps94, List.size_toArray, List.length_cons, List.length_nil, Nat.reduceAdd, Nat.reduceSub, Array.replicate_succ, Array.replicate_zero, List.push_toArray, List.append_toArray, List.nil_append, List.cons_append]
  gi_upto_region 1 with fail
  obtain ⟨W0, hW0, hB0, hs0, hr0, hz0⟩ := name2c w #[.int .i64 f.len, .int .i64 f.slack, .slice sa sl sc, .slice pa pl pc, .slice ca cl cc] 87 #[.bool false] 4
  have hfr0 : W0.frozen? ⟨w.heap.size + 1, 0, none⟩ = false := by subst hW0; go_simp
  try rw [hW0]
  clear hW0
  obtain ⟨x0, x1, x2, x3, x4⟩ : W0.cell? ⟨w.heap.size, 0, none⟩ = some (.int .i64 f.len) ∧ W0.cell? ⟨w.heap.size, 1, none⟩ = some (.int .i64 f.slack) ∧ W0.cell? ⟨w.heap.size, 2, none⟩ = some (.slice sa sl sc) ∧ W0.cell? ⟨w.heap.size, 3, none⟩ = some (.slice pa pl pc) ∧ W0.cell? ⟨w.heap.size, 4, none⟩ = some (.slice ca cl cc) := ⟨hs0 0, hs0 1, hs0 2, hs0 3, hs0 4⟩
  have HB0 := Lib.hid hB0
  clear hB0 hs0
  gi_wp2_with (refine ⟨trivial, ?_⟩; gi_at_call 107; refine (callsIn_wide.2 (HLY.out _)).mono ?_; rintro e w1 ⟨bf, bo, rfl, hb1, hlow, hhigh, hcf, hco⟩)
  have hz1 := hb1.size
  have hwl : w.heap.size + 1 < w1.heap.size := by omega
  have HI1 := Lib.hid (show LocksI f sa sl sc pa pl pc ca cl cc c bf bo false w w1 from ⟨HB0.out.trans (hb1.mono HB0.out.size), hcf, hco, (hb1.cell (p := ⟨w.heap.size + 1, 0, none⟩) (by show w.heap.size + 1 < _; omega)).trans (hr0 0), (hb1.frozen (p := ⟨w.heap.size + 1, 0, none⟩) (by show w.heap.size + 1 < _; omega)).trans hfr0⟩)
  clear hcf hco x0 x1 x2 x3 x4 hb1
  refine wpIn_rangeUp (layouts1_it f sa sl sc pa pl pc ca cl cc ho c hc bf bo) rfl (enters_of Try.func116 (by kernel_rfl) rfl) (fun _ => rfl)
    (fun pre W => pre = [] ∧ LocksI f sa sl sc pa pl pc ca cl cc c bf bo false w W) (fun W => f.lays c ≠ [] ∧ LocksI f sa sl sc pa pl pc ca cl cc c bf bo true w W) ?hI ?hIx ?hEnv ?hIxE ?h0
    (fun x a' wx => a' = { tmps := #[.agg #[.int .i64 f.len, .int .i64 f.slack, .slice sa sl sc, .slice pa pl pc, .slice ca cl cc], .int .i64 c, .pointer (some ⟨w.heap.size, 0, none⟩), undef, .pointer (some ⟨w.heap.size + 1, 0, none⟩), .agg #[.int .i64 f.len, .int .i64 f.slack, .slice sa sl sc, .slice pa pl pc, .slice ca cl cc], .int .i64 c, .func (.func 116) #[] #[.pointer (some ⟨bf, 0, none⟩), .pointer (some ⟨bo, 0, none⟩)], .agg (cells9 x)], defers := [] }) ?hAx ?assign ?body ?done ?stop
  case hI =>
    rintro pre W1 W2 ⟨h1, h2⟩ hb
    exact ⟨h1, h2.low hb hhigh.1 hhigh.2 hwl⟩
  case hIx =>
    rintro W1 W2 ⟨h1, h2⟩ hb
    exact ⟨h1, h2.low hb hhigh.1 hhigh.2 hwl⟩
  case hEnv =>
    rintro pre W1 ⟨-, h2⟩
    exact ⟨hp.below h2.1, h2.2.1, h2.2.2.1⟩
  case hIxE =>
    rintro W1 ⟨-, h2⟩
    exact ⟨hp.below h2.1, h2.2.1, h2.2.2.1⟩
  case h0 => exact ⟨rfl, HI1.out⟩
  case hAx =>
    rintro x a' W1 W2 h -
    exact h
  case assign =>
    intro l x W1 K hz hK
    unfold encL
    gi_wp2
    exact hK _ _ (Below.refl _ _) (by simp)
  case body =>
    rintro l pre x a' W1 hz ⟨rfl, h1⟩ hx rfl
    have hx : x ∈ f.lays c := hx
    have hk := (KeepsUp.refl w1.heap.size W1).set (b := w.heap.size + 1) (i := 0) (.inl hwl) (.bool true)
    obtain ⟨k1, k2, k3, k4, k5⟩ := h1
    have hsz := k1.size
    have HR := Lib.hid (show LocksI f sa sl sc pa pl pc ca cl cc c bf bo true w (W1.setCell ⟨w.heap.size + 1, 0, none⟩ (.bool true)) from
      have hc : ∀ b i, b ≠ w.heap.size + 1 → (W1.setCell ⟨w.heap.size + 1, 0, none⟩ (.bool true)).cell? ⟨b, i, none⟩ = W1.cell? ⟨b, i, none⟩ := fun b i h => World.cell?_of_block (w := W1) (a := ⟨b, i, none⟩) (Below.heap_setCell W1 _ _ b h)
      ⟨k1.setCell (by show w.heap.size ≤ w.heap.size + 1; omega) _, fun i => (hc _ i (by omega)).trans (k2 i), (hc _ 0 (by omega)).trans k3, set_cell k4, set_frz k5⟩)
    clear k1 k2 k3
    gi_wp2_with fail
    exact ⟨hk, List.ne_nil_of_mem hx, HR.out⟩
  case done =>
    rintro D W2 hD ⟨h0, h1⟩ hd
    obtain ⟨k1, k2, k3, k4, k5⟩ := h1
    have hDs := (Array.getElem?_eq_some_iff.1 hd).1
    have hDB : w.heap.size + 1 < D := by omega
    have hbs : Below w.heap.size W2 (W2.setCell ⟨w.heap.size + 1, 0, none⟩ (.bool false)) := (Below.refl _ W2).setCell (by show w.heap.size ≤ w.heap.size + 1; omega) _
    have hd2 : (W2.setCell ⟨w.heap.size + 1, 0, none⟩ (.bool false)).heap[D]? = some (.deferred (some [])) := (Below.heap_setCell W2 _ _ D (by show D ≠ w.heap.size + 1; omega)).trans hd
    have HBF := Lib.hid (k1.trans (hbs.trans (below_putObj (n := w.heap.size) (.deferred none) hd2 (by omega))))
    have hrd : ((W2.setCell ⟨w.heap.size + 1, 0, none⟩ (.bool false)).putObj D (.deferred none)).cell? ⟨w.heap.size + 1, 0, none⟩ = some (.bool false) :=
      (World.cell?_of_block (World.putObj_heap_other (by show w.heap.size + 1 ≠ D; omega))).trans (set_cell k4)
    have HLK := Lib.hid (show f.locks c = false by unfold PFrame.locks; rw [h0]; rfl)
    clear k1 k2 k3 hbs
    gi_wp2_with fail
    refine ⟨by simp, .inl ⟨_, _, rfl, run_takeDeferred hd2, ?_⟩⟩
    exact ⟨.bool false, by simp [results, Try.results94, go_sem, hrd], by rw [HLK.out], HBF.out⟩
  case stop =>
    rintro D W2 hD ⟨h0, h1⟩ hd
    obtain ⟨k1, k2, k3, k4, k5⟩ := h1
    have hDB : w.heap.size + 1 < D := by omega
    have hrd : (W2.putObj D (.deferred none)).cell? ⟨w.heap.size + 1, 0, none⟩ = some (.bool true) :=
      (World.cell?_of_block (World.putObj_heap_other (by show w.heap.size + 1 ≠ D; omega))).trans k4
    refine ⟨by simp, .inl ⟨_, _, rfl, run_takeDeferred hd, ?_⟩⟩
    refine ⟨.bool true, by simp [results, Try.results94, go_sem, hrd], ?_, k1.trans (below_putObj (n := w.heap.size) (.deferred none) hd (by omega))⟩
    rw [show f.locks c = true by unfold PFrame.locks; cases h : f.lays c with | nil => exact absurd h h0 | cons x xs => rfl]
end Go.Proofs.Ytcklhojeneejiaa
