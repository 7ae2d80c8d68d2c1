/- Package flongs: spans, what is sure. -/
import Derived.Test.YtigeiaiohdemiaaFE
import Derived.Deep.RegionWith
import Derived.Deep.DeepCutAuto
namespace Go.Proofs.Ytigeiaiohdemiaa
set_option linter.unusedVariables false
set_option linter.unusedSimpArgs false
open Go.RowKit

/-- A slice of casts reads as a list of functions of the mould. -/
def CastsAt (w : World) (a : Option Addr) (len : Nat) (L : List (Nat → Int)) : Prop :=
  L.length = len ∧ len ≤ maxLen ∧ (0 < len → ∃ b o, a = some ⟨b, o, none⟩ ∧ b < w.heap.size ∧ ∀ i (h : i < L.length) t, t < 5 → w.cell? ⟨b, o + i * 5 + t, none⟩ = some (.int .i64 (L[i] t)))
theorem CastsAt.below {w w1 : World} {a : Option Addr} {len : Nat} {L : List (Nat → Int)} (hb : Below w.heap.size w w1) (h : CastsAt w a len L) : CastsAt w1 a len L := by
  obtain ⟨h1, h2, h3⟩ := h
  refine ⟨h1, h2, fun hl => ?_⟩
  obtain ⟨b, o, ha, hB, hc⟩ := h3 hl
  exact ⟨b, o, ha, Nat.lt_of_lt_of_le hB hb.size, fun i hi t ht => (hb.cell (p := ⟨b, _, none⟩) hB).trans (hc i hi t ht)⟩
theorem cells5_len (L : List (Nat → Int)) : (cells5 L).length = L.length * 5 := by
  induction L with
  | nil => rfl
  | cons c L ih => show ((_ : List Value) ++ cells5 L).length = _; rw [List.length_append, ih]; simp; omega
theorem cells5_get : ∀ (L : List (Nat → Int)) (i : Nat) (h : i < L.length) (t : Nat), t < 5 → (cells5 L)[i * 5 + t]? = some (.int .i64 (L[i] t))
  | c :: L, 0, _, t, ht => by
    have : t = 0 ∨ t = 1 ∨ t = 2 ∨ t = 3 ∨ t = 4 := by omega
    rcases this with rfl | rfl | rfl | rfl | rfl <;> rfl
  | c :: L, i + 1, h, t, ht => by
    have e : (i + 1) * 5 + t = (i * 5 + t) + 5 := by omega
    rw [e]
    show ([_, _, _, _, _] ++ cells5 L)[(i * 5 + t) + 5]? = _
    rw [List.getElem?_append_right (by simp)]
    simp only [List.length_cons, List.length_nil, Nat.zero_add, Nat.add_sub_cancel]
    exact cells5_get L i (by simpa using h) t ht
theorem casts_own {w : World} {n0 len : Nat} {v : Value} {L : List (Nat → Int)} (h : w.ownsRow n0 85 5 v len (cells5 L)) (hm : len ≤ maxLen) : ∃ a cap, v = .slice a len cap ∧ CastsAt w a len L := by
  have hl : L.length = len := by have := h.1; rw [cells5_len] at this; omega
  rcases h.2 with ⟨h0, h1⟩ | ⟨g, cap', cur, hv, hg, hb, hn, hc, hcs, ht⟩
  · subst h1
    exact ⟨none, 0, h0, hl, hm, fun h => by omega⟩
  · refine ⟨_, _, hv, hl, hm, fun _ => ⟨g, 0, rfl, (Array.getElem?_eq_some_iff.1 hb).1, fun i hi t ht' => ?_⟩⟩
    subst hv
    have := h.cells (g := g) rfl (i * 5 + t) _ (cells5_get L i hi t ht')
    rw [Addr.add_lit] at this
    rwa [show 0 + i * 5 + t = 0 + (i * 5 + t) by omega]

def loTo (L : List (Nat → Int)) (m k : Nat) : Int := (L.take k).foldl (fun a c => min a (c m)) ((L.headD fun _ => 0) m)
def hiTo (L : List (Nat → Int)) (m k : Nat) : Int := (L.take k).foldl (fun a c => max a (c m)) ((L.headD fun _ => 0) m)
def loOf (L : List (Nat → Int)) (m : Nat) : Int := loTo L m L.length
def hiOf (L : List (Nat → Int)) (m : Nat) : Int := hiTo L m L.length
theorem loTo_next {L : List (Nat → Int)} {m k : Nat} (h : k < L.length) : loTo L m (k + 1) = min (loTo L m k) (L[k] m) := by
  unfold loTo; rw [List.take_succ_eq_append_getElem h, List.foldl_append]; rfl
theorem hiTo_next {L : List (Nat → Int)} {m k : Nat} (h : k < L.length) : hiTo L m (k + 1) = max (hiTo L m k) (L[k] m) := by
  unfold hiTo; rw [List.take_succ_eq_append_getElem h, List.foldl_append]; rfl
theorem headD_get {L : List (Nat → Int)} (h : 0 < L.length) (m : Nat) : (L.headD fun _ => 0) m = L[0] m := by
  cases L with
  | nil => simp at h
  | cons c L => rfl

theorem five_arr (c : Nat → Int) (m : Nat) (hm : m < 5) : (#[.int .i64 (c 0), .int .i64 (c 1), .int .i64 (c 2), .int .i64 (c 3), .int .i64 (c 4)] : Array Value)[m]? = some (.int .i64 (c m)) := by
  have : m = 0 ∨ m = 1 ∨ m = 2 ∨ m = 3 ∨ m = 4 := by omega
  rcases this with rfl | rfl | rfl | rfl | rfl <;> rfl
theorem five_list (c : Nat → Int) (m : Nat) (hm : m < ([Value.int .i64 (c 0), .int .i64 (c 1), .int .i64 (c 2), .int .i64 (c 3), .int .i64 (c 4)] : List Value).length) : ([Value.int .i64 (c 0), .int .i64 (c 1), .int .i64 (c 2), .int .i64 (c 3), .int .i64 (c 4)] : List Value)[m] = .int .i64 (c m) := by
  have : m = 0 ∨ m = 1 ∨ m = 2 ∨ m = 3 ∨ m = 4 := by simp at hm; omega
  rcases this with rfl | rfl | rfl | rfl | rfl <;> rfl
theorem name2d (w : World) (cs : Array Value) (T : TypeId) (ds : Array Value) (U : TypeId) :
    ∃ W0, ((w.alloc (.cells cs T)).alloc (.cells ds U)).drew = W0 ∧ Below w.heap.size w W0 ∧ (∀ i, W0.cell? ⟨w.heap.size, i, none⟩ = cs[i]?) ∧ (∀ i, W0.cell? ⟨w.heap.size + 1, i, none⟩ = ds[i]?) ∧
      (∀ i, W0.frozen? ⟨w.heap.size, i, none⟩ = false) ∧ (∀ i, W0.frozen? ⟨w.heap.size + 1, i, none⟩ = false) ∧ W0.heap.size = w.heap.size + 1 + 1 :=
  ⟨_, rfl, (by repeat (first | exact Below.refl _ _ | (refine Below.alloc ?_ (by first | omega | (simp; omega) | simp) _) | (refine Below.setCell ?_ (by first | omega | (simp; omega) | simp) _) | refine Below.drew ?_)), fun i => by go_simp, fun i => by go_simp, fun i => by go_simp, fun i => by go_simp, by simp⟩

set_option maxRecDepth 100000 in
set_option maxHeartbeats 4000000 in
theorem span_any (L : List (Nat → Int)) (xa : Option Addr) (xl xc : Nat) (m : Nat) (hm : m < 5) (w : World) (hx : CastsAt w xa xl L) (h0 : 0 < xl) :
    Calls Try.prog 81 #[.slice xa xl xc, .int .i64 m] w fun e w' => e = .returned (.agg #[.int .i64 (loOf L m), .int .i64 (hiOf L m)]) ∧ Below w.heap.size w w' := by
  obtain ⟨hxl, hxm, hxc⟩ := hx
  obtain ⟨b, o, rfl, hbB, hcell⟩ := hxc h0
  unfold maxLen at hxm
  have hm5 : (m : Int) < 5 := by omega
  have hm0 : (0 : Int) ≤ (m : Int) := by omega
  have hx0 : (0 : Int) < (xl : Int) := by omega
  have hc0 : w.cell? ⟨b, o + m, none⟩ = some (.int .i64 (loTo L m 0)) := by
    have := hcell 0 (by omega) m hm
    rw [Nat.zero_mul, Nat.add_zero] at this
    rw [this]; congr 2; exact (headD_get (L := L) (by omega) m).symm
  have HH0 := Lib.hid (show hiTo L m 0 = loTo L m 0 from rfl)
  have HXL := Lib.hid hxl
  have HC := Lib.hid hcell
  clear hxl hxc hcell
  go_enter Try.func81, Try.ntmps81
  go_wp2_with fail
  go_region
  go_wp2_with fail
  obtain ⟨W0, hW0, hB0, hr0, hg0, hrf, hgf, hz0⟩ := name2d w #[.int .i64 0, .int .i64 0] 39 #[.int .i64 (loTo L m 0), .int .i64 (loTo L m 0)] 39
  rw [hW0]
  clear hW0
  obtain ⟨g, hg⟩ : ∃ g, g = w.heap.size + 1 := ⟨_, rfl⟩
  rw [← hg]
  rw [← hg] at hg0 hgf hz0
  have hgr : w.heap.size < g := by omega
  have hgz : g < W0.heap.size := by omega
  have HB0 := Lib.hid hB0
  have HR0 := Lib.hid hr0
  have HRF := Lib.hid hrf
  clear hB0 hr0 hrf hg hz0
  go_loopw [21] (fun i wr => ∃ k : Nat, k ≤ xl ∧ i = .int .i64 k ∧ wr.cell? ⟨g, 0, none⟩ = some (.int .i64 (loTo L m k)) ∧ wr.cell? ⟨g, 1, none⟩ = some (.int .i64 (hiTo L m k)) ∧ wr.frozen? ⟨g, 0, none⟩ = false ∧ wr.frozen? ⟨g, 1, none⟩ = false ∧ g < wr.heap.size ∧ Below g W0 wr) (fun i _ => xl - (intOf i).toNat)
  case atStart => exact ⟨0, by omega, rfl, hg0 0, by rw [HH0.out]; exact hg0 1, hgf 0, hgf 1, hgz, Below.refl _ _⟩
  case round =>
    clear hg0 hgf
    obtain ⟨k, hk, rfl, l0, l1, y0, y1, hzr, hB⟩ := hrel
    have HB := Lib.hid hB
    by_cases hlt : k < xl
    · have hk2 : k < L.length := by rw [HXL.out]; exact hlt
      have hbg : b < g := by omega
      have hcl : ∀ t, t < 5 → wr.cell? ⟨b, o + k * 5 + t, none⟩ = some (.int .i64 (L[k] t)) := fun t ht => (hB.cell (p := ⟨b, _, none⟩) hbg).trans ((HB0.out.cell (p := ⟨b, _, none⟩) hbB).trans (HC.out k hk2 t ht))
      have d0 : wr.cell? ⟨b, o + k * 5, none⟩ = some (.int .i64 (L[k] 0)) := hcl 0 (by omega)
      have d1 := hcl 1 (by omega)
      have d2 := hcl 2 (by omega)
      have d3 := hcl 3 (by omega)
      have d4 := hcl 4 (by omega)
      have hkl : (k : Int) < (xl : Int) := by omega
      have hk0 : (0 : Int) ≤ (k : Int) := by omega
      have HL := Lib.hid (loTo_next (m := m) hk2)
      have HH := Lib.hid (hiTo_next (m := m) hk2)
      generalize L[k] = c at *
      have harr := five_arr c m hm
      have hlst := five_list c m
      clear hB hcl hk2
      generalize hlo : loTo L m k = lo at *
      generalize hhi : hiTo L m k = hi at *
      rcases Int.lt_or_le (c m) lo with h1 | h1 <;> rcases Int.lt_or_le hi (c m) with h2 | h2
      all_goals
        go_wp2_with fail
        go_region
        go_wp2_with fail
        go_region
        go_wp2_with fail
        go_roundw
        case rel =>
          refine ⟨k + 1, by omega, by go_num, ?_, ?_, by go_simp, by go_simp, by simp; omega, ?_⟩
          · rw [HL.out]; go_simp; omega
          · rw [HH.out]; go_simp; omega
          · have hBB := HB.out
            exact (by repeat (first | assumption | exact Below.refl _ _ | (refine Below.alloc ?_ (by first | omega | (simp; omega) | simp) _) | (refine Below.setCell ?_ (by first | omega | (simp; omega) | simp) _) | refine Below.drew ?_))
        case measure => simp [intOf]; omega
    · obtain rfl : xl = k := by omega
      have r0 := (hB.cell (p := ⟨w.heap.size, 0, none⟩) hgr).trans (HR0.out 0)
      have r1 := (hB.cell (p := ⟨w.heap.size, 1, none⟩) hgr).trans (HR0.out 1)
      have r2 := (hB.frozen (p := ⟨w.heap.size, 0, none⟩) hgr).trans (HRF.out 0)
      have r3 := (hB.frozen (p := ⟨w.heap.size, 1, none⟩) hgr).trans (HRF.out 1)
      have HBW := Lib.hid (HB0.out.trans (hB.mono (Nat.le_of_lt hgr)))
      have e1 : loOf L m = loTo L m xl := by rw [loOf, HXL.out]
      have e2 : hiOf L m = hiTo L m xl := by rw [hiOf, HXL.out]
      clear hB
      go_wp2_with fail
      refine bodyPost_ret (v := .agg #[.int .i64 (loTo L m xl), .int .i64 (hiTo L m xl)]) (by simp [results, Try.results81, go_sem, *]) rfl ⟨by rw [e1, e2], ?_⟩
      exact Below.setCell (Below.setCell HBW.out (by simp) _) (by simp) _
end Go.Proofs.Ytigeiaiohdemiaa
