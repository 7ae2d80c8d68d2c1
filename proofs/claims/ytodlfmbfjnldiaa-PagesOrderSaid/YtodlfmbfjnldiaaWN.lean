/- The law of any order of columns: it holds. -/
import Derived.Test.YtodlfmbfjnldiaaWM
import Derived.Test.YtodlfmbfjnldiaaZY
namespace Go.Proofs.Ytodlfmbfjnldiaa
set_option linter.unusedVariables false
set_option linter.unusedSimpArgs false
open Go.RowKit Go.Shelf

attribute [local go_sem] Oper.semAt_some

set_option maxRecDepth 100000 in
set_option maxHeartbeats 8000000 in
theorem order_early (f : PFrame) (sa : Option Addr) (sl sc : Nat) (pa : Option Addr) (pl pc : Nat) (ca : Option Addr) (cl cc : Nat) (n : Int) (c : Int) (xa : Option Addr) (xl xc : Nat) (on ot : Int) (h : ¬ (f.ready = true ∧ 0 ≤ n ∧ n ≤ 100)) (w : World) (hp : PAt w sa sl sc pa pl pc ca cl cc f) :
    Calls Try.prog 15 #[.agg #[.int .i64 f.len, .int .i64 f.slack, .slice sa sl sc, .slice pa pl pc, .slice ca cl cc], .int .i64 n, .agg #[.int .i64 c, .slice xa xl xc, .int .i64 on, .int .i64 ot]] w fun e w' => e = .returned (.bool true) ∧ Below w.heap.size w w' := by
  have HR := Lib.hid (fun b (h : f.ready = b) W (hb : Below w.heap.size w W) => ready_is f sa sl sc pa pl pc ca cl cc b h W (hp.below hb))
  have HK := Lib.hid (fun W => works_any W)
  clear hp
  rcases ho : f.ready with - | -
  · have HR1 := Lib.hid (HR.out _ ho)
    clear ho h
    go_enter Try.func15, Try.ntmps15
    go_wp2_with fail
    obtain ⟨W0, hW0, hB0, ⟨g0_0, g0_1, g0_2, g0_3, g0_4, g0_5, g0_6, g0_7, g0_8⟩, hz0⟩ : ∃ W0, ((w.alloc (.cells #[.int .i64 f.len, .int .i64 f.slack, .slice sa sl sc, .slice pa pl pc, .slice ca cl cc] 26)).alloc (.cells #[.int .i64 c, .slice xa xl xc, .int .i64 on, .int .i64 ot] 58)) = W0 ∧ Below w.heap.size w W0 ∧ (W0.cell? ⟨w.heap.size, 0, none⟩ = some (.int .i64 f.len) ∧ W0.cell? ⟨w.heap.size, 1, none⟩ = some (.int .i64 f.slack) ∧ W0.cell? ⟨w.heap.size, 2, none⟩ = some (.slice sa sl sc) ∧ W0.cell? ⟨w.heap.size, 3, none⟩ = some (.slice pa pl pc) ∧ W0.cell? ⟨w.heap.size, 4, none⟩ = some (.slice ca cl cc) ∧ W0.cell? ⟨w.heap.size + 1, 0, none⟩ = some (.int .i64 c) ∧ W0.cell? ⟨w.heap.size + 1, 1, none⟩ = some (.slice xa xl xc) ∧ W0.cell? ⟨w.heap.size + 1, 2, none⟩ = some (.int .i64 on) ∧ W0.cell? ⟨w.heap.size + 1, 3, none⟩ = some (.int .i64 ot)) ∧ W0.heap.size = w.heap.size + 1 + 1 :=
      ⟨_, rfl, (by repeat (first | exact Below.refl _ _ | (refine Below.alloc ?_ (by first | omega | (simp; omega) | simp) _) | (refine Below.setCell ?_ (by first | omega | (simp; omega) | simp) _) | refine Below.drew ?_)), ⟨by go_simp, by go_simp, by go_simp, by go_simp, by go_simp, by go_simp, by go_simp, by go_simp, by go_simp⟩, by simp⟩
    rw [hW0]
    clear hW0
    have HBW := Lib.hid hB0
    have q0_0 : w.heap.size < W0.heap.size := by omega
    have q0_1 : w.heap.size + 1 < W0.heap.size := by omega
    clear hB0 hz0
    go_wp2_with fail
    refine (HR1.out _ (HBW.out.trans (Below.mono (by repeat (first | exact Below.refl _ _ | (refine Below.alloc ?_ (by first | omega | (simp; omega) | simp) _) | (refine Below.setCell ?_ (by first | omega | (simp; omega) | simp) _) | refine Below.drew ?_)) HBW.out.size))).mono ?_
    rintro e v1 ⟨rfl, hb1⟩
    have hB1_0 : Below W0.heap.size W0 v1 := below_via (Lib.hid hb1) (by first | omega | (simp; done) | (simp; omega)) (by repeat (first | exact Below.refl _ _ | (refine Below.alloc ?_ (by first | omega | (simp; omega) | simp) _) | (refine Below.setCell ?_ (by first | omega | (simp; omega) | simp) _) | refine Below.drew ?_))
    have z1 := hb1.size
    (try simp at z1)
    obtain ⟨g1_0, g1_1, g1_2, g1_3, g1_4, g1_5, g1_6, g1_7, g1_8⟩ : v1.cell? ⟨w.heap.size, 0, none⟩ = some (.int .i64 f.len) ∧ v1.cell? ⟨w.heap.size, 1, none⟩ = some (.int .i64 f.slack) ∧ v1.cell? ⟨w.heap.size, 2, none⟩ = some (.slice sa sl sc) ∧ v1.cell? ⟨w.heap.size, 3, none⟩ = some (.slice pa pl pc) ∧ v1.cell? ⟨w.heap.size, 4, none⟩ = some (.slice ca cl cc) ∧ v1.cell? ⟨w.heap.size + 1, 0, none⟩ = some (.int .i64 c) ∧ v1.cell? ⟨w.heap.size + 1, 1, none⟩ = some (.slice xa xl xc) ∧ v1.cell? ⟨w.heap.size + 1, 2, none⟩ = some (.int .i64 on) ∧ v1.cell? ⟨w.heap.size + 1, 3, none⟩ = some (.int .i64 ot) :=
      ⟨(hb1.cell (p := ⟨w.heap.size, 0, none⟩) (by first | omega | (simp; done) | (simp; omega))).trans (by first | (go_simp; done) | (go_simp; exact set_same (u := .int .i64 0) (by go_simp; done))), (hb1.cell (p := ⟨w.heap.size, 1, none⟩) (by first | omega | (simp; done) | (simp; omega))).trans (by first | (go_simp; done) | (go_simp; exact set_same (u := .int .i64 0) (by go_simp; done))), (hb1.cell (p := ⟨w.heap.size, 2, none⟩) (by first | omega | (simp; done) | (simp; omega))).trans (by first | (go_simp; done) | (go_simp; exact set_same (u := .int .i64 0) (by go_simp; done))), (hb1.cell (p := ⟨w.heap.size, 3, none⟩) (by first | omega | (simp; done) | (simp; omega))).trans (by first | (go_simp; done) | (go_simp; exact set_same (u := .int .i64 0) (by go_simp; done))), (hb1.cell (p := ⟨w.heap.size, 4, none⟩) (by first | omega | (simp; done) | (simp; omega))).trans (by first | (go_simp; done) | (go_simp; exact set_same (u := .int .i64 0) (by go_simp; done))), (hb1.cell (p := ⟨w.heap.size + 1, 0, none⟩) (by first | omega | (simp; done) | (simp; omega))).trans (by first | (go_simp; done) | (go_simp; exact set_same (u := .int .i64 0) (by go_simp; done))), (hb1.cell (p := ⟨w.heap.size + 1, 1, none⟩) (by first | omega | (simp; done) | (simp; omega))).trans (by first | (go_simp; done) | (go_simp; exact set_same (u := .int .i64 0) (by go_simp; done))), (hb1.cell (p := ⟨w.heap.size + 1, 2, none⟩) (by first | omega | (simp; done) | (simp; omega))).trans (by first | (go_simp; done) | (go_simp; exact set_same (u := .int .i64 0) (by go_simp; done))), (hb1.cell (p := ⟨w.heap.size + 1, 3, none⟩) (by first | omega | (simp; done) | (simp; omega))).trans (by first | (go_simp; done) | (go_simp; exact set_same (u := .int .i64 0) (by go_simp; done)))⟩
    have q1_0 : w.heap.size < v1.heap.size := by first | omega | (simp at *; omega)
    have q1_1 : w.heap.size + 1 < v1.heap.size := by first | omega | (simp at *; omega)
    have HB1 := Lib.hid hB1_0
    have y1 := hB1_0.size
    clear hb1 hB1_0 g0_0 g0_1 g0_2 g0_3 g0_4 g0_5 g0_6 g0_7 g0_8 q0_0 q0_1
    go_wp2_with fail
    refine (HK.out _).mono ?_
    rintro e v2 ⟨rfl, hb2⟩
    have hB2_0 : Below W0.heap.size W0 v2 := below_via (Lib.hid hb2) (by first | omega | (simp; done) | (simp; omega)) (by repeat (first | exact Below.refl _ _ | with_reducible exact HB1.out | (refine Below.alloc ?_ (by first | omega | (simp; omega) | simp) _) | (refine Below.setCell ?_ (by first | omega | (simp; omega) | simp) _) | refine Below.drew ?_))
    have z2 := hb2.size
    (try simp at z2)
    have HB2 := Lib.hid hB2_0
    have y2 := hB2_0.size
    clear hb2 hB2_0 g1_0 g1_1 g1_2 g1_3 g1_4 g1_5 g1_6 g1_7 g1_8 q1_0 q1_1
    go_wp2_with fail
    go_ret
    exact ⟨rfl, HBW.out.trans (Below.mono (by repeat (first | exact Below.refl _ _ | with_reducible exact HB2.out | (refine Below.alloc ?_ (by first | omega | (simp; omega) | simp) _) | (refine Below.setCell ?_ (by first | omega | (simp; omega) | simp) _) | refine Below.drew ?_)) HBW.out.size)⟩
  have HR1 := Lib.hid (HR.out _ ho)
  by_cases h1 : n < 0
  · clear ho h
    go_enter Try.func15, Try.ntmps15
    go_wp2_with fail
    obtain ⟨W0, hW0, hB0, ⟨g0_0, g0_1, g0_2, g0_3, g0_4, g0_5, g0_6, g0_7, g0_8⟩, hz0⟩ : ∃ W0, ((w.alloc (.cells #[.int .i64 f.len, .int .i64 f.slack, .slice sa sl sc, .slice pa pl pc, .slice ca cl cc] 26)).alloc (.cells #[.int .i64 c, .slice xa xl xc, .int .i64 on, .int .i64 ot] 58)) = W0 ∧ Below w.heap.size w W0 ∧ (W0.cell? ⟨w.heap.size, 0, none⟩ = some (.int .i64 f.len) ∧ W0.cell? ⟨w.heap.size, 1, none⟩ = some (.int .i64 f.slack) ∧ W0.cell? ⟨w.heap.size, 2, none⟩ = some (.slice sa sl sc) ∧ W0.cell? ⟨w.heap.size, 3, none⟩ = some (.slice pa pl pc) ∧ W0.cell? ⟨w.heap.size, 4, none⟩ = some (.slice ca cl cc) ∧ W0.cell? ⟨w.heap.size + 1, 0, none⟩ = some (.int .i64 c) ∧ W0.cell? ⟨w.heap.size + 1, 1, none⟩ = some (.slice xa xl xc) ∧ W0.cell? ⟨w.heap.size + 1, 2, none⟩ = some (.int .i64 on) ∧ W0.cell? ⟨w.heap.size + 1, 3, none⟩ = some (.int .i64 ot)) ∧ W0.heap.size = w.heap.size + 1 + 1 :=
      ⟨_, rfl, (by repeat (first | exact Below.refl _ _ | (refine Below.alloc ?_ (by first | omega | (simp; omega) | simp) _) | (refine Below.setCell ?_ (by first | omega | (simp; omega) | simp) _) | refine Below.drew ?_)), ⟨by go_simp, by go_simp, by go_simp, by go_simp, by go_simp, by go_simp, by go_simp, by go_simp, by go_simp⟩, by simp⟩
    rw [hW0]
    clear hW0
    have HBW := Lib.hid hB0
    have q0_0 : w.heap.size < W0.heap.size := by omega
    have q0_1 : w.heap.size + 1 < W0.heap.size := by omega
    clear hB0 hz0
    go_wp2_with fail
    refine (HR1.out _ (HBW.out.trans (Below.mono (by repeat (first | exact Below.refl _ _ | (refine Below.alloc ?_ (by first | omega | (simp; omega) | simp) _) | (refine Below.setCell ?_ (by first | omega | (simp; omega) | simp) _) | refine Below.drew ?_)) HBW.out.size))).mono ?_
    rintro e v1 ⟨rfl, hb1⟩
    have hB1_0 : Below W0.heap.size W0 v1 := below_via (Lib.hid hb1) (by first | omega | (simp; done) | (simp; omega)) (by repeat (first | exact Below.refl _ _ | (refine Below.alloc ?_ (by first | omega | (simp; omega) | simp) _) | (refine Below.setCell ?_ (by first | omega | (simp; omega) | simp) _) | refine Below.drew ?_))
    have z1 := hb1.size
    (try simp at z1)
    obtain ⟨g1_0, g1_1, g1_2, g1_3, g1_4, g1_5, g1_6, g1_7, g1_8⟩ : v1.cell? ⟨w.heap.size, 0, none⟩ = some (.int .i64 f.len) ∧ v1.cell? ⟨w.heap.size, 1, none⟩ = some (.int .i64 f.slack) ∧ v1.cell? ⟨w.heap.size, 2, none⟩ = some (.slice sa sl sc) ∧ v1.cell? ⟨w.heap.size, 3, none⟩ = some (.slice pa pl pc) ∧ v1.cell? ⟨w.heap.size, 4, none⟩ = some (.slice ca cl cc) ∧ v1.cell? ⟨w.heap.size + 1, 0, none⟩ = some (.int .i64 c) ∧ v1.cell? ⟨w.heap.size + 1, 1, none⟩ = some (.slice xa xl xc) ∧ v1.cell? ⟨w.heap.size + 1, 2, none⟩ = some (.int .i64 on) ∧ v1.cell? ⟨w.heap.size + 1, 3, none⟩ = some (.int .i64 ot) :=
      ⟨(hb1.cell (p := ⟨w.heap.size, 0, none⟩) (by first | omega | (simp; done) | (simp; omega))).trans (by first | (go_simp; done) | (go_simp; exact set_same (u := .int .i64 0) (by go_simp; done))), (hb1.cell (p := ⟨w.heap.size, 1, none⟩) (by first | omega | (simp; done) | (simp; omega))).trans (by first | (go_simp; done) | (go_simp; exact set_same (u := .int .i64 0) (by go_simp; done))), (hb1.cell (p := ⟨w.heap.size, 2, none⟩) (by first | omega | (simp; done) | (simp; omega))).trans (by first | (go_simp; done) | (go_simp; exact set_same (u := .int .i64 0) (by go_simp; done))), (hb1.cell (p := ⟨w.heap.size, 3, none⟩) (by first | omega | (simp; done) | (simp; omega))).trans (by first | (go_simp; done) | (go_simp; exact set_same (u := .int .i64 0) (by go_simp; done))), (hb1.cell (p := ⟨w.heap.size, 4, none⟩) (by first | omega | (simp; done) | (simp; omega))).trans (by first | (go_simp; done) | (go_simp; exact set_same (u := .int .i64 0) (by go_simp; done))), (hb1.cell (p := ⟨w.heap.size + 1, 0, none⟩) (by first | omega | (simp; done) | (simp; omega))).trans (by first | (go_simp; done) | (go_simp; exact set_same (u := .int .i64 0) (by go_simp; done))), (hb1.cell (p := ⟨w.heap.size + 1, 1, none⟩) (by first | omega | (simp; done) | (simp; omega))).trans (by first | (go_simp; done) | (go_simp; exact set_same (u := .int .i64 0) (by go_simp; done))), (hb1.cell (p := ⟨w.heap.size + 1, 2, none⟩) (by first | omega | (simp; done) | (simp; omega))).trans (by first | (go_simp; done) | (go_simp; exact set_same (u := .int .i64 0) (by go_simp; done))), (hb1.cell (p := ⟨w.heap.size + 1, 3, none⟩) (by first | omega | (simp; done) | (simp; omega))).trans (by first | (go_simp; done) | (go_simp; exact set_same (u := .int .i64 0) (by go_simp; done)))⟩
    have q1_0 : w.heap.size < v1.heap.size := by first | omega | (simp at *; omega)
    have q1_1 : w.heap.size + 1 < v1.heap.size := by first | omega | (simp at *; omega)
    have HB1 := Lib.hid hB1_0
    have y1 := hB1_0.size
    clear hb1 hB1_0 g0_0 g0_1 g0_2 g0_3 g0_4 g0_5 g0_6 g0_7 g0_8 q0_0 q0_1
    go_wp2_with fail
    refine (HK.out _).mono ?_
    rintro e v2 ⟨rfl, hb2⟩
    have hB2_0 : Below W0.heap.size W0 v2 := below_via (Lib.hid hb2) (by first | omega | (simp; done) | (simp; omega)) (by repeat (first | exact Below.refl _ _ | with_reducible exact HB1.out | (refine Below.alloc ?_ (by first | omega | (simp; omega) | simp) _) | (refine Below.setCell ?_ (by first | omega | (simp; omega) | simp) _) | refine Below.drew ?_))
    have z2 := hb2.size
    (try simp at z2)
    have HB2 := Lib.hid hB2_0
    have y2 := hB2_0.size
    clear hb2 hB2_0 g1_0 g1_1 g1_2 g1_3 g1_4 g1_5 g1_6 g1_7 g1_8 q1_0 q1_1
    go_wp2_with fail
    go_ret
    exact ⟨rfl, HBW.out.trans (Below.mono (by repeat (first | exact Below.refl _ _ | with_reducible exact HB2.out | (refine Below.alloc ?_ (by first | omega | (simp; omega) | simp) _) | (refine Below.setCell ?_ (by first | omega | (simp; omega) | simp) _) | refine Below.drew ?_)) HBW.out.size)⟩
  have h2 : 100 < n := by
    by_cases h4 : 100 < n
    · exact h4
    · exact absurd ⟨ho, by omega, by omega⟩ h
  clear ho h
  go_enter Try.func15, Try.ntmps15
  go_wp2_with fail
  obtain ⟨W0, hW0, hB0, ⟨g0_0, g0_1, g0_2, g0_3, g0_4, g0_5, g0_6, g0_7, g0_8⟩, hz0⟩ : ∃ W0, ((w.alloc (.cells #[.int .i64 f.len, .int .i64 f.slack, .slice sa sl sc, .slice pa pl pc, .slice ca cl cc] 26)).alloc (.cells #[.int .i64 c, .slice xa xl xc, .int .i64 on, .int .i64 ot] 58)) = W0 ∧ Below w.heap.size w W0 ∧ (W0.cell? ⟨w.heap.size, 0, none⟩ = some (.int .i64 f.len) ∧ W0.cell? ⟨w.heap.size, 1, none⟩ = some (.int .i64 f.slack) ∧ W0.cell? ⟨w.heap.size, 2, none⟩ = some (.slice sa sl sc) ∧ W0.cell? ⟨w.heap.size, 3, none⟩ = some (.slice pa pl pc) ∧ W0.cell? ⟨w.heap.size, 4, none⟩ = some (.slice ca cl cc) ∧ W0.cell? ⟨w.heap.size + 1, 0, none⟩ = some (.int .i64 c) ∧ W0.cell? ⟨w.heap.size + 1, 1, none⟩ = some (.slice xa xl xc) ∧ W0.cell? ⟨w.heap.size + 1, 2, none⟩ = some (.int .i64 on) ∧ W0.cell? ⟨w.heap.size + 1, 3, none⟩ = some (.int .i64 ot)) ∧ W0.heap.size = w.heap.size + 1 + 1 :=
    ⟨_, rfl, (by repeat (first | exact Below.refl _ _ | (refine Below.alloc ?_ (by first | omega | (simp; omega) | simp) _) | (refine Below.setCell ?_ (by first | omega | (simp; omega) | simp) _) | refine Below.drew ?_)), ⟨by go_simp, by go_simp, by go_simp, by go_simp, by go_simp, by go_simp, by go_simp, by go_simp, by go_simp⟩, by simp⟩
  rw [hW0]
  clear hW0
  have HBW := Lib.hid hB0
  have q0_0 : w.heap.size < W0.heap.size := by omega
  have q0_1 : w.heap.size + 1 < W0.heap.size := by omega
  clear hB0 hz0
  go_wp2_with fail
  refine (HR1.out _ (HBW.out.trans (Below.mono (by repeat (first | exact Below.refl _ _ | (refine Below.alloc ?_ (by first | omega | (simp; omega) | simp) _) | (refine Below.setCell ?_ (by first | omega | (simp; omega) | simp) _) | refine Below.drew ?_)) HBW.out.size))).mono ?_
  rintro e v1 ⟨rfl, hb1⟩
  have hB1_0 : Below W0.heap.size W0 v1 := below_via (Lib.hid hb1) (by first | omega | (simp; done) | (simp; omega)) (by repeat (first | exact Below.refl _ _ | (refine Below.alloc ?_ (by first | omega | (simp; omega) | simp) _) | (refine Below.setCell ?_ (by first | omega | (simp; omega) | simp) _) | refine Below.drew ?_))
  have z1 := hb1.size
  (try simp at z1)
  obtain ⟨g1_0, g1_1, g1_2, g1_3, g1_4, g1_5, g1_6, g1_7, g1_8⟩ : v1.cell? ⟨w.heap.size, 0, none⟩ = some (.int .i64 f.len) ∧ v1.cell? ⟨w.heap.size, 1, none⟩ = some (.int .i64 f.slack) ∧ v1.cell? ⟨w.heap.size, 2, none⟩ = some (.slice sa sl sc) ∧ v1.cell? ⟨w.heap.size, 3, none⟩ = some (.slice pa pl pc) ∧ v1.cell? ⟨w.heap.size, 4, none⟩ = some (.slice ca cl cc) ∧ v1.cell? ⟨w.heap.size + 1, 0, none⟩ = some (.int .i64 c) ∧ v1.cell? ⟨w.heap.size + 1, 1, none⟩ = some (.slice xa xl xc) ∧ v1.cell? ⟨w.heap.size + 1, 2, none⟩ = some (.int .i64 on) ∧ v1.cell? ⟨w.heap.size + 1, 3, none⟩ = some (.int .i64 ot) :=
    ⟨(hb1.cell (p := ⟨w.heap.size, 0, none⟩) (by first | omega | (simp; done) | (simp; omega))).trans (by first | (go_simp; done) | (go_simp; exact set_same (u := .int .i64 0) (by go_simp; done))), (hb1.cell (p := ⟨w.heap.size, 1, none⟩) (by first | omega | (simp; done) | (simp; omega))).trans (by first | (go_simp; done) | (go_simp; exact set_same (u := .int .i64 0) (by go_simp; done))), (hb1.cell (p := ⟨w.heap.size, 2, none⟩) (by first | omega | (simp; done) | (simp; omega))).trans (by first | (go_simp; done) | (go_simp; exact set_same (u := .int .i64 0) (by go_simp; done))), (hb1.cell (p := ⟨w.heap.size, 3, none⟩) (by first | omega | (simp; done) | (simp; omega))).trans (by first | (go_simp; done) | (go_simp; exact set_same (u := .int .i64 0) (by go_simp; done))), (hb1.cell (p := ⟨w.heap.size, 4, none⟩) (by first | omega | (simp; done) | (simp; omega))).trans (by first | (go_simp; done) | (go_simp; exact set_same (u := .int .i64 0) (by go_simp; done))), (hb1.cell (p := ⟨w.heap.size + 1, 0, none⟩) (by first | omega | (simp; done) | (simp; omega))).trans (by first | (go_simp; done) | (go_simp; exact set_same (u := .int .i64 0) (by go_simp; done))), (hb1.cell (p := ⟨w.heap.size + 1, 1, none⟩) (by first | omega | (simp; done) | (simp; omega))).trans (by first | (go_simp; done) | (go_simp; exact set_same (u := .int .i64 0) (by go_simp; done))), (hb1.cell (p := ⟨w.heap.size + 1, 2, none⟩) (by first | omega | (simp; done) | (simp; omega))).trans (by first | (go_simp; done) | (go_simp; exact set_same (u := .int .i64 0) (by go_simp; done))), (hb1.cell (p := ⟨w.heap.size + 1, 3, none⟩) (by first | omega | (simp; done) | (simp; omega))).trans (by first | (go_simp; done) | (go_simp; exact set_same (u := .int .i64 0) (by go_simp; done)))⟩
  have q1_0 : w.heap.size < v1.heap.size := by first | omega | (simp at *; omega)
  have q1_1 : w.heap.size + 1 < v1.heap.size := by first | omega | (simp at *; omega)
  have HB1 := Lib.hid hB1_0
  have y1 := hB1_0.size
  clear hb1 hB1_0 g0_0 g0_1 g0_2 g0_3 g0_4 g0_5 g0_6 g0_7 g0_8 q0_0 q0_1
  go_wp2_with fail
  refine (HK.out _).mono ?_
  rintro e v2 ⟨rfl, hb2⟩
  have hB2_0 : Below W0.heap.size W0 v2 := below_via (Lib.hid hb2) (by first | omega | (simp; done) | (simp; omega)) (by repeat (first | exact Below.refl _ _ | with_reducible exact HB1.out | (refine Below.alloc ?_ (by first | omega | (simp; omega) | simp) _) | (refine Below.setCell ?_ (by first | omega | (simp; omega) | simp) _) | refine Below.drew ?_))
  have z2 := hb2.size
  (try simp at z2)
  have HB2 := Lib.hid hB2_0
  have y2 := hB2_0.size
  clear hb2 hB2_0 g1_0 g1_1 g1_2 g1_3 g1_4 g1_5 g1_6 g1_7 g1_8 q1_0 q1_1
  go_wp2_with fail
  go_ret
  exact ⟨rfl, HBW.out.trans (Below.mono (by repeat (first | exact Below.refl _ _ | with_reducible exact HB2.out | (refine Below.alloc ?_ (by first | omega | (simp; omega) | simp) _) | (refine Below.setCell ?_ (by first | omega | (simp; omega) | simp) _) | refine Below.drew ?_)) HBW.out.size)⟩
set_option maxRecDepth 100000 in
set_option maxHeartbeats 16000000 in
theorem order_walk (f : PFrame) (sa : Option Addr) (sl sc : Nat) (pa : Option Addr) (pl pc : Nat) (ca : Option Addr) (cl cc : Nat) (m : Nat) (c : Int) (xa : Option Addr) (xl xc : Nat) (on ot : Int) (hr : f.ready = true) (hm : m ≤ 100) (w : World) (hp : PAt w sa sl sc pa pl pc ca cl cc f) :
    Calls Try.prog 15 #[.agg #[.int .i64 f.len, .int .i64 f.slack, .slice sa sl sc, .slice pa pl pc, .slice ca cl cc], .int .i64 (m : Int), .agg #[.int .i64 c, .slice xa xl xc, .int .i64 on, .int .i64 ot]] w fun e w' => e = .returned (.bool true) ∧ Below w.heap.size w w' := by
  have ho : f.ok = true := by unfold PFrame.ready at hr; simp only [Bool.and_eq_true] at hr; exact hr.2
  obtain ⟨s1, s2, s3, s4⟩ := ok_sizes sa sl sc pa pl pc ca cl cc ho hp
  have HR1 := Lib.hid (fun W (hb : Below w.heap.size w W) => ready_is f sa sl sc pa pl pc ca cl cc true hr W (hp.below hb))
  have HK := Lib.hid (fun W => works_any W)
  have HCO := Lib.hid (fun W (hb : Below w.heap.size w W) => Copy_of f sa sl sc pa pl pc ca cl cc W (hp.below hb) s1 s2 s3 s4)
  have HP := Lib.hid (fun W (hb : Below w.heap.size w W) => hp.below hb)
  have HWC := Lib.hid hp.2.2.2.2
  have HWL := Lib.hid hp.2.2.1
  have HX40 := Lib.hid s4
  have HOK := Lib.hid ho
  have hcl3 := (PFrame.ok_parts ho).2.2.2.2.2.2
  have hcl : cl ≤ 3 := by have := hp.2.2.1; omega
  have hm0 : (0 : Int) ≤ (m : Int) := by omega
  have hm1 : ¬ (m : Int) < 0 := by omega
  have hm2 : ¬ (100 : Int) < (m : Int) := by omega
  clear hp hr ho hcl3
  go_enter Try.func15, Try.ntmps15
  go_wp2_with fail
  obtain ⟨W0, hW0, hB0, ⟨g0_0, g0_1, g0_2, g0_3, g0_4, g0_5, g0_6, g0_7, g0_8⟩, hz0⟩ : ∃ W0, ((w.alloc (.cells #[.int .i64 f.len, .int .i64 f.slack, .slice sa sl sc, .slice pa pl pc, .slice ca cl cc] 26)).alloc (.cells #[.int .i64 c, .slice xa xl xc, .int .i64 on, .int .i64 ot] 58)) = W0 ∧ Below w.heap.size w W0 ∧ (W0.cell? ⟨w.heap.size, 0, none⟩ = some (.int .i64 f.len) ∧ W0.cell? ⟨w.heap.size, 1, none⟩ = some (.int .i64 f.slack) ∧ W0.cell? ⟨w.heap.size, 2, none⟩ = some (.slice sa sl sc) ∧ W0.cell? ⟨w.heap.size, 3, none⟩ = some (.slice pa pl pc) ∧ W0.cell? ⟨w.heap.size, 4, none⟩ = some (.slice ca cl cc) ∧ W0.cell? ⟨w.heap.size + 1, 0, none⟩ = some (.int .i64 c) ∧ W0.cell? ⟨w.heap.size + 1, 1, none⟩ = some (.slice xa xl xc) ∧ W0.cell? ⟨w.heap.size + 1, 2, none⟩ = some (.int .i64 on) ∧ W0.cell? ⟨w.heap.size + 1, 3, none⟩ = some (.int .i64 ot)) ∧ W0.heap.size = w.heap.size + 1 + 1 :=
    ⟨_, rfl, (by repeat (first | exact Below.refl _ _ | (refine Below.alloc ?_ (by first | omega | (simp; omega) | simp) _) | (refine Below.setCell ?_ (by first | omega | (simp; omega) | simp) _) | refine Below.drew ?_)), ⟨by go_simp, by go_simp, by go_simp, by go_simp, by go_simp, by go_simp, by go_simp, by go_simp, by go_simp⟩, by simp⟩
  rw [hW0]
  clear hW0
  have HBW := Lib.hid hB0
  have q0_0 : w.heap.size < W0.heap.size := by omega
  have q0_1 : w.heap.size + 1 < W0.heap.size := by omega
  clear hB0 hz0
  go_wp2_with fail
  refine (HR1.out _ (HBW.out.trans (Below.mono (by repeat (first | exact Below.refl _ _ | (refine Below.alloc ?_ (by first | omega | (simp; omega) | simp) _) | (refine Below.setCell ?_ (by first | omega | (simp; omega) | simp) _) | refine Below.drew ?_)) HBW.out.size))).mono ?_
  rintro e v1 ⟨rfl, hb1⟩
  have hB1_0 : Below W0.heap.size W0 v1 := below_via (Lib.hid hb1) (by first | omega | (simp; done) | (simp; omega)) (by repeat (first | exact Below.refl _ _ | (refine Below.alloc ?_ (by first | omega | (simp; omega) | simp) _) | (refine Below.setCell ?_ (by first | omega | (simp; omega) | simp) _) | refine Below.drew ?_))
  have z1 := hb1.size
  (try simp at z1)
  obtain ⟨g1_0, g1_1, g1_2, g1_3, g1_4, g1_5, g1_6, g1_7, g1_8⟩ : v1.cell? ⟨w.heap.size, 0, none⟩ = some (.int .i64 f.len) ∧ v1.cell? ⟨w.heap.size, 1, none⟩ = some (.int .i64 f.slack) ∧ v1.cell? ⟨w.heap.size, 2, none⟩ = some (.slice sa sl sc) ∧ v1.cell? ⟨w.heap.size, 3, none⟩ = some (.slice pa pl pc) ∧ v1.cell? ⟨w.heap.size, 4, none⟩ = some (.slice ca cl cc) ∧ v1.cell? ⟨w.heap.size + 1, 0, none⟩ = some (.int .i64 c) ∧ v1.cell? ⟨w.heap.size + 1, 1, none⟩ = some (.slice xa xl xc) ∧ v1.cell? ⟨w.heap.size + 1, 2, none⟩ = some (.int .i64 on) ∧ v1.cell? ⟨w.heap.size + 1, 3, none⟩ = some (.int .i64 ot) :=
    ⟨(hb1.cell (p := ⟨w.heap.size, 0, none⟩) (by first | omega | (simp; done) | (simp; omega))).trans (by first | (go_simp; done) | (go_simp; exact set_same (u := .int .i64 0) (by go_simp; done))), (hb1.cell (p := ⟨w.heap.size, 1, none⟩) (by first | omega | (simp; done) | (simp; omega))).trans (by first | (go_simp; done) | (go_simp; exact set_same (u := .int .i64 0) (by go_simp; done))), (hb1.cell (p := ⟨w.heap.size, 2, none⟩) (by first | omega | (simp; done) | (simp; omega))).trans (by first | (go_simp; done) | (go_simp; exact set_same (u := .int .i64 0) (by go_simp; done))), (hb1.cell (p := ⟨w.heap.size, 3, none⟩) (by first | omega | (simp; done) | (simp; omega))).trans (by first | (go_simp; done) | (go_simp; exact set_same (u := .int .i64 0) (by go_simp; done))), (hb1.cell (p := ⟨w.heap.size, 4, none⟩) (by first | omega | (simp; done) | (simp; omega))).trans (by first | (go_simp; done) | (go_simp; exact set_same (u := .int .i64 0) (by go_simp; done))), (hb1.cell (p := ⟨w.heap.size + 1, 0, none⟩) (by first | omega | (simp; done) | (simp; omega))).trans (by first | (go_simp; done) | (go_simp; exact set_same (u := .int .i64 0) (by go_simp; done))), (hb1.cell (p := ⟨w.heap.size + 1, 1, none⟩) (by first | omega | (simp; done) | (simp; omega))).trans (by first | (go_simp; done) | (go_simp; exact set_same (u := .int .i64 0) (by go_simp; done))), (hb1.cell (p := ⟨w.heap.size + 1, 2, none⟩) (by first | omega | (simp; done) | (simp; omega))).trans (by first | (go_simp; done) | (go_simp; exact set_same (u := .int .i64 0) (by go_simp; done))), (hb1.cell (p := ⟨w.heap.size + 1, 3, none⟩) (by first | omega | (simp; done) | (simp; omega))).trans (by first | (go_simp; done) | (go_simp; exact set_same (u := .int .i64 0) (by go_simp; done)))⟩
  have q1_0 : w.heap.size < v1.heap.size := by first | omega | (simp at *; omega)
  have q1_1 : w.heap.size + 1 < v1.heap.size := by first | omega | (simp at *; omega)
  have HB1 := Lib.hid hB1_0
  have y1 := hB1_0.size
  clear hb1 hB1_0 g0_0 g0_1 g0_2 g0_3 g0_4 g0_5 g0_6 g0_7 g0_8 q0_0 q0_1
  have r1 : w.heap.size + 1 < v1.heap.size := q1_1
  go_wp2_with fail
  refine (HCO.out _ (HBW.out.trans (Below.mono (by repeat (first | exact Below.refl _ _ | with_reducible exact HB1.out | (refine Below.alloc ?_ (by first | omega | (simp; omega) | simp) _) | (refine Below.setCell ?_ (by first | omega | (simp; omega) | simp) _) | refine Below.drew ?_)) HBW.out.size))).mono ?_
  rintro e v2 ⟨gs, gsc, gp, gpc, va, vc, vs, N1, rfl, hR1, hb2⟩
  have hB2_0 : Below W0.heap.size W0 v2 := below_via (Lib.hid hb2) (by first | omega | (simp; done) | (simp; omega)) (by repeat (first | exact Below.refl _ _ | with_reducible exact HB1.out | (refine Below.alloc ?_ (by first | omega | (simp; omega) | simp) _) | (refine Below.setCell ?_ (by first | omega | (simp; omega) | simp) _) | refine Below.drew ?_))
  have z2 := hb2.size
  (try simp at z2)
  obtain ⟨g2_0, g2_1, g2_2, g2_3, g2_4, g2_5, g2_6, g2_7, g2_8⟩ : v2.cell? ⟨w.heap.size, 0, none⟩ = some (.int .i64 f.len) ∧ v2.cell? ⟨w.heap.size, 1, none⟩ = some (.int .i64 f.slack) ∧ v2.cell? ⟨w.heap.size, 2, none⟩ = some (.slice sa sl sc) ∧ v2.cell? ⟨w.heap.size, 3, none⟩ = some (.slice pa pl pc) ∧ v2.cell? ⟨w.heap.size, 4, none⟩ = some (.slice ca cl cc) ∧ v2.cell? ⟨w.heap.size + 1, 0, none⟩ = some (.int .i64 c) ∧ v2.cell? ⟨w.heap.size + 1, 1, none⟩ = some (.slice xa xl xc) ∧ v2.cell? ⟨w.heap.size + 1, 2, none⟩ = some (.int .i64 on) ∧ v2.cell? ⟨w.heap.size + 1, 3, none⟩ = some (.int .i64 ot) :=
    ⟨(hb2.cell (p := ⟨w.heap.size, 0, none⟩) (by first | omega | (simp; done) | (simp; omega))).trans (by first | (go_simp; done) | (go_simp; exact set_same (u := .int .i64 0) (by go_simp; done))), (hb2.cell (p := ⟨w.heap.size, 1, none⟩) (by first | omega | (simp; done) | (simp; omega))).trans (by first | (go_simp; done) | (go_simp; exact set_same (u := .int .i64 0) (by go_simp; done))), (hb2.cell (p := ⟨w.heap.size, 2, none⟩) (by first | omega | (simp; done) | (simp; omega))).trans (by first | (go_simp; done) | (go_simp; exact set_same (u := .int .i64 0) (by go_simp; done))), (hb2.cell (p := ⟨w.heap.size, 3, none⟩) (by first | omega | (simp; done) | (simp; omega))).trans (by first | (go_simp; done) | (go_simp; exact set_same (u := .int .i64 0) (by go_simp; done))), (hb2.cell (p := ⟨w.heap.size, 4, none⟩) (by first | omega | (simp; done) | (simp; omega))).trans (by first | (go_simp; done) | (go_simp; exact set_same (u := .int .i64 0) (by go_simp; done))), (hb2.cell (p := ⟨w.heap.size + 1, 0, none⟩) (by first | omega | (simp; done) | (simp; omega))).trans (by first | (go_simp; done) | (go_simp; exact set_same (u := .int .i64 0) (by go_simp; done))), (hb2.cell (p := ⟨w.heap.size + 1, 1, none⟩) (by first | omega | (simp; done) | (simp; omega))).trans (by first | (go_simp; done) | (go_simp; exact set_same (u := .int .i64 0) (by go_simp; done))), (hb2.cell (p := ⟨w.heap.size + 1, 2, none⟩) (by first | omega | (simp; done) | (simp; omega))).trans (by first | (go_simp; done) | (go_simp; exact set_same (u := .int .i64 0) (by go_simp; done))), (hb2.cell (p := ⟨w.heap.size + 1, 3, none⟩) (by first | omega | (simp; done) | (simp; omega))).trans (by first | (go_simp; done) | (go_simp; exact set_same (u := .int .i64 0) (by go_simp; done)))⟩
  have q2_0 : w.heap.size < v2.heap.size := by first | omega | (simp at *; omega)
  have q2_1 : w.heap.size + 1 < v2.heap.size := by first | omega | (simp at *; omega)
  have HB2 := Lib.hid hB2_0
  have y2 := hB2_0.size
  clear hb2 hB2_0 g1_0 g1_1 g1_2 g1_3 g1_4 g1_5 g1_6 g1_7 g1_8 q1_0 q1_1
  have hR1c := hR1.low (n1 := v1.heap.size) (by first | omega | (simp; done) | (simp; omega))
  clear hR1
  have hz2 : v1.heap.size ≤ v2.heap.size := by first | omega | (simp at z2; omega)
  replace hR1c := hR1c.cap hz2
  obtain ⟨NN, hNN⟩ : ∃ NN, NN = min N1 v2.heap.size := ⟨_, rfl⟩
  rw [← hNN] at hR1c
  have hNu : NN ≤ v2.heap.size := by omega
  obtain ⟨n0', hn0'⟩ : ∃ n0', n0' = v1.heap.size := ⟨_, rfl⟩
  have q4 : w.heap.size + 1 < n0' := by omega
  rw [← hn0'] at hR1c
  have HR1c := Lib.hid hR1c
  clear hR1c hNN hn0' HR1
  go_wp2_with fail
  obtain ⟨U, hU, hb4, hOb, hgU⟩ := name1k v2 #[.int .i64 f.len, .int .i64 f.slack, .slice (some gs) sl gsc, .slice (some gp) pl gpc, .slice va cl vc] 26
  rw [hU]
  clear hU
  obtain ⟨gO, hgO⟩ : ∃ gO, gO = v2.heap.size := ⟨_, rfl⟩
  rw [← hgO]
  rw [← hgO] at hOb hgU
  have HSB := Lib.hid (show U.cell? ⟨w.heap.size, 0, none⟩ = some (.int .i64 f.len) ∧ U.cell? ⟨w.heap.size, 1, none⟩ = some (.int .i64 f.slack) ∧ U.cell? ⟨w.heap.size, 2, none⟩ = some (.slice sa sl sc) ∧ U.cell? ⟨w.heap.size, 3, none⟩ = some (.slice pa pl pc) ∧ U.cell? ⟨w.heap.size, 4, none⟩ = some (.slice ca cl cc) from ⟨(hb4.cell (p := ⟨w.heap.size, 0, none⟩) q2_0).trans g2_0, (hb4.cell (p := ⟨w.heap.size, 1, none⟩) q2_0).trans g2_1, (hb4.cell (p := ⟨w.heap.size, 2, none⟩) q2_0).trans g2_2, (hb4.cell (p := ⟨w.heap.size, 3, none⟩) q2_0).trans g2_3, (hb4.cell (p := ⟨w.heap.size, 4, none⟩) q2_0).trans g2_4⟩)
  have HXB := Lib.hid (show U.cell? ⟨w.heap.size + 1, 0, none⟩ = some (.int .i64 c) ∧ U.cell? ⟨w.heap.size + 1, 1, none⟩ = some (.slice xa xl xc) ∧ U.cell? ⟨w.heap.size + 1, 2, none⟩ = some (.int .i64 on) ∧ U.cell? ⟨w.heap.size + 1, 3, none⟩ = some (.int .i64 ot) from ⟨(hb4.cell (p := ⟨w.heap.size + 1, 0, none⟩) q2_1).trans g2_5, (hb4.cell (p := ⟨w.heap.size + 1, 1, none⟩) q2_1).trans g2_6, (hb4.cell (p := ⟨w.heap.size + 1, 2, none⟩) q2_1).trans g2_7, (hb4.cell (p := ⟨w.heap.size + 1, 3, none⟩) q2_1).trans g2_8⟩)
  have HOB := Lib.hid (show U.cell? ⟨gO, 0, none⟩ = some (.int .i64 f.len) ∧ U.cell? ⟨gO, 1, none⟩ = some (.int .i64 f.slack) ∧ U.cell? ⟨gO, 2, none⟩ = some (.slice (some gs) sl gsc) ∧ U.cell? ⟨gO, 3, none⟩ = some (.slice (some gp) pl gpc) ∧ U.cell? ⟨gO, 4, none⟩ = some (.slice va cl vc) from ⟨hOb 0, hOb 1, hOb 2, hOb 3, hOb 4⟩)
  have hsU : w.heap.size < U.heap.size := Nat.lt_of_lt_of_le q2_0 hb4.size
  have hxU : w.heap.size + 1 < U.heap.size := Nat.lt_of_lt_of_le q2_1 hb4.size
  have HRU := Lib.hid (HR1c.out.below hb4)
  have hwU : Below w.heap.size w U := (HBW.out.trans (HB2.out.mono HBW.out.size)).trans (hb4.mono (by have := HBW.out.size; omega))
  have HWU := Lib.hid hwU
  have hNU : NN ≤ U.heap.size := by omega
  obtain ⟨R, hR⟩ : ∃ R, (Value.slice va cl vc).ownBlock = R := ⟨_, rfl⟩
  have hRb : ∀ r, R = some r → n0' ≤ r ∧ r < gO := fun r hr => by
    have := own_span HR1c.out.2.2.1 r (by rw [hR]; exact hr)
    omega
  have HRB := Lib.hid hRb
  have hRw : ¬ some w.heap.size = R := fun e => by have := (hRb _ e.symm).1; omega
  have hRx : ¬ some (w.heap.size + 1) = R := fun e => by have := (hRb _ e.symm).1; omega
  have hRg : ¬ some gO = R := fun e => by have := (hRb _ e.symm).2; omega
  have HRR := Lib.hid hR
  clear hb4 hOb HR1c hwU hgO g2_0 g2_1 g2_2 g2_3 g2_4 g2_5 g2_6 g2_7 g2_8 q2_0 q2_1 hRb hR hNu y1 y2 z1 z2 HB1 HB2 HBW
  go_loopw [8] (fun i wr => ∃ (k : Nat) (vs' : List Value), k ≤ cl ∧ i = .int .i64 k ∧ PRow (f.withC (mixL m f.cols k)) n0' sl pl cl gs gsc gp gpc va vc vs' NN wr ∧ U.grownBy wr R) (fun i _ => cl - (intOf i).toNat)
  case atStart => exact ⟨0, vs, by omega, rfl, by rw [mix_zero]; exact HRU.out, gbx_refl _ _⟩
  case round =>
    obtain ⟨k, vs', hk, rfl, hCR, hG⟩ := hrel
    obtain ⟨W1, rfl⟩ : ∃ W1 : World, W1 = wr := ⟨_, rfl⟩
    have hcell : ∀ b i, b < U.heap.size → ¬ some b = R → W1.cell? ⟨b, i, none⟩ = U.cell? ⟨b, i, none⟩ := fun b i h1 h2 => World.cell?_of_block (w := U) (a := ⟨b, i, none⟩) (hG.block b h1 h2)
    obtain ⟨x0, x1, x2, x3, x4⟩ : W1.cell? ⟨w.heap.size, 0, none⟩ = some (.int .i64 f.len) ∧ W1.cell? ⟨w.heap.size, 1, none⟩ = some (.int .i64 f.slack) ∧ W1.cell? ⟨w.heap.size, 2, none⟩ = some (.slice sa sl sc) ∧ W1.cell? ⟨w.heap.size, 3, none⟩ = some (.slice pa pl pc) ∧ W1.cell? ⟨w.heap.size, 4, none⟩ = some (.slice ca cl cc) := ⟨(hcell _ 0 hsU hRw).trans HSB.out.1, (hcell _ 1 hsU hRw).trans HSB.out.2.1, (hcell _ 2 hsU hRw).trans HSB.out.2.2.1, (hcell _ 3 hsU hRw).trans HSB.out.2.2.2.1, (hcell _ 4 hsU hRw).trans HSB.out.2.2.2.2⟩
    obtain ⟨p0, p1, p2, p3⟩ : W1.cell? ⟨w.heap.size + 1, 0, none⟩ = some (.int .i64 c) ∧ W1.cell? ⟨w.heap.size + 1, 1, none⟩ = some (.slice xa xl xc) ∧ W1.cell? ⟨w.heap.size + 1, 2, none⟩ = some (.int .i64 on) ∧ W1.cell? ⟨w.heap.size + 1, 3, none⟩ = some (.int .i64 ot) := ⟨(hcell _ 0 hxU hRx).trans HXB.out.1, (hcell _ 1 hxU hRx).trans HXB.out.2.1, (hcell _ 2 hxU hRx).trans HXB.out.2.2.1, (hcell _ 3 hxU hRx).trans HXB.out.2.2.2⟩
    obtain ⟨o0, o1, o2, o3, o4⟩ : W1.cell? ⟨gO, 0, none⟩ = some (.int .i64 f.len) ∧ W1.cell? ⟨gO, 1, none⟩ = some (.int .i64 f.slack) ∧ W1.cell? ⟨gO, 2, none⟩ = some (.slice (some gs) sl gsc) ∧ W1.cell? ⟨gO, 3, none⟩ = some (.slice (some gp) pl gpc) ∧ W1.cell? ⟨gO, 4, none⟩ = some (.slice va cl vc) := ⟨(hcell _ 0 hgU hRg).trans HOB.out.1, (hcell _ 1 hgU hRg).trans HOB.out.2.1, (hcell _ 2 hgU hRg).trans HOB.out.2.2.1, (hcell _ 3 hgU hRg).trans HOB.out.2.2.2.1, (hcell _ 4 hgU hRg).trans HOB.out.2.2.2.2⟩
    have hbw : Below w.heap.size w W1 := HWU.out.grown hG HWU.out.size (fun r hr => by have := (HRB.out r hr).1; omega)
    have hs1 : w.heap.size < W1.heap.size := Nat.lt_of_lt_of_le hsU hG.size
    have hx1 : w.heap.size + 1 < W1.heap.size := Nat.lt_of_lt_of_le hxU hG.size
    have hg1 : gO < W1.heap.size := Nat.lt_of_lt_of_le hgU hG.size
    have HG := Lib.hid hG
    have HCR := Lib.hid hCR
    have HBW := Lib.hid hbw
    have hN1 : NN ≤ W1.heap.size := Nat.le_trans hNU hG.size
    clear hcell hG hCR
    by_cases hlt : k < cl
    · obtain ⟨gv, rfl⟩ : ∃ gv, va = some ⟨gv, 0, none⟩ := by
        rcases HCR.out.2.2.1.2 with ⟨_, h0⟩ | ⟨g, c, cur, e1, _⟩
        · omega
        · injection e1 with e1; exact ⟨g, e1⟩
      obtain rfl : some gv = R := HRR.out
      have hgv := HRB.out gv rfl
      obtain ⟨hv0, cur, hvc⟩ := own_parts HCR.out.2.2.1
      have hgvW : gv < W1.heap.size := (Array.getElem?_eq_some_iff.1 hvc).1
      obtain ⟨q, hq⟩ : ∃ q, (k + m) % cl = q := ⟨_, rfl⟩
      have hql : q < cl := by rw [← hq]; exact Nat.mod_lt _ (by omega)
      have hqs : q < f.cols.length := by rw [HWL.out]; exact hql
      obtain ⟨wb, wo, rfl, hwb, hwc⟩ := HWC.out (by omega)
      obtain ⟨ra, rl, rc, hcc, -, hints⟩ := hwc q hqs
      have hcx := (hbw.cell (p := ⟨wb, wo + q, none⟩) hwb).trans hcc
      have HXS := Lib.hid (fun W (h : W1.grownBy W (some gv)) h0 => ints_src2 (hints.below (hbw.grown h hbw.size (fun r hr => by injection hr with hr; omega))) h0)
      have hrl := hints.1
      have hrl1 : rl ≤ 1000 := by rw [← hrl]; exact HX40.out _ (List.getElem_mem hqs)
      have HMX := Lib.hid (show mixL m f.cols (k + 1) = (mixL m f.cols k).set k f.cols[q] from by
        have h2 : (k + m) % f.cols.length < f.cols.length := Nat.mod_lt _ (by omega)
        rw [mix_next m f.cols k (by rw [HWL.out]; exact hlt) h2]
        have e : (k + m) % f.cols.length = q := by rw [HWL.out]; exact hq
        simp only [e])
      obtain ⟨y, hy⟩ : ∃ y, f.cols[q] = y := ⟨_, rfl⟩
      rw [hy] at HMX hrl
      have hxc : (y.map (Value.int .i64)).length = rl * 1 := by simp [hrl]
      rw [hy] at HXS
      subst hrl
      have hwbW : wb < W1.heap.size := Nat.lt_of_lt_of_le hwb hbw.size
      have m1 : ¬ w.heap.size = gv := by omega
      have m1' : ¬ w.heap.size + 1 = gv := by omega
      have m2 : ¬ gO = gv := by omega
      have m3 : ¬ wb = gv := by omega
      obtain ⟨u0, hu0⟩ : ∃ u0, W1.cell? ⟨gv, k, none⟩ = some u0 := by
        have h1 := HCR.out.2.2.1.cells (g := gv) rfl k
        have h3 : k < vs'.length := by have := HCR.out.2.2.1.1; omega
        have h2 := h1 vs'[k] (List.getElem?_eq_getElem h3)
        rw [Addr.add_lit, Nat.zero_add] at h2
        exact ⟨_, h2⟩
      have hf0' : W1.frozen? ⟨gv, k, none⟩ = false := by simp [World.frozen?, hvc]
      have hkl : (k : Int) < (cl : Int) := by omega
      have hk0 : (0 : Int) ≤ (k : Int) := by omega
      have hqlI : (q : Int) < (cl : Int) := by omega
      have hq0 : (0 : Int) ≤ (q : Int) := by omega
      have hwr : IntKind.i64.wrap ((k : Int) + (m : Int)) = (k : Int) + (m : Int) := IntWalk.i64_in _ ⟨by omega, by omega⟩
      have htm : ((k : Int) + (m : Int)).tmod (cl : Int) = (q : Int) := by
        rw [← hq, Int.tmod_eq_emod_of_nonneg (by omega)]
        push_cast
        rfl
      have hwl0 : (0 : Int) < (cl : Int) := by omega
      have hwl1 : ¬ (cl : Int) = 0 := by omega
      have hwl2 : ¬ cl = 0 := by omega
      have hwr2 : IntKind.i64.wrap (q : Int) = (q : Int) := IntWalk.i64_in _ ⟨by omega, by omega⟩
      clear hcc hints hwc hy hq hbw hv0 hgv cur hvc
      go_upto_region 7 with fail
      go_region_held3 (fun w' => W1.grownBy w' (some gv) ∧ ∀ b o, b < W1.heap.size → ¬ b = gv → w'.cell? ⟨b, o, none⟩ = W1.cell? ⟨b, o, none⟩) (first | with_reducible assumption | ((repeat (first | with_reducible refine gS_drew ?_ | with_reducible refine gS_alloc _ ?_ | with_reducible refine gS_set _ _ ?_)); first | with_reducible assumption | with_reducible exact gS_of (gbx_refl _ _))) (first
        | ((with_reducible refine step_append_freshC _ 27 3 _ 1 8 Try.underlying27 Try.info3 rfl (by decide) (by decide) y.length rc ra (y.map (Value.int .i64)) hxc hrl1 rfl _ _ rfl ?_ ?_ ?_ ?_); (· exact ⟨_, rfl⟩); (· rfl); (· intro h0; exact HXS.out _ (And.left (by assumption)) h0); intro ga cA wA hfA hcapA hbA; have HCAP := Lib.hid hcapA; clear hcapA; have kA := gS_below (by assumption) hbA; have kAb : Below W1.heap.size W1 wA := below_via (Lib.hid hbA) (by first | exact Nat.le_refl _ | (simp; done) | (simp; omega)) (by repeat (first | exact Below.refl _ _ | (refine Below.alloc ?_ (by first | omega | (simp; omega) | simp) _) | (refine Below.setCell ?_ (by first | omega | (simp; omega) | simp) _) | refine Below.drew ?_)); have HKA := Lib.hid kAb; have gA := (kAb.cell (p := ⟨gv, k, none⟩) hgvW).trans hu0; have gF := (kAb.frozen (p := ⟨gv, k, none⟩) hgvW).trans hf0'; have HFA := Lib.hid hfA; clear hfA hbA kAb)
        | fail "no arm")
      all_goals
        go_wp2_with fail
        go_roundw
        case rel =>
          refine ⟨k + 1, _, by omega, by go_num, by rw [HMX.out]; exact (HCR.out.below HKA.out).setCol k ga y cA HCAP.out HFA.out (by first | omega | (simp; omega)), gbx_set (gbx_below HKA.out HG.out) _ _⟩
        case measure => simp [intOf]; omega
    · obtain rfl : cl = k := by omega
      clear hlt hk hRw hRx hRg HRB HRR
      have hperm := rot_perm m f.cols
      obtain ⟨hgo, t1, t2⟩ := rot_same HOK.out m
      obtain ⟨L, H, v, G1, G2⟩ := gap_both HOK.out hperm on ot
      obtain ⟨rt, hrt⟩ : ∃ rt, rotL m f.cols = rt := ⟨_, rfl⟩
      rw [hrt] at hperm hgo t1 t2 G2
      have hCRf := HCR.out
      rw [show mixL m f.cols cl = rt by rw [← hrt, ← mix_all m f.cols, HWL.out]] at hCRf
      have HO := Lib.hid (fun W (hb : Below W1.heap.size W1 W) => (hCRf.below hb).at s1 s2 s3 (fun z hz => s4 z (hperm.mem_iff.1 hz)))
      obtain ⟨W0, rfl⟩ : ∃ W0 : World, W0 = W1 := ⟨_, rfl⟩
      have HS1 := Lib.hid (fun W (h : Below w.heap.size w W) => lawStrips_any f sa sl sc pa pl pc ca cl cc HOK.out W (HP.out W h))
      have HS2 := Lib.hid (fun W (h : Below W0.heap.size W0 W) => show Calls Try.prog 59 #[.agg #[.int .i64 f.len, .int .i64 f.slack, .slice (some gs) sl gsc, .slice (some gp) pl gpc, .slice va cl vc]] W fun e w' => e = .returned (.tuple #[.int .i64 f.stripsN, .bool true]) ∧ Below W.heap.size W w' from t1 ▸ lawStrips_any (f.withC rt) (some gs) sl gsc (some gp) pl gpc va cl vc hgo W (HO.out W h))
      have HL1 := Lib.hid (fun W (h : Below w.heap.size w W) => lawLost_any f sa sl sc pa pl pc ca cl cc HOK.out W (HP.out W h))
      have HL2 := Lib.hid (fun W (h : Below W0.heap.size W0 W) => show Calls Try.prog 60 #[.agg #[.int .i64 f.len, .int .i64 f.slack, .slice (some gs) sl gsc, .slice (some gp) pl gpc, .slice va cl vc]] W fun e w' => e = .returned (.tuple #[.int .i64 f.lostN, .bool true]) ∧ Below W.heap.size W w' from t2 ▸ lawLost_any (f.withC rt) (some gs) sl gsc (some gp) pl gpc va cl vc hgo W (HO.out W h))
      have HG1 := Lib.hid (fun W (h : Below w.heap.size w W) => G1 sa sl sc pa pl pc ca cl cc W (HP.out W h))
      have HG2 := Lib.hid (fun W (h : Below W0.heap.size W0 W) => G2 (some gs) sl gsc (some gp) pl gpc va cl vc W (HO.out W h))
      generalize f.stripsN = S at *
      generalize f.lostN = T at *
      clear hrt hperm hgo t1 t2 G1 G2 hCRf HCR HG HRU HWC HWL HX40 HSB HXB HOB HWU HCO
      go_wp2_with fail
      refine (HS1.out _ (HBW.out.trans (Below.mono (by repeat (first | exact Below.refl _ _ | (refine Below.alloc ?_ (by first | omega | (simp; omega) | simp) _) | (refine Below.setCell ?_ (by first | omega | (simp; omega) | simp) _) | refine Below.drew ?_)) HBW.out.size))).mono ?_
      rintro e v1 ⟨rfl, hb1⟩
      have hB1_0 : Below W0.heap.size W0 v1 := below_via (Lib.hid hb1) (by first | omega | (simp; done) | (simp; omega)) (by repeat (first | exact Below.refl _ _ | (refine Below.alloc ?_ (by first | omega | (simp; omega) | simp) _) | (refine Below.setCell ?_ (by first | omega | (simp; omega) | simp) _) | refine Below.drew ?_))
      have z1 := hb1.size
      (try simp at z1)
      obtain ⟨g1_0, g1_1, g1_2, g1_3, g1_4, g1_5, g1_6, g1_7, g1_8, g1_9, g1_10, g1_11, g1_12, g1_13⟩ : v1.cell? ⟨w.heap.size, 0, none⟩ = some (.int .i64 f.len) ∧ v1.cell? ⟨w.heap.size, 1, none⟩ = some (.int .i64 f.slack) ∧ v1.cell? ⟨w.heap.size, 2, none⟩ = some (.slice sa sl sc) ∧ v1.cell? ⟨w.heap.size, 3, none⟩ = some (.slice pa pl pc) ∧ v1.cell? ⟨w.heap.size, 4, none⟩ = some (.slice ca cl cc) ∧ v1.cell? ⟨w.heap.size + 1, 0, none⟩ = some (.int .i64 c) ∧ v1.cell? ⟨w.heap.size + 1, 1, none⟩ = some (.slice xa xl xc) ∧ v1.cell? ⟨w.heap.size + 1, 2, none⟩ = some (.int .i64 on) ∧ v1.cell? ⟨w.heap.size + 1, 3, none⟩ = some (.int .i64 ot) ∧ v1.cell? ⟨gO, 0, none⟩ = some (.int .i64 f.len) ∧ v1.cell? ⟨gO, 1, none⟩ = some (.int .i64 f.slack) ∧ v1.cell? ⟨gO, 2, none⟩ = some (.slice (some gs) sl gsc) ∧ v1.cell? ⟨gO, 3, none⟩ = some (.slice (some gp) pl gpc) ∧ v1.cell? ⟨gO, 4, none⟩ = some (.slice va cl vc) :=
        ⟨(hb1.cell (p := ⟨w.heap.size, 0, none⟩) (by first | omega | (simp; done) | (simp; omega))).trans (by first | (go_simp; done) | (go_simp; exact set_same (u := .int .i64 0) (by go_simp; done))), (hb1.cell (p := ⟨w.heap.size, 1, none⟩) (by first | omega | (simp; done) | (simp; omega))).trans (by first | (go_simp; done) | (go_simp; exact set_same (u := .int .i64 0) (by go_simp; done))), (hb1.cell (p := ⟨w.heap.size, 2, none⟩) (by first | omega | (simp; done) | (simp; omega))).trans (by first | (go_simp; done) | (go_simp; exact set_same (u := .int .i64 0) (by go_simp; done))), (hb1.cell (p := ⟨w.heap.size, 3, none⟩) (by first | omega | (simp; done) | (simp; omega))).trans (by first | (go_simp; done) | (go_simp; exact set_same (u := .int .i64 0) (by go_simp; done))), (hb1.cell (p := ⟨w.heap.size, 4, none⟩) (by first | omega | (simp; done) | (simp; omega))).trans (by first | (go_simp; done) | (go_simp; exact set_same (u := .int .i64 0) (by go_simp; done))), (hb1.cell (p := ⟨w.heap.size + 1, 0, none⟩) (by first | omega | (simp; done) | (simp; omega))).trans (by first | (go_simp; done) | (go_simp; exact set_same (u := .int .i64 0) (by go_simp; done))), (hb1.cell (p := ⟨w.heap.size + 1, 1, none⟩) (by first | omega | (simp; done) | (simp; omega))).trans (by first | (go_simp; done) | (go_simp; exact set_same (u := .int .i64 0) (by go_simp; done))), (hb1.cell (p := ⟨w.heap.size + 1, 2, none⟩) (by first | omega | (simp; done) | (simp; omega))).trans (by first | (go_simp; done) | (go_simp; exact set_same (u := .int .i64 0) (by go_simp; done))), (hb1.cell (p := ⟨w.heap.size + 1, 3, none⟩) (by first | omega | (simp; done) | (simp; omega))).trans (by first | (go_simp; done) | (go_simp; exact set_same (u := .int .i64 0) (by go_simp; done))), (hb1.cell (p := ⟨gO, 0, none⟩) (by first | omega | (simp; done) | (simp; omega))).trans (by first | (go_simp; done) | (go_simp; exact set_same (u := .int .i64 0) (by go_simp; done))), (hb1.cell (p := ⟨gO, 1, none⟩) (by first | omega | (simp; done) | (simp; omega))).trans (by first | (go_simp; done) | (go_simp; exact set_same (u := .int .i64 0) (by go_simp; done))), (hb1.cell (p := ⟨gO, 2, none⟩) (by first | omega | (simp; done) | (simp; omega))).trans (by first | (go_simp; done) | (go_simp; exact set_same (u := .int .i64 0) (by go_simp; done))), (hb1.cell (p := ⟨gO, 3, none⟩) (by first | omega | (simp; done) | (simp; omega))).trans (by first | (go_simp; done) | (go_simp; exact set_same (u := .int .i64 0) (by go_simp; done))), (hb1.cell (p := ⟨gO, 4, none⟩) (by first | omega | (simp; done) | (simp; omega))).trans (by first | (go_simp; done) | (go_simp; exact set_same (u := .int .i64 0) (by go_simp; done)))⟩
      have q1_0 : w.heap.size < v1.heap.size := by first | omega | (simp at *; omega)
      have q1_1 : w.heap.size + 1 < v1.heap.size := by first | omega | (simp at *; omega)
      have q1_2 : gO < v1.heap.size := by first | omega | (simp at *; omega)
      have HB1 := Lib.hid hB1_0
      have y1 := hB1_0.size
      clear hb1 hB1_0 x0 x1 x2 x3 x4 p0 p1 p2 p3 o0 o1 o2 o3 o4 hs1 hx1 hg1
      go_wp2_with fail
      refine (HS2.out _ (by repeat (first | exact Below.refl _ _ | with_reducible exact HB1.out | (refine Below.alloc ?_ (by first | omega | (simp; omega) | simp) _) | (refine Below.setCell ?_ (by first | omega | (simp; omega) | simp) _) | refine Below.drew ?_))).mono ?_
      rintro e v2 ⟨rfl, hb2⟩
      have hB2_0 : Below W0.heap.size W0 v2 := below_via (Lib.hid hb2) (by first | omega | (simp; done) | (simp; omega)) (by repeat (first | exact Below.refl _ _ | with_reducible exact HB1.out | (refine Below.alloc ?_ (by first | omega | (simp; omega) | simp) _) | (refine Below.setCell ?_ (by first | omega | (simp; omega) | simp) _) | refine Below.drew ?_))
      have z2 := hb2.size
      (try simp at z2)
      obtain ⟨g2_0, g2_1, g2_2, g2_3, g2_4, g2_5, g2_6, g2_7, g2_8, g2_9, g2_10, g2_11, g2_12, g2_13⟩ : v2.cell? ⟨w.heap.size, 0, none⟩ = some (.int .i64 f.len) ∧ v2.cell? ⟨w.heap.size, 1, none⟩ = some (.int .i64 f.slack) ∧ v2.cell? ⟨w.heap.size, 2, none⟩ = some (.slice sa sl sc) ∧ v2.cell? ⟨w.heap.size, 3, none⟩ = some (.slice pa pl pc) ∧ v2.cell? ⟨w.heap.size, 4, none⟩ = some (.slice ca cl cc) ∧ v2.cell? ⟨w.heap.size + 1, 0, none⟩ = some (.int .i64 c) ∧ v2.cell? ⟨w.heap.size + 1, 1, none⟩ = some (.slice xa xl xc) ∧ v2.cell? ⟨w.heap.size + 1, 2, none⟩ = some (.int .i64 on) ∧ v2.cell? ⟨w.heap.size + 1, 3, none⟩ = some (.int .i64 ot) ∧ v2.cell? ⟨gO, 0, none⟩ = some (.int .i64 f.len) ∧ v2.cell? ⟨gO, 1, none⟩ = some (.int .i64 f.slack) ∧ v2.cell? ⟨gO, 2, none⟩ = some (.slice (some gs) sl gsc) ∧ v2.cell? ⟨gO, 3, none⟩ = some (.slice (some gp) pl gpc) ∧ v2.cell? ⟨gO, 4, none⟩ = some (.slice va cl vc) :=
        ⟨(hb2.cell (p := ⟨w.heap.size, 0, none⟩) (by first | omega | (simp; done) | (simp; omega))).trans (by first | (go_simp; done) | (go_simp; exact set_same (u := .int .i64 0) (by go_simp; done))), (hb2.cell (p := ⟨w.heap.size, 1, none⟩) (by first | omega | (simp; done) | (simp; omega))).trans (by first | (go_simp; done) | (go_simp; exact set_same (u := .int .i64 0) (by go_simp; done))), (hb2.cell (p := ⟨w.heap.size, 2, none⟩) (by first | omega | (simp; done) | (simp; omega))).trans (by first | (go_simp; done) | (go_simp; exact set_same (u := .int .i64 0) (by go_simp; done))), (hb2.cell (p := ⟨w.heap.size, 3, none⟩) (by first | omega | (simp; done) | (simp; omega))).trans (by first | (go_simp; done) | (go_simp; exact set_same (u := .int .i64 0) (by go_simp; done))), (hb2.cell (p := ⟨w.heap.size, 4, none⟩) (by first | omega | (simp; done) | (simp; omega))).trans (by first | (go_simp; done) | (go_simp; exact set_same (u := .int .i64 0) (by go_simp; done))), (hb2.cell (p := ⟨w.heap.size + 1, 0, none⟩) (by first | omega | (simp; done) | (simp; omega))).trans (by first | (go_simp; done) | (go_simp; exact set_same (u := .int .i64 0) (by go_simp; done))), (hb2.cell (p := ⟨w.heap.size + 1, 1, none⟩) (by first | omega | (simp; done) | (simp; omega))).trans (by first | (go_simp; done) | (go_simp; exact set_same (u := .int .i64 0) (by go_simp; done))), (hb2.cell (p := ⟨w.heap.size + 1, 2, none⟩) (by first | omega | (simp; done) | (simp; omega))).trans (by first | (go_simp; done) | (go_simp; exact set_same (u := .int .i64 0) (by go_simp; done))), (hb2.cell (p := ⟨w.heap.size + 1, 3, none⟩) (by first | omega | (simp; done) | (simp; omega))).trans (by first | (go_simp; done) | (go_simp; exact set_same (u := .int .i64 0) (by go_simp; done))), (hb2.cell (p := ⟨gO, 0, none⟩) (by first | omega | (simp; done) | (simp; omega))).trans (by first | (go_simp; done) | (go_simp; exact set_same (u := .int .i64 0) (by go_simp; done))), (hb2.cell (p := ⟨gO, 1, none⟩) (by first | omega | (simp; done) | (simp; omega))).trans (by first | (go_simp; done) | (go_simp; exact set_same (u := .int .i64 0) (by go_simp; done))), (hb2.cell (p := ⟨gO, 2, none⟩) (by first | omega | (simp; done) | (simp; omega))).trans (by first | (go_simp; done) | (go_simp; exact set_same (u := .int .i64 0) (by go_simp; done))), (hb2.cell (p := ⟨gO, 3, none⟩) (by first | omega | (simp; done) | (simp; omega))).trans (by first | (go_simp; done) | (go_simp; exact set_same (u := .int .i64 0) (by go_simp; done))), (hb2.cell (p := ⟨gO, 4, none⟩) (by first | omega | (simp; done) | (simp; omega))).trans (by first | (go_simp; done) | (go_simp; exact set_same (u := .int .i64 0) (by go_simp; done)))⟩
      have q2_0 : w.heap.size < v2.heap.size := by first | omega | (simp at *; omega)
      have q2_1 : w.heap.size + 1 < v2.heap.size := by first | omega | (simp at *; omega)
      have q2_2 : gO < v2.heap.size := by first | omega | (simp at *; omega)
      have HB2 := Lib.hid hB2_0
      have y2 := hB2_0.size
      clear hb2 hB2_0 g1_0 g1_1 g1_2 g1_3 g1_4 g1_5 g1_6 g1_7 g1_8 g1_9 g1_10 g1_11 g1_12 g1_13 q1_0 q1_1 q1_2
      go_wp2_with fail
      refine (HL1.out _ (HBW.out.trans (Below.mono (by repeat (first | exact Below.refl _ _ | with_reducible exact HB2.out | (refine Below.alloc ?_ (by first | omega | (simp; omega) | simp) _) | (refine Below.setCell ?_ (by first | omega | (simp; omega) | simp) _) | refine Below.drew ?_)) HBW.out.size))).mono ?_
      rintro e v3 ⟨rfl, hb3⟩
      have hB3_0 : Below W0.heap.size W0 v3 := below_via (Lib.hid hb3) (by first | omega | (simp; done) | (simp; omega)) (by repeat (first | exact Below.refl _ _ | with_reducible exact HB2.out | (refine Below.alloc ?_ (by first | omega | (simp; omega) | simp) _) | (refine Below.setCell ?_ (by first | omega | (simp; omega) | simp) _) | refine Below.drew ?_))
      have z3 := hb3.size
      (try simp at z3)
      obtain ⟨g3_0, g3_1, g3_2, g3_3, g3_4, g3_5, g3_6, g3_7, g3_8, g3_9, g3_10, g3_11, g3_12, g3_13⟩ : v3.cell? ⟨w.heap.size, 0, none⟩ = some (.int .i64 f.len) ∧ v3.cell? ⟨w.heap.size, 1, none⟩ = some (.int .i64 f.slack) ∧ v3.cell? ⟨w.heap.size, 2, none⟩ = some (.slice sa sl sc) ∧ v3.cell? ⟨w.heap.size, 3, none⟩ = some (.slice pa pl pc) ∧ v3.cell? ⟨w.heap.size, 4, none⟩ = some (.slice ca cl cc) ∧ v3.cell? ⟨w.heap.size + 1, 0, none⟩ = some (.int .i64 c) ∧ v3.cell? ⟨w.heap.size + 1, 1, none⟩ = some (.slice xa xl xc) ∧ v3.cell? ⟨w.heap.size + 1, 2, none⟩ = some (.int .i64 on) ∧ v3.cell? ⟨w.heap.size + 1, 3, none⟩ = some (.int .i64 ot) ∧ v3.cell? ⟨gO, 0, none⟩ = some (.int .i64 f.len) ∧ v3.cell? ⟨gO, 1, none⟩ = some (.int .i64 f.slack) ∧ v3.cell? ⟨gO, 2, none⟩ = some (.slice (some gs) sl gsc) ∧ v3.cell? ⟨gO, 3, none⟩ = some (.slice (some gp) pl gpc) ∧ v3.cell? ⟨gO, 4, none⟩ = some (.slice va cl vc) :=
        ⟨(hb3.cell (p := ⟨w.heap.size, 0, none⟩) (by first | omega | (simp; done) | (simp; omega))).trans (by first | (go_simp; done) | (go_simp; exact set_same (u := .int .i64 0) (by go_simp; done))), (hb3.cell (p := ⟨w.heap.size, 1, none⟩) (by first | omega | (simp; done) | (simp; omega))).trans (by first | (go_simp; done) | (go_simp; exact set_same (u := .int .i64 0) (by go_simp; done))), (hb3.cell (p := ⟨w.heap.size, 2, none⟩) (by first | omega | (simp; done) | (simp; omega))).trans (by first | (go_simp; done) | (go_simp; exact set_same (u := .int .i64 0) (by go_simp; done))), (hb3.cell (p := ⟨w.heap.size, 3, none⟩) (by first | omega | (simp; done) | (simp; omega))).trans (by first | (go_simp; done) | (go_simp; exact set_same (u := .int .i64 0) (by go_simp; done))), (hb3.cell (p := ⟨w.heap.size, 4, none⟩) (by first | omega | (simp; done) | (simp; omega))).trans (by first | (go_simp; done) | (go_simp; exact set_same (u := .int .i64 0) (by go_simp; done))), (hb3.cell (p := ⟨w.heap.size + 1, 0, none⟩) (by first | omega | (simp; done) | (simp; omega))).trans (by first | (go_simp; done) | (go_simp; exact set_same (u := .int .i64 0) (by go_simp; done))), (hb3.cell (p := ⟨w.heap.size + 1, 1, none⟩) (by first | omega | (simp; done) | (simp; omega))).trans (by first | (go_simp; done) | (go_simp; exact set_same (u := .int .i64 0) (by go_simp; done))), (hb3.cell (p := ⟨w.heap.size + 1, 2, none⟩) (by first | omega | (simp; done) | (simp; omega))).trans (by first | (go_simp; done) | (go_simp; exact set_same (u := .int .i64 0) (by go_simp; done))), (hb3.cell (p := ⟨w.heap.size + 1, 3, none⟩) (by first | omega | (simp; done) | (simp; omega))).trans (by first | (go_simp; done) | (go_simp; exact set_same (u := .int .i64 0) (by go_simp; done))), (hb3.cell (p := ⟨gO, 0, none⟩) (by first | omega | (simp; done) | (simp; omega))).trans (by first | (go_simp; done) | (go_simp; exact set_same (u := .int .i64 0) (by go_simp; done))), (hb3.cell (p := ⟨gO, 1, none⟩) (by first | omega | (simp; done) | (simp; omega))).trans (by first | (go_simp; done) | (go_simp; exact set_same (u := .int .i64 0) (by go_simp; done))), (hb3.cell (p := ⟨gO, 2, none⟩) (by first | omega | (simp; done) | (simp; omega))).trans (by first | (go_simp; done) | (go_simp; exact set_same (u := .int .i64 0) (by go_simp; done))), (hb3.cell (p := ⟨gO, 3, none⟩) (by first | omega | (simp; done) | (simp; omega))).trans (by first | (go_simp; done) | (go_simp; exact set_same (u := .int .i64 0) (by go_simp; done))), (hb3.cell (p := ⟨gO, 4, none⟩) (by first | omega | (simp; done) | (simp; omega))).trans (by first | (go_simp; done) | (go_simp; exact set_same (u := .int .i64 0) (by go_simp; done)))⟩
      have q3_0 : w.heap.size < v3.heap.size := by first | omega | (simp at *; omega)
      have q3_1 : w.heap.size + 1 < v3.heap.size := by first | omega | (simp at *; omega)
      have q3_2 : gO < v3.heap.size := by first | omega | (simp at *; omega)
      have HB3 := Lib.hid hB3_0
      have y3 := hB3_0.size
      clear hb3 hB3_0 g2_0 g2_1 g2_2 g2_3 g2_4 g2_5 g2_6 g2_7 g2_8 g2_9 g2_10 g2_11 g2_12 g2_13 q2_0 q2_1 q2_2
      go_wp2_with fail
      refine (HL2.out _ (by repeat (first | exact Below.refl _ _ | with_reducible exact HB3.out | (refine Below.alloc ?_ (by first | omega | (simp; omega) | simp) _) | (refine Below.setCell ?_ (by first | omega | (simp; omega) | simp) _) | refine Below.drew ?_))).mono ?_
      rintro e v4 ⟨rfl, hb4⟩
      have hB4_0 : Below W0.heap.size W0 v4 := below_via (Lib.hid hb4) (by first | omega | (simp; done) | (simp; omega)) (by repeat (first | exact Below.refl _ _ | with_reducible exact HB3.out | (refine Below.alloc ?_ (by first | omega | (simp; omega) | simp) _) | (refine Below.setCell ?_ (by first | omega | (simp; omega) | simp) _) | refine Below.drew ?_))
      have z4 := hb4.size
      (try simp at z4)
      obtain ⟨g4_0, g4_1, g4_2, g4_3, g4_4, g4_5, g4_6, g4_7, g4_8, g4_9, g4_10, g4_11, g4_12, g4_13⟩ : v4.cell? ⟨w.heap.size, 0, none⟩ = some (.int .i64 f.len) ∧ v4.cell? ⟨w.heap.size, 1, none⟩ = some (.int .i64 f.slack) ∧ v4.cell? ⟨w.heap.size, 2, none⟩ = some (.slice sa sl sc) ∧ v4.cell? ⟨w.heap.size, 3, none⟩ = some (.slice pa pl pc) ∧ v4.cell? ⟨w.heap.size, 4, none⟩ = some (.slice ca cl cc) ∧ v4.cell? ⟨w.heap.size + 1, 0, none⟩ = some (.int .i64 c) ∧ v4.cell? ⟨w.heap.size + 1, 1, none⟩ = some (.slice xa xl xc) ∧ v4.cell? ⟨w.heap.size + 1, 2, none⟩ = some (.int .i64 on) ∧ v4.cell? ⟨w.heap.size + 1, 3, none⟩ = some (.int .i64 ot) ∧ v4.cell? ⟨gO, 0, none⟩ = some (.int .i64 f.len) ∧ v4.cell? ⟨gO, 1, none⟩ = some (.int .i64 f.slack) ∧ v4.cell? ⟨gO, 2, none⟩ = some (.slice (some gs) sl gsc) ∧ v4.cell? ⟨gO, 3, none⟩ = some (.slice (some gp) pl gpc) ∧ v4.cell? ⟨gO, 4, none⟩ = some (.slice va cl vc) :=
        ⟨(hb4.cell (p := ⟨w.heap.size, 0, none⟩) (by first | omega | (simp; done) | (simp; omega))).trans (by first | (go_simp; done) | (go_simp; exact set_same (u := .int .i64 0) (by go_simp; done))), (hb4.cell (p := ⟨w.heap.size, 1, none⟩) (by first | omega | (simp; done) | (simp; omega))).trans (by first | (go_simp; done) | (go_simp; exact set_same (u := .int .i64 0) (by go_simp; done))), (hb4.cell (p := ⟨w.heap.size, 2, none⟩) (by first | omega | (simp; done) | (simp; omega))).trans (by first | (go_simp; done) | (go_simp; exact set_same (u := .int .i64 0) (by go_simp; done))), (hb4.cell (p := ⟨w.heap.size, 3, none⟩) (by first | omega | (simp; done) | (simp; omega))).trans (by first | (go_simp; done) | (go_simp; exact set_same (u := .int .i64 0) (by go_simp; done))), (hb4.cell (p := ⟨w.heap.size, 4, none⟩) (by first | omega | (simp; done) | (simp; omega))).trans (by first | (go_simp; done) | (go_simp; exact set_same (u := .int .i64 0) (by go_simp; done))), (hb4.cell (p := ⟨w.heap.size + 1, 0, none⟩) (by first | omega | (simp; done) | (simp; omega))).trans (by first | (go_simp; done) | (go_simp; exact set_same (u := .int .i64 0) (by go_simp; done))), (hb4.cell (p := ⟨w.heap.size + 1, 1, none⟩) (by first | omega | (simp; done) | (simp; omega))).trans (by first | (go_simp; done) | (go_simp; exact set_same (u := .int .i64 0) (by go_simp; done))), (hb4.cell (p := ⟨w.heap.size + 1, 2, none⟩) (by first | omega | (simp; done) | (simp; omega))).trans (by first | (go_simp; done) | (go_simp; exact set_same (u := .int .i64 0) (by go_simp; done))), (hb4.cell (p := ⟨w.heap.size + 1, 3, none⟩) (by first | omega | (simp; done) | (simp; omega))).trans (by first | (go_simp; done) | (go_simp; exact set_same (u := .int .i64 0) (by go_simp; done))), (hb4.cell (p := ⟨gO, 0, none⟩) (by first | omega | (simp; done) | (simp; omega))).trans (by first | (go_simp; done) | (go_simp; exact set_same (u := .int .i64 0) (by go_simp; done))), (hb4.cell (p := ⟨gO, 1, none⟩) (by first | omega | (simp; done) | (simp; omega))).trans (by first | (go_simp; done) | (go_simp; exact set_same (u := .int .i64 0) (by go_simp; done))), (hb4.cell (p := ⟨gO, 2, none⟩) (by first | omega | (simp; done) | (simp; omega))).trans (by first | (go_simp; done) | (go_simp; exact set_same (u := .int .i64 0) (by go_simp; done))), (hb4.cell (p := ⟨gO, 3, none⟩) (by first | omega | (simp; done) | (simp; omega))).trans (by first | (go_simp; done) | (go_simp; exact set_same (u := .int .i64 0) (by go_simp; done))), (hb4.cell (p := ⟨gO, 4, none⟩) (by first | omega | (simp; done) | (simp; omega))).trans (by first | (go_simp; done) | (go_simp; exact set_same (u := .int .i64 0) (by go_simp; done)))⟩
      have q4_0 : w.heap.size < v4.heap.size := by first | omega | (simp at *; omega)
      have q4_1 : w.heap.size + 1 < v4.heap.size := by first | omega | (simp at *; omega)
      have q4_2 : gO < v4.heap.size := by first | omega | (simp at *; omega)
      have HB4 := Lib.hid hB4_0
      have y4 := hB4_0.size
      clear hb4 hB4_0 g3_0 g3_1 g3_2 g3_3 g3_4 g3_5 g3_6 g3_7 g3_8 g3_9 g3_10 g3_11 g3_12 g3_13 q3_0 q3_1 q3_2
      go_wp2_with fail
      refine (HG1.out _ (HBW.out.trans (Below.mono (by repeat (first | exact Below.refl _ _ | with_reducible exact HB4.out | (refine Below.alloc ?_ (by first | omega | (simp; omega) | simp) _) | (refine Below.setCell ?_ (by first | omega | (simp; omega) | simp) _) | refine Below.drew ?_)) HBW.out.size))).mono ?_
      rintro e v5 ⟨rfl, hb5⟩
      have hB5_0 : Below W0.heap.size W0 v5 := below_via (Lib.hid hb5) (by first | omega | (simp; done) | (simp; omega)) (by repeat (first | exact Below.refl _ _ | with_reducible exact HB4.out | (refine Below.alloc ?_ (by first | omega | (simp; omega) | simp) _) | (refine Below.setCell ?_ (by first | omega | (simp; omega) | simp) _) | refine Below.drew ?_))
      have z5 := hb5.size
      (try simp at z5)
      obtain ⟨g5_0, g5_1, g5_2, g5_3, g5_4, g5_5, g5_6, g5_7, g5_8, g5_9, g5_10, g5_11, g5_12, g5_13⟩ : v5.cell? ⟨w.heap.size, 0, none⟩ = some (.int .i64 f.len) ∧ v5.cell? ⟨w.heap.size, 1, none⟩ = some (.int .i64 f.slack) ∧ v5.cell? ⟨w.heap.size, 2, none⟩ = some (.slice sa sl sc) ∧ v5.cell? ⟨w.heap.size, 3, none⟩ = some (.slice pa pl pc) ∧ v5.cell? ⟨w.heap.size, 4, none⟩ = some (.slice ca cl cc) ∧ v5.cell? ⟨w.heap.size + 1, 0, none⟩ = some (.int .i64 c) ∧ v5.cell? ⟨w.heap.size + 1, 1, none⟩ = some (.slice xa xl xc) ∧ v5.cell? ⟨w.heap.size + 1, 2, none⟩ = some (.int .i64 on) ∧ v5.cell? ⟨w.heap.size + 1, 3, none⟩ = some (.int .i64 ot) ∧ v5.cell? ⟨gO, 0, none⟩ = some (.int .i64 f.len) ∧ v5.cell? ⟨gO, 1, none⟩ = some (.int .i64 f.slack) ∧ v5.cell? ⟨gO, 2, none⟩ = some (.slice (some gs) sl gsc) ∧ v5.cell? ⟨gO, 3, none⟩ = some (.slice (some gp) pl gpc) ∧ v5.cell? ⟨gO, 4, none⟩ = some (.slice va cl vc) :=
        ⟨(hb5.cell (p := ⟨w.heap.size, 0, none⟩) (by first | omega | (simp; done) | (simp; omega))).trans (by first | (go_simp; done) | (go_simp; exact set_same (u := .int .i64 0) (by go_simp; done))), (hb5.cell (p := ⟨w.heap.size, 1, none⟩) (by first | omega | (simp; done) | (simp; omega))).trans (by first | (go_simp; done) | (go_simp; exact set_same (u := .int .i64 0) (by go_simp; done))), (hb5.cell (p := ⟨w.heap.size, 2, none⟩) (by first | omega | (simp; done) | (simp; omega))).trans (by first | (go_simp; done) | (go_simp; exact set_same (u := .int .i64 0) (by go_simp; done))), (hb5.cell (p := ⟨w.heap.size, 3, none⟩) (by first | omega | (simp; done) | (simp; omega))).trans (by first | (go_simp; done) | (go_simp; exact set_same (u := .int .i64 0) (by go_simp; done))), (hb5.cell (p := ⟨w.heap.size, 4, none⟩) (by first | omega | (simp; done) | (simp; omega))).trans (by first | (go_simp; done) | (go_simp; exact set_same (u := .int .i64 0) (by go_simp; done))), (hb5.cell (p := ⟨w.heap.size + 1, 0, none⟩) (by first | omega | (simp; done) | (simp; omega))).trans (by first | (go_simp; done) | (go_simp; exact set_same (u := .int .i64 0) (by go_simp; done))), (hb5.cell (p := ⟨w.heap.size + 1, 1, none⟩) (by first | omega | (simp; done) | (simp; omega))).trans (by first | (go_simp; done) | (go_simp; exact set_same (u := .int .i64 0) (by go_simp; done))), (hb5.cell (p := ⟨w.heap.size + 1, 2, none⟩) (by first | omega | (simp; done) | (simp; omega))).trans (by first | (go_simp; done) | (go_simp; exact set_same (u := .int .i64 0) (by go_simp; done))), (hb5.cell (p := ⟨w.heap.size + 1, 3, none⟩) (by first | omega | (simp; done) | (simp; omega))).trans (by first | (go_simp; done) | (go_simp; exact set_same (u := .int .i64 0) (by go_simp; done))), (hb5.cell (p := ⟨gO, 0, none⟩) (by first | omega | (simp; done) | (simp; omega))).trans (by first | (go_simp; done) | (go_simp; exact set_same (u := .int .i64 0) (by go_simp; done))), (hb5.cell (p := ⟨gO, 1, none⟩) (by first | omega | (simp; done) | (simp; omega))).trans (by first | (go_simp; done) | (go_simp; exact set_same (u := .int .i64 0) (by go_simp; done))), (hb5.cell (p := ⟨gO, 2, none⟩) (by first | omega | (simp; done) | (simp; omega))).trans (by first | (go_simp; done) | (go_simp; exact set_same (u := .int .i64 0) (by go_simp; done))), (hb5.cell (p := ⟨gO, 3, none⟩) (by first | omega | (simp; done) | (simp; omega))).trans (by first | (go_simp; done) | (go_simp; exact set_same (u := .int .i64 0) (by go_simp; done))), (hb5.cell (p := ⟨gO, 4, none⟩) (by first | omega | (simp; done) | (simp; omega))).trans (by first | (go_simp; done) | (go_simp; exact set_same (u := .int .i64 0) (by go_simp; done)))⟩
      have q5_0 : w.heap.size < v5.heap.size := by first | omega | (simp at *; omega)
      have q5_1 : w.heap.size + 1 < v5.heap.size := by first | omega | (simp at *; omega)
      have q5_2 : gO < v5.heap.size := by first | omega | (simp at *; omega)
      have HB5 := Lib.hid hB5_0
      have y5 := hB5_0.size
      clear hb5 hB5_0 g4_0 g4_1 g4_2 g4_3 g4_4 g4_5 g4_6 g4_7 g4_8 g4_9 g4_10 g4_11 g4_12 g4_13 q4_0 q4_1 q4_2
      go_wp2_with fail
      refine (HG2.out _ (by repeat (first | exact Below.refl _ _ | with_reducible exact HB5.out | (refine Below.alloc ?_ (by first | omega | (simp; omega) | simp) _) | (refine Below.setCell ?_ (by first | omega | (simp; omega) | simp) _) | refine Below.drew ?_))).mono ?_
      rintro e v6 ⟨rfl, hb6⟩
      have hB6_0 : Below W0.heap.size W0 v6 := below_via (Lib.hid hb6) (by first | omega | (simp; done) | (simp; omega)) (by repeat (first | exact Below.refl _ _ | with_reducible exact HB5.out | (refine Below.alloc ?_ (by first | omega | (simp; omega) | simp) _) | (refine Below.setCell ?_ (by first | omega | (simp; omega) | simp) _) | refine Below.drew ?_))
      have z6 := hb6.size
      (try simp at z6)
      obtain ⟨g6_0, g6_1, g6_2, g6_3, g6_4, g6_5, g6_6, g6_7, g6_8, g6_9, g6_10, g6_11, g6_12, g6_13, g6_14, g6_15⟩ : v6.cell? ⟨w.heap.size, 0, none⟩ = some (.int .i64 f.len) ∧ v6.cell? ⟨w.heap.size, 1, none⟩ = some (.int .i64 f.slack) ∧ v6.cell? ⟨w.heap.size, 2, none⟩ = some (.slice sa sl sc) ∧ v6.cell? ⟨w.heap.size, 3, none⟩ = some (.slice pa pl pc) ∧ v6.cell? ⟨w.heap.size, 4, none⟩ = some (.slice ca cl cc) ∧ v6.cell? ⟨w.heap.size + 1, 0, none⟩ = some (.int .i64 c) ∧ v6.cell? ⟨w.heap.size + 1, 1, none⟩ = some (.slice xa xl xc) ∧ v6.cell? ⟨w.heap.size + 1, 2, none⟩ = some (.int .i64 on) ∧ v6.cell? ⟨w.heap.size + 1, 3, none⟩ = some (.int .i64 ot) ∧ v6.cell? ⟨gO, 0, none⟩ = some (.int .i64 f.len) ∧ v6.cell? ⟨gO, 1, none⟩ = some (.int .i64 f.slack) ∧ v6.cell? ⟨gO, 2, none⟩ = some (.slice (some gs) sl gsc) ∧ v6.cell? ⟨gO, 3, none⟩ = some (.slice (some gp) pl gpc) ∧ v6.cell? ⟨gO, 4, none⟩ = some (.slice va cl vc) ∧ v6.cell? ⟨v5.heap.size, 0, none⟩ = some (.int .i64 L) ∧ v6.cell? ⟨v5.heap.size, 1, none⟩ = some (.int .i64 H) :=
        ⟨(hb6.cell (p := ⟨w.heap.size, 0, none⟩) (by first | omega | (simp; done) | (simp; omega))).trans (by first | (go_simp; done) | (go_simp; exact set_same (u := .int .i64 0) (by go_simp; done))), (hb6.cell (p := ⟨w.heap.size, 1, none⟩) (by first | omega | (simp; done) | (simp; omega))).trans (by first | (go_simp; done) | (go_simp; exact set_same (u := .int .i64 0) (by go_simp; done))), (hb6.cell (p := ⟨w.heap.size, 2, none⟩) (by first | omega | (simp; done) | (simp; omega))).trans (by first | (go_simp; done) | (go_simp; exact set_same (u := .int .i64 0) (by go_simp; done))), (hb6.cell (p := ⟨w.heap.size, 3, none⟩) (by first | omega | (simp; done) | (simp; omega))).trans (by first | (go_simp; done) | (go_simp; exact set_same (u := .int .i64 0) (by go_simp; done))), (hb6.cell (p := ⟨w.heap.size, 4, none⟩) (by first | omega | (simp; done) | (simp; omega))).trans (by first | (go_simp; done) | (go_simp; exact set_same (u := .int .i64 0) (by go_simp; done))), (hb6.cell (p := ⟨w.heap.size + 1, 0, none⟩) (by first | omega | (simp; done) | (simp; omega))).trans (by first | (go_simp; done) | (go_simp; exact set_same (u := .int .i64 0) (by go_simp; done))), (hb6.cell (p := ⟨w.heap.size + 1, 1, none⟩) (by first | omega | (simp; done) | (simp; omega))).trans (by first | (go_simp; done) | (go_simp; exact set_same (u := .int .i64 0) (by go_simp; done))), (hb6.cell (p := ⟨w.heap.size + 1, 2, none⟩) (by first | omega | (simp; done) | (simp; omega))).trans (by first | (go_simp; done) | (go_simp; exact set_same (u := .int .i64 0) (by go_simp; done))), (hb6.cell (p := ⟨w.heap.size + 1, 3, none⟩) (by first | omega | (simp; done) | (simp; omega))).trans (by first | (go_simp; done) | (go_simp; exact set_same (u := .int .i64 0) (by go_simp; done))), (hb6.cell (p := ⟨gO, 0, none⟩) (by first | omega | (simp; done) | (simp; omega))).trans (by first | (go_simp; done) | (go_simp; exact set_same (u := .int .i64 0) (by go_simp; done))), (hb6.cell (p := ⟨gO, 1, none⟩) (by first | omega | (simp; done) | (simp; omega))).trans (by first | (go_simp; done) | (go_simp; exact set_same (u := .int .i64 0) (by go_simp; done))), (hb6.cell (p := ⟨gO, 2, none⟩) (by first | omega | (simp; done) | (simp; omega))).trans (by first | (go_simp; done) | (go_simp; exact set_same (u := .int .i64 0) (by go_simp; done))), (hb6.cell (p := ⟨gO, 3, none⟩) (by first | omega | (simp; done) | (simp; omega))).trans (by first | (go_simp; done) | (go_simp; exact set_same (u := .int .i64 0) (by go_simp; done))), (hb6.cell (p := ⟨gO, 4, none⟩) (by first | omega | (simp; done) | (simp; omega))).trans (by first | (go_simp; done) | (go_simp; exact set_same (u := .int .i64 0) (by go_simp; done))), (hb6.cell (p := ⟨v5.heap.size, 0, none⟩) (by first | omega | (simp; done) | (simp; omega))).trans (by first | (go_simp; done) | (go_simp; exact set_same (u := .int .i64 0) (by go_simp; done))), (hb6.cell (p := ⟨v5.heap.size, 1, none⟩) (by first | omega | (simp; done) | (simp; omega))).trans (by first | (go_simp; done) | (go_simp; exact set_same (u := .int .i64 0) (by go_simp; done)))⟩
      have q6_0 : w.heap.size < v6.heap.size := by first | omega | (simp at *; omega)
      have q6_1 : w.heap.size + 1 < v6.heap.size := by first | omega | (simp at *; omega)
      have q6_2 : gO < v6.heap.size := by first | omega | (simp at *; omega)
      have q6_3 : v5.heap.size < v6.heap.size := by first | omega | (simp at *; omega)
      have HB6 := Lib.hid hB6_0
      have y6 := hB6_0.size
      clear hb6 hB6_0 g5_0 g5_1 g5_2 g5_3 g5_4 g5_5 g5_6 g5_7 g5_8 g5_9 g5_10 g5_11 g5_12 g5_13 q5_0 q5_1 q5_2
      go_wp2_with fail
      refine (HK.out _).mono ?_
      rintro e v7 ⟨rfl, hb7⟩
      have hB7_0 : Below W0.heap.size W0 v7 := below_via (Lib.hid hb7) (by first | omega | (simp; done) | (simp; omega)) (by repeat (first | exact Below.refl _ _ | with_reducible exact HB6.out | (refine Below.alloc ?_ (by first | omega | (simp; omega) | simp) _) | (refine Below.setCell ?_ (by first | omega | (simp; omega) | simp) _) | refine Below.drew ?_))
      have z7 := hb7.size
      (try simp at z7)
      have HB7 := Lib.hid hB7_0
      have y7 := hB7_0.size
      clear hb7 hB7_0 g6_0 g6_1 g6_2 g6_3 g6_4 g6_5 g6_6 g6_7 g6_8 g6_9 g6_10 g6_11 g6_12 g6_13 g6_14 g6_15 q6_0 q6_1 q6_2 q6_3
      go_wp2_with fail
      go_ret
      exact ⟨rfl, HBW.out.trans (Below.mono (by repeat (first | exact Below.refl _ _ | with_reducible exact HB7.out | (refine Below.alloc ?_ (by first | omega | (simp; omega) | simp) _) | (refine Below.setCell ?_ (by first | omega | (simp; omega) | simp) _) | refine Below.drew ?_)) HBW.out.size)⟩
theorem PagesOrder_any (f : PFrame) (sa : Option Addr) (sl sc : Nat) (pa : Option Addr) (pl pc : Nat) (ca : Option Addr) (cl cc : Nat) (n : Int) (c : Int) (xa : Option Addr) (xl xc : Nat) (x : List Int) (on ot : Int) (w : World) (hp : PAt w sa sl sc pa pl pc ca cl cc f) (_ : IntsAt w xa xl x) :
    Calls Try.prog 15 #[.agg #[.int .i64 f.len, .int .i64 f.slack, .slice sa sl sc, .slice pa pl pc, .slice ca cl cc], .int .i64 n, .agg #[.int .i64 c, .slice xa xl xc, .int .i64 on, .int .i64 ot]] w fun e w' => e = .returned (.bool true) ∧ Below w.heap.size w w' := by
  by_cases h : f.ready = true ∧ 0 ≤ n ∧ n ≤ 100
  · obtain ⟨m, rfl⟩ : ∃ m : Nat, (m : Int) = n := ⟨n.toNat, by omega⟩
    exact order_walk f sa sl sc pa pl pc ca cl cc m c xa xl xc on ot h.1 (by omega) w hp
  · exact order_early f sa sl sc pa pl pc ca cl cc n c xa xl xc on ot h w hp
end Go.Proofs.Ytodlfmbfjnldiaa
