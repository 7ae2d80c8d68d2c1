/- The law of the tops of pages: it holds. -/
import Derived.Test.YtgpmnelkjfoplaaUA
namespace Go.Proofs.Ytgpmnelkjfoplaa
set_option linter.unusedVariables false
set_option linter.unusedSimpArgs false
open Go.RowKit


set_option maxRecDepth 100000 in
set_option maxHeartbeats 8000000 in
theorem PagesTops_any (f : PFrame) (sa : Option Addr) (sl sc : Nat) (pa : Option Addr) (pl pc : Nat) (ca : Option Addr) (cl cc : Nat) (one other : Int) (w : World) (hp : PAt w sa sl sc pa pl pc ca cl cc f) :
    Calls Try.prog 14 #[.agg #[.int .i64 f.len, .int .i64 f.slack, .slice sa sl sc, .slice pa pl pc, .slice ca cl cc], .int .i64 one, .int .i64 other] w fun e w' => e = .returned (.bool true) ∧ Below w.heap.size w w' := by
  have HR := Lib.hid (fun b (hb : f.ready = b) W (h : Below w.heap.size w W) => ready_is f sa sl sc pa pl pc ca cl cc b hb W (hp.below h))
  have hpm := hp.2.1.2.1
  have hpl := hp.2.1.1
  have HI := Lib.hid (fun n b (h : btw n 0 ((pl : Int) - 1) = b) W => IsPiece_is f sa sl sc pa pl pc ca cl cc n W hpm b h)
  have HK := Lib.hid (fun W => works_any W)
  rcases hr : f.ready with - | -
  · have HR1 := Lib.hid (HR.out _ hr)
    clear HR hr HI hpm hpl hp
    go_enter Try.func14, Try.ntmps14
    go_wp2_with fail
    obtain ⟨W0, hW0, hB0, hs0, hz0⟩ := name1k w #[.int .i64 f.len, .int .i64 f.slack, .slice sa sl sc, .slice pa pl pc, .slice ca cl cc] 26
    rw [hW0]
    clear hW0
    have HBW := Lib.hid hB0
    obtain ⟨g0_0, g0_1, g0_2, g0_3, g0_4⟩ : W0.cell? ⟨w.heap.size, 0, none⟩ = some (.int .i64 f.len) ∧ W0.cell? ⟨w.heap.size, 1, none⟩ = some (.int .i64 f.slack) ∧ W0.cell? ⟨w.heap.size, 2, none⟩ = some (.slice sa sl sc) ∧ W0.cell? ⟨w.heap.size, 3, none⟩ = some (.slice pa pl pc) ∧ W0.cell? ⟨w.heap.size, 4, none⟩ = some (.slice ca cl cc) := ⟨hs0 0, hs0 1, hs0 2, hs0 3, hs0 4⟩
    have q0_0 : w.heap.size < W0.heap.size := hz0
    clear hB0 hs0 hz0
    go_wp2_with fail
    refine (HR1.out _ (HBW.out.trans (Below.mono (by repeat (first | exact Below.refl _ _ | (refine Below.alloc ?_ (by first | omega | (simp; omega) | simp) _) | (refine Below.setCell ?_ (by first | omega | (simp; omega) | simp) _) | refine Below.drew ?_)) HBW.out.size))).mono ?_
    rintro e v1 ⟨rfl, hb1⟩
    have hB1 : Below W0.heap.size W0 v1 := below_via (Lib.hid hb1) (by first | omega | (simp; done) | (simp; omega)) (by repeat (first | exact Below.refl _ _ | (refine Below.alloc ?_ (by first | omega | (simp; omega) | simp) _) | (refine Below.setCell ?_ (by first | omega | (simp; omega) | simp) _) | refine Below.drew ?_))
    have z1 := hb1.size
    (try simp at z1)
    obtain ⟨g1_0, g1_1, g1_2, g1_3, g1_4⟩ : v1.cell? ⟨w.heap.size, 0, none⟩ = some (.int .i64 f.len) ∧ v1.cell? ⟨w.heap.size, 1, none⟩ = some (.int .i64 f.slack) ∧ v1.cell? ⟨w.heap.size, 2, none⟩ = some (.slice sa sl sc) ∧ v1.cell? ⟨w.heap.size, 3, none⟩ = some (.slice pa pl pc) ∧ v1.cell? ⟨w.heap.size, 4, none⟩ = some (.slice ca cl cc) :=
      ⟨(hb1.cell (p := ⟨w.heap.size, 0, none⟩) (by first | omega | (simp; done) | (simp; omega))).trans (by go_simp), (hb1.cell (p := ⟨w.heap.size, 1, none⟩) (by first | omega | (simp; done) | (simp; omega))).trans (by go_simp), (hb1.cell (p := ⟨w.heap.size, 2, none⟩) (by first | omega | (simp; done) | (simp; omega))).trans (by go_simp), (hb1.cell (p := ⟨w.heap.size, 3, none⟩) (by first | omega | (simp; done) | (simp; omega))).trans (by go_simp), (hb1.cell (p := ⟨w.heap.size, 4, none⟩) (by first | omega | (simp; done) | (simp; omega))).trans (by go_simp)⟩
    have q1_0 : w.heap.size < v1.heap.size := by first | omega | (simp at *; omega)
    have HB1 := Lib.hid hB1
    clear hb1 hB1 g0_0 g0_1 g0_2 g0_3 g0_4 q0_0
    go_wp2_with fail
    refine (HK.out _).mono ?_
    rintro e v2 ⟨rfl, hb2⟩
    have hB2 : Below W0.heap.size W0 v2 := below_via (Lib.hid hb2) (by first | omega | (simp; done) | (simp; omega)) (by repeat (first | exact Below.refl _ _ | with_reducible exact HB1.out | (refine Below.alloc ?_ (by first | omega | (simp; omega) | simp) _) | refine Below.drew ?_))
    have z2 := hb2.size
    (try simp at z2)
    have HB2 := Lib.hid hB2
    clear hb2 hB2 g1_0 g1_1 g1_2 g1_3 g1_4 q1_0
    go_wp2_with fail
    go_ret
    exact ⟨rfl, HBW.out.trans (HB2.out.mono HBW.out.size)⟩
  · have HR1 := Lib.hid (HR.out _ hr)
    have ho : f.ok = true := by unfold PFrame.ready at hr; simp only [Bool.and_eq_true] at hr; exact hr.2
    clear HR hr
    rcases h1 : btw one 0 ((pl : Int) - 1) with - | -
    · have HI1 := Lib.hid (HI.out _ _ h1)
      clear HI h1 hpm hpl hp ho
      go_enter Try.func14, Try.ntmps14
      go_wp2_with fail
      obtain ⟨W0, hW0, hB0, hs0, hz0⟩ := name1k w #[.int .i64 f.len, .int .i64 f.slack, .slice sa sl sc, .slice pa pl pc, .slice ca cl cc] 26
      rw [hW0]
      clear hW0
      have HBW := Lib.hid hB0
      obtain ⟨g0_0, g0_1, g0_2, g0_3, g0_4⟩ : W0.cell? ⟨w.heap.size, 0, none⟩ = some (.int .i64 f.len) ∧ W0.cell? ⟨w.heap.size, 1, none⟩ = some (.int .i64 f.slack) ∧ W0.cell? ⟨w.heap.size, 2, none⟩ = some (.slice sa sl sc) ∧ W0.cell? ⟨w.heap.size, 3, none⟩ = some (.slice pa pl pc) ∧ W0.cell? ⟨w.heap.size, 4, none⟩ = some (.slice ca cl cc) := ⟨hs0 0, hs0 1, hs0 2, hs0 3, hs0 4⟩
      have q0_0 : w.heap.size < W0.heap.size := hz0
      clear hB0 hs0 hz0
      go_wp2_with fail
      refine (HR1.out _ (HBW.out.trans (Below.mono (by repeat (first | exact Below.refl _ _ | (refine Below.alloc ?_ (by first | omega | (simp; omega) | simp) _) | (refine Below.setCell ?_ (by first | omega | (simp; omega) | simp) _) | refine Below.drew ?_)) HBW.out.size))).mono ?_
      rintro e v1 ⟨rfl, hb1⟩
      have hB1 : Below W0.heap.size W0 v1 := below_via (Lib.hid hb1) (by first | omega | (simp; done) | (simp; omega)) (by repeat (first | exact Below.refl _ _ | (refine Below.alloc ?_ (by first | omega | (simp; omega) | simp) _) | (refine Below.setCell ?_ (by first | omega | (simp; omega) | simp) _) | refine Below.drew ?_))
      have z1 := hb1.size
      (try simp at z1)
      obtain ⟨g1_0, g1_1, g1_2, g1_3, g1_4⟩ : v1.cell? ⟨w.heap.size, 0, none⟩ = some (.int .i64 f.len) ∧ v1.cell? ⟨w.heap.size, 1, none⟩ = some (.int .i64 f.slack) ∧ v1.cell? ⟨w.heap.size, 2, none⟩ = some (.slice sa sl sc) ∧ v1.cell? ⟨w.heap.size, 3, none⟩ = some (.slice pa pl pc) ∧ v1.cell? ⟨w.heap.size, 4, none⟩ = some (.slice ca cl cc) :=
        ⟨(hb1.cell (p := ⟨w.heap.size, 0, none⟩) (by first | omega | (simp; done) | (simp; omega))).trans (by go_simp), (hb1.cell (p := ⟨w.heap.size, 1, none⟩) (by first | omega | (simp; done) | (simp; omega))).trans (by go_simp), (hb1.cell (p := ⟨w.heap.size, 2, none⟩) (by first | omega | (simp; done) | (simp; omega))).trans (by go_simp), (hb1.cell (p := ⟨w.heap.size, 3, none⟩) (by first | omega | (simp; done) | (simp; omega))).trans (by go_simp), (hb1.cell (p := ⟨w.heap.size, 4, none⟩) (by first | omega | (simp; done) | (simp; omega))).trans (by go_simp)⟩
      have q1_0 : w.heap.size < v1.heap.size := by first | omega | (simp at *; omega)
      have HB1 := Lib.hid hB1
      clear hb1 hB1 g0_0 g0_1 g0_2 g0_3 g0_4 q0_0
      go_wp2_with fail
      refine (HI1.out _).mono ?_
      rintro e v2 ⟨rfl, hb2⟩
      have hB2 : Below W0.heap.size W0 v2 := below_via (Lib.hid hb2) (by first | omega | (simp; done) | (simp; omega)) (by repeat (first | exact Below.refl _ _ | with_reducible exact HB1.out | (refine Below.alloc ?_ (by first | omega | (simp; omega) | simp) _) | refine Below.drew ?_))
      have z2 := hb2.size
      (try simp at z2)
      obtain ⟨g2_0, g2_1, g2_2, g2_3, g2_4⟩ : v2.cell? ⟨w.heap.size, 0, none⟩ = some (.int .i64 f.len) ∧ v2.cell? ⟨w.heap.size, 1, none⟩ = some (.int .i64 f.slack) ∧ v2.cell? ⟨w.heap.size, 2, none⟩ = some (.slice sa sl sc) ∧ v2.cell? ⟨w.heap.size, 3, none⟩ = some (.slice pa pl pc) ∧ v2.cell? ⟨w.heap.size, 4, none⟩ = some (.slice ca cl cc) :=
        ⟨(hb2.cell (p := ⟨w.heap.size, 0, none⟩) (by first | omega | (simp; done) | (simp; omega))).trans (by go_simp), (hb2.cell (p := ⟨w.heap.size, 1, none⟩) (by first | omega | (simp; done) | (simp; omega))).trans (by go_simp), (hb2.cell (p := ⟨w.heap.size, 2, none⟩) (by first | omega | (simp; done) | (simp; omega))).trans (by go_simp), (hb2.cell (p := ⟨w.heap.size, 3, none⟩) (by first | omega | (simp; done) | (simp; omega))).trans (by go_simp), (hb2.cell (p := ⟨w.heap.size, 4, none⟩) (by first | omega | (simp; done) | (simp; omega))).trans (by go_simp)⟩
      have q2_0 : w.heap.size < v2.heap.size := by first | omega | (simp at *; omega)
      have HB2 := Lib.hid hB2
      clear hb2 hB2 g1_0 g1_1 g1_2 g1_3 g1_4 q1_0
      go_wp2_with fail
      refine (HK.out _).mono ?_
      rintro e v3 ⟨rfl, hb3⟩
      have hB3 : Below W0.heap.size W0 v3 := below_via (Lib.hid hb3) (by first | omega | (simp; done) | (simp; omega)) (by repeat (first | exact Below.refl _ _ | with_reducible exact HB2.out | (refine Below.alloc ?_ (by first | omega | (simp; omega) | simp) _) | refine Below.drew ?_))
      have z3 := hb3.size
      (try simp at z3)
      have HB3 := Lib.hid hB3
      clear hb3 hB3 g2_0 g2_1 g2_2 g2_3 g2_4 q2_0
      go_wp2_with fail
      go_ret
      exact ⟨rfl, HBW.out.trans (HB3.out.mono HBW.out.size)⟩
    · have HI1 := Lib.hid (HI.out _ _ h1)
      rcases h2 : btw other 0 ((pl : Int) - 1) with - | -
      · have HI2 := Lib.hid (HI.out _ _ h2)
        clear HI h1 h2 hpm hpl hp ho
        go_enter Try.func14, Try.ntmps14
        go_wp2_with fail
        obtain ⟨W0, hW0, hB0, hs0, hz0⟩ := name1k w #[.int .i64 f.len, .int .i64 f.slack, .slice sa sl sc, .slice pa pl pc, .slice ca cl cc] 26
        rw [hW0]
        clear hW0
        have HBW := Lib.hid hB0
        obtain ⟨g0_0, g0_1, g0_2, g0_3, g0_4⟩ : W0.cell? ⟨w.heap.size, 0, none⟩ = some (.int .i64 f.len) ∧ W0.cell? ⟨w.heap.size, 1, none⟩ = some (.int .i64 f.slack) ∧ W0.cell? ⟨w.heap.size, 2, none⟩ = some (.slice sa sl sc) ∧ W0.cell? ⟨w.heap.size, 3, none⟩ = some (.slice pa pl pc) ∧ W0.cell? ⟨w.heap.size, 4, none⟩ = some (.slice ca cl cc) := ⟨hs0 0, hs0 1, hs0 2, hs0 3, hs0 4⟩
        have q0_0 : w.heap.size < W0.heap.size := hz0
        clear hB0 hs0 hz0
        go_wp2_with fail
        refine (HR1.out _ (HBW.out.trans (Below.mono (by repeat (first | exact Below.refl _ _ | (refine Below.alloc ?_ (by first | omega | (simp; omega) | simp) _) | (refine Below.setCell ?_ (by first | omega | (simp; omega) | simp) _) | refine Below.drew ?_)) HBW.out.size))).mono ?_
        rintro e v1 ⟨rfl, hb1⟩
        have hB1 : Below W0.heap.size W0 v1 := below_via (Lib.hid hb1) (by first | omega | (simp; done) | (simp; omega)) (by repeat (first | exact Below.refl _ _ | (refine Below.alloc ?_ (by first | omega | (simp; omega) | simp) _) | (refine Below.setCell ?_ (by first | omega | (simp; omega) | simp) _) | refine Below.drew ?_))
        have z1 := hb1.size
        (try simp at z1)
        obtain ⟨g1_0, g1_1, g1_2, g1_3, g1_4⟩ : v1.cell? ⟨w.heap.size, 0, none⟩ = some (.int .i64 f.len) ∧ v1.cell? ⟨w.heap.size, 1, none⟩ = some (.int .i64 f.slack) ∧ v1.cell? ⟨w.heap.size, 2, none⟩ = some (.slice sa sl sc) ∧ v1.cell? ⟨w.heap.size, 3, none⟩ = some (.slice pa pl pc) ∧ v1.cell? ⟨w.heap.size, 4, none⟩ = some (.slice ca cl cc) :=
          ⟨(hb1.cell (p := ⟨w.heap.size, 0, none⟩) (by first | omega | (simp; done) | (simp; omega))).trans (by go_simp), (hb1.cell (p := ⟨w.heap.size, 1, none⟩) (by first | omega | (simp; done) | (simp; omega))).trans (by go_simp), (hb1.cell (p := ⟨w.heap.size, 2, none⟩) (by first | omega | (simp; done) | (simp; omega))).trans (by go_simp), (hb1.cell (p := ⟨w.heap.size, 3, none⟩) (by first | omega | (simp; done) | (simp; omega))).trans (by go_simp), (hb1.cell (p := ⟨w.heap.size, 4, none⟩) (by first | omega | (simp; done) | (simp; omega))).trans (by go_simp)⟩
        have q1_0 : w.heap.size < v1.heap.size := by first | omega | (simp at *; omega)
        have HB1 := Lib.hid hB1
        clear hb1 hB1 g0_0 g0_1 g0_2 g0_3 g0_4 q0_0
        go_wp2_with fail
        refine (HI1.out _).mono ?_
        rintro e v2 ⟨rfl, hb2⟩
        have hB2 : Below W0.heap.size W0 v2 := below_via (Lib.hid hb2) (by first | omega | (simp; done) | (simp; omega)) (by repeat (first | exact Below.refl _ _ | with_reducible exact HB1.out | (refine Below.alloc ?_ (by first | omega | (simp; omega) | simp) _) | refine Below.drew ?_))
        have z2 := hb2.size
        (try simp at z2)
        obtain ⟨g2_0, g2_1, g2_2, g2_3, g2_4⟩ : v2.cell? ⟨w.heap.size, 0, none⟩ = some (.int .i64 f.len) ∧ v2.cell? ⟨w.heap.size, 1, none⟩ = some (.int .i64 f.slack) ∧ v2.cell? ⟨w.heap.size, 2, none⟩ = some (.slice sa sl sc) ∧ v2.cell? ⟨w.heap.size, 3, none⟩ = some (.slice pa pl pc) ∧ v2.cell? ⟨w.heap.size, 4, none⟩ = some (.slice ca cl cc) :=
          ⟨(hb2.cell (p := ⟨w.heap.size, 0, none⟩) (by first | omega | (simp; done) | (simp; omega))).trans (by go_simp), (hb2.cell (p := ⟨w.heap.size, 1, none⟩) (by first | omega | (simp; done) | (simp; omega))).trans (by go_simp), (hb2.cell (p := ⟨w.heap.size, 2, none⟩) (by first | omega | (simp; done) | (simp; omega))).trans (by go_simp), (hb2.cell (p := ⟨w.heap.size, 3, none⟩) (by first | omega | (simp; done) | (simp; omega))).trans (by go_simp), (hb2.cell (p := ⟨w.heap.size, 4, none⟩) (by first | omega | (simp; done) | (simp; omega))).trans (by go_simp)⟩
        have q2_0 : w.heap.size < v2.heap.size := by first | omega | (simp at *; omega)
        have HB2 := Lib.hid hB2
        clear hb2 hB2 g1_0 g1_1 g1_2 g1_3 g1_4 q1_0
        go_wp2_with fail
        refine (HI2.out _).mono ?_
        rintro e v3 ⟨rfl, hb3⟩
        have hB3 : Below W0.heap.size W0 v3 := below_via (Lib.hid hb3) (by first | omega | (simp; done) | (simp; omega)) (by repeat (first | exact Below.refl _ _ | with_reducible exact HB2.out | (refine Below.alloc ?_ (by first | omega | (simp; omega) | simp) _) | refine Below.drew ?_))
        have z3 := hb3.size
        (try simp at z3)
        obtain ⟨g3_0, g3_1, g3_2, g3_3, g3_4⟩ : v3.cell? ⟨w.heap.size, 0, none⟩ = some (.int .i64 f.len) ∧ v3.cell? ⟨w.heap.size, 1, none⟩ = some (.int .i64 f.slack) ∧ v3.cell? ⟨w.heap.size, 2, none⟩ = some (.slice sa sl sc) ∧ v3.cell? ⟨w.heap.size, 3, none⟩ = some (.slice pa pl pc) ∧ v3.cell? ⟨w.heap.size, 4, none⟩ = some (.slice ca cl cc) :=
          ⟨(hb3.cell (p := ⟨w.heap.size, 0, none⟩) (by first | omega | (simp; done) | (simp; omega))).trans (by go_simp), (hb3.cell (p := ⟨w.heap.size, 1, none⟩) (by first | omega | (simp; done) | (simp; omega))).trans (by go_simp), (hb3.cell (p := ⟨w.heap.size, 2, none⟩) (by first | omega | (simp; done) | (simp; omega))).trans (by go_simp), (hb3.cell (p := ⟨w.heap.size, 3, none⟩) (by first | omega | (simp; done) | (simp; omega))).trans (by go_simp), (hb3.cell (p := ⟨w.heap.size, 4, none⟩) (by first | omega | (simp; done) | (simp; omega))).trans (by go_simp)⟩
        have q3_0 : w.heap.size < v3.heap.size := by first | omega | (simp at *; omega)
        have HB3 := Lib.hid hB3
        clear hb3 hB3 g2_0 g2_1 g2_2 g2_3 g2_4 q2_0
        go_wp2_with fail
        refine (HK.out _).mono ?_
        rintro e v4 ⟨rfl, hb4⟩
        have hB4 : Below W0.heap.size W0 v4 := below_via (Lib.hid hb4) (by first | omega | (simp; done) | (simp; omega)) (by repeat (first | exact Below.refl _ _ | with_reducible exact HB3.out | (refine Below.alloc ?_ (by first | omega | (simp; omega) | simp) _) | refine Below.drew ?_))
        have z4 := hb4.size
        (try simp at z4)
        have HB4 := Lib.hid hB4
        clear hb4 hB4 g3_0 g3_1 g3_2 g3_3 g3_4 q3_0
        go_wp2_with fail
        go_ret
        exact ⟨rfl, HBW.out.trans (HB4.out.mono HBW.out.size)⟩
      · have HI2 := Lib.hid (HI.out _ _ h2)
        have j1 : 0 ≤ one ∧ one < (f.pieces.length : Int) := by unfold btw at h1; simp at h1; omega
        have j2 : 0 ≤ other ∧ other < (f.pieces.length : Int) := by unfold btw at h2; simp at h2; omega
        obtain ⟨L, H, b1, b2, b3, p1, p2, p3, p4, p5⟩ := tops_are ho j1.1 j1.2 j2.1 j2.2
        have G1 := Lib.hid (fun W (h : Below w.heap.size w W) => show Calls Try.prog 44 #[.agg #[.int .i64 f.len, .int .i64 f.slack, .slice sa sl sc, .slice pa pl pc, .slice ca cl cc], .int .i64 one, .int .i64 other] W fun e w' => e = .returned (.tuple #[.agg #[.int .i64 L, .int .i64 H], .int .i64 0]) ∧ Below W.heap.size W w' from (Gap_yes f sa sl sc pa pl pc ca cl cc one other ho j1.1 j1.2 j2.1 j2.2 W (hp.below h)).mono fun e w' h => ⟨p1 e h.1, h.2⟩)
        have G2 := Lib.hid (fun W (h : Below w.heap.size w W) => show Calls Try.prog 44 #[.agg #[.int .i64 f.len, .int .i64 f.slack, .slice sa sl sc, .slice pa pl pc, .slice ca cl cc], .int .i64 other, .int .i64 one] W fun e w' => e = .returned (.tuple #[.agg #[.int .i64 (-H), .int .i64 (-L)], .int .i64 0]) ∧ Below W.heap.size W w' from (Gap_yes f sa sl sc pa pl pc ca cl cc other one ho j2.1 j2.2 j1.1 j1.2 W (hp.below h)).mono fun e w' h => ⟨p2 e h.1, h.2⟩)
        have G3 := Lib.hid (fun W (h : Below w.heap.size w W) => show Calls Try.prog 44 #[.agg #[.int .i64 f.len, .int .i64 f.slack, .slice sa sl sc, .slice pa pl pc, .slice ca cl cc], .int .i64 one, .int .i64 one] W fun e w' => e = .returned (.tuple #[.agg #[.int .i64 0, .int .i64 0], .int .i64 0]) ∧ Below W.heap.size W w' from (Gap_yes f sa sl sc pa pl pc ca cl cc one one ho j1.1 j1.2 j1.1 j1.2 W (hp.below h)).mono fun e w' h => ⟨p3 e h.1, h.2⟩)
        have M1 := Lib.hid (fun W (h : Below w.heap.size w W) => show Calls Try.prog 46 #[.agg #[.int .i64 f.len, .int .i64 f.slack, .slice sa sl sc, .slice pa pl pc, .slice ca cl cc], .int .i64 one, .int .i64 other] W fun e w' => e = .returned (.tuple #[.int .i64 (meetR L H), .int .i64 0]) ∧ Below W.heap.size W w' from (Meets_yes f sa sl sc pa pl pc ca cl cc one other ho j1.1 j1.2 j2.1 j2.2 W (hp.below h)).mono fun e w' h => ⟨p4 e h.1, h.2⟩)
        have M2 := Lib.hid (fun W (h : Below w.heap.size w W) => show Calls Try.prog 46 #[.agg #[.int .i64 f.len, .int .i64 f.slack, .slice sa sl sc, .slice pa pl pc, .slice ca cl cc], .int .i64 other, .int .i64 one] W fun e w' => e = .returned (.tuple #[.int .i64 (meetR L H), .int .i64 0]) ∧ Below W.heap.size W w' from (Meets_yes f sa sl sc pa pl pc ca cl cc other one ho j2.1 j2.2 j1.1 j1.2 W (hp.below h)).mono fun e w' h => ⟨p5 e h.1, h.2⟩)
        have HWI := Lib.hid (fun W => Within_is L (-1000) H true (by unfold btw; exact decide_eq_true ⟨b1, b2⟩) W)
        have hd : ∃ r : Int, meetR L H = r ∧ ((L = 0 ∧ H = 0 ∧ r = 1) ∨ (L = 0 ∧ ¬ H = 0 ∧ 0 < H ∧ r = 3) ∨ (¬ L = 0 ∧ L < 0 ∧ 0 ≤ H ∧ r = 3) ∨ (¬ L = 0 ∧ 0 < L ∧ r = 2) ∨ (¬ L = 0 ∧ L < 0 ∧ H < 0 ∧ r = 2)) := by
          refine ⟨_, rfl, ?_⟩
          unfold meetR
          by_cases c1 : L = 0 ∧ H = 0
          · rw [if_pos c1]; omega
          · rw [if_neg c1]
            by_cases c2 : L ≤ 0 ∧ 0 ≤ H
            · rw [if_pos c2]; omega
            · rw [if_neg c2]; omega
        clear HI h1 h2 hpm hpl hp ho j1 j2 p1 p2 p3 p4 p5
        obtain ⟨r, hr, hd⟩ := hd
        rw [hr] at M1 M2
        clear hr
        go_enter Try.func14, Try.ntmps14
        go_wp2_with fail
        obtain ⟨W0, hW0, hB0, hs0, hz0⟩ := name1k w #[.int .i64 f.len, .int .i64 f.slack, .slice sa sl sc, .slice pa pl pc, .slice ca cl cc] 26
        rw [hW0]
        clear hW0
        have HBW := Lib.hid hB0
        obtain ⟨g0_0, g0_1, g0_2, g0_3, g0_4⟩ : W0.cell? ⟨w.heap.size, 0, none⟩ = some (.int .i64 f.len) ∧ W0.cell? ⟨w.heap.size, 1, none⟩ = some (.int .i64 f.slack) ∧ W0.cell? ⟨w.heap.size, 2, none⟩ = some (.slice sa sl sc) ∧ W0.cell? ⟨w.heap.size, 3, none⟩ = some (.slice pa pl pc) ∧ W0.cell? ⟨w.heap.size, 4, none⟩ = some (.slice ca cl cc) := ⟨hs0 0, hs0 1, hs0 2, hs0 3, hs0 4⟩
        have q0_0 : w.heap.size < W0.heap.size := hz0
        clear hB0 hs0 hz0
        go_wp2_with fail
        refine (HR1.out _ (HBW.out.trans (Below.mono (by repeat (first | exact Below.refl _ _ | (refine Below.alloc ?_ (by first | omega | (simp; omega) | simp) _) | (refine Below.setCell ?_ (by first | omega | (simp; omega) | simp) _) | refine Below.drew ?_)) HBW.out.size))).mono ?_
        rintro e v1 ⟨rfl, hb1⟩
        have hB1 : Below W0.heap.size W0 v1 := below_via (Lib.hid hb1) (by first | omega | (simp; done) | (simp; omega)) (by repeat (first | exact Below.refl _ _ | (refine Below.alloc ?_ (by first | omega | (simp; omega) | simp) _) | (refine Below.setCell ?_ (by first | omega | (simp; omega) | simp) _) | refine Below.drew ?_))
        have z1 := hb1.size
        (try simp at z1)
        obtain ⟨g1_0, g1_1, g1_2, g1_3, g1_4⟩ : v1.cell? ⟨w.heap.size, 0, none⟩ = some (.int .i64 f.len) ∧ v1.cell? ⟨w.heap.size, 1, none⟩ = some (.int .i64 f.slack) ∧ v1.cell? ⟨w.heap.size, 2, none⟩ = some (.slice sa sl sc) ∧ v1.cell? ⟨w.heap.size, 3, none⟩ = some (.slice pa pl pc) ∧ v1.cell? ⟨w.heap.size, 4, none⟩ = some (.slice ca cl cc) :=
          ⟨(hb1.cell (p := ⟨w.heap.size, 0, none⟩) (by first | omega | (simp; done) | (simp; omega))).trans (by go_simp), (hb1.cell (p := ⟨w.heap.size, 1, none⟩) (by first | omega | (simp; done) | (simp; omega))).trans (by go_simp), (hb1.cell (p := ⟨w.heap.size, 2, none⟩) (by first | omega | (simp; done) | (simp; omega))).trans (by go_simp), (hb1.cell (p := ⟨w.heap.size, 3, none⟩) (by first | omega | (simp; done) | (simp; omega))).trans (by go_simp), (hb1.cell (p := ⟨w.heap.size, 4, none⟩) (by first | omega | (simp; done) | (simp; omega))).trans (by go_simp)⟩
        have q1_0 : w.heap.size < v1.heap.size := by first | omega | (simp at *; omega)
        have HB1 := Lib.hid hB1
        clear hb1 hB1 g0_0 g0_1 g0_2 g0_3 g0_4 q0_0
        go_wp2_with fail
        refine (HI1.out _).mono ?_
        rintro e v2 ⟨rfl, hb2⟩
        have hB2 : Below W0.heap.size W0 v2 := below_via (Lib.hid hb2) (by first | omega | (simp; done) | (simp; omega)) (by repeat (first | exact Below.refl _ _ | with_reducible exact HB1.out | (refine Below.alloc ?_ (by first | omega | (simp; omega) | simp) _) | refine Below.drew ?_))
        have z2 := hb2.size
        (try simp at z2)
        obtain ⟨g2_0, g2_1, g2_2, g2_3, g2_4⟩ : v2.cell? ⟨w.heap.size, 0, none⟩ = some (.int .i64 f.len) ∧ v2.cell? ⟨w.heap.size, 1, none⟩ = some (.int .i64 f.slack) ∧ v2.cell? ⟨w.heap.size, 2, none⟩ = some (.slice sa sl sc) ∧ v2.cell? ⟨w.heap.size, 3, none⟩ = some (.slice pa pl pc) ∧ v2.cell? ⟨w.heap.size, 4, none⟩ = some (.slice ca cl cc) :=
          ⟨(hb2.cell (p := ⟨w.heap.size, 0, none⟩) (by first | omega | (simp; done) | (simp; omega))).trans (by go_simp), (hb2.cell (p := ⟨w.heap.size, 1, none⟩) (by first | omega | (simp; done) | (simp; omega))).trans (by go_simp), (hb2.cell (p := ⟨w.heap.size, 2, none⟩) (by first | omega | (simp; done) | (simp; omega))).trans (by go_simp), (hb2.cell (p := ⟨w.heap.size, 3, none⟩) (by first | omega | (simp; done) | (simp; omega))).trans (by go_simp), (hb2.cell (p := ⟨w.heap.size, 4, none⟩) (by first | omega | (simp; done) | (simp; omega))).trans (by go_simp)⟩
        have q2_0 : w.heap.size < v2.heap.size := by first | omega | (simp at *; omega)
        have HB2 := Lib.hid hB2
        clear hb2 hB2 g1_0 g1_1 g1_2 g1_3 g1_4 q1_0
        go_wp2_with fail
        refine (HI2.out _).mono ?_
        rintro e v3 ⟨rfl, hb3⟩
        have hB3 : Below W0.heap.size W0 v3 := below_via (Lib.hid hb3) (by first | omega | (simp; done) | (simp; omega)) (by repeat (first | exact Below.refl _ _ | with_reducible exact HB2.out | (refine Below.alloc ?_ (by first | omega | (simp; omega) | simp) _) | refine Below.drew ?_))
        have z3 := hb3.size
        (try simp at z3)
        obtain ⟨g3_0, g3_1, g3_2, g3_3, g3_4⟩ : v3.cell? ⟨w.heap.size, 0, none⟩ = some (.int .i64 f.len) ∧ v3.cell? ⟨w.heap.size, 1, none⟩ = some (.int .i64 f.slack) ∧ v3.cell? ⟨w.heap.size, 2, none⟩ = some (.slice sa sl sc) ∧ v3.cell? ⟨w.heap.size, 3, none⟩ = some (.slice pa pl pc) ∧ v3.cell? ⟨w.heap.size, 4, none⟩ = some (.slice ca cl cc) :=
          ⟨(hb3.cell (p := ⟨w.heap.size, 0, none⟩) (by first | omega | (simp; done) | (simp; omega))).trans (by go_simp), (hb3.cell (p := ⟨w.heap.size, 1, none⟩) (by first | omega | (simp; done) | (simp; omega))).trans (by go_simp), (hb3.cell (p := ⟨w.heap.size, 2, none⟩) (by first | omega | (simp; done) | (simp; omega))).trans (by go_simp), (hb3.cell (p := ⟨w.heap.size, 3, none⟩) (by first | omega | (simp; done) | (simp; omega))).trans (by go_simp), (hb3.cell (p := ⟨w.heap.size, 4, none⟩) (by first | omega | (simp; done) | (simp; omega))).trans (by go_simp)⟩
        have q3_0 : w.heap.size < v3.heap.size := by first | omega | (simp at *; omega)
        have HB3 := Lib.hid hB3
        clear hb3 hB3 g2_0 g2_1 g2_2 g2_3 g2_4 q2_0
        go_wp2_with fail
        refine (G1.out _ (HBW.out.trans (Below.mono (by repeat (first | exact Below.refl _ _ | with_reducible exact HB3.out | (refine Below.alloc ?_ (by first | omega | (simp; omega) | simp) _) | refine Below.drew ?_)) HBW.out.size))).mono ?_
        rintro e v4 ⟨rfl, hb4⟩
        have hB4 : Below W0.heap.size W0 v4 := below_via (Lib.hid hb4) (by first | omega | (simp; done) | (simp; omega)) (by repeat (first | exact Below.refl _ _ | with_reducible exact HB3.out | (refine Below.alloc ?_ (by first | omega | (simp; omega) | simp) _) | refine Below.drew ?_))
        have z4 := hb4.size
        (try simp at z4)
        obtain ⟨g4_0, g4_1, g4_2, g4_3, g4_4⟩ : v4.cell? ⟨w.heap.size, 0, none⟩ = some (.int .i64 f.len) ∧ v4.cell? ⟨w.heap.size, 1, none⟩ = some (.int .i64 f.slack) ∧ v4.cell? ⟨w.heap.size, 2, none⟩ = some (.slice sa sl sc) ∧ v4.cell? ⟨w.heap.size, 3, none⟩ = some (.slice pa pl pc) ∧ v4.cell? ⟨w.heap.size, 4, none⟩ = some (.slice ca cl cc) :=
          ⟨(hb4.cell (p := ⟨w.heap.size, 0, none⟩) (by first | omega | (simp; done) | (simp; omega))).trans (by go_simp), (hb4.cell (p := ⟨w.heap.size, 1, none⟩) (by first | omega | (simp; done) | (simp; omega))).trans (by go_simp), (hb4.cell (p := ⟨w.heap.size, 2, none⟩) (by first | omega | (simp; done) | (simp; omega))).trans (by go_simp), (hb4.cell (p := ⟨w.heap.size, 3, none⟩) (by first | omega | (simp; done) | (simp; omega))).trans (by go_simp), (hb4.cell (p := ⟨w.heap.size, 4, none⟩) (by first | omega | (simp; done) | (simp; omega))).trans (by go_simp)⟩
        have q4_0 : w.heap.size < v4.heap.size := by first | omega | (simp at *; omega)
        have HB4 := Lib.hid hB4
        clear hb4 hB4 g3_0 g3_1 g3_2 g3_3 g3_4 q3_0
        go_wp2_with fail
        refine (G2.out _ (HBW.out.trans (Below.mono (by repeat (first | exact Below.refl _ _ | with_reducible exact HB4.out | (refine Below.alloc ?_ (by first | omega | (simp; omega) | simp) _) | refine Below.drew ?_)) HBW.out.size))).mono ?_
        rintro e v5 ⟨rfl, hb5⟩
        have hB5 : Below W0.heap.size W0 v5 := below_via (Lib.hid hb5) (by first | omega | (simp; done) | (simp; omega)) (by repeat (first | exact Below.refl _ _ | with_reducible exact HB4.out | (refine Below.alloc ?_ (by first | omega | (simp; omega) | simp) _) | refine Below.drew ?_))
        have z5 := hb5.size
        (try simp at z5)
        obtain ⟨g5_0, g5_1, g5_2, g5_3, g5_4, g5_5, g5_6⟩ : v5.cell? ⟨w.heap.size, 0, none⟩ = some (.int .i64 f.len) ∧ v5.cell? ⟨w.heap.size, 1, none⟩ = some (.int .i64 f.slack) ∧ v5.cell? ⟨w.heap.size, 2, none⟩ = some (.slice sa sl sc) ∧ v5.cell? ⟨w.heap.size, 3, none⟩ = some (.slice pa pl pc) ∧ v5.cell? ⟨w.heap.size, 4, none⟩ = some (.slice ca cl cc) ∧ v5.cell? ⟨v4.heap.size, 0, none⟩ = some (.int .i64 L) ∧ v5.cell? ⟨v4.heap.size, 1, none⟩ = some (.int .i64 H) :=
          ⟨(hb5.cell (p := ⟨w.heap.size, 0, none⟩) (by first | omega | (simp; done) | (simp; omega))).trans (by go_simp), (hb5.cell (p := ⟨w.heap.size, 1, none⟩) (by first | omega | (simp; done) | (simp; omega))).trans (by go_simp), (hb5.cell (p := ⟨w.heap.size, 2, none⟩) (by first | omega | (simp; done) | (simp; omega))).trans (by go_simp), (hb5.cell (p := ⟨w.heap.size, 3, none⟩) (by first | omega | (simp; done) | (simp; omega))).trans (by go_simp), (hb5.cell (p := ⟨w.heap.size, 4, none⟩) (by first | omega | (simp; done) | (simp; omega))).trans (by go_simp), (hb5.cell (p := ⟨v4.heap.size, 0, none⟩) (by first | omega | (simp; done) | (simp; omega))).trans (by go_simp), (hb5.cell (p := ⟨v4.heap.size, 1, none⟩) (by first | omega | (simp; done) | (simp; omega))).trans (by go_simp)⟩
        have q5_0 : w.heap.size < v5.heap.size := by first | omega | (simp at *; omega)
        have q5_1 : v4.heap.size < v5.heap.size := by first | omega | (simp at *; omega)
        have HB5 := Lib.hid hB5
        clear hb5 hB5 g4_0 g4_1 g4_2 g4_3 g4_4 q4_0
        go_wp2_with fail
        refine (G3.out _ (HBW.out.trans (Below.mono (by repeat (first | exact Below.refl _ _ | with_reducible exact HB5.out | (refine Below.alloc ?_ (by first | omega | (simp; omega) | simp) _) | refine Below.drew ?_)) HBW.out.size))).mono ?_
        rintro e v6 ⟨rfl, hb6⟩
        have hB6 : Below W0.heap.size W0 v6 := below_via (Lib.hid hb6) (by first | omega | (simp; done) | (simp; omega)) (by repeat (first | exact Below.refl _ _ | with_reducible exact HB5.out | (refine Below.alloc ?_ (by first | omega | (simp; omega) | simp) _) | refine Below.drew ?_))
        have z6 := hb6.size
        (try simp at z6)
        obtain ⟨g6_0, g6_1, g6_2, g6_3, g6_4, g6_5, g6_6, g6_7, g6_8⟩ : v6.cell? ⟨w.heap.size, 0, none⟩ = some (.int .i64 f.len) ∧ v6.cell? ⟨w.heap.size, 1, none⟩ = some (.int .i64 f.slack) ∧ v6.cell? ⟨w.heap.size, 2, none⟩ = some (.slice sa sl sc) ∧ v6.cell? ⟨w.heap.size, 3, none⟩ = some (.slice pa pl pc) ∧ v6.cell? ⟨w.heap.size, 4, none⟩ = some (.slice ca cl cc) ∧ v6.cell? ⟨v4.heap.size, 0, none⟩ = some (.int .i64 L) ∧ v6.cell? ⟨v4.heap.size, 1, none⟩ = some (.int .i64 H) ∧ v6.cell? ⟨v5.heap.size, 0, none⟩ = some (.int .i64 (-H)) ∧ v6.cell? ⟨v5.heap.size, 1, none⟩ = some (.int .i64 (-L)) :=
          ⟨(hb6.cell (p := ⟨w.heap.size, 0, none⟩) (by first | omega | (simp; done) | (simp; omega))).trans (by go_simp), (hb6.cell (p := ⟨w.heap.size, 1, none⟩) (by first | omega | (simp; done) | (simp; omega))).trans (by go_simp), (hb6.cell (p := ⟨w.heap.size, 2, none⟩) (by first | omega | (simp; done) | (simp; omega))).trans (by go_simp), (hb6.cell (p := ⟨w.heap.size, 3, none⟩) (by first | omega | (simp; done) | (simp; omega))).trans (by go_simp), (hb6.cell (p := ⟨w.heap.size, 4, none⟩) (by first | omega | (simp; done) | (simp; omega))).trans (by go_simp), (hb6.cell (p := ⟨v4.heap.size, 0, none⟩) (by first | omega | (simp; done) | (simp; omega))).trans (by go_simp), (hb6.cell (p := ⟨v4.heap.size, 1, none⟩) (by first | omega | (simp; done) | (simp; omega))).trans (by go_simp), (hb6.cell (p := ⟨v5.heap.size, 0, none⟩) (by first | omega | (simp; done) | (simp; omega))).trans (by go_simp), (hb6.cell (p := ⟨v5.heap.size, 1, none⟩) (by first | omega | (simp; done) | (simp; omega))).trans (by go_simp)⟩
        have q6_0 : w.heap.size < v6.heap.size := by first | omega | (simp at *; omega)
        have q6_1 : v4.heap.size < v6.heap.size := by first | omega | (simp at *; omega)
        have q6_2 : v5.heap.size < v6.heap.size := by first | omega | (simp at *; omega)
        have HB6 := Lib.hid hB6
        clear hb6 hB6 g5_0 g5_1 g5_2 g5_3 g5_4 g5_5 g5_6 q5_0 q5_1
        go_wp2_with fail
        refine (M1.out _ (HBW.out.trans (Below.mono (by repeat (first | exact Below.refl _ _ | with_reducible exact HB6.out | (refine Below.alloc ?_ (by first | omega | (simp; omega) | simp) _) | refine Below.drew ?_)) HBW.out.size))).mono ?_
        rintro e v7 ⟨rfl, hb7⟩
        have hB7 : Below W0.heap.size W0 v7 := below_via (Lib.hid hb7) (by first | omega | (simp; done) | (simp; omega)) (by repeat (first | exact Below.refl _ _ | with_reducible exact HB6.out | (refine Below.alloc ?_ (by first | omega | (simp; omega) | simp) _) | refine Below.drew ?_))
        have z7 := hb7.size
        (try simp at z7)
        obtain ⟨g7_0, g7_1, g7_2, g7_3, g7_4, g7_5, g7_6, g7_7, g7_8, g7_9, g7_10⟩ : v7.cell? ⟨w.heap.size, 0, none⟩ = some (.int .i64 f.len) ∧ v7.cell? ⟨w.heap.size, 1, none⟩ = some (.int .i64 f.slack) ∧ v7.cell? ⟨w.heap.size, 2, none⟩ = some (.slice sa sl sc) ∧ v7.cell? ⟨w.heap.size, 3, none⟩ = some (.slice pa pl pc) ∧ v7.cell? ⟨w.heap.size, 4, none⟩ = some (.slice ca cl cc) ∧ v7.cell? ⟨v4.heap.size, 0, none⟩ = some (.int .i64 L) ∧ v7.cell? ⟨v4.heap.size, 1, none⟩ = some (.int .i64 H) ∧ v7.cell? ⟨v5.heap.size, 0, none⟩ = some (.int .i64 (-H)) ∧ v7.cell? ⟨v5.heap.size, 1, none⟩ = some (.int .i64 (-L)) ∧ v7.cell? ⟨v6.heap.size, 0, none⟩ = some (.int .i64 0) ∧ v7.cell? ⟨v6.heap.size, 1, none⟩ = some (.int .i64 0) :=
          ⟨(hb7.cell (p := ⟨w.heap.size, 0, none⟩) (by first | omega | (simp; done) | (simp; omega))).trans (by go_simp), (hb7.cell (p := ⟨w.heap.size, 1, none⟩) (by first | omega | (simp; done) | (simp; omega))).trans (by go_simp), (hb7.cell (p := ⟨w.heap.size, 2, none⟩) (by first | omega | (simp; done) | (simp; omega))).trans (by go_simp), (hb7.cell (p := ⟨w.heap.size, 3, none⟩) (by first | omega | (simp; done) | (simp; omega))).trans (by go_simp), (hb7.cell (p := ⟨w.heap.size, 4, none⟩) (by first | omega | (simp; done) | (simp; omega))).trans (by go_simp), (hb7.cell (p := ⟨v4.heap.size, 0, none⟩) (by first | omega | (simp; done) | (simp; omega))).trans (by go_simp), (hb7.cell (p := ⟨v4.heap.size, 1, none⟩) (by first | omega | (simp; done) | (simp; omega))).trans (by go_simp), (hb7.cell (p := ⟨v5.heap.size, 0, none⟩) (by first | omega | (simp; done) | (simp; omega))).trans (by go_simp), (hb7.cell (p := ⟨v5.heap.size, 1, none⟩) (by first | omega | (simp; done) | (simp; omega))).trans (by go_simp), (hb7.cell (p := ⟨v6.heap.size, 0, none⟩) (by first | omega | (simp; done) | (simp; omega))).trans (by go_simp), (hb7.cell (p := ⟨v6.heap.size, 1, none⟩) (by first | omega | (simp; done) | (simp; omega))).trans (by go_simp)⟩
        have q7_0 : w.heap.size < v7.heap.size := by first | omega | (simp at *; omega)
        have q7_1 : v4.heap.size < v7.heap.size := by first | omega | (simp at *; omega)
        have q7_2 : v5.heap.size < v7.heap.size := by first | omega | (simp at *; omega)
        have q7_3 : v6.heap.size < v7.heap.size := by first | omega | (simp at *; omega)
        have HB7 := Lib.hid hB7
        clear hb7 hB7 g6_0 g6_1 g6_2 g6_3 g6_4 g6_5 g6_6 g6_7 g6_8 q6_0 q6_1 q6_2
        go_wp2_with fail
        refine (M2.out _ (HBW.out.trans (Below.mono (by repeat (first | exact Below.refl _ _ | with_reducible exact HB7.out | (refine Below.alloc ?_ (by first | omega | (simp; omega) | simp) _) | refine Below.drew ?_)) HBW.out.size))).mono ?_
        rintro e v8 ⟨rfl, hb8⟩
        have hB8 : Below W0.heap.size W0 v8 := below_via (Lib.hid hb8) (by first | omega | (simp; done) | (simp; omega)) (by repeat (first | exact Below.refl _ _ | with_reducible exact HB7.out | (refine Below.alloc ?_ (by first | omega | (simp; omega) | simp) _) | refine Below.drew ?_))
        have z8 := hb8.size
        (try simp at z8)
        obtain ⟨g8_0, g8_1, g8_2, g8_3, g8_4, g8_5, g8_6, g8_7, g8_8, g8_9, g8_10⟩ : v8.cell? ⟨w.heap.size, 0, none⟩ = some (.int .i64 f.len) ∧ v8.cell? ⟨w.heap.size, 1, none⟩ = some (.int .i64 f.slack) ∧ v8.cell? ⟨w.heap.size, 2, none⟩ = some (.slice sa sl sc) ∧ v8.cell? ⟨w.heap.size, 3, none⟩ = some (.slice pa pl pc) ∧ v8.cell? ⟨w.heap.size, 4, none⟩ = some (.slice ca cl cc) ∧ v8.cell? ⟨v4.heap.size, 0, none⟩ = some (.int .i64 L) ∧ v8.cell? ⟨v4.heap.size, 1, none⟩ = some (.int .i64 H) ∧ v8.cell? ⟨v5.heap.size, 0, none⟩ = some (.int .i64 (-H)) ∧ v8.cell? ⟨v5.heap.size, 1, none⟩ = some (.int .i64 (-L)) ∧ v8.cell? ⟨v6.heap.size, 0, none⟩ = some (.int .i64 0) ∧ v8.cell? ⟨v6.heap.size, 1, none⟩ = some (.int .i64 0) :=
          ⟨(hb8.cell (p := ⟨w.heap.size, 0, none⟩) (by first | omega | (simp; done) | (simp; omega))).trans (by go_simp), (hb8.cell (p := ⟨w.heap.size, 1, none⟩) (by first | omega | (simp; done) | (simp; omega))).trans (by go_simp), (hb8.cell (p := ⟨w.heap.size, 2, none⟩) (by first | omega | (simp; done) | (simp; omega))).trans (by go_simp), (hb8.cell (p := ⟨w.heap.size, 3, none⟩) (by first | omega | (simp; done) | (simp; omega))).trans (by go_simp), (hb8.cell (p := ⟨w.heap.size, 4, none⟩) (by first | omega | (simp; done) | (simp; omega))).trans (by go_simp), (hb8.cell (p := ⟨v4.heap.size, 0, none⟩) (by first | omega | (simp; done) | (simp; omega))).trans (by go_simp), (hb8.cell (p := ⟨v4.heap.size, 1, none⟩) (by first | omega | (simp; done) | (simp; omega))).trans (by go_simp), (hb8.cell (p := ⟨v5.heap.size, 0, none⟩) (by first | omega | (simp; done) | (simp; omega))).trans (by go_simp), (hb8.cell (p := ⟨v5.heap.size, 1, none⟩) (by first | omega | (simp; done) | (simp; omega))).trans (by go_simp), (hb8.cell (p := ⟨v6.heap.size, 0, none⟩) (by first | omega | (simp; done) | (simp; omega))).trans (by go_simp), (hb8.cell (p := ⟨v6.heap.size, 1, none⟩) (by first | omega | (simp; done) | (simp; omega))).trans (by go_simp)⟩
        have q8_0 : w.heap.size < v8.heap.size := by first | omega | (simp at *; omega)
        have q8_1 : v4.heap.size < v8.heap.size := by first | omega | (simp at *; omega)
        have q8_2 : v5.heap.size < v8.heap.size := by first | omega | (simp at *; omega)
        have q8_3 : v6.heap.size < v8.heap.size := by first | omega | (simp at *; omega)
        have HB8 := Lib.hid hB8
        clear hb8 hB8 g7_0 g7_1 g7_2 g7_3 g7_4 g7_5 g7_6 g7_7 g7_8 g7_9 g7_10 q7_0 q7_1 q7_2 q7_3
        have hH : ¬ (1000 : Int) < H := by omega
        go_wp2_with fail
        refine (HWI.out _).mono ?_
        rintro e v9 ⟨rfl, rfl⟩
        clear HWI G1 G2 G3 M1 M2 HI1 HI2 HR1
        rcases hd with ⟨rfl, rfl, rfl⟩ | ⟨rfl, c1, c2, rfl⟩ | ⟨c1, c2, c3, rfl⟩ | ⟨c1, c2, rfl⟩ | ⟨c1, c2, c3, rfl⟩
        all_goals (try have e1 : (L == 0) = false := by simp; omega)
        all_goals (try have e2 : (H == 0) = false := by simp; omega)
        all_goals (try have e3 : ¬ H < 0 := by omega)
        all_goals (try have e4 : ¬ 0 < L := by omega)
        all_goals (
          go_wp2_with fail
          refine (HK.out _).mono ?_
          rintro e v10 ⟨rfl, hb10⟩
          have HB10 := Lib.hid (HB8.out.trans (hb10.mono HB8.out.size))
          clear hb10
          go_wp2_with fail
          go_ret
          first | exact ⟨rfl, HBW.out.trans (HB10.out.mono HBW.out.size)⟩ | exact ⟨ret_bool (by simp; omega), HBW.out.trans (HB10.out.mono HBW.out.size)⟩)
end Go.Proofs.Ytgpmnelkjfoplaa
