/- The law of how high a piece can be: it holds. -/
import Derived.Test.YtodlfmbfjnldiaaWE
import Derived.Test.YtodlfmbfjnldiaaWG
import Derived.Test.YtodlfmbfjnldiaaZY
import Derived.Test.YtodlfmbfjnldiaaUC
import Derived.Test.YtodlfmbfjnldiaaUL
namespace Go.Proofs.Ytodlfmbfjnldiaa
set_option linter.unusedVariables false
set_option linter.unusedSimpArgs false
open Go.RowKit Go.Shelf

set_option maxRecDepth 100000 in
set_option maxHeartbeats 8000000 in
theorem grown_main (f : PFrame) (sa : Option Addr) (sl sc : Nat) (pa : Option Addr) (pl pc : Nat) (ca : Option Addr) (cl cc : Nat) (k : Nat) (hk : k < f.pieces.length) (hr : f.ready = true) (w : World) (hp : PAt w sa sl sc pa pl pc ca cl cc f) :
    Calls Try.prog 16 #[.agg #[.int .i64 f.len, .int .i64 f.slack, .slice sa sl sc, .slice pa pl pc, .slice ca cl cc], .int .i64 (k : Int)] w fun e w' => e = .returned (.bool true) ∧ Below w.heap.size w w' := by
  have ho : f.ok = true := by unfold PFrame.ready at hr; simp only [Bool.and_eq_true] at hr; exact hr.2
  obtain ⟨s1, s2, s3, s4⟩ := ok_sizes sa sl sc pa pl pc ca cl cc ho hp
  obtain ⟨hpl, hpm, hpc⟩ := hp.2.1
  obtain ⟨pb, po, rfl, hpb, hpcell⟩ := hpc (by omega)
  obtain ⟨hc0, hc1, -⟩ := hpcell k hk
  have HR1 := Lib.hid (fun W (h : Below w.heap.size w W) => ready_is f sa sl sc (some ⟨pb, po, none⟩) pl pc ca cl cc true hr W (hp.below h))
  have HK := Lib.hid (fun W => works_any W)
  have HI1 := Lib.hid (fun W => IsPiece_is f sa sl sc (some ⟨pb, po, none⟩) pl pc ca cl cc k W hpm true (by unfold btw; simp; omega))
  have HG := Lib.hid (fun W (h : Below w.heap.size w W) => Grow_yes f sa sl sc (some ⟨pb, po, none⟩) pl pc ca cl cc ho k hk W (hp.below h))
  have HS := Lib.hid (fun W (h : Below w.heap.size w W) => lawStrips_any f sa sl sc (some ⟨pb, po, none⟩) pl pc ca cl cc ho W (hp.below h))
  have HGN := Lib.hid (fun m W (h : Below w.heap.size w W) => Grown_any f sa sl sc (some ⟨pb, po, none⟩) pl pc ca cl cc k hk m W (hp.below h) s1 s2 s3 s4)
  have e1 := PFrame.lo_bd ho (k : Int)
  have e2 := PFrame.hi_bd ho (k : Int)
  have hlo : f.lo k = f.pieces[k].lo := by unfold PFrame.lo; simp [hk]
  have hhi : f.hi k = f.pieces[k].hi := by unfold PFrame.hi; simp [hk]
  rw [← hlo] at hc0
  rw [← hhi] at hc1
  have hok : ∀ h, f.lo k ≤ h → h ≤ 99 → (f.high k h).ok = true := fun h h1 h2 => tall_ok ho k (f.lo k) h e1.1 h1 h2
  have hga := grown_are ho hk
  have hst := stripsN_bd ho
  have hkl : (k : Int) < (pl : Int) := by omega
  have hk0 : (0 : Int) ≤ (k : Int) := by omega
  clear hp hpl hpm hpc hpcell hlo hhi
  generalize hlo : f.lo k = lo at *
  generalize hhi : f.hi k = hi at *
  obtain ⟨S, hS⟩ : ∃ S, f.stripsN = S := ⟨_, rfl⟩
  rw [hS] at HS hga hst
  rcases hga with ⟨g1, rfl, g3⟩ | ⟨h, g1, g2, g3, g4, g5, g6⟩
  · rw [g1] at HG
    have HN := Lib.hid (fun W => isKnown_is 3 true (by decide) W)
    have hw1 : IntKind.i64.wrap (lo - 1) = lo - 1 := IntWalk.i64_in _ ⟨by omega, by omega⟩
    have hw2 : IntKind.i64.wrap (lo - 1 + 1) = lo := by rw [IntWalk.i64_in _ ⟨by omega, by omega⟩]; omega
    have d1 : ¬ lo ≤ lo - 1 := by omega
    have d2 : (lo - 1 == 99) = false := by simp; omega
    have d3 : ¬ lo - 1 = 99 := by omega
    clear g1
    go_enter Try.func16, Try.ntmps16
    go_wp2_with fail
    obtain ⟨W0, hW0, hB0, ⟨g0_0, g0_1, g0_2, g0_3, g0_4⟩, hz0⟩ : ∃ W0, (w.alloc (.cells #[.int .i64 f.len, .int .i64 f.slack, .slice sa sl sc, .slice (some ⟨pb, po, none⟩) pl pc, .slice ca cl cc] 26)) = W0 ∧ Below w.heap.size w W0 ∧ (W0.cell? ⟨w.heap.size, 0, none⟩ = some (.int .i64 f.len) ∧ W0.cell? ⟨w.heap.size, 1, none⟩ = some (.int .i64 f.slack) ∧ W0.cell? ⟨w.heap.size, 2, none⟩ = some (.slice sa sl sc) ∧ W0.cell? ⟨w.heap.size, 3, none⟩ = some (.slice (some ⟨pb, po, none⟩) pl pc) ∧ W0.cell? ⟨w.heap.size, 4, none⟩ = some (.slice ca cl cc)) ∧ W0.heap.size = w.heap.size + 1 :=
      ⟨_, rfl, (by repeat (first | exact Below.refl _ _ | (refine Below.alloc ?_ (by first | omega | (simp; omega) | simp) _) | (refine Below.setCell ?_ (by first | omega | (simp; omega) | simp) _) | refine Below.drew ?_)), ⟨by go_simp, by go_simp, by go_simp, by go_simp, by go_simp⟩, by simp⟩
    rw [hW0]
    clear hW0
    have HBW := Lib.hid hB0
    have q0_0 : w.heap.size < W0.heap.size := by omega
    clear hB0 hz0
    have g0_5 : W0.cell? ⟨pb, po + k * 3, none⟩ = some (.int .i64 lo) := (HBW.out.cell (p := ⟨pb, po + k * 3, none⟩) hpb).trans hc0
    have g0_6 : W0.cell? ⟨pb, po + k * 3 + 1, none⟩ = some (.int .i64 hi) := (HBW.out.cell (p := ⟨pb, po + k * 3 + 1, none⟩) hpb).trans hc1
    have q0_1 : pb < W0.heap.size := Nat.lt_of_lt_of_le hpb HBW.out.size
    go_wp2_with fail
    refine (HR1.out _ (HBW.out.trans (Below.mono (by repeat (first | exact Below.refl _ _ | (refine Below.alloc ?_ (by first | omega | (simp; omega) | simp) _) | (refine Below.setCell ?_ (by first | omega | (simp; omega) | simp) _) | refine Below.drew ?_)) HBW.out.size))).mono ?_
    rintro e v1 ⟨rfl, hb1⟩
    have hB1_0 : Below W0.heap.size W0 v1 := below_via (Lib.hid hb1) (by first | omega | (simp; done) | (simp; omega)) (by repeat (first | exact Below.refl _ _ | (refine Below.alloc ?_ (by first | omega | (simp; omega) | simp) _) | (refine Below.setCell ?_ (by first | omega | (simp; omega) | simp) _) | refine Below.drew ?_))
    have z1 := hb1.size
    (try simp at z1)
    obtain ⟨g1_0, g1_1, g1_2, g1_3, g1_4, g1_5, g1_6⟩ : v1.cell? ⟨w.heap.size, 0, none⟩ = some (.int .i64 f.len) ∧ v1.cell? ⟨w.heap.size, 1, none⟩ = some (.int .i64 f.slack) ∧ v1.cell? ⟨w.heap.size, 2, none⟩ = some (.slice sa sl sc) ∧ v1.cell? ⟨w.heap.size, 3, none⟩ = some (.slice (some ⟨pb, po, none⟩) pl pc) ∧ v1.cell? ⟨w.heap.size, 4, none⟩ = some (.slice ca cl cc) ∧ v1.cell? ⟨pb, po + k * 3, none⟩ = some (.int .i64 lo) ∧ v1.cell? ⟨pb, po + k * 3 + 1, none⟩ = some (.int .i64 hi) :=
      ⟨(hb1.cell (p := ⟨w.heap.size, 0, none⟩) (by first | omega | (simp; done) | (simp; omega))).trans (by first | (go_simp; done) | (go_simp; exact set_same (u := .int .i64 0) (by go_simp; done))), (hb1.cell (p := ⟨w.heap.size, 1, none⟩) (by first | omega | (simp; done) | (simp; omega))).trans (by first | (go_simp; done) | (go_simp; exact set_same (u := .int .i64 0) (by go_simp; done))), (hb1.cell (p := ⟨w.heap.size, 2, none⟩) (by first | omega | (simp; done) | (simp; omega))).trans (by first | (go_simp; done) | (go_simp; exact set_same (u := .int .i64 0) (by go_simp; done))), (hb1.cell (p := ⟨w.heap.size, 3, none⟩) (by first | omega | (simp; done) | (simp; omega))).trans (by first | (go_simp; done) | (go_simp; exact set_same (u := .int .i64 0) (by go_simp; done))), (hb1.cell (p := ⟨w.heap.size, 4, none⟩) (by first | omega | (simp; done) | (simp; omega))).trans (by first | (go_simp; done) | (go_simp; exact set_same (u := .int .i64 0) (by go_simp; done))), (hb1.cell (p := ⟨pb, po + k * 3, none⟩) (by first | omega | (simp; done) | (simp; omega))).trans (by first | (go_simp; done) | (go_simp; exact set_same (u := .int .i64 0) (by go_simp; done))), (hb1.cell (p := ⟨pb, po + k * 3 + 1, none⟩) (by first | omega | (simp; done) | (simp; omega))).trans (by first | (go_simp; done) | (go_simp; exact set_same (u := .int .i64 0) (by go_simp; done)))⟩
    have q1_0 : w.heap.size < v1.heap.size := by first | omega | (simp at *; omega)
    have q1_1 : pb < v1.heap.size := by first | omega | (simp at *; omega)
    have HB1 := Lib.hid hB1_0
    have y1 := hB1_0.size
    clear hb1 hB1_0 g0_0 g0_1 g0_2 g0_3 g0_4 g0_5 g0_6 q0_0 q0_1
    go_wp2_with fail
    refine (HI1.out _).mono ?_
    rintro e v2 ⟨rfl, hb2⟩
    have hB2_0 : Below W0.heap.size W0 v2 := below_via (Lib.hid hb2) (by first | omega | (simp; done) | (simp; omega)) (by repeat (first | exact Below.refl _ _ | with_reducible exact HB1.out | (refine Below.alloc ?_ (by first | omega | (simp; omega) | simp) _) | (refine Below.setCell ?_ (by first | omega | (simp; omega) | simp) _) | refine Below.drew ?_))
    have z2 := hb2.size
    (try simp at z2)
    obtain ⟨g2_0, g2_1, g2_2, g2_3, g2_4, g2_5, g2_6⟩ : v2.cell? ⟨w.heap.size, 0, none⟩ = some (.int .i64 f.len) ∧ v2.cell? ⟨w.heap.size, 1, none⟩ = some (.int .i64 f.slack) ∧ v2.cell? ⟨w.heap.size, 2, none⟩ = some (.slice sa sl sc) ∧ v2.cell? ⟨w.heap.size, 3, none⟩ = some (.slice (some ⟨pb, po, none⟩) pl pc) ∧ v2.cell? ⟨w.heap.size, 4, none⟩ = some (.slice ca cl cc) ∧ v2.cell? ⟨pb, po + k * 3, none⟩ = some (.int .i64 lo) ∧ v2.cell? ⟨pb, po + k * 3 + 1, none⟩ = some (.int .i64 hi) :=
      ⟨(hb2.cell (p := ⟨w.heap.size, 0, none⟩) (by first | omega | (simp; done) | (simp; omega))).trans (by first | (go_simp; done) | (go_simp; exact set_same (u := .int .i64 0) (by go_simp; done))), (hb2.cell (p := ⟨w.heap.size, 1, none⟩) (by first | omega | (simp; done) | (simp; omega))).trans (by first | (go_simp; done) | (go_simp; exact set_same (u := .int .i64 0) (by go_simp; done))), (hb2.cell (p := ⟨w.heap.size, 2, none⟩) (by first | omega | (simp; done) | (simp; omega))).trans (by first | (go_simp; done) | (go_simp; exact set_same (u := .int .i64 0) (by go_simp; done))), (hb2.cell (p := ⟨w.heap.size, 3, none⟩) (by first | omega | (simp; done) | (simp; omega))).trans (by first | (go_simp; done) | (go_simp; exact set_same (u := .int .i64 0) (by go_simp; done))), (hb2.cell (p := ⟨w.heap.size, 4, none⟩) (by first | omega | (simp; done) | (simp; omega))).trans (by first | (go_simp; done) | (go_simp; exact set_same (u := .int .i64 0) (by go_simp; done))), (hb2.cell (p := ⟨pb, po + k * 3, none⟩) (by first | omega | (simp; done) | (simp; omega))).trans (by first | (go_simp; done) | (go_simp; exact set_same (u := .int .i64 0) (by go_simp; done))), (hb2.cell (p := ⟨pb, po + k * 3 + 1, none⟩) (by first | omega | (simp; done) | (simp; omega))).trans (by first | (go_simp; done) | (go_simp; exact set_same (u := .int .i64 0) (by go_simp; done)))⟩
    have q2_0 : w.heap.size < v2.heap.size := by first | omega | (simp at *; omega)
    have q2_1 : pb < v2.heap.size := by first | omega | (simp at *; omega)
    have HB2 := Lib.hid hB2_0
    have y2 := hB2_0.size
    clear hb2 hB2_0 g1_0 g1_1 g1_2 g1_3 g1_4 g1_5 g1_6 q1_0 q1_1
    go_wp2_with fail
    refine (HG.out _ (HBW.out.trans (Below.mono (by repeat (first | exact Below.refl _ _ | with_reducible exact HB2.out | (refine Below.alloc ?_ (by first | omega | (simp; omega) | simp) _) | (refine Below.setCell ?_ (by first | omega | (simp; omega) | simp) _) | refine Below.drew ?_)) HBW.out.size))).mono ?_
    rintro e v3 ⟨rfl, hb3⟩
    have hB3_0 : Below W0.heap.size W0 v3 := below_via (Lib.hid hb3) (by first | omega | (simp; done) | (simp; omega)) (by repeat (first | exact Below.refl _ _ | with_reducible exact HB2.out | (refine Below.alloc ?_ (by first | omega | (simp; omega) | simp) _) | (refine Below.setCell ?_ (by first | omega | (simp; omega) | simp) _) | refine Below.drew ?_))
    have z3 := hb3.size
    (try simp at z3)
    obtain ⟨g3_0, g3_1, g3_2, g3_3, g3_4, g3_5, g3_6⟩ : v3.cell? ⟨w.heap.size, 0, none⟩ = some (.int .i64 f.len) ∧ v3.cell? ⟨w.heap.size, 1, none⟩ = some (.int .i64 f.slack) ∧ v3.cell? ⟨w.heap.size, 2, none⟩ = some (.slice sa sl sc) ∧ v3.cell? ⟨w.heap.size, 3, none⟩ = some (.slice (some ⟨pb, po, none⟩) pl pc) ∧ v3.cell? ⟨w.heap.size, 4, none⟩ = some (.slice ca cl cc) ∧ v3.cell? ⟨pb, po + k * 3, none⟩ = some (.int .i64 lo) ∧ v3.cell? ⟨pb, po + k * 3 + 1, none⟩ = some (.int .i64 hi) :=
      ⟨(hb3.cell (p := ⟨w.heap.size, 0, none⟩) (by first | omega | (simp; done) | (simp; omega))).trans (by first | (go_simp; done) | (go_simp; exact set_same (u := .int .i64 0) (by go_simp; done))), (hb3.cell (p := ⟨w.heap.size, 1, none⟩) (by first | omega | (simp; done) | (simp; omega))).trans (by first | (go_simp; done) | (go_simp; exact set_same (u := .int .i64 0) (by go_simp; done))), (hb3.cell (p := ⟨w.heap.size, 2, none⟩) (by first | omega | (simp; done) | (simp; omega))).trans (by first | (go_simp; done) | (go_simp; exact set_same (u := .int .i64 0) (by go_simp; done))), (hb3.cell (p := ⟨w.heap.size, 3, none⟩) (by first | omega | (simp; done) | (simp; omega))).trans (by first | (go_simp; done) | (go_simp; exact set_same (u := .int .i64 0) (by go_simp; done))), (hb3.cell (p := ⟨w.heap.size, 4, none⟩) (by first | omega | (simp; done) | (simp; omega))).trans (by first | (go_simp; done) | (go_simp; exact set_same (u := .int .i64 0) (by go_simp; done))), (hb3.cell (p := ⟨pb, po + k * 3, none⟩) (by first | omega | (simp; done) | (simp; omega))).trans (by first | (go_simp; done) | (go_simp; exact set_same (u := .int .i64 0) (by go_simp; done))), (hb3.cell (p := ⟨pb, po + k * 3 + 1, none⟩) (by first | omega | (simp; done) | (simp; omega))).trans (by first | (go_simp; done) | (go_simp; exact set_same (u := .int .i64 0) (by go_simp; done)))⟩
    have q3_0 : w.heap.size < v3.heap.size := by first | omega | (simp at *; omega)
    have q3_1 : pb < v3.heap.size := by first | omega | (simp at *; omega)
    have HB3 := Lib.hid hB3_0
    have y3 := hB3_0.size
    clear hb3 hB3_0 g2_0 g2_1 g2_2 g2_3 g2_4 g2_5 g2_6 q2_0 q2_1
    go_wp2_with fail
    refine (HS.out _ (HBW.out.trans (Below.mono (by repeat (first | exact Below.refl _ _ | with_reducible exact HB3.out | (refine Below.alloc ?_ (by first | omega | (simp; omega) | simp) _) | (refine Below.setCell ?_ (by first | omega | (simp; omega) | simp) _) | refine Below.drew ?_)) HBW.out.size))).mono ?_
    rintro e v4 ⟨rfl, hb4⟩
    have hB4_0 : Below W0.heap.size W0 v4 := below_via (Lib.hid hb4) (by first | omega | (simp; done) | (simp; omega)) (by repeat (first | exact Below.refl _ _ | with_reducible exact HB3.out | (refine Below.alloc ?_ (by first | omega | (simp; omega) | simp) _) | (refine Below.setCell ?_ (by first | omega | (simp; omega) | simp) _) | refine Below.drew ?_))
    have z4 := hb4.size
    (try simp at z4)
    obtain ⟨g4_0, g4_1, g4_2, g4_3, g4_4, g4_5, g4_6, g4_7, g4_8⟩ : v4.cell? ⟨w.heap.size, 0, none⟩ = some (.int .i64 f.len) ∧ v4.cell? ⟨w.heap.size, 1, none⟩ = some (.int .i64 f.slack) ∧ v4.cell? ⟨w.heap.size, 2, none⟩ = some (.slice sa sl sc) ∧ v4.cell? ⟨w.heap.size, 3, none⟩ = some (.slice (some ⟨pb, po, none⟩) pl pc) ∧ v4.cell? ⟨w.heap.size, 4, none⟩ = some (.slice ca cl cc) ∧ v4.cell? ⟨pb, po + k * 3, none⟩ = some (.int .i64 lo) ∧ v4.cell? ⟨pb, po + k * 3 + 1, none⟩ = some (.int .i64 hi) ∧ v4.cell? ⟨v3.heap.size, 0, none⟩ = some (.int .i64 lo) ∧ v4.cell? ⟨v3.heap.size, 1, none⟩ = some (.int .i64 hi) :=
      ⟨(hb4.cell (p := ⟨w.heap.size, 0, none⟩) (by first | omega | (simp; done) | (simp; omega))).trans (by first | (go_simp; done) | (go_simp; exact set_same (u := .int .i64 0) (by go_simp; done))), (hb4.cell (p := ⟨w.heap.size, 1, none⟩) (by first | omega | (simp; done) | (simp; omega))).trans (by first | (go_simp; done) | (go_simp; exact set_same (u := .int .i64 0) (by go_simp; done))), (hb4.cell (p := ⟨w.heap.size, 2, none⟩) (by first | omega | (simp; done) | (simp; omega))).trans (by first | (go_simp; done) | (go_simp; exact set_same (u := .int .i64 0) (by go_simp; done))), (hb4.cell (p := ⟨w.heap.size, 3, none⟩) (by first | omega | (simp; done) | (simp; omega))).trans (by first | (go_simp; done) | (go_simp; exact set_same (u := .int .i64 0) (by go_simp; done))), (hb4.cell (p := ⟨w.heap.size, 4, none⟩) (by first | omega | (simp; done) | (simp; omega))).trans (by first | (go_simp; done) | (go_simp; exact set_same (u := .int .i64 0) (by go_simp; done))), (hb4.cell (p := ⟨pb, po + k * 3, none⟩) (by first | omega | (simp; done) | (simp; omega))).trans (by first | (go_simp; done) | (go_simp; exact set_same (u := .int .i64 0) (by go_simp; done))), (hb4.cell (p := ⟨pb, po + k * 3 + 1, none⟩) (by first | omega | (simp; done) | (simp; omega))).trans (by first | (go_simp; done) | (go_simp; exact set_same (u := .int .i64 0) (by go_simp; done))), (hb4.cell (p := ⟨v3.heap.size, 0, none⟩) (by first | omega | (simp; done) | (simp; omega))).trans (by first | (go_simp; done) | (go_simp; exact set_same (u := .int .i64 0) (by go_simp; done))), (hb4.cell (p := ⟨v3.heap.size, 1, none⟩) (by first | omega | (simp; done) | (simp; omega))).trans (by first | (go_simp; done) | (go_simp; exact set_same (u := .int .i64 0) (by go_simp; done)))⟩
    have q4_0 : w.heap.size < v4.heap.size := by first | omega | (simp at *; omega)
    have q4_1 : pb < v4.heap.size := by first | omega | (simp at *; omega)
    have q4_2 : v3.heap.size < v4.heap.size := by first | omega | (simp at *; omega)
    have HB4 := Lib.hid hB4_0
    have y4 := hB4_0.size
    clear hb4 hB4_0 g3_0 g3_1 g3_2 g3_3 g3_4 g3_5 g3_6 q3_0 q3_1
    go_wp2_with fail
    refine (HN.out _).mono ?_
    rintro e v' ⟨rfl, rfl⟩
    go_wp2_with fail
    refine (HGN.out lo _ (HBW.out.trans (Below.mono (by repeat (first | exact Below.refl _ _ | with_reducible exact HB4.out | (refine Below.alloc ?_ (by first | omega | (simp; omega) | simp) _) | (refine Below.setCell ?_ (by first | omega | (simp; omega) | simp) _) | refine Below.drew ?_)) HBW.out.size))).mono ?_
    rintro e v5 ⟨⟨ga5, gc5, ha5, hc5, ia5, ic5, rfl, hK5⟩, hb5⟩
    have hB5_0 : Below W0.heap.size W0 v5 := below_via (Lib.hid hb5) (by first | omega | (simp; done) | (simp; omega)) (by repeat (first | exact Below.refl _ _ | with_reducible exact HB4.out | (refine Below.alloc ?_ (by first | omega | (simp; omega) | simp) _) | (refine Below.setCell ?_ (by first | omega | (simp; omega) | simp) _) | refine Below.drew ?_))
    have z5 := hb5.size
    (try simp at z5)
    obtain ⟨g5_0, g5_1, g5_2, g5_3, g5_4, g5_5, g5_6, g5_7, g5_8⟩ : v5.cell? ⟨w.heap.size, 0, none⟩ = some (.int .i64 f.len) ∧ v5.cell? ⟨w.heap.size, 1, none⟩ = some (.int .i64 f.slack) ∧ v5.cell? ⟨w.heap.size, 2, none⟩ = some (.slice sa sl sc) ∧ v5.cell? ⟨w.heap.size, 3, none⟩ = some (.slice (some ⟨pb, po, none⟩) pl pc) ∧ v5.cell? ⟨w.heap.size, 4, none⟩ = some (.slice ca cl cc) ∧ v5.cell? ⟨pb, po + k * 3, none⟩ = some (.int .i64 lo) ∧ v5.cell? ⟨pb, po + k * 3 + 1, none⟩ = some (.int .i64 hi) ∧ v5.cell? ⟨v3.heap.size, 0, none⟩ = some (.int .i64 lo) ∧ v5.cell? ⟨v3.heap.size, 1, none⟩ = some (.int .i64 hi) :=
      ⟨(hb5.cell (p := ⟨w.heap.size, 0, none⟩) (by first | omega | (simp; done) | (simp; omega))).trans (by first | (go_simp; done) | (go_simp; exact set_same (u := .int .i64 0) (by go_simp; done))), (hb5.cell (p := ⟨w.heap.size, 1, none⟩) (by first | omega | (simp; done) | (simp; omega))).trans (by first | (go_simp; done) | (go_simp; exact set_same (u := .int .i64 0) (by go_simp; done))), (hb5.cell (p := ⟨w.heap.size, 2, none⟩) (by first | omega | (simp; done) | (simp; omega))).trans (by first | (go_simp; done) | (go_simp; exact set_same (u := .int .i64 0) (by go_simp; done))), (hb5.cell (p := ⟨w.heap.size, 3, none⟩) (by first | omega | (simp; done) | (simp; omega))).trans (by first | (go_simp; done) | (go_simp; exact set_same (u := .int .i64 0) (by go_simp; done))), (hb5.cell (p := ⟨w.heap.size, 4, none⟩) (by first | omega | (simp; done) | (simp; omega))).trans (by first | (go_simp; done) | (go_simp; exact set_same (u := .int .i64 0) (by go_simp; done))), (hb5.cell (p := ⟨pb, po + k * 3, none⟩) (by first | omega | (simp; done) | (simp; omega))).trans (by first | (go_simp; done) | (go_simp; exact set_same (u := .int .i64 0) (by go_simp; done))), (hb5.cell (p := ⟨pb, po + k * 3 + 1, none⟩) (by first | omega | (simp; done) | (simp; omega))).trans (by first | (go_simp; done) | (go_simp; exact set_same (u := .int .i64 0) (by go_simp; done))), (hb5.cell (p := ⟨v3.heap.size, 0, none⟩) (by first | omega | (simp; done) | (simp; omega))).trans (by first | (go_simp; done) | (go_simp; exact set_same (u := .int .i64 0) (by go_simp; done))), (hb5.cell (p := ⟨v3.heap.size, 1, none⟩) (by first | omega | (simp; done) | (simp; omega))).trans (by first | (go_simp; done) | (go_simp; exact set_same (u := .int .i64 0) (by go_simp; done)))⟩
    have q5_0 : w.heap.size < v5.heap.size := by first | omega | (simp at *; omega)
    have q5_1 : pb < v5.heap.size := by first | omega | (simp at *; omega)
    have q5_2 : v3.heap.size < v5.heap.size := by first | omega | (simp at *; omega)
    have HB5 := Lib.hid hB5_0
    have y5 := hB5_0.size
    clear hb5 hB5_0 g4_0 g4_1 g4_2 g4_3 g4_4 g4_5 g4_6 g4_7 g4_8 q4_0 q4_1 q4_2
    have HO5 := Lib.hid (fun W (h : Below v5.heap.size v5 W) => hK5 W (KeepsUp.below h))
    clear hK5
    go_wp2_with fail
    refine (lawStrips_any (f.high k lo) ga5 sl gc5 ha5 pl hc5 ia5 cl ic5 (hok _ (by omega) (by omega)) _ (HO5.out _ (by repeat (first | exact Below.refl _ _ | (refine Below.alloc ?_ (by first | omega | (simp; omega) | simp) _) | (refine Below.setCell ?_ (by first | omega | (simp; omega) | simp) _) | refine Below.drew ?_)))).mono ?_
    rintro e v6 ⟨rfl, hb6⟩
    have hB6_0 : Below W0.heap.size W0 v6 := below_via (Lib.hid hb6) (by first | omega | (simp; done) | (simp; omega)) (by repeat (first | exact Below.refl _ _ | with_reducible exact HB5.out | (refine Below.alloc ?_ (by first | omega | (simp; omega) | simp) _) | (refine Below.setCell ?_ (by first | omega | (simp; omega) | simp) _) | refine Below.drew ?_))
    have hB6_1 : Below v5.heap.size v5 v6 := below_via (Lib.hid hb6) (by first | omega | (simp; done) | (simp; omega)) (by repeat (first | exact Below.refl _ _ | (refine Below.alloc ?_ (by first | omega | (simp; omega) | simp) _) | (refine Below.setCell ?_ (by first | omega | (simp; omega) | simp) _) | refine Below.drew ?_))
    have z6 := hb6.size
    (try simp at z6)
    obtain ⟨g6_0, g6_1, g6_2, g6_3, g6_4, g6_5, g6_6, g6_7, g6_8⟩ : v6.cell? ⟨w.heap.size, 0, none⟩ = some (.int .i64 f.len) ∧ v6.cell? ⟨w.heap.size, 1, none⟩ = some (.int .i64 f.slack) ∧ v6.cell? ⟨w.heap.size, 2, none⟩ = some (.slice sa sl sc) ∧ v6.cell? ⟨w.heap.size, 3, none⟩ = some (.slice (some ⟨pb, po, none⟩) pl pc) ∧ v6.cell? ⟨w.heap.size, 4, none⟩ = some (.slice ca cl cc) ∧ v6.cell? ⟨pb, po + k * 3, none⟩ = some (.int .i64 lo) ∧ v6.cell? ⟨pb, po + k * 3 + 1, none⟩ = some (.int .i64 hi) ∧ v6.cell? ⟨v3.heap.size, 0, none⟩ = some (.int .i64 lo) ∧ v6.cell? ⟨v3.heap.size, 1, none⟩ = some (.int .i64 hi) :=
      ⟨(hb6.cell (p := ⟨w.heap.size, 0, none⟩) (by first | omega | (simp; done) | (simp; omega))).trans (by first | (go_simp; done) | (go_simp; exact set_same (u := .int .i64 0) (by go_simp; done))), (hb6.cell (p := ⟨w.heap.size, 1, none⟩) (by first | omega | (simp; done) | (simp; omega))).trans (by first | (go_simp; done) | (go_simp; exact set_same (u := .int .i64 0) (by go_simp; done))), (hb6.cell (p := ⟨w.heap.size, 2, none⟩) (by first | omega | (simp; done) | (simp; omega))).trans (by first | (go_simp; done) | (go_simp; exact set_same (u := .int .i64 0) (by go_simp; done))), (hb6.cell (p := ⟨w.heap.size, 3, none⟩) (by first | omega | (simp; done) | (simp; omega))).trans (by first | (go_simp; done) | (go_simp; exact set_same (u := .int .i64 0) (by go_simp; done))), (hb6.cell (p := ⟨w.heap.size, 4, none⟩) (by first | omega | (simp; done) | (simp; omega))).trans (by first | (go_simp; done) | (go_simp; exact set_same (u := .int .i64 0) (by go_simp; done))), (hb6.cell (p := ⟨pb, po + k * 3, none⟩) (by first | omega | (simp; done) | (simp; omega))).trans (by first | (go_simp; done) | (go_simp; exact set_same (u := .int .i64 0) (by go_simp; done))), (hb6.cell (p := ⟨pb, po + k * 3 + 1, none⟩) (by first | omega | (simp; done) | (simp; omega))).trans (by first | (go_simp; done) | (go_simp; exact set_same (u := .int .i64 0) (by go_simp; done))), (hb6.cell (p := ⟨v3.heap.size, 0, none⟩) (by first | omega | (simp; done) | (simp; omega))).trans (by first | (go_simp; done) | (go_simp; exact set_same (u := .int .i64 0) (by go_simp; done))), (hb6.cell (p := ⟨v3.heap.size, 1, none⟩) (by first | omega | (simp; done) | (simp; omega))).trans (by first | (go_simp; done) | (go_simp; exact set_same (u := .int .i64 0) (by go_simp; done)))⟩
    have q6_0 : w.heap.size < v6.heap.size := by first | omega | (simp at *; omega)
    have q6_1 : pb < v6.heap.size := by first | omega | (simp at *; omega)
    have q6_2 : v3.heap.size < v6.heap.size := by first | omega | (simp at *; omega)
    have HB6 := Lib.hid hB6_0
    have HC5_6 := Lib.hid hB6_1
    have y6 := hB6_0.size
    clear hb6 hB6_0 hB6_1 g5_0 g5_1 g5_2 g5_3 g5_4 g5_5 g5_6 g5_7 g5_8 q5_0 q5_1 q5_2
    rw [g3]
    go_wp2_with fail
    refine (HK.out _).mono ?_
    rintro e v7 ⟨rfl, hb7⟩
    have hB7_0 : Below W0.heap.size W0 v7 := below_via (Lib.hid hb7) (by first | omega | (simp; done) | (simp; omega)) (by repeat (first | exact Below.refl _ _ | with_reducible exact HB6.out | (refine Below.alloc ?_ (by first | omega | (simp; omega) | simp) _) | (refine Below.setCell ?_ (by first | omega | (simp; omega) | simp) _) | refine Below.drew ?_))
    have hB7_1 : Below v5.heap.size v5 v7 := below_via (Lib.hid hb7) (by first | omega | (simp; done) | (simp; omega)) (by repeat (first | exact Below.refl _ _ | with_reducible exact HC5_6.out | (refine Below.alloc ?_ (by first | omega | (simp; omega) | simp) _) | (refine Below.setCell ?_ (by first | omega | (simp; omega) | simp) _) | refine Below.drew ?_))
    have z7 := hb7.size
    (try simp at z7)
    have HB7 := Lib.hid hB7_0
    have HC5_7 := Lib.hid hB7_1
    have y7 := hB7_0.size
    clear hb7 hB7_0 hB7_1 g6_0 g6_1 g6_2 g6_3 g6_4 g6_5 g6_6 g6_7 g6_8 q6_0 q6_1 q6_2
    go_wp2_with fail
    go_ret
    exact ⟨rfl, HBW.out.trans (Below.mono (by repeat (first | exact Below.refl _ _ | with_reducible exact HB7.out | (refine Below.alloc ?_ (by first | omega | (simp; omega) | simp) _) | (refine Below.setCell ?_ (by first | omega | (simp; omega) | simp) _) | refine Below.drew ?_)) HBW.out.size)⟩
  · rw [g1] at HG
    have HN := Lib.hid (fun W => isKnown_is 0 true (by decide) W)
    have HW := Lib.hid (fun W => Within_is h lo 99 true (by unfold btw; exact decide_eq_true ⟨g2, g3⟩) W)
    have hw2 : IntKind.i64.wrap (h + 1) = h + 1 := IntWalk.i64_in _ ⟨by omega, by omega⟩
    obtain ⟨G, hG⟩ : ∃ G, (f.high k h).stripsN = G := ⟨_, rfl⟩
    rw [hG] at g5
    have d1 : (G == 100000) = false := by simp; omega
    have d0 : ¬ G = 100000 := by omega
    clear g1
    by_cases hm : S < 100000
    · have d2 : ¬ h < hi := by omega
      by_cases h9 : h = 99
      · have h9' : (h == 99) = true := by simp; exact h9
        clear h9 g6
        go_enter Try.func16, Try.ntmps16
        go_wp2_with fail
        obtain ⟨W0, hW0, hB0, ⟨g0_0, g0_1, g0_2, g0_3, g0_4⟩, hz0⟩ : ∃ W0, (w.alloc (.cells #[.int .i64 f.len, .int .i64 f.slack, .slice sa sl sc, .slice (some ⟨pb, po, none⟩) pl pc, .slice ca cl cc] 26)) = W0 ∧ Below w.heap.size w W0 ∧ (W0.cell? ⟨w.heap.size, 0, none⟩ = some (.int .i64 f.len) ∧ W0.cell? ⟨w.heap.size, 1, none⟩ = some (.int .i64 f.slack) ∧ W0.cell? ⟨w.heap.size, 2, none⟩ = some (.slice sa sl sc) ∧ W0.cell? ⟨w.heap.size, 3, none⟩ = some (.slice (some ⟨pb, po, none⟩) pl pc) ∧ W0.cell? ⟨w.heap.size, 4, none⟩ = some (.slice ca cl cc)) ∧ W0.heap.size = w.heap.size + 1 :=
          ⟨_, rfl, (by repeat (first | exact Below.refl _ _ | (refine Below.alloc ?_ (by first | omega | (simp; omega) | simp) _) | (refine Below.setCell ?_ (by first | omega | (simp; omega) | simp) _) | refine Below.drew ?_)), ⟨by go_simp, by go_simp, by go_simp, by go_simp, by go_simp⟩, by simp⟩
        rw [hW0]
        clear hW0
        have HBW := Lib.hid hB0
        have q0_0 : w.heap.size < W0.heap.size := by omega
        clear hB0 hz0
        have g0_5 : W0.cell? ⟨pb, po + k * 3, none⟩ = some (.int .i64 lo) := (HBW.out.cell (p := ⟨pb, po + k * 3, none⟩) hpb).trans hc0
        have g0_6 : W0.cell? ⟨pb, po + k * 3 + 1, none⟩ = some (.int .i64 hi) := (HBW.out.cell (p := ⟨pb, po + k * 3 + 1, none⟩) hpb).trans hc1
        have q0_1 : pb < W0.heap.size := Nat.lt_of_lt_of_le hpb HBW.out.size
        go_wp2_with fail
        refine (HR1.out _ (HBW.out.trans (Below.mono (by repeat (first | exact Below.refl _ _ | (refine Below.alloc ?_ (by first | omega | (simp; omega) | simp) _) | (refine Below.setCell ?_ (by first | omega | (simp; omega) | simp) _) | refine Below.drew ?_)) HBW.out.size))).mono ?_
        rintro e v1 ⟨rfl, hb1⟩
        have hB1_0 : Below W0.heap.size W0 v1 := below_via (Lib.hid hb1) (by first | omega | (simp; done) | (simp; omega)) (by repeat (first | exact Below.refl _ _ | (refine Below.alloc ?_ (by first | omega | (simp; omega) | simp) _) | (refine Below.setCell ?_ (by first | omega | (simp; omega) | simp) _) | refine Below.drew ?_))
        have z1 := hb1.size
        (try simp at z1)
        obtain ⟨g1_0, g1_1, g1_2, g1_3, g1_4, g1_5, g1_6⟩ : v1.cell? ⟨w.heap.size, 0, none⟩ = some (.int .i64 f.len) ∧ v1.cell? ⟨w.heap.size, 1, none⟩ = some (.int .i64 f.slack) ∧ v1.cell? ⟨w.heap.size, 2, none⟩ = some (.slice sa sl sc) ∧ v1.cell? ⟨w.heap.size, 3, none⟩ = some (.slice (some ⟨pb, po, none⟩) pl pc) ∧ v1.cell? ⟨w.heap.size, 4, none⟩ = some (.slice ca cl cc) ∧ v1.cell? ⟨pb, po + k * 3, none⟩ = some (.int .i64 lo) ∧ v1.cell? ⟨pb, po + k * 3 + 1, none⟩ = some (.int .i64 hi) :=
          ⟨(hb1.cell (p := ⟨w.heap.size, 0, none⟩) (by first | omega | (simp; done) | (simp; omega))).trans (by first | (go_simp; done) | (go_simp; exact set_same (u := .int .i64 0) (by go_simp; done))), (hb1.cell (p := ⟨w.heap.size, 1, none⟩) (by first | omega | (simp; done) | (simp; omega))).trans (by first | (go_simp; done) | (go_simp; exact set_same (u := .int .i64 0) (by go_simp; done))), (hb1.cell (p := ⟨w.heap.size, 2, none⟩) (by first | omega | (simp; done) | (simp; omega))).trans (by first | (go_simp; done) | (go_simp; exact set_same (u := .int .i64 0) (by go_simp; done))), (hb1.cell (p := ⟨w.heap.size, 3, none⟩) (by first | omega | (simp; done) | (simp; omega))).trans (by first | (go_simp; done) | (go_simp; exact set_same (u := .int .i64 0) (by go_simp; done))), (hb1.cell (p := ⟨w.heap.size, 4, none⟩) (by first | omega | (simp; done) | (simp; omega))).trans (by first | (go_simp; done) | (go_simp; exact set_same (u := .int .i64 0) (by go_simp; done))), (hb1.cell (p := ⟨pb, po + k * 3, none⟩) (by first | omega | (simp; done) | (simp; omega))).trans (by first | (go_simp; done) | (go_simp; exact set_same (u := .int .i64 0) (by go_simp; done))), (hb1.cell (p := ⟨pb, po + k * 3 + 1, none⟩) (by first | omega | (simp; done) | (simp; omega))).trans (by first | (go_simp; done) | (go_simp; exact set_same (u := .int .i64 0) (by go_simp; done)))⟩
        have q1_0 : w.heap.size < v1.heap.size := by first | omega | (simp at *; omega)
        have q1_1 : pb < v1.heap.size := by first | omega | (simp at *; omega)
        have HB1 := Lib.hid hB1_0
        have y1 := hB1_0.size
        clear hb1 hB1_0 g0_0 g0_1 g0_2 g0_3 g0_4 g0_5 g0_6 q0_0 q0_1
        go_wp2_with fail
        refine (HI1.out _).mono ?_
        rintro e v2 ⟨rfl, hb2⟩
        have hB2_0 : Below W0.heap.size W0 v2 := below_via (Lib.hid hb2) (by first | omega | (simp; done) | (simp; omega)) (by repeat (first | exact Below.refl _ _ | with_reducible exact HB1.out | (refine Below.alloc ?_ (by first | omega | (simp; omega) | simp) _) | (refine Below.setCell ?_ (by first | omega | (simp; omega) | simp) _) | refine Below.drew ?_))
        have z2 := hb2.size
        (try simp at z2)
        obtain ⟨g2_0, g2_1, g2_2, g2_3, g2_4, g2_5, g2_6⟩ : v2.cell? ⟨w.heap.size, 0, none⟩ = some (.int .i64 f.len) ∧ v2.cell? ⟨w.heap.size, 1, none⟩ = some (.int .i64 f.slack) ∧ v2.cell? ⟨w.heap.size, 2, none⟩ = some (.slice sa sl sc) ∧ v2.cell? ⟨w.heap.size, 3, none⟩ = some (.slice (some ⟨pb, po, none⟩) pl pc) ∧ v2.cell? ⟨w.heap.size, 4, none⟩ = some (.slice ca cl cc) ∧ v2.cell? ⟨pb, po + k * 3, none⟩ = some (.int .i64 lo) ∧ v2.cell? ⟨pb, po + k * 3 + 1, none⟩ = some (.int .i64 hi) :=
          ⟨(hb2.cell (p := ⟨w.heap.size, 0, none⟩) (by first | omega | (simp; done) | (simp; omega))).trans (by first | (go_simp; done) | (go_simp; exact set_same (u := .int .i64 0) (by go_simp; done))), (hb2.cell (p := ⟨w.heap.size, 1, none⟩) (by first | omega | (simp; done) | (simp; omega))).trans (by first | (go_simp; done) | (go_simp; exact set_same (u := .int .i64 0) (by go_simp; done))), (hb2.cell (p := ⟨w.heap.size, 2, none⟩) (by first | omega | (simp; done) | (simp; omega))).trans (by first | (go_simp; done) | (go_simp; exact set_same (u := .int .i64 0) (by go_simp; done))), (hb2.cell (p := ⟨w.heap.size, 3, none⟩) (by first | omega | (simp; done) | (simp; omega))).trans (by first | (go_simp; done) | (go_simp; exact set_same (u := .int .i64 0) (by go_simp; done))), (hb2.cell (p := ⟨w.heap.size, 4, none⟩) (by first | omega | (simp; done) | (simp; omega))).trans (by first | (go_simp; done) | (go_simp; exact set_same (u := .int .i64 0) (by go_simp; done))), (hb2.cell (p := ⟨pb, po + k * 3, none⟩) (by first | omega | (simp; done) | (simp; omega))).trans (by first | (go_simp; done) | (go_simp; exact set_same (u := .int .i64 0) (by go_simp; done))), (hb2.cell (p := ⟨pb, po + k * 3 + 1, none⟩) (by first | omega | (simp; done) | (simp; omega))).trans (by first | (go_simp; done) | (go_simp; exact set_same (u := .int .i64 0) (by go_simp; done)))⟩
        have q2_0 : w.heap.size < v2.heap.size := by first | omega | (simp at *; omega)
        have q2_1 : pb < v2.heap.size := by first | omega | (simp at *; omega)
        have HB2 := Lib.hid hB2_0
        have y2 := hB2_0.size
        clear hb2 hB2_0 g1_0 g1_1 g1_2 g1_3 g1_4 g1_5 g1_6 q1_0 q1_1
        go_wp2_with fail
        refine (HG.out _ (HBW.out.trans (Below.mono (by repeat (first | exact Below.refl _ _ | with_reducible exact HB2.out | (refine Below.alloc ?_ (by first | omega | (simp; omega) | simp) _) | (refine Below.setCell ?_ (by first | omega | (simp; omega) | simp) _) | refine Below.drew ?_)) HBW.out.size))).mono ?_
        rintro e v3 ⟨rfl, hb3⟩
        have hB3_0 : Below W0.heap.size W0 v3 := below_via (Lib.hid hb3) (by first | omega | (simp; done) | (simp; omega)) (by repeat (first | exact Below.refl _ _ | with_reducible exact HB2.out | (refine Below.alloc ?_ (by first | omega | (simp; omega) | simp) _) | (refine Below.setCell ?_ (by first | omega | (simp; omega) | simp) _) | refine Below.drew ?_))
        have z3 := hb3.size
        (try simp at z3)
        obtain ⟨g3_0, g3_1, g3_2, g3_3, g3_4, g3_5, g3_6⟩ : v3.cell? ⟨w.heap.size, 0, none⟩ = some (.int .i64 f.len) ∧ v3.cell? ⟨w.heap.size, 1, none⟩ = some (.int .i64 f.slack) ∧ v3.cell? ⟨w.heap.size, 2, none⟩ = some (.slice sa sl sc) ∧ v3.cell? ⟨w.heap.size, 3, none⟩ = some (.slice (some ⟨pb, po, none⟩) pl pc) ∧ v3.cell? ⟨w.heap.size, 4, none⟩ = some (.slice ca cl cc) ∧ v3.cell? ⟨pb, po + k * 3, none⟩ = some (.int .i64 lo) ∧ v3.cell? ⟨pb, po + k * 3 + 1, none⟩ = some (.int .i64 hi) :=
          ⟨(hb3.cell (p := ⟨w.heap.size, 0, none⟩) (by first | omega | (simp; done) | (simp; omega))).trans (by first | (go_simp; done) | (go_simp; exact set_same (u := .int .i64 0) (by go_simp; done))), (hb3.cell (p := ⟨w.heap.size, 1, none⟩) (by first | omega | (simp; done) | (simp; omega))).trans (by first | (go_simp; done) | (go_simp; exact set_same (u := .int .i64 0) (by go_simp; done))), (hb3.cell (p := ⟨w.heap.size, 2, none⟩) (by first | omega | (simp; done) | (simp; omega))).trans (by first | (go_simp; done) | (go_simp; exact set_same (u := .int .i64 0) (by go_simp; done))), (hb3.cell (p := ⟨w.heap.size, 3, none⟩) (by first | omega | (simp; done) | (simp; omega))).trans (by first | (go_simp; done) | (go_simp; exact set_same (u := .int .i64 0) (by go_simp; done))), (hb3.cell (p := ⟨w.heap.size, 4, none⟩) (by first | omega | (simp; done) | (simp; omega))).trans (by first | (go_simp; done) | (go_simp; exact set_same (u := .int .i64 0) (by go_simp; done))), (hb3.cell (p := ⟨pb, po + k * 3, none⟩) (by first | omega | (simp; done) | (simp; omega))).trans (by first | (go_simp; done) | (go_simp; exact set_same (u := .int .i64 0) (by go_simp; done))), (hb3.cell (p := ⟨pb, po + k * 3 + 1, none⟩) (by first | omega | (simp; done) | (simp; omega))).trans (by first | (go_simp; done) | (go_simp; exact set_same (u := .int .i64 0) (by go_simp; done)))⟩
        have q3_0 : w.heap.size < v3.heap.size := by first | omega | (simp at *; omega)
        have q3_1 : pb < v3.heap.size := by first | omega | (simp at *; omega)
        have HB3 := Lib.hid hB3_0
        have y3 := hB3_0.size
        clear hb3 hB3_0 g2_0 g2_1 g2_2 g2_3 g2_4 g2_5 g2_6 q2_0 q2_1
        go_wp2_with fail
        refine (HS.out _ (HBW.out.trans (Below.mono (by repeat (first | exact Below.refl _ _ | with_reducible exact HB3.out | (refine Below.alloc ?_ (by first | omega | (simp; omega) | simp) _) | (refine Below.setCell ?_ (by first | omega | (simp; omega) | simp) _) | refine Below.drew ?_)) HBW.out.size))).mono ?_
        rintro e v4 ⟨rfl, hb4⟩
        have hB4_0 : Below W0.heap.size W0 v4 := below_via (Lib.hid hb4) (by first | omega | (simp; done) | (simp; omega)) (by repeat (first | exact Below.refl _ _ | with_reducible exact HB3.out | (refine Below.alloc ?_ (by first | omega | (simp; omega) | simp) _) | (refine Below.setCell ?_ (by first | omega | (simp; omega) | simp) _) | refine Below.drew ?_))
        have z4 := hb4.size
        (try simp at z4)
        obtain ⟨g4_0, g4_1, g4_2, g4_3, g4_4, g4_5, g4_6, g4_7, g4_8⟩ : v4.cell? ⟨w.heap.size, 0, none⟩ = some (.int .i64 f.len) ∧ v4.cell? ⟨w.heap.size, 1, none⟩ = some (.int .i64 f.slack) ∧ v4.cell? ⟨w.heap.size, 2, none⟩ = some (.slice sa sl sc) ∧ v4.cell? ⟨w.heap.size, 3, none⟩ = some (.slice (some ⟨pb, po, none⟩) pl pc) ∧ v4.cell? ⟨w.heap.size, 4, none⟩ = some (.slice ca cl cc) ∧ v4.cell? ⟨pb, po + k * 3, none⟩ = some (.int .i64 lo) ∧ v4.cell? ⟨pb, po + k * 3 + 1, none⟩ = some (.int .i64 hi) ∧ v4.cell? ⟨v3.heap.size, 0, none⟩ = some (.int .i64 lo) ∧ v4.cell? ⟨v3.heap.size, 1, none⟩ = some (.int .i64 hi) :=
          ⟨(hb4.cell (p := ⟨w.heap.size, 0, none⟩) (by first | omega | (simp; done) | (simp; omega))).trans (by first | (go_simp; done) | (go_simp; exact set_same (u := .int .i64 0) (by go_simp; done))), (hb4.cell (p := ⟨w.heap.size, 1, none⟩) (by first | omega | (simp; done) | (simp; omega))).trans (by first | (go_simp; done) | (go_simp; exact set_same (u := .int .i64 0) (by go_simp; done))), (hb4.cell (p := ⟨w.heap.size, 2, none⟩) (by first | omega | (simp; done) | (simp; omega))).trans (by first | (go_simp; done) | (go_simp; exact set_same (u := .int .i64 0) (by go_simp; done))), (hb4.cell (p := ⟨w.heap.size, 3, none⟩) (by first | omega | (simp; done) | (simp; omega))).trans (by first | (go_simp; done) | (go_simp; exact set_same (u := .int .i64 0) (by go_simp; done))), (hb4.cell (p := ⟨w.heap.size, 4, none⟩) (by first | omega | (simp; done) | (simp; omega))).trans (by first | (go_simp; done) | (go_simp; exact set_same (u := .int .i64 0) (by go_simp; done))), (hb4.cell (p := ⟨pb, po + k * 3, none⟩) (by first | omega | (simp; done) | (simp; omega))).trans (by first | (go_simp; done) | (go_simp; exact set_same (u := .int .i64 0) (by go_simp; done))), (hb4.cell (p := ⟨pb, po + k * 3 + 1, none⟩) (by first | omega | (simp; done) | (simp; omega))).trans (by first | (go_simp; done) | (go_simp; exact set_same (u := .int .i64 0) (by go_simp; done))), (hb4.cell (p := ⟨v3.heap.size, 0, none⟩) (by first | omega | (simp; done) | (simp; omega))).trans (by first | (go_simp; done) | (go_simp; exact set_same (u := .int .i64 0) (by go_simp; done))), (hb4.cell (p := ⟨v3.heap.size, 1, none⟩) (by first | omega | (simp; done) | (simp; omega))).trans (by first | (go_simp; done) | (go_simp; exact set_same (u := .int .i64 0) (by go_simp; done)))⟩
        have q4_0 : w.heap.size < v4.heap.size := by first | omega | (simp at *; omega)
        have q4_1 : pb < v4.heap.size := by first | omega | (simp at *; omega)
        have q4_2 : v3.heap.size < v4.heap.size := by first | omega | (simp at *; omega)
        have HB4 := Lib.hid hB4_0
        have y4 := hB4_0.size
        clear hb4 hB4_0 g3_0 g3_1 g3_2 g3_3 g3_4 g3_5 g3_6 q3_0 q3_1
        go_wp2_with fail
        refine (HN.out _).mono ?_
        rintro e v' ⟨rfl, rfl⟩
        go_wp2_with fail
        refine (HW.out _).mono ?_
        rintro e v' ⟨rfl, rfl⟩
        go_wp2_with fail
        refine (HGN.out h _ (HBW.out.trans (Below.mono (by repeat (first | exact Below.refl _ _ | with_reducible exact HB4.out | (refine Below.alloc ?_ (by first | omega | (simp; omega) | simp) _) | (refine Below.setCell ?_ (by first | omega | (simp; omega) | simp) _) | refine Below.drew ?_)) HBW.out.size))).mono ?_
        rintro e v5 ⟨⟨ga5, gc5, ha5, hc5, ia5, ic5, rfl, hK5⟩, hb5⟩
        have hB5_0 : Below W0.heap.size W0 v5 := below_via (Lib.hid hb5) (by first | omega | (simp; done) | (simp; omega)) (by repeat (first | exact Below.refl _ _ | with_reducible exact HB4.out | (refine Below.alloc ?_ (by first | omega | (simp; omega) | simp) _) | (refine Below.setCell ?_ (by first | omega | (simp; omega) | simp) _) | refine Below.drew ?_))
        have z5 := hb5.size
        (try simp at z5)
        obtain ⟨g5_0, g5_1, g5_2, g5_3, g5_4, g5_5, g5_6, g5_7, g5_8⟩ : v5.cell? ⟨w.heap.size, 0, none⟩ = some (.int .i64 f.len) ∧ v5.cell? ⟨w.heap.size, 1, none⟩ = some (.int .i64 f.slack) ∧ v5.cell? ⟨w.heap.size, 2, none⟩ = some (.slice sa sl sc) ∧ v5.cell? ⟨w.heap.size, 3, none⟩ = some (.slice (some ⟨pb, po, none⟩) pl pc) ∧ v5.cell? ⟨w.heap.size, 4, none⟩ = some (.slice ca cl cc) ∧ v5.cell? ⟨pb, po + k * 3, none⟩ = some (.int .i64 lo) ∧ v5.cell? ⟨pb, po + k * 3 + 1, none⟩ = some (.int .i64 hi) ∧ v5.cell? ⟨v3.heap.size, 0, none⟩ = some (.int .i64 lo) ∧ v5.cell? ⟨v3.heap.size, 1, none⟩ = some (.int .i64 hi) :=
          ⟨(hb5.cell (p := ⟨w.heap.size, 0, none⟩) (by first | omega | (simp; done) | (simp; omega))).trans (by first | (go_simp; done) | (go_simp; exact set_same (u := .int .i64 0) (by go_simp; done))), (hb5.cell (p := ⟨w.heap.size, 1, none⟩) (by first | omega | (simp; done) | (simp; omega))).trans (by first | (go_simp; done) | (go_simp; exact set_same (u := .int .i64 0) (by go_simp; done))), (hb5.cell (p := ⟨w.heap.size, 2, none⟩) (by first | omega | (simp; done) | (simp; omega))).trans (by first | (go_simp; done) | (go_simp; exact set_same (u := .int .i64 0) (by go_simp; done))), (hb5.cell (p := ⟨w.heap.size, 3, none⟩) (by first | omega | (simp; done) | (simp; omega))).trans (by first | (go_simp; done) | (go_simp; exact set_same (u := .int .i64 0) (by go_simp; done))), (hb5.cell (p := ⟨w.heap.size, 4, none⟩) (by first | omega | (simp; done) | (simp; omega))).trans (by first | (go_simp; done) | (go_simp; exact set_same (u := .int .i64 0) (by go_simp; done))), (hb5.cell (p := ⟨pb, po + k * 3, none⟩) (by first | omega | (simp; done) | (simp; omega))).trans (by first | (go_simp; done) | (go_simp; exact set_same (u := .int .i64 0) (by go_simp; done))), (hb5.cell (p := ⟨pb, po + k * 3 + 1, none⟩) (by first | omega | (simp; done) | (simp; omega))).trans (by first | (go_simp; done) | (go_simp; exact set_same (u := .int .i64 0) (by go_simp; done))), (hb5.cell (p := ⟨v3.heap.size, 0, none⟩) (by first | omega | (simp; done) | (simp; omega))).trans (by first | (go_simp; done) | (go_simp; exact set_same (u := .int .i64 0) (by go_simp; done))), (hb5.cell (p := ⟨v3.heap.size, 1, none⟩) (by first | omega | (simp; done) | (simp; omega))).trans (by first | (go_simp; done) | (go_simp; exact set_same (u := .int .i64 0) (by go_simp; done)))⟩
        have q5_0 : w.heap.size < v5.heap.size := by first | omega | (simp at *; omega)
        have q5_1 : pb < v5.heap.size := by first | omega | (simp at *; omega)
        have q5_2 : v3.heap.size < v5.heap.size := by first | omega | (simp at *; omega)
        have HB5 := Lib.hid hB5_0
        have y5 := hB5_0.size
        clear hb5 hB5_0 g4_0 g4_1 g4_2 g4_3 g4_4 g4_5 g4_6 g4_7 g4_8 q4_0 q4_1 q4_2
        have HO5 := Lib.hid (fun W (h : Below v5.heap.size v5 W) => hK5 W (KeepsUp.below h))
        clear hK5
        go_wp2_with fail
        refine (lawStrips_any (f.high k h) ga5 sl gc5 ha5 pl hc5 ia5 cl ic5 (hok _ (by omega) (by omega)) _ (HO5.out _ (by repeat (first | exact Below.refl _ _ | (refine Below.alloc ?_ (by first | omega | (simp; omega) | simp) _) | (refine Below.setCell ?_ (by first | omega | (simp; omega) | simp) _) | refine Below.drew ?_)))).mono ?_
        rintro e v6 ⟨rfl, hb6⟩
        have hB6_0 : Below W0.heap.size W0 v6 := below_via (Lib.hid hb6) (by first | omega | (simp; done) | (simp; omega)) (by repeat (first | exact Below.refl _ _ | with_reducible exact HB5.out | (refine Below.alloc ?_ (by first | omega | (simp; omega) | simp) _) | (refine Below.setCell ?_ (by first | omega | (simp; omega) | simp) _) | refine Below.drew ?_))
        have hB6_1 : Below v5.heap.size v5 v6 := below_via (Lib.hid hb6) (by first | omega | (simp; done) | (simp; omega)) (by repeat (first | exact Below.refl _ _ | (refine Below.alloc ?_ (by first | omega | (simp; omega) | simp) _) | (refine Below.setCell ?_ (by first | omega | (simp; omega) | simp) _) | refine Below.drew ?_))
        have z6 := hb6.size
        (try simp at z6)
        obtain ⟨g6_0, g6_1, g6_2, g6_3, g6_4, g6_5, g6_6, g6_7, g6_8⟩ : v6.cell? ⟨w.heap.size, 0, none⟩ = some (.int .i64 f.len) ∧ v6.cell? ⟨w.heap.size, 1, none⟩ = some (.int .i64 f.slack) ∧ v6.cell? ⟨w.heap.size, 2, none⟩ = some (.slice sa sl sc) ∧ v6.cell? ⟨w.heap.size, 3, none⟩ = some (.slice (some ⟨pb, po, none⟩) pl pc) ∧ v6.cell? ⟨w.heap.size, 4, none⟩ = some (.slice ca cl cc) ∧ v6.cell? ⟨pb, po + k * 3, none⟩ = some (.int .i64 lo) ∧ v6.cell? ⟨pb, po + k * 3 + 1, none⟩ = some (.int .i64 hi) ∧ v6.cell? ⟨v3.heap.size, 0, none⟩ = some (.int .i64 lo) ∧ v6.cell? ⟨v3.heap.size, 1, none⟩ = some (.int .i64 hi) :=
          ⟨(hb6.cell (p := ⟨w.heap.size, 0, none⟩) (by first | omega | (simp; done) | (simp; omega))).trans (by first | (go_simp; done) | (go_simp; exact set_same (u := .int .i64 0) (by go_simp; done))), (hb6.cell (p := ⟨w.heap.size, 1, none⟩) (by first | omega | (simp; done) | (simp; omega))).trans (by first | (go_simp; done) | (go_simp; exact set_same (u := .int .i64 0) (by go_simp; done))), (hb6.cell (p := ⟨w.heap.size, 2, none⟩) (by first | omega | (simp; done) | (simp; omega))).trans (by first | (go_simp; done) | (go_simp; exact set_same (u := .int .i64 0) (by go_simp; done))), (hb6.cell (p := ⟨w.heap.size, 3, none⟩) (by first | omega | (simp; done) | (simp; omega))).trans (by first | (go_simp; done) | (go_simp; exact set_same (u := .int .i64 0) (by go_simp; done))), (hb6.cell (p := ⟨w.heap.size, 4, none⟩) (by first | omega | (simp; done) | (simp; omega))).trans (by first | (go_simp; done) | (go_simp; exact set_same (u := .int .i64 0) (by go_simp; done))), (hb6.cell (p := ⟨pb, po + k * 3, none⟩) (by first | omega | (simp; done) | (simp; omega))).trans (by first | (go_simp; done) | (go_simp; exact set_same (u := .int .i64 0) (by go_simp; done))), (hb6.cell (p := ⟨pb, po + k * 3 + 1, none⟩) (by first | omega | (simp; done) | (simp; omega))).trans (by first | (go_simp; done) | (go_simp; exact set_same (u := .int .i64 0) (by go_simp; done))), (hb6.cell (p := ⟨v3.heap.size, 0, none⟩) (by first | omega | (simp; done) | (simp; omega))).trans (by first | (go_simp; done) | (go_simp; exact set_same (u := .int .i64 0) (by go_simp; done))), (hb6.cell (p := ⟨v3.heap.size, 1, none⟩) (by first | omega | (simp; done) | (simp; omega))).trans (by first | (go_simp; done) | (go_simp; exact set_same (u := .int .i64 0) (by go_simp; done)))⟩
        have q6_0 : w.heap.size < v6.heap.size := by first | omega | (simp at *; omega)
        have q6_1 : pb < v6.heap.size := by first | omega | (simp at *; omega)
        have q6_2 : v3.heap.size < v6.heap.size := by first | omega | (simp at *; omega)
        have HB6 := Lib.hid hB6_0
        have HC5_6 := Lib.hid hB6_1
        have y6 := hB6_0.size
        clear hb6 hB6_0 hB6_1 g5_0 g5_1 g5_2 g5_3 g5_4 g5_5 g5_6 g5_7 g5_8 q5_0 q5_1 q5_2
        rw [hG]
        go_wp2_with fail
        refine (HK.out _).mono ?_
        rintro e v7 ⟨rfl, hb7⟩
        have hB7_0 : Below W0.heap.size W0 v7 := below_via (Lib.hid hb7) (by first | omega | (simp; done) | (simp; omega)) (by repeat (first | exact Below.refl _ _ | with_reducible exact HB6.out | (refine Below.alloc ?_ (by first | omega | (simp; omega) | simp) _) | (refine Below.setCell ?_ (by first | omega | (simp; omega) | simp) _) | refine Below.drew ?_))
        have hB7_1 : Below v5.heap.size v5 v7 := below_via (Lib.hid hb7) (by first | omega | (simp; done) | (simp; omega)) (by repeat (first | exact Below.refl _ _ | with_reducible exact HC5_6.out | (refine Below.alloc ?_ (by first | omega | (simp; omega) | simp) _) | (refine Below.setCell ?_ (by first | omega | (simp; omega) | simp) _) | refine Below.drew ?_))
        have z7 := hb7.size
        (try simp at z7)
        have HB7 := Lib.hid hB7_0
        have HC5_7 := Lib.hid hB7_1
        have y7 := hB7_0.size
        clear hb7 hB7_0 hB7_1 g6_0 g6_1 g6_2 g6_3 g6_4 g6_5 g6_6 g6_7 g6_8 q6_0 q6_1 q6_2
        go_wp2_with fail
        go_ret
        exact ⟨rfl, HBW.out.trans (Below.mono (by repeat (first | exact Below.refl _ _ | with_reducible exact HB7.out | (refine Below.alloc ?_ (by first | omega | (simp; omega) | simp) _) | (refine Below.setCell ?_ (by first | omega | (simp; omega) | simp) _) | refine Below.drew ?_)) HBW.out.size)⟩
      · have h9' : (h == 99) = false := by simp; exact h9
        go_enter Try.func16, Try.ntmps16
        go_wp2_with fail
        obtain ⟨W0, hW0, hB0, ⟨g0_0, g0_1, g0_2, g0_3, g0_4⟩, hz0⟩ : ∃ W0, (w.alloc (.cells #[.int .i64 f.len, .int .i64 f.slack, .slice sa sl sc, .slice (some ⟨pb, po, none⟩) pl pc, .slice ca cl cc] 26)) = W0 ∧ Below w.heap.size w W0 ∧ (W0.cell? ⟨w.heap.size, 0, none⟩ = some (.int .i64 f.len) ∧ W0.cell? ⟨w.heap.size, 1, none⟩ = some (.int .i64 f.slack) ∧ W0.cell? ⟨w.heap.size, 2, none⟩ = some (.slice sa sl sc) ∧ W0.cell? ⟨w.heap.size, 3, none⟩ = some (.slice (some ⟨pb, po, none⟩) pl pc) ∧ W0.cell? ⟨w.heap.size, 4, none⟩ = some (.slice ca cl cc)) ∧ W0.heap.size = w.heap.size + 1 :=
          ⟨_, rfl, (by repeat (first | exact Below.refl _ _ | (refine Below.alloc ?_ (by first | omega | (simp; omega) | simp) _) | (refine Below.setCell ?_ (by first | omega | (simp; omega) | simp) _) | refine Below.drew ?_)), ⟨by go_simp, by go_simp, by go_simp, by go_simp, by go_simp⟩, by simp⟩
        rw [hW0]
        clear hW0
        have HBW := Lib.hid hB0
        have q0_0 : w.heap.size < W0.heap.size := by omega
        clear hB0 hz0
        have g0_5 : W0.cell? ⟨pb, po + k * 3, none⟩ = some (.int .i64 lo) := (HBW.out.cell (p := ⟨pb, po + k * 3, none⟩) hpb).trans hc0
        have g0_6 : W0.cell? ⟨pb, po + k * 3 + 1, none⟩ = some (.int .i64 hi) := (HBW.out.cell (p := ⟨pb, po + k * 3 + 1, none⟩) hpb).trans hc1
        have q0_1 : pb < W0.heap.size := Nat.lt_of_lt_of_le hpb HBW.out.size
        go_wp2_with fail
        refine (HR1.out _ (HBW.out.trans (Below.mono (by repeat (first | exact Below.refl _ _ | (refine Below.alloc ?_ (by first | omega | (simp; omega) | simp) _) | (refine Below.setCell ?_ (by first | omega | (simp; omega) | simp) _) | refine Below.drew ?_)) HBW.out.size))).mono ?_
        rintro e v1 ⟨rfl, hb1⟩
        have hB1_0 : Below W0.heap.size W0 v1 := below_via (Lib.hid hb1) (by first | omega | (simp; done) | (simp; omega)) (by repeat (first | exact Below.refl _ _ | (refine Below.alloc ?_ (by first | omega | (simp; omega) | simp) _) | (refine Below.setCell ?_ (by first | omega | (simp; omega) | simp) _) | refine Below.drew ?_))
        have z1 := hb1.size
        (try simp at z1)
        obtain ⟨g1_0, g1_1, g1_2, g1_3, g1_4, g1_5, g1_6⟩ : v1.cell? ⟨w.heap.size, 0, none⟩ = some (.int .i64 f.len) ∧ v1.cell? ⟨w.heap.size, 1, none⟩ = some (.int .i64 f.slack) ∧ v1.cell? ⟨w.heap.size, 2, none⟩ = some (.slice sa sl sc) ∧ v1.cell? ⟨w.heap.size, 3, none⟩ = some (.slice (some ⟨pb, po, none⟩) pl pc) ∧ v1.cell? ⟨w.heap.size, 4, none⟩ = some (.slice ca cl cc) ∧ v1.cell? ⟨pb, po + k * 3, none⟩ = some (.int .i64 lo) ∧ v1.cell? ⟨pb, po + k * 3 + 1, none⟩ = some (.int .i64 hi) :=
          ⟨(hb1.cell (p := ⟨w.heap.size, 0, none⟩) (by first | omega | (simp; done) | (simp; omega))).trans (by first | (go_simp; done) | (go_simp; exact set_same (u := .int .i64 0) (by go_simp; done))), (hb1.cell (p := ⟨w.heap.size, 1, none⟩) (by first | omega | (simp; done) | (simp; omega))).trans (by first | (go_simp; done) | (go_simp; exact set_same (u := .int .i64 0) (by go_simp; done))), (hb1.cell (p := ⟨w.heap.size, 2, none⟩) (by first | omega | (simp; done) | (simp; omega))).trans (by first | (go_simp; done) | (go_simp; exact set_same (u := .int .i64 0) (by go_simp; done))), (hb1.cell (p := ⟨w.heap.size, 3, none⟩) (by first | omega | (simp; done) | (simp; omega))).trans (by first | (go_simp; done) | (go_simp; exact set_same (u := .int .i64 0) (by go_simp; done))), (hb1.cell (p := ⟨w.heap.size, 4, none⟩) (by first | omega | (simp; done) | (simp; omega))).trans (by first | (go_simp; done) | (go_simp; exact set_same (u := .int .i64 0) (by go_simp; done))), (hb1.cell (p := ⟨pb, po + k * 3, none⟩) (by first | omega | (simp; done) | (simp; omega))).trans (by first | (go_simp; done) | (go_simp; exact set_same (u := .int .i64 0) (by go_simp; done))), (hb1.cell (p := ⟨pb, po + k * 3 + 1, none⟩) (by first | omega | (simp; done) | (simp; omega))).trans (by first | (go_simp; done) | (go_simp; exact set_same (u := .int .i64 0) (by go_simp; done)))⟩
        have q1_0 : w.heap.size < v1.heap.size := by first | omega | (simp at *; omega)
        have q1_1 : pb < v1.heap.size := by first | omega | (simp at *; omega)
        have HB1 := Lib.hid hB1_0
        have y1 := hB1_0.size
        clear hb1 hB1_0 g0_0 g0_1 g0_2 g0_3 g0_4 g0_5 g0_6 q0_0 q0_1
        go_wp2_with fail
        refine (HI1.out _).mono ?_
        rintro e v2 ⟨rfl, hb2⟩
        have hB2_0 : Below W0.heap.size W0 v2 := below_via (Lib.hid hb2) (by first | omega | (simp; done) | (simp; omega)) (by repeat (first | exact Below.refl _ _ | with_reducible exact HB1.out | (refine Below.alloc ?_ (by first | omega | (simp; omega) | simp) _) | (refine Below.setCell ?_ (by first | omega | (simp; omega) | simp) _) | refine Below.drew ?_))
        have z2 := hb2.size
        (try simp at z2)
        obtain ⟨g2_0, g2_1, g2_2, g2_3, g2_4, g2_5, g2_6⟩ : v2.cell? ⟨w.heap.size, 0, none⟩ = some (.int .i64 f.len) ∧ v2.cell? ⟨w.heap.size, 1, none⟩ = some (.int .i64 f.slack) ∧ v2.cell? ⟨w.heap.size, 2, none⟩ = some (.slice sa sl sc) ∧ v2.cell? ⟨w.heap.size, 3, none⟩ = some (.slice (some ⟨pb, po, none⟩) pl pc) ∧ v2.cell? ⟨w.heap.size, 4, none⟩ = some (.slice ca cl cc) ∧ v2.cell? ⟨pb, po + k * 3, none⟩ = some (.int .i64 lo) ∧ v2.cell? ⟨pb, po + k * 3 + 1, none⟩ = some (.int .i64 hi) :=
          ⟨(hb2.cell (p := ⟨w.heap.size, 0, none⟩) (by first | omega | (simp; done) | (simp; omega))).trans (by first | (go_simp; done) | (go_simp; exact set_same (u := .int .i64 0) (by go_simp; done))), (hb2.cell (p := ⟨w.heap.size, 1, none⟩) (by first | omega | (simp; done) | (simp; omega))).trans (by first | (go_simp; done) | (go_simp; exact set_same (u := .int .i64 0) (by go_simp; done))), (hb2.cell (p := ⟨w.heap.size, 2, none⟩) (by first | omega | (simp; done) | (simp; omega))).trans (by first | (go_simp; done) | (go_simp; exact set_same (u := .int .i64 0) (by go_simp; done))), (hb2.cell (p := ⟨w.heap.size, 3, none⟩) (by first | omega | (simp; done) | (simp; omega))).trans (by first | (go_simp; done) | (go_simp; exact set_same (u := .int .i64 0) (by go_simp; done))), (hb2.cell (p := ⟨w.heap.size, 4, none⟩) (by first | omega | (simp; done) | (simp; omega))).trans (by first | (go_simp; done) | (go_simp; exact set_same (u := .int .i64 0) (by go_simp; done))), (hb2.cell (p := ⟨pb, po + k * 3, none⟩) (by first | omega | (simp; done) | (simp; omega))).trans (by first | (go_simp; done) | (go_simp; exact set_same (u := .int .i64 0) (by go_simp; done))), (hb2.cell (p := ⟨pb, po + k * 3 + 1, none⟩) (by first | omega | (simp; done) | (simp; omega))).trans (by first | (go_simp; done) | (go_simp; exact set_same (u := .int .i64 0) (by go_simp; done)))⟩
        have q2_0 : w.heap.size < v2.heap.size := by first | omega | (simp at *; omega)
        have q2_1 : pb < v2.heap.size := by first | omega | (simp at *; omega)
        have HB2 := Lib.hid hB2_0
        have y2 := hB2_0.size
        clear hb2 hB2_0 g1_0 g1_1 g1_2 g1_3 g1_4 g1_5 g1_6 q1_0 q1_1
        go_wp2_with fail
        refine (HG.out _ (HBW.out.trans (Below.mono (by repeat (first | exact Below.refl _ _ | with_reducible exact HB2.out | (refine Below.alloc ?_ (by first | omega | (simp; omega) | simp) _) | (refine Below.setCell ?_ (by first | omega | (simp; omega) | simp) _) | refine Below.drew ?_)) HBW.out.size))).mono ?_
        rintro e v3 ⟨rfl, hb3⟩
        have hB3_0 : Below W0.heap.size W0 v3 := below_via (Lib.hid hb3) (by first | omega | (simp; done) | (simp; omega)) (by repeat (first | exact Below.refl _ _ | with_reducible exact HB2.out | (refine Below.alloc ?_ (by first | omega | (simp; omega) | simp) _) | (refine Below.setCell ?_ (by first | omega | (simp; omega) | simp) _) | refine Below.drew ?_))
        have z3 := hb3.size
        (try simp at z3)
        obtain ⟨g3_0, g3_1, g3_2, g3_3, g3_4, g3_5, g3_6⟩ : v3.cell? ⟨w.heap.size, 0, none⟩ = some (.int .i64 f.len) ∧ v3.cell? ⟨w.heap.size, 1, none⟩ = some (.int .i64 f.slack) ∧ v3.cell? ⟨w.heap.size, 2, none⟩ = some (.slice sa sl sc) ∧ v3.cell? ⟨w.heap.size, 3, none⟩ = some (.slice (some ⟨pb, po, none⟩) pl pc) ∧ v3.cell? ⟨w.heap.size, 4, none⟩ = some (.slice ca cl cc) ∧ v3.cell? ⟨pb, po + k * 3, none⟩ = some (.int .i64 lo) ∧ v3.cell? ⟨pb, po + k * 3 + 1, none⟩ = some (.int .i64 hi) :=
          ⟨(hb3.cell (p := ⟨w.heap.size, 0, none⟩) (by first | omega | (simp; done) | (simp; omega))).trans (by first | (go_simp; done) | (go_simp; exact set_same (u := .int .i64 0) (by go_simp; done))), (hb3.cell (p := ⟨w.heap.size, 1, none⟩) (by first | omega | (simp; done) | (simp; omega))).trans (by first | (go_simp; done) | (go_simp; exact set_same (u := .int .i64 0) (by go_simp; done))), (hb3.cell (p := ⟨w.heap.size, 2, none⟩) (by first | omega | (simp; done) | (simp; omega))).trans (by first | (go_simp; done) | (go_simp; exact set_same (u := .int .i64 0) (by go_simp; done))), (hb3.cell (p := ⟨w.heap.size, 3, none⟩) (by first | omega | (simp; done) | (simp; omega))).trans (by first | (go_simp; done) | (go_simp; exact set_same (u := .int .i64 0) (by go_simp; done))), (hb3.cell (p := ⟨w.heap.size, 4, none⟩) (by first | omega | (simp; done) | (simp; omega))).trans (by first | (go_simp; done) | (go_simp; exact set_same (u := .int .i64 0) (by go_simp; done))), (hb3.cell (p := ⟨pb, po + k * 3, none⟩) (by first | omega | (simp; done) | (simp; omega))).trans (by first | (go_simp; done) | (go_simp; exact set_same (u := .int .i64 0) (by go_simp; done))), (hb3.cell (p := ⟨pb, po + k * 3 + 1, none⟩) (by first | omega | (simp; done) | (simp; omega))).trans (by first | (go_simp; done) | (go_simp; exact set_same (u := .int .i64 0) (by go_simp; done)))⟩
        have q3_0 : w.heap.size < v3.heap.size := by first | omega | (simp at *; omega)
        have q3_1 : pb < v3.heap.size := by first | omega | (simp at *; omega)
        have HB3 := Lib.hid hB3_0
        have y3 := hB3_0.size
        clear hb3 hB3_0 g2_0 g2_1 g2_2 g2_3 g2_4 g2_5 g2_6 q2_0 q2_1
        go_wp2_with fail
        refine (HS.out _ (HBW.out.trans (Below.mono (by repeat (first | exact Below.refl _ _ | with_reducible exact HB3.out | (refine Below.alloc ?_ (by first | omega | (simp; omega) | simp) _) | (refine Below.setCell ?_ (by first | omega | (simp; omega) | simp) _) | refine Below.drew ?_)) HBW.out.size))).mono ?_
        rintro e v4 ⟨rfl, hb4⟩
        have hB4_0 : Below W0.heap.size W0 v4 := below_via (Lib.hid hb4) (by first | omega | (simp; done) | (simp; omega)) (by repeat (first | exact Below.refl _ _ | with_reducible exact HB3.out | (refine Below.alloc ?_ (by first | omega | (simp; omega) | simp) _) | (refine Below.setCell ?_ (by first | omega | (simp; omega) | simp) _) | refine Below.drew ?_))
        have z4 := hb4.size
        (try simp at z4)
        obtain ⟨g4_0, g4_1, g4_2, g4_3, g4_4, g4_5, g4_6, g4_7, g4_8⟩ : v4.cell? ⟨w.heap.size, 0, none⟩ = some (.int .i64 f.len) ∧ v4.cell? ⟨w.heap.size, 1, none⟩ = some (.int .i64 f.slack) ∧ v4.cell? ⟨w.heap.size, 2, none⟩ = some (.slice sa sl sc) ∧ v4.cell? ⟨w.heap.size, 3, none⟩ = some (.slice (some ⟨pb, po, none⟩) pl pc) ∧ v4.cell? ⟨w.heap.size, 4, none⟩ = some (.slice ca cl cc) ∧ v4.cell? ⟨pb, po + k * 3, none⟩ = some (.int .i64 lo) ∧ v4.cell? ⟨pb, po + k * 3 + 1, none⟩ = some (.int .i64 hi) ∧ v4.cell? ⟨v3.heap.size, 0, none⟩ = some (.int .i64 lo) ∧ v4.cell? ⟨v3.heap.size, 1, none⟩ = some (.int .i64 hi) :=
          ⟨(hb4.cell (p := ⟨w.heap.size, 0, none⟩) (by first | omega | (simp; done) | (simp; omega))).trans (by first | (go_simp; done) | (go_simp; exact set_same (u := .int .i64 0) (by go_simp; done))), (hb4.cell (p := ⟨w.heap.size, 1, none⟩) (by first | omega | (simp; done) | (simp; omega))).trans (by first | (go_simp; done) | (go_simp; exact set_same (u := .int .i64 0) (by go_simp; done))), (hb4.cell (p := ⟨w.heap.size, 2, none⟩) (by first | omega | (simp; done) | (simp; omega))).trans (by first | (go_simp; done) | (go_simp; exact set_same (u := .int .i64 0) (by go_simp; done))), (hb4.cell (p := ⟨w.heap.size, 3, none⟩) (by first | omega | (simp; done) | (simp; omega))).trans (by first | (go_simp; done) | (go_simp; exact set_same (u := .int .i64 0) (by go_simp; done))), (hb4.cell (p := ⟨w.heap.size, 4, none⟩) (by first | omega | (simp; done) | (simp; omega))).trans (by first | (go_simp; done) | (go_simp; exact set_same (u := .int .i64 0) (by go_simp; done))), (hb4.cell (p := ⟨pb, po + k * 3, none⟩) (by first | omega | (simp; done) | (simp; omega))).trans (by first | (go_simp; done) | (go_simp; exact set_same (u := .int .i64 0) (by go_simp; done))), (hb4.cell (p := ⟨pb, po + k * 3 + 1, none⟩) (by first | omega | (simp; done) | (simp; omega))).trans (by first | (go_simp; done) | (go_simp; exact set_same (u := .int .i64 0) (by go_simp; done))), (hb4.cell (p := ⟨v3.heap.size, 0, none⟩) (by first | omega | (simp; done) | (simp; omega))).trans (by first | (go_simp; done) | (go_simp; exact set_same (u := .int .i64 0) (by go_simp; done))), (hb4.cell (p := ⟨v3.heap.size, 1, none⟩) (by first | omega | (simp; done) | (simp; omega))).trans (by first | (go_simp; done) | (go_simp; exact set_same (u := .int .i64 0) (by go_simp; done)))⟩
        have q4_0 : w.heap.size < v4.heap.size := by first | omega | (simp at *; omega)
        have q4_1 : pb < v4.heap.size := by first | omega | (simp at *; omega)
        have q4_2 : v3.heap.size < v4.heap.size := by first | omega | (simp at *; omega)
        have HB4 := Lib.hid hB4_0
        have y4 := hB4_0.size
        clear hb4 hB4_0 g3_0 g3_1 g3_2 g3_3 g3_4 g3_5 g3_6 q3_0 q3_1
        go_wp2_with fail
        refine (HN.out _).mono ?_
        rintro e v' ⟨rfl, rfl⟩
        go_wp2_with fail
        refine (HW.out _).mono ?_
        rintro e v' ⟨rfl, rfl⟩
        go_wp2_with fail
        refine (HGN.out h _ (HBW.out.trans (Below.mono (by repeat (first | exact Below.refl _ _ | with_reducible exact HB4.out | (refine Below.alloc ?_ (by first | omega | (simp; omega) | simp) _) | (refine Below.setCell ?_ (by first | omega | (simp; omega) | simp) _) | refine Below.drew ?_)) HBW.out.size))).mono ?_
        rintro e v5 ⟨⟨ga5, gc5, ha5, hc5, ia5, ic5, rfl, hK5⟩, hb5⟩
        have hB5_0 : Below W0.heap.size W0 v5 := below_via (Lib.hid hb5) (by first | omega | (simp; done) | (simp; omega)) (by repeat (first | exact Below.refl _ _ | with_reducible exact HB4.out | (refine Below.alloc ?_ (by first | omega | (simp; omega) | simp) _) | (refine Below.setCell ?_ (by first | omega | (simp; omega) | simp) _) | refine Below.drew ?_))
        have z5 := hb5.size
        (try simp at z5)
        obtain ⟨g5_0, g5_1, g5_2, g5_3, g5_4, g5_5, g5_6, g5_7, g5_8⟩ : v5.cell? ⟨w.heap.size, 0, none⟩ = some (.int .i64 f.len) ∧ v5.cell? ⟨w.heap.size, 1, none⟩ = some (.int .i64 f.slack) ∧ v5.cell? ⟨w.heap.size, 2, none⟩ = some (.slice sa sl sc) ∧ v5.cell? ⟨w.heap.size, 3, none⟩ = some (.slice (some ⟨pb, po, none⟩) pl pc) ∧ v5.cell? ⟨w.heap.size, 4, none⟩ = some (.slice ca cl cc) ∧ v5.cell? ⟨pb, po + k * 3, none⟩ = some (.int .i64 lo) ∧ v5.cell? ⟨pb, po + k * 3 + 1, none⟩ = some (.int .i64 hi) ∧ v5.cell? ⟨v3.heap.size, 0, none⟩ = some (.int .i64 lo) ∧ v5.cell? ⟨v3.heap.size, 1, none⟩ = some (.int .i64 hi) :=
          ⟨(hb5.cell (p := ⟨w.heap.size, 0, none⟩) (by first | omega | (simp; done) | (simp; omega))).trans (by first | (go_simp; done) | (go_simp; exact set_same (u := .int .i64 0) (by go_simp; done))), (hb5.cell (p := ⟨w.heap.size, 1, none⟩) (by first | omega | (simp; done) | (simp; omega))).trans (by first | (go_simp; done) | (go_simp; exact set_same (u := .int .i64 0) (by go_simp; done))), (hb5.cell (p := ⟨w.heap.size, 2, none⟩) (by first | omega | (simp; done) | (simp; omega))).trans (by first | (go_simp; done) | (go_simp; exact set_same (u := .int .i64 0) (by go_simp; done))), (hb5.cell (p := ⟨w.heap.size, 3, none⟩) (by first | omega | (simp; done) | (simp; omega))).trans (by first | (go_simp; done) | (go_simp; exact set_same (u := .int .i64 0) (by go_simp; done))), (hb5.cell (p := ⟨w.heap.size, 4, none⟩) (by first | omega | (simp; done) | (simp; omega))).trans (by first | (go_simp; done) | (go_simp; exact set_same (u := .int .i64 0) (by go_simp; done))), (hb5.cell (p := ⟨pb, po + k * 3, none⟩) (by first | omega | (simp; done) | (simp; omega))).trans (by first | (go_simp; done) | (go_simp; exact set_same (u := .int .i64 0) (by go_simp; done))), (hb5.cell (p := ⟨pb, po + k * 3 + 1, none⟩) (by first | omega | (simp; done) | (simp; omega))).trans (by first | (go_simp; done) | (go_simp; exact set_same (u := .int .i64 0) (by go_simp; done))), (hb5.cell (p := ⟨v3.heap.size, 0, none⟩) (by first | omega | (simp; done) | (simp; omega))).trans (by first | (go_simp; done) | (go_simp; exact set_same (u := .int .i64 0) (by go_simp; done))), (hb5.cell (p := ⟨v3.heap.size, 1, none⟩) (by first | omega | (simp; done) | (simp; omega))).trans (by first | (go_simp; done) | (go_simp; exact set_same (u := .int .i64 0) (by go_simp; done)))⟩
        have q5_0 : w.heap.size < v5.heap.size := by first | omega | (simp at *; omega)
        have q5_1 : pb < v5.heap.size := by first | omega | (simp at *; omega)
        have q5_2 : v3.heap.size < v5.heap.size := by first | omega | (simp at *; omega)
        have HB5 := Lib.hid hB5_0
        have y5 := hB5_0.size
        clear hb5 hB5_0 g4_0 g4_1 g4_2 g4_3 g4_4 g4_5 g4_6 g4_7 g4_8 q4_0 q4_1 q4_2
        have HO5 := Lib.hid (fun W (h : Below v5.heap.size v5 W) => hK5 W (KeepsUp.below h))
        clear hK5
        go_wp2_with fail
        refine (lawStrips_any (f.high k h) ga5 sl gc5 ha5 pl hc5 ia5 cl ic5 (hok _ (by omega) (by omega)) _ (HO5.out _ (by repeat (first | exact Below.refl _ _ | (refine Below.alloc ?_ (by first | omega | (simp; omega) | simp) _) | (refine Below.setCell ?_ (by first | omega | (simp; omega) | simp) _) | refine Below.drew ?_)))).mono ?_
        rintro e v6 ⟨rfl, hb6⟩
        have hB6_0 : Below W0.heap.size W0 v6 := below_via (Lib.hid hb6) (by first | omega | (simp; done) | (simp; omega)) (by repeat (first | exact Below.refl _ _ | with_reducible exact HB5.out | (refine Below.alloc ?_ (by first | omega | (simp; omega) | simp) _) | (refine Below.setCell ?_ (by first | omega | (simp; omega) | simp) _) | refine Below.drew ?_))
        have hB6_1 : Below v5.heap.size v5 v6 := below_via (Lib.hid hb6) (by first | omega | (simp; done) | (simp; omega)) (by repeat (first | exact Below.refl _ _ | (refine Below.alloc ?_ (by first | omega | (simp; omega) | simp) _) | (refine Below.setCell ?_ (by first | omega | (simp; omega) | simp) _) | refine Below.drew ?_))
        have z6 := hb6.size
        (try simp at z6)
        obtain ⟨g6_0, g6_1, g6_2, g6_3, g6_4, g6_5, g6_6, g6_7, g6_8⟩ : v6.cell? ⟨w.heap.size, 0, none⟩ = some (.int .i64 f.len) ∧ v6.cell? ⟨w.heap.size, 1, none⟩ = some (.int .i64 f.slack) ∧ v6.cell? ⟨w.heap.size, 2, none⟩ = some (.slice sa sl sc) ∧ v6.cell? ⟨w.heap.size, 3, none⟩ = some (.slice (some ⟨pb, po, none⟩) pl pc) ∧ v6.cell? ⟨w.heap.size, 4, none⟩ = some (.slice ca cl cc) ∧ v6.cell? ⟨pb, po + k * 3, none⟩ = some (.int .i64 lo) ∧ v6.cell? ⟨pb, po + k * 3 + 1, none⟩ = some (.int .i64 hi) ∧ v6.cell? ⟨v3.heap.size, 0, none⟩ = some (.int .i64 lo) ∧ v6.cell? ⟨v3.heap.size, 1, none⟩ = some (.int .i64 hi) :=
          ⟨(hb6.cell (p := ⟨w.heap.size, 0, none⟩) (by first | omega | (simp; done) | (simp; omega))).trans (by first | (go_simp; done) | (go_simp; exact set_same (u := .int .i64 0) (by go_simp; done))), (hb6.cell (p := ⟨w.heap.size, 1, none⟩) (by first | omega | (simp; done) | (simp; omega))).trans (by first | (go_simp; done) | (go_simp; exact set_same (u := .int .i64 0) (by go_simp; done))), (hb6.cell (p := ⟨w.heap.size, 2, none⟩) (by first | omega | (simp; done) | (simp; omega))).trans (by first | (go_simp; done) | (go_simp; exact set_same (u := .int .i64 0) (by go_simp; done))), (hb6.cell (p := ⟨w.heap.size, 3, none⟩) (by first | omega | (simp; done) | (simp; omega))).trans (by first | (go_simp; done) | (go_simp; exact set_same (u := .int .i64 0) (by go_simp; done))), (hb6.cell (p := ⟨w.heap.size, 4, none⟩) (by first | omega | (simp; done) | (simp; omega))).trans (by first | (go_simp; done) | (go_simp; exact set_same (u := .int .i64 0) (by go_simp; done))), (hb6.cell (p := ⟨pb, po + k * 3, none⟩) (by first | omega | (simp; done) | (simp; omega))).trans (by first | (go_simp; done) | (go_simp; exact set_same (u := .int .i64 0) (by go_simp; done))), (hb6.cell (p := ⟨pb, po + k * 3 + 1, none⟩) (by first | omega | (simp; done) | (simp; omega))).trans (by first | (go_simp; done) | (go_simp; exact set_same (u := .int .i64 0) (by go_simp; done))), (hb6.cell (p := ⟨v3.heap.size, 0, none⟩) (by first | omega | (simp; done) | (simp; omega))).trans (by first | (go_simp; done) | (go_simp; exact set_same (u := .int .i64 0) (by go_simp; done))), (hb6.cell (p := ⟨v3.heap.size, 1, none⟩) (by first | omega | (simp; done) | (simp; omega))).trans (by first | (go_simp; done) | (go_simp; exact set_same (u := .int .i64 0) (by go_simp; done)))⟩
        have q6_0 : w.heap.size < v6.heap.size := by first | omega | (simp at *; omega)
        have q6_1 : pb < v6.heap.size := by first | omega | (simp at *; omega)
        have q6_2 : v3.heap.size < v6.heap.size := by first | omega | (simp at *; omega)
        have HB6 := Lib.hid hB6_0
        have HC5_6 := Lib.hid hB6_1
        have y6 := hB6_0.size
        clear hb6 hB6_0 hB6_1 g5_0 g5_1 g5_2 g5_3 g5_4 g5_5 g5_6 g5_7 g5_8 q5_0 q5_1 q5_2
        rw [hG]
        go_wp2_with fail
        refine (HGN.out (h + 1) _ (HBW.out.trans (Below.mono (by repeat (first | exact Below.refl _ _ | with_reducible exact HB6.out | (refine Below.alloc ?_ (by first | omega | (simp; omega) | simp) _) | (refine Below.setCell ?_ (by first | omega | (simp; omega) | simp) _) | refine Below.drew ?_)) HBW.out.size))).mono ?_
        rintro e v7 ⟨⟨ga7, gc7, ha7, hc7, ia7, ic7, rfl, hK7⟩, hb7⟩
        have hB7_0 : Below W0.heap.size W0 v7 := below_via (Lib.hid hb7) (by first | omega | (simp; done) | (simp; omega)) (by repeat (first | exact Below.refl _ _ | with_reducible exact HB6.out | (refine Below.alloc ?_ (by first | omega | (simp; omega) | simp) _) | (refine Below.setCell ?_ (by first | omega | (simp; omega) | simp) _) | refine Below.drew ?_))
        have hB7_1 : Below v5.heap.size v5 v7 := below_via (Lib.hid hb7) (by first | omega | (simp; done) | (simp; omega)) (by repeat (first | exact Below.refl _ _ | with_reducible exact HC5_6.out | (refine Below.alloc ?_ (by first | omega | (simp; omega) | simp) _) | (refine Below.setCell ?_ (by first | omega | (simp; omega) | simp) _) | refine Below.drew ?_))
        have z7 := hb7.size
        (try simp at z7)
        obtain ⟨g7_0, g7_1, g7_2, g7_3, g7_4, g7_5, g7_6, g7_7, g7_8⟩ : v7.cell? ⟨w.heap.size, 0, none⟩ = some (.int .i64 f.len) ∧ v7.cell? ⟨w.heap.size, 1, none⟩ = some (.int .i64 f.slack) ∧ v7.cell? ⟨w.heap.size, 2, none⟩ = some (.slice sa sl sc) ∧ v7.cell? ⟨w.heap.size, 3, none⟩ = some (.slice (some ⟨pb, po, none⟩) pl pc) ∧ v7.cell? ⟨w.heap.size, 4, none⟩ = some (.slice ca cl cc) ∧ v7.cell? ⟨pb, po + k * 3, none⟩ = some (.int .i64 lo) ∧ v7.cell? ⟨pb, po + k * 3 + 1, none⟩ = some (.int .i64 hi) ∧ v7.cell? ⟨v3.heap.size, 0, none⟩ = some (.int .i64 lo) ∧ v7.cell? ⟨v3.heap.size, 1, none⟩ = some (.int .i64 hi) :=
          ⟨(hb7.cell (p := ⟨w.heap.size, 0, none⟩) (by first | omega | (simp; done) | (simp; omega))).trans (by first | (go_simp; done) | (go_simp; exact set_same (u := .int .i64 0) (by go_simp; done))), (hb7.cell (p := ⟨w.heap.size, 1, none⟩) (by first | omega | (simp; done) | (simp; omega))).trans (by first | (go_simp; done) | (go_simp; exact set_same (u := .int .i64 0) (by go_simp; done))), (hb7.cell (p := ⟨w.heap.size, 2, none⟩) (by first | omega | (simp; done) | (simp; omega))).trans (by first | (go_simp; done) | (go_simp; exact set_same (u := .int .i64 0) (by go_simp; done))), (hb7.cell (p := ⟨w.heap.size, 3, none⟩) (by first | omega | (simp; done) | (simp; omega))).trans (by first | (go_simp; done) | (go_simp; exact set_same (u := .int .i64 0) (by go_simp; done))), (hb7.cell (p := ⟨w.heap.size, 4, none⟩) (by first | omega | (simp; done) | (simp; omega))).trans (by first | (go_simp; done) | (go_simp; exact set_same (u := .int .i64 0) (by go_simp; done))), (hb7.cell (p := ⟨pb, po + k * 3, none⟩) (by first | omega | (simp; done) | (simp; omega))).trans (by first | (go_simp; done) | (go_simp; exact set_same (u := .int .i64 0) (by go_simp; done))), (hb7.cell (p := ⟨pb, po + k * 3 + 1, none⟩) (by first | omega | (simp; done) | (simp; omega))).trans (by first | (go_simp; done) | (go_simp; exact set_same (u := .int .i64 0) (by go_simp; done))), (hb7.cell (p := ⟨v3.heap.size, 0, none⟩) (by first | omega | (simp; done) | (simp; omega))).trans (by first | (go_simp; done) | (go_simp; exact set_same (u := .int .i64 0) (by go_simp; done))), (hb7.cell (p := ⟨v3.heap.size, 1, none⟩) (by first | omega | (simp; done) | (simp; omega))).trans (by first | (go_simp; done) | (go_simp; exact set_same (u := .int .i64 0) (by go_simp; done)))⟩
        have q7_0 : w.heap.size < v7.heap.size := by first | omega | (simp at *; omega)
        have q7_1 : pb < v7.heap.size := by first | omega | (simp at *; omega)
        have q7_2 : v3.heap.size < v7.heap.size := by first | omega | (simp at *; omega)
        have HB7 := Lib.hid hB7_0
        have HC5_7 := Lib.hid hB7_1
        have y7 := hB7_0.size
        clear hb7 hB7_0 hB7_1 g6_0 g6_1 g6_2 g6_3 g6_4 g6_5 g6_6 g6_7 g6_8 q6_0 q6_1 q6_2
        have HO7 := Lib.hid (fun W (h : Below v7.heap.size v7 W) => hK7 W (KeepsUp.below h))
        clear hK7
        go_wp2_with fail
        refine (lawStrips_any (f.high k (h + 1)) ga7 sl gc7 ha7 pl hc7 ia7 cl ic7 (hok _ (by omega) (by omega)) _ (HO7.out _ (by repeat (first | exact Below.refl _ _ | (refine Below.alloc ?_ (by first | omega | (simp; omega) | simp) _) | (refine Below.setCell ?_ (by first | omega | (simp; omega) | simp) _) | refine Below.drew ?_)))).mono ?_
        rintro e v8 ⟨rfl, hb8⟩
        have hB8_0 : Below W0.heap.size W0 v8 := below_via (Lib.hid hb8) (by first | omega | (simp; done) | (simp; omega)) (by repeat (first | exact Below.refl _ _ | with_reducible exact HB7.out | (refine Below.alloc ?_ (by first | omega | (simp; omega) | simp) _) | (refine Below.setCell ?_ (by first | omega | (simp; omega) | simp) _) | refine Below.drew ?_))
        have hB8_1 : Below v5.heap.size v5 v8 := below_via (Lib.hid hb8) (by first | omega | (simp; done) | (simp; omega)) (by repeat (first | exact Below.refl _ _ | with_reducible exact HC5_7.out | (refine Below.alloc ?_ (by first | omega | (simp; omega) | simp) _) | (refine Below.setCell ?_ (by first | omega | (simp; omega) | simp) _) | refine Below.drew ?_))
        have hB8_2 : Below v7.heap.size v7 v8 := below_via (Lib.hid hb8) (by first | omega | (simp; done) | (simp; omega)) (by repeat (first | exact Below.refl _ _ | (refine Below.alloc ?_ (by first | omega | (simp; omega) | simp) _) | (refine Below.setCell ?_ (by first | omega | (simp; omega) | simp) _) | refine Below.drew ?_))
        have z8 := hb8.size
        (try simp at z8)
        obtain ⟨g8_0, g8_1, g8_2, g8_3, g8_4, g8_5, g8_6, g8_7, g8_8⟩ : v8.cell? ⟨w.heap.size, 0, none⟩ = some (.int .i64 f.len) ∧ v8.cell? ⟨w.heap.size, 1, none⟩ = some (.int .i64 f.slack) ∧ v8.cell? ⟨w.heap.size, 2, none⟩ = some (.slice sa sl sc) ∧ v8.cell? ⟨w.heap.size, 3, none⟩ = some (.slice (some ⟨pb, po, none⟩) pl pc) ∧ v8.cell? ⟨w.heap.size, 4, none⟩ = some (.slice ca cl cc) ∧ v8.cell? ⟨pb, po + k * 3, none⟩ = some (.int .i64 lo) ∧ v8.cell? ⟨pb, po + k * 3 + 1, none⟩ = some (.int .i64 hi) ∧ v8.cell? ⟨v3.heap.size, 0, none⟩ = some (.int .i64 lo) ∧ v8.cell? ⟨v3.heap.size, 1, none⟩ = some (.int .i64 hi) :=
          ⟨(hb8.cell (p := ⟨w.heap.size, 0, none⟩) (by first | omega | (simp; done) | (simp; omega))).trans (by first | (go_simp; done) | (go_simp; exact set_same (u := .int .i64 0) (by go_simp; done))), (hb8.cell (p := ⟨w.heap.size, 1, none⟩) (by first | omega | (simp; done) | (simp; omega))).trans (by first | (go_simp; done) | (go_simp; exact set_same (u := .int .i64 0) (by go_simp; done))), (hb8.cell (p := ⟨w.heap.size, 2, none⟩) (by first | omega | (simp; done) | (simp; omega))).trans (by first | (go_simp; done) | (go_simp; exact set_same (u := .int .i64 0) (by go_simp; done))), (hb8.cell (p := ⟨w.heap.size, 3, none⟩) (by first | omega | (simp; done) | (simp; omega))).trans (by first | (go_simp; done) | (go_simp; exact set_same (u := .int .i64 0) (by go_simp; done))), (hb8.cell (p := ⟨w.heap.size, 4, none⟩) (by first | omega | (simp; done) | (simp; omega))).trans (by first | (go_simp; done) | (go_simp; exact set_same (u := .int .i64 0) (by go_simp; done))), (hb8.cell (p := ⟨pb, po + k * 3, none⟩) (by first | omega | (simp; done) | (simp; omega))).trans (by first | (go_simp; done) | (go_simp; exact set_same (u := .int .i64 0) (by go_simp; done))), (hb8.cell (p := ⟨pb, po + k * 3 + 1, none⟩) (by first | omega | (simp; done) | (simp; omega))).trans (by first | (go_simp; done) | (go_simp; exact set_same (u := .int .i64 0) (by go_simp; done))), (hb8.cell (p := ⟨v3.heap.size, 0, none⟩) (by first | omega | (simp; done) | (simp; omega))).trans (by first | (go_simp; done) | (go_simp; exact set_same (u := .int .i64 0) (by go_simp; done))), (hb8.cell (p := ⟨v3.heap.size, 1, none⟩) (by first | omega | (simp; done) | (simp; omega))).trans (by first | (go_simp; done) | (go_simp; exact set_same (u := .int .i64 0) (by go_simp; done)))⟩
        have q8_0 : w.heap.size < v8.heap.size := by first | omega | (simp at *; omega)
        have q8_1 : pb < v8.heap.size := by first | omega | (simp at *; omega)
        have q8_2 : v3.heap.size < v8.heap.size := by first | omega | (simp at *; omega)
        have HB8 := Lib.hid hB8_0
        have HC5_8 := Lib.hid hB8_1
        have HC7_8 := Lib.hid hB8_2
        have y8 := hB8_0.size
        clear hb8 hB8_0 hB8_1 hB8_2 g7_0 g7_1 g7_2 g7_3 g7_4 g7_5 g7_6 g7_7 g7_8 q7_0 q7_1 q7_2
        rw [g6 (by omega)]
        go_wp2_with fail
        refine (HK.out _).mono ?_
        rintro e v9 ⟨rfl, hb9⟩
        have hB9_0 : Below W0.heap.size W0 v9 := below_via (Lib.hid hb9) (by first | omega | (simp; done) | (simp; omega)) (by repeat (first | exact Below.refl _ _ | with_reducible exact HB8.out | (refine Below.alloc ?_ (by first | omega | (simp; omega) | simp) _) | (refine Below.setCell ?_ (by first | omega | (simp; omega) | simp) _) | refine Below.drew ?_))
        have hB9_1 : Below v5.heap.size v5 v9 := below_via (Lib.hid hb9) (by first | omega | (simp; done) | (simp; omega)) (by repeat (first | exact Below.refl _ _ | with_reducible exact HC5_8.out | (refine Below.alloc ?_ (by first | omega | (simp; omega) | simp) _) | (refine Below.setCell ?_ (by first | omega | (simp; omega) | simp) _) | refine Below.drew ?_))
        have hB9_2 : Below v7.heap.size v7 v9 := below_via (Lib.hid hb9) (by first | omega | (simp; done) | (simp; omega)) (by repeat (first | exact Below.refl _ _ | with_reducible exact HC7_8.out | (refine Below.alloc ?_ (by first | omega | (simp; omega) | simp) _) | (refine Below.setCell ?_ (by first | omega | (simp; omega) | simp) _) | refine Below.drew ?_))
        have z9 := hb9.size
        (try simp at z9)
        have HB9 := Lib.hid hB9_0
        have HC5_9 := Lib.hid hB9_1
        have HC7_9 := Lib.hid hB9_2
        have y9 := hB9_0.size
        clear hb9 hB9_0 hB9_1 hB9_2 g8_0 g8_1 g8_2 g8_3 g8_4 g8_5 g8_6 g8_7 g8_8 q8_0 q8_1 q8_2
        go_wp2_with fail
        go_ret
        exact ⟨rfl, HBW.out.trans (Below.mono (by repeat (first | exact Below.refl _ _ | with_reducible exact HB9.out | (refine Below.alloc ?_ (by first | omega | (simp; omega) | simp) _) | (refine Below.setCell ?_ (by first | omega | (simp; omega) | simp) _) | refine Below.drew ?_)) HBW.out.size)⟩
    · skip
      by_cases h9 : h = 99
      · have h9' : (h == 99) = true := by simp; exact h9
        clear h9 g6
        go_enter Try.func16, Try.ntmps16
        go_wp2_with fail
        obtain ⟨W0, hW0, hB0, ⟨g0_0, g0_1, g0_2, g0_3, g0_4⟩, hz0⟩ : ∃ W0, (w.alloc (.cells #[.int .i64 f.len, .int .i64 f.slack, .slice sa sl sc, .slice (some ⟨pb, po, none⟩) pl pc, .slice ca cl cc] 26)) = W0 ∧ Below w.heap.size w W0 ∧ (W0.cell? ⟨w.heap.size, 0, none⟩ = some (.int .i64 f.len) ∧ W0.cell? ⟨w.heap.size, 1, none⟩ = some (.int .i64 f.slack) ∧ W0.cell? ⟨w.heap.size, 2, none⟩ = some (.slice sa sl sc) ∧ W0.cell? ⟨w.heap.size, 3, none⟩ = some (.slice (some ⟨pb, po, none⟩) pl pc) ∧ W0.cell? ⟨w.heap.size, 4, none⟩ = some (.slice ca cl cc)) ∧ W0.heap.size = w.heap.size + 1 :=
          ⟨_, rfl, (by repeat (first | exact Below.refl _ _ | (refine Below.alloc ?_ (by first | omega | (simp; omega) | simp) _) | (refine Below.setCell ?_ (by first | omega | (simp; omega) | simp) _) | refine Below.drew ?_)), ⟨by go_simp, by go_simp, by go_simp, by go_simp, by go_simp⟩, by simp⟩
        rw [hW0]
        clear hW0
        have HBW := Lib.hid hB0
        have q0_0 : w.heap.size < W0.heap.size := by omega
        clear hB0 hz0
        have g0_5 : W0.cell? ⟨pb, po + k * 3, none⟩ = some (.int .i64 lo) := (HBW.out.cell (p := ⟨pb, po + k * 3, none⟩) hpb).trans hc0
        have g0_6 : W0.cell? ⟨pb, po + k * 3 + 1, none⟩ = some (.int .i64 hi) := (HBW.out.cell (p := ⟨pb, po + k * 3 + 1, none⟩) hpb).trans hc1
        have q0_1 : pb < W0.heap.size := Nat.lt_of_lt_of_le hpb HBW.out.size
        go_wp2_with fail
        refine (HR1.out _ (HBW.out.trans (Below.mono (by repeat (first | exact Below.refl _ _ | (refine Below.alloc ?_ (by first | omega | (simp; omega) | simp) _) | (refine Below.setCell ?_ (by first | omega | (simp; omega) | simp) _) | refine Below.drew ?_)) HBW.out.size))).mono ?_
        rintro e v1 ⟨rfl, hb1⟩
        have hB1_0 : Below W0.heap.size W0 v1 := below_via (Lib.hid hb1) (by first | omega | (simp; done) | (simp; omega)) (by repeat (first | exact Below.refl _ _ | (refine Below.alloc ?_ (by first | omega | (simp; omega) | simp) _) | (refine Below.setCell ?_ (by first | omega | (simp; omega) | simp) _) | refine Below.drew ?_))
        have z1 := hb1.size
        (try simp at z1)
        obtain ⟨g1_0, g1_1, g1_2, g1_3, g1_4, g1_5, g1_6⟩ : v1.cell? ⟨w.heap.size, 0, none⟩ = some (.int .i64 f.len) ∧ v1.cell? ⟨w.heap.size, 1, none⟩ = some (.int .i64 f.slack) ∧ v1.cell? ⟨w.heap.size, 2, none⟩ = some (.slice sa sl sc) ∧ v1.cell? ⟨w.heap.size, 3, none⟩ = some (.slice (some ⟨pb, po, none⟩) pl pc) ∧ v1.cell? ⟨w.heap.size, 4, none⟩ = some (.slice ca cl cc) ∧ v1.cell? ⟨pb, po + k * 3, none⟩ = some (.int .i64 lo) ∧ v1.cell? ⟨pb, po + k * 3 + 1, none⟩ = some (.int .i64 hi) :=
          ⟨(hb1.cell (p := ⟨w.heap.size, 0, none⟩) (by first | omega | (simp; done) | (simp; omega))).trans (by first | (go_simp; done) | (go_simp; exact set_same (u := .int .i64 0) (by go_simp; done))), (hb1.cell (p := ⟨w.heap.size, 1, none⟩) (by first | omega | (simp; done) | (simp; omega))).trans (by first | (go_simp; done) | (go_simp; exact set_same (u := .int .i64 0) (by go_simp; done))), (hb1.cell (p := ⟨w.heap.size, 2, none⟩) (by first | omega | (simp; done) | (simp; omega))).trans (by first | (go_simp; done) | (go_simp; exact set_same (u := .int .i64 0) (by go_simp; done))), (hb1.cell (p := ⟨w.heap.size, 3, none⟩) (by first | omega | (simp; done) | (simp; omega))).trans (by first | (go_simp; done) | (go_simp; exact set_same (u := .int .i64 0) (by go_simp; done))), (hb1.cell (p := ⟨w.heap.size, 4, none⟩) (by first | omega | (simp; done) | (simp; omega))).trans (by first | (go_simp; done) | (go_simp; exact set_same (u := .int .i64 0) (by go_simp; done))), (hb1.cell (p := ⟨pb, po + k * 3, none⟩) (by first | omega | (simp; done) | (simp; omega))).trans (by first | (go_simp; done) | (go_simp; exact set_same (u := .int .i64 0) (by go_simp; done))), (hb1.cell (p := ⟨pb, po + k * 3 + 1, none⟩) (by first | omega | (simp; done) | (simp; omega))).trans (by first | (go_simp; done) | (go_simp; exact set_same (u := .int .i64 0) (by go_simp; done)))⟩
        have q1_0 : w.heap.size < v1.heap.size := by first | omega | (simp at *; omega)
        have q1_1 : pb < v1.heap.size := by first | omega | (simp at *; omega)
        have HB1 := Lib.hid hB1_0
        have y1 := hB1_0.size
        clear hb1 hB1_0 g0_0 g0_1 g0_2 g0_3 g0_4 g0_5 g0_6 q0_0 q0_1
        go_wp2_with fail
        refine (HI1.out _).mono ?_
        rintro e v2 ⟨rfl, hb2⟩
        have hB2_0 : Below W0.heap.size W0 v2 := below_via (Lib.hid hb2) (by first | omega | (simp; done) | (simp; omega)) (by repeat (first | exact Below.refl _ _ | with_reducible exact HB1.out | (refine Below.alloc ?_ (by first | omega | (simp; omega) | simp) _) | (refine Below.setCell ?_ (by first | omega | (simp; omega) | simp) _) | refine Below.drew ?_))
        have z2 := hb2.size
        (try simp at z2)
        obtain ⟨g2_0, g2_1, g2_2, g2_3, g2_4, g2_5, g2_6⟩ : v2.cell? ⟨w.heap.size, 0, none⟩ = some (.int .i64 f.len) ∧ v2.cell? ⟨w.heap.size, 1, none⟩ = some (.int .i64 f.slack) ∧ v2.cell? ⟨w.heap.size, 2, none⟩ = some (.slice sa sl sc) ∧ v2.cell? ⟨w.heap.size, 3, none⟩ = some (.slice (some ⟨pb, po, none⟩) pl pc) ∧ v2.cell? ⟨w.heap.size, 4, none⟩ = some (.slice ca cl cc) ∧ v2.cell? ⟨pb, po + k * 3, none⟩ = some (.int .i64 lo) ∧ v2.cell? ⟨pb, po + k * 3 + 1, none⟩ = some (.int .i64 hi) :=
          ⟨(hb2.cell (p := ⟨w.heap.size, 0, none⟩) (by first | omega | (simp; done) | (simp; omega))).trans (by first | (go_simp; done) | (go_simp; exact set_same (u := .int .i64 0) (by go_simp; done))), (hb2.cell (p := ⟨w.heap.size, 1, none⟩) (by first | omega | (simp; done) | (simp; omega))).trans (by first | (go_simp; done) | (go_simp; exact set_same (u := .int .i64 0) (by go_simp; done))), (hb2.cell (p := ⟨w.heap.size, 2, none⟩) (by first | omega | (simp; done) | (simp; omega))).trans (by first | (go_simp; done) | (go_simp; exact set_same (u := .int .i64 0) (by go_simp; done))), (hb2.cell (p := ⟨w.heap.size, 3, none⟩) (by first | omega | (simp; done) | (simp; omega))).trans (by first | (go_simp; done) | (go_simp; exact set_same (u := .int .i64 0) (by go_simp; done))), (hb2.cell (p := ⟨w.heap.size, 4, none⟩) (by first | omega | (simp; done) | (simp; omega))).trans (by first | (go_simp; done) | (go_simp; exact set_same (u := .int .i64 0) (by go_simp; done))), (hb2.cell (p := ⟨pb, po + k * 3, none⟩) (by first | omega | (simp; done) | (simp; omega))).trans (by first | (go_simp; done) | (go_simp; exact set_same (u := .int .i64 0) (by go_simp; done))), (hb2.cell (p := ⟨pb, po + k * 3 + 1, none⟩) (by first | omega | (simp; done) | (simp; omega))).trans (by first | (go_simp; done) | (go_simp; exact set_same (u := .int .i64 0) (by go_simp; done)))⟩
        have q2_0 : w.heap.size < v2.heap.size := by first | omega | (simp at *; omega)
        have q2_1 : pb < v2.heap.size := by first | omega | (simp at *; omega)
        have HB2 := Lib.hid hB2_0
        have y2 := hB2_0.size
        clear hb2 hB2_0 g1_0 g1_1 g1_2 g1_3 g1_4 g1_5 g1_6 q1_0 q1_1
        go_wp2_with fail
        refine (HG.out _ (HBW.out.trans (Below.mono (by repeat (first | exact Below.refl _ _ | with_reducible exact HB2.out | (refine Below.alloc ?_ (by first | omega | (simp; omega) | simp) _) | (refine Below.setCell ?_ (by first | omega | (simp; omega) | simp) _) | refine Below.drew ?_)) HBW.out.size))).mono ?_
        rintro e v3 ⟨rfl, hb3⟩
        have hB3_0 : Below W0.heap.size W0 v3 := below_via (Lib.hid hb3) (by first | omega | (simp; done) | (simp; omega)) (by repeat (first | exact Below.refl _ _ | with_reducible exact HB2.out | (refine Below.alloc ?_ (by first | omega | (simp; omega) | simp) _) | (refine Below.setCell ?_ (by first | omega | (simp; omega) | simp) _) | refine Below.drew ?_))
        have z3 := hb3.size
        (try simp at z3)
        obtain ⟨g3_0, g3_1, g3_2, g3_3, g3_4, g3_5, g3_6⟩ : v3.cell? ⟨w.heap.size, 0, none⟩ = some (.int .i64 f.len) ∧ v3.cell? ⟨w.heap.size, 1, none⟩ = some (.int .i64 f.slack) ∧ v3.cell? ⟨w.heap.size, 2, none⟩ = some (.slice sa sl sc) ∧ v3.cell? ⟨w.heap.size, 3, none⟩ = some (.slice (some ⟨pb, po, none⟩) pl pc) ∧ v3.cell? ⟨w.heap.size, 4, none⟩ = some (.slice ca cl cc) ∧ v3.cell? ⟨pb, po + k * 3, none⟩ = some (.int .i64 lo) ∧ v3.cell? ⟨pb, po + k * 3 + 1, none⟩ = some (.int .i64 hi) :=
          ⟨(hb3.cell (p := ⟨w.heap.size, 0, none⟩) (by first | omega | (simp; done) | (simp; omega))).trans (by first | (go_simp; done) | (go_simp; exact set_same (u := .int .i64 0) (by go_simp; done))), (hb3.cell (p := ⟨w.heap.size, 1, none⟩) (by first | omega | (simp; done) | (simp; omega))).trans (by first | (go_simp; done) | (go_simp; exact set_same (u := .int .i64 0) (by go_simp; done))), (hb3.cell (p := ⟨w.heap.size, 2, none⟩) (by first | omega | (simp; done) | (simp; omega))).trans (by first | (go_simp; done) | (go_simp; exact set_same (u := .int .i64 0) (by go_simp; done))), (hb3.cell (p := ⟨w.heap.size, 3, none⟩) (by first | omega | (simp; done) | (simp; omega))).trans (by first | (go_simp; done) | (go_simp; exact set_same (u := .int .i64 0) (by go_simp; done))), (hb3.cell (p := ⟨w.heap.size, 4, none⟩) (by first | omega | (simp; done) | (simp; omega))).trans (by first | (go_simp; done) | (go_simp; exact set_same (u := .int .i64 0) (by go_simp; done))), (hb3.cell (p := ⟨pb, po + k * 3, none⟩) (by first | omega | (simp; done) | (simp; omega))).trans (by first | (go_simp; done) | (go_simp; exact set_same (u := .int .i64 0) (by go_simp; done))), (hb3.cell (p := ⟨pb, po + k * 3 + 1, none⟩) (by first | omega | (simp; done) | (simp; omega))).trans (by first | (go_simp; done) | (go_simp; exact set_same (u := .int .i64 0) (by go_simp; done)))⟩
        have q3_0 : w.heap.size < v3.heap.size := by first | omega | (simp at *; omega)
        have q3_1 : pb < v3.heap.size := by first | omega | (simp at *; omega)
        have HB3 := Lib.hid hB3_0
        have y3 := hB3_0.size
        clear hb3 hB3_0 g2_0 g2_1 g2_2 g2_3 g2_4 g2_5 g2_6 q2_0 q2_1
        go_wp2_with fail
        refine (HS.out _ (HBW.out.trans (Below.mono (by repeat (first | exact Below.refl _ _ | with_reducible exact HB3.out | (refine Below.alloc ?_ (by first | omega | (simp; omega) | simp) _) | (refine Below.setCell ?_ (by first | omega | (simp; omega) | simp) _) | refine Below.drew ?_)) HBW.out.size))).mono ?_
        rintro e v4 ⟨rfl, hb4⟩
        have hB4_0 : Below W0.heap.size W0 v4 := below_via (Lib.hid hb4) (by first | omega | (simp; done) | (simp; omega)) (by repeat (first | exact Below.refl _ _ | with_reducible exact HB3.out | (refine Below.alloc ?_ (by first | omega | (simp; omega) | simp) _) | (refine Below.setCell ?_ (by first | omega | (simp; omega) | simp) _) | refine Below.drew ?_))
        have z4 := hb4.size
        (try simp at z4)
        obtain ⟨g4_0, g4_1, g4_2, g4_3, g4_4, g4_5, g4_6, g4_7, g4_8⟩ : v4.cell? ⟨w.heap.size, 0, none⟩ = some (.int .i64 f.len) ∧ v4.cell? ⟨w.heap.size, 1, none⟩ = some (.int .i64 f.slack) ∧ v4.cell? ⟨w.heap.size, 2, none⟩ = some (.slice sa sl sc) ∧ v4.cell? ⟨w.heap.size, 3, none⟩ = some (.slice (some ⟨pb, po, none⟩) pl pc) ∧ v4.cell? ⟨w.heap.size, 4, none⟩ = some (.slice ca cl cc) ∧ v4.cell? ⟨pb, po + k * 3, none⟩ = some (.int .i64 lo) ∧ v4.cell? ⟨pb, po + k * 3 + 1, none⟩ = some (.int .i64 hi) ∧ v4.cell? ⟨v3.heap.size, 0, none⟩ = some (.int .i64 lo) ∧ v4.cell? ⟨v3.heap.size, 1, none⟩ = some (.int .i64 hi) :=
          ⟨(hb4.cell (p := ⟨w.heap.size, 0, none⟩) (by first | omega | (simp; done) | (simp; omega))).trans (by first | (go_simp; done) | (go_simp; exact set_same (u := .int .i64 0) (by go_simp; done))), (hb4.cell (p := ⟨w.heap.size, 1, none⟩) (by first | omega | (simp; done) | (simp; omega))).trans (by first | (go_simp; done) | (go_simp; exact set_same (u := .int .i64 0) (by go_simp; done))), (hb4.cell (p := ⟨w.heap.size, 2, none⟩) (by first | omega | (simp; done) | (simp; omega))).trans (by first | (go_simp; done) | (go_simp; exact set_same (u := .int .i64 0) (by go_simp; done))), (hb4.cell (p := ⟨w.heap.size, 3, none⟩) (by first | omega | (simp; done) | (simp; omega))).trans (by first | (go_simp; done) | (go_simp; exact set_same (u := .int .i64 0) (by go_simp; done))), (hb4.cell (p := ⟨w.heap.size, 4, none⟩) (by first | omega | (simp; done) | (simp; omega))).trans (by first | (go_simp; done) | (go_simp; exact set_same (u := .int .i64 0) (by go_simp; done))), (hb4.cell (p := ⟨pb, po + k * 3, none⟩) (by first | omega | (simp; done) | (simp; omega))).trans (by first | (go_simp; done) | (go_simp; exact set_same (u := .int .i64 0) (by go_simp; done))), (hb4.cell (p := ⟨pb, po + k * 3 + 1, none⟩) (by first | omega | (simp; done) | (simp; omega))).trans (by first | (go_simp; done) | (go_simp; exact set_same (u := .int .i64 0) (by go_simp; done))), (hb4.cell (p := ⟨v3.heap.size, 0, none⟩) (by first | omega | (simp; done) | (simp; omega))).trans (by first | (go_simp; done) | (go_simp; exact set_same (u := .int .i64 0) (by go_simp; done))), (hb4.cell (p := ⟨v3.heap.size, 1, none⟩) (by first | omega | (simp; done) | (simp; omega))).trans (by first | (go_simp; done) | (go_simp; exact set_same (u := .int .i64 0) (by go_simp; done)))⟩
        have q4_0 : w.heap.size < v4.heap.size := by first | omega | (simp at *; omega)
        have q4_1 : pb < v4.heap.size := by first | omega | (simp at *; omega)
        have q4_2 : v3.heap.size < v4.heap.size := by first | omega | (simp at *; omega)
        have HB4 := Lib.hid hB4_0
        have y4 := hB4_0.size
        clear hb4 hB4_0 g3_0 g3_1 g3_2 g3_3 g3_4 g3_5 g3_6 q3_0 q3_1
        go_wp2_with fail
        refine (HN.out _).mono ?_
        rintro e v' ⟨rfl, rfl⟩
        go_wp2_with fail
        refine (HW.out _).mono ?_
        rintro e v' ⟨rfl, rfl⟩
        go_wp2_with fail
        refine (HGN.out h _ (HBW.out.trans (Below.mono (by repeat (first | exact Below.refl _ _ | with_reducible exact HB4.out | (refine Below.alloc ?_ (by first | omega | (simp; omega) | simp) _) | (refine Below.setCell ?_ (by first | omega | (simp; omega) | simp) _) | refine Below.drew ?_)) HBW.out.size))).mono ?_
        rintro e v5 ⟨⟨ga5, gc5, ha5, hc5, ia5, ic5, rfl, hK5⟩, hb5⟩
        have hB5_0 : Below W0.heap.size W0 v5 := below_via (Lib.hid hb5) (by first | omega | (simp; done) | (simp; omega)) (by repeat (first | exact Below.refl _ _ | with_reducible exact HB4.out | (refine Below.alloc ?_ (by first | omega | (simp; omega) | simp) _) | (refine Below.setCell ?_ (by first | omega | (simp; omega) | simp) _) | refine Below.drew ?_))
        have z5 := hb5.size
        (try simp at z5)
        obtain ⟨g5_0, g5_1, g5_2, g5_3, g5_4, g5_5, g5_6, g5_7, g5_8⟩ : v5.cell? ⟨w.heap.size, 0, none⟩ = some (.int .i64 f.len) ∧ v5.cell? ⟨w.heap.size, 1, none⟩ = some (.int .i64 f.slack) ∧ v5.cell? ⟨w.heap.size, 2, none⟩ = some (.slice sa sl sc) ∧ v5.cell? ⟨w.heap.size, 3, none⟩ = some (.slice (some ⟨pb, po, none⟩) pl pc) ∧ v5.cell? ⟨w.heap.size, 4, none⟩ = some (.slice ca cl cc) ∧ v5.cell? ⟨pb, po + k * 3, none⟩ = some (.int .i64 lo) ∧ v5.cell? ⟨pb, po + k * 3 + 1, none⟩ = some (.int .i64 hi) ∧ v5.cell? ⟨v3.heap.size, 0, none⟩ = some (.int .i64 lo) ∧ v5.cell? ⟨v3.heap.size, 1, none⟩ = some (.int .i64 hi) :=
          ⟨(hb5.cell (p := ⟨w.heap.size, 0, none⟩) (by first | omega | (simp; done) | (simp; omega))).trans (by first | (go_simp; done) | (go_simp; exact set_same (u := .int .i64 0) (by go_simp; done))), (hb5.cell (p := ⟨w.heap.size, 1, none⟩) (by first | omega | (simp; done) | (simp; omega))).trans (by first | (go_simp; done) | (go_simp; exact set_same (u := .int .i64 0) (by go_simp; done))), (hb5.cell (p := ⟨w.heap.size, 2, none⟩) (by first | omega | (simp; done) | (simp; omega))).trans (by first | (go_simp; done) | (go_simp; exact set_same (u := .int .i64 0) (by go_simp; done))), (hb5.cell (p := ⟨w.heap.size, 3, none⟩) (by first | omega | (simp; done) | (simp; omega))).trans (by first | (go_simp; done) | (go_simp; exact set_same (u := .int .i64 0) (by go_simp; done))), (hb5.cell (p := ⟨w.heap.size, 4, none⟩) (by first | omega | (simp; done) | (simp; omega))).trans (by first | (go_simp; done) | (go_simp; exact set_same (u := .int .i64 0) (by go_simp; done))), (hb5.cell (p := ⟨pb, po + k * 3, none⟩) (by first | omega | (simp; done) | (simp; omega))).trans (by first | (go_simp; done) | (go_simp; exact set_same (u := .int .i64 0) (by go_simp; done))), (hb5.cell (p := ⟨pb, po + k * 3 + 1, none⟩) (by first | omega | (simp; done) | (simp; omega))).trans (by first | (go_simp; done) | (go_simp; exact set_same (u := .int .i64 0) (by go_simp; done))), (hb5.cell (p := ⟨v3.heap.size, 0, none⟩) (by first | omega | (simp; done) | (simp; omega))).trans (by first | (go_simp; done) | (go_simp; exact set_same (u := .int .i64 0) (by go_simp; done))), (hb5.cell (p := ⟨v3.heap.size, 1, none⟩) (by first | omega | (simp; done) | (simp; omega))).trans (by first | (go_simp; done) | (go_simp; exact set_same (u := .int .i64 0) (by go_simp; done)))⟩
        have q5_0 : w.heap.size < v5.heap.size := by first | omega | (simp at *; omega)
        have q5_1 : pb < v5.heap.size := by first | omega | (simp at *; omega)
        have q5_2 : v3.heap.size < v5.heap.size := by first | omega | (simp at *; omega)
        have HB5 := Lib.hid hB5_0
        have y5 := hB5_0.size
        clear hb5 hB5_0 g4_0 g4_1 g4_2 g4_3 g4_4 g4_5 g4_6 g4_7 g4_8 q4_0 q4_1 q4_2
        have HO5 := Lib.hid (fun W (h : Below v5.heap.size v5 W) => hK5 W (KeepsUp.below h))
        clear hK5
        go_wp2_with fail
        refine (lawStrips_any (f.high k h) ga5 sl gc5 ha5 pl hc5 ia5 cl ic5 (hok _ (by omega) (by omega)) _ (HO5.out _ (by repeat (first | exact Below.refl _ _ | (refine Below.alloc ?_ (by first | omega | (simp; omega) | simp) _) | (refine Below.setCell ?_ (by first | omega | (simp; omega) | simp) _) | refine Below.drew ?_)))).mono ?_
        rintro e v6 ⟨rfl, hb6⟩
        have hB6_0 : Below W0.heap.size W0 v6 := below_via (Lib.hid hb6) (by first | omega | (simp; done) | (simp; omega)) (by repeat (first | exact Below.refl _ _ | with_reducible exact HB5.out | (refine Below.alloc ?_ (by first | omega | (simp; omega) | simp) _) | (refine Below.setCell ?_ (by first | omega | (simp; omega) | simp) _) | refine Below.drew ?_))
        have hB6_1 : Below v5.heap.size v5 v6 := below_via (Lib.hid hb6) (by first | omega | (simp; done) | (simp; omega)) (by repeat (first | exact Below.refl _ _ | (refine Below.alloc ?_ (by first | omega | (simp; omega) | simp) _) | (refine Below.setCell ?_ (by first | omega | (simp; omega) | simp) _) | refine Below.drew ?_))
        have z6 := hb6.size
        (try simp at z6)
        obtain ⟨g6_0, g6_1, g6_2, g6_3, g6_4, g6_5, g6_6, g6_7, g6_8⟩ : v6.cell? ⟨w.heap.size, 0, none⟩ = some (.int .i64 f.len) ∧ v6.cell? ⟨w.heap.size, 1, none⟩ = some (.int .i64 f.slack) ∧ v6.cell? ⟨w.heap.size, 2, none⟩ = some (.slice sa sl sc) ∧ v6.cell? ⟨w.heap.size, 3, none⟩ = some (.slice (some ⟨pb, po, none⟩) pl pc) ∧ v6.cell? ⟨w.heap.size, 4, none⟩ = some (.slice ca cl cc) ∧ v6.cell? ⟨pb, po + k * 3, none⟩ = some (.int .i64 lo) ∧ v6.cell? ⟨pb, po + k * 3 + 1, none⟩ = some (.int .i64 hi) ∧ v6.cell? ⟨v3.heap.size, 0, none⟩ = some (.int .i64 lo) ∧ v6.cell? ⟨v3.heap.size, 1, none⟩ = some (.int .i64 hi) :=
          ⟨(hb6.cell (p := ⟨w.heap.size, 0, none⟩) (by first | omega | (simp; done) | (simp; omega))).trans (by first | (go_simp; done) | (go_simp; exact set_same (u := .int .i64 0) (by go_simp; done))), (hb6.cell (p := ⟨w.heap.size, 1, none⟩) (by first | omega | (simp; done) | (simp; omega))).trans (by first | (go_simp; done) | (go_simp; exact set_same (u := .int .i64 0) (by go_simp; done))), (hb6.cell (p := ⟨w.heap.size, 2, none⟩) (by first | omega | (simp; done) | (simp; omega))).trans (by first | (go_simp; done) | (go_simp; exact set_same (u := .int .i64 0) (by go_simp; done))), (hb6.cell (p := ⟨w.heap.size, 3, none⟩) (by first | omega | (simp; done) | (simp; omega))).trans (by first | (go_simp; done) | (go_simp; exact set_same (u := .int .i64 0) (by go_simp; done))), (hb6.cell (p := ⟨w.heap.size, 4, none⟩) (by first | omega | (simp; done) | (simp; omega))).trans (by first | (go_simp; done) | (go_simp; exact set_same (u := .int .i64 0) (by go_simp; done))), (hb6.cell (p := ⟨pb, po + k * 3, none⟩) (by first | omega | (simp; done) | (simp; omega))).trans (by first | (go_simp; done) | (go_simp; exact set_same (u := .int .i64 0) (by go_simp; done))), (hb6.cell (p := ⟨pb, po + k * 3 + 1, none⟩) (by first | omega | (simp; done) | (simp; omega))).trans (by first | (go_simp; done) | (go_simp; exact set_same (u := .int .i64 0) (by go_simp; done))), (hb6.cell (p := ⟨v3.heap.size, 0, none⟩) (by first | omega | (simp; done) | (simp; omega))).trans (by first | (go_simp; done) | (go_simp; exact set_same (u := .int .i64 0) (by go_simp; done))), (hb6.cell (p := ⟨v3.heap.size, 1, none⟩) (by first | omega | (simp; done) | (simp; omega))).trans (by first | (go_simp; done) | (go_simp; exact set_same (u := .int .i64 0) (by go_simp; done)))⟩
        have q6_0 : w.heap.size < v6.heap.size := by first | omega | (simp at *; omega)
        have q6_1 : pb < v6.heap.size := by first | omega | (simp at *; omega)
        have q6_2 : v3.heap.size < v6.heap.size := by first | omega | (simp at *; omega)
        have HB6 := Lib.hid hB6_0
        have HC5_6 := Lib.hid hB6_1
        have y6 := hB6_0.size
        clear hb6 hB6_0 hB6_1 g5_0 g5_1 g5_2 g5_3 g5_4 g5_5 g5_6 g5_7 g5_8 q5_0 q5_1 q5_2
        rw [hG]
        go_wp2_with fail
        refine (HK.out _).mono ?_
        rintro e v7 ⟨rfl, hb7⟩
        have hB7_0 : Below W0.heap.size W0 v7 := below_via (Lib.hid hb7) (by first | omega | (simp; done) | (simp; omega)) (by repeat (first | exact Below.refl _ _ | with_reducible exact HB6.out | (refine Below.alloc ?_ (by first | omega | (simp; omega) | simp) _) | (refine Below.setCell ?_ (by first | omega | (simp; omega) | simp) _) | refine Below.drew ?_))
        have hB7_1 : Below v5.heap.size v5 v7 := below_via (Lib.hid hb7) (by first | omega | (simp; done) | (simp; omega)) (by repeat (first | exact Below.refl _ _ | with_reducible exact HC5_6.out | (refine Below.alloc ?_ (by first | omega | (simp; omega) | simp) _) | (refine Below.setCell ?_ (by first | omega | (simp; omega) | simp) _) | refine Below.drew ?_))
        have z7 := hb7.size
        (try simp at z7)
        have HB7 := Lib.hid hB7_0
        have HC5_7 := Lib.hid hB7_1
        have y7 := hB7_0.size
        clear hb7 hB7_0 hB7_1 g6_0 g6_1 g6_2 g6_3 g6_4 g6_5 g6_6 g6_7 g6_8 q6_0 q6_1 q6_2
        go_wp2_with fail
        go_ret
        exact ⟨rfl, HBW.out.trans (Below.mono (by repeat (first | exact Below.refl _ _ | with_reducible exact HB7.out | (refine Below.alloc ?_ (by first | omega | (simp; omega) | simp) _) | (refine Below.setCell ?_ (by first | omega | (simp; omega) | simp) _) | refine Below.drew ?_)) HBW.out.size)⟩
      · have h9' : (h == 99) = false := by simp; exact h9
        go_enter Try.func16, Try.ntmps16
        go_wp2_with fail
        obtain ⟨W0, hW0, hB0, ⟨g0_0, g0_1, g0_2, g0_3, g0_4⟩, hz0⟩ : ∃ W0, (w.alloc (.cells #[.int .i64 f.len, .int .i64 f.slack, .slice sa sl sc, .slice (some ⟨pb, po, none⟩) pl pc, .slice ca cl cc] 26)) = W0 ∧ Below w.heap.size w W0 ∧ (W0.cell? ⟨w.heap.size, 0, none⟩ = some (.int .i64 f.len) ∧ W0.cell? ⟨w.heap.size, 1, none⟩ = some (.int .i64 f.slack) ∧ W0.cell? ⟨w.heap.size, 2, none⟩ = some (.slice sa sl sc) ∧ W0.cell? ⟨w.heap.size, 3, none⟩ = some (.slice (some ⟨pb, po, none⟩) pl pc) ∧ W0.cell? ⟨w.heap.size, 4, none⟩ = some (.slice ca cl cc)) ∧ W0.heap.size = w.heap.size + 1 :=
          ⟨_, rfl, (by repeat (first | exact Below.refl _ _ | (refine Below.alloc ?_ (by first | omega | (simp; omega) | simp) _) | (refine Below.setCell ?_ (by first | omega | (simp; omega) | simp) _) | refine Below.drew ?_)), ⟨by go_simp, by go_simp, by go_simp, by go_simp, by go_simp⟩, by simp⟩
        rw [hW0]
        clear hW0
        have HBW := Lib.hid hB0
        have q0_0 : w.heap.size < W0.heap.size := by omega
        clear hB0 hz0
        have g0_5 : W0.cell? ⟨pb, po + k * 3, none⟩ = some (.int .i64 lo) := (HBW.out.cell (p := ⟨pb, po + k * 3, none⟩) hpb).trans hc0
        have g0_6 : W0.cell? ⟨pb, po + k * 3 + 1, none⟩ = some (.int .i64 hi) := (HBW.out.cell (p := ⟨pb, po + k * 3 + 1, none⟩) hpb).trans hc1
        have q0_1 : pb < W0.heap.size := Nat.lt_of_lt_of_le hpb HBW.out.size
        go_wp2_with fail
        refine (HR1.out _ (HBW.out.trans (Below.mono (by repeat (first | exact Below.refl _ _ | (refine Below.alloc ?_ (by first | omega | (simp; omega) | simp) _) | (refine Below.setCell ?_ (by first | omega | (simp; omega) | simp) _) | refine Below.drew ?_)) HBW.out.size))).mono ?_
        rintro e v1 ⟨rfl, hb1⟩
        have hB1_0 : Below W0.heap.size W0 v1 := below_via (Lib.hid hb1) (by first | omega | (simp; done) | (simp; omega)) (by repeat (first | exact Below.refl _ _ | (refine Below.alloc ?_ (by first | omega | (simp; omega) | simp) _) | (refine Below.setCell ?_ (by first | omega | (simp; omega) | simp) _) | refine Below.drew ?_))
        have z1 := hb1.size
        (try simp at z1)
        obtain ⟨g1_0, g1_1, g1_2, g1_3, g1_4, g1_5, g1_6⟩ : v1.cell? ⟨w.heap.size, 0, none⟩ = some (.int .i64 f.len) ∧ v1.cell? ⟨w.heap.size, 1, none⟩ = some (.int .i64 f.slack) ∧ v1.cell? ⟨w.heap.size, 2, none⟩ = some (.slice sa sl sc) ∧ v1.cell? ⟨w.heap.size, 3, none⟩ = some (.slice (some ⟨pb, po, none⟩) pl pc) ∧ v1.cell? ⟨w.heap.size, 4, none⟩ = some (.slice ca cl cc) ∧ v1.cell? ⟨pb, po + k * 3, none⟩ = some (.int .i64 lo) ∧ v1.cell? ⟨pb, po + k * 3 + 1, none⟩ = some (.int .i64 hi) :=
          ⟨(hb1.cell (p := ⟨w.heap.size, 0, none⟩) (by first | omega | (simp; done) | (simp; omega))).trans (by first | (go_simp; done) | (go_simp; exact set_same (u := .int .i64 0) (by go_simp; done))), (hb1.cell (p := ⟨w.heap.size, 1, none⟩) (by first | omega | (simp; done) | (simp; omega))).trans (by first | (go_simp; done) | (go_simp; exact set_same (u := .int .i64 0) (by go_simp; done))), (hb1.cell (p := ⟨w.heap.size, 2, none⟩) (by first | omega | (simp; done) | (simp; omega))).trans (by first | (go_simp; done) | (go_simp; exact set_same (u := .int .i64 0) (by go_simp; done))), (hb1.cell (p := ⟨w.heap.size, 3, none⟩) (by first | omega | (simp; done) | (simp; omega))).trans (by first | (go_simp; done) | (go_simp; exact set_same (u := .int .i64 0) (by go_simp; done))), (hb1.cell (p := ⟨w.heap.size, 4, none⟩) (by first | omega | (simp; done) | (simp; omega))).trans (by first | (go_simp; done) | (go_simp; exact set_same (u := .int .i64 0) (by go_simp; done))), (hb1.cell (p := ⟨pb, po + k * 3, none⟩) (by first | omega | (simp; done) | (simp; omega))).trans (by first | (go_simp; done) | (go_simp; exact set_same (u := .int .i64 0) (by go_simp; done))), (hb1.cell (p := ⟨pb, po + k * 3 + 1, none⟩) (by first | omega | (simp; done) | (simp; omega))).trans (by first | (go_simp; done) | (go_simp; exact set_same (u := .int .i64 0) (by go_simp; done)))⟩
        have q1_0 : w.heap.size < v1.heap.size := by first | omega | (simp at *; omega)
        have q1_1 : pb < v1.heap.size := by first | omega | (simp at *; omega)
        have HB1 := Lib.hid hB1_0
        have y1 := hB1_0.size
        clear hb1 hB1_0 g0_0 g0_1 g0_2 g0_3 g0_4 g0_5 g0_6 q0_0 q0_1
        go_wp2_with fail
        refine (HI1.out _).mono ?_
        rintro e v2 ⟨rfl, hb2⟩
        have hB2_0 : Below W0.heap.size W0 v2 := below_via (Lib.hid hb2) (by first | omega | (simp; done) | (simp; omega)) (by repeat (first | exact Below.refl _ _ | with_reducible exact HB1.out | (refine Below.alloc ?_ (by first | omega | (simp; omega) | simp) _) | (refine Below.setCell ?_ (by first | omega | (simp; omega) | simp) _) | refine Below.drew ?_))
        have z2 := hb2.size
        (try simp at z2)
        obtain ⟨g2_0, g2_1, g2_2, g2_3, g2_4, g2_5, g2_6⟩ : v2.cell? ⟨w.heap.size, 0, none⟩ = some (.int .i64 f.len) ∧ v2.cell? ⟨w.heap.size, 1, none⟩ = some (.int .i64 f.slack) ∧ v2.cell? ⟨w.heap.size, 2, none⟩ = some (.slice sa sl sc) ∧ v2.cell? ⟨w.heap.size, 3, none⟩ = some (.slice (some ⟨pb, po, none⟩) pl pc) ∧ v2.cell? ⟨w.heap.size, 4, none⟩ = some (.slice ca cl cc) ∧ v2.cell? ⟨pb, po + k * 3, none⟩ = some (.int .i64 lo) ∧ v2.cell? ⟨pb, po + k * 3 + 1, none⟩ = some (.int .i64 hi) :=
          ⟨(hb2.cell (p := ⟨w.heap.size, 0, none⟩) (by first | omega | (simp; done) | (simp; omega))).trans (by first | (go_simp; done) | (go_simp; exact set_same (u := .int .i64 0) (by go_simp; done))), (hb2.cell (p := ⟨w.heap.size, 1, none⟩) (by first | omega | (simp; done) | (simp; omega))).trans (by first | (go_simp; done) | (go_simp; exact set_same (u := .int .i64 0) (by go_simp; done))), (hb2.cell (p := ⟨w.heap.size, 2, none⟩) (by first | omega | (simp; done) | (simp; omega))).trans (by first | (go_simp; done) | (go_simp; exact set_same (u := .int .i64 0) (by go_simp; done))), (hb2.cell (p := ⟨w.heap.size, 3, none⟩) (by first | omega | (simp; done) | (simp; omega))).trans (by first | (go_simp; done) | (go_simp; exact set_same (u := .int .i64 0) (by go_simp; done))), (hb2.cell (p := ⟨w.heap.size, 4, none⟩) (by first | omega | (simp; done) | (simp; omega))).trans (by first | (go_simp; done) | (go_simp; exact set_same (u := .int .i64 0) (by go_simp; done))), (hb2.cell (p := ⟨pb, po + k * 3, none⟩) (by first | omega | (simp; done) | (simp; omega))).trans (by first | (go_simp; done) | (go_simp; exact set_same (u := .int .i64 0) (by go_simp; done))), (hb2.cell (p := ⟨pb, po + k * 3 + 1, none⟩) (by first | omega | (simp; done) | (simp; omega))).trans (by first | (go_simp; done) | (go_simp; exact set_same (u := .int .i64 0) (by go_simp; done)))⟩
        have q2_0 : w.heap.size < v2.heap.size := by first | omega | (simp at *; omega)
        have q2_1 : pb < v2.heap.size := by first | omega | (simp at *; omega)
        have HB2 := Lib.hid hB2_0
        have y2 := hB2_0.size
        clear hb2 hB2_0 g1_0 g1_1 g1_2 g1_3 g1_4 g1_5 g1_6 q1_0 q1_1
        go_wp2_with fail
        refine (HG.out _ (HBW.out.trans (Below.mono (by repeat (first | exact Below.refl _ _ | with_reducible exact HB2.out | (refine Below.alloc ?_ (by first | omega | (simp; omega) | simp) _) | (refine Below.setCell ?_ (by first | omega | (simp; omega) | simp) _) | refine Below.drew ?_)) HBW.out.size))).mono ?_
        rintro e v3 ⟨rfl, hb3⟩
        have hB3_0 : Below W0.heap.size W0 v3 := below_via (Lib.hid hb3) (by first | omega | (simp; done) | (simp; omega)) (by repeat (first | exact Below.refl _ _ | with_reducible exact HB2.out | (refine Below.alloc ?_ (by first | omega | (simp; omega) | simp) _) | (refine Below.setCell ?_ (by first | omega | (simp; omega) | simp) _) | refine Below.drew ?_))
        have z3 := hb3.size
        (try simp at z3)
        obtain ⟨g3_0, g3_1, g3_2, g3_3, g3_4, g3_5, g3_6⟩ : v3.cell? ⟨w.heap.size, 0, none⟩ = some (.int .i64 f.len) ∧ v3.cell? ⟨w.heap.size, 1, none⟩ = some (.int .i64 f.slack) ∧ v3.cell? ⟨w.heap.size, 2, none⟩ = some (.slice sa sl sc) ∧ v3.cell? ⟨w.heap.size, 3, none⟩ = some (.slice (some ⟨pb, po, none⟩) pl pc) ∧ v3.cell? ⟨w.heap.size, 4, none⟩ = some (.slice ca cl cc) ∧ v3.cell? ⟨pb, po + k * 3, none⟩ = some (.int .i64 lo) ∧ v3.cell? ⟨pb, po + k * 3 + 1, none⟩ = some (.int .i64 hi) :=
          ⟨(hb3.cell (p := ⟨w.heap.size, 0, none⟩) (by first | omega | (simp; done) | (simp; omega))).trans (by first | (go_simp; done) | (go_simp; exact set_same (u := .int .i64 0) (by go_simp; done))), (hb3.cell (p := ⟨w.heap.size, 1, none⟩) (by first | omega | (simp; done) | (simp; omega))).trans (by first | (go_simp; done) | (go_simp; exact set_same (u := .int .i64 0) (by go_simp; done))), (hb3.cell (p := ⟨w.heap.size, 2, none⟩) (by first | omega | (simp; done) | (simp; omega))).trans (by first | (go_simp; done) | (go_simp; exact set_same (u := .int .i64 0) (by go_simp; done))), (hb3.cell (p := ⟨w.heap.size, 3, none⟩) (by first | omega | (simp; done) | (simp; omega))).trans (by first | (go_simp; done) | (go_simp; exact set_same (u := .int .i64 0) (by go_simp; done))), (hb3.cell (p := ⟨w.heap.size, 4, none⟩) (by first | omega | (simp; done) | (simp; omega))).trans (by first | (go_simp; done) | (go_simp; exact set_same (u := .int .i64 0) (by go_simp; done))), (hb3.cell (p := ⟨pb, po + k * 3, none⟩) (by first | omega | (simp; done) | (simp; omega))).trans (by first | (go_simp; done) | (go_simp; exact set_same (u := .int .i64 0) (by go_simp; done))), (hb3.cell (p := ⟨pb, po + k * 3 + 1, none⟩) (by first | omega | (simp; done) | (simp; omega))).trans (by first | (go_simp; done) | (go_simp; exact set_same (u := .int .i64 0) (by go_simp; done)))⟩
        have q3_0 : w.heap.size < v3.heap.size := by first | omega | (simp at *; omega)
        have q3_1 : pb < v3.heap.size := by first | omega | (simp at *; omega)
        have HB3 := Lib.hid hB3_0
        have y3 := hB3_0.size
        clear hb3 hB3_0 g2_0 g2_1 g2_2 g2_3 g2_4 g2_5 g2_6 q2_0 q2_1
        go_wp2_with fail
        refine (HS.out _ (HBW.out.trans (Below.mono (by repeat (first | exact Below.refl _ _ | with_reducible exact HB3.out | (refine Below.alloc ?_ (by first | omega | (simp; omega) | simp) _) | (refine Below.setCell ?_ (by first | omega | (simp; omega) | simp) _) | refine Below.drew ?_)) HBW.out.size))).mono ?_
        rintro e v4 ⟨rfl, hb4⟩
        have hB4_0 : Below W0.heap.size W0 v4 := below_via (Lib.hid hb4) (by first | omega | (simp; done) | (simp; omega)) (by repeat (first | exact Below.refl _ _ | with_reducible exact HB3.out | (refine Below.alloc ?_ (by first | omega | (simp; omega) | simp) _) | (refine Below.setCell ?_ (by first | omega | (simp; omega) | simp) _) | refine Below.drew ?_))
        have z4 := hb4.size
        (try simp at z4)
        obtain ⟨g4_0, g4_1, g4_2, g4_3, g4_4, g4_5, g4_6, g4_7, g4_8⟩ : v4.cell? ⟨w.heap.size, 0, none⟩ = some (.int .i64 f.len) ∧ v4.cell? ⟨w.heap.size, 1, none⟩ = some (.int .i64 f.slack) ∧ v4.cell? ⟨w.heap.size, 2, none⟩ = some (.slice sa sl sc) ∧ v4.cell? ⟨w.heap.size, 3, none⟩ = some (.slice (some ⟨pb, po, none⟩) pl pc) ∧ v4.cell? ⟨w.heap.size, 4, none⟩ = some (.slice ca cl cc) ∧ v4.cell? ⟨pb, po + k * 3, none⟩ = some (.int .i64 lo) ∧ v4.cell? ⟨pb, po + k * 3 + 1, none⟩ = some (.int .i64 hi) ∧ v4.cell? ⟨v3.heap.size, 0, none⟩ = some (.int .i64 lo) ∧ v4.cell? ⟨v3.heap.size, 1, none⟩ = some (.int .i64 hi) :=
          ⟨(hb4.cell (p := ⟨w.heap.size, 0, none⟩) (by first | omega | (simp; done) | (simp; omega))).trans (by first | (go_simp; done) | (go_simp; exact set_same (u := .int .i64 0) (by go_simp; done))), (hb4.cell (p := ⟨w.heap.size, 1, none⟩) (by first | omega | (simp; done) | (simp; omega))).trans (by first | (go_simp; done) | (go_simp; exact set_same (u := .int .i64 0) (by go_simp; done))), (hb4.cell (p := ⟨w.heap.size, 2, none⟩) (by first | omega | (simp; done) | (simp; omega))).trans (by first | (go_simp; done) | (go_simp; exact set_same (u := .int .i64 0) (by go_simp; done))), (hb4.cell (p := ⟨w.heap.size, 3, none⟩) (by first | omega | (simp; done) | (simp; omega))).trans (by first | (go_simp; done) | (go_simp; exact set_same (u := .int .i64 0) (by go_simp; done))), (hb4.cell (p := ⟨w.heap.size, 4, none⟩) (by first | omega | (simp; done) | (simp; omega))).trans (by first | (go_simp; done) | (go_simp; exact set_same (u := .int .i64 0) (by go_simp; done))), (hb4.cell (p := ⟨pb, po + k * 3, none⟩) (by first | omega | (simp; done) | (simp; omega))).trans (by first | (go_simp; done) | (go_simp; exact set_same (u := .int .i64 0) (by go_simp; done))), (hb4.cell (p := ⟨pb, po + k * 3 + 1, none⟩) (by first | omega | (simp; done) | (simp; omega))).trans (by first | (go_simp; done) | (go_simp; exact set_same (u := .int .i64 0) (by go_simp; done))), (hb4.cell (p := ⟨v3.heap.size, 0, none⟩) (by first | omega | (simp; done) | (simp; omega))).trans (by first | (go_simp; done) | (go_simp; exact set_same (u := .int .i64 0) (by go_simp; done))), (hb4.cell (p := ⟨v3.heap.size, 1, none⟩) (by first | omega | (simp; done) | (simp; omega))).trans (by first | (go_simp; done) | (go_simp; exact set_same (u := .int .i64 0) (by go_simp; done)))⟩
        have q4_0 : w.heap.size < v4.heap.size := by first | omega | (simp at *; omega)
        have q4_1 : pb < v4.heap.size := by first | omega | (simp at *; omega)
        have q4_2 : v3.heap.size < v4.heap.size := by first | omega | (simp at *; omega)
        have HB4 := Lib.hid hB4_0
        have y4 := hB4_0.size
        clear hb4 hB4_0 g3_0 g3_1 g3_2 g3_3 g3_4 g3_5 g3_6 q3_0 q3_1
        go_wp2_with fail
        refine (HN.out _).mono ?_
        rintro e v' ⟨rfl, rfl⟩
        go_wp2_with fail
        refine (HW.out _).mono ?_
        rintro e v' ⟨rfl, rfl⟩
        go_wp2_with fail
        refine (HGN.out h _ (HBW.out.trans (Below.mono (by repeat (first | exact Below.refl _ _ | with_reducible exact HB4.out | (refine Below.alloc ?_ (by first | omega | (simp; omega) | simp) _) | (refine Below.setCell ?_ (by first | omega | (simp; omega) | simp) _) | refine Below.drew ?_)) HBW.out.size))).mono ?_
        rintro e v5 ⟨⟨ga5, gc5, ha5, hc5, ia5, ic5, rfl, hK5⟩, hb5⟩
        have hB5_0 : Below W0.heap.size W0 v5 := below_via (Lib.hid hb5) (by first | omega | (simp; done) | (simp; omega)) (by repeat (first | exact Below.refl _ _ | with_reducible exact HB4.out | (refine Below.alloc ?_ (by first | omega | (simp; omega) | simp) _) | (refine Below.setCell ?_ (by first | omega | (simp; omega) | simp) _) | refine Below.drew ?_))
        have z5 := hb5.size
        (try simp at z5)
        obtain ⟨g5_0, g5_1, g5_2, g5_3, g5_4, g5_5, g5_6, g5_7, g5_8⟩ : v5.cell? ⟨w.heap.size, 0, none⟩ = some (.int .i64 f.len) ∧ v5.cell? ⟨w.heap.size, 1, none⟩ = some (.int .i64 f.slack) ∧ v5.cell? ⟨w.heap.size, 2, none⟩ = some (.slice sa sl sc) ∧ v5.cell? ⟨w.heap.size, 3, none⟩ = some (.slice (some ⟨pb, po, none⟩) pl pc) ∧ v5.cell? ⟨w.heap.size, 4, none⟩ = some (.slice ca cl cc) ∧ v5.cell? ⟨pb, po + k * 3, none⟩ = some (.int .i64 lo) ∧ v5.cell? ⟨pb, po + k * 3 + 1, none⟩ = some (.int .i64 hi) ∧ v5.cell? ⟨v3.heap.size, 0, none⟩ = some (.int .i64 lo) ∧ v5.cell? ⟨v3.heap.size, 1, none⟩ = some (.int .i64 hi) :=
          ⟨(hb5.cell (p := ⟨w.heap.size, 0, none⟩) (by first | omega | (simp; done) | (simp; omega))).trans (by first | (go_simp; done) | (go_simp; exact set_same (u := .int .i64 0) (by go_simp; done))), (hb5.cell (p := ⟨w.heap.size, 1, none⟩) (by first | omega | (simp; done) | (simp; omega))).trans (by first | (go_simp; done) | (go_simp; exact set_same (u := .int .i64 0) (by go_simp; done))), (hb5.cell (p := ⟨w.heap.size, 2, none⟩) (by first | omega | (simp; done) | (simp; omega))).trans (by first | (go_simp; done) | (go_simp; exact set_same (u := .int .i64 0) (by go_simp; done))), (hb5.cell (p := ⟨w.heap.size, 3, none⟩) (by first | omega | (simp; done) | (simp; omega))).trans (by first | (go_simp; done) | (go_simp; exact set_same (u := .int .i64 0) (by go_simp; done))), (hb5.cell (p := ⟨w.heap.size, 4, none⟩) (by first | omega | (simp; done) | (simp; omega))).trans (by first | (go_simp; done) | (go_simp; exact set_same (u := .int .i64 0) (by go_simp; done))), (hb5.cell (p := ⟨pb, po + k * 3, none⟩) (by first | omega | (simp; done) | (simp; omega))).trans (by first | (go_simp; done) | (go_simp; exact set_same (u := .int .i64 0) (by go_simp; done))), (hb5.cell (p := ⟨pb, po + k * 3 + 1, none⟩) (by first | omega | (simp; done) | (simp; omega))).trans (by first | (go_simp; done) | (go_simp; exact set_same (u := .int .i64 0) (by go_simp; done))), (hb5.cell (p := ⟨v3.heap.size, 0, none⟩) (by first | omega | (simp; done) | (simp; omega))).trans (by first | (go_simp; done) | (go_simp; exact set_same (u := .int .i64 0) (by go_simp; done))), (hb5.cell (p := ⟨v3.heap.size, 1, none⟩) (by first | omega | (simp; done) | (simp; omega))).trans (by first | (go_simp; done) | (go_simp; exact set_same (u := .int .i64 0) (by go_simp; done)))⟩
        have q5_0 : w.heap.size < v5.heap.size := by first | omega | (simp at *; omega)
        have q5_1 : pb < v5.heap.size := by first | omega | (simp at *; omega)
        have q5_2 : v3.heap.size < v5.heap.size := by first | omega | (simp at *; omega)
        have HB5 := Lib.hid hB5_0
        have y5 := hB5_0.size
        clear hb5 hB5_0 g4_0 g4_1 g4_2 g4_3 g4_4 g4_5 g4_6 g4_7 g4_8 q4_0 q4_1 q4_2
        have HO5 := Lib.hid (fun W (h : Below v5.heap.size v5 W) => hK5 W (KeepsUp.below h))
        clear hK5
        go_wp2_with fail
        refine (lawStrips_any (f.high k h) ga5 sl gc5 ha5 pl hc5 ia5 cl ic5 (hok _ (by omega) (by omega)) _ (HO5.out _ (by repeat (first | exact Below.refl _ _ | (refine Below.alloc ?_ (by first | omega | (simp; omega) | simp) _) | (refine Below.setCell ?_ (by first | omega | (simp; omega) | simp) _) | refine Below.drew ?_)))).mono ?_
        rintro e v6 ⟨rfl, hb6⟩
        have hB6_0 : Below W0.heap.size W0 v6 := below_via (Lib.hid hb6) (by first | omega | (simp; done) | (simp; omega)) (by repeat (first | exact Below.refl _ _ | with_reducible exact HB5.out | (refine Below.alloc ?_ (by first | omega | (simp; omega) | simp) _) | (refine Below.setCell ?_ (by first | omega | (simp; omega) | simp) _) | refine Below.drew ?_))
        have hB6_1 : Below v5.heap.size v5 v6 := below_via (Lib.hid hb6) (by first | omega | (simp; done) | (simp; omega)) (by repeat (first | exact Below.refl _ _ | (refine Below.alloc ?_ (by first | omega | (simp; omega) | simp) _) | (refine Below.setCell ?_ (by first | omega | (simp; omega) | simp) _) | refine Below.drew ?_))
        have z6 := hb6.size
        (try simp at z6)
        obtain ⟨g6_0, g6_1, g6_2, g6_3, g6_4, g6_5, g6_6, g6_7, g6_8⟩ : v6.cell? ⟨w.heap.size, 0, none⟩ = some (.int .i64 f.len) ∧ v6.cell? ⟨w.heap.size, 1, none⟩ = some (.int .i64 f.slack) ∧ v6.cell? ⟨w.heap.size, 2, none⟩ = some (.slice sa sl sc) ∧ v6.cell? ⟨w.heap.size, 3, none⟩ = some (.slice (some ⟨pb, po, none⟩) pl pc) ∧ v6.cell? ⟨w.heap.size, 4, none⟩ = some (.slice ca cl cc) ∧ v6.cell? ⟨pb, po + k * 3, none⟩ = some (.int .i64 lo) ∧ v6.cell? ⟨pb, po + k * 3 + 1, none⟩ = some (.int .i64 hi) ∧ v6.cell? ⟨v3.heap.size, 0, none⟩ = some (.int .i64 lo) ∧ v6.cell? ⟨v3.heap.size, 1, none⟩ = some (.int .i64 hi) :=
          ⟨(hb6.cell (p := ⟨w.heap.size, 0, none⟩) (by first | omega | (simp; done) | (simp; omega))).trans (by first | (go_simp; done) | (go_simp; exact set_same (u := .int .i64 0) (by go_simp; done))), (hb6.cell (p := ⟨w.heap.size, 1, none⟩) (by first | omega | (simp; done) | (simp; omega))).trans (by first | (go_simp; done) | (go_simp; exact set_same (u := .int .i64 0) (by go_simp; done))), (hb6.cell (p := ⟨w.heap.size, 2, none⟩) (by first | omega | (simp; done) | (simp; omega))).trans (by first | (go_simp; done) | (go_simp; exact set_same (u := .int .i64 0) (by go_simp; done))), (hb6.cell (p := ⟨w.heap.size, 3, none⟩) (by first | omega | (simp; done) | (simp; omega))).trans (by first | (go_simp; done) | (go_simp; exact set_same (u := .int .i64 0) (by go_simp; done))), (hb6.cell (p := ⟨w.heap.size, 4, none⟩) (by first | omega | (simp; done) | (simp; omega))).trans (by first | (go_simp; done) | (go_simp; exact set_same (u := .int .i64 0) (by go_simp; done))), (hb6.cell (p := ⟨pb, po + k * 3, none⟩) (by first | omega | (simp; done) | (simp; omega))).trans (by first | (go_simp; done) | (go_simp; exact set_same (u := .int .i64 0) (by go_simp; done))), (hb6.cell (p := ⟨pb, po + k * 3 + 1, none⟩) (by first | omega | (simp; done) | (simp; omega))).trans (by first | (go_simp; done) | (go_simp; exact set_same (u := .int .i64 0) (by go_simp; done))), (hb6.cell (p := ⟨v3.heap.size, 0, none⟩) (by first | omega | (simp; done) | (simp; omega))).trans (by first | (go_simp; done) | (go_simp; exact set_same (u := .int .i64 0) (by go_simp; done))), (hb6.cell (p := ⟨v3.heap.size, 1, none⟩) (by first | omega | (simp; done) | (simp; omega))).trans (by first | (go_simp; done) | (go_simp; exact set_same (u := .int .i64 0) (by go_simp; done)))⟩
        have q6_0 : w.heap.size < v6.heap.size := by first | omega | (simp at *; omega)
        have q6_1 : pb < v6.heap.size := by first | omega | (simp at *; omega)
        have q6_2 : v3.heap.size < v6.heap.size := by first | omega | (simp at *; omega)
        have HB6 := Lib.hid hB6_0
        have HC5_6 := Lib.hid hB6_1
        have y6 := hB6_0.size
        clear hb6 hB6_0 hB6_1 g5_0 g5_1 g5_2 g5_3 g5_4 g5_5 g5_6 g5_7 g5_8 q5_0 q5_1 q5_2
        rw [hG]
        go_wp2_with fail
        refine (HGN.out (h + 1) _ (HBW.out.trans (Below.mono (by repeat (first | exact Below.refl _ _ | with_reducible exact HB6.out | (refine Below.alloc ?_ (by first | omega | (simp; omega) | simp) _) | (refine Below.setCell ?_ (by first | omega | (simp; omega) | simp) _) | refine Below.drew ?_)) HBW.out.size))).mono ?_
        rintro e v7 ⟨⟨ga7, gc7, ha7, hc7, ia7, ic7, rfl, hK7⟩, hb7⟩
        have hB7_0 : Below W0.heap.size W0 v7 := below_via (Lib.hid hb7) (by first | omega | (simp; done) | (simp; omega)) (by repeat (first | exact Below.refl _ _ | with_reducible exact HB6.out | (refine Below.alloc ?_ (by first | omega | (simp; omega) | simp) _) | (refine Below.setCell ?_ (by first | omega | (simp; omega) | simp) _) | refine Below.drew ?_))
        have hB7_1 : Below v5.heap.size v5 v7 := below_via (Lib.hid hb7) (by first | omega | (simp; done) | (simp; omega)) (by repeat (first | exact Below.refl _ _ | with_reducible exact HC5_6.out | (refine Below.alloc ?_ (by first | omega | (simp; omega) | simp) _) | (refine Below.setCell ?_ (by first | omega | (simp; omega) | simp) _) | refine Below.drew ?_))
        have z7 := hb7.size
        (try simp at z7)
        obtain ⟨g7_0, g7_1, g7_2, g7_3, g7_4, g7_5, g7_6, g7_7, g7_8⟩ : v7.cell? ⟨w.heap.size, 0, none⟩ = some (.int .i64 f.len) ∧ v7.cell? ⟨w.heap.size, 1, none⟩ = some (.int .i64 f.slack) ∧ v7.cell? ⟨w.heap.size, 2, none⟩ = some (.slice sa sl sc) ∧ v7.cell? ⟨w.heap.size, 3, none⟩ = some (.slice (some ⟨pb, po, none⟩) pl pc) ∧ v7.cell? ⟨w.heap.size, 4, none⟩ = some (.slice ca cl cc) ∧ v7.cell? ⟨pb, po + k * 3, none⟩ = some (.int .i64 lo) ∧ v7.cell? ⟨pb, po + k * 3 + 1, none⟩ = some (.int .i64 hi) ∧ v7.cell? ⟨v3.heap.size, 0, none⟩ = some (.int .i64 lo) ∧ v7.cell? ⟨v3.heap.size, 1, none⟩ = some (.int .i64 hi) :=
          ⟨(hb7.cell (p := ⟨w.heap.size, 0, none⟩) (by first | omega | (simp; done) | (simp; omega))).trans (by first | (go_simp; done) | (go_simp; exact set_same (u := .int .i64 0) (by go_simp; done))), (hb7.cell (p := ⟨w.heap.size, 1, none⟩) (by first | omega | (simp; done) | (simp; omega))).trans (by first | (go_simp; done) | (go_simp; exact set_same (u := .int .i64 0) (by go_simp; done))), (hb7.cell (p := ⟨w.heap.size, 2, none⟩) (by first | omega | (simp; done) | (simp; omega))).trans (by first | (go_simp; done) | (go_simp; exact set_same (u := .int .i64 0) (by go_simp; done))), (hb7.cell (p := ⟨w.heap.size, 3, none⟩) (by first | omega | (simp; done) | (simp; omega))).trans (by first | (go_simp; done) | (go_simp; exact set_same (u := .int .i64 0) (by go_simp; done))), (hb7.cell (p := ⟨w.heap.size, 4, none⟩) (by first | omega | (simp; done) | (simp; omega))).trans (by first | (go_simp; done) | (go_simp; exact set_same (u := .int .i64 0) (by go_simp; done))), (hb7.cell (p := ⟨pb, po + k * 3, none⟩) (by first | omega | (simp; done) | (simp; omega))).trans (by first | (go_simp; done) | (go_simp; exact set_same (u := .int .i64 0) (by go_simp; done))), (hb7.cell (p := ⟨pb, po + k * 3 + 1, none⟩) (by first | omega | (simp; done) | (simp; omega))).trans (by first | (go_simp; done) | (go_simp; exact set_same (u := .int .i64 0) (by go_simp; done))), (hb7.cell (p := ⟨v3.heap.size, 0, none⟩) (by first | omega | (simp; done) | (simp; omega))).trans (by first | (go_simp; done) | (go_simp; exact set_same (u := .int .i64 0) (by go_simp; done))), (hb7.cell (p := ⟨v3.heap.size, 1, none⟩) (by first | omega | (simp; done) | (simp; omega))).trans (by first | (go_simp; done) | (go_simp; exact set_same (u := .int .i64 0) (by go_simp; done)))⟩
        have q7_0 : w.heap.size < v7.heap.size := by first | omega | (simp at *; omega)
        have q7_1 : pb < v7.heap.size := by first | omega | (simp at *; omega)
        have q7_2 : v3.heap.size < v7.heap.size := by first | omega | (simp at *; omega)
        have HB7 := Lib.hid hB7_0
        have HC5_7 := Lib.hid hB7_1
        have y7 := hB7_0.size
        clear hb7 hB7_0 hB7_1 g6_0 g6_1 g6_2 g6_3 g6_4 g6_5 g6_6 g6_7 g6_8 q6_0 q6_1 q6_2
        have HO7 := Lib.hid (fun W (h : Below v7.heap.size v7 W) => hK7 W (KeepsUp.below h))
        clear hK7
        go_wp2_with fail
        refine (lawStrips_any (f.high k (h + 1)) ga7 sl gc7 ha7 pl hc7 ia7 cl ic7 (hok _ (by omega) (by omega)) _ (HO7.out _ (by repeat (first | exact Below.refl _ _ | (refine Below.alloc ?_ (by first | omega | (simp; omega) | simp) _) | (refine Below.setCell ?_ (by first | omega | (simp; omega) | simp) _) | refine Below.drew ?_)))).mono ?_
        rintro e v8 ⟨rfl, hb8⟩
        have hB8_0 : Below W0.heap.size W0 v8 := below_via (Lib.hid hb8) (by first | omega | (simp; done) | (simp; omega)) (by repeat (first | exact Below.refl _ _ | with_reducible exact HB7.out | (refine Below.alloc ?_ (by first | omega | (simp; omega) | simp) _) | (refine Below.setCell ?_ (by first | omega | (simp; omega) | simp) _) | refine Below.drew ?_))
        have hB8_1 : Below v5.heap.size v5 v8 := below_via (Lib.hid hb8) (by first | omega | (simp; done) | (simp; omega)) (by repeat (first | exact Below.refl _ _ | with_reducible exact HC5_7.out | (refine Below.alloc ?_ (by first | omega | (simp; omega) | simp) _) | (refine Below.setCell ?_ (by first | omega | (simp; omega) | simp) _) | refine Below.drew ?_))
        have hB8_2 : Below v7.heap.size v7 v8 := below_via (Lib.hid hb8) (by first | omega | (simp; done) | (simp; omega)) (by repeat (first | exact Below.refl _ _ | (refine Below.alloc ?_ (by first | omega | (simp; omega) | simp) _) | (refine Below.setCell ?_ (by first | omega | (simp; omega) | simp) _) | refine Below.drew ?_))
        have z8 := hb8.size
        (try simp at z8)
        obtain ⟨g8_0, g8_1, g8_2, g8_3, g8_4, g8_5, g8_6, g8_7, g8_8⟩ : v8.cell? ⟨w.heap.size, 0, none⟩ = some (.int .i64 f.len) ∧ v8.cell? ⟨w.heap.size, 1, none⟩ = some (.int .i64 f.slack) ∧ v8.cell? ⟨w.heap.size, 2, none⟩ = some (.slice sa sl sc) ∧ v8.cell? ⟨w.heap.size, 3, none⟩ = some (.slice (some ⟨pb, po, none⟩) pl pc) ∧ v8.cell? ⟨w.heap.size, 4, none⟩ = some (.slice ca cl cc) ∧ v8.cell? ⟨pb, po + k * 3, none⟩ = some (.int .i64 lo) ∧ v8.cell? ⟨pb, po + k * 3 + 1, none⟩ = some (.int .i64 hi) ∧ v8.cell? ⟨v3.heap.size, 0, none⟩ = some (.int .i64 lo) ∧ v8.cell? ⟨v3.heap.size, 1, none⟩ = some (.int .i64 hi) :=
          ⟨(hb8.cell (p := ⟨w.heap.size, 0, none⟩) (by first | omega | (simp; done) | (simp; omega))).trans (by first | (go_simp; done) | (go_simp; exact set_same (u := .int .i64 0) (by go_simp; done))), (hb8.cell (p := ⟨w.heap.size, 1, none⟩) (by first | omega | (simp; done) | (simp; omega))).trans (by first | (go_simp; done) | (go_simp; exact set_same (u := .int .i64 0) (by go_simp; done))), (hb8.cell (p := ⟨w.heap.size, 2, none⟩) (by first | omega | (simp; done) | (simp; omega))).trans (by first | (go_simp; done) | (go_simp; exact set_same (u := .int .i64 0) (by go_simp; done))), (hb8.cell (p := ⟨w.heap.size, 3, none⟩) (by first | omega | (simp; done) | (simp; omega))).trans (by first | (go_simp; done) | (go_simp; exact set_same (u := .int .i64 0) (by go_simp; done))), (hb8.cell (p := ⟨w.heap.size, 4, none⟩) (by first | omega | (simp; done) | (simp; omega))).trans (by first | (go_simp; done) | (go_simp; exact set_same (u := .int .i64 0) (by go_simp; done))), (hb8.cell (p := ⟨pb, po + k * 3, none⟩) (by first | omega | (simp; done) | (simp; omega))).trans (by first | (go_simp; done) | (go_simp; exact set_same (u := .int .i64 0) (by go_simp; done))), (hb8.cell (p := ⟨pb, po + k * 3 + 1, none⟩) (by first | omega | (simp; done) | (simp; omega))).trans (by first | (go_simp; done) | (go_simp; exact set_same (u := .int .i64 0) (by go_simp; done))), (hb8.cell (p := ⟨v3.heap.size, 0, none⟩) (by first | omega | (simp; done) | (simp; omega))).trans (by first | (go_simp; done) | (go_simp; exact set_same (u := .int .i64 0) (by go_simp; done))), (hb8.cell (p := ⟨v3.heap.size, 1, none⟩) (by first | omega | (simp; done) | (simp; omega))).trans (by first | (go_simp; done) | (go_simp; exact set_same (u := .int .i64 0) (by go_simp; done)))⟩
        have q8_0 : w.heap.size < v8.heap.size := by first | omega | (simp at *; omega)
        have q8_1 : pb < v8.heap.size := by first | omega | (simp at *; omega)
        have q8_2 : v3.heap.size < v8.heap.size := by first | omega | (simp at *; omega)
        have HB8 := Lib.hid hB8_0
        have HC5_8 := Lib.hid hB8_1
        have HC7_8 := Lib.hid hB8_2
        have y8 := hB8_0.size
        clear hb8 hB8_0 hB8_1 hB8_2 g7_0 g7_1 g7_2 g7_3 g7_4 g7_5 g7_6 g7_7 g7_8 q7_0 q7_1 q7_2
        rw [g6 (by omega)]
        go_wp2_with fail
        refine (HK.out _).mono ?_
        rintro e v9 ⟨rfl, hb9⟩
        have hB9_0 : Below W0.heap.size W0 v9 := below_via (Lib.hid hb9) (by first | omega | (simp; done) | (simp; omega)) (by repeat (first | exact Below.refl _ _ | with_reducible exact HB8.out | (refine Below.alloc ?_ (by first | omega | (simp; omega) | simp) _) | (refine Below.setCell ?_ (by first | omega | (simp; omega) | simp) _) | refine Below.drew ?_))
        have hB9_1 : Below v5.heap.size v5 v9 := below_via (Lib.hid hb9) (by first | omega | (simp; done) | (simp; omega)) (by repeat (first | exact Below.refl _ _ | with_reducible exact HC5_8.out | (refine Below.alloc ?_ (by first | omega | (simp; omega) | simp) _) | (refine Below.setCell ?_ (by first | omega | (simp; omega) | simp) _) | refine Below.drew ?_))
        have hB9_2 : Below v7.heap.size v7 v9 := below_via (Lib.hid hb9) (by first | omega | (simp; done) | (simp; omega)) (by repeat (first | exact Below.refl _ _ | with_reducible exact HC7_8.out | (refine Below.alloc ?_ (by first | omega | (simp; omega) | simp) _) | (refine Below.setCell ?_ (by first | omega | (simp; omega) | simp) _) | refine Below.drew ?_))
        have z9 := hb9.size
        (try simp at z9)
        have HB9 := Lib.hid hB9_0
        have HC5_9 := Lib.hid hB9_1
        have HC7_9 := Lib.hid hB9_2
        have y9 := hB9_0.size
        clear hb9 hB9_0 hB9_1 hB9_2 g8_0 g8_1 g8_2 g8_3 g8_4 g8_5 g8_6 g8_7 g8_8 q8_0 q8_1 q8_2
        go_wp2_with fail
        go_ret
        exact ⟨rfl, HBW.out.trans (Below.mono (by repeat (first | exact Below.refl _ _ | with_reducible exact HB9.out | (refine Below.alloc ?_ (by first | omega | (simp; omega) | simp) _) | (refine Below.setCell ?_ (by first | omega | (simp; omega) | simp) _) | refine Below.drew ?_)) HBW.out.size)⟩
set_option maxRecDepth 100000 in
set_option maxHeartbeats 8000000 in
theorem PagesGrown_any (f : PFrame) (sa : Option Addr) (sl sc : Nat) (pa : Option Addr) (pl pc : Nat) (ca : Option Addr) (cl cc : Nat) (piece : Int) (w : World) (hp : PAt w sa sl sc pa pl pc ca cl cc f) :
    Calls Try.prog 16 #[.agg #[.int .i64 f.len, .int .i64 f.slack, .slice sa sl sc, .slice pa pl pc, .slice ca cl cc], .int .i64 piece] w fun e w' => e = .returned (.bool true) ∧ Below w.heap.size w w' := by
  have hpm := hp.2.1.2.1
  have hpl := hp.2.1.1
  have HK := Lib.hid (fun W => works_any W)
  rcases hr : f.ready with - | -
  · have HR1 := Lib.hid (fun W (h : Below w.heap.size w W) => ready_is f sa sl sc pa pl pc ca cl cc false hr W (hp.below h))
    clear hr hp
    go_enter Try.func16, Try.ntmps16
    go_wp2_with fail
    obtain ⟨W0, hW0, hB0, ⟨g0_0, g0_1, g0_2, g0_3, g0_4⟩, hz0⟩ : ∃ W0, (w.alloc (.cells #[.int .i64 f.len, .int .i64 f.slack, .slice sa sl sc, .slice pa pl pc, .slice ca cl cc] 26)) = W0 ∧ Below w.heap.size w W0 ∧ (W0.cell? ⟨w.heap.size, 0, none⟩ = some (.int .i64 f.len) ∧ W0.cell? ⟨w.heap.size, 1, none⟩ = some (.int .i64 f.slack) ∧ W0.cell? ⟨w.heap.size, 2, none⟩ = some (.slice sa sl sc) ∧ W0.cell? ⟨w.heap.size, 3, none⟩ = some (.slice pa pl pc) ∧ W0.cell? ⟨w.heap.size, 4, none⟩ = some (.slice ca cl cc)) ∧ W0.heap.size = w.heap.size + 1 :=
      ⟨_, rfl, (by repeat (first | exact Below.refl _ _ | (refine Below.alloc ?_ (by first | omega | (simp; omega) | simp) _) | (refine Below.setCell ?_ (by first | omega | (simp; omega) | simp) _) | refine Below.drew ?_)), ⟨by go_simp, by go_simp, by go_simp, by go_simp, by go_simp⟩, by simp⟩
    rw [hW0]
    clear hW0
    have HBW := Lib.hid hB0
    have q0_0 : w.heap.size < W0.heap.size := by omega
    clear hB0 hz0
    go_wp2_with fail
    refine (HR1.out _ (HBW.out.trans (Below.mono (by repeat (first | exact Below.refl _ _ | (refine Below.alloc ?_ (by first | omega | (simp; omega) | simp) _) | (refine Below.setCell ?_ (by first | omega | (simp; omega) | simp) _) | refine Below.drew ?_)) HBW.out.size))).mono ?_
    rintro e v1 ⟨rfl, hb1⟩
    have hB1_0 : Below W0.heap.size W0 v1 := below_via (Lib.hid hb1) (by first | omega | (simp; done) | (simp; omega)) (by repeat (first | exact Below.refl _ _ | (refine Below.alloc ?_ (by first | omega | (simp; omega) | simp) _) | (refine Below.setCell ?_ (by first | omega | (simp; omega) | simp) _) | refine Below.drew ?_))
    have z1 := hb1.size
    (try simp at z1)
    obtain ⟨g1_0, g1_1, g1_2, g1_3, g1_4⟩ : v1.cell? ⟨w.heap.size, 0, none⟩ = some (.int .i64 f.len) ∧ v1.cell? ⟨w.heap.size, 1, none⟩ = some (.int .i64 f.slack) ∧ v1.cell? ⟨w.heap.size, 2, none⟩ = some (.slice sa sl sc) ∧ v1.cell? ⟨w.heap.size, 3, none⟩ = some (.slice pa pl pc) ∧ v1.cell? ⟨w.heap.size, 4, none⟩ = some (.slice ca cl cc) :=
      ⟨(hb1.cell (p := ⟨w.heap.size, 0, none⟩) (by first | omega | (simp; done) | (simp; omega))).trans (by first | (go_simp; done) | (go_simp; exact set_same (u := .int .i64 0) (by go_simp; done))), (hb1.cell (p := ⟨w.heap.size, 1, none⟩) (by first | omega | (simp; done) | (simp; omega))).trans (by first | (go_simp; done) | (go_simp; exact set_same (u := .int .i64 0) (by go_simp; done))), (hb1.cell (p := ⟨w.heap.size, 2, none⟩) (by first | omega | (simp; done) | (simp; omega))).trans (by first | (go_simp; done) | (go_simp; exact set_same (u := .int .i64 0) (by go_simp; done))), (hb1.cell (p := ⟨w.heap.size, 3, none⟩) (by first | omega | (simp; done) | (simp; omega))).trans (by first | (go_simp; done) | (go_simp; exact set_same (u := .int .i64 0) (by go_simp; done))), (hb1.cell (p := ⟨w.heap.size, 4, none⟩) (by first | omega | (simp; done) | (simp; omega))).trans (by first | (go_simp; done) | (go_simp; exact set_same (u := .int .i64 0) (by go_simp; done)))⟩
    have q1_0 : w.heap.size < v1.heap.size := by first | omega | (simp at *; omega)
    have HB1 := Lib.hid hB1_0
    have y1 := hB1_0.size
    clear hb1 hB1_0 g0_0 g0_1 g0_2 g0_3 g0_4 q0_0
    go_wp2_with fail
    refine (HK.out _).mono ?_
    rintro e v2 ⟨rfl, hb2⟩
    have hB2_0 : Below W0.heap.size W0 v2 := below_via (Lib.hid hb2) (by first | omega | (simp; done) | (simp; omega)) (by repeat (first | exact Below.refl _ _ | with_reducible exact HB1.out | (refine Below.alloc ?_ (by first | omega | (simp; omega) | simp) _) | (refine Below.setCell ?_ (by first | omega | (simp; omega) | simp) _) | refine Below.drew ?_))
    have z2 := hb2.size
    (try simp at z2)
    have HB2 := Lib.hid hB2_0
    have y2 := hB2_0.size
    clear hb2 hB2_0 g1_0 g1_1 g1_2 g1_3 g1_4 q1_0
    go_wp2_with fail
    go_ret
    exact ⟨rfl, HBW.out.trans (Below.mono (by repeat (first | exact Below.refl _ _ | with_reducible exact HB2.out | (refine Below.alloc ?_ (by first | omega | (simp; omega) | simp) _) | (refine Below.setCell ?_ (by first | omega | (simp; omega) | simp) _) | refine Below.drew ?_)) HBW.out.size)⟩
  · rcases h1 : btw piece 0 ((pl : Int) - 1) with - | -
    · have HR1 := Lib.hid (fun W (h : Below w.heap.size w W) => ready_is f sa sl sc pa pl pc ca cl cc true hr W (hp.below h))
      have HI1 := Lib.hid (fun W => IsPiece_is f sa sl sc pa pl pc ca cl cc piece W hpm false h1)
      clear hr hp h1
      go_enter Try.func16, Try.ntmps16
      go_wp2_with fail
      obtain ⟨W0, hW0, hB0, ⟨g0_0, g0_1, g0_2, g0_3, g0_4⟩, hz0⟩ : ∃ W0, (w.alloc (.cells #[.int .i64 f.len, .int .i64 f.slack, .slice sa sl sc, .slice pa pl pc, .slice ca cl cc] 26)) = W0 ∧ Below w.heap.size w W0 ∧ (W0.cell? ⟨w.heap.size, 0, none⟩ = some (.int .i64 f.len) ∧ W0.cell? ⟨w.heap.size, 1, none⟩ = some (.int .i64 f.slack) ∧ W0.cell? ⟨w.heap.size, 2, none⟩ = some (.slice sa sl sc) ∧ W0.cell? ⟨w.heap.size, 3, none⟩ = some (.slice pa pl pc) ∧ W0.cell? ⟨w.heap.size, 4, none⟩ = some (.slice ca cl cc)) ∧ W0.heap.size = w.heap.size + 1 :=
        ⟨_, rfl, (by repeat (first | exact Below.refl _ _ | (refine Below.alloc ?_ (by first | omega | (simp; omega) | simp) _) | (refine Below.setCell ?_ (by first | omega | (simp; omega) | simp) _) | refine Below.drew ?_)), ⟨by go_simp, by go_simp, by go_simp, by go_simp, by go_simp⟩, by simp⟩
      rw [hW0]
      clear hW0
      have HBW := Lib.hid hB0
      have q0_0 : w.heap.size < W0.heap.size := by omega
      clear hB0 hz0
      go_wp2_with fail
      refine (HR1.out _ (HBW.out.trans (Below.mono (by repeat (first | exact Below.refl _ _ | (refine Below.alloc ?_ (by first | omega | (simp; omega) | simp) _) | (refine Below.setCell ?_ (by first | omega | (simp; omega) | simp) _) | refine Below.drew ?_)) HBW.out.size))).mono ?_
      rintro e v1 ⟨rfl, hb1⟩
      have hB1_0 : Below W0.heap.size W0 v1 := below_via (Lib.hid hb1) (by first | omega | (simp; done) | (simp; omega)) (by repeat (first | exact Below.refl _ _ | (refine Below.alloc ?_ (by first | omega | (simp; omega) | simp) _) | (refine Below.setCell ?_ (by first | omega | (simp; omega) | simp) _) | refine Below.drew ?_))
      have z1 := hb1.size
      (try simp at z1)
      obtain ⟨g1_0, g1_1, g1_2, g1_3, g1_4⟩ : v1.cell? ⟨w.heap.size, 0, none⟩ = some (.int .i64 f.len) ∧ v1.cell? ⟨w.heap.size, 1, none⟩ = some (.int .i64 f.slack) ∧ v1.cell? ⟨w.heap.size, 2, none⟩ = some (.slice sa sl sc) ∧ v1.cell? ⟨w.heap.size, 3, none⟩ = some (.slice pa pl pc) ∧ v1.cell? ⟨w.heap.size, 4, none⟩ = some (.slice ca cl cc) :=
        ⟨(hb1.cell (p := ⟨w.heap.size, 0, none⟩) (by first | omega | (simp; done) | (simp; omega))).trans (by first | (go_simp; done) | (go_simp; exact set_same (u := .int .i64 0) (by go_simp; done))), (hb1.cell (p := ⟨w.heap.size, 1, none⟩) (by first | omega | (simp; done) | (simp; omega))).trans (by first | (go_simp; done) | (go_simp; exact set_same (u := .int .i64 0) (by go_simp; done))), (hb1.cell (p := ⟨w.heap.size, 2, none⟩) (by first | omega | (simp; done) | (simp; omega))).trans (by first | (go_simp; done) | (go_simp; exact set_same (u := .int .i64 0) (by go_simp; done))), (hb1.cell (p := ⟨w.heap.size, 3, none⟩) (by first | omega | (simp; done) | (simp; omega))).trans (by first | (go_simp; done) | (go_simp; exact set_same (u := .int .i64 0) (by go_simp; done))), (hb1.cell (p := ⟨w.heap.size, 4, none⟩) (by first | omega | (simp; done) | (simp; omega))).trans (by first | (go_simp; done) | (go_simp; exact set_same (u := .int .i64 0) (by go_simp; done)))⟩
      have q1_0 : w.heap.size < v1.heap.size := by first | omega | (simp at *; omega)
      have HB1 := Lib.hid hB1_0
      have y1 := hB1_0.size
      clear hb1 hB1_0 g0_0 g0_1 g0_2 g0_3 g0_4 q0_0
      go_wp2_with fail
      refine (HI1.out _).mono ?_
      rintro e v2 ⟨rfl, hb2⟩
      have hB2_0 : Below W0.heap.size W0 v2 := below_via (Lib.hid hb2) (by first | omega | (simp; done) | (simp; omega)) (by repeat (first | exact Below.refl _ _ | with_reducible exact HB1.out | (refine Below.alloc ?_ (by first | omega | (simp; omega) | simp) _) | (refine Below.setCell ?_ (by first | omega | (simp; omega) | simp) _) | refine Below.drew ?_))
      have z2 := hb2.size
      (try simp at z2)
      obtain ⟨g2_0, g2_1, g2_2, g2_3, g2_4⟩ : v2.cell? ⟨w.heap.size, 0, none⟩ = some (.int .i64 f.len) ∧ v2.cell? ⟨w.heap.size, 1, none⟩ = some (.int .i64 f.slack) ∧ v2.cell? ⟨w.heap.size, 2, none⟩ = some (.slice sa sl sc) ∧ v2.cell? ⟨w.heap.size, 3, none⟩ = some (.slice pa pl pc) ∧ v2.cell? ⟨w.heap.size, 4, none⟩ = some (.slice ca cl cc) :=
        ⟨(hb2.cell (p := ⟨w.heap.size, 0, none⟩) (by first | omega | (simp; done) | (simp; omega))).trans (by first | (go_simp; done) | (go_simp; exact set_same (u := .int .i64 0) (by go_simp; done))), (hb2.cell (p := ⟨w.heap.size, 1, none⟩) (by first | omega | (simp; done) | (simp; omega))).trans (by first | (go_simp; done) | (go_simp; exact set_same (u := .int .i64 0) (by go_simp; done))), (hb2.cell (p := ⟨w.heap.size, 2, none⟩) (by first | omega | (simp; done) | (simp; omega))).trans (by first | (go_simp; done) | (go_simp; exact set_same (u := .int .i64 0) (by go_simp; done))), (hb2.cell (p := ⟨w.heap.size, 3, none⟩) (by first | omega | (simp; done) | (simp; omega))).trans (by first | (go_simp; done) | (go_simp; exact set_same (u := .int .i64 0) (by go_simp; done))), (hb2.cell (p := ⟨w.heap.size, 4, none⟩) (by first | omega | (simp; done) | (simp; omega))).trans (by first | (go_simp; done) | (go_simp; exact set_same (u := .int .i64 0) (by go_simp; done)))⟩
      have q2_0 : w.heap.size < v2.heap.size := by first | omega | (simp at *; omega)
      have HB2 := Lib.hid hB2_0
      have y2 := hB2_0.size
      clear hb2 hB2_0 g1_0 g1_1 g1_2 g1_3 g1_4 q1_0
      go_wp2_with fail
      refine (HK.out _).mono ?_
      rintro e v3 ⟨rfl, hb3⟩
      have hB3_0 : Below W0.heap.size W0 v3 := below_via (Lib.hid hb3) (by first | omega | (simp; done) | (simp; omega)) (by repeat (first | exact Below.refl _ _ | with_reducible exact HB2.out | (refine Below.alloc ?_ (by first | omega | (simp; omega) | simp) _) | (refine Below.setCell ?_ (by first | omega | (simp; omega) | simp) _) | refine Below.drew ?_))
      have z3 := hb3.size
      (try simp at z3)
      have HB3 := Lib.hid hB3_0
      have y3 := hB3_0.size
      clear hb3 hB3_0 g2_0 g2_1 g2_2 g2_3 g2_4 q2_0
      go_wp2_with fail
      go_ret
      exact ⟨rfl, HBW.out.trans (Below.mono (by repeat (first | exact Below.refl _ _ | with_reducible exact HB3.out | (refine Below.alloc ?_ (by first | omega | (simp; omega) | simp) _) | (refine Below.setCell ?_ (by first | omega | (simp; omega) | simp) _) | refine Below.drew ?_)) HBW.out.size)⟩
    · obtain ⟨k, rfl⟩ : ∃ k : Nat, (k : Int) = piece := ⟨piece.toNat, by unfold btw at h1; simp at h1; omega⟩
      exact grown_main f sa sl sc pa pl pc ca cl cc k (by unfold btw at h1; simp at h1; omega) hr w hp
end Go.Proofs.Ytodlfmbfjnldiaa
