/- The law of the gaps: it holds. -/
import Derived.Test.YtlhgoedghojnkaaVP
import Derived.Test.YtlhgoedghojnkaaWP
namespace Go.Proofs.Ytlhgoedghojnkaa
set_option linter.unusedVariables false
set_option linter.unusedSimpArgs false
open Go.RowKit Go.Shelf

theorem huge_sizes {f : PFrame} {w : World} {sa : Option Addr} {sl sc : Nat} {pa : Option Addr} {pl pc : Nat} {ca : Option Addr} {cl cc : Nat} (h : f.huge = false) (hp : PAt w sa sl sc pa pl pc ca cl cc f) : sl ≤ 1000 ∧ cl ≤ 1000 ∧ pl ≤ 1000 := by
  unfold PFrame.huge at h
  simp only [Bool.or_eq_false_iff, decide_eq_false_iff_not] at h
  have e1 := hp.1.1
  have e2 := hp.2.1.1
  have e3 := hp.2.2.1
  omega

set_option maxRecDepth 100000 in
set_option maxHeartbeats 8000000 in
theorem PagesGap_any (f : PFrame) (sa : Option Addr) (sl sc : Nat) (pa : Option Addr) (pl pc : Nat) (ca : Option Addr) (cl cc : Nat) (one other : Int) (w : World) (hp : PAt w sa sl sc pa pl pc ca cl cc f) :
    Calls Try.prog 6 #[.agg #[.int .i64 f.len, .int .i64 f.slack, .slice sa sl sc, .slice pa pl pc, .slice ca cl cc], .int .i64 one, .int .i64 other] w fun e w' => e = .returned (.bool true) ∧ Below w.heap.size w w' := by
  have HK := Lib.hid (fun W => works_any W)
  rcases hf : f.far with - | -
  rotate_left
  · have HF1 := Lib.hid (fun W (h : Below w.heap.size w W) => Far_is f sa sl sc pa pl pc ca cl cc true hf W (hp.below h))
    clear hf hp
    go_enter Try.func6, Try.ntmps6
    go_wp2_with fail
    obtain ⟨W0, hW0, hB0, ⟨g0_0, g0_1, g0_2, g0_3, g0_4⟩, hz0⟩ : ∃ W0, (w.alloc (.cells #[.int .i64 f.len, .int .i64 f.slack, .slice sa sl sc, .slice pa pl pc, .slice ca cl cc] 26)) = W0 ∧ Below w.heap.size w W0 ∧ (W0.cell? ⟨w.heap.size, 0, none⟩ = some (.int .i64 f.len) ∧ W0.cell? ⟨w.heap.size, 1, none⟩ = some (.int .i64 f.slack) ∧ W0.cell? ⟨w.heap.size, 2, none⟩ = some (.slice sa sl sc) ∧ W0.cell? ⟨w.heap.size, 3, none⟩ = some (.slice pa pl pc) ∧ W0.cell? ⟨w.heap.size, 4, none⟩ = some (.slice ca cl cc)) ∧ W0.heap.size = w.heap.size + 1 :=
      ⟨_, rfl, (by repeat (first | exact Below.refl _ _ | (refine Below.alloc ?_ (by first | omega | (simp; omega) | simp) _) | (refine Below.setCell ?_ (by first | omega | (simp; omega) | simp) _) | refine Below.drew ?_)), ⟨by go_simp, by go_simp, by go_simp, by go_simp, by go_simp⟩, by simp⟩
    rw [hW0]
    clear hW0
    have HBW := Lib.hid hB0
    have q0_0 : w.heap.size < W0.heap.size := by omega
    clear hB0 hz0
    go_wp2_with fail
    refine (HF1.out _ (HBW.out.trans (Below.mono (by repeat (first | exact Below.refl _ _ | (refine Below.alloc ?_ (by first | omega | (simp; omega) | simp) _) | (refine Below.setCell ?_ (by first | omega | (simp; omega) | simp) _) | refine Below.drew ?_)) HBW.out.size))).mono ?_
    rintro e v1 ⟨rfl, hb1⟩
    have hB1_0 : Below W0.heap.size W0 v1 := below_via (Lib.hid hb1) (by first | omega | (simp; done) | (simp; omega)) (by repeat (first | exact Below.refl _ _ | (refine Below.alloc ?_ (by first | omega | (simp; omega) | simp) _) | (refine Below.setCell ?_ (by first | omega | (simp; omega) | simp) _) | refine Below.drew ?_))
    have z1 := hb1.size
    (try simp at z1)
    obtain ⟨g1_0, g1_1, g1_2, g1_3, g1_4⟩ : v1.cell? ⟨w.heap.size, 0, none⟩ = some (.int .i64 f.len) ∧ v1.cell? ⟨w.heap.size, 1, none⟩ = some (.int .i64 f.slack) ∧ v1.cell? ⟨w.heap.size, 2, none⟩ = some (.slice sa sl sc) ∧ v1.cell? ⟨w.heap.size, 3, none⟩ = some (.slice pa pl pc) ∧ v1.cell? ⟨w.heap.size, 4, none⟩ = some (.slice ca cl cc) :=
      ⟨(hb1.cell (p := ⟨w.heap.size, 0, none⟩) (by first | omega | (simp; done) | (simp; omega))).trans (by first | (go_simp; done) | (go_simp; exact set_same (u := .int .i64 0) (by go_simp; done))), (hb1.cell (p := ⟨w.heap.size, 1, none⟩) (by first | omega | (simp; done) | (simp; omega))).trans (by first | (go_simp; done) | (go_simp; exact set_same (u := .int .i64 0) (by go_simp; done))), (hb1.cell (p := ⟨w.heap.size, 2, none⟩) (by first | omega | (simp; done) | (simp; omega))).trans (by first | (go_simp; done) | (go_simp; exact set_same (u := .int .i64 0) (by go_simp; done))), (hb1.cell (p := ⟨w.heap.size, 3, none⟩) (by first | omega | (simp; done) | (simp; omega))).trans (by first | (go_simp; done) | (go_simp; exact set_same (u := .int .i64 0) (by go_simp; done))), (hb1.cell (p := ⟨w.heap.size, 4, none⟩) (by first | omega | (simp; done) | (simp; omega))).trans (by first | (go_simp; done) | (go_simp; exact set_same (u := .int .i64 0) (by go_simp; done)))⟩
    have q1_0 : w.heap.size < v1.heap.size := by first | omega | (simp at *; omega)
    have HB1 := Lib.hid hB1_0
    have y1 := hB1_0.size
    clear hb1 hB1_0 g0_0 g0_1 g0_2 g0_3 g0_4 q0_0
    go_wp2_with fail
    refine (HK.out _).mono ?_
    rintro e v2 ⟨rfl, hb2⟩
    have hB2_0 : Below W0.heap.size W0 v2 := below_via (Lib.hid hb2) (by first | omega | (simp; done) | (simp; omega)) (by repeat (first | exact Below.refl _ _ | with_reducible exact HB1.out | (refine Below.alloc ?_ (by first | omega | (simp; omega) | simp) _) | (refine Below.setCell ?_ (by first | omega | (simp; omega) | simp) _) | refine Below.drew ?_))
    have z2 := hb2.size
    (try simp at z2)
    have HB2 := Lib.hid hB2_0
    have y2 := hB2_0.size
    clear hb2 hB2_0 g1_0 g1_1 g1_2 g1_3 g1_4 q1_0
    go_wp2_with fail
    go_ret
    exact ⟨rfl, HBW.out.trans (Below.mono (by repeat (first | exact Below.refl _ _ | with_reducible exact HB2.out | (refine Below.alloc ?_ (by first | omega | (simp; omega) | simp) _) | (refine Below.setCell ?_ (by first | omega | (simp; omega) | simp) _) | refine Below.drew ?_)) HBW.out.size)⟩
  have hh := Huge_of_far hf
  have hB := huge_cols hh
  obtain ⟨u1, u2, u3⟩ := huge_sizes hh hp
  obtain ⟨M, v, c1, c2⟩ := grow_both f hB one
  obtain ⟨L, H, y, g1, g2⟩ := gap_both f hB one other
  obtain ⟨K, z, m1, m2⟩ := meets_both f hB one other
  have HF1 := Lib.hid (fun W (h : Below w.heap.size w W) => Far_is f sa sl sc pa pl pc ca cl cc false hf W (hp.below h))
  have HCP := Lib.hid (fun W (h : Below w.heap.size w W) => Copy_keeps f sa sl sc pa pl pc ca cl cc W (hp.below h) u1 u2 u3 hB)
  have HR1 := Lib.hid c1
  have HR2 := Lib.hid c2
  have HG1 := Lib.hid g1
  have HG2 := Lib.hid g2
  have HM1 := Lib.hid m1
  have HM2 := Lib.hid m2
  have HP := Lib.hid (fun W (h : Below w.heap.size w W) => hp.below h)
  have HSM := Lib.hid (fun ta tc qa qc da dc W (h : PAt W ta sl tc qa pl qc da cl dc f) (h' : PAt W sa sl sc pa pl pc ca cl cc f) => Same_yes f ta sl tc qa pl qc da cl dc sa sc pa pc ca cc W h h')
  clear hh hp hB hf c1 c2 g1 g2 m1 m2
  go_enter Try.func6, Try.ntmps6
  go_wp2_with fail
  obtain ⟨W0, hW0, hB0, ⟨g0_0, g0_1, g0_2, g0_3, g0_4⟩, hz0⟩ : ∃ W0, (w.alloc (.cells #[.int .i64 f.len, .int .i64 f.slack, .slice sa sl sc, .slice pa pl pc, .slice ca cl cc] 26)) = W0 ∧ Below w.heap.size w W0 ∧ (W0.cell? ⟨w.heap.size, 0, none⟩ = some (.int .i64 f.len) ∧ W0.cell? ⟨w.heap.size, 1, none⟩ = some (.int .i64 f.slack) ∧ W0.cell? ⟨w.heap.size, 2, none⟩ = some (.slice sa sl sc) ∧ W0.cell? ⟨w.heap.size, 3, none⟩ = some (.slice pa pl pc) ∧ W0.cell? ⟨w.heap.size, 4, none⟩ = some (.slice ca cl cc)) ∧ W0.heap.size = w.heap.size + 1 :=
    ⟨_, rfl, (by repeat (first | exact Below.refl _ _ | (refine Below.alloc ?_ (by first | omega | (simp; omega) | simp) _) | (refine Below.setCell ?_ (by first | omega | (simp; omega) | simp) _) | refine Below.drew ?_)), ⟨by go_simp, by go_simp, by go_simp, by go_simp, by go_simp⟩, by simp⟩
  rw [hW0]
  clear hW0
  have HBW := Lib.hid hB0
  have q0_0 : w.heap.size < W0.heap.size := by omega
  clear hB0 hz0
  go_wp2_with fail
  refine (HF1.out _ (HBW.out.trans (Below.mono (by repeat (first | exact Below.refl _ _ | (refine Below.alloc ?_ (by first | omega | (simp; omega) | simp) _) | (refine Below.setCell ?_ (by first | omega | (simp; omega) | simp) _) | refine Below.drew ?_)) HBW.out.size))).mono ?_
  rintro e v1 ⟨rfl, hb1⟩
  have hB1_0 : Below W0.heap.size W0 v1 := below_via (Lib.hid hb1) (by first | omega | (simp; done) | (simp; omega)) (by repeat (first | exact Below.refl _ _ | (refine Below.alloc ?_ (by first | omega | (simp; omega) | simp) _) | (refine Below.setCell ?_ (by first | omega | (simp; omega) | simp) _) | refine Below.drew ?_))
  have z1 := hb1.size
  (try simp at z1)
  obtain ⟨g1_0, g1_1, g1_2, g1_3, g1_4⟩ : v1.cell? ⟨w.heap.size, 0, none⟩ = some (.int .i64 f.len) ∧ v1.cell? ⟨w.heap.size, 1, none⟩ = some (.int .i64 f.slack) ∧ v1.cell? ⟨w.heap.size, 2, none⟩ = some (.slice sa sl sc) ∧ v1.cell? ⟨w.heap.size, 3, none⟩ = some (.slice pa pl pc) ∧ v1.cell? ⟨w.heap.size, 4, none⟩ = some (.slice ca cl cc) :=
    ⟨(hb1.cell (p := ⟨w.heap.size, 0, none⟩) (by first | omega | (simp; done) | (simp; omega))).trans (by first | (go_simp; done) | (go_simp; exact set_same (u := .int .i64 0) (by go_simp; done))), (hb1.cell (p := ⟨w.heap.size, 1, none⟩) (by first | omega | (simp; done) | (simp; omega))).trans (by first | (go_simp; done) | (go_simp; exact set_same (u := .int .i64 0) (by go_simp; done))), (hb1.cell (p := ⟨w.heap.size, 2, none⟩) (by first | omega | (simp; done) | (simp; omega))).trans (by first | (go_simp; done) | (go_simp; exact set_same (u := .int .i64 0) (by go_simp; done))), (hb1.cell (p := ⟨w.heap.size, 3, none⟩) (by first | omega | (simp; done) | (simp; omega))).trans (by first | (go_simp; done) | (go_simp; exact set_same (u := .int .i64 0) (by go_simp; done))), (hb1.cell (p := ⟨w.heap.size, 4, none⟩) (by first | omega | (simp; done) | (simp; omega))).trans (by first | (go_simp; done) | (go_simp; exact set_same (u := .int .i64 0) (by go_simp; done)))⟩
  have q1_0 : w.heap.size < v1.heap.size := by first | omega | (simp at *; omega)
  have HB1 := Lib.hid hB1_0
  have y1 := hB1_0.size
  clear hb1 hB1_0 g0_0 g0_1 g0_2 g0_3 g0_4 q0_0
  go_wp2_with fail
  refine (HCP.out _ (HBW.out.trans (Below.mono (by repeat (first | exact Below.refl _ _ | with_reducible exact HB1.out | (refine Below.alloc ?_ (by first | omega | (simp; omega) | simp) _) | (refine Below.setCell ?_ (by first | omega | (simp; omega) | simp) _) | refine Below.drew ?_)) HBW.out.size))).mono ?_
  rintro e v2 ⟨ga, gc, ha, hc, ia, ic, rfl, hK, hb2⟩
  have hB2_0 : Below W0.heap.size W0 v2 := below_via (Lib.hid hb2) (by first | omega | (simp; done) | (simp; omega)) (by repeat (first | exact Below.refl _ _ | with_reducible exact HB1.out | (refine Below.alloc ?_ (by first | omega | (simp; omega) | simp) _) | (refine Below.setCell ?_ (by first | omega | (simp; omega) | simp) _) | refine Below.drew ?_))
  have z2 := hb2.size
  (try simp at z2)
  obtain ⟨g2_0, g2_1, g2_2, g2_3, g2_4⟩ : v2.cell? ⟨w.heap.size, 0, none⟩ = some (.int .i64 f.len) ∧ v2.cell? ⟨w.heap.size, 1, none⟩ = some (.int .i64 f.slack) ∧ v2.cell? ⟨w.heap.size, 2, none⟩ = some (.slice sa sl sc) ∧ v2.cell? ⟨w.heap.size, 3, none⟩ = some (.slice pa pl pc) ∧ v2.cell? ⟨w.heap.size, 4, none⟩ = some (.slice ca cl cc) :=
    ⟨(hb2.cell (p := ⟨w.heap.size, 0, none⟩) (by first | omega | (simp; done) | (simp; omega))).trans (by first | (go_simp; done) | (go_simp; exact set_same (u := .int .i64 0) (by go_simp; done))), (hb2.cell (p := ⟨w.heap.size, 1, none⟩) (by first | omega | (simp; done) | (simp; omega))).trans (by first | (go_simp; done) | (go_simp; exact set_same (u := .int .i64 0) (by go_simp; done))), (hb2.cell (p := ⟨w.heap.size, 2, none⟩) (by first | omega | (simp; done) | (simp; omega))).trans (by first | (go_simp; done) | (go_simp; exact set_same (u := .int .i64 0) (by go_simp; done))), (hb2.cell (p := ⟨w.heap.size, 3, none⟩) (by first | omega | (simp; done) | (simp; omega))).trans (by first | (go_simp; done) | (go_simp; exact set_same (u := .int .i64 0) (by go_simp; done))), (hb2.cell (p := ⟨w.heap.size, 4, none⟩) (by first | omega | (simp; done) | (simp; omega))).trans (by first | (go_simp; done) | (go_simp; exact set_same (u := .int .i64 0) (by go_simp; done)))⟩
  have q2_0 : w.heap.size < v2.heap.size := by first | omega | (simp at *; omega)
  have HB2 := Lib.hid hB2_0
  have y2 := hB2_0.size
  clear hb2 hB2_0 g1_0 g1_1 g1_2 g1_3 g1_4 q1_0
  have HO := Lib.hid (fun W (h : Below v2.heap.size v2 W) => hK W (KeepsUp.below h))
  clear hK HF1 HCP
  go_wp2_with fail
  refine (HR1.out ga sl gc ha pl hc ia cl ic _ (HO.out _ (by repeat (first | exact Below.refl _ _ | (refine Below.alloc ?_ (by first | omega | (simp; omega) | simp) _) | (refine Below.setCell ?_ (by first | omega | (simp; omega) | simp) _) | refine Below.drew ?_)))).mono ?_
  rintro e v3 ⟨rfl, hb3⟩
  have hB3_0 : Below W0.heap.size W0 v3 := below_via (Lib.hid hb3) (by first | omega | (simp; done) | (simp; omega)) (by repeat (first | exact Below.refl _ _ | with_reducible exact HB2.out | (refine Below.alloc ?_ (by first | omega | (simp; omega) | simp) _) | (refine Below.setCell ?_ (by first | omega | (simp; omega) | simp) _) | refine Below.drew ?_))
  have hB3_1 : Below v2.heap.size v2 v3 := below_via (Lib.hid hb3) (by first | omega | (simp; done) | (simp; omega)) (by repeat (first | exact Below.refl _ _ | (refine Below.alloc ?_ (by first | omega | (simp; omega) | simp) _) | (refine Below.setCell ?_ (by first | omega | (simp; omega) | simp) _) | refine Below.drew ?_))
  have z3 := hb3.size
  (try simp at z3)
  obtain ⟨g3_0, g3_1, g3_2, g3_3, g3_4, g3_5, g3_6, g3_7, g3_8, g3_9⟩ : v3.cell? ⟨w.heap.size, 0, none⟩ = some (.int .i64 f.len) ∧ v3.cell? ⟨w.heap.size, 1, none⟩ = some (.int .i64 f.slack) ∧ v3.cell? ⟨w.heap.size, 2, none⟩ = some (.slice sa sl sc) ∧ v3.cell? ⟨w.heap.size, 3, none⟩ = some (.slice pa pl pc) ∧ v3.cell? ⟨w.heap.size, 4, none⟩ = some (.slice ca cl cc) ∧ v3.cell? ⟨v2.heap.size, 0, none⟩ = some (.int .i64 f.len) ∧ v3.cell? ⟨v2.heap.size, 1, none⟩ = some (.int .i64 f.slack) ∧ v3.cell? ⟨v2.heap.size, 2, none⟩ = some (.slice ga sl gc) ∧ v3.cell? ⟨v2.heap.size, 3, none⟩ = some (.slice ha pl hc) ∧ v3.cell? ⟨v2.heap.size, 4, none⟩ = some (.slice ia cl ic) :=
    ⟨(hb3.cell (p := ⟨w.heap.size, 0, none⟩) (by first | omega | (simp; done) | (simp; omega))).trans (by first | (go_simp; done) | (go_simp; exact set_same (u := .int .i64 0) (by go_simp; done))), (hb3.cell (p := ⟨w.heap.size, 1, none⟩) (by first | omega | (simp; done) | (simp; omega))).trans (by first | (go_simp; done) | (go_simp; exact set_same (u := .int .i64 0) (by go_simp; done))), (hb3.cell (p := ⟨w.heap.size, 2, none⟩) (by first | omega | (simp; done) | (simp; omega))).trans (by first | (go_simp; done) | (go_simp; exact set_same (u := .int .i64 0) (by go_simp; done))), (hb3.cell (p := ⟨w.heap.size, 3, none⟩) (by first | omega | (simp; done) | (simp; omega))).trans (by first | (go_simp; done) | (go_simp; exact set_same (u := .int .i64 0) (by go_simp; done))), (hb3.cell (p := ⟨w.heap.size, 4, none⟩) (by first | omega | (simp; done) | (simp; omega))).trans (by first | (go_simp; done) | (go_simp; exact set_same (u := .int .i64 0) (by go_simp; done))), (hb3.cell (p := ⟨v2.heap.size, 0, none⟩) (by first | omega | (simp; done) | (simp; omega))).trans (by first | (go_simp; done) | (go_simp; exact set_same (u := .int .i64 0) (by go_simp; done))), (hb3.cell (p := ⟨v2.heap.size, 1, none⟩) (by first | omega | (simp; done) | (simp; omega))).trans (by first | (go_simp; done) | (go_simp; exact set_same (u := .int .i64 0) (by go_simp; done))), (hb3.cell (p := ⟨v2.heap.size, 2, none⟩) (by first | omega | (simp; done) | (simp; omega))).trans (by first | (go_simp; done) | (go_simp; exact set_same (u := .int .i64 0) (by go_simp; done))), (hb3.cell (p := ⟨v2.heap.size, 3, none⟩) (by first | omega | (simp; done) | (simp; omega))).trans (by first | (go_simp; done) | (go_simp; exact set_same (u := .int .i64 0) (by go_simp; done))), (hb3.cell (p := ⟨v2.heap.size, 4, none⟩) (by first | omega | (simp; done) | (simp; omega))).trans (by first | (go_simp; done) | (go_simp; exact set_same (u := .int .i64 0) (by go_simp; done)))⟩
  have q3_0 : w.heap.size < v3.heap.size := by first | omega | (simp at *; omega)
  have q3_1 : v2.heap.size < v3.heap.size := by first | omega | (simp at *; omega)
  have HB3 := Lib.hid hB3_0
  have HC3 := Lib.hid hB3_1
  have y3 := hB3_0.size
  clear hb3 hB3_0 hB3_1 g2_0 g2_1 g2_2 g2_3 g2_4 q2_0
  go_wp2_with fail
  refine (HR2.out sa sl sc pa pl pc ca cl cc _ (HP.out _ (HBW.out.trans (Below.mono (by repeat (first | exact Below.refl _ _ | with_reducible exact HB3.out | (refine Below.alloc ?_ (by first | omega | (simp; omega) | simp) _) | (refine Below.setCell ?_ (by first | omega | (simp; omega) | simp) _) | refine Below.drew ?_)) HBW.out.size)))).mono ?_
  rintro e v4 ⟨rfl, hb4⟩
  have hB4_0 : Below W0.heap.size W0 v4 := below_via (Lib.hid hb4) (by first | omega | (simp; done) | (simp; omega)) (by repeat (first | exact Below.refl _ _ | with_reducible exact HB3.out | (refine Below.alloc ?_ (by first | omega | (simp; omega) | simp) _) | (refine Below.setCell ?_ (by first | omega | (simp; omega) | simp) _) | refine Below.drew ?_))
  have hB4_1 : Below v2.heap.size v2 v4 := below_via (Lib.hid hb4) (by first | omega | (simp; done) | (simp; omega)) (by repeat (first | exact Below.refl _ _ | with_reducible exact HC3.out | (refine Below.alloc ?_ (by first | omega | (simp; omega) | simp) _) | (refine Below.setCell ?_ (by first | omega | (simp; omega) | simp) _) | refine Below.drew ?_))
  have z4 := hb4.size
  (try simp at z4)
  obtain ⟨g4_0, g4_1, g4_2, g4_3, g4_4, g4_5, g4_6, g4_7, g4_8, g4_9⟩ : v4.cell? ⟨w.heap.size, 0, none⟩ = some (.int .i64 f.len) ∧ v4.cell? ⟨w.heap.size, 1, none⟩ = some (.int .i64 f.slack) ∧ v4.cell? ⟨w.heap.size, 2, none⟩ = some (.slice sa sl sc) ∧ v4.cell? ⟨w.heap.size, 3, none⟩ = some (.slice pa pl pc) ∧ v4.cell? ⟨w.heap.size, 4, none⟩ = some (.slice ca cl cc) ∧ v4.cell? ⟨v2.heap.size, 0, none⟩ = some (.int .i64 f.len) ∧ v4.cell? ⟨v2.heap.size, 1, none⟩ = some (.int .i64 f.slack) ∧ v4.cell? ⟨v2.heap.size, 2, none⟩ = some (.slice ga sl gc) ∧ v4.cell? ⟨v2.heap.size, 3, none⟩ = some (.slice ha pl hc) ∧ v4.cell? ⟨v2.heap.size, 4, none⟩ = some (.slice ia cl ic) :=
    ⟨(hb4.cell (p := ⟨w.heap.size, 0, none⟩) (by first | omega | (simp; done) | (simp; omega))).trans (by first | (go_simp; done) | (go_simp; exact set_same (u := .int .i64 0) (by go_simp; done))), (hb4.cell (p := ⟨w.heap.size, 1, none⟩) (by first | omega | (simp; done) | (simp; omega))).trans (by first | (go_simp; done) | (go_simp; exact set_same (u := .int .i64 0) (by go_simp; done))), (hb4.cell (p := ⟨w.heap.size, 2, none⟩) (by first | omega | (simp; done) | (simp; omega))).trans (by first | (go_simp; done) | (go_simp; exact set_same (u := .int .i64 0) (by go_simp; done))), (hb4.cell (p := ⟨w.heap.size, 3, none⟩) (by first | omega | (simp; done) | (simp; omega))).trans (by first | (go_simp; done) | (go_simp; exact set_same (u := .int .i64 0) (by go_simp; done))), (hb4.cell (p := ⟨w.heap.size, 4, none⟩) (by first | omega | (simp; done) | (simp; omega))).trans (by first | (go_simp; done) | (go_simp; exact set_same (u := .int .i64 0) (by go_simp; done))), (hb4.cell (p := ⟨v2.heap.size, 0, none⟩) (by first | omega | (simp; done) | (simp; omega))).trans (by first | (go_simp; done) | (go_simp; exact set_same (u := .int .i64 0) (by go_simp; done))), (hb4.cell (p := ⟨v2.heap.size, 1, none⟩) (by first | omega | (simp; done) | (simp; omega))).trans (by first | (go_simp; done) | (go_simp; exact set_same (u := .int .i64 0) (by go_simp; done))), (hb4.cell (p := ⟨v2.heap.size, 2, none⟩) (by first | omega | (simp; done) | (simp; omega))).trans (by first | (go_simp; done) | (go_simp; exact set_same (u := .int .i64 0) (by go_simp; done))), (hb4.cell (p := ⟨v2.heap.size, 3, none⟩) (by first | omega | (simp; done) | (simp; omega))).trans (by first | (go_simp; done) | (go_simp; exact set_same (u := .int .i64 0) (by go_simp; done))), (hb4.cell (p := ⟨v2.heap.size, 4, none⟩) (by first | omega | (simp; done) | (simp; omega))).trans (by first | (go_simp; done) | (go_simp; exact set_same (u := .int .i64 0) (by go_simp; done)))⟩
  have q4_0 : w.heap.size < v4.heap.size := by first | omega | (simp at *; omega)
  have q4_1 : v2.heap.size < v4.heap.size := by first | omega | (simp at *; omega)
  have HB4 := Lib.hid hB4_0
  have HC4 := Lib.hid hB4_1
  have y4 := hB4_0.size
  clear hb4 hB4_0 hB4_1 g3_0 g3_1 g3_2 g3_3 g3_4 g3_5 g3_6 g3_7 g3_8 g3_9 q3_0 q3_1
  go_wp2_with fail
  refine (HG1.out ga sl gc ha pl hc ia cl ic _ (HO.out _ (by repeat (first | exact Below.refl _ _ | with_reducible exact HC4.out | (refine Below.alloc ?_ (by first | omega | (simp; omega) | simp) _) | (refine Below.setCell ?_ (by first | omega | (simp; omega) | simp) _) | refine Below.drew ?_)))).mono ?_
  rintro e v5 ⟨rfl, hb5⟩
  have hB5_0 : Below W0.heap.size W0 v5 := below_via (Lib.hid hb5) (by first | omega | (simp; done) | (simp; omega)) (by repeat (first | exact Below.refl _ _ | with_reducible exact HB4.out | (refine Below.alloc ?_ (by first | omega | (simp; omega) | simp) _) | (refine Below.setCell ?_ (by first | omega | (simp; omega) | simp) _) | refine Below.drew ?_))
  have hB5_1 : Below v2.heap.size v2 v5 := below_via (Lib.hid hb5) (by first | omega | (simp; done) | (simp; omega)) (by repeat (first | exact Below.refl _ _ | with_reducible exact HC4.out | (refine Below.alloc ?_ (by first | omega | (simp; omega) | simp) _) | (refine Below.setCell ?_ (by first | omega | (simp; omega) | simp) _) | refine Below.drew ?_))
  have z5 := hb5.size
  (try simp at z5)
  obtain ⟨g5_0, g5_1, g5_2, g5_3, g5_4, g5_5, g5_6, g5_7, g5_8, g5_9⟩ : v5.cell? ⟨w.heap.size, 0, none⟩ = some (.int .i64 f.len) ∧ v5.cell? ⟨w.heap.size, 1, none⟩ = some (.int .i64 f.slack) ∧ v5.cell? ⟨w.heap.size, 2, none⟩ = some (.slice sa sl sc) ∧ v5.cell? ⟨w.heap.size, 3, none⟩ = some (.slice pa pl pc) ∧ v5.cell? ⟨w.heap.size, 4, none⟩ = some (.slice ca cl cc) ∧ v5.cell? ⟨v2.heap.size, 0, none⟩ = some (.int .i64 f.len) ∧ v5.cell? ⟨v2.heap.size, 1, none⟩ = some (.int .i64 f.slack) ∧ v5.cell? ⟨v2.heap.size, 2, none⟩ = some (.slice ga sl gc) ∧ v5.cell? ⟨v2.heap.size, 3, none⟩ = some (.slice ha pl hc) ∧ v5.cell? ⟨v2.heap.size, 4, none⟩ = some (.slice ia cl ic) :=
    ⟨(hb5.cell (p := ⟨w.heap.size, 0, none⟩) (by first | omega | (simp; done) | (simp; omega))).trans (by first | (go_simp; done) | (go_simp; exact set_same (u := .int .i64 0) (by go_simp; done))), (hb5.cell (p := ⟨w.heap.size, 1, none⟩) (by first | omega | (simp; done) | (simp; omega))).trans (by first | (go_simp; done) | (go_simp; exact set_same (u := .int .i64 0) (by go_simp; done))), (hb5.cell (p := ⟨w.heap.size, 2, none⟩) (by first | omega | (simp; done) | (simp; omega))).trans (by first | (go_simp; done) | (go_simp; exact set_same (u := .int .i64 0) (by go_simp; done))), (hb5.cell (p := ⟨w.heap.size, 3, none⟩) (by first | omega | (simp; done) | (simp; omega))).trans (by first | (go_simp; done) | (go_simp; exact set_same (u := .int .i64 0) (by go_simp; done))), (hb5.cell (p := ⟨w.heap.size, 4, none⟩) (by first | omega | (simp; done) | (simp; omega))).trans (by first | (go_simp; done) | (go_simp; exact set_same (u := .int .i64 0) (by go_simp; done))), (hb5.cell (p := ⟨v2.heap.size, 0, none⟩) (by first | omega | (simp; done) | (simp; omega))).trans (by first | (go_simp; done) | (go_simp; exact set_same (u := .int .i64 0) (by go_simp; done))), (hb5.cell (p := ⟨v2.heap.size, 1, none⟩) (by first | omega | (simp; done) | (simp; omega))).trans (by first | (go_simp; done) | (go_simp; exact set_same (u := .int .i64 0) (by go_simp; done))), (hb5.cell (p := ⟨v2.heap.size, 2, none⟩) (by first | omega | (simp; done) | (simp; omega))).trans (by first | (go_simp; done) | (go_simp; exact set_same (u := .int .i64 0) (by go_simp; done))), (hb5.cell (p := ⟨v2.heap.size, 3, none⟩) (by first | omega | (simp; done) | (simp; omega))).trans (by first | (go_simp; done) | (go_simp; exact set_same (u := .int .i64 0) (by go_simp; done))), (hb5.cell (p := ⟨v2.heap.size, 4, none⟩) (by first | omega | (simp; done) | (simp; omega))).trans (by first | (go_simp; done) | (go_simp; exact set_same (u := .int .i64 0) (by go_simp; done)))⟩
  have q5_0 : w.heap.size < v5.heap.size := by first | omega | (simp at *; omega)
  have q5_1 : v2.heap.size < v5.heap.size := by first | omega | (simp at *; omega)
  have HB5 := Lib.hid hB5_0
  have HC5 := Lib.hid hB5_1
  have y5 := hB5_0.size
  clear hb5 hB5_0 hB5_1 g4_0 g4_1 g4_2 g4_3 g4_4 g4_5 g4_6 g4_7 g4_8 g4_9 q4_0 q4_1
  go_wp2_with fail
  refine (HG2.out sa sl sc pa pl pc ca cl cc _ (HP.out _ (HBW.out.trans (Below.mono (by repeat (first | exact Below.refl _ _ | with_reducible exact HB5.out | (refine Below.alloc ?_ (by first | omega | (simp; omega) | simp) _) | (refine Below.setCell ?_ (by first | omega | (simp; omega) | simp) _) | refine Below.drew ?_)) HBW.out.size)))).mono ?_
  rintro e v6 ⟨rfl, hb6⟩
  have hB6_0 : Below W0.heap.size W0 v6 := below_via (Lib.hid hb6) (by first | omega | (simp; done) | (simp; omega)) (by repeat (first | exact Below.refl _ _ | with_reducible exact HB5.out | (refine Below.alloc ?_ (by first | omega | (simp; omega) | simp) _) | (refine Below.setCell ?_ (by first | omega | (simp; omega) | simp) _) | refine Below.drew ?_))
  have hB6_1 : Below v2.heap.size v2 v6 := below_via (Lib.hid hb6) (by first | omega | (simp; done) | (simp; omega)) (by repeat (first | exact Below.refl _ _ | with_reducible exact HC5.out | (refine Below.alloc ?_ (by first | omega | (simp; omega) | simp) _) | (refine Below.setCell ?_ (by first | omega | (simp; omega) | simp) _) | refine Below.drew ?_))
  have z6 := hb6.size
  (try simp at z6)
  obtain ⟨g6_0, g6_1, g6_2, g6_3, g6_4, g6_5, g6_6, g6_7, g6_8, g6_9, g6_10, g6_11⟩ : v6.cell? ⟨w.heap.size, 0, none⟩ = some (.int .i64 f.len) ∧ v6.cell? ⟨w.heap.size, 1, none⟩ = some (.int .i64 f.slack) ∧ v6.cell? ⟨w.heap.size, 2, none⟩ = some (.slice sa sl sc) ∧ v6.cell? ⟨w.heap.size, 3, none⟩ = some (.slice pa pl pc) ∧ v6.cell? ⟨w.heap.size, 4, none⟩ = some (.slice ca cl cc) ∧ v6.cell? ⟨v2.heap.size, 0, none⟩ = some (.int .i64 f.len) ∧ v6.cell? ⟨v2.heap.size, 1, none⟩ = some (.int .i64 f.slack) ∧ v6.cell? ⟨v2.heap.size, 2, none⟩ = some (.slice ga sl gc) ∧ v6.cell? ⟨v2.heap.size, 3, none⟩ = some (.slice ha pl hc) ∧ v6.cell? ⟨v2.heap.size, 4, none⟩ = some (.slice ia cl ic) ∧ v6.cell? ⟨v5.heap.size, 0, none⟩ = some (.int .i64 L) ∧ v6.cell? ⟨v5.heap.size, 1, none⟩ = some (.int .i64 H) :=
    ⟨(hb6.cell (p := ⟨w.heap.size, 0, none⟩) (by first | omega | (simp; done) | (simp; omega))).trans (by first | (go_simp; done) | (go_simp; exact set_same (u := .int .i64 0) (by go_simp; done))), (hb6.cell (p := ⟨w.heap.size, 1, none⟩) (by first | omega | (simp; done) | (simp; omega))).trans (by first | (go_simp; done) | (go_simp; exact set_same (u := .int .i64 0) (by go_simp; done))), (hb6.cell (p := ⟨w.heap.size, 2, none⟩) (by first | omega | (simp; done) | (simp; omega))).trans (by first | (go_simp; done) | (go_simp; exact set_same (u := .int .i64 0) (by go_simp; done))), (hb6.cell (p := ⟨w.heap.size, 3, none⟩) (by first | omega | (simp; done) | (simp; omega))).trans (by first | (go_simp; done) | (go_simp; exact set_same (u := .int .i64 0) (by go_simp; done))), (hb6.cell (p := ⟨w.heap.size, 4, none⟩) (by first | omega | (simp; done) | (simp; omega))).trans (by first | (go_simp; done) | (go_simp; exact set_same (u := .int .i64 0) (by go_simp; done))), (hb6.cell (p := ⟨v2.heap.size, 0, none⟩) (by first | omega | (simp; done) | (simp; omega))).trans (by first | (go_simp; done) | (go_simp; exact set_same (u := .int .i64 0) (by go_simp; done))), (hb6.cell (p := ⟨v2.heap.size, 1, none⟩) (by first | omega | (simp; done) | (simp; omega))).trans (by first | (go_simp; done) | (go_simp; exact set_same (u := .int .i64 0) (by go_simp; done))), (hb6.cell (p := ⟨v2.heap.size, 2, none⟩) (by first | omega | (simp; done) | (simp; omega))).trans (by first | (go_simp; done) | (go_simp; exact set_same (u := .int .i64 0) (by go_simp; done))), (hb6.cell (p := ⟨v2.heap.size, 3, none⟩) (by first | omega | (simp; done) | (simp; omega))).trans (by first | (go_simp; done) | (go_simp; exact set_same (u := .int .i64 0) (by go_simp; done))), (hb6.cell (p := ⟨v2.heap.size, 4, none⟩) (by first | omega | (simp; done) | (simp; omega))).trans (by first | (go_simp; done) | (go_simp; exact set_same (u := .int .i64 0) (by go_simp; done))), (hb6.cell (p := ⟨v5.heap.size, 0, none⟩) (by first | omega | (simp; done) | (simp; omega))).trans (by first | (go_simp; done) | (go_simp; exact set_same (u := .int .i64 0) (by go_simp; done))), (hb6.cell (p := ⟨v5.heap.size, 1, none⟩) (by first | omega | (simp; done) | (simp; omega))).trans (by first | (go_simp; done) | (go_simp; exact set_same (u := .int .i64 0) (by go_simp; done)))⟩
  have q6_0 : w.heap.size < v6.heap.size := by first | omega | (simp at *; omega)
  have q6_1 : v2.heap.size < v6.heap.size := by first | omega | (simp at *; omega)
  have q6_2 : v5.heap.size < v6.heap.size := by first | omega | (simp at *; omega)
  have HB6 := Lib.hid hB6_0
  have HC6 := Lib.hid hB6_1
  have y6 := hB6_0.size
  clear hb6 hB6_0 hB6_1 g5_0 g5_1 g5_2 g5_3 g5_4 g5_5 g5_6 g5_7 g5_8 g5_9 q5_0 q5_1
  go_wp2_with fail
  refine (HM1.out ga sl gc ha pl hc ia cl ic _ (HO.out _ (by repeat (first | exact Below.refl _ _ | with_reducible exact HC6.out | (refine Below.alloc ?_ (by first | omega | (simp; omega) | simp) _) | (refine Below.setCell ?_ (by first | omega | (simp; omega) | simp) _) | refine Below.drew ?_)))).mono ?_
  rintro e v7 ⟨rfl, hb7⟩
  have hB7_0 : Below W0.heap.size W0 v7 := below_via (Lib.hid hb7) (by first | omega | (simp; done) | (simp; omega)) (by repeat (first | exact Below.refl _ _ | with_reducible exact HB6.out | (refine Below.alloc ?_ (by first | omega | (simp; omega) | simp) _) | (refine Below.setCell ?_ (by first | omega | (simp; omega) | simp) _) | refine Below.drew ?_))
  have hB7_1 : Below v2.heap.size v2 v7 := below_via (Lib.hid hb7) (by first | omega | (simp; done) | (simp; omega)) (by repeat (first | exact Below.refl _ _ | with_reducible exact HC6.out | (refine Below.alloc ?_ (by first | omega | (simp; omega) | simp) _) | (refine Below.setCell ?_ (by first | omega | (simp; omega) | simp) _) | refine Below.drew ?_))
  have z7 := hb7.size
  (try simp at z7)
  obtain ⟨g7_0, g7_1, g7_2, g7_3, g7_4, g7_5, g7_6, g7_7, g7_8, g7_9, g7_10, g7_11, g7_12, g7_13⟩ : v7.cell? ⟨w.heap.size, 0, none⟩ = some (.int .i64 f.len) ∧ v7.cell? ⟨w.heap.size, 1, none⟩ = some (.int .i64 f.slack) ∧ v7.cell? ⟨w.heap.size, 2, none⟩ = some (.slice sa sl sc) ∧ v7.cell? ⟨w.heap.size, 3, none⟩ = some (.slice pa pl pc) ∧ v7.cell? ⟨w.heap.size, 4, none⟩ = some (.slice ca cl cc) ∧ v7.cell? ⟨v2.heap.size, 0, none⟩ = some (.int .i64 f.len) ∧ v7.cell? ⟨v2.heap.size, 1, none⟩ = some (.int .i64 f.slack) ∧ v7.cell? ⟨v2.heap.size, 2, none⟩ = some (.slice ga sl gc) ∧ v7.cell? ⟨v2.heap.size, 3, none⟩ = some (.slice ha pl hc) ∧ v7.cell? ⟨v2.heap.size, 4, none⟩ = some (.slice ia cl ic) ∧ v7.cell? ⟨v5.heap.size, 0, none⟩ = some (.int .i64 L) ∧ v7.cell? ⟨v5.heap.size, 1, none⟩ = some (.int .i64 H) ∧ v7.cell? ⟨v6.heap.size, 0, none⟩ = some (.int .i64 L) ∧ v7.cell? ⟨v6.heap.size, 1, none⟩ = some (.int .i64 H) :=
    ⟨(hb7.cell (p := ⟨w.heap.size, 0, none⟩) (by first | omega | (simp; done) | (simp; omega))).trans (by first | (go_simp; done) | (go_simp; exact set_same (u := .int .i64 0) (by go_simp; done))), (hb7.cell (p := ⟨w.heap.size, 1, none⟩) (by first | omega | (simp; done) | (simp; omega))).trans (by first | (go_simp; done) | (go_simp; exact set_same (u := .int .i64 0) (by go_simp; done))), (hb7.cell (p := ⟨w.heap.size, 2, none⟩) (by first | omega | (simp; done) | (simp; omega))).trans (by first | (go_simp; done) | (go_simp; exact set_same (u := .int .i64 0) (by go_simp; done))), (hb7.cell (p := ⟨w.heap.size, 3, none⟩) (by first | omega | (simp; done) | (simp; omega))).trans (by first | (go_simp; done) | (go_simp; exact set_same (u := .int .i64 0) (by go_simp; done))), (hb7.cell (p := ⟨w.heap.size, 4, none⟩) (by first | omega | (simp; done) | (simp; omega))).trans (by first | (go_simp; done) | (go_simp; exact set_same (u := .int .i64 0) (by go_simp; done))), (hb7.cell (p := ⟨v2.heap.size, 0, none⟩) (by first | omega | (simp; done) | (simp; omega))).trans (by first | (go_simp; done) | (go_simp; exact set_same (u := .int .i64 0) (by go_simp; done))), (hb7.cell (p := ⟨v2.heap.size, 1, none⟩) (by first | omega | (simp; done) | (simp; omega))).trans (by first | (go_simp; done) | (go_simp; exact set_same (u := .int .i64 0) (by go_simp; done))), (hb7.cell (p := ⟨v2.heap.size, 2, none⟩) (by first | omega | (simp; done) | (simp; omega))).trans (by first | (go_simp; done) | (go_simp; exact set_same (u := .int .i64 0) (by go_simp; done))), (hb7.cell (p := ⟨v2.heap.size, 3, none⟩) (by first | omega | (simp; done) | (simp; omega))).trans (by first | (go_simp; done) | (go_simp; exact set_same (u := .int .i64 0) (by go_simp; done))), (hb7.cell (p := ⟨v2.heap.size, 4, none⟩) (by first | omega | (simp; done) | (simp; omega))).trans (by first | (go_simp; done) | (go_simp; exact set_same (u := .int .i64 0) (by go_simp; done))), (hb7.cell (p := ⟨v5.heap.size, 0, none⟩) (by first | omega | (simp; done) | (simp; omega))).trans (by first | (go_simp; done) | (go_simp; exact set_same (u := .int .i64 0) (by go_simp; done))), (hb7.cell (p := ⟨v5.heap.size, 1, none⟩) (by first | omega | (simp; done) | (simp; omega))).trans (by first | (go_simp; done) | (go_simp; exact set_same (u := .int .i64 0) (by go_simp; done))), (hb7.cell (p := ⟨v6.heap.size, 0, none⟩) (by first | omega | (simp; done) | (simp; omega))).trans (by first | (go_simp; done) | (go_simp; exact set_same (u := .int .i64 0) (by go_simp; done))), (hb7.cell (p := ⟨v6.heap.size, 1, none⟩) (by first | omega | (simp; done) | (simp; omega))).trans (by first | (go_simp; done) | (go_simp; exact set_same (u := .int .i64 0) (by go_simp; done)))⟩
  have q7_0 : w.heap.size < v7.heap.size := by first | omega | (simp at *; omega)
  have q7_1 : v2.heap.size < v7.heap.size := by first | omega | (simp at *; omega)
  have q7_2 : v5.heap.size < v7.heap.size := by first | omega | (simp at *; omega)
  have q7_3 : v6.heap.size < v7.heap.size := by first | omega | (simp at *; omega)
  have HB7 := Lib.hid hB7_0
  have HC7 := Lib.hid hB7_1
  have y7 := hB7_0.size
  clear hb7 hB7_0 hB7_1 g6_0 g6_1 g6_2 g6_3 g6_4 g6_5 g6_6 g6_7 g6_8 g6_9 g6_10 g6_11 q6_0 q6_1 q6_2
  go_wp2_with fail
  refine (HM2.out sa sl sc pa pl pc ca cl cc _ (HP.out _ (HBW.out.trans (Below.mono (by repeat (first | exact Below.refl _ _ | with_reducible exact HB7.out | (refine Below.alloc ?_ (by first | omega | (simp; omega) | simp) _) | (refine Below.setCell ?_ (by first | omega | (simp; omega) | simp) _) | refine Below.drew ?_)) HBW.out.size)))).mono ?_
  rintro e v8 ⟨rfl, hb8⟩
  have hB8_0 : Below W0.heap.size W0 v8 := below_via (Lib.hid hb8) (by first | omega | (simp; done) | (simp; omega)) (by repeat (first | exact Below.refl _ _ | with_reducible exact HB7.out | (refine Below.alloc ?_ (by first | omega | (simp; omega) | simp) _) | (refine Below.setCell ?_ (by first | omega | (simp; omega) | simp) _) | refine Below.drew ?_))
  have hB8_1 : Below v2.heap.size v2 v8 := below_via (Lib.hid hb8) (by first | omega | (simp; done) | (simp; omega)) (by repeat (first | exact Below.refl _ _ | with_reducible exact HC7.out | (refine Below.alloc ?_ (by first | omega | (simp; omega) | simp) _) | (refine Below.setCell ?_ (by first | omega | (simp; omega) | simp) _) | refine Below.drew ?_))
  have z8 := hb8.size
  (try simp at z8)
  obtain ⟨g8_0, g8_1, g8_2, g8_3, g8_4, g8_5, g8_6, g8_7, g8_8, g8_9, g8_10, g8_11, g8_12, g8_13⟩ : v8.cell? ⟨w.heap.size, 0, none⟩ = some (.int .i64 f.len) ∧ v8.cell? ⟨w.heap.size, 1, none⟩ = some (.int .i64 f.slack) ∧ v8.cell? ⟨w.heap.size, 2, none⟩ = some (.slice sa sl sc) ∧ v8.cell? ⟨w.heap.size, 3, none⟩ = some (.slice pa pl pc) ∧ v8.cell? ⟨w.heap.size, 4, none⟩ = some (.slice ca cl cc) ∧ v8.cell? ⟨v2.heap.size, 0, none⟩ = some (.int .i64 f.len) ∧ v8.cell? ⟨v2.heap.size, 1, none⟩ = some (.int .i64 f.slack) ∧ v8.cell? ⟨v2.heap.size, 2, none⟩ = some (.slice ga sl gc) ∧ v8.cell? ⟨v2.heap.size, 3, none⟩ = some (.slice ha pl hc) ∧ v8.cell? ⟨v2.heap.size, 4, none⟩ = some (.slice ia cl ic) ∧ v8.cell? ⟨v5.heap.size, 0, none⟩ = some (.int .i64 L) ∧ v8.cell? ⟨v5.heap.size, 1, none⟩ = some (.int .i64 H) ∧ v8.cell? ⟨v6.heap.size, 0, none⟩ = some (.int .i64 L) ∧ v8.cell? ⟨v6.heap.size, 1, none⟩ = some (.int .i64 H) :=
    ⟨(hb8.cell (p := ⟨w.heap.size, 0, none⟩) (by first | omega | (simp; done) | (simp; omega))).trans (by first | (go_simp; done) | (go_simp; exact set_same (u := .int .i64 0) (by go_simp; done))), (hb8.cell (p := ⟨w.heap.size, 1, none⟩) (by first | omega | (simp; done) | (simp; omega))).trans (by first | (go_simp; done) | (go_simp; exact set_same (u := .int .i64 0) (by go_simp; done))), (hb8.cell (p := ⟨w.heap.size, 2, none⟩) (by first | omega | (simp; done) | (simp; omega))).trans (by first | (go_simp; done) | (go_simp; exact set_same (u := .int .i64 0) (by go_simp; done))), (hb8.cell (p := ⟨w.heap.size, 3, none⟩) (by first | omega | (simp; done) | (simp; omega))).trans (by first | (go_simp; done) | (go_simp; exact set_same (u := .int .i64 0) (by go_simp; done))), (hb8.cell (p := ⟨w.heap.size, 4, none⟩) (by first | omega | (simp; done) | (simp; omega))).trans (by first | (go_simp; done) | (go_simp; exact set_same (u := .int .i64 0) (by go_simp; done))), (hb8.cell (p := ⟨v2.heap.size, 0, none⟩) (by first | omega | (simp; done) | (simp; omega))).trans (by first | (go_simp; done) | (go_simp; exact set_same (u := .int .i64 0) (by go_simp; done))), (hb8.cell (p := ⟨v2.heap.size, 1, none⟩) (by first | omega | (simp; done) | (simp; omega))).trans (by first | (go_simp; done) | (go_simp; exact set_same (u := .int .i64 0) (by go_simp; done))), (hb8.cell (p := ⟨v2.heap.size, 2, none⟩) (by first | omega | (simp; done) | (simp; omega))).trans (by first | (go_simp; done) | (go_simp; exact set_same (u := .int .i64 0) (by go_simp; done))), (hb8.cell (p := ⟨v2.heap.size, 3, none⟩) (by first | omega | (simp; done) | (simp; omega))).trans (by first | (go_simp; done) | (go_simp; exact set_same (u := .int .i64 0) (by go_simp; done))), (hb8.cell (p := ⟨v2.heap.size, 4, none⟩) (by first | omega | (simp; done) | (simp; omega))).trans (by first | (go_simp; done) | (go_simp; exact set_same (u := .int .i64 0) (by go_simp; done))), (hb8.cell (p := ⟨v5.heap.size, 0, none⟩) (by first | omega | (simp; done) | (simp; omega))).trans (by first | (go_simp; done) | (go_simp; exact set_same (u := .int .i64 0) (by go_simp; done))), (hb8.cell (p := ⟨v5.heap.size, 1, none⟩) (by first | omega | (simp; done) | (simp; omega))).trans (by first | (go_simp; done) | (go_simp; exact set_same (u := .int .i64 0) (by go_simp; done))), (hb8.cell (p := ⟨v6.heap.size, 0, none⟩) (by first | omega | (simp; done) | (simp; omega))).trans (by first | (go_simp; done) | (go_simp; exact set_same (u := .int .i64 0) (by go_simp; done))), (hb8.cell (p := ⟨v6.heap.size, 1, none⟩) (by first | omega | (simp; done) | (simp; omega))).trans (by first | (go_simp; done) | (go_simp; exact set_same (u := .int .i64 0) (by go_simp; done)))⟩
  have q8_0 : w.heap.size < v8.heap.size := by first | omega | (simp at *; omega)
  have q8_1 : v2.heap.size < v8.heap.size := by first | omega | (simp at *; omega)
  have q8_2 : v5.heap.size < v8.heap.size := by first | omega | (simp at *; omega)
  have q8_3 : v6.heap.size < v8.heap.size := by first | omega | (simp at *; omega)
  have HB8 := Lib.hid hB8_0
  have HC8 := Lib.hid hB8_1
  have y8 := hB8_0.size
  clear hb8 hB8_0 hB8_1 g7_0 g7_1 g7_2 g7_3 g7_4 g7_5 g7_6 g7_7 g7_8 g7_9 g7_10 g7_11 g7_12 g7_13 q7_0 q7_1 q7_2 q7_3
  go_wp2_with fail
  refine (HSM.out ga gc ha hc ia ic _ (HO.out _ (by repeat (first | exact Below.refl _ _ | with_reducible exact HC8.out | (refine Below.alloc ?_ (by first | omega | (simp; omega) | simp) _) | (refine Below.setCell ?_ (by first | omega | (simp; omega) | simp) _) | refine Below.drew ?_))) (HP.out _ (HBW.out.trans (Below.mono (by repeat (first | exact Below.refl _ _ | with_reducible exact HB8.out | (refine Below.alloc ?_ (by first | omega | (simp; omega) | simp) _) | (refine Below.setCell ?_ (by first | omega | (simp; omega) | simp) _) | refine Below.drew ?_)) HBW.out.size)))).mono ?_
  rintro e v9 ⟨rfl, hb9⟩
  have hB9_0 : Below W0.heap.size W0 v9 := below_via (Lib.hid hb9) (by first | omega | (simp; done) | (simp; omega)) (by repeat (first | exact Below.refl _ _ | with_reducible exact HB8.out | (refine Below.alloc ?_ (by first | omega | (simp; omega) | simp) _) | (refine Below.setCell ?_ (by first | omega | (simp; omega) | simp) _) | refine Below.drew ?_))
  have hB9_1 : Below v2.heap.size v2 v9 := below_via (Lib.hid hb9) (by first | omega | (simp; done) | (simp; omega)) (by repeat (first | exact Below.refl _ _ | with_reducible exact HC8.out | (refine Below.alloc ?_ (by first | omega | (simp; omega) | simp) _) | (refine Below.setCell ?_ (by first | omega | (simp; omega) | simp) _) | refine Below.drew ?_))
  have z9 := hb9.size
  (try simp at z9)
  obtain ⟨g9_0, g9_1, g9_2, g9_3, g9_4, g9_5, g9_6, g9_7, g9_8, g9_9, g9_10, g9_11, g9_12, g9_13⟩ : v9.cell? ⟨w.heap.size, 0, none⟩ = some (.int .i64 f.len) ∧ v9.cell? ⟨w.heap.size, 1, none⟩ = some (.int .i64 f.slack) ∧ v9.cell? ⟨w.heap.size, 2, none⟩ = some (.slice sa sl sc) ∧ v9.cell? ⟨w.heap.size, 3, none⟩ = some (.slice pa pl pc) ∧ v9.cell? ⟨w.heap.size, 4, none⟩ = some (.slice ca cl cc) ∧ v9.cell? ⟨v2.heap.size, 0, none⟩ = some (.int .i64 f.len) ∧ v9.cell? ⟨v2.heap.size, 1, none⟩ = some (.int .i64 f.slack) ∧ v9.cell? ⟨v2.heap.size, 2, none⟩ = some (.slice ga sl gc) ∧ v9.cell? ⟨v2.heap.size, 3, none⟩ = some (.slice ha pl hc) ∧ v9.cell? ⟨v2.heap.size, 4, none⟩ = some (.slice ia cl ic) ∧ v9.cell? ⟨v5.heap.size, 0, none⟩ = some (.int .i64 L) ∧ v9.cell? ⟨v5.heap.size, 1, none⟩ = some (.int .i64 H) ∧ v9.cell? ⟨v6.heap.size, 0, none⟩ = some (.int .i64 L) ∧ v9.cell? ⟨v6.heap.size, 1, none⟩ = some (.int .i64 H) :=
    ⟨(hb9.cell (p := ⟨w.heap.size, 0, none⟩) (by first | omega | (simp; done) | (simp; omega))).trans (by first | (go_simp; done) | (go_simp; exact set_same (u := .int .i64 0) (by go_simp; done))), (hb9.cell (p := ⟨w.heap.size, 1, none⟩) (by first | omega | (simp; done) | (simp; omega))).trans (by first | (go_simp; done) | (go_simp; exact set_same (u := .int .i64 0) (by go_simp; done))), (hb9.cell (p := ⟨w.heap.size, 2, none⟩) (by first | omega | (simp; done) | (simp; omega))).trans (by first | (go_simp; done) | (go_simp; exact set_same (u := .int .i64 0) (by go_simp; done))), (hb9.cell (p := ⟨w.heap.size, 3, none⟩) (by first | omega | (simp; done) | (simp; omega))).trans (by first | (go_simp; done) | (go_simp; exact set_same (u := .int .i64 0) (by go_simp; done))), (hb9.cell (p := ⟨w.heap.size, 4, none⟩) (by first | omega | (simp; done) | (simp; omega))).trans (by first | (go_simp; done) | (go_simp; exact set_same (u := .int .i64 0) (by go_simp; done))), (hb9.cell (p := ⟨v2.heap.size, 0, none⟩) (by first | omega | (simp; done) | (simp; omega))).trans (by first | (go_simp; done) | (go_simp; exact set_same (u := .int .i64 0) (by go_simp; done))), (hb9.cell (p := ⟨v2.heap.size, 1, none⟩) (by first | omega | (simp; done) | (simp; omega))).trans (by first | (go_simp; done) | (go_simp; exact set_same (u := .int .i64 0) (by go_simp; done))), (hb9.cell (p := ⟨v2.heap.size, 2, none⟩) (by first | omega | (simp; done) | (simp; omega))).trans (by first | (go_simp; done) | (go_simp; exact set_same (u := .int .i64 0) (by go_simp; done))), (hb9.cell (p := ⟨v2.heap.size, 3, none⟩) (by first | omega | (simp; done) | (simp; omega))).trans (by first | (go_simp; done) | (go_simp; exact set_same (u := .int .i64 0) (by go_simp; done))), (hb9.cell (p := ⟨v2.heap.size, 4, none⟩) (by first | omega | (simp; done) | (simp; omega))).trans (by first | (go_simp; done) | (go_simp; exact set_same (u := .int .i64 0) (by go_simp; done))), (hb9.cell (p := ⟨v5.heap.size, 0, none⟩) (by first | omega | (simp; done) | (simp; omega))).trans (by first | (go_simp; done) | (go_simp; exact set_same (u := .int .i64 0) (by go_simp; done))), (hb9.cell (p := ⟨v5.heap.size, 1, none⟩) (by first | omega | (simp; done) | (simp; omega))).trans (by first | (go_simp; done) | (go_simp; exact set_same (u := .int .i64 0) (by go_simp; done))), (hb9.cell (p := ⟨v6.heap.size, 0, none⟩) (by first | omega | (simp; done) | (simp; omega))).trans (by first | (go_simp; done) | (go_simp; exact set_same (u := .int .i64 0) (by go_simp; done))), (hb9.cell (p := ⟨v6.heap.size, 1, none⟩) (by first | omega | (simp; done) | (simp; omega))).trans (by first | (go_simp; done) | (go_simp; exact set_same (u := .int .i64 0) (by go_simp; done)))⟩
  have q9_0 : w.heap.size < v9.heap.size := by first | omega | (simp at *; omega)
  have q9_1 : v2.heap.size < v9.heap.size := by first | omega | (simp at *; omega)
  have q9_2 : v5.heap.size < v9.heap.size := by first | omega | (simp at *; omega)
  have q9_3 : v6.heap.size < v9.heap.size := by first | omega | (simp at *; omega)
  have HB9 := Lib.hid hB9_0
  have HC9 := Lib.hid hB9_1
  have y9 := hB9_0.size
  clear hb9 hB9_0 hB9_1 g8_0 g8_1 g8_2 g8_3 g8_4 g8_5 g8_6 g8_7 g8_8 g8_9 g8_10 g8_11 g8_12 g8_13 q8_0 q8_1 q8_2 q8_3
  go_wp2_with fail
  refine (HK.out _).mono ?_
  rintro e v10 ⟨rfl, hb10⟩
  have hB10_0 : Below W0.heap.size W0 v10 := below_via (Lib.hid hb10) (by first | omega | (simp; done) | (simp; omega)) (by repeat (first | exact Below.refl _ _ | with_reducible exact HB9.out | (refine Below.alloc ?_ (by first | omega | (simp; omega) | simp) _) | (refine Below.setCell ?_ (by first | omega | (simp; omega) | simp) _) | refine Below.drew ?_))
  have hB10_1 : Below v2.heap.size v2 v10 := below_via (Lib.hid hb10) (by first | omega | (simp; done) | (simp; omega)) (by repeat (first | exact Below.refl _ _ | with_reducible exact HC9.out | (refine Below.alloc ?_ (by first | omega | (simp; omega) | simp) _) | (refine Below.setCell ?_ (by first | omega | (simp; omega) | simp) _) | refine Below.drew ?_))
  have z10 := hb10.size
  (try simp at z10)
  have HB10 := Lib.hid hB10_0
  have HC10 := Lib.hid hB10_1
  have y10 := hB10_0.size
  clear hb10 hB10_0 hB10_1 g9_0 g9_1 g9_2 g9_3 g9_4 g9_5 g9_6 g9_7 g9_8 g9_9 g9_10 g9_11 g9_12 g9_13 q9_0 q9_1 q9_2 q9_3
  go_wp2_with fail
  go_ret
  exact ⟨rfl, HBW.out.trans (Below.mono (by repeat (first | exact Below.refl _ _ | with_reducible exact HB10.out | (refine Below.alloc ?_ (by first | omega | (simp; omega) | simp) _) | (refine Below.setCell ?_ (by first | omega | (simp; omega) | simp) _) | refine Below.drew ?_)) HBW.out.size)⟩
end Go.Proofs.Ytlhgoedghojnkaa
