/- The law of what is refused: it holds. -/
import Derived.Test.YtlhgoedghojnkaaVZ
import Derived.Test.YtlhgoedghojnkaaWP
import Derived.Test.YtlhgoedghojnkaaVK
namespace Go.Proofs.Ytlhgoedghojnkaa
set_option linter.unusedVariables false
set_option linter.unusedSimpArgs false
open Go.RowKit Go.Shelf

theorem out_none {f : PFrame} (ho : f.ok = false) : f.outL = [] ∧ f.outErr = 30 ∧ f.outP = 0 := by
  unfold PFrame.outL PFrame.outErr PFrame.outP PFrame.out
  rw [ho]
  exact ⟨rfl, rfl, rfl⟩
theorem out_is {f : PFrame} (ho : f.ok = true) : (f.refK = none ∧ f.outL = [] ∧ f.outErr = 3 ∧ f.outP = 0) ∨ (f.refK = some f.outL ∧ f.outErr = 0 ∧ f.outP = f.penL f.outL ∧ (∀ y ∈ f.outL, 0 ≤ y ∧ y < (f.pieces.length : Int)) ∧ f.outL.length ≤ 6) := by
  have h6 := (PFrame.ok_parts ho).2.2.2.2.2.1
  unfold PFrame.outL PFrame.outErr PFrame.outP
  rcases refuse_are ho with ⟨h1, h2⟩ | ⟨c, hc, h1, h2⟩
  · rw [h2, ho]; exact .inl ⟨h1, rfl, rfl, rfl⟩
  · rw [h1]
    have hin := lis_in h6 ((lis_mem h6).2.1 c hc)
    exact .inr ⟨h2, rfl, pay_pen f c _, hin.1, hin.2⟩
theorem refRefuse_any (f : PFrame) (sa : Option Addr) (sl sc : Nat) (pa : Option Addr) (pl pc : Nat) (ca : Option Addr) (cl cc : Nat) (hB : ∀ c ∈ f.cols, c.length ≤ 1000) (w : World) (hp : PAt w sa sl sc pa pl pc ca cl cc f) :
    Calls Try.prog 39 #[.agg #[.int .i64 f.len, .int .i64 f.slack, .slice sa sl sc, .slice pa pl pc, .slice ca cl cc]] w fun e w' => (∃ a len c, e = .returned (.tuple #[.slice a len c, .int .i64 f.outErr]) ∧ IntsAt w' a len f.outL) ∧ Below w.heap.size w w' := by
  rcases ho : f.ok with - | -
  · obtain ⟨h1, h2, -⟩ := out_none ho
    refine (refRefuse_no f sa sl sc pa pl pc ca cl cc ho hB w hp).mono ?_
    rintro e w' ⟨rfl, hb⟩
    rw [h1, h2]
    exact ⟨⟨none, 0, 0, rfl, ints_nil w'⟩, hb⟩
  · refine (refRefuse_yes f sa sl sc pa pl pc ca cl cc ho w hp).mono ?_
    intro e w' h
    unfold RefPost at h
    rw [ho, if_pos rfl] at h
    rcases out_is ho with ⟨h1, h2, h3, -⟩ | ⟨h1, h2, -⟩
    · rw [h1] at h
      rw [h2, h3]
      exact ⟨⟨none, 0, 0, h.2, ints_nil w'⟩, h.1⟩
    · rw [h1] at h
      obtain ⟨h4, a, c, h5, h6⟩ := h
      rw [h2]
      exact ⟨⟨a, _, c, h5, h6⟩, h4⟩

set_option maxRecDepth 100000 in
set_option maxHeartbeats 8000000 in
theorem refLost_any (f : PFrame) (sa : Option Addr) (sl sc : Nat) (pa : Option Addr) (pl pc : Nat) (ca : Option Addr) (cl cc : Nat) (hB : ∀ c ∈ f.cols, c.length ≤ 1000) (w : World) (hp : PAt w sa sl sc pa pl pc ca cl cc f) :
    Calls Try.prog 41 #[.agg #[.int .i64 f.len, .int .i64 f.slack, .slice sa sl sc, .slice pa pl pc, .slice ca cl cc]] w fun e w' => e = .returned (.tuple #[.int .i64 f.outP, .int .i64 f.outErr]) ∧ Below w.heap.size w w' := by
  have HR := Lib.hid (fun W (hb : Below w.heap.size w W) => refRefuse_any f sa sl sc pa pl pc ca cl cc hB W (hp.below hb))
  by_cases hc : f.outErr = 0
  · have ho : f.ok = true := by
      rcases h : f.ok with - | -
      · have := (out_none h).2.1; omega
      · rfl
    obtain ⟨hpn, hin, hl6⟩ : f.outP = f.penL f.outL ∧ (∀ y ∈ f.outL, 0 ≤ y ∧ y < (f.pieces.length : Int)) ∧ f.outL.length ≤ 6 := by
      rcases out_is ho with ⟨-, -, h, -⟩ | ⟨-, -, h1, h2, h3⟩
      · omega
      · exact ⟨h1, h2, h3⟩
    have HPN := Lib.hid (fun xa xl xc (h40 : xl ≤ 40) W (hb : Below w.heap.size w W) (hx : IntsAt W xa xl f.outL) => refPence_any f sa sl sc pa pl pc ca cl cc xa xl xc f.outL ho hin h40 W (hp.below hb) hx)
    rw [hc] at HR ⊢
    rw [hpn]
    clear hp hin hpn ho hc hB
    generalize f.penL f.outL = pn at *
    generalize f.outL = X at *
    go_enter Try.func41, Try.ntmps41
    go_wp2_with fail
    obtain ⟨W0, hW0, hB0, ⟨g0_0, g0_1, g0_2, g0_3, g0_4⟩, hz0⟩ : ∃ W0, (w.alloc (.cells #[.int .i64 f.len, .int .i64 f.slack, .slice sa sl sc, .slice pa pl pc, .slice ca cl cc] 26)) = W0 ∧ Below w.heap.size w W0 ∧ (W0.cell? ⟨w.heap.size, 0, none⟩ = some (.int .i64 f.len) ∧ W0.cell? ⟨w.heap.size, 1, none⟩ = some (.int .i64 f.slack) ∧ W0.cell? ⟨w.heap.size, 2, none⟩ = some (.slice sa sl sc) ∧ W0.cell? ⟨w.heap.size, 3, none⟩ = some (.slice pa pl pc) ∧ W0.cell? ⟨w.heap.size, 4, none⟩ = some (.slice ca cl cc)) ∧ W0.heap.size = w.heap.size + 1 :=
      ⟨_, rfl, (by repeat (first | exact Below.refl _ _ | (refine Below.alloc ?_ (by first | omega | (simp; omega) | simp) _) | (refine Below.setCell ?_ (by first | omega | (simp; omega) | simp) _) | refine Below.drew ?_)), ⟨by go_simp, by go_simp, by go_simp, by go_simp, by go_simp⟩, by simp⟩
    rw [hW0]
    clear hW0
    have HBW := Lib.hid hB0
    have q0_0 : w.heap.size < W0.heap.size := by omega
    clear hB0 hz0
    go_wp2_with fail
    refine (HR.out _ (HBW.out.trans (Below.mono (by repeat (first | exact Below.refl _ _ | (refine Below.alloc ?_ (by first | omega | (simp; omega) | simp) _) | (refine Below.setCell ?_ (by first | omega | (simp; omega) | simp) _) | refine Below.drew ?_)) HBW.out.size))).mono ?_
    rintro e v1 ⟨⟨ga, gl, gc, rfl, hx1⟩, hb1⟩
    have hB1_0 : Below W0.heap.size W0 v1 := below_via (Lib.hid hb1) (by first | omega | (simp; done) | (simp; omega)) (by repeat (first | exact Below.refl _ _ | (refine Below.alloc ?_ (by first | omega | (simp; omega) | simp) _) | (refine Below.setCell ?_ (by first | omega | (simp; omega) | simp) _) | refine Below.drew ?_))
    have z1 := hb1.size
    (try simp at z1)
    obtain ⟨g1_0, g1_1, g1_2, g1_3, g1_4⟩ : v1.cell? ⟨w.heap.size, 0, none⟩ = some (.int .i64 f.len) ∧ v1.cell? ⟨w.heap.size, 1, none⟩ = some (.int .i64 f.slack) ∧ v1.cell? ⟨w.heap.size, 2, none⟩ = some (.slice sa sl sc) ∧ v1.cell? ⟨w.heap.size, 3, none⟩ = some (.slice pa pl pc) ∧ v1.cell? ⟨w.heap.size, 4, none⟩ = some (.slice ca cl cc) :=
      ⟨(hb1.cell (p := ⟨w.heap.size, 0, none⟩) (by first | omega | (simp; done) | (simp; omega))).trans (by first | (go_simp; done) | (go_simp; exact set_same (u := .int .i64 0) (by go_simp; done))), (hb1.cell (p := ⟨w.heap.size, 1, none⟩) (by first | omega | (simp; done) | (simp; omega))).trans (by first | (go_simp; done) | (go_simp; exact set_same (u := .int .i64 0) (by go_simp; done))), (hb1.cell (p := ⟨w.heap.size, 2, none⟩) (by first | omega | (simp; done) | (simp; omega))).trans (by first | (go_simp; done) | (go_simp; exact set_same (u := .int .i64 0) (by go_simp; done))), (hb1.cell (p := ⟨w.heap.size, 3, none⟩) (by first | omega | (simp; done) | (simp; omega))).trans (by first | (go_simp; done) | (go_simp; exact set_same (u := .int .i64 0) (by go_simp; done))), (hb1.cell (p := ⟨w.heap.size, 4, none⟩) (by first | omega | (simp; done) | (simp; omega))).trans (by first | (go_simp; done) | (go_simp; exact set_same (u := .int .i64 0) (by go_simp; done)))⟩
    have q1_0 : w.heap.size < v1.heap.size := by first | omega | (simp at *; omega)
    have HB1 := Lib.hid hB1_0
    have y1 := hB1_0.size
    clear hb1 hB1_0 g0_0 g0_1 g0_2 g0_3 g0_4 q0_0
    have hgl := hx1.1
    have HX1 := Lib.hid (fun W (h : Below v1.heap.size v1 W) => hx1.below h)
    clear hx1
    go_wp2_with fail
    refine (HPN.out ga gl gc (by omega) _ (HBW.out.trans (Below.mono (by repeat (first | exact Below.refl _ _ | with_reducible exact HB1.out | (refine Below.alloc ?_ (by first | omega | (simp; omega) | simp) _) | (refine Below.setCell ?_ (by first | omega | (simp; omega) | simp) _) | refine Below.drew ?_)) HBW.out.size)) (HX1.out _ (by repeat (first | exact Below.refl _ _ | (refine Below.alloc ?_ (by first | omega | (simp; omega) | simp) _) | (refine Below.setCell ?_ (by first | omega | (simp; omega) | simp) _) | refine Below.drew ?_)))).mono ?_
    rintro e v2 ⟨rfl, hb2⟩
    have hB2_0 : Below W0.heap.size W0 v2 := below_via (Lib.hid hb2) (by first | omega | (simp; done) | (simp; omega)) (by repeat (first | exact Below.refl _ _ | with_reducible exact HB1.out | (refine Below.alloc ?_ (by first | omega | (simp; omega) | simp) _) | (refine Below.setCell ?_ (by first | omega | (simp; omega) | simp) _) | refine Below.drew ?_))
    have hB2_1 : Below v1.heap.size v1 v2 := below_via (Lib.hid hb2) (by first | omega | (simp; done) | (simp; omega)) (by repeat (first | exact Below.refl _ _ | (refine Below.alloc ?_ (by first | omega | (simp; omega) | simp) _) | (refine Below.setCell ?_ (by first | omega | (simp; omega) | simp) _) | refine Below.drew ?_))
    have z2 := hb2.size
    (try simp at z2)
    have HB2 := Lib.hid hB2_0
    have HC2 := Lib.hid hB2_1
    have y2 := hB2_0.size
    clear hb2 hB2_0 hB2_1 g1_0 g1_1 g1_2 g1_3 g1_4 q1_0
    go_wp2_with fail
    go_ret2
    exact ⟨rfl, HBW.out.trans (Below.mono (by repeat (first | exact Below.refl _ _ | with_reducible exact HB2.out | (refine Below.alloc ?_ (by first | omega | (simp; omega) | simp) _) | (refine Below.setCell ?_ (by first | omega | (simp; omega) | simp) _) | refine Below.drew ?_)) HBW.out.size)⟩
  · have hz : f.outP = 0 := by
      rcases h : f.ok with - | -
      · exact (out_none h).2.2
      · rcases out_is h with ⟨-, -, -, h1⟩ | ⟨-, h1, -⟩
        · exact h1
        · exact absurd h1 hc
    have e2 : (f.outErr != 0) = true := by simpa using hc
    rw [hz]
    clear hp hz hB
    generalize f.outErr = v at *
    generalize f.outL = X at *
    go_enter Try.func41, Try.ntmps41
    go_wp2_with fail
    obtain ⟨W0, hW0, hB0, ⟨g0_0, g0_1, g0_2, g0_3, g0_4⟩, hz0⟩ : ∃ W0, (w.alloc (.cells #[.int .i64 f.len, .int .i64 f.slack, .slice sa sl sc, .slice pa pl pc, .slice ca cl cc] 26)) = W0 ∧ Below w.heap.size w W0 ∧ (W0.cell? ⟨w.heap.size, 0, none⟩ = some (.int .i64 f.len) ∧ W0.cell? ⟨w.heap.size, 1, none⟩ = some (.int .i64 f.slack) ∧ W0.cell? ⟨w.heap.size, 2, none⟩ = some (.slice sa sl sc) ∧ W0.cell? ⟨w.heap.size, 3, none⟩ = some (.slice pa pl pc) ∧ W0.cell? ⟨w.heap.size, 4, none⟩ = some (.slice ca cl cc)) ∧ W0.heap.size = w.heap.size + 1 :=
      ⟨_, rfl, (by repeat (first | exact Below.refl _ _ | (refine Below.alloc ?_ (by first | omega | (simp; omega) | simp) _) | (refine Below.setCell ?_ (by first | omega | (simp; omega) | simp) _) | refine Below.drew ?_)), ⟨by go_simp, by go_simp, by go_simp, by go_simp, by go_simp⟩, by simp⟩
    rw [hW0]
    clear hW0
    have HBW := Lib.hid hB0
    have q0_0 : w.heap.size < W0.heap.size := by omega
    clear hB0 hz0
    go_wp2_with fail
    refine (HR.out _ (HBW.out.trans (Below.mono (by repeat (first | exact Below.refl _ _ | (refine Below.alloc ?_ (by first | omega | (simp; omega) | simp) _) | (refine Below.setCell ?_ (by first | omega | (simp; omega) | simp) _) | refine Below.drew ?_)) HBW.out.size))).mono ?_
    rintro e v1 ⟨⟨ga, gl, gc, rfl, -⟩, hb1⟩
    have hB1_0 : Below W0.heap.size W0 v1 := below_via (Lib.hid hb1) (by first | omega | (simp; done) | (simp; omega)) (by repeat (first | exact Below.refl _ _ | (refine Below.alloc ?_ (by first | omega | (simp; omega) | simp) _) | (refine Below.setCell ?_ (by first | omega | (simp; omega) | simp) _) | refine Below.drew ?_))
    have z1 := hb1.size
    (try simp at z1)
    have HB1 := Lib.hid hB1_0
    have y1 := hB1_0.size
    clear hb1 hB1_0 g0_0 g0_1 g0_2 g0_3 g0_4 q0_0
    go_wp2_with fail
    go_ret2
    exact ⟨rfl, HBW.out.trans (Below.mono (by repeat (first | exact Below.refl _ _ | with_reducible exact HB1.out | (refine Below.alloc ?_ (by first | omega | (simp; omega) | simp) _) | (refine Below.setCell ?_ (by first | omega | (simp; omega) | simp) _) | refine Below.drew ?_)) HBW.out.size)⟩
theorem huge_sizes {f : PFrame} {w : World} {sa : Option Addr} {sl sc : Nat} {pa : Option Addr} {pl pc : Nat} {ca : Option Addr} {cl cc : Nat} (h : f.huge = false) (hp : PAt w sa sl sc pa pl pc ca cl cc f) : sl ≤ 1000 ∧ cl ≤ 1000 ∧ pl ≤ 1000 := by
  unfold PFrame.huge at h
  simp only [Bool.or_eq_false_iff, decide_eq_false_iff_not] at h
  have e1 := hp.1.1
  have e2 := hp.2.1.1
  have e3 := hp.2.2.1
  omega

set_option maxRecDepth 100000 in
set_option maxHeartbeats 8000000 in
theorem PagesRefuse_any (f : PFrame) (sa : Option Addr) (sl sc : Nat) (pa : Option Addr) (pl pc : Nat) (ca : Option Addr) (cl cc : Nat) (w : World) (hp : PAt w sa sl sc pa pl pc ca cl cc f) :
    Calls Try.prog 5 #[.agg #[.int .i64 f.len, .int .i64 f.slack, .slice sa sl sc, .slice pa pl pc, .slice ca cl cc]] w fun e w' => e = .returned (.bool true) ∧ Below w.heap.size w w' := by
  have HK := Lib.hid (fun W => works_any W)
  rcases hf : f.far with - | -
  rotate_left
  · have HF1 := Lib.hid (fun W (h : Below w.heap.size w W) => Far_is f sa sl sc pa pl pc ca cl cc true hf W (hp.below h))
    clear hf hp
    go_enter Try.func5, Try.ntmps5
    go_wp2_with fail
    obtain ⟨W0, hW0, hB0, ⟨g0_0, g0_1, g0_2, g0_3, g0_4⟩, hz0⟩ : ∃ W0, (w.alloc (.cells #[.int .i64 f.len, .int .i64 f.slack, .slice sa sl sc, .slice pa pl pc, .slice ca cl cc] 26)) = W0 ∧ Below w.heap.size w W0 ∧ (W0.cell? ⟨w.heap.size, 0, none⟩ = some (.int .i64 f.len) ∧ W0.cell? ⟨w.heap.size, 1, none⟩ = some (.int .i64 f.slack) ∧ W0.cell? ⟨w.heap.size, 2, none⟩ = some (.slice sa sl sc) ∧ W0.cell? ⟨w.heap.size, 3, none⟩ = some (.slice pa pl pc) ∧ W0.cell? ⟨w.heap.size, 4, none⟩ = some (.slice ca cl cc)) ∧ W0.heap.size = w.heap.size + 1 :=
      ⟨_, rfl, (by repeat (first | exact Below.refl _ _ | (refine Below.alloc ?_ (by first | omega | (simp; omega) | simp) _) | (refine Below.setCell ?_ (by first | omega | (simp; omega) | simp) _) | refine Below.drew ?_)), ⟨by go_simp, by go_simp, by go_simp, by go_simp, by go_simp⟩, by simp⟩
    rw [hW0]
    clear hW0
    have HBW := Lib.hid hB0
    have q0_0 : w.heap.size < W0.heap.size := by omega
    clear hB0 hz0
    go_wp2_with fail
    refine (HF1.out _ (HBW.out.trans (Below.mono (by repeat (first | exact Below.refl _ _ | (refine Below.alloc ?_ (by first | omega | (simp; omega) | simp) _) | (refine Below.setCell ?_ (by first | omega | (simp; omega) | simp) _) | refine Below.drew ?_)) HBW.out.size))).mono ?_
    rintro e v1 ⟨rfl, hb1⟩
    have hB1_0 : Below W0.heap.size W0 v1 := below_via (Lib.hid hb1) (by first | omega | (simp; done) | (simp; omega)) (by repeat (first | exact Below.refl _ _ | (refine Below.alloc ?_ (by first | omega | (simp; omega) | simp) _) | (refine Below.setCell ?_ (by first | omega | (simp; omega) | simp) _) | refine Below.drew ?_))
    have z1 := hb1.size
    (try simp at z1)
    obtain ⟨g1_0, g1_1, g1_2, g1_3, g1_4⟩ : v1.cell? ⟨w.heap.size, 0, none⟩ = some (.int .i64 f.len) ∧ v1.cell? ⟨w.heap.size, 1, none⟩ = some (.int .i64 f.slack) ∧ v1.cell? ⟨w.heap.size, 2, none⟩ = some (.slice sa sl sc) ∧ v1.cell? ⟨w.heap.size, 3, none⟩ = some (.slice pa pl pc) ∧ v1.cell? ⟨w.heap.size, 4, none⟩ = some (.slice ca cl cc) :=
      ⟨(hb1.cell (p := ⟨w.heap.size, 0, none⟩) (by first | omega | (simp; done) | (simp; omega))).trans (by first | (go_simp; done) | (go_simp; exact set_same (u := .int .i64 0) (by go_simp; done))), (hb1.cell (p := ⟨w.heap.size, 1, none⟩) (by first | omega | (simp; done) | (simp; omega))).trans (by first | (go_simp; done) | (go_simp; exact set_same (u := .int .i64 0) (by go_simp; done))), (hb1.cell (p := ⟨w.heap.size, 2, none⟩) (by first | omega | (simp; done) | (simp; omega))).trans (by first | (go_simp; done) | (go_simp; exact set_same (u := .int .i64 0) (by go_simp; done))), (hb1.cell (p := ⟨w.heap.size, 3, none⟩) (by first | omega | (simp; done) | (simp; omega))).trans (by first | (go_simp; done) | (go_simp; exact set_same (u := .int .i64 0) (by go_simp; done))), (hb1.cell (p := ⟨w.heap.size, 4, none⟩) (by first | omega | (simp; done) | (simp; omega))).trans (by first | (go_simp; done) | (go_simp; exact set_same (u := .int .i64 0) (by go_simp; done)))⟩
    have q1_0 : w.heap.size < v1.heap.size := by first | omega | (simp at *; omega)
    have HB1 := Lib.hid hB1_0
    have y1 := hB1_0.size
    clear hb1 hB1_0 g0_0 g0_1 g0_2 g0_3 g0_4 q0_0
    go_wp2_with fail
    refine (HK.out _).mono ?_
    rintro e v2 ⟨rfl, hb2⟩
    have hB2_0 : Below W0.heap.size W0 v2 := below_via (Lib.hid hb2) (by first | omega | (simp; done) | (simp; omega)) (by repeat (first | exact Below.refl _ _ | with_reducible exact HB1.out | (refine Below.alloc ?_ (by first | omega | (simp; omega) | simp) _) | (refine Below.setCell ?_ (by first | omega | (simp; omega) | simp) _) | refine Below.drew ?_))
    have z2 := hb2.size
    (try simp at z2)
    have HB2 := Lib.hid hB2_0
    have y2 := hB2_0.size
    clear hb2 hB2_0 g1_0 g1_1 g1_2 g1_3 g1_4 q1_0
    go_wp2_with fail
    go_ret
    exact ⟨rfl, HBW.out.trans (Below.mono (by repeat (first | exact Below.refl _ _ | with_reducible exact HB2.out | (refine Below.alloc ?_ (by first | omega | (simp; omega) | simp) _) | (refine Below.setCell ?_ (by first | omega | (simp; omega) | simp) _) | refine Below.drew ?_)) HBW.out.size)⟩
  have hh := Huge_of_far hf
  have hB := huge_cols hh
  obtain ⟨u1, u2, u3⟩ := huge_sizes hh hp
  have HF1 := Lib.hid (fun W (h : Below w.heap.size w W) => Far_is f sa sl sc pa pl pc ca cl cc false hf W (hp.below h))
  have HCP := Lib.hid (fun W (h : Below w.heap.size w W) => Copy_keeps f sa sl sc pa pl pc ca cl cc W (hp.below h) u1 u2 u3 hB)
  have HR1 := Lib.hid (fun ta tc qa qc da dc W (h : PAt W ta sl tc qa pl qc da cl dc f) => Refuse_any f ta sl tc qa pl qc da cl dc W h)
  have HR2 := Lib.hid (fun W (h : PAt W sa sl sc pa pl pc ca cl cc f) => refRefuse_any f sa sl sc pa pl pc ca cl cc hB W h)
  have HL1 := Lib.hid (fun ta tc qa qc da dc W (h : PAt W ta sl tc qa pl qc da cl dc f) => Lost_any f ta sl tc qa pl qc da cl dc W h)
  have HL2 := Lib.hid (fun W (h : PAt W sa sl sc pa pl pc ca cl cc f) => refLost_any f sa sl sc pa pl pc ca cl cc hB W h)
  have HP := Lib.hid (fun W (h : Below w.heap.size w W) => hp.below h)
  have HSM := Lib.hid (fun ta tc qa qc da dc W (h : PAt W ta sl tc qa pl qc da cl dc f) (h' : PAt W sa sl sc pa pl pc ca cl cc f) => Same_yes f ta sl tc qa pl qc da cl dc sa sc pa pc ca cc W h h')
  have HSI := Lib.hid (fun ya yl yc za zl zc W (h : IntsAt W ya yl f.outL) (h' : IntsAt W za zl f.outL) => same_refl W ya yl yc za zl zc f.outL h h')
  clear hh hp hB hf
  generalize f.outL = X at *
  generalize f.outErr = v at *
  generalize f.outP = pn at *
  go_enter Try.func5, Try.ntmps5
  go_wp2_with fail
  obtain ⟨W0, hW0, hB0, ⟨g0_0, g0_1, g0_2, g0_3, g0_4⟩, hz0⟩ : ∃ W0, (w.alloc (.cells #[.int .i64 f.len, .int .i64 f.slack, .slice sa sl sc, .slice pa pl pc, .slice ca cl cc] 26)) = W0 ∧ Below w.heap.size w W0 ∧ (W0.cell? ⟨w.heap.size, 0, none⟩ = some (.int .i64 f.len) ∧ W0.cell? ⟨w.heap.size, 1, none⟩ = some (.int .i64 f.slack) ∧ W0.cell? ⟨w.heap.size, 2, none⟩ = some (.slice sa sl sc) ∧ W0.cell? ⟨w.heap.size, 3, none⟩ = some (.slice pa pl pc) ∧ W0.cell? ⟨w.heap.size, 4, none⟩ = some (.slice ca cl cc)) ∧ W0.heap.size = w.heap.size + 1 :=
    ⟨_, rfl, (by repeat (first | exact Below.refl _ _ | (refine Below.alloc ?_ (by first | omega | (simp; omega) | simp) _) | (refine Below.setCell ?_ (by first | omega | (simp; omega) | simp) _) | refine Below.drew ?_)), ⟨by go_simp, by go_simp, by go_simp, by go_simp, by go_simp⟩, by simp⟩
  rw [hW0]
  clear hW0
  have HBW := Lib.hid hB0
  have q0_0 : w.heap.size < W0.heap.size := by omega
  clear hB0 hz0
  go_wp2_with fail
  refine (HF1.out _ (HBW.out.trans (Below.mono (by repeat (first | exact Below.refl _ _ | (refine Below.alloc ?_ (by first | omega | (simp; omega) | simp) _) | (refine Below.setCell ?_ (by first | omega | (simp; omega) | simp) _) | refine Below.drew ?_)) HBW.out.size))).mono ?_
  rintro e v1 ⟨rfl, hb1⟩
  have hB1_0 : Below W0.heap.size W0 v1 := below_via (Lib.hid hb1) (by first | omega | (simp; done) | (simp; omega)) (by repeat (first | exact Below.refl _ _ | (refine Below.alloc ?_ (by first | omega | (simp; omega) | simp) _) | (refine Below.setCell ?_ (by first | omega | (simp; omega) | simp) _) | refine Below.drew ?_))
  have z1 := hb1.size
  (try simp at z1)
  obtain ⟨g1_0, g1_1, g1_2, g1_3, g1_4⟩ : v1.cell? ⟨w.heap.size, 0, none⟩ = some (.int .i64 f.len) ∧ v1.cell? ⟨w.heap.size, 1, none⟩ = some (.int .i64 f.slack) ∧ v1.cell? ⟨w.heap.size, 2, none⟩ = some (.slice sa sl sc) ∧ v1.cell? ⟨w.heap.size, 3, none⟩ = some (.slice pa pl pc) ∧ v1.cell? ⟨w.heap.size, 4, none⟩ = some (.slice ca cl cc) :=
    ⟨(hb1.cell (p := ⟨w.heap.size, 0, none⟩) (by first | omega | (simp; done) | (simp; omega))).trans (by first | (go_simp; done) | (go_simp; exact set_same (u := .int .i64 0) (by go_simp; done))), (hb1.cell (p := ⟨w.heap.size, 1, none⟩) (by first | omega | (simp; done) | (simp; omega))).trans (by first | (go_simp; done) | (go_simp; exact set_same (u := .int .i64 0) (by go_simp; done))), (hb1.cell (p := ⟨w.heap.size, 2, none⟩) (by first | omega | (simp; done) | (simp; omega))).trans (by first | (go_simp; done) | (go_simp; exact set_same (u := .int .i64 0) (by go_simp; done))), (hb1.cell (p := ⟨w.heap.size, 3, none⟩) (by first | omega | (simp; done) | (simp; omega))).trans (by first | (go_simp; done) | (go_simp; exact set_same (u := .int .i64 0) (by go_simp; done))), (hb1.cell (p := ⟨w.heap.size, 4, none⟩) (by first | omega | (simp; done) | (simp; omega))).trans (by first | (go_simp; done) | (go_simp; exact set_same (u := .int .i64 0) (by go_simp; done)))⟩
  have q1_0 : w.heap.size < v1.heap.size := by first | omega | (simp at *; omega)
  have HB1 := Lib.hid hB1_0
  have y1 := hB1_0.size
  clear hb1 hB1_0 g0_0 g0_1 g0_2 g0_3 g0_4 q0_0
  go_wp2_with fail
  refine (HCP.out _ (HBW.out.trans (Below.mono (by repeat (first | exact Below.refl _ _ | with_reducible exact HB1.out | (refine Below.alloc ?_ (by first | omega | (simp; omega) | simp) _) | (refine Below.setCell ?_ (by first | omega | (simp; omega) | simp) _) | refine Below.drew ?_)) HBW.out.size))).mono ?_
  rintro e v2 ⟨ga, gc, ha, hc, ia, ic, rfl, hK, hb2⟩
  have hB2_0 : Below W0.heap.size W0 v2 := below_via (Lib.hid hb2) (by first | omega | (simp; done) | (simp; omega)) (by repeat (first | exact Below.refl _ _ | with_reducible exact HB1.out | (refine Below.alloc ?_ (by first | omega | (simp; omega) | simp) _) | (refine Below.setCell ?_ (by first | omega | (simp; omega) | simp) _) | refine Below.drew ?_))
  have z2 := hb2.size
  (try simp at z2)
  obtain ⟨g2_0, g2_1, g2_2, g2_3, g2_4⟩ : v2.cell? ⟨w.heap.size, 0, none⟩ = some (.int .i64 f.len) ∧ v2.cell? ⟨w.heap.size, 1, none⟩ = some (.int .i64 f.slack) ∧ v2.cell? ⟨w.heap.size, 2, none⟩ = some (.slice sa sl sc) ∧ v2.cell? ⟨w.heap.size, 3, none⟩ = some (.slice pa pl pc) ∧ v2.cell? ⟨w.heap.size, 4, none⟩ = some (.slice ca cl cc) :=
    ⟨(hb2.cell (p := ⟨w.heap.size, 0, none⟩) (by first | omega | (simp; done) | (simp; omega))).trans (by first | (go_simp; done) | (go_simp; exact set_same (u := .int .i64 0) (by go_simp; done))), (hb2.cell (p := ⟨w.heap.size, 1, none⟩) (by first | omega | (simp; done) | (simp; omega))).trans (by first | (go_simp; done) | (go_simp; exact set_same (u := .int .i64 0) (by go_simp; done))), (hb2.cell (p := ⟨w.heap.size, 2, none⟩) (by first | omega | (simp; done) | (simp; omega))).trans (by first | (go_simp; done) | (go_simp; exact set_same (u := .int .i64 0) (by go_simp; done))), (hb2.cell (p := ⟨w.heap.size, 3, none⟩) (by first | omega | (simp; done) | (simp; omega))).trans (by first | (go_simp; done) | (go_simp; exact set_same (u := .int .i64 0) (by go_simp; done))), (hb2.cell (p := ⟨w.heap.size, 4, none⟩) (by first | omega | (simp; done) | (simp; omega))).trans (by first | (go_simp; done) | (go_simp; exact set_same (u := .int .i64 0) (by go_simp; done)))⟩
  have q2_0 : w.heap.size < v2.heap.size := by first | omega | (simp at *; omega)
  have HB2 := Lib.hid hB2_0
  have y2 := hB2_0.size
  clear hb2 hB2_0 g1_0 g1_1 g1_2 g1_3 g1_4 q1_0
  have HO := Lib.hid (fun W (h : Below v2.heap.size v2 W) => hK W (KeepsUp.below h))
  clear hK HF1 HCP
  go_wp2_with fail
  refine (HR1.out ga gc ha hc ia ic _ (HO.out _ (by repeat (first | exact Below.refl _ _ | (refine Below.alloc ?_ (by first | omega | (simp; omega) | simp) _) | (refine Below.setCell ?_ (by first | omega | (simp; omega) | simp) _) | refine Below.drew ?_)))).mono ?_
  rintro e v3 ⟨ka, kl, kc, rfl, hk3, hb3⟩
  have hB3_0 : Below W0.heap.size W0 v3 := below_via (Lib.hid hb3) (by first | omega | (simp; done) | (simp; omega)) (by repeat (first | exact Below.refl _ _ | with_reducible exact HB2.out | (refine Below.alloc ?_ (by first | omega | (simp; omega) | simp) _) | (refine Below.setCell ?_ (by first | omega | (simp; omega) | simp) _) | refine Below.drew ?_))
  have hB3_1 : Below v2.heap.size v2 v3 := below_via (Lib.hid hb3) (by first | omega | (simp; done) | (simp; omega)) (by repeat (first | exact Below.refl _ _ | (refine Below.alloc ?_ (by first | omega | (simp; omega) | simp) _) | (refine Below.setCell ?_ (by first | omega | (simp; omega) | simp) _) | refine Below.drew ?_))
  have z3 := hb3.size
  (try simp at z3)
  obtain ⟨g3_0, g3_1, g3_2, g3_3, g3_4, g3_5, g3_6, g3_7, g3_8, g3_9⟩ : v3.cell? ⟨w.heap.size, 0, none⟩ = some (.int .i64 f.len) ∧ v3.cell? ⟨w.heap.size, 1, none⟩ = some (.int .i64 f.slack) ∧ v3.cell? ⟨w.heap.size, 2, none⟩ = some (.slice sa sl sc) ∧ v3.cell? ⟨w.heap.size, 3, none⟩ = some (.slice pa pl pc) ∧ v3.cell? ⟨w.heap.size, 4, none⟩ = some (.slice ca cl cc) ∧ v3.cell? ⟨v2.heap.size, 0, none⟩ = some (.int .i64 f.len) ∧ v3.cell? ⟨v2.heap.size, 1, none⟩ = some (.int .i64 f.slack) ∧ v3.cell? ⟨v2.heap.size, 2, none⟩ = some (.slice ga sl gc) ∧ v3.cell? ⟨v2.heap.size, 3, none⟩ = some (.slice ha pl hc) ∧ v3.cell? ⟨v2.heap.size, 4, none⟩ = some (.slice ia cl ic) :=
    ⟨(hb3.cell (p := ⟨w.heap.size, 0, none⟩) (by first | omega | (simp; done) | (simp; omega))).trans (by first | (go_simp; done) | (go_simp; exact set_same (u := .int .i64 0) (by go_simp; done))), (hb3.cell (p := ⟨w.heap.size, 1, none⟩) (by first | omega | (simp; done) | (simp; omega))).trans (by first | (go_simp; done) | (go_simp; exact set_same (u := .int .i64 0) (by go_simp; done))), (hb3.cell (p := ⟨w.heap.size, 2, none⟩) (by first | omega | (simp; done) | (simp; omega))).trans (by first | (go_simp; done) | (go_simp; exact set_same (u := .int .i64 0) (by go_simp; done))), (hb3.cell (p := ⟨w.heap.size, 3, none⟩) (by first | omega | (simp; done) | (simp; omega))).trans (by first | (go_simp; done) | (go_simp; exact set_same (u := .int .i64 0) (by go_simp; done))), (hb3.cell (p := ⟨w.heap.size, 4, none⟩) (by first | omega | (simp; done) | (simp; omega))).trans (by first | (go_simp; done) | (go_simp; exact set_same (u := .int .i64 0) (by go_simp; done))), (hb3.cell (p := ⟨v2.heap.size, 0, none⟩) (by first | omega | (simp; done) | (simp; omega))).trans (by first | (go_simp; done) | (go_simp; exact set_same (u := .int .i64 0) (by go_simp; done))), (hb3.cell (p := ⟨v2.heap.size, 1, none⟩) (by first | omega | (simp; done) | (simp; omega))).trans (by first | (go_simp; done) | (go_simp; exact set_same (u := .int .i64 0) (by go_simp; done))), (hb3.cell (p := ⟨v2.heap.size, 2, none⟩) (by first | omega | (simp; done) | (simp; omega))).trans (by first | (go_simp; done) | (go_simp; exact set_same (u := .int .i64 0) (by go_simp; done))), (hb3.cell (p := ⟨v2.heap.size, 3, none⟩) (by first | omega | (simp; done) | (simp; omega))).trans (by first | (go_simp; done) | (go_simp; exact set_same (u := .int .i64 0) (by go_simp; done))), (hb3.cell (p := ⟨v2.heap.size, 4, none⟩) (by first | omega | (simp; done) | (simp; omega))).trans (by first | (go_simp; done) | (go_simp; exact set_same (u := .int .i64 0) (by go_simp; done)))⟩
  have q3_0 : w.heap.size < v3.heap.size := by first | omega | (simp at *; omega)
  have q3_1 : v2.heap.size < v3.heap.size := by first | omega | (simp at *; omega)
  have HB3 := Lib.hid hB3_0
  have HC3 := Lib.hid hB3_1
  have y3 := hB3_0.size
  clear hb3 hB3_0 hB3_1 g2_0 g2_1 g2_2 g2_3 g2_4 q2_0
  have HK3 := Lib.hid (fun W (h : Below v3.heap.size v3 W) => hk3.below h)
  clear hk3
  go_wp2_with fail
  refine (HR2.out _ (HP.out _ (HBW.out.trans (Below.mono (by repeat (first | exact Below.refl _ _ | with_reducible exact HB3.out | (refine Below.alloc ?_ (by first | omega | (simp; omega) | simp) _) | (refine Below.setCell ?_ (by first | omega | (simp; omega) | simp) _) | refine Below.drew ?_)) HBW.out.size)))).mono ?_
  rintro e v4 ⟨⟨la, ll, lc, rfl, hk4⟩, hb4⟩
  have hB4_0 : Below W0.heap.size W0 v4 := below_via (Lib.hid hb4) (by first | omega | (simp; done) | (simp; omega)) (by repeat (first | exact Below.refl _ _ | with_reducible exact HB3.out | (refine Below.alloc ?_ (by first | omega | (simp; omega) | simp) _) | (refine Below.setCell ?_ (by first | omega | (simp; omega) | simp) _) | refine Below.drew ?_))
  have hB4_1 : Below v2.heap.size v2 v4 := below_via (Lib.hid hb4) (by first | omega | (simp; done) | (simp; omega)) (by repeat (first | exact Below.refl _ _ | with_reducible exact HC3.out | (refine Below.alloc ?_ (by first | omega | (simp; omega) | simp) _) | (refine Below.setCell ?_ (by first | omega | (simp; omega) | simp) _) | refine Below.drew ?_))
  have hB4_2 : Below v3.heap.size v3 v4 := below_via (Lib.hid hb4) (by first | omega | (simp; done) | (simp; omega)) (by repeat (first | exact Below.refl _ _ | (refine Below.alloc ?_ (by first | omega | (simp; omega) | simp) _) | (refine Below.setCell ?_ (by first | omega | (simp; omega) | simp) _) | refine Below.drew ?_))
  have z4 := hb4.size
  (try simp at z4)
  obtain ⟨g4_0, g4_1, g4_2, g4_3, g4_4, g4_5, g4_6, g4_7, g4_8, g4_9⟩ : v4.cell? ⟨w.heap.size, 0, none⟩ = some (.int .i64 f.len) ∧ v4.cell? ⟨w.heap.size, 1, none⟩ = some (.int .i64 f.slack) ∧ v4.cell? ⟨w.heap.size, 2, none⟩ = some (.slice sa sl sc) ∧ v4.cell? ⟨w.heap.size, 3, none⟩ = some (.slice pa pl pc) ∧ v4.cell? ⟨w.heap.size, 4, none⟩ = some (.slice ca cl cc) ∧ v4.cell? ⟨v2.heap.size, 0, none⟩ = some (.int .i64 f.len) ∧ v4.cell? ⟨v2.heap.size, 1, none⟩ = some (.int .i64 f.slack) ∧ v4.cell? ⟨v2.heap.size, 2, none⟩ = some (.slice ga sl gc) ∧ v4.cell? ⟨v2.heap.size, 3, none⟩ = some (.slice ha pl hc) ∧ v4.cell? ⟨v2.heap.size, 4, none⟩ = some (.slice ia cl ic) :=
    ⟨(hb4.cell (p := ⟨w.heap.size, 0, none⟩) (by first | omega | (simp; done) | (simp; omega))).trans (by first | (go_simp; done) | (go_simp; exact set_same (u := .int .i64 0) (by go_simp; done))), (hb4.cell (p := ⟨w.heap.size, 1, none⟩) (by first | omega | (simp; done) | (simp; omega))).trans (by first | (go_simp; done) | (go_simp; exact set_same (u := .int .i64 0) (by go_simp; done))), (hb4.cell (p := ⟨w.heap.size, 2, none⟩) (by first | omega | (simp; done) | (simp; omega))).trans (by first | (go_simp; done) | (go_simp; exact set_same (u := .int .i64 0) (by go_simp; done))), (hb4.cell (p := ⟨w.heap.size, 3, none⟩) (by first | omega | (simp; done) | (simp; omega))).trans (by first | (go_simp; done) | (go_simp; exact set_same (u := .int .i64 0) (by go_simp; done))), (hb4.cell (p := ⟨w.heap.size, 4, none⟩) (by first | omega | (simp; done) | (simp; omega))).trans (by first | (go_simp; done) | (go_simp; exact set_same (u := .int .i64 0) (by go_simp; done))), (hb4.cell (p := ⟨v2.heap.size, 0, none⟩) (by first | omega | (simp; done) | (simp; omega))).trans (by first | (go_simp; done) | (go_simp; exact set_same (u := .int .i64 0) (by go_simp; done))), (hb4.cell (p := ⟨v2.heap.size, 1, none⟩) (by first | omega | (simp; done) | (simp; omega))).trans (by first | (go_simp; done) | (go_simp; exact set_same (u := .int .i64 0) (by go_simp; done))), (hb4.cell (p := ⟨v2.heap.size, 2, none⟩) (by first | omega | (simp; done) | (simp; omega))).trans (by first | (go_simp; done) | (go_simp; exact set_same (u := .int .i64 0) (by go_simp; done))), (hb4.cell (p := ⟨v2.heap.size, 3, none⟩) (by first | omega | (simp; done) | (simp; omega))).trans (by first | (go_simp; done) | (go_simp; exact set_same (u := .int .i64 0) (by go_simp; done))), (hb4.cell (p := ⟨v2.heap.size, 4, none⟩) (by first | omega | (simp; done) | (simp; omega))).trans (by first | (go_simp; done) | (go_simp; exact set_same (u := .int .i64 0) (by go_simp; done)))⟩
  have q4_0 : w.heap.size < v4.heap.size := by first | omega | (simp at *; omega)
  have q4_1 : v2.heap.size < v4.heap.size := by first | omega | (simp at *; omega)
  have HB4 := Lib.hid hB4_0
  have HC4 := Lib.hid hB4_1
  have HE4 := Lib.hid hB4_2
  have y4 := hB4_0.size
  clear hb4 hB4_0 hB4_1 hB4_2 g3_0 g3_1 g3_2 g3_3 g3_4 g3_5 g3_6 g3_7 g3_8 g3_9 q3_0 q3_1
  have HK4 := Lib.hid (fun W (h : Below v4.heap.size v4 W) => hk4.below h)
  clear hk4
  go_wp2_with fail
  refine (HL1.out ga gc ha hc ia ic _ (HO.out _ (by repeat (first | exact Below.refl _ _ | with_reducible exact HC4.out | (refine Below.alloc ?_ (by first | omega | (simp; omega) | simp) _) | (refine Below.setCell ?_ (by first | omega | (simp; omega) | simp) _) | refine Below.drew ?_)))).mono ?_
  rintro e v5 ⟨rfl, hb5⟩
  have hB5_0 : Below W0.heap.size W0 v5 := below_via (Lib.hid hb5) (by first | omega | (simp; done) | (simp; omega)) (by repeat (first | exact Below.refl _ _ | with_reducible exact HB4.out | (refine Below.alloc ?_ (by first | omega | (simp; omega) | simp) _) | (refine Below.setCell ?_ (by first | omega | (simp; omega) | simp) _) | refine Below.drew ?_))
  have hB5_1 : Below v2.heap.size v2 v5 := below_via (Lib.hid hb5) (by first | omega | (simp; done) | (simp; omega)) (by repeat (first | exact Below.refl _ _ | with_reducible exact HC4.out | (refine Below.alloc ?_ (by first | omega | (simp; omega) | simp) _) | (refine Below.setCell ?_ (by first | omega | (simp; omega) | simp) _) | refine Below.drew ?_))
  have hB5_2 : Below v3.heap.size v3 v5 := below_via (Lib.hid hb5) (by first | omega | (simp; done) | (simp; omega)) (by repeat (first | exact Below.refl _ _ | with_reducible exact HE4.out | (refine Below.alloc ?_ (by first | omega | (simp; omega) | simp) _) | (refine Below.setCell ?_ (by first | omega | (simp; omega) | simp) _) | refine Below.drew ?_))
  have hB5_3 : Below v4.heap.size v4 v5 := below_via (Lib.hid hb5) (by first | omega | (simp; done) | (simp; omega)) (by repeat (first | exact Below.refl _ _ | (refine Below.alloc ?_ (by first | omega | (simp; omega) | simp) _) | (refine Below.setCell ?_ (by first | omega | (simp; omega) | simp) _) | refine Below.drew ?_))
  have z5 := hb5.size
  (try simp at z5)
  obtain ⟨g5_0, g5_1, g5_2, g5_3, g5_4, g5_5, g5_6, g5_7, g5_8, g5_9⟩ : v5.cell? ⟨w.heap.size, 0, none⟩ = some (.int .i64 f.len) ∧ v5.cell? ⟨w.heap.size, 1, none⟩ = some (.int .i64 f.slack) ∧ v5.cell? ⟨w.heap.size, 2, none⟩ = some (.slice sa sl sc) ∧ v5.cell? ⟨w.heap.size, 3, none⟩ = some (.slice pa pl pc) ∧ v5.cell? ⟨w.heap.size, 4, none⟩ = some (.slice ca cl cc) ∧ v5.cell? ⟨v2.heap.size, 0, none⟩ = some (.int .i64 f.len) ∧ v5.cell? ⟨v2.heap.size, 1, none⟩ = some (.int .i64 f.slack) ∧ v5.cell? ⟨v2.heap.size, 2, none⟩ = some (.slice ga sl gc) ∧ v5.cell? ⟨v2.heap.size, 3, none⟩ = some (.slice ha pl hc) ∧ v5.cell? ⟨v2.heap.size, 4, none⟩ = some (.slice ia cl ic) :=
    ⟨(hb5.cell (p := ⟨w.heap.size, 0, none⟩) (by first | omega | (simp; done) | (simp; omega))).trans (by first | (go_simp; done) | (go_simp; exact set_same (u := .int .i64 0) (by go_simp; done))), (hb5.cell (p := ⟨w.heap.size, 1, none⟩) (by first | omega | (simp; done) | (simp; omega))).trans (by first | (go_simp; done) | (go_simp; exact set_same (u := .int .i64 0) (by go_simp; done))), (hb5.cell (p := ⟨w.heap.size, 2, none⟩) (by first | omega | (simp; done) | (simp; omega))).trans (by first | (go_simp; done) | (go_simp; exact set_same (u := .int .i64 0) (by go_simp; done))), (hb5.cell (p := ⟨w.heap.size, 3, none⟩) (by first | omega | (simp; done) | (simp; omega))).trans (by first | (go_simp; done) | (go_simp; exact set_same (u := .int .i64 0) (by go_simp; done))), (hb5.cell (p := ⟨w.heap.size, 4, none⟩) (by first | omega | (simp; done) | (simp; omega))).trans (by first | (go_simp; done) | (go_simp; exact set_same (u := .int .i64 0) (by go_simp; done))), (hb5.cell (p := ⟨v2.heap.size, 0, none⟩) (by first | omega | (simp; done) | (simp; omega))).trans (by first | (go_simp; done) | (go_simp; exact set_same (u := .int .i64 0) (by go_simp; done))), (hb5.cell (p := ⟨v2.heap.size, 1, none⟩) (by first | omega | (simp; done) | (simp; omega))).trans (by first | (go_simp; done) | (go_simp; exact set_same (u := .int .i64 0) (by go_simp; done))), (hb5.cell (p := ⟨v2.heap.size, 2, none⟩) (by first | omega | (simp; done) | (simp; omega))).trans (by first | (go_simp; done) | (go_simp; exact set_same (u := .int .i64 0) (by go_simp; done))), (hb5.cell (p := ⟨v2.heap.size, 3, none⟩) (by first | omega | (simp; done) | (simp; omega))).trans (by first | (go_simp; done) | (go_simp; exact set_same (u := .int .i64 0) (by go_simp; done))), (hb5.cell (p := ⟨v2.heap.size, 4, none⟩) (by first | omega | (simp; done) | (simp; omega))).trans (by first | (go_simp; done) | (go_simp; exact set_same (u := .int .i64 0) (by go_simp; done)))⟩
  have q5_0 : w.heap.size < v5.heap.size := by first | omega | (simp at *; omega)
  have q5_1 : v2.heap.size < v5.heap.size := by first | omega | (simp at *; omega)
  have HB5 := Lib.hid hB5_0
  have HC5 := Lib.hid hB5_1
  have HE5 := Lib.hid hB5_2
  have HG5 := Lib.hid hB5_3
  have y5 := hB5_0.size
  clear hb5 hB5_0 hB5_1 hB5_2 hB5_3 g4_0 g4_1 g4_2 g4_3 g4_4 g4_5 g4_6 g4_7 g4_8 g4_9 q4_0 q4_1
  go_wp2_with fail
  refine (HL2.out _ (HP.out _ (HBW.out.trans (Below.mono (by repeat (first | exact Below.refl _ _ | with_reducible exact HB5.out | (refine Below.alloc ?_ (by first | omega | (simp; omega) | simp) _) | (refine Below.setCell ?_ (by first | omega | (simp; omega) | simp) _) | refine Below.drew ?_)) HBW.out.size)))).mono ?_
  rintro e v6 ⟨rfl, hb6⟩
  have hB6_0 : Below W0.heap.size W0 v6 := below_via (Lib.hid hb6) (by first | omega | (simp; done) | (simp; omega)) (by repeat (first | exact Below.refl _ _ | with_reducible exact HB5.out | (refine Below.alloc ?_ (by first | omega | (simp; omega) | simp) _) | (refine Below.setCell ?_ (by first | omega | (simp; omega) | simp) _) | refine Below.drew ?_))
  have hB6_1 : Below v2.heap.size v2 v6 := below_via (Lib.hid hb6) (by first | omega | (simp; done) | (simp; omega)) (by repeat (first | exact Below.refl _ _ | with_reducible exact HC5.out | (refine Below.alloc ?_ (by first | omega | (simp; omega) | simp) _) | (refine Below.setCell ?_ (by first | omega | (simp; omega) | simp) _) | refine Below.drew ?_))
  have hB6_2 : Below v3.heap.size v3 v6 := below_via (Lib.hid hb6) (by first | omega | (simp; done) | (simp; omega)) (by repeat (first | exact Below.refl _ _ | with_reducible exact HE5.out | (refine Below.alloc ?_ (by first | omega | (simp; omega) | simp) _) | (refine Below.setCell ?_ (by first | omega | (simp; omega) | simp) _) | refine Below.drew ?_))
  have hB6_3 : Below v4.heap.size v4 v6 := below_via (Lib.hid hb6) (by first | omega | (simp; done) | (simp; omega)) (by repeat (first | exact Below.refl _ _ | with_reducible exact HG5.out | (refine Below.alloc ?_ (by first | omega | (simp; omega) | simp) _) | (refine Below.setCell ?_ (by first | omega | (simp; omega) | simp) _) | refine Below.drew ?_))
  have z6 := hb6.size
  (try simp at z6)
  obtain ⟨g6_0, g6_1, g6_2, g6_3, g6_4, g6_5, g6_6, g6_7, g6_8, g6_9⟩ : v6.cell? ⟨w.heap.size, 0, none⟩ = some (.int .i64 f.len) ∧ v6.cell? ⟨w.heap.size, 1, none⟩ = some (.int .i64 f.slack) ∧ v6.cell? ⟨w.heap.size, 2, none⟩ = some (.slice sa sl sc) ∧ v6.cell? ⟨w.heap.size, 3, none⟩ = some (.slice pa pl pc) ∧ v6.cell? ⟨w.heap.size, 4, none⟩ = some (.slice ca cl cc) ∧ v6.cell? ⟨v2.heap.size, 0, none⟩ = some (.int .i64 f.len) ∧ v6.cell? ⟨v2.heap.size, 1, none⟩ = some (.int .i64 f.slack) ∧ v6.cell? ⟨v2.heap.size, 2, none⟩ = some (.slice ga sl gc) ∧ v6.cell? ⟨v2.heap.size, 3, none⟩ = some (.slice ha pl hc) ∧ v6.cell? ⟨v2.heap.size, 4, none⟩ = some (.slice ia cl ic) :=
    ⟨(hb6.cell (p := ⟨w.heap.size, 0, none⟩) (by first | omega | (simp; done) | (simp; omega))).trans (by first | (go_simp; done) | (go_simp; exact set_same (u := .int .i64 0) (by go_simp; done))), (hb6.cell (p := ⟨w.heap.size, 1, none⟩) (by first | omega | (simp; done) | (simp; omega))).trans (by first | (go_simp; done) | (go_simp; exact set_same (u := .int .i64 0) (by go_simp; done))), (hb6.cell (p := ⟨w.heap.size, 2, none⟩) (by first | omega | (simp; done) | (simp; omega))).trans (by first | (go_simp; done) | (go_simp; exact set_same (u := .int .i64 0) (by go_simp; done))), (hb6.cell (p := ⟨w.heap.size, 3, none⟩) (by first | omega | (simp; done) | (simp; omega))).trans (by first | (go_simp; done) | (go_simp; exact set_same (u := .int .i64 0) (by go_simp; done))), (hb6.cell (p := ⟨w.heap.size, 4, none⟩) (by first | omega | (simp; done) | (simp; omega))).trans (by first | (go_simp; done) | (go_simp; exact set_same (u := .int .i64 0) (by go_simp; done))), (hb6.cell (p := ⟨v2.heap.size, 0, none⟩) (by first | omega | (simp; done) | (simp; omega))).trans (by first | (go_simp; done) | (go_simp; exact set_same (u := .int .i64 0) (by go_simp; done))), (hb6.cell (p := ⟨v2.heap.size, 1, none⟩) (by first | omega | (simp; done) | (simp; omega))).trans (by first | (go_simp; done) | (go_simp; exact set_same (u := .int .i64 0) (by go_simp; done))), (hb6.cell (p := ⟨v2.heap.size, 2, none⟩) (by first | omega | (simp; done) | (simp; omega))).trans (by first | (go_simp; done) | (go_simp; exact set_same (u := .int .i64 0) (by go_simp; done))), (hb6.cell (p := ⟨v2.heap.size, 3, none⟩) (by first | omega | (simp; done) | (simp; omega))).trans (by first | (go_simp; done) | (go_simp; exact set_same (u := .int .i64 0) (by go_simp; done))), (hb6.cell (p := ⟨v2.heap.size, 4, none⟩) (by first | omega | (simp; done) | (simp; omega))).trans (by first | (go_simp; done) | (go_simp; exact set_same (u := .int .i64 0) (by go_simp; done)))⟩
  have q6_0 : w.heap.size < v6.heap.size := by first | omega | (simp at *; omega)
  have q6_1 : v2.heap.size < v6.heap.size := by first | omega | (simp at *; omega)
  have HB6 := Lib.hid hB6_0
  have HC6 := Lib.hid hB6_1
  have HE6 := Lib.hid hB6_2
  have HG6 := Lib.hid hB6_3
  have y6 := hB6_0.size
  clear hb6 hB6_0 hB6_1 hB6_2 hB6_3 g5_0 g5_1 g5_2 g5_3 g5_4 g5_5 g5_6 g5_7 g5_8 g5_9 q5_0 q5_1
  go_wp2_with fail
  refine (HSI.out _ _ _ _ _ _ _ (HK3.out _ (by repeat (first | exact Below.refl _ _ | with_reducible exact HE6.out | (refine Below.alloc ?_ (by first | omega | (simp; omega) | simp) _) | (refine Below.setCell ?_ (by first | omega | (simp; omega) | simp) _) | refine Below.drew ?_))) (HK4.out _ (by repeat (first | exact Below.refl _ _ | with_reducible exact HG6.out | (refine Below.alloc ?_ (by first | omega | (simp; omega) | simp) _) | (refine Below.setCell ?_ (by first | omega | (simp; omega) | simp) _) | refine Below.drew ?_)))).mono ?_
  rintro e v7 ⟨rfl, hb7⟩
  have hB7_0 : Below W0.heap.size W0 v7 := below_via (Lib.hid hb7) (by first | omega | (simp; done) | (simp; omega)) (by repeat (first | exact Below.refl _ _ | with_reducible exact HB6.out | (refine Below.alloc ?_ (by first | omega | (simp; omega) | simp) _) | (refine Below.setCell ?_ (by first | omega | (simp; omega) | simp) _) | refine Below.drew ?_))
  have hB7_1 : Below v2.heap.size v2 v7 := below_via (Lib.hid hb7) (by first | omega | (simp; done) | (simp; omega)) (by repeat (first | exact Below.refl _ _ | with_reducible exact HC6.out | (refine Below.alloc ?_ (by first | omega | (simp; omega) | simp) _) | (refine Below.setCell ?_ (by first | omega | (simp; omega) | simp) _) | refine Below.drew ?_))
  have hB7_2 : Below v3.heap.size v3 v7 := below_via (Lib.hid hb7) (by first | omega | (simp; done) | (simp; omega)) (by repeat (first | exact Below.refl _ _ | with_reducible exact HE6.out | (refine Below.alloc ?_ (by first | omega | (simp; omega) | simp) _) | (refine Below.setCell ?_ (by first | omega | (simp; omega) | simp) _) | refine Below.drew ?_))
  have hB7_3 : Below v4.heap.size v4 v7 := below_via (Lib.hid hb7) (by first | omega | (simp; done) | (simp; omega)) (by repeat (first | exact Below.refl _ _ | with_reducible exact HG6.out | (refine Below.alloc ?_ (by first | omega | (simp; omega) | simp) _) | (refine Below.setCell ?_ (by first | omega | (simp; omega) | simp) _) | refine Below.drew ?_))
  have z7 := hb7.size
  (try simp at z7)
  obtain ⟨g7_0, g7_1, g7_2, g7_3, g7_4, g7_5, g7_6, g7_7, g7_8, g7_9⟩ : v7.cell? ⟨w.heap.size, 0, none⟩ = some (.int .i64 f.len) ∧ v7.cell? ⟨w.heap.size, 1, none⟩ = some (.int .i64 f.slack) ∧ v7.cell? ⟨w.heap.size, 2, none⟩ = some (.slice sa sl sc) ∧ v7.cell? ⟨w.heap.size, 3, none⟩ = some (.slice pa pl pc) ∧ v7.cell? ⟨w.heap.size, 4, none⟩ = some (.slice ca cl cc) ∧ v7.cell? ⟨v2.heap.size, 0, none⟩ = some (.int .i64 f.len) ∧ v7.cell? ⟨v2.heap.size, 1, none⟩ = some (.int .i64 f.slack) ∧ v7.cell? ⟨v2.heap.size, 2, none⟩ = some (.slice ga sl gc) ∧ v7.cell? ⟨v2.heap.size, 3, none⟩ = some (.slice ha pl hc) ∧ v7.cell? ⟨v2.heap.size, 4, none⟩ = some (.slice ia cl ic) :=
    ⟨(hb7.cell (p := ⟨w.heap.size, 0, none⟩) (by first | omega | (simp; done) | (simp; omega))).trans (by first | (go_simp; done) | (go_simp; exact set_same (u := .int .i64 0) (by go_simp; done))), (hb7.cell (p := ⟨w.heap.size, 1, none⟩) (by first | omega | (simp; done) | (simp; omega))).trans (by first | (go_simp; done) | (go_simp; exact set_same (u := .int .i64 0) (by go_simp; done))), (hb7.cell (p := ⟨w.heap.size, 2, none⟩) (by first | omega | (simp; done) | (simp; omega))).trans (by first | (go_simp; done) | (go_simp; exact set_same (u := .int .i64 0) (by go_simp; done))), (hb7.cell (p := ⟨w.heap.size, 3, none⟩) (by first | omega | (simp; done) | (simp; omega))).trans (by first | (go_simp; done) | (go_simp; exact set_same (u := .int .i64 0) (by go_simp; done))), (hb7.cell (p := ⟨w.heap.size, 4, none⟩) (by first | omega | (simp; done) | (simp; omega))).trans (by first | (go_simp; done) | (go_simp; exact set_same (u := .int .i64 0) (by go_simp; done))), (hb7.cell (p := ⟨v2.heap.size, 0, none⟩) (by first | omega | (simp; done) | (simp; omega))).trans (by first | (go_simp; done) | (go_simp; exact set_same (u := .int .i64 0) (by go_simp; done))), (hb7.cell (p := ⟨v2.heap.size, 1, none⟩) (by first | omega | (simp; done) | (simp; omega))).trans (by first | (go_simp; done) | (go_simp; exact set_same (u := .int .i64 0) (by go_simp; done))), (hb7.cell (p := ⟨v2.heap.size, 2, none⟩) (by first | omega | (simp; done) | (simp; omega))).trans (by first | (go_simp; done) | (go_simp; exact set_same (u := .int .i64 0) (by go_simp; done))), (hb7.cell (p := ⟨v2.heap.size, 3, none⟩) (by first | omega | (simp; done) | (simp; omega))).trans (by first | (go_simp; done) | (go_simp; exact set_same (u := .int .i64 0) (by go_simp; done))), (hb7.cell (p := ⟨v2.heap.size, 4, none⟩) (by first | omega | (simp; done) | (simp; omega))).trans (by first | (go_simp; done) | (go_simp; exact set_same (u := .int .i64 0) (by go_simp; done)))⟩
  have q7_0 : w.heap.size < v7.heap.size := by first | omega | (simp at *; omega)
  have q7_1 : v2.heap.size < v7.heap.size := by first | omega | (simp at *; omega)
  have HB7 := Lib.hid hB7_0
  have HC7 := Lib.hid hB7_1
  have HE7 := Lib.hid hB7_2
  have HG7 := Lib.hid hB7_3
  have y7 := hB7_0.size
  clear hb7 hB7_0 hB7_1 hB7_2 hB7_3 g6_0 g6_1 g6_2 g6_3 g6_4 g6_5 g6_6 g6_7 g6_8 g6_9 q6_0 q6_1
  go_wp2_with fail
  refine (HSM.out ga gc ha hc ia ic _ (HO.out _ (by repeat (first | exact Below.refl _ _ | with_reducible exact HC7.out | (refine Below.alloc ?_ (by first | omega | (simp; omega) | simp) _) | (refine Below.setCell ?_ (by first | omega | (simp; omega) | simp) _) | refine Below.drew ?_))) (HP.out _ (HBW.out.trans (Below.mono (by repeat (first | exact Below.refl _ _ | with_reducible exact HB7.out | (refine Below.alloc ?_ (by first | omega | (simp; omega) | simp) _) | (refine Below.setCell ?_ (by first | omega | (simp; omega) | simp) _) | refine Below.drew ?_)) HBW.out.size)))).mono ?_
  rintro e v8 ⟨rfl, hb8⟩
  have hB8_0 : Below W0.heap.size W0 v8 := below_via (Lib.hid hb8) (by first | omega | (simp; done) | (simp; omega)) (by repeat (first | exact Below.refl _ _ | with_reducible exact HB7.out | (refine Below.alloc ?_ (by first | omega | (simp; omega) | simp) _) | (refine Below.setCell ?_ (by first | omega | (simp; omega) | simp) _) | refine Below.drew ?_))
  have hB8_1 : Below v2.heap.size v2 v8 := below_via (Lib.hid hb8) (by first | omega | (simp; done) | (simp; omega)) (by repeat (first | exact Below.refl _ _ | with_reducible exact HC7.out | (refine Below.alloc ?_ (by first | omega | (simp; omega) | simp) _) | (refine Below.setCell ?_ (by first | omega | (simp; omega) | simp) _) | refine Below.drew ?_))
  have hB8_2 : Below v3.heap.size v3 v8 := below_via (Lib.hid hb8) (by first | omega | (simp; done) | (simp; omega)) (by repeat (first | exact Below.refl _ _ | with_reducible exact HE7.out | (refine Below.alloc ?_ (by first | omega | (simp; omega) | simp) _) | (refine Below.setCell ?_ (by first | omega | (simp; omega) | simp) _) | refine Below.drew ?_))
  have hB8_3 : Below v4.heap.size v4 v8 := below_via (Lib.hid hb8) (by first | omega | (simp; done) | (simp; omega)) (by repeat (first | exact Below.refl _ _ | with_reducible exact HG7.out | (refine Below.alloc ?_ (by first | omega | (simp; omega) | simp) _) | (refine Below.setCell ?_ (by first | omega | (simp; omega) | simp) _) | refine Below.drew ?_))
  have z8 := hb8.size
  (try simp at z8)
  obtain ⟨g8_0, g8_1, g8_2, g8_3, g8_4, g8_5, g8_6, g8_7, g8_8, g8_9⟩ : v8.cell? ⟨w.heap.size, 0, none⟩ = some (.int .i64 f.len) ∧ v8.cell? ⟨w.heap.size, 1, none⟩ = some (.int .i64 f.slack) ∧ v8.cell? ⟨w.heap.size, 2, none⟩ = some (.slice sa sl sc) ∧ v8.cell? ⟨w.heap.size, 3, none⟩ = some (.slice pa pl pc) ∧ v8.cell? ⟨w.heap.size, 4, none⟩ = some (.slice ca cl cc) ∧ v8.cell? ⟨v2.heap.size, 0, none⟩ = some (.int .i64 f.len) ∧ v8.cell? ⟨v2.heap.size, 1, none⟩ = some (.int .i64 f.slack) ∧ v8.cell? ⟨v2.heap.size, 2, none⟩ = some (.slice ga sl gc) ∧ v8.cell? ⟨v2.heap.size, 3, none⟩ = some (.slice ha pl hc) ∧ v8.cell? ⟨v2.heap.size, 4, none⟩ = some (.slice ia cl ic) :=
    ⟨(hb8.cell (p := ⟨w.heap.size, 0, none⟩) (by first | omega | (simp; done) | (simp; omega))).trans (by first | (go_simp; done) | (go_simp; exact set_same (u := .int .i64 0) (by go_simp; done))), (hb8.cell (p := ⟨w.heap.size, 1, none⟩) (by first | omega | (simp; done) | (simp; omega))).trans (by first | (go_simp; done) | (go_simp; exact set_same (u := .int .i64 0) (by go_simp; done))), (hb8.cell (p := ⟨w.heap.size, 2, none⟩) (by first | omega | (simp; done) | (simp; omega))).trans (by first | (go_simp; done) | (go_simp; exact set_same (u := .int .i64 0) (by go_simp; done))), (hb8.cell (p := ⟨w.heap.size, 3, none⟩) (by first | omega | (simp; done) | (simp; omega))).trans (by first | (go_simp; done) | (go_simp; exact set_same (u := .int .i64 0) (by go_simp; done))), (hb8.cell (p := ⟨w.heap.size, 4, none⟩) (by first | omega | (simp; done) | (simp; omega))).trans (by first | (go_simp; done) | (go_simp; exact set_same (u := .int .i64 0) (by go_simp; done))), (hb8.cell (p := ⟨v2.heap.size, 0, none⟩) (by first | omega | (simp; done) | (simp; omega))).trans (by first | (go_simp; done) | (go_simp; exact set_same (u := .int .i64 0) (by go_simp; done))), (hb8.cell (p := ⟨v2.heap.size, 1, none⟩) (by first | omega | (simp; done) | (simp; omega))).trans (by first | (go_simp; done) | (go_simp; exact set_same (u := .int .i64 0) (by go_simp; done))), (hb8.cell (p := ⟨v2.heap.size, 2, none⟩) (by first | omega | (simp; done) | (simp; omega))).trans (by first | (go_simp; done) | (go_simp; exact set_same (u := .int .i64 0) (by go_simp; done))), (hb8.cell (p := ⟨v2.heap.size, 3, none⟩) (by first | omega | (simp; done) | (simp; omega))).trans (by first | (go_simp; done) | (go_simp; exact set_same (u := .int .i64 0) (by go_simp; done))), (hb8.cell (p := ⟨v2.heap.size, 4, none⟩) (by first | omega | (simp; done) | (simp; omega))).trans (by first | (go_simp; done) | (go_simp; exact set_same (u := .int .i64 0) (by go_simp; done)))⟩
  have q8_0 : w.heap.size < v8.heap.size := by first | omega | (simp at *; omega)
  have q8_1 : v2.heap.size < v8.heap.size := by first | omega | (simp at *; omega)
  have HB8 := Lib.hid hB8_0
  have HC8 := Lib.hid hB8_1
  have HE8 := Lib.hid hB8_2
  have HG8 := Lib.hid hB8_3
  have y8 := hB8_0.size
  clear hb8 hB8_0 hB8_1 hB8_2 hB8_3 g7_0 g7_1 g7_2 g7_3 g7_4 g7_5 g7_6 g7_7 g7_8 g7_9 q7_0 q7_1
  go_wp2_with fail
  refine (HK.out _).mono ?_
  rintro e v9 ⟨rfl, hb9⟩
  have hB9_0 : Below W0.heap.size W0 v9 := below_via (Lib.hid hb9) (by first | omega | (simp; done) | (simp; omega)) (by repeat (first | exact Below.refl _ _ | with_reducible exact HB8.out | (refine Below.alloc ?_ (by first | omega | (simp; omega) | simp) _) | (refine Below.setCell ?_ (by first | omega | (simp; omega) | simp) _) | refine Below.drew ?_))
  have hB9_1 : Below v2.heap.size v2 v9 := below_via (Lib.hid hb9) (by first | omega | (simp; done) | (simp; omega)) (by repeat (first | exact Below.refl _ _ | with_reducible exact HC8.out | (refine Below.alloc ?_ (by first | omega | (simp; omega) | simp) _) | (refine Below.setCell ?_ (by first | omega | (simp; omega) | simp) _) | refine Below.drew ?_))
  have hB9_2 : Below v3.heap.size v3 v9 := below_via (Lib.hid hb9) (by first | omega | (simp; done) | (simp; omega)) (by repeat (first | exact Below.refl _ _ | with_reducible exact HE8.out | (refine Below.alloc ?_ (by first | omega | (simp; omega) | simp) _) | (refine Below.setCell ?_ (by first | omega | (simp; omega) | simp) _) | refine Below.drew ?_))
  have hB9_3 : Below v4.heap.size v4 v9 := below_via (Lib.hid hb9) (by first | omega | (simp; done) | (simp; omega)) (by repeat (first | exact Below.refl _ _ | with_reducible exact HG8.out | (refine Below.alloc ?_ (by first | omega | (simp; omega) | simp) _) | (refine Below.setCell ?_ (by first | omega | (simp; omega) | simp) _) | refine Below.drew ?_))
  have z9 := hb9.size
  (try simp at z9)
  have HB9 := Lib.hid hB9_0
  have HC9 := Lib.hid hB9_1
  have HE9 := Lib.hid hB9_2
  have HG9 := Lib.hid hB9_3
  have y9 := hB9_0.size
  clear hb9 hB9_0 hB9_1 hB9_2 hB9_3 g8_0 g8_1 g8_2 g8_3 g8_4 g8_5 g8_6 g8_7 g8_8 g8_9 q8_0 q8_1
  go_wp2_with fail
  go_ret
  exact ⟨rfl, HBW.out.trans (Below.mono (by repeat (first | exact Below.refl _ _ | with_reducible exact HB9.out | (refine Below.alloc ?_ (by first | omega | (simp; omega) | simp) _) | (refine Below.setCell ?_ (by first | omega | (simp; omega) | simp) _) | refine Below.drew ?_)) HBW.out.size)⟩
end Go.Proofs.Ytlhgoedghojnkaa
