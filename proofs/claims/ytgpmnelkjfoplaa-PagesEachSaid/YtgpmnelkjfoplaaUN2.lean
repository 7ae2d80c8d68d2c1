/- PagesEach: with a set. -/
import Derived.Test.YtgpmnelkjfoplaaUL
namespace Go.Proofs.Ytgpmnelkjfoplaa
set_option linter.unusedVariables false
set_option linter.unusedSimpArgs false
open Go.RowKit

set_option maxRecDepth 100000 in
set_option maxHeartbeats 8000000 in
theorem each_yes2 (f : PFrame) (sa : Option Addr) (sl sc : Nat) (pa : Option Addr) (pl pc : Nat) (ca : Option Addr) (cl cc : Nat) (hs : List Int) (ha : Option Addr) (hl hc : Nat) (c : Int) (xa : Option Addr) (xl xc : Nat) (x : List Int) (on ot : Int) (hr : f.ready = true) (h40 : hl ≤ 40) (ht : truthOf f hs = true) (h1 : f.placeB c x = true) (p1 : btw on 0 ((pl : Int) - 1) = true) (p2 : btw ot 0 ((pl : Int) - 1) = true) (w : World) (hp : PAt w sa sl sc pa pl pc ca cl cc f) (hh : IntsAt w ha hl hs) (hx : IntsAt w xa xl x) :
    Calls Try.prog 7 #[.agg #[.int .i64 f.len, .int .i64 f.slack, .slice sa sl sc, .slice pa pl pc, .slice ca cl cc], .slice ha hl hc, .agg #[.int .i64 c, .slice xa xl xc, .int .i64 on, .int .i64 ot]] w fun e w' => e = .returned (.bool true) ∧ Below w.heap.size w w' := by
  have ho : f.ok = true := by unfold PFrame.ready at hr; simp only [Bool.and_eq_true] at hr; exact hr.2
  have HR1 := Lib.hid (fun W (h : Below w.heap.size w W) => ready_is f sa sl sc pa pl pc ca cl cc true hr W (hp.below h))
  have HT1 := Lib.hid (fun W (h : Below w.heap.size w W) => isTruth_is f sa sl sc pa pl pc ca cl cc hs ha hl hc true ht W (hp.below h) (hh.below h))
  have HS1 := Lib.hid (fun W (h : Below w.heap.size w W) => placeSet_is f sa sl sc pa pl pc ca cl cc c xa xl xc x on ot _ h1 W (hp.below h) (hx.below h))
  have HK := Lib.hid (fun W => works_any W)
  have hpm := hp.2.1.2.1
  have hpl := hp.2.1.1
  have hhl := (truth_in ht).1
  have htb := truth_bd ho ht
  have j40 : ¬ (40 : Int) < (hl : Int) := by omega
  have HI := Lib.hid (fun n b (h : btw n 0 ((pl : Int) - 1) = b) W => IsPiece_is f sa sl sc pa pl pc ca cl cc n W hpm b h)
  have h2 := h1
  unfold PFrame.placeB btw at h2
  simp only [Bool.and_eq_true, decide_eq_true_eq] at h2
  obtain ⟨⟨h2, -⟩, hset⟩ := h2
  obtain ⟨n, rfl⟩ : ∃ n : Nat, (n : Int) = c := ⟨c.toNat, by omega⟩
  have hcn : n < f.cols.length := by omega
  obtain ⟨lo, hi, nn, k, lk, a1, a2, a3, a4, a5, b1, b2, b3, b4, hkk⟩ := each_col ho ht hcn (P := f.ptsL x)
  have HF := Lib.hid (fun W (h : Below w.heap.size w W) => lawFits_any f sa sl sc pa pl pc ca cl cc n hcn xa xl xc x on ot hset ho W (hp.below h) (hx.below h))
  rw [a1, a2, a4] at HF
  have HC := Lib.hid (fun W (h : Below w.heap.size w W) => show Calls Try.prog 20 #[.agg #[.int .i64 f.len, .int .i64 f.slack, .slice sa sl sc, .slice pa pl pc, .slice ca cl cc], .int .i64 (n : Int)] W fun z w' => z = .returned (.tuple #[.agg #[.int .i64 lo, .int .i64 hi], .int .i64 0]) ∧ Below W.heap.size W w' from (Column_yes f sa sl sc pa pl pc ca cl cc n hcn ho W (hp.below h)).mono fun z w' h => ⟨by rw [← a1, ← a2]; exact h.1, h.2⟩)
  obtain ⟨hcl, hcm, hcc⟩ := hp.2.2
  obtain ⟨cb, co, rfl, hcB, hccell⟩ := hcc (by omega)
  obtain ⟨ra, rl, rc, hcell, hcap, hri⟩ := hccell n hcn
  have hncl : (n : Int) < (cl : Int) := by omega
  have hn0 : (0 : Int) ≤ (n : Int) := by omega
  have HH := Lib.hid (fun W (h : Below w.heap.size w W) => high_any hs f.cols[n] ha hl hc ra rl rc (fun y hy => by rw [hhl]; exact (PFrame.ok_col ho n hcn).1 y hy) htb (by have := (PFrame.ok_col ho n hcn).2; have := (PFrame.ok_parts ho).2.2.2.2.2.1; omega) W (hh.below h) (hri.below h))
  rw [a3] at HH
  have hpb := ptsL_bd ho (fun i hi => setB_bd ho hset i hi)
  have HP := Lib.hid (fun W (h : Below w.heap.size w W) => refPoints_any f sa sl sc pa pl pc (some ⟨cb, co, none⟩) cl cc xa xl xc x ho (by rw [setB_len hset]; exact Nat.le_refl _) (fun i hi => setB_bd ho hset i hi) W (hp.below h) (hx.below h))
  have HLk := Lib.hid (fun W => Locked_is f sa sl sc pa pl pc (some ⟨cb, co, none⟩) cl cc (nn + f.ptsL x) ho lk a5 W)
  obtain ⟨hpb1, hpb2⟩ := hpb
  generalize f.ptsL x = P at *
  have hwr : IntKind.i64.wrap (nn + P) = nn + P := IntWalk.i64_in _ ⟨by omega, by omega⟩
  clear h2 hset a1 a2 a3 a4 a5 hcl hcm hcc hccell hcap hri
  have HI1 := Lib.hid (HI.out _ _ p1)
  have HI2 := Lib.hid (HI.out _ _ p2)
  have j1 : 0 ≤ on ∧ on < (f.pieces.length : Int) := by unfold btw at p1; simp at p1; omega
  have j2 : 0 ≤ ot ∧ ot < (f.pieces.length : Int) := by unfold btw at p2; simp at p2; omega
  obtain ⟨ci, a, di, b, L, H, AA, BB, r, ea, eb, eA, eB, pG, pM, d1, d2, d3, d4, d5, d6, d7, hrr⟩ := each_gap ho ht j1.1 j1.2 j2.1 j2.2
  have i1 := ahead_in ho ea
  have i2 := ahead_in ho eb
  have G1 := Lib.hid (fun W (h : Below w.heap.size w W) => show Calls Try.prog 44 #[.agg #[.int .i64 f.len, .int .i64 f.slack, .slice sa sl sc, .slice pa pl pc, .slice (some ⟨cb, co, none⟩) cl cc], .int .i64 on, .int .i64 ot] W fun e w' => e = .returned (.tuple #[.agg #[.int .i64 L, .int .i64 H], .int .i64 0]) ∧ Below W.heap.size W w' from (Gap_yes f sa sl sc pa pl pc (some ⟨cb, co, none⟩) cl cc on ot ho j1.1 j1.2 j2.1 j2.2 W (hp.below h)).mono fun e w' h => ⟨pG e h.1, h.2⟩)
  have M1 := Lib.hid (fun W (h : Below w.heap.size w W) => show Calls Try.prog 46 #[.agg #[.int .i64 f.len, .int .i64 f.slack, .slice sa sl sc, .slice pa pl pc, .slice (some ⟨cb, co, none⟩) cl cc], .int .i64 on, .int .i64 ot] W fun e w' => e = .returned (.tuple #[.int .i64 r, .int .i64 0]) ∧ Below W.heap.size W w' from (Meets_yes f sa sl sc pa pl pc (some ⟨cb, co, none⟩) cl cc on ot ho j1.1 j1.2 j2.1 j2.2 W (hp.below h)).mono fun e w' h => ⟨pM e h.1, h.2⟩)
  have HA1 := Lib.hid (fun W (h : Below w.heap.size w W) => show Calls Try.prog 56 #[.agg #[.int .i64 f.len, .int .i64 f.slack, .slice sa sl sc, .slice pa pl pc, .slice (some ⟨cb, co, none⟩) cl cc], .int .i64 on] W fun e w' => ∃ ga gc, e = .returned (.tuple #[.int .i64 (ci : Nat), .slice ga a gc]) ∧ IntsAt w' ga a (f.ahead ci a) ∧ Below W.heap.size W w' from (refAhead_any f sa sl sc pa pl pc (some ⟨cb, co, none⟩) cl cc on ho j1.1 j1.2 W (hp.below h)).mono (by
    rintro e w' ⟨ci', k', ga, gc, he, hat, hi, hb⟩
    obtain ⟨rfl, rfl⟩ := at_one ho ea hat
    exact ⟨ga, gc, he, hi, hb⟩))
  have HA2 := Lib.hid (fun W (h : Below w.heap.size w W) => show Calls Try.prog 56 #[.agg #[.int .i64 f.len, .int .i64 f.slack, .slice sa sl sc, .slice pa pl pc, .slice (some ⟨cb, co, none⟩) cl cc], .int .i64 ot] W fun e w' => ∃ ga gc, e = .returned (.tuple #[.int .i64 (di : Nat), .slice ga b gc]) ∧ IntsAt w' ga b (f.ahead di b) ∧ Below W.heap.size W w' from (refAhead_any f sa sl sc pa pl pc (some ⟨cb, co, none⟩) cl cc ot ho j2.1 j2.2 W (hp.below h)).mono (by
    rintro e w' ⟨ci', k', ga, gc, he, hat, hi, hb⟩
    obtain ⟨rfl, rfl⟩ := at_one ho eb hat
    exact ⟨ga, gc, he, hi, hb⟩))
  have HHA := Lib.hid (fun W (h : Below w.heap.size w W) ga gc (hi : IntsAt W ga a (f.ahead ci a)) => show Calls Try.prog 52 #[.slice ha hl hc, .slice ga a gc] W fun e w' => e = .returned (.int .i64 AA) ∧ Below W.heap.size W w' from eA ▸ high_any hs (f.ahead ci a) ha hl hc ga a gc (fun y hy => by rw [hhl]; exact i1.1 y hy) htb i1.2 W (hh.below h) hi)
  have HHB := Lib.hid (fun W (h : Below w.heap.size w W) ga gc (hi : IntsAt W ga b (f.ahead di b)) => show Calls Try.prog 52 #[.slice ha hl hc, .slice ga b gc] W fun e w' => e = .returned (.int .i64 BB) ∧ Below W.heap.size W w' from eB ▸ high_any hs (f.ahead di b) ha hl hc ga b gc (fun y hy => by rw [hhl]; exact i2.1 y hy) htb i2.2 W (hh.below h) hi)
  have HWI := Lib.hid (fun W => Within_is r 1 3 true d7 W)
  clear HI p1 p2 hpm hpl hp hx hh ho ht hr h40 h1 hhl htb j1 j2 ea eb eA eB pG pM i1 i2 d7
  go_enter Try.func7, Try.ntmps7
  go_wp2_with fail
  obtain ⟨W0, hW0, hB0, hs0, ht0, hz0⟩ := name2c w #[.int .i64 f.len, .int .i64 f.slack, .slice sa sl sc, .slice pa pl pc, .slice (some ⟨cb, co, none⟩) cl cc] 26 #[.int .i64 (n : Int), .slice xa xl xc, .int .i64 on, .int .i64 ot] 58
  rw [hW0]
  clear hW0
  have HBW := Lib.hid hB0
  obtain ⟨g0_0, g0_1, g0_2, g0_3, g0_4⟩ : W0.cell? ⟨w.heap.size, 0, none⟩ = some (.int .i64 f.len) ∧ W0.cell? ⟨w.heap.size, 1, none⟩ = some (.int .i64 f.slack) ∧ W0.cell? ⟨w.heap.size, 2, none⟩ = some (.slice sa sl sc) ∧ W0.cell? ⟨w.heap.size, 3, none⟩ = some (.slice pa pl pc) ∧ W0.cell? ⟨w.heap.size, 4, none⟩ = some (.slice (some ⟨cb, co, none⟩) cl cc) := ⟨hs0 0, hs0 1, hs0 2, hs0 3, hs0 4⟩
  obtain ⟨g0_5, g0_6, g0_7, g0_8⟩ : W0.cell? ⟨w.heap.size + 1, 0, none⟩ = some (.int .i64 (n : Int)) ∧ W0.cell? ⟨w.heap.size + 1, 1, none⟩ = some (.slice xa xl xc) ∧ W0.cell? ⟨w.heap.size + 1, 2, none⟩ = some (.int .i64 on) ∧ W0.cell? ⟨w.heap.size + 1, 3, none⟩ = some (.int .i64 ot) := ⟨ht0 0, ht0 1, ht0 2, ht0 3⟩
  have q0_0 : w.heap.size < W0.heap.size := by omega
  have q0_1 : w.heap.size + 1 < W0.heap.size := by omega
  have g0_9 := (hB0.cell (p := ⟨cb, co + n, none⟩) hcB).trans hcell
  have q0_2 : cb < W0.heap.size := by omega
  clear hB0 hs0 ht0 hz0
  go_wp2_with fail
  refine (HR1.out _ (HBW.out.trans (Below.mono (by repeat (first | exact Below.refl _ _ | (refine Below.alloc ?_ (by first | omega | (simp; omega) | simp) _) | (refine Below.setCell ?_ (by first | omega | (simp; omega) | simp) _) | refine Below.drew ?_)) HBW.out.size))).mono ?_
  rintro e v1 ⟨rfl, hb1⟩
  have hB1 : Below W0.heap.size W0 v1 := below_via (Lib.hid hb1) (by first | omega | (simp; done) | (simp; omega)) (by repeat (first | exact Below.refl _ _ | (refine Below.alloc ?_ (by first | omega | (simp; omega) | simp) _) | (refine Below.setCell ?_ (by first | omega | (simp; omega) | simp) _) | refine Below.drew ?_))
  have z1 := hb1.size
  (try simp at z1)
  obtain ⟨g1_0, g1_1, g1_2, g1_3, g1_4, g1_5, g1_6, g1_7, g1_8, g1_9⟩ : v1.cell? ⟨w.heap.size, 0, none⟩ = some (.int .i64 f.len) ∧ v1.cell? ⟨w.heap.size, 1, none⟩ = some (.int .i64 f.slack) ∧ v1.cell? ⟨w.heap.size, 2, none⟩ = some (.slice sa sl sc) ∧ v1.cell? ⟨w.heap.size, 3, none⟩ = some (.slice pa pl pc) ∧ v1.cell? ⟨w.heap.size, 4, none⟩ = some (.slice (some ⟨cb, co, none⟩) cl cc) ∧ v1.cell? ⟨w.heap.size + 1, 0, none⟩ = some (.int .i64 (n : Int)) ∧ v1.cell? ⟨w.heap.size + 1, 1, none⟩ = some (.slice xa xl xc) ∧ v1.cell? ⟨w.heap.size + 1, 2, none⟩ = some (.int .i64 on) ∧ v1.cell? ⟨w.heap.size + 1, 3, none⟩ = some (.int .i64 ot) ∧ v1.cell? ⟨cb, co + n, none⟩ = some (.slice ra rl rc) :=
    ⟨(hb1.cell (p := ⟨w.heap.size, 0, none⟩) (by first | omega | (simp; done) | (simp; omega))).trans (by go_simp), (hb1.cell (p := ⟨w.heap.size, 1, none⟩) (by first | omega | (simp; done) | (simp; omega))).trans (by go_simp), (hb1.cell (p := ⟨w.heap.size, 2, none⟩) (by first | omega | (simp; done) | (simp; omega))).trans (by go_simp), (hb1.cell (p := ⟨w.heap.size, 3, none⟩) (by first | omega | (simp; done) | (simp; omega))).trans (by go_simp), (hb1.cell (p := ⟨w.heap.size, 4, none⟩) (by first | omega | (simp; done) | (simp; omega))).trans (by go_simp), (hb1.cell (p := ⟨w.heap.size + 1, 0, none⟩) (by first | omega | (simp; done) | (simp; omega))).trans (by go_simp), (hb1.cell (p := ⟨w.heap.size + 1, 1, none⟩) (by first | omega | (simp; done) | (simp; omega))).trans (by go_simp), (hb1.cell (p := ⟨w.heap.size + 1, 2, none⟩) (by first | omega | (simp; done) | (simp; omega))).trans (by go_simp), (hb1.cell (p := ⟨w.heap.size + 1, 3, none⟩) (by first | omega | (simp; done) | (simp; omega))).trans (by go_simp), (hb1.cell (p := ⟨cb, co + n, none⟩) (by first | omega | (simp; done) | (simp; omega))).trans (by go_simp)⟩
  have q1_0 : w.heap.size < v1.heap.size := by first | omega | (simp at *; omega)
  have q1_1 : w.heap.size + 1 < v1.heap.size := by first | omega | (simp at *; omega)
  have q1_2 : cb < v1.heap.size := by first | omega | (simp at *; omega)
  have HB1 := Lib.hid hB1
  clear hb1 hB1 g0_0 g0_1 g0_2 g0_3 g0_4 g0_5 g0_6 g0_7 g0_8 g0_9 q0_0 q0_1 q0_2
  go_wp2_with fail
  refine (HT1.out _ (HBW.out.trans (Below.mono (by repeat (first | exact Below.refl _ _ | with_reducible exact HB1.out | (refine Below.alloc ?_ (by first | omega | (simp; omega) | simp) _) | refine Below.drew ?_)) HBW.out.size))).mono ?_
  rintro e v2 ⟨rfl, hb2⟩
  have hB2 : Below W0.heap.size W0 v2 := below_via (Lib.hid hb2) (by first | omega | (simp; done) | (simp; omega)) (by repeat (first | exact Below.refl _ _ | with_reducible exact HB1.out | (refine Below.alloc ?_ (by first | omega | (simp; omega) | simp) _) | refine Below.drew ?_))
  have z2 := hb2.size
  (try simp at z2)
  obtain ⟨g2_0, g2_1, g2_2, g2_3, g2_4, g2_5, g2_6, g2_7, g2_8, g2_9⟩ : v2.cell? ⟨w.heap.size, 0, none⟩ = some (.int .i64 f.len) ∧ v2.cell? ⟨w.heap.size, 1, none⟩ = some (.int .i64 f.slack) ∧ v2.cell? ⟨w.heap.size, 2, none⟩ = some (.slice sa sl sc) ∧ v2.cell? ⟨w.heap.size, 3, none⟩ = some (.slice pa pl pc) ∧ v2.cell? ⟨w.heap.size, 4, none⟩ = some (.slice (some ⟨cb, co, none⟩) cl cc) ∧ v2.cell? ⟨w.heap.size + 1, 0, none⟩ = some (.int .i64 (n : Int)) ∧ v2.cell? ⟨w.heap.size + 1, 1, none⟩ = some (.slice xa xl xc) ∧ v2.cell? ⟨w.heap.size + 1, 2, none⟩ = some (.int .i64 on) ∧ v2.cell? ⟨w.heap.size + 1, 3, none⟩ = some (.int .i64 ot) ∧ v2.cell? ⟨cb, co + n, none⟩ = some (.slice ra rl rc) :=
    ⟨(hb2.cell (p := ⟨w.heap.size, 0, none⟩) (by first | omega | (simp; done) | (simp; omega))).trans (by go_simp), (hb2.cell (p := ⟨w.heap.size, 1, none⟩) (by first | omega | (simp; done) | (simp; omega))).trans (by go_simp), (hb2.cell (p := ⟨w.heap.size, 2, none⟩) (by first | omega | (simp; done) | (simp; omega))).trans (by go_simp), (hb2.cell (p := ⟨w.heap.size, 3, none⟩) (by first | omega | (simp; done) | (simp; omega))).trans (by go_simp), (hb2.cell (p := ⟨w.heap.size, 4, none⟩) (by first | omega | (simp; done) | (simp; omega))).trans (by go_simp), (hb2.cell (p := ⟨w.heap.size + 1, 0, none⟩) (by first | omega | (simp; done) | (simp; omega))).trans (by go_simp), (hb2.cell (p := ⟨w.heap.size + 1, 1, none⟩) (by first | omega | (simp; done) | (simp; omega))).trans (by go_simp), (hb2.cell (p := ⟨w.heap.size + 1, 2, none⟩) (by first | omega | (simp; done) | (simp; omega))).trans (by go_simp), (hb2.cell (p := ⟨w.heap.size + 1, 3, none⟩) (by first | omega | (simp; done) | (simp; omega))).trans (by go_simp), (hb2.cell (p := ⟨cb, co + n, none⟩) (by first | omega | (simp; done) | (simp; omega))).trans (by go_simp)⟩
  have q2_0 : w.heap.size < v2.heap.size := by first | omega | (simp at *; omega)
  have q2_1 : w.heap.size + 1 < v2.heap.size := by first | omega | (simp at *; omega)
  have q2_2 : cb < v2.heap.size := by first | omega | (simp at *; omega)
  have HB2 := Lib.hid hB2
  clear hb2 hB2 g1_0 g1_1 g1_2 g1_3 g1_4 g1_5 g1_6 g1_7 g1_8 g1_9 q1_0 q1_1 q1_2
  go_wp2_with fail
  refine (HS1.out _ (HBW.out.trans (Below.mono (by repeat (first | exact Below.refl _ _ | with_reducible exact HB2.out | (refine Below.alloc ?_ (by first | omega | (simp; omega) | simp) _) | refine Below.drew ?_)) HBW.out.size))).mono ?_
  rintro e v3 ⟨rfl, hb3⟩
  have hB3 : Below W0.heap.size W0 v3 := below_via (Lib.hid hb3) (by first | omega | (simp; done) | (simp; omega)) (by repeat (first | exact Below.refl _ _ | with_reducible exact HB2.out | (refine Below.alloc ?_ (by first | omega | (simp; omega) | simp) _) | refine Below.drew ?_))
  have z3 := hb3.size
  (try simp at z3)
  obtain ⟨g3_0, g3_1, g3_2, g3_3, g3_4, g3_5, g3_6, g3_7, g3_8, g3_9⟩ : v3.cell? ⟨w.heap.size, 0, none⟩ = some (.int .i64 f.len) ∧ v3.cell? ⟨w.heap.size, 1, none⟩ = some (.int .i64 f.slack) ∧ v3.cell? ⟨w.heap.size, 2, none⟩ = some (.slice sa sl sc) ∧ v3.cell? ⟨w.heap.size, 3, none⟩ = some (.slice pa pl pc) ∧ v3.cell? ⟨w.heap.size, 4, none⟩ = some (.slice (some ⟨cb, co, none⟩) cl cc) ∧ v3.cell? ⟨w.heap.size + 1, 0, none⟩ = some (.int .i64 (n : Int)) ∧ v3.cell? ⟨w.heap.size + 1, 1, none⟩ = some (.slice xa xl xc) ∧ v3.cell? ⟨w.heap.size + 1, 2, none⟩ = some (.int .i64 on) ∧ v3.cell? ⟨w.heap.size + 1, 3, none⟩ = some (.int .i64 ot) ∧ v3.cell? ⟨cb, co + n, none⟩ = some (.slice ra rl rc) :=
    ⟨(hb3.cell (p := ⟨w.heap.size, 0, none⟩) (by first | omega | (simp; done) | (simp; omega))).trans (by go_simp), (hb3.cell (p := ⟨w.heap.size, 1, none⟩) (by first | omega | (simp; done) | (simp; omega))).trans (by go_simp), (hb3.cell (p := ⟨w.heap.size, 2, none⟩) (by first | omega | (simp; done) | (simp; omega))).trans (by go_simp), (hb3.cell (p := ⟨w.heap.size, 3, none⟩) (by first | omega | (simp; done) | (simp; omega))).trans (by go_simp), (hb3.cell (p := ⟨w.heap.size, 4, none⟩) (by first | omega | (simp; done) | (simp; omega))).trans (by go_simp), (hb3.cell (p := ⟨w.heap.size + 1, 0, none⟩) (by first | omega | (simp; done) | (simp; omega))).trans (by go_simp), (hb3.cell (p := ⟨w.heap.size + 1, 1, none⟩) (by first | omega | (simp; done) | (simp; omega))).trans (by go_simp), (hb3.cell (p := ⟨w.heap.size + 1, 2, none⟩) (by first | omega | (simp; done) | (simp; omega))).trans (by go_simp), (hb3.cell (p := ⟨w.heap.size + 1, 3, none⟩) (by first | omega | (simp; done) | (simp; omega))).trans (by go_simp), (hb3.cell (p := ⟨cb, co + n, none⟩) (by first | omega | (simp; done) | (simp; omega))).trans (by go_simp)⟩
  have q3_0 : w.heap.size < v3.heap.size := by first | omega | (simp at *; omega)
  have q3_1 : w.heap.size + 1 < v3.heap.size := by first | omega | (simp at *; omega)
  have q3_2 : cb < v3.heap.size := by first | omega | (simp at *; omega)
  have HB3 := Lib.hid hB3
  clear hb3 hB3 g2_0 g2_1 g2_2 g2_3 g2_4 g2_5 g2_6 g2_7 g2_8 g2_9 q2_0 q2_1 q2_2
  go_wp2_with fail
  refine (HC.out _ (HBW.out.trans (Below.mono (by repeat (first | exact Below.refl _ _ | with_reducible exact HB3.out | (refine Below.alloc ?_ (by first | omega | (simp; omega) | simp) _) | refine Below.drew ?_)) HBW.out.size))).mono ?_
  rintro e v4 ⟨rfl, hb4⟩
  have hB4 : Below W0.heap.size W0 v4 := below_via (Lib.hid hb4) (by first | omega | (simp; done) | (simp; omega)) (by repeat (first | exact Below.refl _ _ | with_reducible exact HB3.out | (refine Below.alloc ?_ (by first | omega | (simp; omega) | simp) _) | refine Below.drew ?_))
  have z4 := hb4.size
  (try simp at z4)
  obtain ⟨g4_0, g4_1, g4_2, g4_3, g4_4, g4_5, g4_6, g4_7, g4_8, g4_9⟩ : v4.cell? ⟨w.heap.size, 0, none⟩ = some (.int .i64 f.len) ∧ v4.cell? ⟨w.heap.size, 1, none⟩ = some (.int .i64 f.slack) ∧ v4.cell? ⟨w.heap.size, 2, none⟩ = some (.slice sa sl sc) ∧ v4.cell? ⟨w.heap.size, 3, none⟩ = some (.slice pa pl pc) ∧ v4.cell? ⟨w.heap.size, 4, none⟩ = some (.slice (some ⟨cb, co, none⟩) cl cc) ∧ v4.cell? ⟨w.heap.size + 1, 0, none⟩ = some (.int .i64 (n : Int)) ∧ v4.cell? ⟨w.heap.size + 1, 1, none⟩ = some (.slice xa xl xc) ∧ v4.cell? ⟨w.heap.size + 1, 2, none⟩ = some (.int .i64 on) ∧ v4.cell? ⟨w.heap.size + 1, 3, none⟩ = some (.int .i64 ot) ∧ v4.cell? ⟨cb, co + n, none⟩ = some (.slice ra rl rc) :=
    ⟨(hb4.cell (p := ⟨w.heap.size, 0, none⟩) (by first | omega | (simp; done) | (simp; omega))).trans (by go_simp), (hb4.cell (p := ⟨w.heap.size, 1, none⟩) (by first | omega | (simp; done) | (simp; omega))).trans (by go_simp), (hb4.cell (p := ⟨w.heap.size, 2, none⟩) (by first | omega | (simp; done) | (simp; omega))).trans (by go_simp), (hb4.cell (p := ⟨w.heap.size, 3, none⟩) (by first | omega | (simp; done) | (simp; omega))).trans (by go_simp), (hb4.cell (p := ⟨w.heap.size, 4, none⟩) (by first | omega | (simp; done) | (simp; omega))).trans (by go_simp), (hb4.cell (p := ⟨w.heap.size + 1, 0, none⟩) (by first | omega | (simp; done) | (simp; omega))).trans (by go_simp), (hb4.cell (p := ⟨w.heap.size + 1, 1, none⟩) (by first | omega | (simp; done) | (simp; omega))).trans (by go_simp), (hb4.cell (p := ⟨w.heap.size + 1, 2, none⟩) (by first | omega | (simp; done) | (simp; omega))).trans (by go_simp), (hb4.cell (p := ⟨w.heap.size + 1, 3, none⟩) (by first | omega | (simp; done) | (simp; omega))).trans (by go_simp), (hb4.cell (p := ⟨cb, co + n, none⟩) (by first | omega | (simp; done) | (simp; omega))).trans (by go_simp)⟩
  have q4_0 : w.heap.size < v4.heap.size := by first | omega | (simp at *; omega)
  have q4_1 : w.heap.size + 1 < v4.heap.size := by first | omega | (simp at *; omega)
  have q4_2 : cb < v4.heap.size := by first | omega | (simp at *; omega)
  have HB4 := Lib.hid hB4
  clear hb4 hB4 g3_0 g3_1 g3_2 g3_3 g3_4 g3_5 g3_6 g3_7 g3_8 g3_9 q3_0 q3_1 q3_2
  go_wp2_with fail
  refine (HF.out _ (HBW.out.trans (Below.mono (by repeat (first | exact Below.refl _ _ | with_reducible exact HB4.out | (refine Below.alloc ?_ (by first | omega | (simp; omega) | simp) _) | refine Below.drew ?_)) HBW.out.size))).mono ?_
  rintro e v5 ⟨rfl, hb5⟩
  have hB5 : Below W0.heap.size W0 v5 := below_via (Lib.hid hb5) (by first | omega | (simp; done) | (simp; omega)) (by repeat (first | exact Below.refl _ _ | with_reducible exact HB4.out | (refine Below.alloc ?_ (by first | omega | (simp; omega) | simp) _) | refine Below.drew ?_))
  have z5 := hb5.size
  (try simp at z5)
  obtain ⟨g5_0, g5_1, g5_2, g5_3, g5_4, g5_5, g5_6, g5_7, g5_8, g5_9, g5_10, g5_11⟩ : v5.cell? ⟨w.heap.size, 0, none⟩ = some (.int .i64 f.len) ∧ v5.cell? ⟨w.heap.size, 1, none⟩ = some (.int .i64 f.slack) ∧ v5.cell? ⟨w.heap.size, 2, none⟩ = some (.slice sa sl sc) ∧ v5.cell? ⟨w.heap.size, 3, none⟩ = some (.slice pa pl pc) ∧ v5.cell? ⟨w.heap.size, 4, none⟩ = some (.slice (some ⟨cb, co, none⟩) cl cc) ∧ v5.cell? ⟨w.heap.size + 1, 0, none⟩ = some (.int .i64 (n : Int)) ∧ v5.cell? ⟨w.heap.size + 1, 1, none⟩ = some (.slice xa xl xc) ∧ v5.cell? ⟨w.heap.size + 1, 2, none⟩ = some (.int .i64 on) ∧ v5.cell? ⟨w.heap.size + 1, 3, none⟩ = some (.int .i64 ot) ∧ v5.cell? ⟨cb, co + n, none⟩ = some (.slice ra rl rc) ∧ v5.cell? ⟨v4.heap.size, 0, none⟩ = some (.int .i64 lo) ∧ v5.cell? ⟨v4.heap.size, 1, none⟩ = some (.int .i64 hi) :=
    ⟨(hb5.cell (p := ⟨w.heap.size, 0, none⟩) (by first | omega | (simp; done) | (simp; omega))).trans (by go_simp), (hb5.cell (p := ⟨w.heap.size, 1, none⟩) (by first | omega | (simp; done) | (simp; omega))).trans (by go_simp), (hb5.cell (p := ⟨w.heap.size, 2, none⟩) (by first | omega | (simp; done) | (simp; omega))).trans (by go_simp), (hb5.cell (p := ⟨w.heap.size, 3, none⟩) (by first | omega | (simp; done) | (simp; omega))).trans (by go_simp), (hb5.cell (p := ⟨w.heap.size, 4, none⟩) (by first | omega | (simp; done) | (simp; omega))).trans (by go_simp), (hb5.cell (p := ⟨w.heap.size + 1, 0, none⟩) (by first | omega | (simp; done) | (simp; omega))).trans (by go_simp), (hb5.cell (p := ⟨w.heap.size + 1, 1, none⟩) (by first | omega | (simp; done) | (simp; omega))).trans (by go_simp), (hb5.cell (p := ⟨w.heap.size + 1, 2, none⟩) (by first | omega | (simp; done) | (simp; omega))).trans (by go_simp), (hb5.cell (p := ⟨w.heap.size + 1, 3, none⟩) (by first | omega | (simp; done) | (simp; omega))).trans (by go_simp), (hb5.cell (p := ⟨cb, co + n, none⟩) (by first | omega | (simp; done) | (simp; omega))).trans (by go_simp), (hb5.cell (p := ⟨v4.heap.size, 0, none⟩) (by first | omega | (simp; done) | (simp; omega))).trans (by go_simp), (hb5.cell (p := ⟨v4.heap.size, 1, none⟩) (by first | omega | (simp; done) | (simp; omega))).trans (by go_simp)⟩
  have q5_0 : w.heap.size < v5.heap.size := by first | omega | (simp at *; omega)
  have q5_1 : w.heap.size + 1 < v5.heap.size := by first | omega | (simp at *; omega)
  have q5_2 : cb < v5.heap.size := by first | omega | (simp at *; omega)
  have q5_3 : v4.heap.size < v5.heap.size := by first | omega | (simp at *; omega)
  have HB5 := Lib.hid hB5
  clear hb5 hB5 g4_0 g4_1 g4_2 g4_3 g4_4 g4_5 g4_6 g4_7 g4_8 g4_9 q4_0 q4_1 q4_2
  go_wp2_with fail
  refine (HH.out _ (HBW.out.trans (Below.mono (by repeat (first | exact Below.refl _ _ | with_reducible exact HB5.out | (refine Below.alloc ?_ (by first | omega | (simp; omega) | simp) _) | refine Below.drew ?_)) HBW.out.size))).mono ?_
  rintro e v6 ⟨rfl, hb6⟩
  have hB6 : Below W0.heap.size W0 v6 := below_via (Lib.hid hb6) (by first | omega | (simp; done) | (simp; omega)) (by repeat (first | exact Below.refl _ _ | with_reducible exact HB5.out | (refine Below.alloc ?_ (by first | omega | (simp; omega) | simp) _) | refine Below.drew ?_))
  have z6 := hb6.size
  (try simp at z6)
  obtain ⟨g6_0, g6_1, g6_2, g6_3, g6_4, g6_5, g6_6, g6_7, g6_8, g6_9, g6_10, g6_11⟩ : v6.cell? ⟨w.heap.size, 0, none⟩ = some (.int .i64 f.len) ∧ v6.cell? ⟨w.heap.size, 1, none⟩ = some (.int .i64 f.slack) ∧ v6.cell? ⟨w.heap.size, 2, none⟩ = some (.slice sa sl sc) ∧ v6.cell? ⟨w.heap.size, 3, none⟩ = some (.slice pa pl pc) ∧ v6.cell? ⟨w.heap.size, 4, none⟩ = some (.slice (some ⟨cb, co, none⟩) cl cc) ∧ v6.cell? ⟨w.heap.size + 1, 0, none⟩ = some (.int .i64 (n : Int)) ∧ v6.cell? ⟨w.heap.size + 1, 1, none⟩ = some (.slice xa xl xc) ∧ v6.cell? ⟨w.heap.size + 1, 2, none⟩ = some (.int .i64 on) ∧ v6.cell? ⟨w.heap.size + 1, 3, none⟩ = some (.int .i64 ot) ∧ v6.cell? ⟨cb, co + n, none⟩ = some (.slice ra rl rc) ∧ v6.cell? ⟨v4.heap.size, 0, none⟩ = some (.int .i64 lo) ∧ v6.cell? ⟨v4.heap.size, 1, none⟩ = some (.int .i64 hi) :=
    ⟨(hb6.cell (p := ⟨w.heap.size, 0, none⟩) (by first | omega | (simp; done) | (simp; omega))).trans (by go_simp), (hb6.cell (p := ⟨w.heap.size, 1, none⟩) (by first | omega | (simp; done) | (simp; omega))).trans (by go_simp), (hb6.cell (p := ⟨w.heap.size, 2, none⟩) (by first | omega | (simp; done) | (simp; omega))).trans (by go_simp), (hb6.cell (p := ⟨w.heap.size, 3, none⟩) (by first | omega | (simp; done) | (simp; omega))).trans (by go_simp), (hb6.cell (p := ⟨w.heap.size, 4, none⟩) (by first | omega | (simp; done) | (simp; omega))).trans (by go_simp), (hb6.cell (p := ⟨w.heap.size + 1, 0, none⟩) (by first | omega | (simp; done) | (simp; omega))).trans (by go_simp), (hb6.cell (p := ⟨w.heap.size + 1, 1, none⟩) (by first | omega | (simp; done) | (simp; omega))).trans (by go_simp), (hb6.cell (p := ⟨w.heap.size + 1, 2, none⟩) (by first | omega | (simp; done) | (simp; omega))).trans (by go_simp), (hb6.cell (p := ⟨w.heap.size + 1, 3, none⟩) (by first | omega | (simp; done) | (simp; omega))).trans (by go_simp), (hb6.cell (p := ⟨cb, co + n, none⟩) (by first | omega | (simp; done) | (simp; omega))).trans (by go_simp), (hb6.cell (p := ⟨v4.heap.size, 0, none⟩) (by first | omega | (simp; done) | (simp; omega))).trans (by go_simp), (hb6.cell (p := ⟨v4.heap.size, 1, none⟩) (by first | omega | (simp; done) | (simp; omega))).trans (by go_simp)⟩
  have q6_0 : w.heap.size < v6.heap.size := by first | omega | (simp at *; omega)
  have q6_1 : w.heap.size + 1 < v6.heap.size := by first | omega | (simp at *; omega)
  have q6_2 : cb < v6.heap.size := by first | omega | (simp at *; omega)
  have q6_3 : v4.heap.size < v6.heap.size := by first | omega | (simp at *; omega)
  have HB6 := Lib.hid hB6
  clear hb6 hB6 g5_0 g5_1 g5_2 g5_3 g5_4 g5_5 g5_6 g5_7 g5_8 g5_9 g5_10 g5_11 q5_0 q5_1 q5_2 q5_3
  go_upto_region 7 with fail
  go_cut [12] (fun v12 wx => v12 = .bool lk ∧ Below v6.heap.size v6 wx)
  case first =>
    have HPX := Lib.hid (fun W (h : Below v6.heap.size v6 W ∧ ∀ b o, b < v6.heap.size → W.cell? ⟨b, o, none⟩ = v6.cell? ⟨b, o, none⟩) => bothS1 (W0 := v6) (HP.out W ((HBW.out.trans (HB6.out.mono HBW.out.size)).trans (h.1.mono (HBW.out.trans (HB6.out.mono HBW.out.size)).size))) h)
    have HLX := Lib.hid (fun W (h : Below v6.heap.size v6 W ∧ ∀ b o, b < v6.heap.size → W.cell? ⟨b, o, none⟩ = v6.cell? ⟨b, o, none⟩) => bothS1 (W0 := v6) (HLk.out W) h)
    clear HP HLk HF HC HH HR1 HT1 HS1 hkk
    go_region_held3 (fun w' => Below v6.heap.size v6 w' ∧ ∀ b o, b < v6.heap.size → w'.cell? ⟨b, o, none⟩ = v6.cell? ⟨b, o, none⟩) (first | with_reducible assumption | ((repeat (first | with_reducible refine bothS_drew ?_ | with_reducible refine bothS_alloc _ ?_ | with_reducible refine bothS_set _ _ (by first | omega | (simp; omega) | simp) ?_)); first | with_reducible assumption | with_reducible exact Hid.out (by assumption) | with_reducible exact ⟨Below.refl _ _, fun _ _ _ => rfl⟩)) (first | (go_at_call 54; with_reducible refine (HPX.out _ ?_).mono ?_; (first | with_reducible assumption | ((repeat (first | with_reducible refine bothS_drew ?_ | with_reducible refine bothS_alloc _ ?_ | with_reducible refine bothS_set _ _ (by first | omega | (simp; omega) | simp) ?_)); first | with_reducible assumption | with_reducible exact Hid.out (by assumption) | with_reducible exact ⟨Below.refl _ _, fun _ _ _ => rfl⟩)); rintro e w' ⟨rfl, k, k1, k2, k3⟩; have HK := Lib.hid k; (try simp at k3); (try have k6 := Nat.lt_of_succ_le k3); (try have k7 := Nat.lt_of_succ_lt k6); (try have k8 := Nat.lt_of_succ_lt k3)) | (go_at_call 53; with_reducible refine (HLX.out _ ?_).mono ?_; (first | with_reducible assumption | ((repeat (first | with_reducible refine bothS_drew ?_ | with_reducible refine bothS_alloc _ ?_ | with_reducible refine bothS_set _ _ (by first | omega | (simp; omega) | simp) ?_)); first | with_reducible assumption | with_reducible exact Hid.out (by assumption) | with_reducible exact ⟨Below.refl _ _, fun _ _ _ => rfl⟩)); rintro e w' ⟨rfl, k, k1, k2, k3⟩; have HK := Lib.hid k; (try simp at k3); (try have kk6 := Nat.lt_of_lt_of_le k6 k3); (try have kk7 := Nat.lt_of_lt_of_le k6 (Nat.le_of_succ_le k3)); (try have k6 := Nat.lt_of_succ_le k3); (try have k7 := Nat.lt_of_succ_lt k6); (try have k8 := Nat.lt_of_succ_lt k3)) | fail "no arm")
    all_goals (go_wp2_with fail; go_meet; exact ⟨rfl, And.left (by assumption)⟩)
  case rest =>
  obtain ⟨rfl, hb7⟩ := hcut
  obtain ⟨v7, rfl⟩ : ∃ v7 : World, v7 = wc := ⟨_, rfl⟩
  have hB7 : Below W0.heap.size W0 v7 := below_via (Lib.hid hb7) (by first | omega | (simp; done) | (simp; omega)) (by repeat (first | exact Below.refl _ _ | with_reducible exact HB6.out | (refine Below.alloc ?_ (by first | omega | (simp; omega) | simp) _) | refine Below.drew ?_))
  have z7 := hb7.size
  (try simp at z7)
  obtain ⟨g7_0, g7_1, g7_2, g7_3, g7_4, g7_5, g7_6, g7_7, g7_8, g7_9, g7_10, g7_11⟩ : v7.cell? ⟨w.heap.size, 0, none⟩ = some (.int .i64 f.len) ∧ v7.cell? ⟨w.heap.size, 1, none⟩ = some (.int .i64 f.slack) ∧ v7.cell? ⟨w.heap.size, 2, none⟩ = some (.slice sa sl sc) ∧ v7.cell? ⟨w.heap.size, 3, none⟩ = some (.slice pa pl pc) ∧ v7.cell? ⟨w.heap.size, 4, none⟩ = some (.slice (some ⟨cb, co, none⟩) cl cc) ∧ v7.cell? ⟨w.heap.size + 1, 0, none⟩ = some (.int .i64 (n : Int)) ∧ v7.cell? ⟨w.heap.size + 1, 1, none⟩ = some (.slice xa xl xc) ∧ v7.cell? ⟨w.heap.size + 1, 2, none⟩ = some (.int .i64 on) ∧ v7.cell? ⟨w.heap.size + 1, 3, none⟩ = some (.int .i64 ot) ∧ v7.cell? ⟨cb, co + n, none⟩ = some (.slice ra rl rc) ∧ v7.cell? ⟨v4.heap.size, 0, none⟩ = some (.int .i64 lo) ∧ v7.cell? ⟨v4.heap.size, 1, none⟩ = some (.int .i64 hi) :=
    ⟨(hb7.cell (p := ⟨w.heap.size, 0, none⟩) (by first | omega | (simp; done) | (simp; omega))).trans (by go_simp), (hb7.cell (p := ⟨w.heap.size, 1, none⟩) (by first | omega | (simp; done) | (simp; omega))).trans (by go_simp), (hb7.cell (p := ⟨w.heap.size, 2, none⟩) (by first | omega | (simp; done) | (simp; omega))).trans (by go_simp), (hb7.cell (p := ⟨w.heap.size, 3, none⟩) (by first | omega | (simp; done) | (simp; omega))).trans (by go_simp), (hb7.cell (p := ⟨w.heap.size, 4, none⟩) (by first | omega | (simp; done) | (simp; omega))).trans (by go_simp), (hb7.cell (p := ⟨w.heap.size + 1, 0, none⟩) (by first | omega | (simp; done) | (simp; omega))).trans (by go_simp), (hb7.cell (p := ⟨w.heap.size + 1, 1, none⟩) (by first | omega | (simp; done) | (simp; omega))).trans (by go_simp), (hb7.cell (p := ⟨w.heap.size + 1, 2, none⟩) (by first | omega | (simp; done) | (simp; omega))).trans (by go_simp), (hb7.cell (p := ⟨w.heap.size + 1, 3, none⟩) (by first | omega | (simp; done) | (simp; omega))).trans (by go_simp), (hb7.cell (p := ⟨cb, co + n, none⟩) (by first | omega | (simp; done) | (simp; omega))).trans (by go_simp), (hb7.cell (p := ⟨v4.heap.size, 0, none⟩) (by first | omega | (simp; done) | (simp; omega))).trans (by go_simp), (hb7.cell (p := ⟨v4.heap.size, 1, none⟩) (by first | omega | (simp; done) | (simp; omega))).trans (by go_simp)⟩
  have q7_0 : w.heap.size < v7.heap.size := by first | omega | (simp at *; omega)
  have q7_1 : w.heap.size + 1 < v7.heap.size := by first | omega | (simp at *; omega)
  have q7_2 : cb < v7.heap.size := by first | omega | (simp at *; omega)
  have q7_3 : v4.heap.size < v7.heap.size := by first | omega | (simp at *; omega)
  have HB7 := Lib.hid hB7
  clear hb7 hB7 g6_0 g6_1 g6_2 g6_3 g6_4 g6_5 g6_6 g6_7 g6_8 g6_9 g6_10 g6_11 q6_0 q6_1 q6_2 q6_3
  go_upto_region 8 with fail
  go_cut [101] (fun v101 wx => v101 = .bool false ∧ v7 = wx)
  case first =>
    rcases hkk with ⟨rfl, rfl⟩ | ⟨rfl, rfl⟩ | rfl
    all_goals go_wp2_with fail
    all_goals (go_meet; first | exact ⟨rfl, rfl⟩ | exact ⟨by simp; omega, rfl⟩)
  case rest =>
  obtain ⟨rfl, rfl⟩ := hcut
  go_wp2_with fail
  refine (HI1.out _).mono ?_
  rintro e v8 ⟨rfl, hb8⟩
  have hB8 : Below W0.heap.size W0 v8 := below_via (Lib.hid hb8) (by first | omega | (simp; done) | (simp; omega)) (by repeat (first | exact Below.refl _ _ | with_reducible exact HB7.out | (refine Below.alloc ?_ (by first | omega | (simp; omega) | simp) _) | refine Below.drew ?_))
  have z8 := hb8.size
  (try simp at z8)
  obtain ⟨g8_0, g8_1, g8_2, g8_3, g8_4, g8_5, g8_6, g8_7, g8_8, g8_9, g8_10, g8_11⟩ : v8.cell? ⟨w.heap.size, 0, none⟩ = some (.int .i64 f.len) ∧ v8.cell? ⟨w.heap.size, 1, none⟩ = some (.int .i64 f.slack) ∧ v8.cell? ⟨w.heap.size, 2, none⟩ = some (.slice sa sl sc) ∧ v8.cell? ⟨w.heap.size, 3, none⟩ = some (.slice pa pl pc) ∧ v8.cell? ⟨w.heap.size, 4, none⟩ = some (.slice (some ⟨cb, co, none⟩) cl cc) ∧ v8.cell? ⟨w.heap.size + 1, 0, none⟩ = some (.int .i64 (n : Int)) ∧ v8.cell? ⟨w.heap.size + 1, 1, none⟩ = some (.slice xa xl xc) ∧ v8.cell? ⟨w.heap.size + 1, 2, none⟩ = some (.int .i64 on) ∧ v8.cell? ⟨w.heap.size + 1, 3, none⟩ = some (.int .i64 ot) ∧ v8.cell? ⟨cb, co + n, none⟩ = some (.slice ra rl rc) ∧ v8.cell? ⟨v4.heap.size, 0, none⟩ = some (.int .i64 lo) ∧ v8.cell? ⟨v4.heap.size, 1, none⟩ = some (.int .i64 hi) :=
    ⟨(hb8.cell (p := ⟨w.heap.size, 0, none⟩) (by first | omega | (simp; done) | (simp; omega))).trans (by go_simp), (hb8.cell (p := ⟨w.heap.size, 1, none⟩) (by first | omega | (simp; done) | (simp; omega))).trans (by go_simp), (hb8.cell (p := ⟨w.heap.size, 2, none⟩) (by first | omega | (simp; done) | (simp; omega))).trans (by go_simp), (hb8.cell (p := ⟨w.heap.size, 3, none⟩) (by first | omega | (simp; done) | (simp; omega))).trans (by go_simp), (hb8.cell (p := ⟨w.heap.size, 4, none⟩) (by first | omega | (simp; done) | (simp; omega))).trans (by go_simp), (hb8.cell (p := ⟨w.heap.size + 1, 0, none⟩) (by first | omega | (simp; done) | (simp; omega))).trans (by go_simp), (hb8.cell (p := ⟨w.heap.size + 1, 1, none⟩) (by first | omega | (simp; done) | (simp; omega))).trans (by go_simp), (hb8.cell (p := ⟨w.heap.size + 1, 2, none⟩) (by first | omega | (simp; done) | (simp; omega))).trans (by go_simp), (hb8.cell (p := ⟨w.heap.size + 1, 3, none⟩) (by first | omega | (simp; done) | (simp; omega))).trans (by go_simp), (hb8.cell (p := ⟨cb, co + n, none⟩) (by first | omega | (simp; done) | (simp; omega))).trans (by go_simp), (hb8.cell (p := ⟨v4.heap.size, 0, none⟩) (by first | omega | (simp; done) | (simp; omega))).trans (by go_simp), (hb8.cell (p := ⟨v4.heap.size, 1, none⟩) (by first | omega | (simp; done) | (simp; omega))).trans (by go_simp)⟩
  have q8_0 : w.heap.size < v8.heap.size := by first | omega | (simp at *; omega)
  have q8_1 : w.heap.size + 1 < v8.heap.size := by first | omega | (simp at *; omega)
  have q8_2 : cb < v8.heap.size := by first | omega | (simp at *; omega)
  have q8_3 : v4.heap.size < v8.heap.size := by first | omega | (simp at *; omega)
  have HB8 := Lib.hid hB8
  clear hb8 hB8 g7_0 g7_1 g7_2 g7_3 g7_4 g7_5 g7_6 g7_7 g7_8 g7_9 g7_10 g7_11 q7_0 q7_1 q7_2 q7_3
  go_wp2_with fail
  refine (HI2.out _).mono ?_
  rintro e v9 ⟨rfl, hb9⟩
  have hB9 : Below W0.heap.size W0 v9 := below_via (Lib.hid hb9) (by first | omega | (simp; done) | (simp; omega)) (by repeat (first | exact Below.refl _ _ | with_reducible exact HB8.out | (refine Below.alloc ?_ (by first | omega | (simp; omega) | simp) _) | refine Below.drew ?_))
  have z9 := hb9.size
  (try simp at z9)
  obtain ⟨g9_0, g9_1, g9_2, g9_3, g9_4, g9_5, g9_6, g9_7, g9_8, g9_9, g9_10, g9_11⟩ : v9.cell? ⟨w.heap.size, 0, none⟩ = some (.int .i64 f.len) ∧ v9.cell? ⟨w.heap.size, 1, none⟩ = some (.int .i64 f.slack) ∧ v9.cell? ⟨w.heap.size, 2, none⟩ = some (.slice sa sl sc) ∧ v9.cell? ⟨w.heap.size, 3, none⟩ = some (.slice pa pl pc) ∧ v9.cell? ⟨w.heap.size, 4, none⟩ = some (.slice (some ⟨cb, co, none⟩) cl cc) ∧ v9.cell? ⟨w.heap.size + 1, 0, none⟩ = some (.int .i64 (n : Int)) ∧ v9.cell? ⟨w.heap.size + 1, 1, none⟩ = some (.slice xa xl xc) ∧ v9.cell? ⟨w.heap.size + 1, 2, none⟩ = some (.int .i64 on) ∧ v9.cell? ⟨w.heap.size + 1, 3, none⟩ = some (.int .i64 ot) ∧ v9.cell? ⟨cb, co + n, none⟩ = some (.slice ra rl rc) ∧ v9.cell? ⟨v4.heap.size, 0, none⟩ = some (.int .i64 lo) ∧ v9.cell? ⟨v4.heap.size, 1, none⟩ = some (.int .i64 hi) :=
    ⟨(hb9.cell (p := ⟨w.heap.size, 0, none⟩) (by first | omega | (simp; done) | (simp; omega))).trans (by go_simp), (hb9.cell (p := ⟨w.heap.size, 1, none⟩) (by first | omega | (simp; done) | (simp; omega))).trans (by go_simp), (hb9.cell (p := ⟨w.heap.size, 2, none⟩) (by first | omega | (simp; done) | (simp; omega))).trans (by go_simp), (hb9.cell (p := ⟨w.heap.size, 3, none⟩) (by first | omega | (simp; done) | (simp; omega))).trans (by go_simp), (hb9.cell (p := ⟨w.heap.size, 4, none⟩) (by first | omega | (simp; done) | (simp; omega))).trans (by go_simp), (hb9.cell (p := ⟨w.heap.size + 1, 0, none⟩) (by first | omega | (simp; done) | (simp; omega))).trans (by go_simp), (hb9.cell (p := ⟨w.heap.size + 1, 1, none⟩) (by first | omega | (simp; done) | (simp; omega))).trans (by go_simp), (hb9.cell (p := ⟨w.heap.size + 1, 2, none⟩) (by first | omega | (simp; done) | (simp; omega))).trans (by go_simp), (hb9.cell (p := ⟨w.heap.size + 1, 3, none⟩) (by first | omega | (simp; done) | (simp; omega))).trans (by go_simp), (hb9.cell (p := ⟨cb, co + n, none⟩) (by first | omega | (simp; done) | (simp; omega))).trans (by go_simp), (hb9.cell (p := ⟨v4.heap.size, 0, none⟩) (by first | omega | (simp; done) | (simp; omega))).trans (by go_simp), (hb9.cell (p := ⟨v4.heap.size, 1, none⟩) (by first | omega | (simp; done) | (simp; omega))).trans (by go_simp)⟩
  have q9_0 : w.heap.size < v9.heap.size := by first | omega | (simp at *; omega)
  have q9_1 : w.heap.size + 1 < v9.heap.size := by first | omega | (simp at *; omega)
  have q9_2 : cb < v9.heap.size := by first | omega | (simp at *; omega)
  have q9_3 : v4.heap.size < v9.heap.size := by first | omega | (simp at *; omega)
  have HB9 := Lib.hid hB9
  clear hb9 hB9 g8_0 g8_1 g8_2 g8_3 g8_4 g8_5 g8_6 g8_7 g8_8 g8_9 g8_10 g8_11 q8_0 q8_1 q8_2 q8_3
  go_wp2_with fail
  refine (HA1.out _ (HBW.out.trans (Below.mono (by repeat (first | exact Below.refl _ _ | with_reducible exact HB9.out | (refine Below.alloc ?_ (by first | omega | (simp; omega) | simp) _) | refine Below.drew ?_)) HBW.out.size))).mono ?_
  rintro e v10 ⟨ga1, gc1, rfl, hi1, hb10⟩
  have hB10 : Below W0.heap.size W0 v10 := below_via (Lib.hid hb10) (by first | omega | (simp; done) | (simp; omega)) (by repeat (first | exact Below.refl _ _ | with_reducible exact HB9.out | (refine Below.alloc ?_ (by first | omega | (simp; omega) | simp) _) | refine Below.drew ?_))
  have z10 := hb10.size
  (try simp at z10)
  obtain ⟨g10_0, g10_1, g10_2, g10_3, g10_4, g10_5, g10_6, g10_7, g10_8, g10_9, g10_10, g10_11⟩ : v10.cell? ⟨w.heap.size, 0, none⟩ = some (.int .i64 f.len) ∧ v10.cell? ⟨w.heap.size, 1, none⟩ = some (.int .i64 f.slack) ∧ v10.cell? ⟨w.heap.size, 2, none⟩ = some (.slice sa sl sc) ∧ v10.cell? ⟨w.heap.size, 3, none⟩ = some (.slice pa pl pc) ∧ v10.cell? ⟨w.heap.size, 4, none⟩ = some (.slice (some ⟨cb, co, none⟩) cl cc) ∧ v10.cell? ⟨w.heap.size + 1, 0, none⟩ = some (.int .i64 (n : Int)) ∧ v10.cell? ⟨w.heap.size + 1, 1, none⟩ = some (.slice xa xl xc) ∧ v10.cell? ⟨w.heap.size + 1, 2, none⟩ = some (.int .i64 on) ∧ v10.cell? ⟨w.heap.size + 1, 3, none⟩ = some (.int .i64 ot) ∧ v10.cell? ⟨cb, co + n, none⟩ = some (.slice ra rl rc) ∧ v10.cell? ⟨v4.heap.size, 0, none⟩ = some (.int .i64 lo) ∧ v10.cell? ⟨v4.heap.size, 1, none⟩ = some (.int .i64 hi) :=
    ⟨(hb10.cell (p := ⟨w.heap.size, 0, none⟩) (by first | omega | (simp; done) | (simp; omega))).trans (by go_simp), (hb10.cell (p := ⟨w.heap.size, 1, none⟩) (by first | omega | (simp; done) | (simp; omega))).trans (by go_simp), (hb10.cell (p := ⟨w.heap.size, 2, none⟩) (by first | omega | (simp; done) | (simp; omega))).trans (by go_simp), (hb10.cell (p := ⟨w.heap.size, 3, none⟩) (by first | omega | (simp; done) | (simp; omega))).trans (by go_simp), (hb10.cell (p := ⟨w.heap.size, 4, none⟩) (by first | omega | (simp; done) | (simp; omega))).trans (by go_simp), (hb10.cell (p := ⟨w.heap.size + 1, 0, none⟩) (by first | omega | (simp; done) | (simp; omega))).trans (by go_simp), (hb10.cell (p := ⟨w.heap.size + 1, 1, none⟩) (by first | omega | (simp; done) | (simp; omega))).trans (by go_simp), (hb10.cell (p := ⟨w.heap.size + 1, 2, none⟩) (by first | omega | (simp; done) | (simp; omega))).trans (by go_simp), (hb10.cell (p := ⟨w.heap.size + 1, 3, none⟩) (by first | omega | (simp; done) | (simp; omega))).trans (by go_simp), (hb10.cell (p := ⟨cb, co + n, none⟩) (by first | omega | (simp; done) | (simp; omega))).trans (by go_simp), (hb10.cell (p := ⟨v4.heap.size, 0, none⟩) (by first | omega | (simp; done) | (simp; omega))).trans (by go_simp), (hb10.cell (p := ⟨v4.heap.size, 1, none⟩) (by first | omega | (simp; done) | (simp; omega))).trans (by go_simp)⟩
  have q10_0 : w.heap.size < v10.heap.size := by first | omega | (simp at *; omega)
  have q10_1 : w.heap.size + 1 < v10.heap.size := by first | omega | (simp at *; omega)
  have q10_2 : cb < v10.heap.size := by first | omega | (simp at *; omega)
  have q10_3 : v4.heap.size < v10.heap.size := by first | omega | (simp at *; omega)
  have HB10 := Lib.hid hB10
  have HI10a := Lib.hid (fun W (h : Below v10.heap.size v10 W) => hi1.below h)
  clear hi1
  clear hb10 hB10 g9_0 g9_1 g9_2 g9_3 g9_4 g9_5 g9_6 g9_7 g9_8 g9_9 g9_10 g9_11 q9_0 q9_1 q9_2 q9_3
  go_wp2_with fail
  refine (HA2.out _ (HBW.out.trans (Below.mono (by repeat (first | exact Below.refl _ _ | with_reducible exact HB10.out | (refine Below.alloc ?_ (by first | omega | (simp; omega) | simp) _) | refine Below.drew ?_)) HBW.out.size))).mono ?_
  rintro e v11 ⟨ga2, gc2, rfl, hi2, hb11⟩
  have hB11 : Below W0.heap.size W0 v11 := below_via (Lib.hid hb11) (by first | omega | (simp; done) | (simp; omega)) (by repeat (first | exact Below.refl _ _ | with_reducible exact HB10.out | (refine Below.alloc ?_ (by first | omega | (simp; omega) | simp) _) | refine Below.drew ?_))
  have z11 := hb11.size
  (try simp at z11)
  obtain ⟨g11_0, g11_1, g11_2, g11_3, g11_4, g11_5, g11_6, g11_7, g11_8, g11_9, g11_10, g11_11⟩ : v11.cell? ⟨w.heap.size, 0, none⟩ = some (.int .i64 f.len) ∧ v11.cell? ⟨w.heap.size, 1, none⟩ = some (.int .i64 f.slack) ∧ v11.cell? ⟨w.heap.size, 2, none⟩ = some (.slice sa sl sc) ∧ v11.cell? ⟨w.heap.size, 3, none⟩ = some (.slice pa pl pc) ∧ v11.cell? ⟨w.heap.size, 4, none⟩ = some (.slice (some ⟨cb, co, none⟩) cl cc) ∧ v11.cell? ⟨w.heap.size + 1, 0, none⟩ = some (.int .i64 (n : Int)) ∧ v11.cell? ⟨w.heap.size + 1, 1, none⟩ = some (.slice xa xl xc) ∧ v11.cell? ⟨w.heap.size + 1, 2, none⟩ = some (.int .i64 on) ∧ v11.cell? ⟨w.heap.size + 1, 3, none⟩ = some (.int .i64 ot) ∧ v11.cell? ⟨cb, co + n, none⟩ = some (.slice ra rl rc) ∧ v11.cell? ⟨v4.heap.size, 0, none⟩ = some (.int .i64 lo) ∧ v11.cell? ⟨v4.heap.size, 1, none⟩ = some (.int .i64 hi) :=
    ⟨(hb11.cell (p := ⟨w.heap.size, 0, none⟩) (by first | omega | (simp; done) | (simp; omega))).trans (by go_simp), (hb11.cell (p := ⟨w.heap.size, 1, none⟩) (by first | omega | (simp; done) | (simp; omega))).trans (by go_simp), (hb11.cell (p := ⟨w.heap.size, 2, none⟩) (by first | omega | (simp; done) | (simp; omega))).trans (by go_simp), (hb11.cell (p := ⟨w.heap.size, 3, none⟩) (by first | omega | (simp; done) | (simp; omega))).trans (by go_simp), (hb11.cell (p := ⟨w.heap.size, 4, none⟩) (by first | omega | (simp; done) | (simp; omega))).trans (by go_simp), (hb11.cell (p := ⟨w.heap.size + 1, 0, none⟩) (by first | omega | (simp; done) | (simp; omega))).trans (by go_simp), (hb11.cell (p := ⟨w.heap.size + 1, 1, none⟩) (by first | omega | (simp; done) | (simp; omega))).trans (by go_simp), (hb11.cell (p := ⟨w.heap.size + 1, 2, none⟩) (by first | omega | (simp; done) | (simp; omega))).trans (by go_simp), (hb11.cell (p := ⟨w.heap.size + 1, 3, none⟩) (by first | omega | (simp; done) | (simp; omega))).trans (by go_simp), (hb11.cell (p := ⟨cb, co + n, none⟩) (by first | omega | (simp; done) | (simp; omega))).trans (by go_simp), (hb11.cell (p := ⟨v4.heap.size, 0, none⟩) (by first | omega | (simp; done) | (simp; omega))).trans (by go_simp), (hb11.cell (p := ⟨v4.heap.size, 1, none⟩) (by first | omega | (simp; done) | (simp; omega))).trans (by go_simp)⟩
  have q11_0 : w.heap.size < v11.heap.size := by first | omega | (simp at *; omega)
  have q11_1 : w.heap.size + 1 < v11.heap.size := by first | omega | (simp at *; omega)
  have q11_2 : cb < v11.heap.size := by first | omega | (simp at *; omega)
  have q11_3 : v4.heap.size < v11.heap.size := by first | omega | (simp at *; omega)
  have HB11 := Lib.hid hB11
  have HI11a := Lib.hid (fun W (h : Below v11.heap.size v11 W) => (HI10a.out _ hb11).below h)
  have HI11b := Lib.hid (fun W (h : Below v11.heap.size v11 W) => hi2.below h)
  clear hi2 HI10a
  clear hb11 hB11 g10_0 g10_1 g10_2 g10_3 g10_4 g10_5 g10_6 g10_7 g10_8 g10_9 g10_10 g10_11 q10_0 q10_1 q10_2 q10_3
  go_wp2_with fail
  refine (HHB.out _ (HBW.out.trans (Below.mono (by repeat (first | exact Below.refl _ _ | with_reducible exact HB11.out | (refine Below.alloc ?_ (by first | omega | (simp; omega) | simp) _) | refine Below.drew ?_)) HBW.out.size)) _ _ (HI11b.out _ (Below.refl _ _))).mono ?_
  rintro e v12 ⟨rfl, hb12⟩
  have hB12 : Below W0.heap.size W0 v12 := below_via (Lib.hid hb12) (by first | omega | (simp; done) | (simp; omega)) (by repeat (first | exact Below.refl _ _ | with_reducible exact HB11.out | (refine Below.alloc ?_ (by first | omega | (simp; omega) | simp) _) | refine Below.drew ?_))
  have z12 := hb12.size
  (try simp at z12)
  obtain ⟨g12_0, g12_1, g12_2, g12_3, g12_4, g12_5, g12_6, g12_7, g12_8, g12_9, g12_10, g12_11⟩ : v12.cell? ⟨w.heap.size, 0, none⟩ = some (.int .i64 f.len) ∧ v12.cell? ⟨w.heap.size, 1, none⟩ = some (.int .i64 f.slack) ∧ v12.cell? ⟨w.heap.size, 2, none⟩ = some (.slice sa sl sc) ∧ v12.cell? ⟨w.heap.size, 3, none⟩ = some (.slice pa pl pc) ∧ v12.cell? ⟨w.heap.size, 4, none⟩ = some (.slice (some ⟨cb, co, none⟩) cl cc) ∧ v12.cell? ⟨w.heap.size + 1, 0, none⟩ = some (.int .i64 (n : Int)) ∧ v12.cell? ⟨w.heap.size + 1, 1, none⟩ = some (.slice xa xl xc) ∧ v12.cell? ⟨w.heap.size + 1, 2, none⟩ = some (.int .i64 on) ∧ v12.cell? ⟨w.heap.size + 1, 3, none⟩ = some (.int .i64 ot) ∧ v12.cell? ⟨cb, co + n, none⟩ = some (.slice ra rl rc) ∧ v12.cell? ⟨v4.heap.size, 0, none⟩ = some (.int .i64 lo) ∧ v12.cell? ⟨v4.heap.size, 1, none⟩ = some (.int .i64 hi) :=
    ⟨(hb12.cell (p := ⟨w.heap.size, 0, none⟩) (by first | omega | (simp; done) | (simp; omega))).trans (by go_simp), (hb12.cell (p := ⟨w.heap.size, 1, none⟩) (by first | omega | (simp; done) | (simp; omega))).trans (by go_simp), (hb12.cell (p := ⟨w.heap.size, 2, none⟩) (by first | omega | (simp; done) | (simp; omega))).trans (by go_simp), (hb12.cell (p := ⟨w.heap.size, 3, none⟩) (by first | omega | (simp; done) | (simp; omega))).trans (by go_simp), (hb12.cell (p := ⟨w.heap.size, 4, none⟩) (by first | omega | (simp; done) | (simp; omega))).trans (by go_simp), (hb12.cell (p := ⟨w.heap.size + 1, 0, none⟩) (by first | omega | (simp; done) | (simp; omega))).trans (by go_simp), (hb12.cell (p := ⟨w.heap.size + 1, 1, none⟩) (by first | omega | (simp; done) | (simp; omega))).trans (by go_simp), (hb12.cell (p := ⟨w.heap.size + 1, 2, none⟩) (by first | omega | (simp; done) | (simp; omega))).trans (by go_simp), (hb12.cell (p := ⟨w.heap.size + 1, 3, none⟩) (by first | omega | (simp; done) | (simp; omega))).trans (by go_simp), (hb12.cell (p := ⟨cb, co + n, none⟩) (by first | omega | (simp; done) | (simp; omega))).trans (by go_simp), (hb12.cell (p := ⟨v4.heap.size, 0, none⟩) (by first | omega | (simp; done) | (simp; omega))).trans (by go_simp), (hb12.cell (p := ⟨v4.heap.size, 1, none⟩) (by first | omega | (simp; done) | (simp; omega))).trans (by go_simp)⟩
  have q12_0 : w.heap.size < v12.heap.size := by first | omega | (simp at *; omega)
  have q12_1 : w.heap.size + 1 < v12.heap.size := by first | omega | (simp at *; omega)
  have q12_2 : cb < v12.heap.size := by first | omega | (simp at *; omega)
  have q12_3 : v4.heap.size < v12.heap.size := by first | omega | (simp at *; omega)
  have HB12 := Lib.hid hB12
  have HI12a := Lib.hid (fun W (h : Below v12.heap.size v12 W) => (HI11a.out _ hb12).below h)
  clear HI11a HI11b
  clear hb12 hB12 g11_0 g11_1 g11_2 g11_3 g11_4 g11_5 g11_6 g11_7 g11_8 g11_9 g11_10 g11_11 q11_0 q11_1 q11_2 q11_3
  go_wp2_with fail
  refine (HHA.out _ (HBW.out.trans (Below.mono (by repeat (first | exact Below.refl _ _ | with_reducible exact HB12.out | (refine Below.alloc ?_ (by first | omega | (simp; omega) | simp) _) | refine Below.drew ?_)) HBW.out.size)) _ _ (HI12a.out _ (Below.refl _ _))).mono ?_
  rintro e v13 ⟨rfl, hb13⟩
  have hB13 : Below W0.heap.size W0 v13 := below_via (Lib.hid hb13) (by first | omega | (simp; done) | (simp; omega)) (by repeat (first | exact Below.refl _ _ | with_reducible exact HB12.out | (refine Below.alloc ?_ (by first | omega | (simp; omega) | simp) _) | refine Below.drew ?_))
  have z13 := hb13.size
  (try simp at z13)
  obtain ⟨g13_0, g13_1, g13_2, g13_3, g13_4, g13_5, g13_6, g13_7, g13_8, g13_9, g13_10, g13_11⟩ : v13.cell? ⟨w.heap.size, 0, none⟩ = some (.int .i64 f.len) ∧ v13.cell? ⟨w.heap.size, 1, none⟩ = some (.int .i64 f.slack) ∧ v13.cell? ⟨w.heap.size, 2, none⟩ = some (.slice sa sl sc) ∧ v13.cell? ⟨w.heap.size, 3, none⟩ = some (.slice pa pl pc) ∧ v13.cell? ⟨w.heap.size, 4, none⟩ = some (.slice (some ⟨cb, co, none⟩) cl cc) ∧ v13.cell? ⟨w.heap.size + 1, 0, none⟩ = some (.int .i64 (n : Int)) ∧ v13.cell? ⟨w.heap.size + 1, 1, none⟩ = some (.slice xa xl xc) ∧ v13.cell? ⟨w.heap.size + 1, 2, none⟩ = some (.int .i64 on) ∧ v13.cell? ⟨w.heap.size + 1, 3, none⟩ = some (.int .i64 ot) ∧ v13.cell? ⟨cb, co + n, none⟩ = some (.slice ra rl rc) ∧ v13.cell? ⟨v4.heap.size, 0, none⟩ = some (.int .i64 lo) ∧ v13.cell? ⟨v4.heap.size, 1, none⟩ = some (.int .i64 hi) :=
    ⟨(hb13.cell (p := ⟨w.heap.size, 0, none⟩) (by first | omega | (simp; done) | (simp; omega))).trans (by go_simp), (hb13.cell (p := ⟨w.heap.size, 1, none⟩) (by first | omega | (simp; done) | (simp; omega))).trans (by go_simp), (hb13.cell (p := ⟨w.heap.size, 2, none⟩) (by first | omega | (simp; done) | (simp; omega))).trans (by go_simp), (hb13.cell (p := ⟨w.heap.size, 3, none⟩) (by first | omega | (simp; done) | (simp; omega))).trans (by go_simp), (hb13.cell (p := ⟨w.heap.size, 4, none⟩) (by first | omega | (simp; done) | (simp; omega))).trans (by go_simp), (hb13.cell (p := ⟨w.heap.size + 1, 0, none⟩) (by first | omega | (simp; done) | (simp; omega))).trans (by go_simp), (hb13.cell (p := ⟨w.heap.size + 1, 1, none⟩) (by first | omega | (simp; done) | (simp; omega))).trans (by go_simp), (hb13.cell (p := ⟨w.heap.size + 1, 2, none⟩) (by first | omega | (simp; done) | (simp; omega))).trans (by go_simp), (hb13.cell (p := ⟨w.heap.size + 1, 3, none⟩) (by first | omega | (simp; done) | (simp; omega))).trans (by go_simp), (hb13.cell (p := ⟨cb, co + n, none⟩) (by first | omega | (simp; done) | (simp; omega))).trans (by go_simp), (hb13.cell (p := ⟨v4.heap.size, 0, none⟩) (by first | omega | (simp; done) | (simp; omega))).trans (by go_simp), (hb13.cell (p := ⟨v4.heap.size, 1, none⟩) (by first | omega | (simp; done) | (simp; omega))).trans (by go_simp)⟩
  have q13_0 : w.heap.size < v13.heap.size := by first | omega | (simp at *; omega)
  have q13_1 : w.heap.size + 1 < v13.heap.size := by first | omega | (simp at *; omega)
  have q13_2 : cb < v13.heap.size := by first | omega | (simp at *; omega)
  have q13_3 : v4.heap.size < v13.heap.size := by first | omega | (simp at *; omega)
  have HB13 := Lib.hid hB13
  clear HI12a
  clear hb13 hB13 g12_0 g12_1 g12_2 g12_3 g12_4 g12_5 g12_6 g12_7 g12_8 g12_9 g12_10 g12_11 q12_0 q12_1 q12_2 q12_3
  go_wp2_with fail
  refine (G1.out _ (HBW.out.trans (Below.mono (by repeat (first | exact Below.refl _ _ | with_reducible exact HB13.out | (refine Below.alloc ?_ (by first | omega | (simp; omega) | simp) _) | refine Below.drew ?_)) HBW.out.size))).mono ?_
  rintro e v14 ⟨rfl, hb14⟩
  have hB14 : Below W0.heap.size W0 v14 := below_via (Lib.hid hb14) (by first | omega | (simp; done) | (simp; omega)) (by repeat (first | exact Below.refl _ _ | with_reducible exact HB13.out | (refine Below.alloc ?_ (by first | omega | (simp; omega) | simp) _) | refine Below.drew ?_))
  have z14 := hb14.size
  (try simp at z14)
  obtain ⟨g14_0, g14_1, g14_2, g14_3, g14_4, g14_5, g14_6, g14_7, g14_8, g14_9, g14_10, g14_11⟩ : v14.cell? ⟨w.heap.size, 0, none⟩ = some (.int .i64 f.len) ∧ v14.cell? ⟨w.heap.size, 1, none⟩ = some (.int .i64 f.slack) ∧ v14.cell? ⟨w.heap.size, 2, none⟩ = some (.slice sa sl sc) ∧ v14.cell? ⟨w.heap.size, 3, none⟩ = some (.slice pa pl pc) ∧ v14.cell? ⟨w.heap.size, 4, none⟩ = some (.slice (some ⟨cb, co, none⟩) cl cc) ∧ v14.cell? ⟨w.heap.size + 1, 0, none⟩ = some (.int .i64 (n : Int)) ∧ v14.cell? ⟨w.heap.size + 1, 1, none⟩ = some (.slice xa xl xc) ∧ v14.cell? ⟨w.heap.size + 1, 2, none⟩ = some (.int .i64 on) ∧ v14.cell? ⟨w.heap.size + 1, 3, none⟩ = some (.int .i64 ot) ∧ v14.cell? ⟨cb, co + n, none⟩ = some (.slice ra rl rc) ∧ v14.cell? ⟨v4.heap.size, 0, none⟩ = some (.int .i64 lo) ∧ v14.cell? ⟨v4.heap.size, 1, none⟩ = some (.int .i64 hi) :=
    ⟨(hb14.cell (p := ⟨w.heap.size, 0, none⟩) (by first | omega | (simp; done) | (simp; omega))).trans (by go_simp), (hb14.cell (p := ⟨w.heap.size, 1, none⟩) (by first | omega | (simp; done) | (simp; omega))).trans (by go_simp), (hb14.cell (p := ⟨w.heap.size, 2, none⟩) (by first | omega | (simp; done) | (simp; omega))).trans (by go_simp), (hb14.cell (p := ⟨w.heap.size, 3, none⟩) (by first | omega | (simp; done) | (simp; omega))).trans (by go_simp), (hb14.cell (p := ⟨w.heap.size, 4, none⟩) (by first | omega | (simp; done) | (simp; omega))).trans (by go_simp), (hb14.cell (p := ⟨w.heap.size + 1, 0, none⟩) (by first | omega | (simp; done) | (simp; omega))).trans (by go_simp), (hb14.cell (p := ⟨w.heap.size + 1, 1, none⟩) (by first | omega | (simp; done) | (simp; omega))).trans (by go_simp), (hb14.cell (p := ⟨w.heap.size + 1, 2, none⟩) (by first | omega | (simp; done) | (simp; omega))).trans (by go_simp), (hb14.cell (p := ⟨w.heap.size + 1, 3, none⟩) (by first | omega | (simp; done) | (simp; omega))).trans (by go_simp), (hb14.cell (p := ⟨cb, co + n, none⟩) (by first | omega | (simp; done) | (simp; omega))).trans (by go_simp), (hb14.cell (p := ⟨v4.heap.size, 0, none⟩) (by first | omega | (simp; done) | (simp; omega))).trans (by go_simp), (hb14.cell (p := ⟨v4.heap.size, 1, none⟩) (by first | omega | (simp; done) | (simp; omega))).trans (by go_simp)⟩
  have q14_0 : w.heap.size < v14.heap.size := by first | omega | (simp at *; omega)
  have q14_1 : w.heap.size + 1 < v14.heap.size := by first | omega | (simp at *; omega)
  have q14_2 : cb < v14.heap.size := by first | omega | (simp at *; omega)
  have q14_3 : v4.heap.size < v14.heap.size := by first | omega | (simp at *; omega)
  have HB14 := Lib.hid hB14
  clear hb14 hB14 g13_0 g13_1 g13_2 g13_3 g13_4 g13_5 g13_6 g13_7 g13_8 g13_9 g13_10 g13_11 q13_0 q13_1 q13_2 q13_3
  go_wp2_with fail
  refine (M1.out _ (HBW.out.trans (Below.mono (by repeat (first | exact Below.refl _ _ | with_reducible exact HB14.out | (refine Below.alloc ?_ (by first | omega | (simp; omega) | simp) _) | refine Below.drew ?_)) HBW.out.size))).mono ?_
  rintro e v15 ⟨rfl, hb15⟩
  have hB15 : Below W0.heap.size W0 v15 := below_via (Lib.hid hb15) (by first | omega | (simp; done) | (simp; omega)) (by repeat (first | exact Below.refl _ _ | with_reducible exact HB14.out | (refine Below.alloc ?_ (by first | omega | (simp; omega) | simp) _) | refine Below.drew ?_))
  have z15 := hb15.size
  (try simp at z15)
  obtain ⟨g15_0, g15_1, g15_2, g15_3, g15_4, g15_5, g15_6, g15_7, g15_8, g15_9, g15_10, g15_11, g15_12, g15_13⟩ : v15.cell? ⟨w.heap.size, 0, none⟩ = some (.int .i64 f.len) ∧ v15.cell? ⟨w.heap.size, 1, none⟩ = some (.int .i64 f.slack) ∧ v15.cell? ⟨w.heap.size, 2, none⟩ = some (.slice sa sl sc) ∧ v15.cell? ⟨w.heap.size, 3, none⟩ = some (.slice pa pl pc) ∧ v15.cell? ⟨w.heap.size, 4, none⟩ = some (.slice (some ⟨cb, co, none⟩) cl cc) ∧ v15.cell? ⟨w.heap.size + 1, 0, none⟩ = some (.int .i64 (n : Int)) ∧ v15.cell? ⟨w.heap.size + 1, 1, none⟩ = some (.slice xa xl xc) ∧ v15.cell? ⟨w.heap.size + 1, 2, none⟩ = some (.int .i64 on) ∧ v15.cell? ⟨w.heap.size + 1, 3, none⟩ = some (.int .i64 ot) ∧ v15.cell? ⟨cb, co + n, none⟩ = some (.slice ra rl rc) ∧ v15.cell? ⟨v4.heap.size, 0, none⟩ = some (.int .i64 lo) ∧ v15.cell? ⟨v4.heap.size, 1, none⟩ = some (.int .i64 hi) ∧ v15.cell? ⟨v14.heap.size, 0, none⟩ = some (.int .i64 L) ∧ v15.cell? ⟨v14.heap.size, 1, none⟩ = some (.int .i64 H) :=
    ⟨(hb15.cell (p := ⟨w.heap.size, 0, none⟩) (by first | omega | (simp; done) | (simp; omega))).trans (by go_simp), (hb15.cell (p := ⟨w.heap.size, 1, none⟩) (by first | omega | (simp; done) | (simp; omega))).trans (by go_simp), (hb15.cell (p := ⟨w.heap.size, 2, none⟩) (by first | omega | (simp; done) | (simp; omega))).trans (by go_simp), (hb15.cell (p := ⟨w.heap.size, 3, none⟩) (by first | omega | (simp; done) | (simp; omega))).trans (by go_simp), (hb15.cell (p := ⟨w.heap.size, 4, none⟩) (by first | omega | (simp; done) | (simp; omega))).trans (by go_simp), (hb15.cell (p := ⟨w.heap.size + 1, 0, none⟩) (by first | omega | (simp; done) | (simp; omega))).trans (by go_simp), (hb15.cell (p := ⟨w.heap.size + 1, 1, none⟩) (by first | omega | (simp; done) | (simp; omega))).trans (by go_simp), (hb15.cell (p := ⟨w.heap.size + 1, 2, none⟩) (by first | omega | (simp; done) | (simp; omega))).trans (by go_simp), (hb15.cell (p := ⟨w.heap.size + 1, 3, none⟩) (by first | omega | (simp; done) | (simp; omega))).trans (by go_simp), (hb15.cell (p := ⟨cb, co + n, none⟩) (by first | omega | (simp; done) | (simp; omega))).trans (by go_simp), (hb15.cell (p := ⟨v4.heap.size, 0, none⟩) (by first | omega | (simp; done) | (simp; omega))).trans (by go_simp), (hb15.cell (p := ⟨v4.heap.size, 1, none⟩) (by first | omega | (simp; done) | (simp; omega))).trans (by go_simp), (hb15.cell (p := ⟨v14.heap.size, 0, none⟩) (by first | omega | (simp; done) | (simp; omega))).trans (by go_simp), (hb15.cell (p := ⟨v14.heap.size, 1, none⟩) (by first | omega | (simp; done) | (simp; omega))).trans (by go_simp)⟩
  have q15_0 : w.heap.size < v15.heap.size := by first | omega | (simp at *; omega)
  have q15_1 : w.heap.size + 1 < v15.heap.size := by first | omega | (simp at *; omega)
  have q15_2 : cb < v15.heap.size := by first | omega | (simp at *; omega)
  have q15_3 : v4.heap.size < v15.heap.size := by first | omega | (simp at *; omega)
  have q15_4 : v14.heap.size < v15.heap.size := by first | omega | (simp at *; omega)
  have HB15 := Lib.hid hB15
  clear hb15 hB15 g14_0 g14_1 g14_2 g14_3 g14_4 g14_5 g14_6 g14_7 g14_8 g14_9 g14_10 g14_11 q14_0 q14_1 q14_2 q14_3
  go_wp2_with fail
  refine (HWI.out _).mono ?_
  rintro e v99 ⟨rfl, rfl⟩
  clear HWI G1 M1 HA1 HA2 HHA HHB HI1 HI2 HR1 HT1 HS1
  rcases hrr with ⟨rfl, c1⟩ | ⟨rfl, c1⟩ | rfl
  all_goals (try have e1 : (BB - AA == 0) = false := by simpa using c1)
  all_goals (try have e2 : (BB - AA != 0) = true := by simpa using c1)
  all_goals (
    go_wp2_with fail
    refine (HK.out _).mono ?_
    rintro e v100 ⟨rfl, hb100⟩
    have HB100 := Lib.hid (HB15.out.trans (hb100.mono HB15.out.size))
    clear hb100
    go_wp2_with fail
    go_ret
    first | exact ⟨rfl, HBW.out.trans (HB100.out.mono HBW.out.size)⟩ | exact ⟨ret_bool (by simp; omega), HBW.out.trans (HB100.out.mono HBW.out.size)⟩)
end Go.Proofs.Ytgpmnelkjfoplaa
