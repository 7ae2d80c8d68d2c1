/- The law of the room of pages: it holds. -/
import Derived.Test.YtgpmnelkjfoplaaUF
namespace Go.Proofs.Ytgpmnelkjfoplaa
set_option linter.unusedVariables false
set_option linter.unusedSimpArgs false
open Go.RowKit

/-- What Room and Fits say of each other. -/
theorem room_are {f : PFrame} (ho : f.ok = true) {c : Nat} (hc : c < f.cols.length) {x : List Int} (hset : f.setB x = true) {k : Int} (hk : knownR f.len f.slack (f.loS f.cols[c]) (f.hiS f.cols[c]) (f.ptsL x) = k) :
    ∃ a b e : Int, (∀ z, RoomPost f f.cols[c] z → z = .returned (.tuple #[.agg #[.int .i64 a, .int .i64 b], .int .i64 e])) ∧
      ((e = 3 ∧ ¬ k = 1) ∨ (e = 0 ∧ k = 1 ∧ ¬ a < 0 ∧ ¬ b < a ∧ ¬ f.len < b ∧ a ≤ f.ptsL x ∧ f.ptsL x ≤ b) ∨ (e = 0 ∧ ¬ k = 1 ∧ ¬ a < 0 ∧ ¬ b < a ∧ ¬ f.len < b ∧ ¬ a ≤ f.ptsL x) ∨ (e = 0 ∧ ¬ k = 1 ∧ ¬ a < 0 ∧ ¬ b < a ∧ ¬ f.len < b ∧ a ≤ f.ptsL x ∧ ¬ f.ptsL x ≤ b)) := by
  have hp := ptsL_bd ho (fun i hi => setB_bd ho hset i hi)
  have h6 : f.cols[c].length ≤ 6 := by have := (PFrame.ok_col ho c hc).2; omega
  have h1 := PFrame.loS_bd ho f.cols[c] h6
  have h2 := PFrame.hiS_bd ho f.cols[c] h6
  have hk1 : k = 1 ↔ f.len - f.slack ≤ f.loS f.cols[c] + f.ptsL x ∧ f.hiS f.cols[c] + f.ptsL x ≤ f.len := by
    rw [← hk]; unfold knownR
    split
    · rename_i h; exact ⟨fun _ => h, fun _ => rfl⟩
    · rename_i h
      split <;> exact ⟨fun h => by omega, fun h' => absurd h' h⟩
  have e1 : f.roomLo f.cols[c] = max 0 (f.len - f.slack - f.loS f.cols[c]) := rfl
  have e2 : f.roomHi f.cols[c] = f.len - f.hiS f.cols[c] := rfl
  by_cases hr : f.roomHi f.cols[c] < f.roomLo f.cols[c]
  · refine ⟨0, 0, 3, fun z hz => ?_, .inl ⟨rfl, ?_⟩⟩
    · unfold RoomPost at hz; rw [if_pos hr] at hz; exact hz
    · rw [hk1]; omega
  · refine ⟨f.roomLo f.cols[c], f.roomHi f.cols[c], 0, fun z hz => ?_, .inr ?_⟩
    · unfold RoomPost at hz; rw [if_neg hr] at hz; exact hz
    · rw [hk1]; omega

set_option maxRecDepth 100000 in
set_option maxHeartbeats 8000000 in
theorem PagesRoom_any (f : PFrame) (sa : Option Addr) (sl sc : Nat) (pa : Option Addr) (pl pc : Nat) (ca : Option Addr) (cl cc : Nat) (c : Int) (xa : Option Addr) (xl xc : Nat) (x : List Int) (on ot : Int) (w : World) (hp : PAt w sa sl sc pa pl pc ca cl cc f) (hx : IntsAt w xa xl x) :
    Calls Try.prog 8 #[.agg #[.int .i64 f.len, .int .i64 f.slack, .slice sa sl sc, .slice pa pl pc, .slice ca cl cc], .agg #[.int .i64 c, .slice xa xl xc, .int .i64 on, .int .i64 ot]] w fun e w' => e = .returned (.bool true) ∧ Below w.heap.size w w' := by
  have HR := Lib.hid (fun b (hb : f.ready = b) W (h : Below w.heap.size w W) => ready_is f sa sl sc pa pl pc ca cl cc b hb W (hp.below h))
  have HS := Lib.hid (fun b (hb : f.placeB c x = b) W (h : Below w.heap.size w W) => placeSet_is f sa sl sc pa pl pc ca cl cc c xa xl xc x on ot b hb W (hp.below h) (hx.below h))
  have HK := Lib.hid (fun W => works_any W)
  rcases hr : f.ready with - | -
  · have HR1 := Lib.hid (HR.out _ hr)
    clear HR hr HS hp hx
    go_enter Try.func8, Try.ntmps8
    go_wp2_with fail
    obtain ⟨W0, hW0, hB0, hs0, ht0, hz0⟩ := name2c w #[.int .i64 f.len, .int .i64 f.slack, .slice sa sl sc, .slice pa pl pc, .slice ca cl cc] 26 #[.int .i64 c, .slice xa xl xc, .int .i64 on, .int .i64 ot] 58
    rw [hW0]
    clear hW0
    have HBW := Lib.hid hB0
    obtain ⟨g0_0, g0_1, g0_2, g0_3, g0_4⟩ : W0.cell? ⟨w.heap.size, 0, none⟩ = some (.int .i64 f.len) ∧ W0.cell? ⟨w.heap.size, 1, none⟩ = some (.int .i64 f.slack) ∧ W0.cell? ⟨w.heap.size, 2, none⟩ = some (.slice sa sl sc) ∧ W0.cell? ⟨w.heap.size, 3, none⟩ = some (.slice pa pl pc) ∧ W0.cell? ⟨w.heap.size, 4, none⟩ = some (.slice ca cl cc) := ⟨hs0 0, hs0 1, hs0 2, hs0 3, hs0 4⟩
    obtain ⟨g0_5, g0_6, g0_7, g0_8⟩ : W0.cell? ⟨w.heap.size + 1, 0, none⟩ = some (.int .i64 c) ∧ W0.cell? ⟨w.heap.size + 1, 1, none⟩ = some (.slice xa xl xc) ∧ W0.cell? ⟨w.heap.size + 1, 2, none⟩ = some (.int .i64 on) ∧ W0.cell? ⟨w.heap.size + 1, 3, none⟩ = some (.int .i64 ot) := ⟨ht0 0, ht0 1, ht0 2, ht0 3⟩
    have q0_0 : w.heap.size < W0.heap.size := by omega
    have q0_1 : w.heap.size + 1 < W0.heap.size := by omega
    clear hB0 hs0 ht0 hz0
    go_wp2_with fail
    refine (HR1.out _ (HBW.out.trans (Below.mono (by repeat (first | exact Below.refl _ _ | (refine Below.alloc ?_ (by first | omega | (simp; omega) | simp) _) | (refine Below.setCell ?_ (by first | omega | (simp; omega) | simp) _) | refine Below.drew ?_)) HBW.out.size))).mono ?_
    rintro e v1 ⟨rfl, hb1⟩
    have hB1 : Below W0.heap.size W0 v1 := below_via (Lib.hid hb1) (by first | omega | (simp; done) | (simp; omega)) (by repeat (first | exact Below.refl _ _ | (refine Below.alloc ?_ (by first | omega | (simp; omega) | simp) _) | (refine Below.setCell ?_ (by first | omega | (simp; omega) | simp) _) | refine Below.drew ?_))
    have z1 := hb1.size
    (try simp at z1)
    obtain ⟨g1_0, g1_1, g1_2, g1_3, g1_4, g1_5, g1_6, g1_7, g1_8⟩ : v1.cell? ⟨w.heap.size, 0, none⟩ = some (.int .i64 f.len) ∧ v1.cell? ⟨w.heap.size, 1, none⟩ = some (.int .i64 f.slack) ∧ v1.cell? ⟨w.heap.size, 2, none⟩ = some (.slice sa sl sc) ∧ v1.cell? ⟨w.heap.size, 3, none⟩ = some (.slice pa pl pc) ∧ v1.cell? ⟨w.heap.size, 4, none⟩ = some (.slice ca cl cc) ∧ v1.cell? ⟨w.heap.size + 1, 0, none⟩ = some (.int .i64 c) ∧ v1.cell? ⟨w.heap.size + 1, 1, none⟩ = some (.slice xa xl xc) ∧ v1.cell? ⟨w.heap.size + 1, 2, none⟩ = some (.int .i64 on) ∧ v1.cell? ⟨w.heap.size + 1, 3, none⟩ = some (.int .i64 ot) :=
      ⟨(hb1.cell (p := ⟨w.heap.size, 0, none⟩) (by first | omega | (simp; done) | (simp; omega))).trans (by go_simp), (hb1.cell (p := ⟨w.heap.size, 1, none⟩) (by first | omega | (simp; done) | (simp; omega))).trans (by go_simp), (hb1.cell (p := ⟨w.heap.size, 2, none⟩) (by first | omega | (simp; done) | (simp; omega))).trans (by go_simp), (hb1.cell (p := ⟨w.heap.size, 3, none⟩) (by first | omega | (simp; done) | (simp; omega))).trans (by go_simp), (hb1.cell (p := ⟨w.heap.size, 4, none⟩) (by first | omega | (simp; done) | (simp; omega))).trans (by go_simp), (hb1.cell (p := ⟨w.heap.size + 1, 0, none⟩) (by first | omega | (simp; done) | (simp; omega))).trans (by go_simp), (hb1.cell (p := ⟨w.heap.size + 1, 1, none⟩) (by first | omega | (simp; done) | (simp; omega))).trans (by go_simp), (hb1.cell (p := ⟨w.heap.size + 1, 2, none⟩) (by first | omega | (simp; done) | (simp; omega))).trans (by go_simp), (hb1.cell (p := ⟨w.heap.size + 1, 3, none⟩) (by first | omega | (simp; done) | (simp; omega))).trans (by go_simp)⟩
    have q1_0 : w.heap.size < v1.heap.size := by first | omega | (simp at *; omega)
    have q1_1 : w.heap.size + 1 < v1.heap.size := by first | omega | (simp at *; omega)
    have HB1 := Lib.hid hB1
    clear hb1 hB1 g0_0 g0_1 g0_2 g0_3 g0_4 g0_5 g0_6 g0_7 g0_8 q0_0 q0_1
    go_wp2_with fail
    refine (HK.out _).mono ?_
    rintro e v2 ⟨rfl, hb2⟩
    have hB2 : Below W0.heap.size W0 v2 := below_via (Lib.hid hb2) (by first | omega | (simp; done) | (simp; omega)) (by repeat (first | exact Below.refl _ _ | with_reducible exact HB1.out | (refine Below.alloc ?_ (by first | omega | (simp; omega) | simp) _) | refine Below.drew ?_))
    have z2 := hb2.size
    (try simp at z2)
    have HB2 := Lib.hid hB2
    clear hb2 hB2 g1_0 g1_1 g1_2 g1_3 g1_4 g1_5 g1_6 g1_7 g1_8 q1_0 q1_1
    go_wp2_with fail
    go_ret
    exact ⟨rfl, HBW.out.trans (HB2.out.mono HBW.out.size)⟩
  · have HR1 := Lib.hid (HR.out _ hr)
    have ho : f.ok = true := by unfold PFrame.ready at hr; simp only [Bool.and_eq_true] at hr; exact hr.2
    clear HR hr
    rcases h1 : f.placeB c x with - | -
    · have HS1 := Lib.hid (HS.out _ h1)
      clear HS h1 hp hx ho
      go_enter Try.func8, Try.ntmps8
      go_wp2_with fail
      obtain ⟨W0, hW0, hB0, hs0, ht0, hz0⟩ := name2c w #[.int .i64 f.len, .int .i64 f.slack, .slice sa sl sc, .slice pa pl pc, .slice ca cl cc] 26 #[.int .i64 c, .slice xa xl xc, .int .i64 on, .int .i64 ot] 58
      rw [hW0]
      clear hW0
      have HBW := Lib.hid hB0
      obtain ⟨g0_0, g0_1, g0_2, g0_3, g0_4⟩ : W0.cell? ⟨w.heap.size, 0, none⟩ = some (.int .i64 f.len) ∧ W0.cell? ⟨w.heap.size, 1, none⟩ = some (.int .i64 f.slack) ∧ W0.cell? ⟨w.heap.size, 2, none⟩ = some (.slice sa sl sc) ∧ W0.cell? ⟨w.heap.size, 3, none⟩ = some (.slice pa pl pc) ∧ W0.cell? ⟨w.heap.size, 4, none⟩ = some (.slice ca cl cc) := ⟨hs0 0, hs0 1, hs0 2, hs0 3, hs0 4⟩
      obtain ⟨g0_5, g0_6, g0_7, g0_8⟩ : W0.cell? ⟨w.heap.size + 1, 0, none⟩ = some (.int .i64 c) ∧ W0.cell? ⟨w.heap.size + 1, 1, none⟩ = some (.slice xa xl xc) ∧ W0.cell? ⟨w.heap.size + 1, 2, none⟩ = some (.int .i64 on) ∧ W0.cell? ⟨w.heap.size + 1, 3, none⟩ = some (.int .i64 ot) := ⟨ht0 0, ht0 1, ht0 2, ht0 3⟩
      have q0_0 : w.heap.size < W0.heap.size := by omega
      have q0_1 : w.heap.size + 1 < W0.heap.size := by omega
      clear hB0 hs0 ht0 hz0
      go_wp2_with fail
      refine (HR1.out _ (HBW.out.trans (Below.mono (by repeat (first | exact Below.refl _ _ | (refine Below.alloc ?_ (by first | omega | (simp; omega) | simp) _) | (refine Below.setCell ?_ (by first | omega | (simp; omega) | simp) _) | refine Below.drew ?_)) HBW.out.size))).mono ?_
      rintro e v1 ⟨rfl, hb1⟩
      have hB1 : Below W0.heap.size W0 v1 := below_via (Lib.hid hb1) (by first | omega | (simp; done) | (simp; omega)) (by repeat (first | exact Below.refl _ _ | (refine Below.alloc ?_ (by first | omega | (simp; omega) | simp) _) | (refine Below.setCell ?_ (by first | omega | (simp; omega) | simp) _) | refine Below.drew ?_))
      have z1 := hb1.size
      (try simp at z1)
      obtain ⟨g1_0, g1_1, g1_2, g1_3, g1_4, g1_5, g1_6, g1_7, g1_8⟩ : v1.cell? ⟨w.heap.size, 0, none⟩ = some (.int .i64 f.len) ∧ v1.cell? ⟨w.heap.size, 1, none⟩ = some (.int .i64 f.slack) ∧ v1.cell? ⟨w.heap.size, 2, none⟩ = some (.slice sa sl sc) ∧ v1.cell? ⟨w.heap.size, 3, none⟩ = some (.slice pa pl pc) ∧ v1.cell? ⟨w.heap.size, 4, none⟩ = some (.slice ca cl cc) ∧ v1.cell? ⟨w.heap.size + 1, 0, none⟩ = some (.int .i64 c) ∧ v1.cell? ⟨w.heap.size + 1, 1, none⟩ = some (.slice xa xl xc) ∧ v1.cell? ⟨w.heap.size + 1, 2, none⟩ = some (.int .i64 on) ∧ v1.cell? ⟨w.heap.size + 1, 3, none⟩ = some (.int .i64 ot) :=
        ⟨(hb1.cell (p := ⟨w.heap.size, 0, none⟩) (by first | omega | (simp; done) | (simp; omega))).trans (by go_simp), (hb1.cell (p := ⟨w.heap.size, 1, none⟩) (by first | omega | (simp; done) | (simp; omega))).trans (by go_simp), (hb1.cell (p := ⟨w.heap.size, 2, none⟩) (by first | omega | (simp; done) | (simp; omega))).trans (by go_simp), (hb1.cell (p := ⟨w.heap.size, 3, none⟩) (by first | omega | (simp; done) | (simp; omega))).trans (by go_simp), (hb1.cell (p := ⟨w.heap.size, 4, none⟩) (by first | omega | (simp; done) | (simp; omega))).trans (by go_simp), (hb1.cell (p := ⟨w.heap.size + 1, 0, none⟩) (by first | omega | (simp; done) | (simp; omega))).trans (by go_simp), (hb1.cell (p := ⟨w.heap.size + 1, 1, none⟩) (by first | omega | (simp; done) | (simp; omega))).trans (by go_simp), (hb1.cell (p := ⟨w.heap.size + 1, 2, none⟩) (by first | omega | (simp; done) | (simp; omega))).trans (by go_simp), (hb1.cell (p := ⟨w.heap.size + 1, 3, none⟩) (by first | omega | (simp; done) | (simp; omega))).trans (by go_simp)⟩
      have q1_0 : w.heap.size < v1.heap.size := by first | omega | (simp at *; omega)
      have q1_1 : w.heap.size + 1 < v1.heap.size := by first | omega | (simp at *; omega)
      have HB1 := Lib.hid hB1
      clear hb1 hB1 g0_0 g0_1 g0_2 g0_3 g0_4 g0_5 g0_6 g0_7 g0_8 q0_0 q0_1
      go_wp2_with fail
      refine (HS1.out _ (HBW.out.trans (Below.mono (by repeat (first | exact Below.refl _ _ | with_reducible exact HB1.out | (refine Below.alloc ?_ (by first | omega | (simp; omega) | simp) _) | refine Below.drew ?_)) HBW.out.size))).mono ?_
      rintro e v2 ⟨rfl, hb2⟩
      have hB2 : Below W0.heap.size W0 v2 := below_via (Lib.hid hb2) (by first | omega | (simp; done) | (simp; omega)) (by repeat (first | exact Below.refl _ _ | with_reducible exact HB1.out | (refine Below.alloc ?_ (by first | omega | (simp; omega) | simp) _) | refine Below.drew ?_))
      have z2 := hb2.size
      (try simp at z2)
      obtain ⟨g2_0, g2_1, g2_2, g2_3, g2_4, g2_5, g2_6, g2_7, g2_8⟩ : v2.cell? ⟨w.heap.size, 0, none⟩ = some (.int .i64 f.len) ∧ v2.cell? ⟨w.heap.size, 1, none⟩ = some (.int .i64 f.slack) ∧ v2.cell? ⟨w.heap.size, 2, none⟩ = some (.slice sa sl sc) ∧ v2.cell? ⟨w.heap.size, 3, none⟩ = some (.slice pa pl pc) ∧ v2.cell? ⟨w.heap.size, 4, none⟩ = some (.slice ca cl cc) ∧ v2.cell? ⟨w.heap.size + 1, 0, none⟩ = some (.int .i64 c) ∧ v2.cell? ⟨w.heap.size + 1, 1, none⟩ = some (.slice xa xl xc) ∧ v2.cell? ⟨w.heap.size + 1, 2, none⟩ = some (.int .i64 on) ∧ v2.cell? ⟨w.heap.size + 1, 3, none⟩ = some (.int .i64 ot) :=
        ⟨(hb2.cell (p := ⟨w.heap.size, 0, none⟩) (by first | omega | (simp; done) | (simp; omega))).trans (by go_simp), (hb2.cell (p := ⟨w.heap.size, 1, none⟩) (by first | omega | (simp; done) | (simp; omega))).trans (by go_simp), (hb2.cell (p := ⟨w.heap.size, 2, none⟩) (by first | omega | (simp; done) | (simp; omega))).trans (by go_simp), (hb2.cell (p := ⟨w.heap.size, 3, none⟩) (by first | omega | (simp; done) | (simp; omega))).trans (by go_simp), (hb2.cell (p := ⟨w.heap.size, 4, none⟩) (by first | omega | (simp; done) | (simp; omega))).trans (by go_simp), (hb2.cell (p := ⟨w.heap.size + 1, 0, none⟩) (by first | omega | (simp; done) | (simp; omega))).trans (by go_simp), (hb2.cell (p := ⟨w.heap.size + 1, 1, none⟩) (by first | omega | (simp; done) | (simp; omega))).trans (by go_simp), (hb2.cell (p := ⟨w.heap.size + 1, 2, none⟩) (by first | omega | (simp; done) | (simp; omega))).trans (by go_simp), (hb2.cell (p := ⟨w.heap.size + 1, 3, none⟩) (by first | omega | (simp; done) | (simp; omega))).trans (by go_simp)⟩
      have q2_0 : w.heap.size < v2.heap.size := by first | omega | (simp at *; omega)
      have q2_1 : w.heap.size + 1 < v2.heap.size := by first | omega | (simp at *; omega)
      have HB2 := Lib.hid hB2
      clear hb2 hB2 g1_0 g1_1 g1_2 g1_3 g1_4 g1_5 g1_6 g1_7 g1_8 q1_0 q1_1
      go_wp2_with fail
      refine (HK.out _).mono ?_
      rintro e v3 ⟨rfl, hb3⟩
      have hB3 : Below W0.heap.size W0 v3 := below_via (Lib.hid hb3) (by first | omega | (simp; done) | (simp; omega)) (by repeat (first | exact Below.refl _ _ | with_reducible exact HB2.out | (refine Below.alloc ?_ (by first | omega | (simp; omega) | simp) _) | refine Below.drew ?_))
      have z3 := hb3.size
      (try simp at z3)
      have HB3 := Lib.hid hB3
      clear hb3 hB3 g2_0 g2_1 g2_2 g2_3 g2_4 g2_5 g2_6 g2_7 g2_8 q2_0 q2_1
      go_wp2_with fail
      go_ret
      exact ⟨rfl, HBW.out.trans (HB3.out.mono HBW.out.size)⟩
    · have HS1 := Lib.hid (HS.out _ h1)
      have h2 := h1
      unfold PFrame.placeB btw at h2
      simp only [Bool.and_eq_true, decide_eq_true_eq] at h2
      obtain ⟨⟨h2, -⟩, hset⟩ := h2
      obtain ⟨n, rfl⟩ : ∃ n : Nat, (n : Int) = c := ⟨c.toNat, by omega⟩
      have hc : n < f.cols.length := by omega
      obtain ⟨k, hk⟩ : ∃ k, knownR f.len f.slack (f.loS f.cols[n]) (f.hiS f.cols[n]) (f.ptsL x) = k := ⟨_, rfl⟩
      obtain ⟨a, b, e, p1, hd⟩ := room_are ho hc hset hk
      have HF := Lib.hid (fun W (h : Below w.heap.size w W) => lawFits_any f sa sl sc pa pl pc ca cl cc n hc xa xl xc x on ot hset ho W (hp.below h) (hx.below h))
      rw [hk] at HF
      have HO := Lib.hid (fun W (h : Below w.heap.size w W) => show Calls Try.prog 26 #[.agg #[.int .i64 f.len, .int .i64 f.slack, .slice sa sl sc, .slice pa pl pc, .slice ca cl cc], .int .i64 (n : Int)] W fun z w' => z = .returned (.tuple #[.agg #[.int .i64 a, .int .i64 b], .int .i64 e]) ∧ Below W.heap.size W w' from (Room_yes f sa sl sc pa pl pc ca cl cc n hc ho W (hp.below h)).mono fun z w' h => ⟨p1 z h.1, h.2⟩)
      have HP := Lib.hid (fun W (h : Below w.heap.size w W) => refPoints_any f sa sl sc pa pl pc ca cl cc xa xl xc x ho (by rw [setB_len hset]; exact Nat.le_refl _) (fun i hi => setB_bd ho hset i hi) W (hp.below h) (hx.below h))
      have HN := Lib.hid (fun W => isKnown_is e true (by rcases hd with ⟨rfl, _⟩ | ⟨rfl, _⟩ | ⟨rfl, _⟩ | ⟨rfl, _⟩ <;> rfl) W)
      generalize f.ptsL x = P at *
      clear HS h1 hp hx ho h2 hset hc hk p1
      go_enter Try.func8, Try.ntmps8
      go_wp2_with fail
      obtain ⟨W0, hW0, hB0, hs0, ht0, hz0⟩ := name2c w #[.int .i64 f.len, .int .i64 f.slack, .slice sa sl sc, .slice pa pl pc, .slice ca cl cc] 26 #[.int .i64 (n : Int), .slice xa xl xc, .int .i64 on, .int .i64 ot] 58
      rw [hW0]
      clear hW0
      have HBW := Lib.hid hB0
      obtain ⟨g0_0, g0_1, g0_2, g0_3, g0_4⟩ : W0.cell? ⟨w.heap.size, 0, none⟩ = some (.int .i64 f.len) ∧ W0.cell? ⟨w.heap.size, 1, none⟩ = some (.int .i64 f.slack) ∧ W0.cell? ⟨w.heap.size, 2, none⟩ = some (.slice sa sl sc) ∧ W0.cell? ⟨w.heap.size, 3, none⟩ = some (.slice pa pl pc) ∧ W0.cell? ⟨w.heap.size, 4, none⟩ = some (.slice ca cl cc) := ⟨hs0 0, hs0 1, hs0 2, hs0 3, hs0 4⟩
      obtain ⟨g0_5, g0_6, g0_7, g0_8⟩ : W0.cell? ⟨w.heap.size + 1, 0, none⟩ = some (.int .i64 (n : Int)) ∧ W0.cell? ⟨w.heap.size + 1, 1, none⟩ = some (.slice xa xl xc) ∧ W0.cell? ⟨w.heap.size + 1, 2, none⟩ = some (.int .i64 on) ∧ W0.cell? ⟨w.heap.size + 1, 3, none⟩ = some (.int .i64 ot) := ⟨ht0 0, ht0 1, ht0 2, ht0 3⟩
      have q0_0 : w.heap.size < W0.heap.size := by omega
      have q0_1 : w.heap.size + 1 < W0.heap.size := by omega
      clear hB0 hs0 ht0 hz0
      go_wp2_with fail
      refine (HR1.out _ (HBW.out.trans (Below.mono (by repeat (first | exact Below.refl _ _ | (refine Below.alloc ?_ (by first | omega | (simp; omega) | simp) _) | (refine Below.setCell ?_ (by first | omega | (simp; omega) | simp) _) | refine Below.drew ?_)) HBW.out.size))).mono ?_
      rintro e v1 ⟨rfl, hb1⟩
      have hB1 : Below W0.heap.size W0 v1 := below_via (Lib.hid hb1) (by first | omega | (simp; done) | (simp; omega)) (by repeat (first | exact Below.refl _ _ | (refine Below.alloc ?_ (by first | omega | (simp; omega) | simp) _) | (refine Below.setCell ?_ (by first | omega | (simp; omega) | simp) _) | refine Below.drew ?_))
      have z1 := hb1.size
      (try simp at z1)
      obtain ⟨g1_0, g1_1, g1_2, g1_3, g1_4, g1_5, g1_6, g1_7, g1_8⟩ : v1.cell? ⟨w.heap.size, 0, none⟩ = some (.int .i64 f.len) ∧ v1.cell? ⟨w.heap.size, 1, none⟩ = some (.int .i64 f.slack) ∧ v1.cell? ⟨w.heap.size, 2, none⟩ = some (.slice sa sl sc) ∧ v1.cell? ⟨w.heap.size, 3, none⟩ = some (.slice pa pl pc) ∧ v1.cell? ⟨w.heap.size, 4, none⟩ = some (.slice ca cl cc) ∧ v1.cell? ⟨w.heap.size + 1, 0, none⟩ = some (.int .i64 (n : Int)) ∧ v1.cell? ⟨w.heap.size + 1, 1, none⟩ = some (.slice xa xl xc) ∧ v1.cell? ⟨w.heap.size + 1, 2, none⟩ = some (.int .i64 on) ∧ v1.cell? ⟨w.heap.size + 1, 3, none⟩ = some (.int .i64 ot) :=
        ⟨(hb1.cell (p := ⟨w.heap.size, 0, none⟩) (by first | omega | (simp; done) | (simp; omega))).trans (by go_simp), (hb1.cell (p := ⟨w.heap.size, 1, none⟩) (by first | omega | (simp; done) | (simp; omega))).trans (by go_simp), (hb1.cell (p := ⟨w.heap.size, 2, none⟩) (by first | omega | (simp; done) | (simp; omega))).trans (by go_simp), (hb1.cell (p := ⟨w.heap.size, 3, none⟩) (by first | omega | (simp; done) | (simp; omega))).trans (by go_simp), (hb1.cell (p := ⟨w.heap.size, 4, none⟩) (by first | omega | (simp; done) | (simp; omega))).trans (by go_simp), (hb1.cell (p := ⟨w.heap.size + 1, 0, none⟩) (by first | omega | (simp; done) | (simp; omega))).trans (by go_simp), (hb1.cell (p := ⟨w.heap.size + 1, 1, none⟩) (by first | omega | (simp; done) | (simp; omega))).trans (by go_simp), (hb1.cell (p := ⟨w.heap.size + 1, 2, none⟩) (by first | omega | (simp; done) | (simp; omega))).trans (by go_simp), (hb1.cell (p := ⟨w.heap.size + 1, 3, none⟩) (by first | omega | (simp; done) | (simp; omega))).trans (by go_simp)⟩
      have q1_0 : w.heap.size < v1.heap.size := by first | omega | (simp at *; omega)
      have q1_1 : w.heap.size + 1 < v1.heap.size := by first | omega | (simp at *; omega)
      have HB1 := Lib.hid hB1
      clear hb1 hB1 g0_0 g0_1 g0_2 g0_3 g0_4 g0_5 g0_6 g0_7 g0_8 q0_0 q0_1
      go_wp2_with fail
      refine (HS1.out _ (HBW.out.trans (Below.mono (by repeat (first | exact Below.refl _ _ | with_reducible exact HB1.out | (refine Below.alloc ?_ (by first | omega | (simp; omega) | simp) _) | refine Below.drew ?_)) HBW.out.size))).mono ?_
      rintro e v2 ⟨rfl, hb2⟩
      have hB2 : Below W0.heap.size W0 v2 := below_via (Lib.hid hb2) (by first | omega | (simp; done) | (simp; omega)) (by repeat (first | exact Below.refl _ _ | with_reducible exact HB1.out | (refine Below.alloc ?_ (by first | omega | (simp; omega) | simp) _) | refine Below.drew ?_))
      have z2 := hb2.size
      (try simp at z2)
      obtain ⟨g2_0, g2_1, g2_2, g2_3, g2_4, g2_5, g2_6, g2_7, g2_8⟩ : v2.cell? ⟨w.heap.size, 0, none⟩ = some (.int .i64 f.len) ∧ v2.cell? ⟨w.heap.size, 1, none⟩ = some (.int .i64 f.slack) ∧ v2.cell? ⟨w.heap.size, 2, none⟩ = some (.slice sa sl sc) ∧ v2.cell? ⟨w.heap.size, 3, none⟩ = some (.slice pa pl pc) ∧ v2.cell? ⟨w.heap.size, 4, none⟩ = some (.slice ca cl cc) ∧ v2.cell? ⟨w.heap.size + 1, 0, none⟩ = some (.int .i64 (n : Int)) ∧ v2.cell? ⟨w.heap.size + 1, 1, none⟩ = some (.slice xa xl xc) ∧ v2.cell? ⟨w.heap.size + 1, 2, none⟩ = some (.int .i64 on) ∧ v2.cell? ⟨w.heap.size + 1, 3, none⟩ = some (.int .i64 ot) :=
        ⟨(hb2.cell (p := ⟨w.heap.size, 0, none⟩) (by first | omega | (simp; done) | (simp; omega))).trans (by go_simp), (hb2.cell (p := ⟨w.heap.size, 1, none⟩) (by first | omega | (simp; done) | (simp; omega))).trans (by go_simp), (hb2.cell (p := ⟨w.heap.size, 2, none⟩) (by first | omega | (simp; done) | (simp; omega))).trans (by go_simp), (hb2.cell (p := ⟨w.heap.size, 3, none⟩) (by first | omega | (simp; done) | (simp; omega))).trans (by go_simp), (hb2.cell (p := ⟨w.heap.size, 4, none⟩) (by first | omega | (simp; done) | (simp; omega))).trans (by go_simp), (hb2.cell (p := ⟨w.heap.size + 1, 0, none⟩) (by first | omega | (simp; done) | (simp; omega))).trans (by go_simp), (hb2.cell (p := ⟨w.heap.size + 1, 1, none⟩) (by first | omega | (simp; done) | (simp; omega))).trans (by go_simp), (hb2.cell (p := ⟨w.heap.size + 1, 2, none⟩) (by first | omega | (simp; done) | (simp; omega))).trans (by go_simp), (hb2.cell (p := ⟨w.heap.size + 1, 3, none⟩) (by first | omega | (simp; done) | (simp; omega))).trans (by go_simp)⟩
      have q2_0 : w.heap.size < v2.heap.size := by first | omega | (simp at *; omega)
      have q2_1 : w.heap.size + 1 < v2.heap.size := by first | omega | (simp at *; omega)
      have HB2 := Lib.hid hB2
      clear hb2 hB2 g1_0 g1_1 g1_2 g1_3 g1_4 g1_5 g1_6 g1_7 g1_8 q1_0 q1_1
      go_wp2_with fail
      refine (HF.out _ (HBW.out.trans (Below.mono (by repeat (first | exact Below.refl _ _ | with_reducible exact HB2.out | (refine Below.alloc ?_ (by first | omega | (simp; omega) | simp) _) | refine Below.drew ?_)) HBW.out.size))).mono ?_
      rintro e v3 ⟨rfl, hb3⟩
      have hB3 : Below W0.heap.size W0 v3 := below_via (Lib.hid hb3) (by first | omega | (simp; done) | (simp; omega)) (by repeat (first | exact Below.refl _ _ | with_reducible exact HB2.out | (refine Below.alloc ?_ (by first | omega | (simp; omega) | simp) _) | refine Below.drew ?_))
      have z3 := hb3.size
      (try simp at z3)
      obtain ⟨g3_0, g3_1, g3_2, g3_3, g3_4, g3_5, g3_6, g3_7, g3_8⟩ : v3.cell? ⟨w.heap.size, 0, none⟩ = some (.int .i64 f.len) ∧ v3.cell? ⟨w.heap.size, 1, none⟩ = some (.int .i64 f.slack) ∧ v3.cell? ⟨w.heap.size, 2, none⟩ = some (.slice sa sl sc) ∧ v3.cell? ⟨w.heap.size, 3, none⟩ = some (.slice pa pl pc) ∧ v3.cell? ⟨w.heap.size, 4, none⟩ = some (.slice ca cl cc) ∧ v3.cell? ⟨w.heap.size + 1, 0, none⟩ = some (.int .i64 (n : Int)) ∧ v3.cell? ⟨w.heap.size + 1, 1, none⟩ = some (.slice xa xl xc) ∧ v3.cell? ⟨w.heap.size + 1, 2, none⟩ = some (.int .i64 on) ∧ v3.cell? ⟨w.heap.size + 1, 3, none⟩ = some (.int .i64 ot) :=
        ⟨(hb3.cell (p := ⟨w.heap.size, 0, none⟩) (by first | omega | (simp; done) | (simp; omega))).trans (by go_simp), (hb3.cell (p := ⟨w.heap.size, 1, none⟩) (by first | omega | (simp; done) | (simp; omega))).trans (by go_simp), (hb3.cell (p := ⟨w.heap.size, 2, none⟩) (by first | omega | (simp; done) | (simp; omega))).trans (by go_simp), (hb3.cell (p := ⟨w.heap.size, 3, none⟩) (by first | omega | (simp; done) | (simp; omega))).trans (by go_simp), (hb3.cell (p := ⟨w.heap.size, 4, none⟩) (by first | omega | (simp; done) | (simp; omega))).trans (by go_simp), (hb3.cell (p := ⟨w.heap.size + 1, 0, none⟩) (by first | omega | (simp; done) | (simp; omega))).trans (by go_simp), (hb3.cell (p := ⟨w.heap.size + 1, 1, none⟩) (by first | omega | (simp; done) | (simp; omega))).trans (by go_simp), (hb3.cell (p := ⟨w.heap.size + 1, 2, none⟩) (by first | omega | (simp; done) | (simp; omega))).trans (by go_simp), (hb3.cell (p := ⟨w.heap.size + 1, 3, none⟩) (by first | omega | (simp; done) | (simp; omega))).trans (by go_simp)⟩
      have q3_0 : w.heap.size < v3.heap.size := by first | omega | (simp at *; omega)
      have q3_1 : w.heap.size + 1 < v3.heap.size := by first | omega | (simp at *; omega)
      have HB3 := Lib.hid hB3
      clear hb3 hB3 g2_0 g2_1 g2_2 g2_3 g2_4 g2_5 g2_6 g2_7 g2_8 q2_0 q2_1
      go_wp2_with fail
      refine (HO.out _ (HBW.out.trans (Below.mono (by repeat (first | exact Below.refl _ _ | with_reducible exact HB3.out | (refine Below.alloc ?_ (by first | omega | (simp; omega) | simp) _) | refine Below.drew ?_)) HBW.out.size))).mono ?_
      rintro e v4 ⟨rfl, hb4⟩
      have hB4 : Below W0.heap.size W0 v4 := below_via (Lib.hid hb4) (by first | omega | (simp; done) | (simp; omega)) (by repeat (first | exact Below.refl _ _ | with_reducible exact HB3.out | (refine Below.alloc ?_ (by first | omega | (simp; omega) | simp) _) | refine Below.drew ?_))
      have z4 := hb4.size
      (try simp at z4)
      obtain ⟨g4_0, g4_1, g4_2, g4_3, g4_4, g4_5, g4_6, g4_7, g4_8⟩ : v4.cell? ⟨w.heap.size, 0, none⟩ = some (.int .i64 f.len) ∧ v4.cell? ⟨w.heap.size, 1, none⟩ = some (.int .i64 f.slack) ∧ v4.cell? ⟨w.heap.size, 2, none⟩ = some (.slice sa sl sc) ∧ v4.cell? ⟨w.heap.size, 3, none⟩ = some (.slice pa pl pc) ∧ v4.cell? ⟨w.heap.size, 4, none⟩ = some (.slice ca cl cc) ∧ v4.cell? ⟨w.heap.size + 1, 0, none⟩ = some (.int .i64 (n : Int)) ∧ v4.cell? ⟨w.heap.size + 1, 1, none⟩ = some (.slice xa xl xc) ∧ v4.cell? ⟨w.heap.size + 1, 2, none⟩ = some (.int .i64 on) ∧ v4.cell? ⟨w.heap.size + 1, 3, none⟩ = some (.int .i64 ot) :=
        ⟨(hb4.cell (p := ⟨w.heap.size, 0, none⟩) (by first | omega | (simp; done) | (simp; omega))).trans (by go_simp), (hb4.cell (p := ⟨w.heap.size, 1, none⟩) (by first | omega | (simp; done) | (simp; omega))).trans (by go_simp), (hb4.cell (p := ⟨w.heap.size, 2, none⟩) (by first | omega | (simp; done) | (simp; omega))).trans (by go_simp), (hb4.cell (p := ⟨w.heap.size, 3, none⟩) (by first | omega | (simp; done) | (simp; omega))).trans (by go_simp), (hb4.cell (p := ⟨w.heap.size, 4, none⟩) (by first | omega | (simp; done) | (simp; omega))).trans (by go_simp), (hb4.cell (p := ⟨w.heap.size + 1, 0, none⟩) (by first | omega | (simp; done) | (simp; omega))).trans (by go_simp), (hb4.cell (p := ⟨w.heap.size + 1, 1, none⟩) (by first | omega | (simp; done) | (simp; omega))).trans (by go_simp), (hb4.cell (p := ⟨w.heap.size + 1, 2, none⟩) (by first | omega | (simp; done) | (simp; omega))).trans (by go_simp), (hb4.cell (p := ⟨w.heap.size + 1, 3, none⟩) (by first | omega | (simp; done) | (simp; omega))).trans (by go_simp)⟩
      have q4_0 : w.heap.size < v4.heap.size := by first | omega | (simp at *; omega)
      have q4_1 : w.heap.size + 1 < v4.heap.size := by first | omega | (simp at *; omega)
      have HB4 := Lib.hid hB4
      clear hb4 hB4 g3_0 g3_1 g3_2 g3_3 g3_4 g3_5 g3_6 g3_7 g3_8 q3_0 q3_1
      go_wp2_with fail
      refine (HP.out _ (HBW.out.trans (Below.mono (by repeat (first | exact Below.refl _ _ | with_reducible exact HB4.out | (refine Below.alloc ?_ (by first | omega | (simp; omega) | simp) _) | refine Below.drew ?_)) HBW.out.size))).mono ?_
      rintro e v5 ⟨rfl, hb5⟩
      have hB5 : Below W0.heap.size W0 v5 := below_via (Lib.hid hb5) (by first | omega | (simp; done) | (simp; omega)) (by repeat (first | exact Below.refl _ _ | with_reducible exact HB4.out | (refine Below.alloc ?_ (by first | omega | (simp; omega) | simp) _) | refine Below.drew ?_))
      have z5 := hb5.size
      (try simp at z5)
      obtain ⟨g5_0, g5_1, g5_2, g5_3, g5_4, g5_5, g5_6, g5_7, g5_8, g5_9, g5_10⟩ : v5.cell? ⟨w.heap.size, 0, none⟩ = some (.int .i64 f.len) ∧ v5.cell? ⟨w.heap.size, 1, none⟩ = some (.int .i64 f.slack) ∧ v5.cell? ⟨w.heap.size, 2, none⟩ = some (.slice sa sl sc) ∧ v5.cell? ⟨w.heap.size, 3, none⟩ = some (.slice pa pl pc) ∧ v5.cell? ⟨w.heap.size, 4, none⟩ = some (.slice ca cl cc) ∧ v5.cell? ⟨w.heap.size + 1, 0, none⟩ = some (.int .i64 (n : Int)) ∧ v5.cell? ⟨w.heap.size + 1, 1, none⟩ = some (.slice xa xl xc) ∧ v5.cell? ⟨w.heap.size + 1, 2, none⟩ = some (.int .i64 on) ∧ v5.cell? ⟨w.heap.size + 1, 3, none⟩ = some (.int .i64 ot) ∧ v5.cell? ⟨v4.heap.size, 0, none⟩ = some (.int .i64 a) ∧ v5.cell? ⟨v4.heap.size, 1, none⟩ = some (.int .i64 b) :=
        ⟨(hb5.cell (p := ⟨w.heap.size, 0, none⟩) (by first | omega | (simp; done) | (simp; omega))).trans (by go_simp), (hb5.cell (p := ⟨w.heap.size, 1, none⟩) (by first | omega | (simp; done) | (simp; omega))).trans (by go_simp), (hb5.cell (p := ⟨w.heap.size, 2, none⟩) (by first | omega | (simp; done) | (simp; omega))).trans (by go_simp), (hb5.cell (p := ⟨w.heap.size, 3, none⟩) (by first | omega | (simp; done) | (simp; omega))).trans (by go_simp), (hb5.cell (p := ⟨w.heap.size, 4, none⟩) (by first | omega | (simp; done) | (simp; omega))).trans (by go_simp), (hb5.cell (p := ⟨w.heap.size + 1, 0, none⟩) (by first | omega | (simp; done) | (simp; omega))).trans (by go_simp), (hb5.cell (p := ⟨w.heap.size + 1, 1, none⟩) (by first | omega | (simp; done) | (simp; omega))).trans (by go_simp), (hb5.cell (p := ⟨w.heap.size + 1, 2, none⟩) (by first | omega | (simp; done) | (simp; omega))).trans (by go_simp), (hb5.cell (p := ⟨w.heap.size + 1, 3, none⟩) (by first | omega | (simp; done) | (simp; omega))).trans (by go_simp), (hb5.cell (p := ⟨v4.heap.size, 0, none⟩) (by first | omega | (simp; done) | (simp; omega))).trans (by go_simp), (hb5.cell (p := ⟨v4.heap.size, 1, none⟩) (by first | omega | (simp; done) | (simp; omega))).trans (by go_simp)⟩
      have q5_0 : w.heap.size < v5.heap.size := by first | omega | (simp at *; omega)
      have q5_1 : w.heap.size + 1 < v5.heap.size := by first | omega | (simp at *; omega)
      have q5_2 : v4.heap.size < v5.heap.size := by first | omega | (simp at *; omega)
      have HB5 := Lib.hid hB5
      clear hb5 hB5 g4_0 g4_1 g4_2 g4_3 g4_4 g4_5 g4_6 g4_7 g4_8 q4_0 q4_1
      go_wp2_with fail
      refine (HN.out _).mono ?_
      rintro e v9 ⟨rfl, rfl⟩
      clear HN HF HO HP HS1 HR1
      rcases hd with ⟨rfl, c1⟩ | ⟨rfl, rfl, c2, c3, c4, c5, c6⟩ | ⟨rfl, c1, c2, c3, c4, c5⟩ | ⟨rfl, c1, c2, c3, c4, c5, c6⟩
      all_goals (try have e1 : (k == 1) = false := by simpa using c1)
      all_goals (
        go_wp2_with fail
        refine (HK.out _).mono ?_
        rintro e v10 ⟨rfl, hb10⟩
        have HB10 := Lib.hid (HB5.out.trans (hb10.mono HB5.out.size))
        clear hb10
        go_wp2_with fail
        go_ret
        first | exact ⟨rfl, HBW.out.trans (HB10.out.mono HBW.out.size)⟩ | exact ⟨ret_bool (by simp; omega), HBW.out.trans (HB10.out.mono HBW.out.size)⟩)
end Go.Proofs.Ytgpmnelkjfoplaa
