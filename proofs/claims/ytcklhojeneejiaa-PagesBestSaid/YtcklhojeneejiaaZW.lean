/- The chapter's examples, for the landed code: they hold. -/
import Derived.Test.YtcklhojeneejiaaZV
import Derived.Test.YtcklhojeneejiaaZS
import Derived.Test.YtcklhojeneejiaaZP
import Derived.Test.YtcklhojeneejiaaZK
import Derived.Test.YtcklhojeneejiaaYG
import Derived.Test.YtcklhojeneejiaaYF
import Derived.Test.YtcklhojeneejiaaYJ
import Derived.Test.YtcklhojeneejiaaYQ
namespace Go.Proofs.Ytcklhojeneejiaa
set_option linter.unusedVariables false
set_option linter.unusedSimpArgs false
open Go.RowKit Go.Shelf
theorem exP_ok : exP.ok = true := by decide
theorem exO_ok : exO.ok = true := by decide
set_option maxRecDepth 100000 in
theorem exO_strips : exO.strips4 = (4, 0) := by kernel_rfl
set_option maxRecDepth 100000 in
theorem exP_outL : exP.outL = [3] := by kernel_rfl
set_option maxRecDepth 100000 in
theorem exP_outE : exP.outErr = 0 := by kernel_rfl
set_option maxRecDepth 100000 in
theorem exO_grow : exO.growR 0 = (22, 0) := by kernel_rfl
theorem exP_hi : exP.roomHi [0, 1] = 9 := by decide
theorem exP_lo : exP.roomLo [0, 1] = 8 := by decide
theorem exO_set : exO.setB [2, 0, 0] = true := by decide
set_option maxRecDepth 100000 in
theorem exO_known : knownR 60 2 (exO.loS [0, 1]) (exO.hiS [0, 1]) (exO.ptsL [2, 0, 0]) = 3 := by kernel_rfl
theorem ints1w {W : World} {b : Nat} {a0 : Int} {T : TypeId} (h : W.heap[b]? = some (.cells #[.int .i64 a0] T (0, 0))) : IntsAt W (some ⟨b, 0, none⟩) 1 [a0] :=
  ⟨rfl, by decide, fun _ => ⟨b, 0, rfl, (Array.getElem?_eq_some_iff.1 h).1, fun i hi => by
    rw [cell_at h]
    have : i = 0 := by simp at hi; omega
    subst this; rfl⟩⟩
theorem ints3w {W : World} {b : Nat} {a0 a1 a2 : Int} {T : TypeId} (h : W.heap[b]? = some (.cells #[.int .i64 a0, .int .i64 a1, .int .i64 a2] T (0, 0))) : IntsAt W (some ⟨b, 0, none⟩) 3 [a0, a1, a2] :=
  ⟨rfl, by decide, fun _ => ⟨b, 0, rfl, (Array.getElem?_eq_some_iff.1 h).1, fun i hi => by
    rw [cell_at h]
    have : i = 0 ∨ i = 1 ∨ i = 2 := by simp at hi; omega
    rcases this with rfl | rfl | rfl <;> rfl⟩⟩

theorem Room_P (sa : Option Addr) (sc : Nat) (pa : Option Addr) (pc : Nat) (ca : Option Addr) (cc : Nat) (w : World) (hp : PAt w sa 3 sc pa 4 pc ca 2 cc exP) :
    Calls Try.prog 26 #[.agg #[.int .i64 60, .int .i64 2, .slice sa 3 sc, .slice pa 4 pc, .slice ca 2 cc], .int .i64 0] w fun e w' => e = .returned (.tuple #[.agg #[.int .i64 8, .int .i64 9], .int .i64 0]) ∧ Below w.heap.size w w' := by
  refine (Room_yes exP sa 3 sc pa 4 pc ca 2 cc 0 (by decide) exP_ok w hp).mono ?_
  rintro e w' ⟨h, hb⟩
  refine ⟨?_, hb⟩
  have h' : e = .returned (.tuple (if exP.roomHi [0, 1] < exP.roomLo [0, 1] then #[.agg #[.int .i64 0, .int .i64 0], .int .i64 3] else #[.agg #[.int .i64 (exP.roomLo [0, 1]), .int .i64 (exP.roomHi [0, 1])], .int .i64 0])) := h
  rw [exP_hi, exP_lo] at h'
  exact h'

theorem Strips_O (sa : Option Addr) (sc : Nat) (pa : Option Addr) (pc : Nat) (ca : Option Addr) (cc : Nat) (w : World) (hp : PAt w sa 3 sc pa 4 pc ca 2 cc exO) :
    Calls Try.prog 31 #[.agg #[.int .i64 60, .int .i64 2, .slice sa 3 sc, .slice pa 4 pc, .slice ca 2 cc]] w fun e w' => e = .returned (.tuple #[.int .i64 4, .int .i64 0]) ∧ Below w.heap.size w w' := by
  refine (Strips_any exO sa 3 sc pa 4 pc ca 2 cc w hp).mono ?_
  rintro e w' ⟨h, hb⟩
  rw [exO_strips] at h
  exact ⟨h, hb⟩

theorem Refuse_P (sa : Option Addr) (sc : Nat) (pa : Option Addr) (pc : Nat) (ca : Option Addr) (cc : Nat) (w : World) (hp : PAt w sa 3 sc pa 4 pc ca 2 cc exP) :
    Calls Try.prog 38 #[.agg #[.int .i64 60, .int .i64 2, .slice sa 3 sc, .slice pa 4 pc, .slice ca 2 cc]] w fun e w' => ∃ a c, e = .returned (.tuple #[.slice a 1 c, .int .i64 0]) ∧ IntsAt w' a 1 [3] ∧ Below w.heap.size w w' := by
  refine (Refuse_any exP sa 3 sc pa 4 pc ca 2 cc w hp).mono ?_
  rintro e w' ⟨a, n, c, h, hi, hb⟩
  rw [exP_outE] at h
  rw [exP_outL] at hi
  have hn : 1 = n := hi.1
  subst hn
  exact ⟨a, c, h, hi, hb⟩

theorem Fits_O (sa : Option Addr) (sc : Nat) (pa : Option Addr) (pc : Nat) (ca : Option Addr) (cc : Nat) (xa : Option Addr) (xc : Nat) (w : World) (hp : PAt w sa 3 sc pa 4 pc ca 2 cc exO) (hx : IntsAt w xa 3 [2, 0, 0]) :
    Calls Try.prog 24 #[.agg #[.int .i64 60, .int .i64 2, .slice sa 3 sc, .slice pa 4 pc, .slice ca 2 cc], .int .i64 0, .slice xa 3 xc] w fun e w' => e = .returned (.tuple #[.int .i64 3, .int .i64 0]) ∧ Below w.heap.size w w' := by
  refine (Fits_yes exO sa 3 sc pa 4 pc ca 2 cc 0 (by decide) xa 3 xc [2, 0, 0] exO_set exO_ok w hp hx).mono ?_
  rintro e w' ⟨h, hb⟩
  refine ⟨?_, hb⟩
  have h' : e = .returned (.tuple #[.int .i64 (knownR 60 2 (exO.loS [0, 1]) (exO.hiS [0, 1]) (exO.ptsL [2, 0, 0])), .int .i64 0]) := h
  rw [exO_known] at h'
  exact h'

theorem Grow_O (sa : Option Addr) (sc : Nat) (pa : Option Addr) (pc : Nat) (ca : Option Addr) (cc : Nat) (w : World) (hp : PAt w sa 3 sc pa 4 pc ca 2 cc exO) :
    Calls Try.prog 42 #[.agg #[.int .i64 60, .int .i64 2, .slice sa 3 sc, .slice pa 4 pc, .slice ca 2 cc], .int .i64 0] w fun e w' => e = .returned (.tuple #[.int .i64 22, .int .i64 0]) ∧ Below w.heap.size w w' := by
  refine (Grow_yes exO sa 3 sc pa 4 pc ca 2 cc exO_ok 0 (by decide) w hp).mono ?_
  rintro e w' ⟨h, hb⟩
  rw [exO_grow] at h
  exact ⟨h, hb⟩

theorem Gap_P (sa : Option Addr) (sc : Nat) (pa : Option Addr) (pc : Nat) (ca : Option Addr) (cc : Nat) (w : World) (hp : PAt w sa 3 sc pa 4 pc ca 2 cc exP) :
    Calls Try.prog 44 #[.agg #[.int .i64 60, .int .i64 2, .slice sa 3 sc, .slice pa 4 pc, .slice ca 2 cc], .int .i64 1, .int .i64 3] w fun e w' => e = .returned (.tuple #[.agg #[.int .i64 19, .int .i64 21], .int .i64 0]) ∧ Below w.heap.size w w' := by
  refine (Gap_yes exP sa 3 sc pa 4 pc ca 2 cc 1 3 exP_ok (by decide) (by decide) (by decide) (by decide) w hp).mono ?_
  rintro e w' ⟨⟨ci, a, di, b, h1, h2, h⟩, hb⟩
  refine ⟨?_, hb⟩
  have c1 : ci = 0 ∧ a = 1 := by
    obtain ⟨p1, p2, p3⟩ := h1
    have hh : ∀ (ci a : Nat) (q1 : ci < exP.cols.length) (q2 : a < exP.cols[ci].length), exP.cols[ci][a] = 1 → ci = 0 ∧ a = 1 := by
      intro ci a q1 q2 h
      have : ci = 0 ∨ ci = 1 := by simp [exP] at q1; omega
      rcases this with rfl | rfl <;> (have : a = 0 ∨ a = 1 := by (simp [exP] at q2; omega)) <;> rcases this with rfl | rfl <;> simp [exP] at h ⊢
    exact hh ci a p1 p2 p3
  have c2 : di = 1 ∧ b = 1 := by
    obtain ⟨p1, p2, p3⟩ := h2
    have hh : ∀ (ci a : Nat) (q1 : ci < exP.cols.length) (q2 : a < exP.cols[ci].length), exP.cols[ci][a] = 3 → ci = 1 ∧ a = 1 := by
      intro ci a q1 q2 h
      have : ci = 0 ∨ ci = 1 := by simp [exP] at q1; omega
      rcases this with rfl | rfl <;> (have : a = 0 ∨ a = 1 := by (simp [exP] at q2; omega)) <;> rcases this with rfl | rfl <;> simp [exP] at h ⊢
    exact hh di b p1 p2 p3
  obtain ⟨rfl, rfl⟩ := c1
  obtain ⟨rfl, rfl⟩ := c2
  rw [show exP.gapLo (exP.ahead 0 1) (exP.ahead 1 1) = 19 by decide +kernel, show exP.gapHi (exP.ahead 0 1) (exP.ahead 1 1) = 21 by decide +kernel] at h
  exact h

set_option maxRecDepth 100000 in
set_option maxHeartbeats 8000000 in
theorem works_any (w : World) : Calls Try.prog 18 #[] w fun e w' => e = .returned (.bool true) ∧ Below w.heap.size w w' := by
  go_enter Try.func18, Try.ntmps18
  go_wp2_with fail
  refine (Example_any w).mono ?_
  rintro e w1 ⟨kas, kcs, las, lcs, mas, mcs, kat, kct, lat, lct, mat, mct, rfl, hs, ht, hb1⟩
  go_wp2_with fail
  obtain ⟨W0, hW0, hB0, hs0, ht0, hz0⟩ := name2c w1 #[.int .i64 60, .int .i64 2, .slice kas 3 kcs, .slice las 4 lcs, .slice mas 2 mcs] 26 #[.int .i64 60, .int .i64 2, .slice kat 3 kct, .slice lat 4 lct, .slice mat 2 mct] 26
  rw [hW0]
  clear hW0
  obtain ⟨n0, hn0⟩ : ∃ n0, w1.heap.size = n0 := ⟨_, rfl⟩
  have HS := Lib.hid (fun W (h : Below W0.heap.size W0 W) => (hs.below hB0).below h)
  have HT := Lib.hid (fun W (h : Below W0.heap.size W0 W) => (ht.below hB0).below h)
  have HBW := Lib.hid (hb1.trans (hB0.mono hb1.size))
  rw [hn0] at hs0 ht0 hz0
  rw [hn0]
  obtain ⟨g0_0, g0_1, g0_2, g0_3, g0_4, g0_5, g0_6, g0_7, g0_8, g0_9⟩ : W0.cell? ⟨n0, 0, none⟩ = some (.int .i64 60) ∧ W0.cell? ⟨n0, 1, none⟩ = some (.int .i64 2) ∧ W0.cell? ⟨n0, 2, none⟩ = some (.slice kas 3 kcs) ∧ W0.cell? ⟨n0, 3, none⟩ = some (.slice las 4 lcs) ∧ W0.cell? ⟨n0, 4, none⟩ = some (.slice mas 2 mcs) ∧ W0.cell? ⟨n0 + 1, 0, none⟩ = some (.int .i64 60) ∧ W0.cell? ⟨n0 + 1, 1, none⟩ = some (.int .i64 2) ∧ W0.cell? ⟨n0 + 1, 2, none⟩ = some (.slice kat 3 kct) ∧ W0.cell? ⟨n0 + 1, 3, none⟩ = some (.slice lat 4 lct) ∧ W0.cell? ⟨n0 + 1, 4, none⟩ = some (.slice mat 2 mct) := ⟨hs0 0, hs0 1, hs0 2, hs0 3, hs0 4, ht0 0, ht0 1, ht0 2, ht0 3, ht0 4⟩
  have q0_0 : n0 < W0.heap.size := by omega
  have q0_1 : n0 + 1 < W0.heap.size := by omega
  clear hs ht hb1 hB0 hs0 ht0 hz0 hn0
  go_wp2_with fail
  refine (Room_P kas kcs las lcs mas mcs _ (HS.out _ (by repeat (first | exact Below.refl _ _ | (refine Below.alloc ?_ (by first | omega | (simp; omega) | simp) _) | (refine Below.setCell ?_ (by first | omega | (simp; omega) | simp) _) | refine Below.drew ?_)))).mono ?_
  rintro e v1 ⟨rfl, hb1⟩
  have hB1 : Below W0.heap.size W0 v1 := below_via (Lib.hid hb1) (by first | omega | (simp; done) | (simp; omega)) (by repeat (first | exact Below.refl _ _ | (refine Below.alloc ?_ (by first | omega | (simp; omega) | simp) _) | (refine Below.setCell ?_ (by first | omega | (simp; omega) | simp) _) | refine Below.drew ?_))
  have z1 := hb1.size
  (try simp at z1)
  obtain ⟨g1_0, g1_1, g1_2, g1_3, g1_4, g1_5, g1_6, g1_7, g1_8, g1_9⟩ : v1.cell? ⟨n0, 0, none⟩ = some (.int .i64 60) ∧ v1.cell? ⟨n0, 1, none⟩ = some (.int .i64 2) ∧ v1.cell? ⟨n0, 2, none⟩ = some (.slice kas 3 kcs) ∧ v1.cell? ⟨n0, 3, none⟩ = some (.slice las 4 lcs) ∧ v1.cell? ⟨n0, 4, none⟩ = some (.slice mas 2 mcs) ∧ v1.cell? ⟨n0 + 1, 0, none⟩ = some (.int .i64 60) ∧ v1.cell? ⟨n0 + 1, 1, none⟩ = some (.int .i64 2) ∧ v1.cell? ⟨n0 + 1, 2, none⟩ = some (.slice kat 3 kct) ∧ v1.cell? ⟨n0 + 1, 3, none⟩ = some (.slice lat 4 lct) ∧ v1.cell? ⟨n0 + 1, 4, none⟩ = some (.slice mat 2 mct) :=
    ⟨(hb1.cell (p := ⟨n0, 0, none⟩) (by first | omega | (simp; done) | (simp; omega))).trans (by go_simp), (hb1.cell (p := ⟨n0, 1, none⟩) (by first | omega | (simp; done) | (simp; omega))).trans (by go_simp), (hb1.cell (p := ⟨n0, 2, none⟩) (by first | omega | (simp; done) | (simp; omega))).trans (by go_simp), (hb1.cell (p := ⟨n0, 3, none⟩) (by first | omega | (simp; done) | (simp; omega))).trans (by go_simp), (hb1.cell (p := ⟨n0, 4, none⟩) (by first | omega | (simp; done) | (simp; omega))).trans (by go_simp), (hb1.cell (p := ⟨n0 + 1, 0, none⟩) (by first | omega | (simp; done) | (simp; omega))).trans (by go_simp), (hb1.cell (p := ⟨n0 + 1, 1, none⟩) (by first | omega | (simp; done) | (simp; omega))).trans (by go_simp), (hb1.cell (p := ⟨n0 + 1, 2, none⟩) (by first | omega | (simp; done) | (simp; omega))).trans (by go_simp), (hb1.cell (p := ⟨n0 + 1, 3, none⟩) (by first | omega | (simp; done) | (simp; omega))).trans (by go_simp), (hb1.cell (p := ⟨n0 + 1, 4, none⟩) (by first | omega | (simp; done) | (simp; omega))).trans (by go_simp)⟩
  have q1_0 : n0 < v1.heap.size := by first | omega | (simp at *; omega)
  have q1_1 : n0 + 1 < v1.heap.size := by first | omega | (simp at *; omega)
  have HB1 := Lib.hid hB1
  clear hb1 hB1 g0_0 g0_1 g0_2 g0_3 g0_4 g0_5 g0_6 g0_7 g0_8 g0_9 q0_0 q0_1
  go_wp2_with fail
  refine (Strips_O kat kct lat lct mat mct _ (HT.out _ (by repeat (first | exact Below.refl _ _ | with_reducible exact HB1.out | (refine Below.alloc ?_ (by first | omega | (simp; omega) | simp) _) | refine Below.drew ?_)))).mono ?_
  rintro e v2 ⟨rfl, hb2⟩
  have hB2 : Below W0.heap.size W0 v2 := below_via (Lib.hid hb2) (by first | omega | (simp; done) | (simp; omega)) (by repeat (first | exact Below.refl _ _ | with_reducible exact HB1.out | (refine Below.alloc ?_ (by first | omega | (simp; omega) | simp) _) | refine Below.drew ?_))
  have z2 := hb2.size
  (try simp at z2)
  obtain ⟨g2_0, g2_1, g2_2, g2_3, g2_4, g2_5, g2_6, g2_7, g2_8, g2_9, g2_10, g2_11⟩ : v2.cell? ⟨n0, 0, none⟩ = some (.int .i64 60) ∧ v2.cell? ⟨n0, 1, none⟩ = some (.int .i64 2) ∧ v2.cell? ⟨n0, 2, none⟩ = some (.slice kas 3 kcs) ∧ v2.cell? ⟨n0, 3, none⟩ = some (.slice las 4 lcs) ∧ v2.cell? ⟨n0, 4, none⟩ = some (.slice mas 2 mcs) ∧ v2.cell? ⟨n0 + 1, 0, none⟩ = some (.int .i64 60) ∧ v2.cell? ⟨n0 + 1, 1, none⟩ = some (.int .i64 2) ∧ v2.cell? ⟨n0 + 1, 2, none⟩ = some (.slice kat 3 kct) ∧ v2.cell? ⟨n0 + 1, 3, none⟩ = some (.slice lat 4 lct) ∧ v2.cell? ⟨n0 + 1, 4, none⟩ = some (.slice mat 2 mct) ∧ v2.cell? ⟨v1.heap.size, 0, none⟩ = some (.int .i64 8) ∧ v2.cell? ⟨v1.heap.size, 1, none⟩ = some (.int .i64 9) :=
    ⟨(hb2.cell (p := ⟨n0, 0, none⟩) (by first | omega | (simp; done) | (simp; omega))).trans (by go_simp), (hb2.cell (p := ⟨n0, 1, none⟩) (by first | omega | (simp; done) | (simp; omega))).trans (by go_simp), (hb2.cell (p := ⟨n0, 2, none⟩) (by first | omega | (simp; done) | (simp; omega))).trans (by go_simp), (hb2.cell (p := ⟨n0, 3, none⟩) (by first | omega | (simp; done) | (simp; omega))).trans (by go_simp), (hb2.cell (p := ⟨n0, 4, none⟩) (by first | omega | (simp; done) | (simp; omega))).trans (by go_simp), (hb2.cell (p := ⟨n0 + 1, 0, none⟩) (by first | omega | (simp; done) | (simp; omega))).trans (by go_simp), (hb2.cell (p := ⟨n0 + 1, 1, none⟩) (by first | omega | (simp; done) | (simp; omega))).trans (by go_simp), (hb2.cell (p := ⟨n0 + 1, 2, none⟩) (by first | omega | (simp; done) | (simp; omega))).trans (by go_simp), (hb2.cell (p := ⟨n0 + 1, 3, none⟩) (by first | omega | (simp; done) | (simp; omega))).trans (by go_simp), (hb2.cell (p := ⟨n0 + 1, 4, none⟩) (by first | omega | (simp; done) | (simp; omega))).trans (by go_simp), (hb2.cell (p := ⟨v1.heap.size, 0, none⟩) (by first | omega | (simp; done) | (simp; omega))).trans (by go_simp), (hb2.cell (p := ⟨v1.heap.size, 1, none⟩) (by first | omega | (simp; done) | (simp; omega))).trans (by go_simp)⟩
  have q2_0 : n0 < v2.heap.size := by first | omega | (simp at *; omega)
  have q2_1 : n0 + 1 < v2.heap.size := by first | omega | (simp at *; omega)
  have q2_2 : v1.heap.size < v2.heap.size := by first | omega | (simp at *; omega)
  have HB2 := Lib.hid hB2
  clear hb2 hB2 g1_0 g1_1 g1_2 g1_3 g1_4 g1_5 g1_6 g1_7 g1_8 g1_9 q1_0 q1_1
  go_wp2_with fail
  refine (Refuse_P kas kcs las lcs mas mcs _ (HS.out _ (by repeat (first | exact Below.refl _ _ | with_reducible exact HB2.out | (refine Below.alloc ?_ (by first | omega | (simp; omega) | simp) _) | refine Below.drew ?_)))).mono ?_
  rintro e v3 ⟨al, cl, rfl, hl, hb3⟩
  have hB3 : Below W0.heap.size W0 v3 := below_via (Lib.hid hb3) (by first | omega | (simp; done) | (simp; omega)) (by repeat (first | exact Below.refl _ _ | with_reducible exact HB2.out | (refine Below.alloc ?_ (by first | omega | (simp; omega) | simp) _) | refine Below.drew ?_))
  have z3 := hb3.size
  (try simp at z3)
  obtain ⟨g3_0, g3_1, g3_2, g3_3, g3_4, g3_5, g3_6, g3_7, g3_8, g3_9, g3_10, g3_11⟩ : v3.cell? ⟨n0, 0, none⟩ = some (.int .i64 60) ∧ v3.cell? ⟨n0, 1, none⟩ = some (.int .i64 2) ∧ v3.cell? ⟨n0, 2, none⟩ = some (.slice kas 3 kcs) ∧ v3.cell? ⟨n0, 3, none⟩ = some (.slice las 4 lcs) ∧ v3.cell? ⟨n0, 4, none⟩ = some (.slice mas 2 mcs) ∧ v3.cell? ⟨n0 + 1, 0, none⟩ = some (.int .i64 60) ∧ v3.cell? ⟨n0 + 1, 1, none⟩ = some (.int .i64 2) ∧ v3.cell? ⟨n0 + 1, 2, none⟩ = some (.slice kat 3 kct) ∧ v3.cell? ⟨n0 + 1, 3, none⟩ = some (.slice lat 4 lct) ∧ v3.cell? ⟨n0 + 1, 4, none⟩ = some (.slice mat 2 mct) ∧ v3.cell? ⟨v1.heap.size, 0, none⟩ = some (.int .i64 8) ∧ v3.cell? ⟨v1.heap.size, 1, none⟩ = some (.int .i64 9) :=
    ⟨(hb3.cell (p := ⟨n0, 0, none⟩) (by first | omega | (simp; done) | (simp; omega))).trans (by go_simp), (hb3.cell (p := ⟨n0, 1, none⟩) (by first | omega | (simp; done) | (simp; omega))).trans (by go_simp), (hb3.cell (p := ⟨n0, 2, none⟩) (by first | omega | (simp; done) | (simp; omega))).trans (by go_simp), (hb3.cell (p := ⟨n0, 3, none⟩) (by first | omega | (simp; done) | (simp; omega))).trans (by go_simp), (hb3.cell (p := ⟨n0, 4, none⟩) (by first | omega | (simp; done) | (simp; omega))).trans (by go_simp), (hb3.cell (p := ⟨n0 + 1, 0, none⟩) (by first | omega | (simp; done) | (simp; omega))).trans (by go_simp), (hb3.cell (p := ⟨n0 + 1, 1, none⟩) (by first | omega | (simp; done) | (simp; omega))).trans (by go_simp), (hb3.cell (p := ⟨n0 + 1, 2, none⟩) (by first | omega | (simp; done) | (simp; omega))).trans (by go_simp), (hb3.cell (p := ⟨n0 + 1, 3, none⟩) (by first | omega | (simp; done) | (simp; omega))).trans (by go_simp), (hb3.cell (p := ⟨n0 + 1, 4, none⟩) (by first | omega | (simp; done) | (simp; omega))).trans (by go_simp), (hb3.cell (p := ⟨v1.heap.size, 0, none⟩) (by first | omega | (simp; done) | (simp; omega))).trans (by go_simp), (hb3.cell (p := ⟨v1.heap.size, 1, none⟩) (by first | omega | (simp; done) | (simp; omega))).trans (by go_simp)⟩
  have q3_0 : n0 < v3.heap.size := by first | omega | (simp at *; omega)
  have q3_1 : n0 + 1 < v3.heap.size := by first | omega | (simp at *; omega)
  have q3_2 : v1.heap.size < v3.heap.size := by first | omega | (simp at *; omega)
  have HB3 := Lib.hid hB3
  have HL := Lib.hid (fun W (h : Below v3.heap.size v3 W) => hl.below h)
  clear hl
  clear hb3 hB3 g2_0 g2_1 g2_2 g2_3 g2_4 g2_5 g2_6 g2_7 g2_8 g2_9 g2_10 g2_11 q2_0 q2_1 q2_2
  go_wp2_with fail
  refine (Fits_O kat kct lat lct mat mct (some ⟨v3.heap.size, 0, none⟩) 3 _ (HT.out _ (by repeat (first | exact Below.refl _ _ | with_reducible exact HB3.out | (refine Below.alloc ?_ (by first | omega | (simp; omega) | simp) _) | refine Below.drew ?_))) (ints3w (World.alloc_heap_new _ _))).mono ?_
  rintro e v4 ⟨rfl, hb4⟩
  have hB4 : Below W0.heap.size W0 v4 := below_via (Lib.hid hb4) (by first | omega | (simp; done) | (simp; omega)) (by repeat (first | exact Below.refl _ _ | with_reducible exact HB3.out | (refine Below.alloc ?_ (by first | omega | (simp; omega) | simp) _) | refine Below.drew ?_))
  have z4 := hb4.size
  (try simp at z4)
  obtain ⟨g4_0, g4_1, g4_2, g4_3, g4_4, g4_5, g4_6, g4_7, g4_8, g4_9, g4_10, g4_11⟩ : v4.cell? ⟨n0, 0, none⟩ = some (.int .i64 60) ∧ v4.cell? ⟨n0, 1, none⟩ = some (.int .i64 2) ∧ v4.cell? ⟨n0, 2, none⟩ = some (.slice kas 3 kcs) ∧ v4.cell? ⟨n0, 3, none⟩ = some (.slice las 4 lcs) ∧ v4.cell? ⟨n0, 4, none⟩ = some (.slice mas 2 mcs) ∧ v4.cell? ⟨n0 + 1, 0, none⟩ = some (.int .i64 60) ∧ v4.cell? ⟨n0 + 1, 1, none⟩ = some (.int .i64 2) ∧ v4.cell? ⟨n0 + 1, 2, none⟩ = some (.slice kat 3 kct) ∧ v4.cell? ⟨n0 + 1, 3, none⟩ = some (.slice lat 4 lct) ∧ v4.cell? ⟨n0 + 1, 4, none⟩ = some (.slice mat 2 mct) ∧ v4.cell? ⟨v1.heap.size, 0, none⟩ = some (.int .i64 8) ∧ v4.cell? ⟨v1.heap.size, 1, none⟩ = some (.int .i64 9) :=
    ⟨(hb4.cell (p := ⟨n0, 0, none⟩) (by first | omega | (simp; done) | (simp; omega))).trans (by go_simp), (hb4.cell (p := ⟨n0, 1, none⟩) (by first | omega | (simp; done) | (simp; omega))).trans (by go_simp), (hb4.cell (p := ⟨n0, 2, none⟩) (by first | omega | (simp; done) | (simp; omega))).trans (by go_simp), (hb4.cell (p := ⟨n0, 3, none⟩) (by first | omega | (simp; done) | (simp; omega))).trans (by go_simp), (hb4.cell (p := ⟨n0, 4, none⟩) (by first | omega | (simp; done) | (simp; omega))).trans (by go_simp), (hb4.cell (p := ⟨n0 + 1, 0, none⟩) (by first | omega | (simp; done) | (simp; omega))).trans (by go_simp), (hb4.cell (p := ⟨n0 + 1, 1, none⟩) (by first | omega | (simp; done) | (simp; omega))).trans (by go_simp), (hb4.cell (p := ⟨n0 + 1, 2, none⟩) (by first | omega | (simp; done) | (simp; omega))).trans (by go_simp), (hb4.cell (p := ⟨n0 + 1, 3, none⟩) (by first | omega | (simp; done) | (simp; omega))).trans (by go_simp), (hb4.cell (p := ⟨n0 + 1, 4, none⟩) (by first | omega | (simp; done) | (simp; omega))).trans (by go_simp), (hb4.cell (p := ⟨v1.heap.size, 0, none⟩) (by first | omega | (simp; done) | (simp; omega))).trans (by go_simp), (hb4.cell (p := ⟨v1.heap.size, 1, none⟩) (by first | omega | (simp; done) | (simp; omega))).trans (by go_simp)⟩
  have q4_0 : n0 < v4.heap.size := by first | omega | (simp at *; omega)
  have q4_1 : n0 + 1 < v4.heap.size := by first | omega | (simp at *; omega)
  have q4_2 : v1.heap.size < v4.heap.size := by first | omega | (simp at *; omega)
  have HB4 := Lib.hid hB4
  have HL4 := Lib.hid (fun W (h : Below v4.heap.size v4 W) => (HL.out _ (((Below.refl _ _).alloc (Nat.le_refl _) _ : Below v3.heap.size v3 _).trans (hb4.mono (by simp)))).below h)
  clear HL
  clear hb4 hB4 g3_0 g3_1 g3_2 g3_3 g3_4 g3_5 g3_6 g3_7 g3_8 g3_9 g3_10 g3_11 q3_0 q3_1 q3_2
  go_wp2_with fail
  refine (Grow_O kat kct lat lct mat mct _ (HT.out _ (by repeat (first | exact Below.refl _ _ | with_reducible exact HB4.out | (refine Below.alloc ?_ (by first | omega | (simp; omega) | simp) _) | refine Below.drew ?_)))).mono ?_
  rintro e v5 ⟨rfl, hb5⟩
  have hB5 : Below W0.heap.size W0 v5 := below_via (Lib.hid hb5) (by first | omega | (simp; done) | (simp; omega)) (by repeat (first | exact Below.refl _ _ | with_reducible exact HB4.out | (refine Below.alloc ?_ (by first | omega | (simp; omega) | simp) _) | refine Below.drew ?_))
  have z5 := hb5.size
  (try simp at z5)
  obtain ⟨g5_0, g5_1, g5_2, g5_3, g5_4, g5_5, g5_6, g5_7, g5_8, g5_9, g5_10, g5_11⟩ : v5.cell? ⟨n0, 0, none⟩ = some (.int .i64 60) ∧ v5.cell? ⟨n0, 1, none⟩ = some (.int .i64 2) ∧ v5.cell? ⟨n0, 2, none⟩ = some (.slice kas 3 kcs) ∧ v5.cell? ⟨n0, 3, none⟩ = some (.slice las 4 lcs) ∧ v5.cell? ⟨n0, 4, none⟩ = some (.slice mas 2 mcs) ∧ v5.cell? ⟨n0 + 1, 0, none⟩ = some (.int .i64 60) ∧ v5.cell? ⟨n0 + 1, 1, none⟩ = some (.int .i64 2) ∧ v5.cell? ⟨n0 + 1, 2, none⟩ = some (.slice kat 3 kct) ∧ v5.cell? ⟨n0 + 1, 3, none⟩ = some (.slice lat 4 lct) ∧ v5.cell? ⟨n0 + 1, 4, none⟩ = some (.slice mat 2 mct) ∧ v5.cell? ⟨v1.heap.size, 0, none⟩ = some (.int .i64 8) ∧ v5.cell? ⟨v1.heap.size, 1, none⟩ = some (.int .i64 9) :=
    ⟨(hb5.cell (p := ⟨n0, 0, none⟩) (by first | omega | (simp; done) | (simp; omega))).trans (by go_simp), (hb5.cell (p := ⟨n0, 1, none⟩) (by first | omega | (simp; done) | (simp; omega))).trans (by go_simp), (hb5.cell (p := ⟨n0, 2, none⟩) (by first | omega | (simp; done) | (simp; omega))).trans (by go_simp), (hb5.cell (p := ⟨n0, 3, none⟩) (by first | omega | (simp; done) | (simp; omega))).trans (by go_simp), (hb5.cell (p := ⟨n0, 4, none⟩) (by first | omega | (simp; done) | (simp; omega))).trans (by go_simp), (hb5.cell (p := ⟨n0 + 1, 0, none⟩) (by first | omega | (simp; done) | (simp; omega))).trans (by go_simp), (hb5.cell (p := ⟨n0 + 1, 1, none⟩) (by first | omega | (simp; done) | (simp; omega))).trans (by go_simp), (hb5.cell (p := ⟨n0 + 1, 2, none⟩) (by first | omega | (simp; done) | (simp; omega))).trans (by go_simp), (hb5.cell (p := ⟨n0 + 1, 3, none⟩) (by first | omega | (simp; done) | (simp; omega))).trans (by go_simp), (hb5.cell (p := ⟨n0 + 1, 4, none⟩) (by first | omega | (simp; done) | (simp; omega))).trans (by go_simp), (hb5.cell (p := ⟨v1.heap.size, 0, none⟩) (by first | omega | (simp; done) | (simp; omega))).trans (by go_simp), (hb5.cell (p := ⟨v1.heap.size, 1, none⟩) (by first | omega | (simp; done) | (simp; omega))).trans (by go_simp)⟩
  have q5_0 : n0 < v5.heap.size := by first | omega | (simp at *; omega)
  have q5_1 : n0 + 1 < v5.heap.size := by first | omega | (simp at *; omega)
  have q5_2 : v1.heap.size < v5.heap.size := by first | omega | (simp at *; omega)
  have HB5 := Lib.hid hB5
  have HL5 := Lib.hid (fun W (h : Below v5.heap.size v5 W) => (HL4.out _ hb5).below h)
  clear HL4
  clear hb5 hB5 g4_0 g4_1 g4_2 g4_3 g4_4 g4_5 g4_6 g4_7 g4_8 g4_9 g4_10 g4_11 q4_0 q4_1 q4_2
  go_wp2_with fail
  refine (Gap_P kas kcs las lcs mas mcs _ (HS.out _ (by repeat (first | exact Below.refl _ _ | with_reducible exact HB5.out | (refine Below.alloc ?_ (by first | omega | (simp; omega) | simp) _) | refine Below.drew ?_)))).mono ?_
  rintro e v6 ⟨rfl, hb6⟩
  have hB6 : Below W0.heap.size W0 v6 := below_via (Lib.hid hb6) (by first | omega | (simp; done) | (simp; omega)) (by repeat (first | exact Below.refl _ _ | with_reducible exact HB5.out | (refine Below.alloc ?_ (by first | omega | (simp; omega) | simp) _) | refine Below.drew ?_))
  have z6 := hb6.size
  (try simp at z6)
  obtain ⟨g6_0, g6_1, g6_2, g6_3, g6_4, g6_5, g6_6, g6_7, g6_8, g6_9, g6_10, g6_11⟩ : v6.cell? ⟨n0, 0, none⟩ = some (.int .i64 60) ∧ v6.cell? ⟨n0, 1, none⟩ = some (.int .i64 2) ∧ v6.cell? ⟨n0, 2, none⟩ = some (.slice kas 3 kcs) ∧ v6.cell? ⟨n0, 3, none⟩ = some (.slice las 4 lcs) ∧ v6.cell? ⟨n0, 4, none⟩ = some (.slice mas 2 mcs) ∧ v6.cell? ⟨n0 + 1, 0, none⟩ = some (.int .i64 60) ∧ v6.cell? ⟨n0 + 1, 1, none⟩ = some (.int .i64 2) ∧ v6.cell? ⟨n0 + 1, 2, none⟩ = some (.slice kat 3 kct) ∧ v6.cell? ⟨n0 + 1, 3, none⟩ = some (.slice lat 4 lct) ∧ v6.cell? ⟨n0 + 1, 4, none⟩ = some (.slice mat 2 mct) ∧ v6.cell? ⟨v1.heap.size, 0, none⟩ = some (.int .i64 8) ∧ v6.cell? ⟨v1.heap.size, 1, none⟩ = some (.int .i64 9) :=
    ⟨(hb6.cell (p := ⟨n0, 0, none⟩) (by first | omega | (simp; done) | (simp; omega))).trans (by go_simp), (hb6.cell (p := ⟨n0, 1, none⟩) (by first | omega | (simp; done) | (simp; omega))).trans (by go_simp), (hb6.cell (p := ⟨n0, 2, none⟩) (by first | omega | (simp; done) | (simp; omega))).trans (by go_simp), (hb6.cell (p := ⟨n0, 3, none⟩) (by first | omega | (simp; done) | (simp; omega))).trans (by go_simp), (hb6.cell (p := ⟨n0, 4, none⟩) (by first | omega | (simp; done) | (simp; omega))).trans (by go_simp), (hb6.cell (p := ⟨n0 + 1, 0, none⟩) (by first | omega | (simp; done) | (simp; omega))).trans (by go_simp), (hb6.cell (p := ⟨n0 + 1, 1, none⟩) (by first | omega | (simp; done) | (simp; omega))).trans (by go_simp), (hb6.cell (p := ⟨n0 + 1, 2, none⟩) (by first | omega | (simp; done) | (simp; omega))).trans (by go_simp), (hb6.cell (p := ⟨n0 + 1, 3, none⟩) (by first | omega | (simp; done) | (simp; omega))).trans (by go_simp), (hb6.cell (p := ⟨n0 + 1, 4, none⟩) (by first | omega | (simp; done) | (simp; omega))).trans (by go_simp), (hb6.cell (p := ⟨v1.heap.size, 0, none⟩) (by first | omega | (simp; done) | (simp; omega))).trans (by go_simp), (hb6.cell (p := ⟨v1.heap.size, 1, none⟩) (by first | omega | (simp; done) | (simp; omega))).trans (by go_simp)⟩
  have q6_0 : n0 < v6.heap.size := by first | omega | (simp at *; omega)
  have q6_1 : n0 + 1 < v6.heap.size := by first | omega | (simp at *; omega)
  have q6_2 : v1.heap.size < v6.heap.size := by first | omega | (simp at *; omega)
  have HB6 := Lib.hid hB6
  have HL6 := Lib.hid (fun W (h : Below v6.heap.size v6 W) => (HL5.out _ hb6).below h)
  clear HL5
  clear hb6 hB6 g5_0 g5_1 g5_2 g5_3 g5_4 g5_5 g5_6 g5_7 g5_8 g5_9 g5_10 g5_11 q5_0 q5_1 q5_2
  have HSI := Lib.hid (fun W (a : Option Addr) (c : Nat) (x : List Int) (ya : Option Addr) (yc : Nat) (hx : IntsAt W a 1 x) (hy : IntsAt W ya 1 x) => show Calls Try.prog 29 #[.slice a 1 c, .slice ya 1 yc] W fun e w' => e = .returned (.bool true) ∧ Below W.heap.size W w' from by
    have h := SameInts_any a 1 c ya 1 yc x x W hx hy
    rw [show sameB x x = true by simp [sameB]] at h
    exact h)
  go_wp2_with fail
  have H3 := Lib.hid (ints1w (W := (v6.alloc (.cells #[.int .i64 19, .int .i64 21] 32)).alloc (.cells #[.int .i64 3] 3)) (b := v6.heap.size + 1) (a0 := 3) (T := 3) (by
    rw [show v6.heap.size + 1 = (v6.alloc (.cells #[.int .i64 19, .int .i64 21] 32)).heap.size by simp]
    exact World.alloc_heap_new _ _))
  refine (HSI.out _ _ _ [3] _ _ (HL6.out _ (by repeat (first | exact Below.refl _ _ | (refine Below.alloc ?_ (by first | omega | (simp; omega) | simp) _) | (refine Below.setCell ?_ (by first | omega | (simp; omega) | simp) _) | refine Below.drew ?_))) H3.out).mono ?_
  rintro e v7 ⟨rfl, hb7⟩
  have HB7 := Lib.hid (below_via (Lib.hid hb7) (by simp; omega) (by repeat (first | exact Below.refl _ _ | (refine Below.alloc ?_ (by first | omega | (simp; omega) | simp) _) | (refine Below.setCell ?_ (by first | omega | (simp; omega) | simp) _) | refine Below.drew ?_)) : Below v6.heap.size v6 v7)
  have g7_0 : v7.cell? ⟨v6.heap.size, 0, none⟩ = some (.int .i64 19) := (hb7.cell (p := ⟨v6.heap.size, 0, none⟩) (by simp; omega)).trans (by go_simp)
  have g7_1 : v7.cell? ⟨v6.heap.size, 1, none⟩ = some (.int .i64 21) := (hb7.cell (p := ⟨v6.heap.size, 1, none⟩) (by simp; omega)).trans (by go_simp)
  have q7 : v6.heap.size < v7.heap.size := by have := hb7.size; simp at this; omega
  clear hb7
  go_wp2_with fail
  go_ret
  exact ⟨rfl, HBW.out.trans ((HB6.out.trans (HB7.out.mono HB6.out.size)).mono HBW.out.size)⟩
end Go.Proofs.Ytcklhojeneejiaa
