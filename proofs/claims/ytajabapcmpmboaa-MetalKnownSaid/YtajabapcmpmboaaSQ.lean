/- MetalMend. -/
import Derived.Test.YtajabapcmpmboaaSO
import Derived.Test.YtajabapcmpmboaaSP
import Derived.Test.YtajabapcmpmboaaSC
import Derived.Test.YtajabapcmpmboaaLC
namespace Go.Proofs.Ytajabapcmpmboaa
set_option linter.unusedVariables false
set_option linter.unusedSimpArgs false
open Go.RowKit

theorem Copy_readM (s : Shop) (a : Option Addr) (len cap : Nat) (w : World) (hp : PigsAt w a len s.pigs) (hl : len ≤ 1000) :
    Calls Try.prog 17 #[.agg #[.int .i64 s.P, .int .i64 s.tl, .int .i64 s.th, .int .i64 s.al, .int .i64 s.ah, .int .i64 s.room, .int .i64 s.xl, .int .i64 s.xh, .int .i64 s.yl, .int .i64 s.yh, .slice a len cap]] w fun e w' => (∃ a' cap', e = .returned (.agg #[.int .i64 s.P, .int .i64 s.tl, .int .i64 s.th, .int .i64 s.al, .int .i64 s.ah, .int .i64 s.room, .int .i64 s.xl, .int .i64 s.xh, .int .i64 s.yl, .int .i64 s.yh, .slice a' len cap']) ∧ PigsAt w' a' len s.pigs) ∧ Below w.heap.size w w' := by
  refine (Copy_any s a len cap w hp hl).mono fun e w' ⟨hb, a', cap', he, ho⟩ => ⟨⟨a', cap', he, ?_⟩, hb⟩
  exact (pigs_own ho hp.2.1).1
/-- What a question about a shop is answered with, wherever it lies. -/
def SaysS (f : FuncId) (s : Shop) (len : Nat) (v : Value) : Prop :=
  ∀ (a : Option Addr) (cap : Nat) (w : World), PigsAt w a len s.pigs → Calls Try.prog f #[.agg #[.int .i64 s.P, .int .i64 s.tl, .int .i64 s.th, .int .i64 s.al, .int .i64 s.ah, .int .i64 s.room, .int .i64 s.xl, .int .i64 s.xh, .int .i64 s.yl, .int .i64 s.yh, .slice a len cap]] w fun e w' => e = .returned v ∧ Below w.heap.size w w'
def SaysSL (f : FuncId) (s : Shop) (len : Nat) (fl : List Int) (v : Int) : Prop :=
  ∀ (a : Option Addr) (cap : Nat) (w : World), PigsAt w a len s.pigs → Calls Try.prog f #[.agg #[.int .i64 s.P, .int .i64 s.tl, .int .i64 s.th, .int .i64 s.al, .int .i64 s.ah, .int .i64 s.room, .int .i64 s.xl, .int .i64 s.xh, .int .i64 s.yl, .int .i64 s.yh, .slice a len cap]] w fun e w' => (∃ fa fc, e = .returned (.tuple #[.slice fa fl.length fc, .int .i64 v]) ∧ IntsAt w' fa fl.length fl) ∧ Below w.heap.size w w'
theorem Huge_isM (s : Shop) (a : Option Addr) (len cap : Nat) (b : Bool) (h : decide (40 < len) = b) (w : World) :
    Calls Try.prog 15 #[.agg #[.int .i64 s.P, .int .i64 s.tl, .int .i64 s.th, .int .i64 s.al, .int .i64 s.ah, .int .i64 s.room, .int .i64 s.xl, .int .i64 s.xh, .int .i64 s.yl, .int .i64 s.yh, .slice a len cap]] w fun e w' => e = .returned (.bool b) ∧ Below w.heap.size w w' := h ▸ Huge_any s a len cap w
theorem SameInts_yesM (xa : Option Addr) (xl xc : Nat) (ya : Option Addr) (yl yc : Nat) (x : List Int) (w : World) (hx : IntsAt w xa xl x) (hy : IntsAt w ya yl x) :
    Calls Try.prog 28 #[.slice xa xl xc, .slice ya yl yc] w fun e w' => e = .returned (.bool true) ∧ Below w.heap.size w w' := by
  have h := SameInts_any xa xl xc ya yl yc x x w hx hy
  rwa [show sameB x x = true by simp [sameB]] at h

set_option maxRecDepth 100000 in
set_option maxHeartbeats 16000000 in
theorem mend_walk (s : Shop) (a : Option Addr) (len cap : Nat) (w : World) (hp : PigsAt w a len s.pigs) (h40 : len ≤ 40) (kv cv mv tv c t : Int) (fl yl : List Int)
    (A1 : SaysSL 30 s len fl kv) (A2 : SaysSL 31 s len fl kv)
    (B1 : SaysS 32 s len (.tuple #[.int .i64 c, .int .i64 cv])) (B2 : SaysS 33 s len (.tuple #[.int .i64 c, .int .i64 cv]))
    (C1 : SaysSL 34 s len yl mv) (C2 : SaysSL 35 s len yl mv)
    (D1 : SaysS 36 s len (.tuple #[.int .i64 t, .int .i64 tv])) (D2 : SaysS 37 s len (.tuple #[.int .i64 t, .int .i64 tv])) :
    Calls Try.prog 4 #[.agg #[.int .i64 s.P, .int .i64 s.tl, .int .i64 s.th, .int .i64 s.al, .int .i64 s.ah, .int .i64 s.room, .int .i64 s.xl, .int .i64 s.xh, .int .i64 s.yl, .int .i64 s.yh, .slice a len cap]] w fun e w' => e = .returned (.bool true) ∧ Below w.heap.size w w' := by
  have HH := Lib.hid (fun w1 => Huge_isM s a len cap false (decide_eq_false (by omega)) w1)
  have HW := Lib.hid (fun w1 => works_any w1)
  have HC := Lib.hid (fun w1 (hb : Below w.heap.size w w1) => Copy_readM s a len cap w1 (hp.below hb) (by omega))
  have HP := Lib.hid (fun w1 (hb : Below w.heap.size w w1) => hp.below hb)
  have HA1 := Lib.hid A1
  have HA2 := Lib.hid A2
  have HB1 := Lib.hid B1
  have HB2 := Lib.hid B2
  have HC1 := Lib.hid C1
  have HC2 := Lib.hid C2
  have HD1 := Lib.hid D1
  have HD2 := Lib.hid D2
  clear hp A1 A2 B1 B2 C1 C2 D1 D2
  go_enter Try.func4, Try.ntmps4
  go_wp2_with fail
  refine (HH.out _).mono ?_; rintro e w1 ⟨rfl, hb1⟩; obtain ⟨hc1, hf1⟩ := bcell hb1; have hz1 := hb1.size; (try simp at hz1); have hw1 := ((by repeat (first | assumption | exact Below.refl _ _ | (refine Below.alloc ?_ (by first | omega | (simp; omega) | simp) _) | (refine Below.setCell ?_ (by first | omega | (simp; omega) | simp) _) | refine Below.drew ?_)) : Below w.heap.size w _).trans (hb1.mono (by first | (simp; done) | (simp; omega) | omega)); clear hb1; have p1 : w.heap.size < w1.heap.size := (by omega); go_wp2_with fail
  refine (HC.out _ hw1).mono ?_
  rintro e u1 ⟨⟨a1, cap1, rfl, hP1⟩, hb2⟩
  have hu1 := hw1.trans (hb2.mono hw1.size)
  obtain ⟨hc2, hf2⟩ := bcell hb2
  have hzu := hb2.size
  clear hb2
  go_wp2_with fail
  obtain ⟨U, hU⟩ : ∃ U, u1.alloc (.cells #[.int .i64 s.P, .int .i64 s.tl, .int .i64 s.th, .int .i64 s.al, .int .i64 s.ah, .int .i64 s.room, .int .i64 s.xl, .int .i64 s.xh, .int .i64 s.yl, .int .i64 s.yh, .slice a1 len cap1] 28) = U := ⟨_, rfl⟩
  have hb3' : Below u1.heap.size u1 U := by rw [← hU]; exact (Below.refl _ _).alloc (Nat.le_refl _) _
  have hOb : ∀ i, U.cell? ⟨u1.heap.size, i, none⟩ = (#[.int .i64 s.P, .int .i64 s.tl, .int .i64 s.th, .int .i64 s.al, .int .i64 s.ah, .int .i64 s.room, .int .i64 s.xl, .int .i64 s.xh, .int .i64 s.yl, .int .i64 s.yh, .slice a1 len cap1] : Array Value)[i]? := fun i => by rw [← hU]; exact World.cell?_alloc_new _ _ _ i
  have hzU : u1.heap.size < U.heap.size := by rw [← hU]; simp
  rw [hU]
  clear hU
  have hwU : Below w.heap.size w U := hu1.trans (hb3'.mono hu1.size)
  have hPU : PigsAt U a1 len s.pigs := hP1.below hb3'
  have hSb : ∀ i, U.cell? ⟨w.heap.size, i, none⟩ = (#[.int .i64 s.P, .int .i64 s.tl, .int .i64 s.th, .int .i64 s.al, .int .i64 s.ah, .int .i64 s.room, .int .i64 s.xl, .int .i64 s.xh, .int .i64 s.yl, .int .i64 s.yh, .slice a len cap] : Array Value)[i]? := fun i => (hb3'.cell (p := ⟨w.heap.size, i, none⟩) (show w.heap.size < u1.heap.size by omega)).trans ((hc2 _ _ p1).trans ((hc1 _ _ (by simp)).trans (World.cell?_alloc_new w _ _ i)))
  obtain ⟨gO, hgO⟩ : ∃ gO, gO = u1.heap.size := ⟨_, rfl⟩
  have hsU : w.heap.size < U.heap.size := by omega
  have hgU : gO < U.heap.size := by omega
  have hne : gO ≠ w.heap.size := by omega
  rw [← hgO]
  rw [← hgO] at hOb
  clear hgO hzU hc1 hf1 hc2 hf2 hw1 hu1 hb3' hP1 hzu
  have HSB := Lib.hid hSb
  have HOB := Lib.hid hOb
  have HWU := Lib.hid hwU
  have HPU := Lib.hid (fun W (hb : Below U.heap.size U W) => hPU.below hb)
  have HPS := Lib.hid (fun W (hb : Below U.heap.size U W) => HP.out W (hwU.trans (hb.mono hwU.size)))
  clear hSb hOb hPU hwU
  refine (HA1.out _ _ U (HPU.out _ (Below.refl _ _))).mono ?_
  rintro e w4 ⟨⟨fa, fc, rfl, hIa⟩, hv4⟩
  obtain ⟨x0, x1, x2, x3, x4, x5, x6, x7, x8, x9, x10⟩ : w4.cell? ⟨w.heap.size, 0, none⟩ = some (.int .i64 s.P) ∧ w4.cell? ⟨w.heap.size, 1, none⟩ = some (.int .i64 s.tl) ∧ w4.cell? ⟨w.heap.size, 2, none⟩ = some (.int .i64 s.th) ∧ w4.cell? ⟨w.heap.size, 3, none⟩ = some (.int .i64 s.al) ∧ w4.cell? ⟨w.heap.size, 4, none⟩ = some (.int .i64 s.ah) ∧ w4.cell? ⟨w.heap.size, 5, none⟩ = some (.int .i64 s.room) ∧ w4.cell? ⟨w.heap.size, 6, none⟩ = some (.int .i64 s.xl) ∧ w4.cell? ⟨w.heap.size, 7, none⟩ = some (.int .i64 s.xh) ∧ w4.cell? ⟨w.heap.size, 8, none⟩ = some (.int .i64 s.yl) ∧ w4.cell? ⟨w.heap.size, 9, none⟩ = some (.int .i64 s.yh) ∧ w4.cell? ⟨w.heap.size, 10, none⟩ = some (.slice a len cap) := ⟨(hv4.cell (p := ⟨w.heap.size, 0, none⟩) hsU).trans (HSB.out 0), (hv4.cell (p := ⟨w.heap.size, 1, none⟩) hsU).trans (HSB.out 1), (hv4.cell (p := ⟨w.heap.size, 2, none⟩) hsU).trans (HSB.out 2), (hv4.cell (p := ⟨w.heap.size, 3, none⟩) hsU).trans (HSB.out 3), (hv4.cell (p := ⟨w.heap.size, 4, none⟩) hsU).trans (HSB.out 4), (hv4.cell (p := ⟨w.heap.size, 5, none⟩) hsU).trans (HSB.out 5), (hv4.cell (p := ⟨w.heap.size, 6, none⟩) hsU).trans (HSB.out 6), (hv4.cell (p := ⟨w.heap.size, 7, none⟩) hsU).trans (HSB.out 7), (hv4.cell (p := ⟨w.heap.size, 8, none⟩) hsU).trans (HSB.out 8), (hv4.cell (p := ⟨w.heap.size, 9, none⟩) hsU).trans (HSB.out 9), (hv4.cell (p := ⟨w.heap.size, 10, none⟩) hsU).trans (HSB.out 10)⟩; obtain ⟨o0, o1, o2, o3, o4, o5, o6, o7, o8, o9, o10⟩ : w4.cell? ⟨gO, 0, none⟩ = some (.int .i64 s.P) ∧ w4.cell? ⟨gO, 1, none⟩ = some (.int .i64 s.tl) ∧ w4.cell? ⟨gO, 2, none⟩ = some (.int .i64 s.th) ∧ w4.cell? ⟨gO, 3, none⟩ = some (.int .i64 s.al) ∧ w4.cell? ⟨gO, 4, none⟩ = some (.int .i64 s.ah) ∧ w4.cell? ⟨gO, 5, none⟩ = some (.int .i64 s.room) ∧ w4.cell? ⟨gO, 6, none⟩ = some (.int .i64 s.xl) ∧ w4.cell? ⟨gO, 7, none⟩ = some (.int .i64 s.xh) ∧ w4.cell? ⟨gO, 8, none⟩ = some (.int .i64 s.yl) ∧ w4.cell? ⟨gO, 9, none⟩ = some (.int .i64 s.yh) ∧ w4.cell? ⟨gO, 10, none⟩ = some (.slice a1 len cap1) := ⟨(hv4.cell (p := ⟨gO, 0, none⟩) hgU).trans (HOB.out 0), (hv4.cell (p := ⟨gO, 1, none⟩) hgU).trans (HOB.out 1), (hv4.cell (p := ⟨gO, 2, none⟩) hgU).trans (HOB.out 2), (hv4.cell (p := ⟨gO, 3, none⟩) hgU).trans (HOB.out 3), (hv4.cell (p := ⟨gO, 4, none⟩) hgU).trans (HOB.out 4), (hv4.cell (p := ⟨gO, 5, none⟩) hgU).trans (HOB.out 5), (hv4.cell (p := ⟨gO, 6, none⟩) hgU).trans (HOB.out 6), (hv4.cell (p := ⟨gO, 7, none⟩) hgU).trans (HOB.out 7), (hv4.cell (p := ⟨gO, 8, none⟩) hgU).trans (HOB.out 8), (hv4.cell (p := ⟨gO, 9, none⟩) hgU).trans (HOB.out 9), (hv4.cell (p := ⟨gO, 10, none⟩) hgU).trans (HOB.out 10)⟩
  go_wp2_with fail
  refine (HA2.out _ _ _ (HPS.out _ hv4)).mono ?_
  rintro e w5 ⟨⟨fb, fd, rfl, hIb⟩, hb5⟩
  have hv5 := hv4.trans (hb5.mono hv4.size)
  have hIa5 := hIa.below hb5
  clear x0 x1 x2 x3 x4 x5 x6 x7 x8 x9 x10 o0 o1 o2 o3 o4 o5 o6 o7 o8 o9 o10
  obtain ⟨x0, x1, x2, x3, x4, x5, x6, x7, x8, x9, x10⟩ : w5.cell? ⟨w.heap.size, 0, none⟩ = some (.int .i64 s.P) ∧ w5.cell? ⟨w.heap.size, 1, none⟩ = some (.int .i64 s.tl) ∧ w5.cell? ⟨w.heap.size, 2, none⟩ = some (.int .i64 s.th) ∧ w5.cell? ⟨w.heap.size, 3, none⟩ = some (.int .i64 s.al) ∧ w5.cell? ⟨w.heap.size, 4, none⟩ = some (.int .i64 s.ah) ∧ w5.cell? ⟨w.heap.size, 5, none⟩ = some (.int .i64 s.room) ∧ w5.cell? ⟨w.heap.size, 6, none⟩ = some (.int .i64 s.xl) ∧ w5.cell? ⟨w.heap.size, 7, none⟩ = some (.int .i64 s.xh) ∧ w5.cell? ⟨w.heap.size, 8, none⟩ = some (.int .i64 s.yl) ∧ w5.cell? ⟨w.heap.size, 9, none⟩ = some (.int .i64 s.yh) ∧ w5.cell? ⟨w.heap.size, 10, none⟩ = some (.slice a len cap) := ⟨(hv5.cell (p := ⟨w.heap.size, 0, none⟩) hsU).trans (HSB.out 0), (hv5.cell (p := ⟨w.heap.size, 1, none⟩) hsU).trans (HSB.out 1), (hv5.cell (p := ⟨w.heap.size, 2, none⟩) hsU).trans (HSB.out 2), (hv5.cell (p := ⟨w.heap.size, 3, none⟩) hsU).trans (HSB.out 3), (hv5.cell (p := ⟨w.heap.size, 4, none⟩) hsU).trans (HSB.out 4), (hv5.cell (p := ⟨w.heap.size, 5, none⟩) hsU).trans (HSB.out 5), (hv5.cell (p := ⟨w.heap.size, 6, none⟩) hsU).trans (HSB.out 6), (hv5.cell (p := ⟨w.heap.size, 7, none⟩) hsU).trans (HSB.out 7), (hv5.cell (p := ⟨w.heap.size, 8, none⟩) hsU).trans (HSB.out 8), (hv5.cell (p := ⟨w.heap.size, 9, none⟩) hsU).trans (HSB.out 9), (hv5.cell (p := ⟨w.heap.size, 10, none⟩) hsU).trans (HSB.out 10)⟩; obtain ⟨o0, o1, o2, o3, o4, o5, o6, o7, o8, o9, o10⟩ : w5.cell? ⟨gO, 0, none⟩ = some (.int .i64 s.P) ∧ w5.cell? ⟨gO, 1, none⟩ = some (.int .i64 s.tl) ∧ w5.cell? ⟨gO, 2, none⟩ = some (.int .i64 s.th) ∧ w5.cell? ⟨gO, 3, none⟩ = some (.int .i64 s.al) ∧ w5.cell? ⟨gO, 4, none⟩ = some (.int .i64 s.ah) ∧ w5.cell? ⟨gO, 5, none⟩ = some (.int .i64 s.room) ∧ w5.cell? ⟨gO, 6, none⟩ = some (.int .i64 s.xl) ∧ w5.cell? ⟨gO, 7, none⟩ = some (.int .i64 s.xh) ∧ w5.cell? ⟨gO, 8, none⟩ = some (.int .i64 s.yl) ∧ w5.cell? ⟨gO, 9, none⟩ = some (.int .i64 s.yh) ∧ w5.cell? ⟨gO, 10, none⟩ = some (.slice a1 len cap1) := ⟨(hv5.cell (p := ⟨gO, 0, none⟩) hgU).trans (HOB.out 0), (hv5.cell (p := ⟨gO, 1, none⟩) hgU).trans (HOB.out 1), (hv5.cell (p := ⟨gO, 2, none⟩) hgU).trans (HOB.out 2), (hv5.cell (p := ⟨gO, 3, none⟩) hgU).trans (HOB.out 3), (hv5.cell (p := ⟨gO, 4, none⟩) hgU).trans (HOB.out 4), (hv5.cell (p := ⟨gO, 5, none⟩) hgU).trans (HOB.out 5), (hv5.cell (p := ⟨gO, 6, none⟩) hgU).trans (HOB.out 6), (hv5.cell (p := ⟨gO, 7, none⟩) hgU).trans (HOB.out 7), (hv5.cell (p := ⟨gO, 8, none⟩) hgU).trans (HOB.out 8), (hv5.cell (p := ⟨gO, 9, none⟩) hgU).trans (HOB.out 9), (hv5.cell (p := ⟨gO, 10, none⟩) hgU).trans (HOB.out 10)⟩
  clear hb5 hIa hv4
  go_wp2_with fail
  refine (HB1.out _ _ _ (HPU.out _ hv5)).mono ?_
  rintro e w6 ⟨rfl, hb6⟩
  have hv6 := hv5.trans (hb6.mono hv5.size)
  have hIa6 := hIa5.below hb6
  have hIb6 := hIb.below hb6
  clear x0 x1 x2 x3 x4 x5 x6 x7 x8 x9 x10 o0 o1 o2 o3 o4 o5 o6 o7 o8 o9 o10
  obtain ⟨x0, x1, x2, x3, x4, x5, x6, x7, x8, x9, x10⟩ : w6.cell? ⟨w.heap.size, 0, none⟩ = some (.int .i64 s.P) ∧ w6.cell? ⟨w.heap.size, 1, none⟩ = some (.int .i64 s.tl) ∧ w6.cell? ⟨w.heap.size, 2, none⟩ = some (.int .i64 s.th) ∧ w6.cell? ⟨w.heap.size, 3, none⟩ = some (.int .i64 s.al) ∧ w6.cell? ⟨w.heap.size, 4, none⟩ = some (.int .i64 s.ah) ∧ w6.cell? ⟨w.heap.size, 5, none⟩ = some (.int .i64 s.room) ∧ w6.cell? ⟨w.heap.size, 6, none⟩ = some (.int .i64 s.xl) ∧ w6.cell? ⟨w.heap.size, 7, none⟩ = some (.int .i64 s.xh) ∧ w6.cell? ⟨w.heap.size, 8, none⟩ = some (.int .i64 s.yl) ∧ w6.cell? ⟨w.heap.size, 9, none⟩ = some (.int .i64 s.yh) ∧ w6.cell? ⟨w.heap.size, 10, none⟩ = some (.slice a len cap) := ⟨(hv6.cell (p := ⟨w.heap.size, 0, none⟩) hsU).trans (HSB.out 0), (hv6.cell (p := ⟨w.heap.size, 1, none⟩) hsU).trans (HSB.out 1), (hv6.cell (p := ⟨w.heap.size, 2, none⟩) hsU).trans (HSB.out 2), (hv6.cell (p := ⟨w.heap.size, 3, none⟩) hsU).trans (HSB.out 3), (hv6.cell (p := ⟨w.heap.size, 4, none⟩) hsU).trans (HSB.out 4), (hv6.cell (p := ⟨w.heap.size, 5, none⟩) hsU).trans (HSB.out 5), (hv6.cell (p := ⟨w.heap.size, 6, none⟩) hsU).trans (HSB.out 6), (hv6.cell (p := ⟨w.heap.size, 7, none⟩) hsU).trans (HSB.out 7), (hv6.cell (p := ⟨w.heap.size, 8, none⟩) hsU).trans (HSB.out 8), (hv6.cell (p := ⟨w.heap.size, 9, none⟩) hsU).trans (HSB.out 9), (hv6.cell (p := ⟨w.heap.size, 10, none⟩) hsU).trans (HSB.out 10)⟩; obtain ⟨o0, o1, o2, o3, o4, o5, o6, o7, o8, o9, o10⟩ : w6.cell? ⟨gO, 0, none⟩ = some (.int .i64 s.P) ∧ w6.cell? ⟨gO, 1, none⟩ = some (.int .i64 s.tl) ∧ w6.cell? ⟨gO, 2, none⟩ = some (.int .i64 s.th) ∧ w6.cell? ⟨gO, 3, none⟩ = some (.int .i64 s.al) ∧ w6.cell? ⟨gO, 4, none⟩ = some (.int .i64 s.ah) ∧ w6.cell? ⟨gO, 5, none⟩ = some (.int .i64 s.room) ∧ w6.cell? ⟨gO, 6, none⟩ = some (.int .i64 s.xl) ∧ w6.cell? ⟨gO, 7, none⟩ = some (.int .i64 s.xh) ∧ w6.cell? ⟨gO, 8, none⟩ = some (.int .i64 s.yl) ∧ w6.cell? ⟨gO, 9, none⟩ = some (.int .i64 s.yh) ∧ w6.cell? ⟨gO, 10, none⟩ = some (.slice a1 len cap1) := ⟨(hv6.cell (p := ⟨gO, 0, none⟩) hgU).trans (HOB.out 0), (hv6.cell (p := ⟨gO, 1, none⟩) hgU).trans (HOB.out 1), (hv6.cell (p := ⟨gO, 2, none⟩) hgU).trans (HOB.out 2), (hv6.cell (p := ⟨gO, 3, none⟩) hgU).trans (HOB.out 3), (hv6.cell (p := ⟨gO, 4, none⟩) hgU).trans (HOB.out 4), (hv6.cell (p := ⟨gO, 5, none⟩) hgU).trans (HOB.out 5), (hv6.cell (p := ⟨gO, 6, none⟩) hgU).trans (HOB.out 6), (hv6.cell (p := ⟨gO, 7, none⟩) hgU).trans (HOB.out 7), (hv6.cell (p := ⟨gO, 8, none⟩) hgU).trans (HOB.out 8), (hv6.cell (p := ⟨gO, 9, none⟩) hgU).trans (HOB.out 9), (hv6.cell (p := ⟨gO, 10, none⟩) hgU).trans (HOB.out 10)⟩
  clear hb6 hIa5 hIb hv5
  go_wp2_with fail
  refine (HB2.out _ _ _ (HPS.out _ hv6)).mono ?_
  rintro e w7 ⟨rfl, hb7⟩
  have hv7 := hv6.trans (hb7.mono hv6.size)
  have hIa7 := hIa6.below hb7
  have hIb7 := hIb6.below hb7
  clear x0 x1 x2 x3 x4 x5 x6 x7 x8 x9 x10 o0 o1 o2 o3 o4 o5 o6 o7 o8 o9 o10
  obtain ⟨x0, x1, x2, x3, x4, x5, x6, x7, x8, x9, x10⟩ : w7.cell? ⟨w.heap.size, 0, none⟩ = some (.int .i64 s.P) ∧ w7.cell? ⟨w.heap.size, 1, none⟩ = some (.int .i64 s.tl) ∧ w7.cell? ⟨w.heap.size, 2, none⟩ = some (.int .i64 s.th) ∧ w7.cell? ⟨w.heap.size, 3, none⟩ = some (.int .i64 s.al) ∧ w7.cell? ⟨w.heap.size, 4, none⟩ = some (.int .i64 s.ah) ∧ w7.cell? ⟨w.heap.size, 5, none⟩ = some (.int .i64 s.room) ∧ w7.cell? ⟨w.heap.size, 6, none⟩ = some (.int .i64 s.xl) ∧ w7.cell? ⟨w.heap.size, 7, none⟩ = some (.int .i64 s.xh) ∧ w7.cell? ⟨w.heap.size, 8, none⟩ = some (.int .i64 s.yl) ∧ w7.cell? ⟨w.heap.size, 9, none⟩ = some (.int .i64 s.yh) ∧ w7.cell? ⟨w.heap.size, 10, none⟩ = some (.slice a len cap) := ⟨(hv7.cell (p := ⟨w.heap.size, 0, none⟩) hsU).trans (HSB.out 0), (hv7.cell (p := ⟨w.heap.size, 1, none⟩) hsU).trans (HSB.out 1), (hv7.cell (p := ⟨w.heap.size, 2, none⟩) hsU).trans (HSB.out 2), (hv7.cell (p := ⟨w.heap.size, 3, none⟩) hsU).trans (HSB.out 3), (hv7.cell (p := ⟨w.heap.size, 4, none⟩) hsU).trans (HSB.out 4), (hv7.cell (p := ⟨w.heap.size, 5, none⟩) hsU).trans (HSB.out 5), (hv7.cell (p := ⟨w.heap.size, 6, none⟩) hsU).trans (HSB.out 6), (hv7.cell (p := ⟨w.heap.size, 7, none⟩) hsU).trans (HSB.out 7), (hv7.cell (p := ⟨w.heap.size, 8, none⟩) hsU).trans (HSB.out 8), (hv7.cell (p := ⟨w.heap.size, 9, none⟩) hsU).trans (HSB.out 9), (hv7.cell (p := ⟨w.heap.size, 10, none⟩) hsU).trans (HSB.out 10)⟩; obtain ⟨o0, o1, o2, o3, o4, o5, o6, o7, o8, o9, o10⟩ : w7.cell? ⟨gO, 0, none⟩ = some (.int .i64 s.P) ∧ w7.cell? ⟨gO, 1, none⟩ = some (.int .i64 s.tl) ∧ w7.cell? ⟨gO, 2, none⟩ = some (.int .i64 s.th) ∧ w7.cell? ⟨gO, 3, none⟩ = some (.int .i64 s.al) ∧ w7.cell? ⟨gO, 4, none⟩ = some (.int .i64 s.ah) ∧ w7.cell? ⟨gO, 5, none⟩ = some (.int .i64 s.room) ∧ w7.cell? ⟨gO, 6, none⟩ = some (.int .i64 s.xl) ∧ w7.cell? ⟨gO, 7, none⟩ = some (.int .i64 s.xh) ∧ w7.cell? ⟨gO, 8, none⟩ = some (.int .i64 s.yl) ∧ w7.cell? ⟨gO, 9, none⟩ = some (.int .i64 s.yh) ∧ w7.cell? ⟨gO, 10, none⟩ = some (.slice a1 len cap1) := ⟨(hv7.cell (p := ⟨gO, 0, none⟩) hgU).trans (HOB.out 0), (hv7.cell (p := ⟨gO, 1, none⟩) hgU).trans (HOB.out 1), (hv7.cell (p := ⟨gO, 2, none⟩) hgU).trans (HOB.out 2), (hv7.cell (p := ⟨gO, 3, none⟩) hgU).trans (HOB.out 3), (hv7.cell (p := ⟨gO, 4, none⟩) hgU).trans (HOB.out 4), (hv7.cell (p := ⟨gO, 5, none⟩) hgU).trans (HOB.out 5), (hv7.cell (p := ⟨gO, 6, none⟩) hgU).trans (HOB.out 6), (hv7.cell (p := ⟨gO, 7, none⟩) hgU).trans (HOB.out 7), (hv7.cell (p := ⟨gO, 8, none⟩) hgU).trans (HOB.out 8), (hv7.cell (p := ⟨gO, 9, none⟩) hgU).trans (HOB.out 9), (hv7.cell (p := ⟨gO, 10, none⟩) hgU).trans (HOB.out 10)⟩
  clear hb7 hIa6 hIb6 hv6
  go_wp2_with fail
  refine (SameInts_yesM _ _ _ _ _ _ fl _ hIa7 hIb7).mono ?_
  rintro e w8 ⟨rfl, hb8⟩
  have hv8 := hv7.trans (hb8.mono hv7.size)
  clear x0 x1 x2 x3 x4 x5 x6 x7 x8 x9 x10 o0 o1 o2 o3 o4 o5 o6 o7 o8 o9 o10
  obtain ⟨x0, x1, x2, x3, x4, x5, x6, x7, x8, x9, x10⟩ : w8.cell? ⟨w.heap.size, 0, none⟩ = some (.int .i64 s.P) ∧ w8.cell? ⟨w.heap.size, 1, none⟩ = some (.int .i64 s.tl) ∧ w8.cell? ⟨w.heap.size, 2, none⟩ = some (.int .i64 s.th) ∧ w8.cell? ⟨w.heap.size, 3, none⟩ = some (.int .i64 s.al) ∧ w8.cell? ⟨w.heap.size, 4, none⟩ = some (.int .i64 s.ah) ∧ w8.cell? ⟨w.heap.size, 5, none⟩ = some (.int .i64 s.room) ∧ w8.cell? ⟨w.heap.size, 6, none⟩ = some (.int .i64 s.xl) ∧ w8.cell? ⟨w.heap.size, 7, none⟩ = some (.int .i64 s.xh) ∧ w8.cell? ⟨w.heap.size, 8, none⟩ = some (.int .i64 s.yl) ∧ w8.cell? ⟨w.heap.size, 9, none⟩ = some (.int .i64 s.yh) ∧ w8.cell? ⟨w.heap.size, 10, none⟩ = some (.slice a len cap) := ⟨(hv8.cell (p := ⟨w.heap.size, 0, none⟩) hsU).trans (HSB.out 0), (hv8.cell (p := ⟨w.heap.size, 1, none⟩) hsU).trans (HSB.out 1), (hv8.cell (p := ⟨w.heap.size, 2, none⟩) hsU).trans (HSB.out 2), (hv8.cell (p := ⟨w.heap.size, 3, none⟩) hsU).trans (HSB.out 3), (hv8.cell (p := ⟨w.heap.size, 4, none⟩) hsU).trans (HSB.out 4), (hv8.cell (p := ⟨w.heap.size, 5, none⟩) hsU).trans (HSB.out 5), (hv8.cell (p := ⟨w.heap.size, 6, none⟩) hsU).trans (HSB.out 6), (hv8.cell (p := ⟨w.heap.size, 7, none⟩) hsU).trans (HSB.out 7), (hv8.cell (p := ⟨w.heap.size, 8, none⟩) hsU).trans (HSB.out 8), (hv8.cell (p := ⟨w.heap.size, 9, none⟩) hsU).trans (HSB.out 9), (hv8.cell (p := ⟨w.heap.size, 10, none⟩) hsU).trans (HSB.out 10)⟩; obtain ⟨o0, o1, o2, o3, o4, o5, o6, o7, o8, o9, o10⟩ : w8.cell? ⟨gO, 0, none⟩ = some (.int .i64 s.P) ∧ w8.cell? ⟨gO, 1, none⟩ = some (.int .i64 s.tl) ∧ w8.cell? ⟨gO, 2, none⟩ = some (.int .i64 s.th) ∧ w8.cell? ⟨gO, 3, none⟩ = some (.int .i64 s.al) ∧ w8.cell? ⟨gO, 4, none⟩ = some (.int .i64 s.ah) ∧ w8.cell? ⟨gO, 5, none⟩ = some (.int .i64 s.room) ∧ w8.cell? ⟨gO, 6, none⟩ = some (.int .i64 s.xl) ∧ w8.cell? ⟨gO, 7, none⟩ = some (.int .i64 s.xh) ∧ w8.cell? ⟨gO, 8, none⟩ = some (.int .i64 s.yl) ∧ w8.cell? ⟨gO, 9, none⟩ = some (.int .i64 s.yh) ∧ w8.cell? ⟨gO, 10, none⟩ = some (.slice a1 len cap1) := ⟨(hv8.cell (p := ⟨gO, 0, none⟩) hgU).trans (HOB.out 0), (hv8.cell (p := ⟨gO, 1, none⟩) hgU).trans (HOB.out 1), (hv8.cell (p := ⟨gO, 2, none⟩) hgU).trans (HOB.out 2), (hv8.cell (p := ⟨gO, 3, none⟩) hgU).trans (HOB.out 3), (hv8.cell (p := ⟨gO, 4, none⟩) hgU).trans (HOB.out 4), (hv8.cell (p := ⟨gO, 5, none⟩) hgU).trans (HOB.out 5), (hv8.cell (p := ⟨gO, 6, none⟩) hgU).trans (HOB.out 6), (hv8.cell (p := ⟨gO, 7, none⟩) hgU).trans (HOB.out 7), (hv8.cell (p := ⟨gO, 8, none⟩) hgU).trans (HOB.out 8), (hv8.cell (p := ⟨gO, 9, none⟩) hgU).trans (HOB.out 9), (hv8.cell (p := ⟨gO, 10, none⟩) hgU).trans (HOB.out 10)⟩
  clear hb8 hIa7 hIb7 hv7
  go_wp2_with fail
  refine (HC1.out _ _ _ (HPU.out _ hv8)).mono ?_
  rintro e w9 ⟨⟨ga, gc, rfl, hIa⟩, hb9⟩
  have hv9 := hv8.trans (hb9.mono hv8.size)
  clear x0 x1 x2 x3 x4 x5 x6 x7 x8 x9 x10 o0 o1 o2 o3 o4 o5 o6 o7 o8 o9 o10
  obtain ⟨x0, x1, x2, x3, x4, x5, x6, x7, x8, x9, x10⟩ : w9.cell? ⟨w.heap.size, 0, none⟩ = some (.int .i64 s.P) ∧ w9.cell? ⟨w.heap.size, 1, none⟩ = some (.int .i64 s.tl) ∧ w9.cell? ⟨w.heap.size, 2, none⟩ = some (.int .i64 s.th) ∧ w9.cell? ⟨w.heap.size, 3, none⟩ = some (.int .i64 s.al) ∧ w9.cell? ⟨w.heap.size, 4, none⟩ = some (.int .i64 s.ah) ∧ w9.cell? ⟨w.heap.size, 5, none⟩ = some (.int .i64 s.room) ∧ w9.cell? ⟨w.heap.size, 6, none⟩ = some (.int .i64 s.xl) ∧ w9.cell? ⟨w.heap.size, 7, none⟩ = some (.int .i64 s.xh) ∧ w9.cell? ⟨w.heap.size, 8, none⟩ = some (.int .i64 s.yl) ∧ w9.cell? ⟨w.heap.size, 9, none⟩ = some (.int .i64 s.yh) ∧ w9.cell? ⟨w.heap.size, 10, none⟩ = some (.slice a len cap) := ⟨(hv9.cell (p := ⟨w.heap.size, 0, none⟩) hsU).trans (HSB.out 0), (hv9.cell (p := ⟨w.heap.size, 1, none⟩) hsU).trans (HSB.out 1), (hv9.cell (p := ⟨w.heap.size, 2, none⟩) hsU).trans (HSB.out 2), (hv9.cell (p := ⟨w.heap.size, 3, none⟩) hsU).trans (HSB.out 3), (hv9.cell (p := ⟨w.heap.size, 4, none⟩) hsU).trans (HSB.out 4), (hv9.cell (p := ⟨w.heap.size, 5, none⟩) hsU).trans (HSB.out 5), (hv9.cell (p := ⟨w.heap.size, 6, none⟩) hsU).trans (HSB.out 6), (hv9.cell (p := ⟨w.heap.size, 7, none⟩) hsU).trans (HSB.out 7), (hv9.cell (p := ⟨w.heap.size, 8, none⟩) hsU).trans (HSB.out 8), (hv9.cell (p := ⟨w.heap.size, 9, none⟩) hsU).trans (HSB.out 9), (hv9.cell (p := ⟨w.heap.size, 10, none⟩) hsU).trans (HSB.out 10)⟩; obtain ⟨o0, o1, o2, o3, o4, o5, o6, o7, o8, o9, o10⟩ : w9.cell? ⟨gO, 0, none⟩ = some (.int .i64 s.P) ∧ w9.cell? ⟨gO, 1, none⟩ = some (.int .i64 s.tl) ∧ w9.cell? ⟨gO, 2, none⟩ = some (.int .i64 s.th) ∧ w9.cell? ⟨gO, 3, none⟩ = some (.int .i64 s.al) ∧ w9.cell? ⟨gO, 4, none⟩ = some (.int .i64 s.ah) ∧ w9.cell? ⟨gO, 5, none⟩ = some (.int .i64 s.room) ∧ w9.cell? ⟨gO, 6, none⟩ = some (.int .i64 s.xl) ∧ w9.cell? ⟨gO, 7, none⟩ = some (.int .i64 s.xh) ∧ w9.cell? ⟨gO, 8, none⟩ = some (.int .i64 s.yl) ∧ w9.cell? ⟨gO, 9, none⟩ = some (.int .i64 s.yh) ∧ w9.cell? ⟨gO, 10, none⟩ = some (.slice a1 len cap1) := ⟨(hv9.cell (p := ⟨gO, 0, none⟩) hgU).trans (HOB.out 0), (hv9.cell (p := ⟨gO, 1, none⟩) hgU).trans (HOB.out 1), (hv9.cell (p := ⟨gO, 2, none⟩) hgU).trans (HOB.out 2), (hv9.cell (p := ⟨gO, 3, none⟩) hgU).trans (HOB.out 3), (hv9.cell (p := ⟨gO, 4, none⟩) hgU).trans (HOB.out 4), (hv9.cell (p := ⟨gO, 5, none⟩) hgU).trans (HOB.out 5), (hv9.cell (p := ⟨gO, 6, none⟩) hgU).trans (HOB.out 6), (hv9.cell (p := ⟨gO, 7, none⟩) hgU).trans (HOB.out 7), (hv9.cell (p := ⟨gO, 8, none⟩) hgU).trans (HOB.out 8), (hv9.cell (p := ⟨gO, 9, none⟩) hgU).trans (HOB.out 9), (hv9.cell (p := ⟨gO, 10, none⟩) hgU).trans (HOB.out 10)⟩
  clear hb9 hv8
  go_wp2_with fail
  refine (HC2.out _ _ _ (HPS.out _ hv9)).mono ?_
  rintro e w10 ⟨⟨gb, gd, rfl, hIb⟩, hb10⟩
  have hv10 := hv9.trans (hb10.mono hv9.size)
  have hIa10 := hIa.below hb10
  clear x0 x1 x2 x3 x4 x5 x6 x7 x8 x9 x10 o0 o1 o2 o3 o4 o5 o6 o7 o8 o9 o10
  obtain ⟨x0, x1, x2, x3, x4, x5, x6, x7, x8, x9, x10⟩ : w10.cell? ⟨w.heap.size, 0, none⟩ = some (.int .i64 s.P) ∧ w10.cell? ⟨w.heap.size, 1, none⟩ = some (.int .i64 s.tl) ∧ w10.cell? ⟨w.heap.size, 2, none⟩ = some (.int .i64 s.th) ∧ w10.cell? ⟨w.heap.size, 3, none⟩ = some (.int .i64 s.al) ∧ w10.cell? ⟨w.heap.size, 4, none⟩ = some (.int .i64 s.ah) ∧ w10.cell? ⟨w.heap.size, 5, none⟩ = some (.int .i64 s.room) ∧ w10.cell? ⟨w.heap.size, 6, none⟩ = some (.int .i64 s.xl) ∧ w10.cell? ⟨w.heap.size, 7, none⟩ = some (.int .i64 s.xh) ∧ w10.cell? ⟨w.heap.size, 8, none⟩ = some (.int .i64 s.yl) ∧ w10.cell? ⟨w.heap.size, 9, none⟩ = some (.int .i64 s.yh) ∧ w10.cell? ⟨w.heap.size, 10, none⟩ = some (.slice a len cap) := ⟨(hv10.cell (p := ⟨w.heap.size, 0, none⟩) hsU).trans (HSB.out 0), (hv10.cell (p := ⟨w.heap.size, 1, none⟩) hsU).trans (HSB.out 1), (hv10.cell (p := ⟨w.heap.size, 2, none⟩) hsU).trans (HSB.out 2), (hv10.cell (p := ⟨w.heap.size, 3, none⟩) hsU).trans (HSB.out 3), (hv10.cell (p := ⟨w.heap.size, 4, none⟩) hsU).trans (HSB.out 4), (hv10.cell (p := ⟨w.heap.size, 5, none⟩) hsU).trans (HSB.out 5), (hv10.cell (p := ⟨w.heap.size, 6, none⟩) hsU).trans (HSB.out 6), (hv10.cell (p := ⟨w.heap.size, 7, none⟩) hsU).trans (HSB.out 7), (hv10.cell (p := ⟨w.heap.size, 8, none⟩) hsU).trans (HSB.out 8), (hv10.cell (p := ⟨w.heap.size, 9, none⟩) hsU).trans (HSB.out 9), (hv10.cell (p := ⟨w.heap.size, 10, none⟩) hsU).trans (HSB.out 10)⟩; obtain ⟨o0, o1, o2, o3, o4, o5, o6, o7, o8, o9, o10⟩ : w10.cell? ⟨gO, 0, none⟩ = some (.int .i64 s.P) ∧ w10.cell? ⟨gO, 1, none⟩ = some (.int .i64 s.tl) ∧ w10.cell? ⟨gO, 2, none⟩ = some (.int .i64 s.th) ∧ w10.cell? ⟨gO, 3, none⟩ = some (.int .i64 s.al) ∧ w10.cell? ⟨gO, 4, none⟩ = some (.int .i64 s.ah) ∧ w10.cell? ⟨gO, 5, none⟩ = some (.int .i64 s.room) ∧ w10.cell? ⟨gO, 6, none⟩ = some (.int .i64 s.xl) ∧ w10.cell? ⟨gO, 7, none⟩ = some (.int .i64 s.xh) ∧ w10.cell? ⟨gO, 8, none⟩ = some (.int .i64 s.yl) ∧ w10.cell? ⟨gO, 9, none⟩ = some (.int .i64 s.yh) ∧ w10.cell? ⟨gO, 10, none⟩ = some (.slice a1 len cap1) := ⟨(hv10.cell (p := ⟨gO, 0, none⟩) hgU).trans (HOB.out 0), (hv10.cell (p := ⟨gO, 1, none⟩) hgU).trans (HOB.out 1), (hv10.cell (p := ⟨gO, 2, none⟩) hgU).trans (HOB.out 2), (hv10.cell (p := ⟨gO, 3, none⟩) hgU).trans (HOB.out 3), (hv10.cell (p := ⟨gO, 4, none⟩) hgU).trans (HOB.out 4), (hv10.cell (p := ⟨gO, 5, none⟩) hgU).trans (HOB.out 5), (hv10.cell (p := ⟨gO, 6, none⟩) hgU).trans (HOB.out 6), (hv10.cell (p := ⟨gO, 7, none⟩) hgU).trans (HOB.out 7), (hv10.cell (p := ⟨gO, 8, none⟩) hgU).trans (HOB.out 8), (hv10.cell (p := ⟨gO, 9, none⟩) hgU).trans (HOB.out 9), (hv10.cell (p := ⟨gO, 10, none⟩) hgU).trans (HOB.out 10)⟩
  clear hb10 hIa hv9
  go_wp2_with fail
  refine (HD1.out _ _ _ (HPU.out _ hv10)).mono ?_
  rintro e w11 ⟨rfl, hb11⟩
  have hv11 := hv10.trans (hb11.mono hv10.size)
  have hIa11 := hIa10.below hb11
  have hIb11 := hIb.below hb11
  clear x0 x1 x2 x3 x4 x5 x6 x7 x8 x9 x10 o0 o1 o2 o3 o4 o5 o6 o7 o8 o9 o10
  obtain ⟨x0, x1, x2, x3, x4, x5, x6, x7, x8, x9, x10⟩ : w11.cell? ⟨w.heap.size, 0, none⟩ = some (.int .i64 s.P) ∧ w11.cell? ⟨w.heap.size, 1, none⟩ = some (.int .i64 s.tl) ∧ w11.cell? ⟨w.heap.size, 2, none⟩ = some (.int .i64 s.th) ∧ w11.cell? ⟨w.heap.size, 3, none⟩ = some (.int .i64 s.al) ∧ w11.cell? ⟨w.heap.size, 4, none⟩ = some (.int .i64 s.ah) ∧ w11.cell? ⟨w.heap.size, 5, none⟩ = some (.int .i64 s.room) ∧ w11.cell? ⟨w.heap.size, 6, none⟩ = some (.int .i64 s.xl) ∧ w11.cell? ⟨w.heap.size, 7, none⟩ = some (.int .i64 s.xh) ∧ w11.cell? ⟨w.heap.size, 8, none⟩ = some (.int .i64 s.yl) ∧ w11.cell? ⟨w.heap.size, 9, none⟩ = some (.int .i64 s.yh) ∧ w11.cell? ⟨w.heap.size, 10, none⟩ = some (.slice a len cap) := ⟨(hv11.cell (p := ⟨w.heap.size, 0, none⟩) hsU).trans (HSB.out 0), (hv11.cell (p := ⟨w.heap.size, 1, none⟩) hsU).trans (HSB.out 1), (hv11.cell (p := ⟨w.heap.size, 2, none⟩) hsU).trans (HSB.out 2), (hv11.cell (p := ⟨w.heap.size, 3, none⟩) hsU).trans (HSB.out 3), (hv11.cell (p := ⟨w.heap.size, 4, none⟩) hsU).trans (HSB.out 4), (hv11.cell (p := ⟨w.heap.size, 5, none⟩) hsU).trans (HSB.out 5), (hv11.cell (p := ⟨w.heap.size, 6, none⟩) hsU).trans (HSB.out 6), (hv11.cell (p := ⟨w.heap.size, 7, none⟩) hsU).trans (HSB.out 7), (hv11.cell (p := ⟨w.heap.size, 8, none⟩) hsU).trans (HSB.out 8), (hv11.cell (p := ⟨w.heap.size, 9, none⟩) hsU).trans (HSB.out 9), (hv11.cell (p := ⟨w.heap.size, 10, none⟩) hsU).trans (HSB.out 10)⟩; obtain ⟨o0, o1, o2, o3, o4, o5, o6, o7, o8, o9, o10⟩ : w11.cell? ⟨gO, 0, none⟩ = some (.int .i64 s.P) ∧ w11.cell? ⟨gO, 1, none⟩ = some (.int .i64 s.tl) ∧ w11.cell? ⟨gO, 2, none⟩ = some (.int .i64 s.th) ∧ w11.cell? ⟨gO, 3, none⟩ = some (.int .i64 s.al) ∧ w11.cell? ⟨gO, 4, none⟩ = some (.int .i64 s.ah) ∧ w11.cell? ⟨gO, 5, none⟩ = some (.int .i64 s.room) ∧ w11.cell? ⟨gO, 6, none⟩ = some (.int .i64 s.xl) ∧ w11.cell? ⟨gO, 7, none⟩ = some (.int .i64 s.xh) ∧ w11.cell? ⟨gO, 8, none⟩ = some (.int .i64 s.yl) ∧ w11.cell? ⟨gO, 9, none⟩ = some (.int .i64 s.yh) ∧ w11.cell? ⟨gO, 10, none⟩ = some (.slice a1 len cap1) := ⟨(hv11.cell (p := ⟨gO, 0, none⟩) hgU).trans (HOB.out 0), (hv11.cell (p := ⟨gO, 1, none⟩) hgU).trans (HOB.out 1), (hv11.cell (p := ⟨gO, 2, none⟩) hgU).trans (HOB.out 2), (hv11.cell (p := ⟨gO, 3, none⟩) hgU).trans (HOB.out 3), (hv11.cell (p := ⟨gO, 4, none⟩) hgU).trans (HOB.out 4), (hv11.cell (p := ⟨gO, 5, none⟩) hgU).trans (HOB.out 5), (hv11.cell (p := ⟨gO, 6, none⟩) hgU).trans (HOB.out 6), (hv11.cell (p := ⟨gO, 7, none⟩) hgU).trans (HOB.out 7), (hv11.cell (p := ⟨gO, 8, none⟩) hgU).trans (HOB.out 8), (hv11.cell (p := ⟨gO, 9, none⟩) hgU).trans (HOB.out 9), (hv11.cell (p := ⟨gO, 10, none⟩) hgU).trans (HOB.out 10)⟩
  clear hb11 hIa10 hIb hv10
  go_wp2_with fail
  refine (HD2.out _ _ _ (HPS.out _ hv11)).mono ?_
  rintro e w12 ⟨rfl, hb12⟩
  have hv12 := hv11.trans (hb12.mono hv11.size)
  have hIa12 := hIa11.below hb12
  have hIb12 := hIb11.below hb12
  clear x0 x1 x2 x3 x4 x5 x6 x7 x8 x9 x10 o0 o1 o2 o3 o4 o5 o6 o7 o8 o9 o10
  obtain ⟨x0, x1, x2, x3, x4, x5, x6, x7, x8, x9, x10⟩ : w12.cell? ⟨w.heap.size, 0, none⟩ = some (.int .i64 s.P) ∧ w12.cell? ⟨w.heap.size, 1, none⟩ = some (.int .i64 s.tl) ∧ w12.cell? ⟨w.heap.size, 2, none⟩ = some (.int .i64 s.th) ∧ w12.cell? ⟨w.heap.size, 3, none⟩ = some (.int .i64 s.al) ∧ w12.cell? ⟨w.heap.size, 4, none⟩ = some (.int .i64 s.ah) ∧ w12.cell? ⟨w.heap.size, 5, none⟩ = some (.int .i64 s.room) ∧ w12.cell? ⟨w.heap.size, 6, none⟩ = some (.int .i64 s.xl) ∧ w12.cell? ⟨w.heap.size, 7, none⟩ = some (.int .i64 s.xh) ∧ w12.cell? ⟨w.heap.size, 8, none⟩ = some (.int .i64 s.yl) ∧ w12.cell? ⟨w.heap.size, 9, none⟩ = some (.int .i64 s.yh) ∧ w12.cell? ⟨w.heap.size, 10, none⟩ = some (.slice a len cap) := ⟨(hv12.cell (p := ⟨w.heap.size, 0, none⟩) hsU).trans (HSB.out 0), (hv12.cell (p := ⟨w.heap.size, 1, none⟩) hsU).trans (HSB.out 1), (hv12.cell (p := ⟨w.heap.size, 2, none⟩) hsU).trans (HSB.out 2), (hv12.cell (p := ⟨w.heap.size, 3, none⟩) hsU).trans (HSB.out 3), (hv12.cell (p := ⟨w.heap.size, 4, none⟩) hsU).trans (HSB.out 4), (hv12.cell (p := ⟨w.heap.size, 5, none⟩) hsU).trans (HSB.out 5), (hv12.cell (p := ⟨w.heap.size, 6, none⟩) hsU).trans (HSB.out 6), (hv12.cell (p := ⟨w.heap.size, 7, none⟩) hsU).trans (HSB.out 7), (hv12.cell (p := ⟨w.heap.size, 8, none⟩) hsU).trans (HSB.out 8), (hv12.cell (p := ⟨w.heap.size, 9, none⟩) hsU).trans (HSB.out 9), (hv12.cell (p := ⟨w.heap.size, 10, none⟩) hsU).trans (HSB.out 10)⟩; obtain ⟨o0, o1, o2, o3, o4, o5, o6, o7, o8, o9, o10⟩ : w12.cell? ⟨gO, 0, none⟩ = some (.int .i64 s.P) ∧ w12.cell? ⟨gO, 1, none⟩ = some (.int .i64 s.tl) ∧ w12.cell? ⟨gO, 2, none⟩ = some (.int .i64 s.th) ∧ w12.cell? ⟨gO, 3, none⟩ = some (.int .i64 s.al) ∧ w12.cell? ⟨gO, 4, none⟩ = some (.int .i64 s.ah) ∧ w12.cell? ⟨gO, 5, none⟩ = some (.int .i64 s.room) ∧ w12.cell? ⟨gO, 6, none⟩ = some (.int .i64 s.xl) ∧ w12.cell? ⟨gO, 7, none⟩ = some (.int .i64 s.xh) ∧ w12.cell? ⟨gO, 8, none⟩ = some (.int .i64 s.yl) ∧ w12.cell? ⟨gO, 9, none⟩ = some (.int .i64 s.yh) ∧ w12.cell? ⟨gO, 10, none⟩ = some (.slice a1 len cap1) := ⟨(hv12.cell (p := ⟨gO, 0, none⟩) hgU).trans (HOB.out 0), (hv12.cell (p := ⟨gO, 1, none⟩) hgU).trans (HOB.out 1), (hv12.cell (p := ⟨gO, 2, none⟩) hgU).trans (HOB.out 2), (hv12.cell (p := ⟨gO, 3, none⟩) hgU).trans (HOB.out 3), (hv12.cell (p := ⟨gO, 4, none⟩) hgU).trans (HOB.out 4), (hv12.cell (p := ⟨gO, 5, none⟩) hgU).trans (HOB.out 5), (hv12.cell (p := ⟨gO, 6, none⟩) hgU).trans (HOB.out 6), (hv12.cell (p := ⟨gO, 7, none⟩) hgU).trans (HOB.out 7), (hv12.cell (p := ⟨gO, 8, none⟩) hgU).trans (HOB.out 8), (hv12.cell (p := ⟨gO, 9, none⟩) hgU).trans (HOB.out 9), (hv12.cell (p := ⟨gO, 10, none⟩) hgU).trans (HOB.out 10)⟩
  clear hb12 hIa11 hIb11 hv11
  go_wp2_with fail
  refine (SameInts_yesM _ _ _ _ _ _ yl _ hIa12 hIb12).mono ?_
  rintro e w13 ⟨rfl, hb13⟩
  have hv13 := hv12.trans (hb13.mono hv12.size)
  clear x0 x1 x2 x3 x4 x5 x6 x7 x8 x9 x10 o0 o1 o2 o3 o4 o5 o6 o7 o8 o9 o10
  obtain ⟨x0, x1, x2, x3, x4, x5, x6, x7, x8, x9, x10⟩ : w13.cell? ⟨w.heap.size, 0, none⟩ = some (.int .i64 s.P) ∧ w13.cell? ⟨w.heap.size, 1, none⟩ = some (.int .i64 s.tl) ∧ w13.cell? ⟨w.heap.size, 2, none⟩ = some (.int .i64 s.th) ∧ w13.cell? ⟨w.heap.size, 3, none⟩ = some (.int .i64 s.al) ∧ w13.cell? ⟨w.heap.size, 4, none⟩ = some (.int .i64 s.ah) ∧ w13.cell? ⟨w.heap.size, 5, none⟩ = some (.int .i64 s.room) ∧ w13.cell? ⟨w.heap.size, 6, none⟩ = some (.int .i64 s.xl) ∧ w13.cell? ⟨w.heap.size, 7, none⟩ = some (.int .i64 s.xh) ∧ w13.cell? ⟨w.heap.size, 8, none⟩ = some (.int .i64 s.yl) ∧ w13.cell? ⟨w.heap.size, 9, none⟩ = some (.int .i64 s.yh) ∧ w13.cell? ⟨w.heap.size, 10, none⟩ = some (.slice a len cap) := ⟨(hv13.cell (p := ⟨w.heap.size, 0, none⟩) hsU).trans (HSB.out 0), (hv13.cell (p := ⟨w.heap.size, 1, none⟩) hsU).trans (HSB.out 1), (hv13.cell (p := ⟨w.heap.size, 2, none⟩) hsU).trans (HSB.out 2), (hv13.cell (p := ⟨w.heap.size, 3, none⟩) hsU).trans (HSB.out 3), (hv13.cell (p := ⟨w.heap.size, 4, none⟩) hsU).trans (HSB.out 4), (hv13.cell (p := ⟨w.heap.size, 5, none⟩) hsU).trans (HSB.out 5), (hv13.cell (p := ⟨w.heap.size, 6, none⟩) hsU).trans (HSB.out 6), (hv13.cell (p := ⟨w.heap.size, 7, none⟩) hsU).trans (HSB.out 7), (hv13.cell (p := ⟨w.heap.size, 8, none⟩) hsU).trans (HSB.out 8), (hv13.cell (p := ⟨w.heap.size, 9, none⟩) hsU).trans (HSB.out 9), (hv13.cell (p := ⟨w.heap.size, 10, none⟩) hsU).trans (HSB.out 10)⟩; obtain ⟨o0, o1, o2, o3, o4, o5, o6, o7, o8, o9, o10⟩ : w13.cell? ⟨gO, 0, none⟩ = some (.int .i64 s.P) ∧ w13.cell? ⟨gO, 1, none⟩ = some (.int .i64 s.tl) ∧ w13.cell? ⟨gO, 2, none⟩ = some (.int .i64 s.th) ∧ w13.cell? ⟨gO, 3, none⟩ = some (.int .i64 s.al) ∧ w13.cell? ⟨gO, 4, none⟩ = some (.int .i64 s.ah) ∧ w13.cell? ⟨gO, 5, none⟩ = some (.int .i64 s.room) ∧ w13.cell? ⟨gO, 6, none⟩ = some (.int .i64 s.xl) ∧ w13.cell? ⟨gO, 7, none⟩ = some (.int .i64 s.xh) ∧ w13.cell? ⟨gO, 8, none⟩ = some (.int .i64 s.yl) ∧ w13.cell? ⟨gO, 9, none⟩ = some (.int .i64 s.yh) ∧ w13.cell? ⟨gO, 10, none⟩ = some (.slice a1 len cap1) := ⟨(hv13.cell (p := ⟨gO, 0, none⟩) hgU).trans (HOB.out 0), (hv13.cell (p := ⟨gO, 1, none⟩) hgU).trans (HOB.out 1), (hv13.cell (p := ⟨gO, 2, none⟩) hgU).trans (HOB.out 2), (hv13.cell (p := ⟨gO, 3, none⟩) hgU).trans (HOB.out 3), (hv13.cell (p := ⟨gO, 4, none⟩) hgU).trans (HOB.out 4), (hv13.cell (p := ⟨gO, 5, none⟩) hgU).trans (HOB.out 5), (hv13.cell (p := ⟨gO, 6, none⟩) hgU).trans (HOB.out 6), (hv13.cell (p := ⟨gO, 7, none⟩) hgU).trans (HOB.out 7), (hv13.cell (p := ⟨gO, 8, none⟩) hgU).trans (HOB.out 8), (hv13.cell (p := ⟨gO, 9, none⟩) hgU).trans (HOB.out 9), (hv13.cell (p := ⟨gO, 10, none⟩) hgU).trans (HOB.out 10)⟩
  clear hb13 hIa12 hIb12 hv12
  go_wp2_with fail
  refine (Same_yes s a1 a len cap1 cap w13 (HPU.out _ hv13) (HPS.out _ hv13)).mono ?_
  rintro e w14 ⟨rfl, hb14⟩
  have hv14 := hv13.trans (hb14.mono hv13.size)
  clear hb14
  go_wp2_with fail
  refine (HW.out _).mono ?_
  rintro e w15 ⟨rfl, hb15⟩
  have hv15 := HWU.out.trans ((hv14.trans (hb15.mono hv14.size)).mono HWU.out.size)
  clear hb15
  go_wp2_with fail
  go_ret
  exact ⟨rfl, hv15⟩

set_option maxRecDepth 100000 in
set_option maxHeartbeats 1000000 in
theorem mend_huge (s : Shop) (a : Option Addr) (len cap : Nat) (w : World) (h40 : 40 < len) :
    Calls Try.prog 4 #[.agg #[.int .i64 s.P, .int .i64 s.tl, .int .i64 s.th, .int .i64 s.al, .int .i64 s.ah, .int .i64 s.room, .int .i64 s.xl, .int .i64 s.xh, .int .i64 s.yl, .int .i64 s.yh, .slice a len cap]] w fun e w' => e = .returned (.bool true) ∧ Below w.heap.size w w' := by
  have HH := Lib.hid (fun w1 => Huge_isM s a len cap true (decide_eq_true (by omega)) w1)
  have HW := Lib.hid (fun w1 => works_any w1)
  clear h40
  go_enter Try.func4, Try.ntmps4
  go_wp2_with fail
  refine (HH.out _).mono ?_; rintro e w1 ⟨rfl, hb1⟩; obtain ⟨hc1, hf1⟩ := bcell hb1; have hz1 := hb1.size; (try simp at hz1); have hw1 := ((by repeat (first | assumption | exact Below.refl _ _ | (refine Below.alloc ?_ (by first | omega | (simp; omega) | simp) _) | (refine Below.setCell ?_ (by first | omega | (simp; omega) | simp) _) | refine Below.drew ?_)) : Below w.heap.size w _).trans (hb1.mono (by first | (simp; done) | (simp; omega) | omega)); clear hb1; have p1 : w.heap.size < w1.heap.size := (by omega); go_wp2_with fail
  refine (HW.out _).mono ?_
  rintro e w2 ⟨rfl, hb2⟩
  have hw2 := hw1.trans (hb2.mono hw1.size)
  clear hb2
  go_wp2_with fail
  go_ret
  exact ⟨rfl, hw2⟩

theorem metalMend_any (s : Shop) (a : Option Addr) (len cap : Nat) (w : World) (hp : PigsAt w a len s.pigs) :
    Calls Try.prog 4 #[.agg #[.int .i64 s.P, .int .i64 s.tl, .int .i64 s.th, .int .i64 s.al, .int .i64 s.ah, .int .i64 s.room, .int .i64 s.xl, .int .i64 s.xh, .int .i64 s.yl, .int .i64 s.yh, .slice a len cap]] w fun e w' => e = .returned (.bool true) ∧ Below w.heap.size w w' := by
  rcases Nat.lt_or_ge 40 len with h40 | h40
  · exact mend_huge s a len cap w h40
  have hE : ∀ {f : FuncId} {v : Int}, (∀ (a : Option Addr) (cap : Nat) (w : World), PigsAt w a len s.pigs → Calls Try.prog f #[.agg #[.int .i64 s.P, .int .i64 s.tl, .int .i64 s.th, .int .i64 s.al, .int .i64 s.ah, .int .i64 s.room, .int .i64 s.xl, .int .i64 s.xh, .int .i64 s.yl, .int .i64 s.yh, .slice a len cap]] w fun e w' => e = .returned (.tuple #[.slice none 0 0, .int .i64 v]) ∧ Below w.heap.size w w') → SaysSL f s len [] v := by
    intro f v h a cap w hp
    refine (h a cap w hp).mono ?_
    rintro e w' ⟨rfl, hb⟩
    exact ⟨⟨none, 0, rfl, rfl, by decide, fun h => by simp at h⟩, hb⟩
  have hS : ∀ {f : FuncId} {v : Int}, (∀ (a : Option Addr) (cap : Nat) (w : World), PigsAt w a len s.pigs → Calls Try.prog f #[.agg #[.int .i64 s.P, .int .i64 s.tl, .int .i64 s.th, .int .i64 s.al, .int .i64 s.ah, .int .i64 s.room, .int .i64 s.xl, .int .i64 s.xh, .int .i64 s.yl, .int .i64 s.yh, .slice a len cap]] w fun e w' => ∃ v, e = .returned (.tuple #[v, .int .i64 0]) ∧ w'.ownsRow w.heap.size 3 1 v s.shortL.length (s.shortL.map (Value.int .i64)) ∧ Below w.heap.size w w') → SaysSL f s len s.shortL 0 := by
    intro f v h a cap w hp
    refine (h a cap w hp).mono ?_
    rintro e w' ⟨v, rfl, hown, hb⟩
    obtain ⟨fa, fc, rfl, hi⟩ := row_ints' hown (by have := short_few s; unfold maxLen; omega)
    exact ⟨⟨fa, fc, rfl, hi⟩, hb⟩
  rcases hr : s.ok with - | -
  · exact mend_walk s a len cap w hp h40 10 _ 10 _ _ _ [] []
      (hE fun a cap w hp => Short_no s a len cap w hp hr) (hE fun a cap w hp => refShort_bad s a len cap w hp hr)
      (fun a cap w hp => Cheap_any s a len cap w hp) (fun a cap w hp => refCheap_any s a len cap w hp)
      (hE fun a cap w hp => (Mend_any s a len cap w hp).mono fun e w' h => by
        rcases h.2 with ⟨-, h1⟩ | ⟨h1, -⟩ | ⟨h1, -⟩
        · exact ⟨h1, h.1⟩
        · rw [hr] at h1; cases h1
        · rw [hr] at h1; cases h1) (hE fun a cap w hp => refMend_bad s a len cap w hp hr)
      (fun a cap w hp => Tin_any s a len cap w hp) (fun a cap w hp => refTin_any s a len cap w hp)
  rcases hb : s.best 2 with - | ⟨y, m⟩
  · exact mend_walk s a len cap w hp h40 0 _ 3 _ _ _ s.shortL []
      (fun a cap w hp => (Short_read s a len cap w hp hr).mono fun e w' ⟨fa, fc, h1, h2, h3⟩ => ⟨⟨fa, fc, h1, h2⟩, h3⟩) (hS (v := 0) fun a cap w hp => refShort_ok s a len cap w hp hr)
      (fun a cap w hp => Cheap_any s a len cap w hp) (fun a cap w hp => refCheap_any s a len cap w hp)
      (hE fun a cap w hp => (Mend_any s a len cap w hp).mono fun e w' h => by
        rcases h.2 with ⟨h1, -⟩ | ⟨-, -, h1⟩ | ⟨-, y, m, v, h1, -⟩
        · rw [hr] at h1; cases h1
        · exact ⟨h1, h.1⟩
        · rw [hb] at h1; cases h1) (hE fun a cap w hp => (refMend_ok s a len cap w hp hr).mono fun e w' h => by
        unfold RefMend at h
        rcases h.1 with ⟨-, h1⟩ | ⟨y, m, la, lc, h1, -⟩
        · exact ⟨h1, h.2⟩
        · rw [hb] at h1; cases h1)
      (fun a cap w hp => Tin_any s a len cap w hp) (fun a cap w hp => refTin_any s a len cap w hp)
  · have hl4 : len ≤ 4 := by have := Shop.ok_bd hr; have := hp.1; omega
    have hyl : y.length = len := (Shop.isAdd_len (cheapest_yes hr hb).add).1.trans hp.1
    exact mend_walk s a len cap w hp h40 0 _ 0 _ _ _ s.shortL y
      (fun a cap w hp => (Short_read s a len cap w hp hr).mono fun e w' ⟨fa, fc, h1, h2, h3⟩ => ⟨⟨fa, fc, h1, h2⟩, h3⟩) (hS (v := 0) fun a cap w hp => refShort_ok s a len cap w hp hr)
      (fun a cap w hp => Cheap_any s a len cap w hp) (fun a cap w hp => refCheap_any s a len cap w hp)
      (fun a cap w hp => (Mend_any s a len cap w hp).mono fun e w' h => by
        rcases h.2 with ⟨h1, -⟩ | ⟨-, h1, -⟩ | ⟨-, y', m', v, h1, h2, h3⟩
        · rw [hr] at h1; cases h1
        · rw [hb] at h1; cases h1
        · rw [hb] at h1; cases h1
          obtain ⟨la, lc, rfl, hi⟩ := row_ints' h3 (by unfold maxLen; omega)
          rw [← hyl] at h2 hi
          exact ⟨⟨la, lc, h2, hi⟩, h.1⟩) (fun a cap w hp => (refMend_ok s a len cap w hp hr).mono fun e w' h => by
        unfold RefMend at h
        rcases h.1 with ⟨h1, -⟩ | ⟨y', m', la, lc, h1, h2, h3⟩
        · rw [hb] at h1; cases h1
        · rw [hb] at h1; cases h1
          rw [← hyl] at h2 h3
          exact ⟨⟨la, lc, h2, h3⟩, h.2⟩)
      (fun a cap w hp => Tin_any s a len cap w hp) (fun a cap w hp => refTin_any s a len cap w hp)
end Go.Proofs.Ytajabapcmpmboaa
