/- MetalSafe. -/
import Derived.Test.YtajabapcmpmboaaSE
import Derived.Test.YtajabapcmpmboaaSB
import Derived.Test.YtajabapcmpmboaaSC
import Derived.Test.YtajabapcmpmboaaSD
namespace Go.Proofs.Ytajabapcmpmboaa
set_option linter.unusedVariables false
set_option linter.unusedSimpArgs false
open Go.RowKit

/-- Copy, in plain words. -/
theorem Copy_read (s : Shop) (a : Option Addr) (len cap : Nat) (w : World) (hp : PigsAt w a len s.pigs) (hl : len ≤ 1000) :
    Calls Try.prog 17 #[.agg #[.int .i64 s.P, .int .i64 s.tl, .int .i64 s.th, .int .i64 s.al, .int .i64 s.ah, .int .i64 s.room, .int .i64 s.xl, .int .i64 s.xh, .int .i64 s.yl, .int .i64 s.yh, .slice a len cap]] w fun e w' => (∃ a' cap', e = .returned (.agg #[.int .i64 s.P, .int .i64 s.tl, .int .i64 s.th, .int .i64 s.al, .int .i64 s.ah, .int .i64 s.room, .int .i64 s.xl, .int .i64 s.xh, .int .i64 s.yl, .int .i64 s.yh, .slice a' len cap']) ∧ PigsAt w' a' len s.pigs ∧ (0 < len → ∀ b o, a' = some ⟨b, o, none⟩ → w.heap.size ≤ b ∧ b < w'.heap.size)) ∧ Below w.heap.size w w' := by
  refine (Copy_any s a len cap w hp hl).mono fun e w' ⟨hb, a', cap', he, ho⟩ => ⟨⟨a', cap', he, ?_⟩, hb⟩
  obtain ⟨h1, h2⟩ := pigs_own ho hp.2.1
  refine ⟨h1, fun h0 b o e => ⟨h2 h0 b o e, ?_⟩⟩
  obtain ⟨b', o', e', hb', -⟩ := h1.2.2 h0
  rw [e] at e'
  cases e'
  exact hb'

/-- What a question about a shop and an addition is answered with, wherever both lie. -/
def Says (f : FuncId) (s : Shop) (len xlen : Nat) (ns : List Int) (v : Value) : Prop :=
  ∀ (a : Option Addr) (cap : Nat) (x : Option Addr) (xcap : Nat) (w : World), PigsAt w a len s.pigs → IntsAt w x xlen ns → Calls Try.prog f #[.agg #[.int .i64 s.P, .int .i64 s.tl, .int .i64 s.th, .int .i64 s.al, .int .i64 s.ah, .int .i64 s.room, .int .i64 s.xl, .int .i64 s.xh, .int .i64 s.yl, .int .i64 s.yh, .slice a len cap], .slice x xlen xcap] w fun e w' => e = .returned v ∧ Below w.heap.size w w'
def SaysL (f : FuncId) (s : Shop) (len xlen : Nat) (ns fl : List Int) (v : Int) : Prop :=
  ∀ (a : Option Addr) (cap : Nat) (x : Option Addr) (xcap : Nat) (w : World), PigsAt w a len s.pigs → IntsAt w x xlen ns → Calls Try.prog f #[.agg #[.int .i64 s.P, .int .i64 s.tl, .int .i64 s.th, .int .i64 s.al, .int .i64 s.ah, .int .i64 s.room, .int .i64 s.xl, .int .i64 s.xh, .int .i64 s.yl, .int .i64 s.yh, .slice a len cap], .slice x xlen xcap] w fun e w' => (∃ fa fc, e = .returned (.tuple #[.slice fa fl.length fc, .int .i64 v]) ∧ IntsAt w' fa fl.length fl) ∧ Below w.heap.size w w'

theorem Huge_is (s : Shop) (a : Option Addr) (len cap : Nat) (b : Bool) (h : decide (40 < len) = b) (w : World) :
    Calls Try.prog 15 #[.agg #[.int .i64 s.P, .int .i64 s.tl, .int .i64 s.th, .int .i64 s.al, .int .i64 s.ah, .int .i64 s.room, .int .i64 s.xl, .int .i64 s.xh, .int .i64 s.yl, .int .i64 s.yh, .slice a len cap]] w fun e w' => e = .returned (.bool b) ∧ Below w.heap.size w w' := h ▸ Huge_any s a len cap w
theorem Check_s (s : Shop) (a : Option Addr) (len cap : Nat) (v : Int) (h : s.chk = v) (w : World) (hp : PigsAt w a len s.pigs) :
    Calls Try.prog 20 #[.agg #[.int .i64 s.P, .int .i64 s.tl, .int .i64 s.th, .int .i64 s.al, .int .i64 s.ah, .int .i64 s.room, .int .i64 s.xl, .int .i64 s.xh, .int .i64 s.yl, .int .i64 s.yh, .slice a len cap]] w fun e w' => e = .returned (.int .i64 v) ∧ Below w.heap.size w w' := by subst h; exact Check_any s a len cap w hp
theorem refCheck_s (s : Shop) (a : Option Addr) (len cap : Nat) (v : Int) (h : s.chk = v) (w : World) (hp : PigsAt w a len s.pigs) :
    Calls Try.prog 21 #[.agg #[.int .i64 s.P, .int .i64 s.tl, .int .i64 s.th, .int .i64 s.al, .int .i64 s.ah, .int .i64 s.room, .int .i64 s.xl, .int .i64 s.xh, .int .i64 s.yl, .int .i64 s.yh, .slice a len cap]] w fun e w' => e = .returned (.int .i64 v) ∧ Below w.heap.size w w' := by subst h; exact refCheck_any s a len cap w hp

theorem SameInts_yes (xa : Option Addr) (xl xc : Nat) (ya : Option Addr) (yl yc : Nat) (x : List Int) (w : World) (hx : IntsAt w xa xl x) (hy : IntsAt w ya yl x) :
    Calls Try.prog 28 #[.slice xa xl xc, .slice ya yl yc] w fun e w' => e = .returned (.bool true) ∧ Below w.heap.size w w' := by
  have h := SameInts_any xa xl xc ya yl yc x x w hx hy
  rwa [show sameB x x = true by simp [sameB]] at h

set_option maxRecDepth 100000 in
set_option maxHeartbeats 16000000 in
theorem safe_walk (s : Shop) (a : Option Addr) (len cap : Nat) (x : Option Addr) (xlen xcap : Nat) (ns : List Int) (w : World) (hp : PigsAt w a len s.pigs) (hx : IntsAt w x xlen ns) (h40 : len ≤ 40) (hx40 : xlen ≤ 40) (m1 m2 m3 m4 m5 v k lo hi lv : Int) (fl : List Int)
    (A1 : Says 18 s len xlen ns (.tuple #[.agg #[.int .i64 m1, .int .i64 m2, .int .i64 m3, .int .i64 m4, .int .i64 m5], .int .i64 v])) (A2 : Says 19 s len xlen ns (.tuple #[.agg #[.int .i64 m1, .int .i64 m2, .int .i64 m3, .int .i64 m4, .int .i64 m5], .int .i64 v]))
    (B1 : Says 22 s len xlen ns (.tuple #[.int .i64 k, .int .i64 v])) (B2 : Says 23 s len xlen ns (.tuple #[.int .i64 k, .int .i64 v]))
    (C1 : SaysL 24 s len xlen ns fl v) (C2 : SaysL 25 s len xlen ns fl v)
    (D1 : Says 26 s len xlen ns (.tuple #[.agg #[.int .i64 lo, .int .i64 hi], .int .i64 lv])) (D2 : Says 27 s len xlen ns (.tuple #[.agg #[.int .i64 lo, .int .i64 hi], .int .i64 lv])) :
    Calls Try.prog 3 #[.agg #[.int .i64 s.P, .int .i64 s.tl, .int .i64 s.th, .int .i64 s.al, .int .i64 s.ah, .int .i64 s.room, .int .i64 s.xl, .int .i64 s.xh, .int .i64 s.yl, .int .i64 s.yh, .slice a len cap], .slice x xlen xcap] w fun e w' => e = .returned (.bool true) ∧ Below w.heap.size w w' := by
  have HH := Lib.hid (fun w1 => Huge_is s a len cap false (decide_eq_false (by omega)) w1)
  have HW := Lib.hid (fun w1 => works_any w1)
  have HC := Lib.hid (fun w1 (hb : Below w.heap.size w w1) => Copy_read s a len cap w1 (hp.below hb) (by omega))
  have hxl : xlen ≤ 1000 := by omega
  have HX := Lib.hid (fun w1 (hb : Below w.heap.size w w1) => hx.below hb)
  have HP := Lib.hid (fun w1 (hb : Below w.heap.size w w1) => hp.below hb)
  have hgt : ¬ (40 : Int) < (xlen : Int) := by omega
  have HA1 := Lib.hid A1
  have HA2 := Lib.hid A2
  have HB1 := Lib.hid B1
  have HB2 := Lib.hid B2
  have HC1 := Lib.hid C1
  have HC2 := Lib.hid C2
  have HD1 := Lib.hid D1
  have HD2 := Lib.hid D2
  obtain ⟨cc, hcc⟩ : ∃ cc, s.chk = cc := ⟨_, rfl⟩
  have HK1 := Lib.hid (fun a cap w1 (hp : PigsAt w1 a len s.pigs) => Check_s s a len cap cc hcc w1 hp)
  have HK2 := Lib.hid (fun a cap w1 (hp : PigsAt w1 a len s.pigs) => refCheck_s s a len cap cc hcc w1 hp)
  clear hp hx A1 A2 B1 B2 C1 C2 D1 D2 hcc
  go_enter Try.func3, Try.ntmps3
  go_wp2_with fail
  refine (HH.out _).mono ?_; rintro e w1 ⟨rfl, hb1⟩; obtain ⟨hc1, hf1⟩ := bcell hb1; have hz1 := hb1.size; (try simp at hz1); have hw1 := ((by repeat (first | assumption | exact Below.refl _ _ | (refine Below.alloc ?_ (by first | omega | (simp; omega) | simp) _) | (refine Below.setCell ?_ (by first | omega | (simp; omega) | simp) _) | refine Below.drew ?_)) : Below w.heap.size w _).trans (hb1.mono (by first | (simp; done) | (simp; omega) | omega)); clear hb1; have p1 : w.heap.size < w1.heap.size := (by omega); go_wp2_with fail
  refine (HC.out _ hw1).mono ?_
  rintro e u1 ⟨⟨a1, cap1, rfl, hP1, hfar⟩, hb2⟩
  have hu1 := hw1.trans (hb2.mono hw1.size)
  obtain ⟨hc2, hf2⟩ := bcell hb2
  have hzu := hb2.size
  clear hb2
  go_wp2_with (at_builtin; refine wpList_append_ints _ u1.heap.size u1.heap.size xlen xcap x ns rfl _ _ rfl rfl rfl (made_row rfl (Nat.le_refl _)) (HX.out _ (hu1.alloc hu1.size _)) hxl (Nat.le_refl _) (by simp) ?_; intro g2 cap2 u2 hI2 hb3)
  obtain ⟨U, hU⟩ : ∃ U, u2.alloc (.cells #[.int .i64 s.P, .int .i64 s.tl, .int .i64 s.th, .int .i64 s.al, .int .i64 s.ah, .int .i64 s.room, .int .i64 s.xl, .int .i64 s.xh, .int .i64 s.yl, .int .i64 s.yh, .slice a1 len cap1] 28) = U := ⟨_, rfl⟩
  have hzb3 := hb3.size
  simp at hzb3
  have hb3' : Below u1.heap.size u1 U := by rw [← hU]; exact (((Below.refl _ _).alloc (Nat.le_refl _) _).trans hb3).alloc (by omega) _
  have hOb : ∀ i, U.cell? ⟨u2.heap.size, i, none⟩ = (#[.int .i64 s.P, .int .i64 s.tl, .int .i64 s.th, .int .i64 s.al, .int .i64 s.ah, .int .i64 s.room, .int .i64 s.xl, .int .i64 s.xh, .int .i64 s.yl, .int .i64 s.yh, .slice a1 len cap1] : Array Value)[i]? := fun i => by rw [← hU]; exact World.cell?_alloc_new _ _ _ i
  have hzU : U.heap.size = u2.heap.size + 1 := by rw [← hU]; simp
  have hIU : IntsAt U (some ⟨g2, 0, none⟩) xlen ns := hI2.below (by rw [← hU]; exact (Below.refl _ _).alloc (Nat.le_refl _) _)
  rw [hU]
  clear hU hI2 hb3
  have hwU : Below w.heap.size w U := hu1.trans (hb3'.mono hu1.size)
  have hPU : PigsAt U a1 len s.pigs := hP1.below hb3'
  have hp1 : w.heap.size < w1.heap.size := p1
  have hSb : ∀ i, U.cell? ⟨w.heap.size, i, none⟩ = (#[.int .i64 s.P, .int .i64 s.tl, .int .i64 s.th, .int .i64 s.al, .int .i64 s.ah, .int .i64 s.room, .int .i64 s.xl, .int .i64 s.xh, .int .i64 s.yl, .int .i64 s.yh, .slice a len cap] : Array Value)[i]? := fun i => (hb3'.cell (p := ⟨w.heap.size, i, none⟩) (show w.heap.size < u1.heap.size by omega)).trans ((hc2 _ _ p1).trans ((hc1 _ _ (by simp)).trans (World.cell?_alloc_new w _ _ i)))
  obtain ⟨gO, hgO⟩ : ∃ gO, gO = u2.heap.size := ⟨_, rfl⟩
  have hsU : w.heap.size < U.heap.size := by have := hb3'.size; omega
  have hgU : gO < U.heap.size := by omega
  have hne : gO ≠ w.heap.size := by omega
  rw [← hgO]
  rw [← hgO] at hOb
  clear hgO hzU hc1 hf1 hc2 hf2 hw1 hu1 hb3' hP1 hfar hzb3
  have HSB := Lib.hid hSb
  have HOB := Lib.hid hOb
  have HWU := Lib.hid hwU
  have HPU := Lib.hid (fun W (hb : Below U.heap.size U W) => hPU.below hb)
  have HIU := Lib.hid (fun W (hb : Below U.heap.size U W) => hIU.below hb)
  have HPS := Lib.hid (fun W (hb : Below U.heap.size U W) => HP.out W (hwU.trans (hb.mono hwU.size)))
  have HXS := Lib.hid (fun W (hb : Below U.heap.size U W) => HX.out W (hwU.trans (hb.mono hwU.size)))
  clear hSb hOb hPU hIU
  refine (HA1.out _ _ _ _ U (HPU.out _ (Below.refl _ _)) (HIU.out _ (Below.refl _ _))).mono ?_
  rintro e w4 ⟨rfl, hb4⟩
  have hz4 := hb4.size
  obtain ⟨x0, x1, x2, x3, x4, x5, x6, x7, x8, x9, x10⟩ : w4.cell? ⟨w.heap.size, 0, none⟩ = some (.int .i64 s.P) ∧ w4.cell? ⟨w.heap.size, 1, none⟩ = some (.int .i64 s.tl) ∧ w4.cell? ⟨w.heap.size, 2, none⟩ = some (.int .i64 s.th) ∧ w4.cell? ⟨w.heap.size, 3, none⟩ = some (.int .i64 s.al) ∧ w4.cell? ⟨w.heap.size, 4, none⟩ = some (.int .i64 s.ah) ∧ w4.cell? ⟨w.heap.size, 5, none⟩ = some (.int .i64 s.room) ∧ w4.cell? ⟨w.heap.size, 6, none⟩ = some (.int .i64 s.xl) ∧ w4.cell? ⟨w.heap.size, 7, none⟩ = some (.int .i64 s.xh) ∧ w4.cell? ⟨w.heap.size, 8, none⟩ = some (.int .i64 s.yl) ∧ w4.cell? ⟨w.heap.size, 9, none⟩ = some (.int .i64 s.yh) ∧ w4.cell? ⟨w.heap.size, 10, none⟩ = some (.slice a len cap) := ⟨(hb4.cell (p := ⟨w.heap.size, 0, none⟩) hsU).trans (HSB.out 0), (hb4.cell (p := ⟨w.heap.size, 1, none⟩) hsU).trans (HSB.out 1), (hb4.cell (p := ⟨w.heap.size, 2, none⟩) hsU).trans (HSB.out 2), (hb4.cell (p := ⟨w.heap.size, 3, none⟩) hsU).trans (HSB.out 3), (hb4.cell (p := ⟨w.heap.size, 4, none⟩) hsU).trans (HSB.out 4), (hb4.cell (p := ⟨w.heap.size, 5, none⟩) hsU).trans (HSB.out 5), (hb4.cell (p := ⟨w.heap.size, 6, none⟩) hsU).trans (HSB.out 6), (hb4.cell (p := ⟨w.heap.size, 7, none⟩) hsU).trans (HSB.out 7), (hb4.cell (p := ⟨w.heap.size, 8, none⟩) hsU).trans (HSB.out 8), (hb4.cell (p := ⟨w.heap.size, 9, none⟩) hsU).trans (HSB.out 9), (hb4.cell (p := ⟨w.heap.size, 10, none⟩) hsU).trans (HSB.out 10)⟩; obtain ⟨o0, o1, o2, o3, o4, o5, o6, o7, o8, o9, o10⟩ : w4.cell? ⟨gO, 0, none⟩ = some (.int .i64 s.P) ∧ w4.cell? ⟨gO, 1, none⟩ = some (.int .i64 s.tl) ∧ w4.cell? ⟨gO, 2, none⟩ = some (.int .i64 s.th) ∧ w4.cell? ⟨gO, 3, none⟩ = some (.int .i64 s.al) ∧ w4.cell? ⟨gO, 4, none⟩ = some (.int .i64 s.ah) ∧ w4.cell? ⟨gO, 5, none⟩ = some (.int .i64 s.room) ∧ w4.cell? ⟨gO, 6, none⟩ = some (.int .i64 s.xl) ∧ w4.cell? ⟨gO, 7, none⟩ = some (.int .i64 s.xh) ∧ w4.cell? ⟨gO, 8, none⟩ = some (.int .i64 s.yl) ∧ w4.cell? ⟨gO, 9, none⟩ = some (.int .i64 s.yh) ∧ w4.cell? ⟨gO, 10, none⟩ = some (.slice a1 len cap1) := ⟨(hb4.cell (p := ⟨gO, 0, none⟩) hgU).trans (HOB.out 0), (hb4.cell (p := ⟨gO, 1, none⟩) hgU).trans (HOB.out 1), (hb4.cell (p := ⟨gO, 2, none⟩) hgU).trans (HOB.out 2), (hb4.cell (p := ⟨gO, 3, none⟩) hgU).trans (HOB.out 3), (hb4.cell (p := ⟨gO, 4, none⟩) hgU).trans (HOB.out 4), (hb4.cell (p := ⟨gO, 5, none⟩) hgU).trans (HOB.out 5), (hb4.cell (p := ⟨gO, 6, none⟩) hgU).trans (HOB.out 6), (hb4.cell (p := ⟨gO, 7, none⟩) hgU).trans (HOB.out 7), (hb4.cell (p := ⟨gO, 8, none⟩) hgU).trans (HOB.out 8), (hb4.cell (p := ⟨gO, 9, none⟩) hgU).trans (HOB.out 9), (hb4.cell (p := ⟨gO, 10, none⟩) hgU).trans (HOB.out 10)⟩
  have s4 : w.heap.size < w4.heap.size := by omega
  have g4 : gO < w4.heap.size := by omega
  go_wp2_with fail
  clear x0 x1 x2 x3 x4 x5 x6 x7 x8 x9 x10 o0 o1 o2 o3 o4 o5 o6 o7 o8 o9 o10
  have hb4p : Below U.heap.size U (w4.alloc (.cells #[.int .i64 m1, .int .i64 m2, .int .i64 m3, .int .i64 m4, .int .i64 m5] 25)) := hb4.alloc hz4 _
  refine (HA2.out _ _ _ _ _ (HPS.out _ hb4p) (HXS.out _ hb4p)).mono ?_
  rintro e w5 ⟨rfl, hb5⟩
  have hz5 := hb5.size
  simp at hz5
  have hv5 := hb4p.trans (hb5.mono hb4p.size)
  have hpp : ∀ i, w5.cell? ⟨w4.heap.size, i, none⟩ = (#[.int .i64 m1, .int .i64 m2, .int .i64 m3, .int .i64 m4, .int .i64 m5] : Array Value)[i]? := fun i => (hb5.cell (p := ⟨w4.heap.size, i, none⟩) (by simp)).trans (World.cell?_alloc_new w4 _ _ i)
  clear hb5 hb4p hb4
  go_upto_region 6 with fail
  obtain ⟨U2, hU2⟩ : ∃ U2, w5.alloc (.cells #[.int .i64 m1, .int .i64 m2, .int .i64 m3, .int .i64 m4, .int .i64 m5] 25) = U2 := ⟨_, rfl⟩
  have hv6 : Below U.heap.size U U2 := by rw [← hU2]; exact hv5.alloc hv5.size _
  have hqq : ∀ i, U2.cell? ⟨w5.heap.size, i, none⟩ = (#[.int .i64 m1, .int .i64 m2, .int .i64 m3, .int .i64 m4, .int .i64 m5] : Array Value)[i]? := fun i => by rw [← hU2]; exact World.cell?_alloc_new w5 _ _ i
  have hpp2 : ∀ i, U2.cell? ⟨w4.heap.size, i, none⟩ = (#[.int .i64 m1, .int .i64 m2, .int .i64 m3, .int .i64 m4, .int .i64 m5] : Array Value)[i]? := fun i => by rw [← hU2]; exact (World.cell?_of_block (Below.heap_alloc w5 _ _ (by simp; omega))).trans (hpp i)
  have hz6 : U2.heap.size = w5.heap.size + 1 := by rw [← hU2]; simp
  rw [hU2]
  clear hU2 hpp
  obtain ⟨x0, x1, x2, x3, x4, x5, x6, x7, x8, x9, x10⟩ : U2.cell? ⟨w.heap.size, 0, none⟩ = some (.int .i64 s.P) ∧ U2.cell? ⟨w.heap.size, 1, none⟩ = some (.int .i64 s.tl) ∧ U2.cell? ⟨w.heap.size, 2, none⟩ = some (.int .i64 s.th) ∧ U2.cell? ⟨w.heap.size, 3, none⟩ = some (.int .i64 s.al) ∧ U2.cell? ⟨w.heap.size, 4, none⟩ = some (.int .i64 s.ah) ∧ U2.cell? ⟨w.heap.size, 5, none⟩ = some (.int .i64 s.room) ∧ U2.cell? ⟨w.heap.size, 6, none⟩ = some (.int .i64 s.xl) ∧ U2.cell? ⟨w.heap.size, 7, none⟩ = some (.int .i64 s.xh) ∧ U2.cell? ⟨w.heap.size, 8, none⟩ = some (.int .i64 s.yl) ∧ U2.cell? ⟨w.heap.size, 9, none⟩ = some (.int .i64 s.yh) ∧ U2.cell? ⟨w.heap.size, 10, none⟩ = some (.slice a len cap) := ⟨(hv6.cell (p := ⟨w.heap.size, 0, none⟩) hsU).trans (HSB.out 0), (hv6.cell (p := ⟨w.heap.size, 1, none⟩) hsU).trans (HSB.out 1), (hv6.cell (p := ⟨w.heap.size, 2, none⟩) hsU).trans (HSB.out 2), (hv6.cell (p := ⟨w.heap.size, 3, none⟩) hsU).trans (HSB.out 3), (hv6.cell (p := ⟨w.heap.size, 4, none⟩) hsU).trans (HSB.out 4), (hv6.cell (p := ⟨w.heap.size, 5, none⟩) hsU).trans (HSB.out 5), (hv6.cell (p := ⟨w.heap.size, 6, none⟩) hsU).trans (HSB.out 6), (hv6.cell (p := ⟨w.heap.size, 7, none⟩) hsU).trans (HSB.out 7), (hv6.cell (p := ⟨w.heap.size, 8, none⟩) hsU).trans (HSB.out 8), (hv6.cell (p := ⟨w.heap.size, 9, none⟩) hsU).trans (HSB.out 9), (hv6.cell (p := ⟨w.heap.size, 10, none⟩) hsU).trans (HSB.out 10)⟩; obtain ⟨o0, o1, o2, o3, o4, o5, o6, o7, o8, o9, o10⟩ : U2.cell? ⟨gO, 0, none⟩ = some (.int .i64 s.P) ∧ U2.cell? ⟨gO, 1, none⟩ = some (.int .i64 s.tl) ∧ U2.cell? ⟨gO, 2, none⟩ = some (.int .i64 s.th) ∧ U2.cell? ⟨gO, 3, none⟩ = some (.int .i64 s.al) ∧ U2.cell? ⟨gO, 4, none⟩ = some (.int .i64 s.ah) ∧ U2.cell? ⟨gO, 5, none⟩ = some (.int .i64 s.room) ∧ U2.cell? ⟨gO, 6, none⟩ = some (.int .i64 s.xl) ∧ U2.cell? ⟨gO, 7, none⟩ = some (.int .i64 s.xh) ∧ U2.cell? ⟨gO, 8, none⟩ = some (.int .i64 s.yl) ∧ U2.cell? ⟨gO, 9, none⟩ = some (.int .i64 s.yh) ∧ U2.cell? ⟨gO, 10, none⟩ = some (.slice a1 len cap1) := ⟨(hv6.cell (p := ⟨gO, 0, none⟩) hgU).trans (HOB.out 0), (hv6.cell (p := ⟨gO, 1, none⟩) hgU).trans (HOB.out 1), (hv6.cell (p := ⟨gO, 2, none⟩) hgU).trans (HOB.out 2), (hv6.cell (p := ⟨gO, 3, none⟩) hgU).trans (HOB.out 3), (hv6.cell (p := ⟨gO, 4, none⟩) hgU).trans (HOB.out 4), (hv6.cell (p := ⟨gO, 5, none⟩) hgU).trans (HOB.out 5), (hv6.cell (p := ⟨gO, 6, none⟩) hgU).trans (HOB.out 6), (hv6.cell (p := ⟨gO, 7, none⟩) hgU).trans (HOB.out 7), (hv6.cell (p := ⟨gO, 8, none⟩) hgU).trans (HOB.out 8), (hv6.cell (p := ⟨gO, 9, none⟩) hgU).trans (HOB.out 9), (hv6.cell (p := ⟨gO, 10, none⟩) hgU).trans (HOB.out 10)⟩
  obtain ⟨pp0, pp1, pp2, pp3, pp4⟩ : U2.cell? ⟨w4.heap.size, 0, none⟩ = some (.int .i64 m1) ∧ U2.cell? ⟨w4.heap.size, 1, none⟩ = some (.int .i64 m2) ∧ U2.cell? ⟨w4.heap.size, 2, none⟩ = some (.int .i64 m3) ∧ U2.cell? ⟨w4.heap.size, 3, none⟩ = some (.int .i64 m4) ∧ U2.cell? ⟨w4.heap.size, 4, none⟩ = some (.int .i64 m5) := ⟨hpp2 0, hpp2 1, hpp2 2, hpp2 3, hpp2 4⟩
  obtain ⟨qq0, qq1, qq2, qq3, qq4⟩ : U2.cell? ⟨w5.heap.size, 0, none⟩ = some (.int .i64 m1) ∧ U2.cell? ⟨w5.heap.size, 1, none⟩ = some (.int .i64 m2) ∧ U2.cell? ⟨w5.heap.size, 2, none⟩ = some (.int .i64 m3) ∧ U2.cell? ⟨w5.heap.size, 3, none⟩ = some (.int .i64 m4) ∧ U2.cell? ⟨w5.heap.size, 4, none⟩ = some (.int .i64 m5) := ⟨hqq 0, hqq 1, hqq 2, hqq 3, hqq 4⟩
  clear hpp2 hqq
  have s6 : w.heap.size < U2.heap.size := by omega
  have g6 : gO < U2.heap.size := by omega
  have pl6 : w4.heap.size < U2.heap.size := by omega
  have ql6 : w5.heap.size < U2.heap.size := by omega
  have HK3 := Lib.hid (fun W (h : Below U2.heap.size U2 W ∧ ∀ b o, b < U2.heap.size → W.cell? ⟨b, o, none⟩ = U2.cell? ⟨b, o, none⟩) => bothS1 (W0 := U2) (HK1.out a1 cap1 W (HPU.out _ (hv6.trans (h.1.mono hv6.size)))) h)
  have HK4 := Lib.hid (fun W (h : Below U2.heap.size U2 W ∧ ∀ b o, b < U2.heap.size → W.cell? ⟨b, o, none⟩ = U2.cell? ⟨b, o, none⟩) => bothS1 (W0 := U2) (HK2.out a cap W (HPS.out _ (hv6.trans (h.1.mono hv6.size)))) h)
  clear hz6 hz5 hz4 hv5
  go_cut [60] (fun v60 wx => v60 = .bool false ∧ Below U2.heap.size U2 wx)
  case first =>
    go_region_held3 (fun w' => Below U2.heap.size U2 w' ∧ ∀ b o, b < U2.heap.size → w'.cell? ⟨b, o, none⟩ = U2.cell? ⟨b, o, none⟩) (first | with_reducible assumption | ((repeat (first | with_reducible refine bothS_drew ?_ | with_reducible refine bothS_alloc _ ?_ | with_reducible refine bothS_set _ _ (by first | omega | (simp; omega) | simp) ?_)); first | with_reducible assumption | with_reducible exact Hid.out (by assumption) | with_reducible exact ⟨Below.refl _ _, fun _ _ _ => rfl⟩)) (first | (go_at_call 20; with_reducible refine (HK3.out _ ?_).mono ?_; (first | with_reducible assumption | ((repeat (first | with_reducible refine bothS_drew ?_ | with_reducible refine bothS_alloc _ ?_ | with_reducible refine bothS_set _ _ (by first | omega | (simp; omega) | simp) ?_)); first | with_reducible assumption | with_reducible exact Hid.out (by assumption) | with_reducible exact ⟨Below.refl _ _, fun _ _ _ => rfl⟩)); rintro e w' ⟨rfl, k, k1, k2, k3⟩; have HK := Lib.hid k; (try simp at k3); (try have k6 := Nat.lt_of_succ_le k3); (try have k7 := Nat.lt_of_succ_lt k6); (try have k8 := Nat.lt_of_succ_lt k3)) | (go_at_call 21; with_reducible refine (HK4.out _ ?_).mono ?_; (first | with_reducible assumption | ((repeat (first | with_reducible refine bothS_drew ?_ | with_reducible refine bothS_alloc _ ?_ | with_reducible refine bothS_set _ _ (by first | omega | (simp; omega) | simp) ?_)); first | with_reducible assumption | with_reducible exact Hid.out (by assumption) | with_reducible exact ⟨Below.refl _ _, fun _ _ _ => rfl⟩)); rintro e w' ⟨rfl, k, k1, k2, k3⟩; have HK := Lib.hid k; (try simp at k3); (try have k6 := Nat.lt_of_succ_le k3); (try have k7 := Nat.lt_of_succ_lt k6); (try have k8 := Nat.lt_of_succ_lt k3)))
    all_goals (go_wp2_with fail; go_meet; exact ⟨by simp, And.left (by assumption)⟩)
  case rest =>
    obtain ⟨rfl, hB7⟩ := hcut
    obtain ⟨w7, rfl⟩ : ∃ w7 : World, w7 = wc := ⟨_, rfl⟩
    have hv7 := hv6.trans (hB7.mono hv6.size)
    clear x0 x1 x2 x3 x4 x5 x6 x7 x8 x9 x10 o0 o1 o2 o3 o4 o5 o6 o7 o8 o9 o10
    clear pp0 pp1 pp2 pp3 pp4 qq0 qq1 qq2 qq3 qq4 HK3 HK4 HK1 HK2 HA1 HA2
    obtain ⟨x0, x1, x2, x3, x4, x5, x6, x7, x8, x9, x10⟩ : w7.cell? ⟨w.heap.size, 0, none⟩ = some (.int .i64 s.P) ∧ w7.cell? ⟨w.heap.size, 1, none⟩ = some (.int .i64 s.tl) ∧ w7.cell? ⟨w.heap.size, 2, none⟩ = some (.int .i64 s.th) ∧ w7.cell? ⟨w.heap.size, 3, none⟩ = some (.int .i64 s.al) ∧ w7.cell? ⟨w.heap.size, 4, none⟩ = some (.int .i64 s.ah) ∧ w7.cell? ⟨w.heap.size, 5, none⟩ = some (.int .i64 s.room) ∧ w7.cell? ⟨w.heap.size, 6, none⟩ = some (.int .i64 s.xl) ∧ w7.cell? ⟨w.heap.size, 7, none⟩ = some (.int .i64 s.xh) ∧ w7.cell? ⟨w.heap.size, 8, none⟩ = some (.int .i64 s.yl) ∧ w7.cell? ⟨w.heap.size, 9, none⟩ = some (.int .i64 s.yh) ∧ w7.cell? ⟨w.heap.size, 10, none⟩ = some (.slice a len cap) := ⟨(hv7.cell (p := ⟨w.heap.size, 0, none⟩) hsU).trans (HSB.out 0), (hv7.cell (p := ⟨w.heap.size, 1, none⟩) hsU).trans (HSB.out 1), (hv7.cell (p := ⟨w.heap.size, 2, none⟩) hsU).trans (HSB.out 2), (hv7.cell (p := ⟨w.heap.size, 3, none⟩) hsU).trans (HSB.out 3), (hv7.cell (p := ⟨w.heap.size, 4, none⟩) hsU).trans (HSB.out 4), (hv7.cell (p := ⟨w.heap.size, 5, none⟩) hsU).trans (HSB.out 5), (hv7.cell (p := ⟨w.heap.size, 6, none⟩) hsU).trans (HSB.out 6), (hv7.cell (p := ⟨w.heap.size, 7, none⟩) hsU).trans (HSB.out 7), (hv7.cell (p := ⟨w.heap.size, 8, none⟩) hsU).trans (HSB.out 8), (hv7.cell (p := ⟨w.heap.size, 9, none⟩) hsU).trans (HSB.out 9), (hv7.cell (p := ⟨w.heap.size, 10, none⟩) hsU).trans (HSB.out 10)⟩; obtain ⟨o0, o1, o2, o3, o4, o5, o6, o7, o8, o9, o10⟩ : w7.cell? ⟨gO, 0, none⟩ = some (.int .i64 s.P) ∧ w7.cell? ⟨gO, 1, none⟩ = some (.int .i64 s.tl) ∧ w7.cell? ⟨gO, 2, none⟩ = some (.int .i64 s.th) ∧ w7.cell? ⟨gO, 3, none⟩ = some (.int .i64 s.al) ∧ w7.cell? ⟨gO, 4, none⟩ = some (.int .i64 s.ah) ∧ w7.cell? ⟨gO, 5, none⟩ = some (.int .i64 s.room) ∧ w7.cell? ⟨gO, 6, none⟩ = some (.int .i64 s.xl) ∧ w7.cell? ⟨gO, 7, none⟩ = some (.int .i64 s.xh) ∧ w7.cell? ⟨gO, 8, none⟩ = some (.int .i64 s.yl) ∧ w7.cell? ⟨gO, 9, none⟩ = some (.int .i64 s.yh) ∧ w7.cell? ⟨gO, 10, none⟩ = some (.slice a1 len cap1) := ⟨(hv7.cell (p := ⟨gO, 0, none⟩) hgU).trans (HOB.out 0), (hv7.cell (p := ⟨gO, 1, none⟩) hgU).trans (HOB.out 1), (hv7.cell (p := ⟨gO, 2, none⟩) hgU).trans (HOB.out 2), (hv7.cell (p := ⟨gO, 3, none⟩) hgU).trans (HOB.out 3), (hv7.cell (p := ⟨gO, 4, none⟩) hgU).trans (HOB.out 4), (hv7.cell (p := ⟨gO, 5, none⟩) hgU).trans (HOB.out 5), (hv7.cell (p := ⟨gO, 6, none⟩) hgU).trans (HOB.out 6), (hv7.cell (p := ⟨gO, 7, none⟩) hgU).trans (HOB.out 7), (hv7.cell (p := ⟨gO, 8, none⟩) hgU).trans (HOB.out 8), (hv7.cell (p := ⟨gO, 9, none⟩) hgU).trans (HOB.out 9), (hv7.cell (p := ⟨gO, 10, none⟩) hgU).trans (HOB.out 10)⟩
    go_wp2_with fail
    refine (HB1.out _ _ _ _ _ (HPU.out _ hv7) (HIU.out _ hv7)).mono ?_
    rintro e w8 ⟨rfl, hb8⟩
    have hv8 := hv7.trans (hb8.mono hv7.size)
    clear x0 x1 x2 x3 x4 x5 x6 x7 x8 x9 x10 o0 o1 o2 o3 o4 o5 o6 o7 o8 o9 o10
    obtain ⟨x0, x1, x2, x3, x4, x5, x6, x7, x8, x9, x10⟩ : w8.cell? ⟨w.heap.size, 0, none⟩ = some (.int .i64 s.P) ∧ w8.cell? ⟨w.heap.size, 1, none⟩ = some (.int .i64 s.tl) ∧ w8.cell? ⟨w.heap.size, 2, none⟩ = some (.int .i64 s.th) ∧ w8.cell? ⟨w.heap.size, 3, none⟩ = some (.int .i64 s.al) ∧ w8.cell? ⟨w.heap.size, 4, none⟩ = some (.int .i64 s.ah) ∧ w8.cell? ⟨w.heap.size, 5, none⟩ = some (.int .i64 s.room) ∧ w8.cell? ⟨w.heap.size, 6, none⟩ = some (.int .i64 s.xl) ∧ w8.cell? ⟨w.heap.size, 7, none⟩ = some (.int .i64 s.xh) ∧ w8.cell? ⟨w.heap.size, 8, none⟩ = some (.int .i64 s.yl) ∧ w8.cell? ⟨w.heap.size, 9, none⟩ = some (.int .i64 s.yh) ∧ w8.cell? ⟨w.heap.size, 10, none⟩ = some (.slice a len cap) := ⟨(hv8.cell (p := ⟨w.heap.size, 0, none⟩) hsU).trans (HSB.out 0), (hv8.cell (p := ⟨w.heap.size, 1, none⟩) hsU).trans (HSB.out 1), (hv8.cell (p := ⟨w.heap.size, 2, none⟩) hsU).trans (HSB.out 2), (hv8.cell (p := ⟨w.heap.size, 3, none⟩) hsU).trans (HSB.out 3), (hv8.cell (p := ⟨w.heap.size, 4, none⟩) hsU).trans (HSB.out 4), (hv8.cell (p := ⟨w.heap.size, 5, none⟩) hsU).trans (HSB.out 5), (hv8.cell (p := ⟨w.heap.size, 6, none⟩) hsU).trans (HSB.out 6), (hv8.cell (p := ⟨w.heap.size, 7, none⟩) hsU).trans (HSB.out 7), (hv8.cell (p := ⟨w.heap.size, 8, none⟩) hsU).trans (HSB.out 8), (hv8.cell (p := ⟨w.heap.size, 9, none⟩) hsU).trans (HSB.out 9), (hv8.cell (p := ⟨w.heap.size, 10, none⟩) hsU).trans (HSB.out 10)⟩; obtain ⟨o0, o1, o2, o3, o4, o5, o6, o7, o8, o9, o10⟩ : w8.cell? ⟨gO, 0, none⟩ = some (.int .i64 s.P) ∧ w8.cell? ⟨gO, 1, none⟩ = some (.int .i64 s.tl) ∧ w8.cell? ⟨gO, 2, none⟩ = some (.int .i64 s.th) ∧ w8.cell? ⟨gO, 3, none⟩ = some (.int .i64 s.al) ∧ w8.cell? ⟨gO, 4, none⟩ = some (.int .i64 s.ah) ∧ w8.cell? ⟨gO, 5, none⟩ = some (.int .i64 s.room) ∧ w8.cell? ⟨gO, 6, none⟩ = some (.int .i64 s.xl) ∧ w8.cell? ⟨gO, 7, none⟩ = some (.int .i64 s.xh) ∧ w8.cell? ⟨gO, 8, none⟩ = some (.int .i64 s.yl) ∧ w8.cell? ⟨gO, 9, none⟩ = some (.int .i64 s.yh) ∧ w8.cell? ⟨gO, 10, none⟩ = some (.slice a1 len cap1) := ⟨(hv8.cell (p := ⟨gO, 0, none⟩) hgU).trans (HOB.out 0), (hv8.cell (p := ⟨gO, 1, none⟩) hgU).trans (HOB.out 1), (hv8.cell (p := ⟨gO, 2, none⟩) hgU).trans (HOB.out 2), (hv8.cell (p := ⟨gO, 3, none⟩) hgU).trans (HOB.out 3), (hv8.cell (p := ⟨gO, 4, none⟩) hgU).trans (HOB.out 4), (hv8.cell (p := ⟨gO, 5, none⟩) hgU).trans (HOB.out 5), (hv8.cell (p := ⟨gO, 6, none⟩) hgU).trans (HOB.out 6), (hv8.cell (p := ⟨gO, 7, none⟩) hgU).trans (HOB.out 7), (hv8.cell (p := ⟨gO, 8, none⟩) hgU).trans (HOB.out 8), (hv8.cell (p := ⟨gO, 9, none⟩) hgU).trans (HOB.out 9), (hv8.cell (p := ⟨gO, 10, none⟩) hgU).trans (HOB.out 10)⟩
    go_wp2_with fail
    refine (HB2.out _ _ _ _ _ (HPS.out _ hv8) (HXS.out _ hv8)).mono ?_
    rintro e w9 ⟨rfl, hb9⟩
    have hv9 := hv8.trans (hb9.mono hv8.size)
    clear x0 x1 x2 x3 x4 x5 x6 x7 x8 x9 x10 o0 o1 o2 o3 o4 o5 o6 o7 o8 o9 o10
    obtain ⟨x0, x1, x2, x3, x4, x5, x6, x7, x8, x9, x10⟩ : w9.cell? ⟨w.heap.size, 0, none⟩ = some (.int .i64 s.P) ∧ w9.cell? ⟨w.heap.size, 1, none⟩ = some (.int .i64 s.tl) ∧ w9.cell? ⟨w.heap.size, 2, none⟩ = some (.int .i64 s.th) ∧ w9.cell? ⟨w.heap.size, 3, none⟩ = some (.int .i64 s.al) ∧ w9.cell? ⟨w.heap.size, 4, none⟩ = some (.int .i64 s.ah) ∧ w9.cell? ⟨w.heap.size, 5, none⟩ = some (.int .i64 s.room) ∧ w9.cell? ⟨w.heap.size, 6, none⟩ = some (.int .i64 s.xl) ∧ w9.cell? ⟨w.heap.size, 7, none⟩ = some (.int .i64 s.xh) ∧ w9.cell? ⟨w.heap.size, 8, none⟩ = some (.int .i64 s.yl) ∧ w9.cell? ⟨w.heap.size, 9, none⟩ = some (.int .i64 s.yh) ∧ w9.cell? ⟨w.heap.size, 10, none⟩ = some (.slice a len cap) := ⟨(hv9.cell (p := ⟨w.heap.size, 0, none⟩) hsU).trans (HSB.out 0), (hv9.cell (p := ⟨w.heap.size, 1, none⟩) hsU).trans (HSB.out 1), (hv9.cell (p := ⟨w.heap.size, 2, none⟩) hsU).trans (HSB.out 2), (hv9.cell (p := ⟨w.heap.size, 3, none⟩) hsU).trans (HSB.out 3), (hv9.cell (p := ⟨w.heap.size, 4, none⟩) hsU).trans (HSB.out 4), (hv9.cell (p := ⟨w.heap.size, 5, none⟩) hsU).trans (HSB.out 5), (hv9.cell (p := ⟨w.heap.size, 6, none⟩) hsU).trans (HSB.out 6), (hv9.cell (p := ⟨w.heap.size, 7, none⟩) hsU).trans (HSB.out 7), (hv9.cell (p := ⟨w.heap.size, 8, none⟩) hsU).trans (HSB.out 8), (hv9.cell (p := ⟨w.heap.size, 9, none⟩) hsU).trans (HSB.out 9), (hv9.cell (p := ⟨w.heap.size, 10, none⟩) hsU).trans (HSB.out 10)⟩; obtain ⟨o0, o1, o2, o3, o4, o5, o6, o7, o8, o9, o10⟩ : w9.cell? ⟨gO, 0, none⟩ = some (.int .i64 s.P) ∧ w9.cell? ⟨gO, 1, none⟩ = some (.int .i64 s.tl) ∧ w9.cell? ⟨gO, 2, none⟩ = some (.int .i64 s.th) ∧ w9.cell? ⟨gO, 3, none⟩ = some (.int .i64 s.al) ∧ w9.cell? ⟨gO, 4, none⟩ = some (.int .i64 s.ah) ∧ w9.cell? ⟨gO, 5, none⟩ = some (.int .i64 s.room) ∧ w9.cell? ⟨gO, 6, none⟩ = some (.int .i64 s.xl) ∧ w9.cell? ⟨gO, 7, none⟩ = some (.int .i64 s.xh) ∧ w9.cell? ⟨gO, 8, none⟩ = some (.int .i64 s.yl) ∧ w9.cell? ⟨gO, 9, none⟩ = some (.int .i64 s.yh) ∧ w9.cell? ⟨gO, 10, none⟩ = some (.slice a1 len cap1) := ⟨(hv9.cell (p := ⟨gO, 0, none⟩) hgU).trans (HOB.out 0), (hv9.cell (p := ⟨gO, 1, none⟩) hgU).trans (HOB.out 1), (hv9.cell (p := ⟨gO, 2, none⟩) hgU).trans (HOB.out 2), (hv9.cell (p := ⟨gO, 3, none⟩) hgU).trans (HOB.out 3), (hv9.cell (p := ⟨gO, 4, none⟩) hgU).trans (HOB.out 4), (hv9.cell (p := ⟨gO, 5, none⟩) hgU).trans (HOB.out 5), (hv9.cell (p := ⟨gO, 6, none⟩) hgU).trans (HOB.out 6), (hv9.cell (p := ⟨gO, 7, none⟩) hgU).trans (HOB.out 7), (hv9.cell (p := ⟨gO, 8, none⟩) hgU).trans (HOB.out 8), (hv9.cell (p := ⟨gO, 9, none⟩) hgU).trans (HOB.out 9), (hv9.cell (p := ⟨gO, 10, none⟩) hgU).trans (HOB.out 10)⟩
    go_wp2_with fail
    refine (HC1.out _ _ _ _ _ (HPU.out _ hv9) (HIU.out _ hv9)).mono ?_
    rintro e w10 ⟨⟨fa, fc, rfl, hIa⟩, hb10⟩
    have hv10 := hv9.trans (hb10.mono hv9.size)
    clear x0 x1 x2 x3 x4 x5 x6 x7 x8 x9 x10 o0 o1 o2 o3 o4 o5 o6 o7 o8 o9 o10
    obtain ⟨x0, x1, x2, x3, x4, x5, x6, x7, x8, x9, x10⟩ : w10.cell? ⟨w.heap.size, 0, none⟩ = some (.int .i64 s.P) ∧ w10.cell? ⟨w.heap.size, 1, none⟩ = some (.int .i64 s.tl) ∧ w10.cell? ⟨w.heap.size, 2, none⟩ = some (.int .i64 s.th) ∧ w10.cell? ⟨w.heap.size, 3, none⟩ = some (.int .i64 s.al) ∧ w10.cell? ⟨w.heap.size, 4, none⟩ = some (.int .i64 s.ah) ∧ w10.cell? ⟨w.heap.size, 5, none⟩ = some (.int .i64 s.room) ∧ w10.cell? ⟨w.heap.size, 6, none⟩ = some (.int .i64 s.xl) ∧ w10.cell? ⟨w.heap.size, 7, none⟩ = some (.int .i64 s.xh) ∧ w10.cell? ⟨w.heap.size, 8, none⟩ = some (.int .i64 s.yl) ∧ w10.cell? ⟨w.heap.size, 9, none⟩ = some (.int .i64 s.yh) ∧ w10.cell? ⟨w.heap.size, 10, none⟩ = some (.slice a len cap) := ⟨(hv10.cell (p := ⟨w.heap.size, 0, none⟩) hsU).trans (HSB.out 0), (hv10.cell (p := ⟨w.heap.size, 1, none⟩) hsU).trans (HSB.out 1), (hv10.cell (p := ⟨w.heap.size, 2, none⟩) hsU).trans (HSB.out 2), (hv10.cell (p := ⟨w.heap.size, 3, none⟩) hsU).trans (HSB.out 3), (hv10.cell (p := ⟨w.heap.size, 4, none⟩) hsU).trans (HSB.out 4), (hv10.cell (p := ⟨w.heap.size, 5, none⟩) hsU).trans (HSB.out 5), (hv10.cell (p := ⟨w.heap.size, 6, none⟩) hsU).trans (HSB.out 6), (hv10.cell (p := ⟨w.heap.size, 7, none⟩) hsU).trans (HSB.out 7), (hv10.cell (p := ⟨w.heap.size, 8, none⟩) hsU).trans (HSB.out 8), (hv10.cell (p := ⟨w.heap.size, 9, none⟩) hsU).trans (HSB.out 9), (hv10.cell (p := ⟨w.heap.size, 10, none⟩) hsU).trans (HSB.out 10)⟩; obtain ⟨o0, o1, o2, o3, o4, o5, o6, o7, o8, o9, o10⟩ : w10.cell? ⟨gO, 0, none⟩ = some (.int .i64 s.P) ∧ w10.cell? ⟨gO, 1, none⟩ = some (.int .i64 s.tl) ∧ w10.cell? ⟨gO, 2, none⟩ = some (.int .i64 s.th) ∧ w10.cell? ⟨gO, 3, none⟩ = some (.int .i64 s.al) ∧ w10.cell? ⟨gO, 4, none⟩ = some (.int .i64 s.ah) ∧ w10.cell? ⟨gO, 5, none⟩ = some (.int .i64 s.room) ∧ w10.cell? ⟨gO, 6, none⟩ = some (.int .i64 s.xl) ∧ w10.cell? ⟨gO, 7, none⟩ = some (.int .i64 s.xh) ∧ w10.cell? ⟨gO, 8, none⟩ = some (.int .i64 s.yl) ∧ w10.cell? ⟨gO, 9, none⟩ = some (.int .i64 s.yh) ∧ w10.cell? ⟨gO, 10, none⟩ = some (.slice a1 len cap1) := ⟨(hv10.cell (p := ⟨gO, 0, none⟩) hgU).trans (HOB.out 0), (hv10.cell (p := ⟨gO, 1, none⟩) hgU).trans (HOB.out 1), (hv10.cell (p := ⟨gO, 2, none⟩) hgU).trans (HOB.out 2), (hv10.cell (p := ⟨gO, 3, none⟩) hgU).trans (HOB.out 3), (hv10.cell (p := ⟨gO, 4, none⟩) hgU).trans (HOB.out 4), (hv10.cell (p := ⟨gO, 5, none⟩) hgU).trans (HOB.out 5), (hv10.cell (p := ⟨gO, 6, none⟩) hgU).trans (HOB.out 6), (hv10.cell (p := ⟨gO, 7, none⟩) hgU).trans (HOB.out 7), (hv10.cell (p := ⟨gO, 8, none⟩) hgU).trans (HOB.out 8), (hv10.cell (p := ⟨gO, 9, none⟩) hgU).trans (HOB.out 9), (hv10.cell (p := ⟨gO, 10, none⟩) hgU).trans (HOB.out 10)⟩
    go_wp2_with fail
    refine (HC2.out _ _ _ _ _ (HPS.out _ hv10) (HXS.out _ hv10)).mono ?_
    rintro e w11 ⟨⟨fb, fd, rfl, hIb⟩, hb11⟩
    have hv11 := hv10.trans (hb11.mono hv10.size)
    clear x0 x1 x2 x3 x4 x5 x6 x7 x8 x9 x10 o0 o1 o2 o3 o4 o5 o6 o7 o8 o9 o10
    obtain ⟨x0, x1, x2, x3, x4, x5, x6, x7, x8, x9, x10⟩ : w11.cell? ⟨w.heap.size, 0, none⟩ = some (.int .i64 s.P) ∧ w11.cell? ⟨w.heap.size, 1, none⟩ = some (.int .i64 s.tl) ∧ w11.cell? ⟨w.heap.size, 2, none⟩ = some (.int .i64 s.th) ∧ w11.cell? ⟨w.heap.size, 3, none⟩ = some (.int .i64 s.al) ∧ w11.cell? ⟨w.heap.size, 4, none⟩ = some (.int .i64 s.ah) ∧ w11.cell? ⟨w.heap.size, 5, none⟩ = some (.int .i64 s.room) ∧ w11.cell? ⟨w.heap.size, 6, none⟩ = some (.int .i64 s.xl) ∧ w11.cell? ⟨w.heap.size, 7, none⟩ = some (.int .i64 s.xh) ∧ w11.cell? ⟨w.heap.size, 8, none⟩ = some (.int .i64 s.yl) ∧ w11.cell? ⟨w.heap.size, 9, none⟩ = some (.int .i64 s.yh) ∧ w11.cell? ⟨w.heap.size, 10, none⟩ = some (.slice a len cap) := ⟨(hv11.cell (p := ⟨w.heap.size, 0, none⟩) hsU).trans (HSB.out 0), (hv11.cell (p := ⟨w.heap.size, 1, none⟩) hsU).trans (HSB.out 1), (hv11.cell (p := ⟨w.heap.size, 2, none⟩) hsU).trans (HSB.out 2), (hv11.cell (p := ⟨w.heap.size, 3, none⟩) hsU).trans (HSB.out 3), (hv11.cell (p := ⟨w.heap.size, 4, none⟩) hsU).trans (HSB.out 4), (hv11.cell (p := ⟨w.heap.size, 5, none⟩) hsU).trans (HSB.out 5), (hv11.cell (p := ⟨w.heap.size, 6, none⟩) hsU).trans (HSB.out 6), (hv11.cell (p := ⟨w.heap.size, 7, none⟩) hsU).trans (HSB.out 7), (hv11.cell (p := ⟨w.heap.size, 8, none⟩) hsU).trans (HSB.out 8), (hv11.cell (p := ⟨w.heap.size, 9, none⟩) hsU).trans (HSB.out 9), (hv11.cell (p := ⟨w.heap.size, 10, none⟩) hsU).trans (HSB.out 10)⟩; obtain ⟨o0, o1, o2, o3, o4, o5, o6, o7, o8, o9, o10⟩ : w11.cell? ⟨gO, 0, none⟩ = some (.int .i64 s.P) ∧ w11.cell? ⟨gO, 1, none⟩ = some (.int .i64 s.tl) ∧ w11.cell? ⟨gO, 2, none⟩ = some (.int .i64 s.th) ∧ w11.cell? ⟨gO, 3, none⟩ = some (.int .i64 s.al) ∧ w11.cell? ⟨gO, 4, none⟩ = some (.int .i64 s.ah) ∧ w11.cell? ⟨gO, 5, none⟩ = some (.int .i64 s.room) ∧ w11.cell? ⟨gO, 6, none⟩ = some (.int .i64 s.xl) ∧ w11.cell? ⟨gO, 7, none⟩ = some (.int .i64 s.xh) ∧ w11.cell? ⟨gO, 8, none⟩ = some (.int .i64 s.yl) ∧ w11.cell? ⟨gO, 9, none⟩ = some (.int .i64 s.yh) ∧ w11.cell? ⟨gO, 10, none⟩ = some (.slice a1 len cap1) := ⟨(hv11.cell (p := ⟨gO, 0, none⟩) hgU).trans (HOB.out 0), (hv11.cell (p := ⟨gO, 1, none⟩) hgU).trans (HOB.out 1), (hv11.cell (p := ⟨gO, 2, none⟩) hgU).trans (HOB.out 2), (hv11.cell (p := ⟨gO, 3, none⟩) hgU).trans (HOB.out 3), (hv11.cell (p := ⟨gO, 4, none⟩) hgU).trans (HOB.out 4), (hv11.cell (p := ⟨gO, 5, none⟩) hgU).trans (HOB.out 5), (hv11.cell (p := ⟨gO, 6, none⟩) hgU).trans (HOB.out 6), (hv11.cell (p := ⟨gO, 7, none⟩) hgU).trans (HOB.out 7), (hv11.cell (p := ⟨gO, 8, none⟩) hgU).trans (HOB.out 8), (hv11.cell (p := ⟨gO, 9, none⟩) hgU).trans (HOB.out 9), (hv11.cell (p := ⟨gO, 10, none⟩) hgU).trans (HOB.out 10)⟩
    go_wp2_with fail
    refine (HD1.out _ _ _ _ _ (HPU.out _ hv11) (HIU.out _ hv11)).mono ?_
    rintro e w12 ⟨rfl, hb12⟩
    have hv12 := hv11.trans (hb12.mono hv11.size)
    clear x0 x1 x2 x3 x4 x5 x6 x7 x8 x9 x10 o0 o1 o2 o3 o4 o5 o6 o7 o8 o9 o10
    obtain ⟨x0, x1, x2, x3, x4, x5, x6, x7, x8, x9, x10⟩ : w12.cell? ⟨w.heap.size, 0, none⟩ = some (.int .i64 s.P) ∧ w12.cell? ⟨w.heap.size, 1, none⟩ = some (.int .i64 s.tl) ∧ w12.cell? ⟨w.heap.size, 2, none⟩ = some (.int .i64 s.th) ∧ w12.cell? ⟨w.heap.size, 3, none⟩ = some (.int .i64 s.al) ∧ w12.cell? ⟨w.heap.size, 4, none⟩ = some (.int .i64 s.ah) ∧ w12.cell? ⟨w.heap.size, 5, none⟩ = some (.int .i64 s.room) ∧ w12.cell? ⟨w.heap.size, 6, none⟩ = some (.int .i64 s.xl) ∧ w12.cell? ⟨w.heap.size, 7, none⟩ = some (.int .i64 s.xh) ∧ w12.cell? ⟨w.heap.size, 8, none⟩ = some (.int .i64 s.yl) ∧ w12.cell? ⟨w.heap.size, 9, none⟩ = some (.int .i64 s.yh) ∧ w12.cell? ⟨w.heap.size, 10, none⟩ = some (.slice a len cap) := ⟨(hv12.cell (p := ⟨w.heap.size, 0, none⟩) hsU).trans (HSB.out 0), (hv12.cell (p := ⟨w.heap.size, 1, none⟩) hsU).trans (HSB.out 1), (hv12.cell (p := ⟨w.heap.size, 2, none⟩) hsU).trans (HSB.out 2), (hv12.cell (p := ⟨w.heap.size, 3, none⟩) hsU).trans (HSB.out 3), (hv12.cell (p := ⟨w.heap.size, 4, none⟩) hsU).trans (HSB.out 4), (hv12.cell (p := ⟨w.heap.size, 5, none⟩) hsU).trans (HSB.out 5), (hv12.cell (p := ⟨w.heap.size, 6, none⟩) hsU).trans (HSB.out 6), (hv12.cell (p := ⟨w.heap.size, 7, none⟩) hsU).trans (HSB.out 7), (hv12.cell (p := ⟨w.heap.size, 8, none⟩) hsU).trans (HSB.out 8), (hv12.cell (p := ⟨w.heap.size, 9, none⟩) hsU).trans (HSB.out 9), (hv12.cell (p := ⟨w.heap.size, 10, none⟩) hsU).trans (HSB.out 10)⟩; obtain ⟨o0, o1, o2, o3, o4, o5, o6, o7, o8, o9, o10⟩ : w12.cell? ⟨gO, 0, none⟩ = some (.int .i64 s.P) ∧ w12.cell? ⟨gO, 1, none⟩ = some (.int .i64 s.tl) ∧ w12.cell? ⟨gO, 2, none⟩ = some (.int .i64 s.th) ∧ w12.cell? ⟨gO, 3, none⟩ = some (.int .i64 s.al) ∧ w12.cell? ⟨gO, 4, none⟩ = some (.int .i64 s.ah) ∧ w12.cell? ⟨gO, 5, none⟩ = some (.int .i64 s.room) ∧ w12.cell? ⟨gO, 6, none⟩ = some (.int .i64 s.xl) ∧ w12.cell? ⟨gO, 7, none⟩ = some (.int .i64 s.xh) ∧ w12.cell? ⟨gO, 8, none⟩ = some (.int .i64 s.yl) ∧ w12.cell? ⟨gO, 9, none⟩ = some (.int .i64 s.yh) ∧ w12.cell? ⟨gO, 10, none⟩ = some (.slice a1 len cap1) := ⟨(hv12.cell (p := ⟨gO, 0, none⟩) hgU).trans (HOB.out 0), (hv12.cell (p := ⟨gO, 1, none⟩) hgU).trans (HOB.out 1), (hv12.cell (p := ⟨gO, 2, none⟩) hgU).trans (HOB.out 2), (hv12.cell (p := ⟨gO, 3, none⟩) hgU).trans (HOB.out 3), (hv12.cell (p := ⟨gO, 4, none⟩) hgU).trans (HOB.out 4), (hv12.cell (p := ⟨gO, 5, none⟩) hgU).trans (HOB.out 5), (hv12.cell (p := ⟨gO, 6, none⟩) hgU).trans (HOB.out 6), (hv12.cell (p := ⟨gO, 7, none⟩) hgU).trans (HOB.out 7), (hv12.cell (p := ⟨gO, 8, none⟩) hgU).trans (HOB.out 8), (hv12.cell (p := ⟨gO, 9, none⟩) hgU).trans (HOB.out 9), (hv12.cell (p := ⟨gO, 10, none⟩) hgU).trans (HOB.out 10)⟩
    have s12 : w.heap.size < w12.heap.size := Nat.lt_of_lt_of_le hsU hv12.size
    go_wp2_with fail
    have hIa12 : IntsAt w12 fa fl.length fl := (hIa.below hb11).below hb12
    have hIb12 : IntsAt w12 fb fl.length fl := hIb.below hb12
    have hv12c : Below U.heap.size U (w12.alloc (.cells #[.int .i64 lo, .int .i64 hi] 23)) := hv12.alloc hv12.size _
    refine (HD2.out _ _ _ _ _ (HPS.out _ hv12c) (HXS.out _ hv12c)).mono ?_
    rintro e w13 ⟨rfl, hb13⟩
    have hv13 := hv12c.trans (hb13.mono hv12c.size)
    have hb13s := hb13.size
    simp at hb13s
    have hl13 : Below w12.heap.size w12 w13 := ((Below.refl _ _).alloc (Nat.le_refl _) _).trans (hb13.mono (by simp))
    have c0 : w13.cell? ⟨w12.heap.size, 0, none⟩ = some (.int .i64 lo) := (hb13.cell (p := ⟨w12.heap.size, 0, none⟩) (by simp)).trans (World.cell?_alloc_new w12 _ _ 0)
    have c1 : w13.cell? ⟨w12.heap.size, 1, none⟩ = some (.int .i64 hi) := (hb13.cell (p := ⟨w12.heap.size, 1, none⟩) (by simp)).trans (World.cell?_alloc_new w12 _ _ 1)
    have hIa13 := hIa12.below hl13
    have hIb13 := hIb12.below hl13
    clear x0 x1 x2 x3 x4 x5 x6 x7 x8 x9 x10 o0 o1 o2 o3 o4 o5 o6 o7 o8 o9 o10
    obtain ⟨x0, x1, x2, x3, x4, x5, x6, x7, x8, x9, x10⟩ : w13.cell? ⟨w.heap.size, 0, none⟩ = some (.int .i64 s.P) ∧ w13.cell? ⟨w.heap.size, 1, none⟩ = some (.int .i64 s.tl) ∧ w13.cell? ⟨w.heap.size, 2, none⟩ = some (.int .i64 s.th) ∧ w13.cell? ⟨w.heap.size, 3, none⟩ = some (.int .i64 s.al) ∧ w13.cell? ⟨w.heap.size, 4, none⟩ = some (.int .i64 s.ah) ∧ w13.cell? ⟨w.heap.size, 5, none⟩ = some (.int .i64 s.room) ∧ w13.cell? ⟨w.heap.size, 6, none⟩ = some (.int .i64 s.xl) ∧ w13.cell? ⟨w.heap.size, 7, none⟩ = some (.int .i64 s.xh) ∧ w13.cell? ⟨w.heap.size, 8, none⟩ = some (.int .i64 s.yl) ∧ w13.cell? ⟨w.heap.size, 9, none⟩ = some (.int .i64 s.yh) ∧ w13.cell? ⟨w.heap.size, 10, none⟩ = some (.slice a len cap) := ⟨(hv13.cell (p := ⟨w.heap.size, 0, none⟩) hsU).trans (HSB.out 0), (hv13.cell (p := ⟨w.heap.size, 1, none⟩) hsU).trans (HSB.out 1), (hv13.cell (p := ⟨w.heap.size, 2, none⟩) hsU).trans (HSB.out 2), (hv13.cell (p := ⟨w.heap.size, 3, none⟩) hsU).trans (HSB.out 3), (hv13.cell (p := ⟨w.heap.size, 4, none⟩) hsU).trans (HSB.out 4), (hv13.cell (p := ⟨w.heap.size, 5, none⟩) hsU).trans (HSB.out 5), (hv13.cell (p := ⟨w.heap.size, 6, none⟩) hsU).trans (HSB.out 6), (hv13.cell (p := ⟨w.heap.size, 7, none⟩) hsU).trans (HSB.out 7), (hv13.cell (p := ⟨w.heap.size, 8, none⟩) hsU).trans (HSB.out 8), (hv13.cell (p := ⟨w.heap.size, 9, none⟩) hsU).trans (HSB.out 9), (hv13.cell (p := ⟨w.heap.size, 10, none⟩) hsU).trans (HSB.out 10)⟩; obtain ⟨o0, o1, o2, o3, o4, o5, o6, o7, o8, o9, o10⟩ : w13.cell? ⟨gO, 0, none⟩ = some (.int .i64 s.P) ∧ w13.cell? ⟨gO, 1, none⟩ = some (.int .i64 s.tl) ∧ w13.cell? ⟨gO, 2, none⟩ = some (.int .i64 s.th) ∧ w13.cell? ⟨gO, 3, none⟩ = some (.int .i64 s.al) ∧ w13.cell? ⟨gO, 4, none⟩ = some (.int .i64 s.ah) ∧ w13.cell? ⟨gO, 5, none⟩ = some (.int .i64 s.room) ∧ w13.cell? ⟨gO, 6, none⟩ = some (.int .i64 s.xl) ∧ w13.cell? ⟨gO, 7, none⟩ = some (.int .i64 s.xh) ∧ w13.cell? ⟨gO, 8, none⟩ = some (.int .i64 s.yl) ∧ w13.cell? ⟨gO, 9, none⟩ = some (.int .i64 s.yh) ∧ w13.cell? ⟨gO, 10, none⟩ = some (.slice a1 len cap1) := ⟨(hv13.cell (p := ⟨gO, 0, none⟩) hgU).trans (HOB.out 0), (hv13.cell (p := ⟨gO, 1, none⟩) hgU).trans (HOB.out 1), (hv13.cell (p := ⟨gO, 2, none⟩) hgU).trans (HOB.out 2), (hv13.cell (p := ⟨gO, 3, none⟩) hgU).trans (HOB.out 3), (hv13.cell (p := ⟨gO, 4, none⟩) hgU).trans (HOB.out 4), (hv13.cell (p := ⟨gO, 5, none⟩) hgU).trans (HOB.out 5), (hv13.cell (p := ⟨gO, 6, none⟩) hgU).trans (HOB.out 6), (hv13.cell (p := ⟨gO, 7, none⟩) hgU).trans (HOB.out 7), (hv13.cell (p := ⟨gO, 8, none⟩) hgU).trans (HOB.out 8), (hv13.cell (p := ⟨gO, 9, none⟩) hgU).trans (HOB.out 9), (hv13.cell (p := ⟨gO, 10, none⟩) hgU).trans (HOB.out 10)⟩
    clear hb8 hb9 hb10 hb11 hb12 hb13 hv8 hv9 hv10 hv11 hv12 hIa hIb hIa12 hIb12
    go_wp2_with fail
    have hv13d : Below U.heap.size U (w13.alloc (.cells #[.int .i64 lo, .int .i64 hi] 23)) := hv13.alloc hv13.size _
    have hd13 : Below w13.heap.size w13 (w13.alloc (.cells #[.int .i64 lo, .int .i64 hi] 23)) := (Below.refl _ _).alloc (Nat.le_refl _) _
    refine (SameInts_yes _ _ _ _ _ _ fl _ (hIa13.below hd13) (hIb13.below hd13)).mono ?_
    rintro e w14 ⟨rfl, hb14⟩
    have hv14 := hv13d.trans (hb14.mono hv13d.size)
    have hd14 : Below w13.heap.size w13 w14 := hd13.trans (hb14.mono (by simp))
    have d0 : w14.cell? ⟨w13.heap.size, 0, none⟩ = some (.int .i64 lo) := (hb14.cell (p := ⟨w13.heap.size, 0, none⟩) (by simp)).trans (World.cell?_alloc_new w13 _ _ 0)
    have d1 : w14.cell? ⟨w13.heap.size, 1, none⟩ = some (.int .i64 hi) := (hb14.cell (p := ⟨w13.heap.size, 1, none⟩) (by simp)).trans (World.cell?_alloc_new w13 _ _ 1)
    have l12 : w12.heap.size < w13.heap.size := by have h := hb13s; omega
    have e0 := (hd14.cell (p := ⟨w12.heap.size, 0, none⟩) l12).trans c0
    have e1 := (hd14.cell (p := ⟨w12.heap.size, 1, none⟩) l12).trans c1
    clear x0 x1 x2 x3 x4 x5 x6 x7 x8 x9 x10 o0 o1 o2 o3 o4 o5 o6 o7 o8 o9 o10
    clear hb14 hd14 hd13 hv13d hIa13 hIb13 c0 c1 hb13s
    obtain ⟨x0, x1, x2, x3, x4, x5, x6, x7, x8, x9, x10⟩ : w14.cell? ⟨w.heap.size, 0, none⟩ = some (.int .i64 s.P) ∧ w14.cell? ⟨w.heap.size, 1, none⟩ = some (.int .i64 s.tl) ∧ w14.cell? ⟨w.heap.size, 2, none⟩ = some (.int .i64 s.th) ∧ w14.cell? ⟨w.heap.size, 3, none⟩ = some (.int .i64 s.al) ∧ w14.cell? ⟨w.heap.size, 4, none⟩ = some (.int .i64 s.ah) ∧ w14.cell? ⟨w.heap.size, 5, none⟩ = some (.int .i64 s.room) ∧ w14.cell? ⟨w.heap.size, 6, none⟩ = some (.int .i64 s.xl) ∧ w14.cell? ⟨w.heap.size, 7, none⟩ = some (.int .i64 s.xh) ∧ w14.cell? ⟨w.heap.size, 8, none⟩ = some (.int .i64 s.yl) ∧ w14.cell? ⟨w.heap.size, 9, none⟩ = some (.int .i64 s.yh) ∧ w14.cell? ⟨w.heap.size, 10, none⟩ = some (.slice a len cap) := ⟨(hv14.cell (p := ⟨w.heap.size, 0, none⟩) hsU).trans (HSB.out 0), (hv14.cell (p := ⟨w.heap.size, 1, none⟩) hsU).trans (HSB.out 1), (hv14.cell (p := ⟨w.heap.size, 2, none⟩) hsU).trans (HSB.out 2), (hv14.cell (p := ⟨w.heap.size, 3, none⟩) hsU).trans (HSB.out 3), (hv14.cell (p := ⟨w.heap.size, 4, none⟩) hsU).trans (HSB.out 4), (hv14.cell (p := ⟨w.heap.size, 5, none⟩) hsU).trans (HSB.out 5), (hv14.cell (p := ⟨w.heap.size, 6, none⟩) hsU).trans (HSB.out 6), (hv14.cell (p := ⟨w.heap.size, 7, none⟩) hsU).trans (HSB.out 7), (hv14.cell (p := ⟨w.heap.size, 8, none⟩) hsU).trans (HSB.out 8), (hv14.cell (p := ⟨w.heap.size, 9, none⟩) hsU).trans (HSB.out 9), (hv14.cell (p := ⟨w.heap.size, 10, none⟩) hsU).trans (HSB.out 10)⟩; obtain ⟨o0, o1, o2, o3, o4, o5, o6, o7, o8, o9, o10⟩ : w14.cell? ⟨gO, 0, none⟩ = some (.int .i64 s.P) ∧ w14.cell? ⟨gO, 1, none⟩ = some (.int .i64 s.tl) ∧ w14.cell? ⟨gO, 2, none⟩ = some (.int .i64 s.th) ∧ w14.cell? ⟨gO, 3, none⟩ = some (.int .i64 s.al) ∧ w14.cell? ⟨gO, 4, none⟩ = some (.int .i64 s.ah) ∧ w14.cell? ⟨gO, 5, none⟩ = some (.int .i64 s.room) ∧ w14.cell? ⟨gO, 6, none⟩ = some (.int .i64 s.xl) ∧ w14.cell? ⟨gO, 7, none⟩ = some (.int .i64 s.xh) ∧ w14.cell? ⟨gO, 8, none⟩ = some (.int .i64 s.yl) ∧ w14.cell? ⟨gO, 9, none⟩ = some (.int .i64 s.yh) ∧ w14.cell? ⟨gO, 10, none⟩ = some (.slice a1 len cap1) := ⟨(hv14.cell (p := ⟨gO, 0, none⟩) hgU).trans (HOB.out 0), (hv14.cell (p := ⟨gO, 1, none⟩) hgU).trans (HOB.out 1), (hv14.cell (p := ⟨gO, 2, none⟩) hgU).trans (HOB.out 2), (hv14.cell (p := ⟨gO, 3, none⟩) hgU).trans (HOB.out 3), (hv14.cell (p := ⟨gO, 4, none⟩) hgU).trans (HOB.out 4), (hv14.cell (p := ⟨gO, 5, none⟩) hgU).trans (HOB.out 5), (hv14.cell (p := ⟨gO, 6, none⟩) hgU).trans (HOB.out 6), (hv14.cell (p := ⟨gO, 7, none⟩) hgU).trans (HOB.out 7), (hv14.cell (p := ⟨gO, 8, none⟩) hgU).trans (HOB.out 8), (hv14.cell (p := ⟨gO, 9, none⟩) hgU).trans (HOB.out 9), (hv14.cell (p := ⟨gO, 10, none⟩) hgU).trans (HOB.out 10)⟩
    go_wp2_with fail
    refine (Same_yes s a1 a len cap1 cap w14 (HPU.out _ hv14) (HPS.out _ hv14)).mono ?_
    rintro e w15 ⟨rfl, hb15⟩
    have hv15 := hv14.trans (hb15.mono hv14.size)
    clear hb15
    go_wp2_with fail
    refine (SameInts_yes _ _ _ _ _ _ ns _ (HIU.out _ hv15) (HXS.out _ hv15)).mono ?_
    rintro e w16 ⟨rfl, hb16⟩
    have hv16 := hv15.trans (hb16.mono hv15.size)
    clear hb16
    go_wp2_with fail
    refine (HW.out _).mono ?_
    rintro e w17 ⟨rfl, hb17⟩
    have hv17 := HWU.out.trans ((hv16.trans (hb17.mono hv16.size)).mono HWU.out.size)
    clear hb17
    go_wp2_with fail
    go_ret
    exact ⟨rfl, hv17⟩

set_option maxRecDepth 100000 in
set_option maxHeartbeats 1000000 in
theorem safe_huge (s : Shop) (a : Option Addr) (len cap : Nat) (x : Option Addr) (xlen xcap : Nat) (w : World) (h40 : 40 < len) :
    Calls Try.prog 3 #[.agg #[.int .i64 s.P, .int .i64 s.tl, .int .i64 s.th, .int .i64 s.al, .int .i64 s.ah, .int .i64 s.room, .int .i64 s.xl, .int .i64 s.xh, .int .i64 s.yl, .int .i64 s.yh, .slice a len cap], .slice x xlen xcap] w fun e w' => e = .returned (.bool true) ∧ Below w.heap.size w w' := by
  have HH := Lib.hid (fun w1 => Huge_is s a len cap true (decide_eq_true (by omega)) w1)
  have HW := Lib.hid (fun w1 => works_any w1)
  clear h40
  go_enter Try.func3, Try.ntmps3
  go_wp2_with fail
  refine (HH.out _).mono ?_; rintro e w1 ⟨rfl, hb1⟩; obtain ⟨hc1, hf1⟩ := bcell hb1; have hz1 := hb1.size; (try simp at hz1); have hw1 := ((by repeat (first | assumption | exact Below.refl _ _ | (refine Below.alloc ?_ (by first | omega | (simp; omega) | simp) _) | (refine Below.setCell ?_ (by first | omega | (simp; omega) | simp) _) | refine Below.drew ?_)) : Below w.heap.size w _).trans (hb1.mono (by first | (simp; done) | (simp; omega) | omega)); clear hb1; have p1 : w.heap.size < w1.heap.size := (by omega); go_wp2_with fail
  refine (HW.out _).mono ?_
  rintro e w2 ⟨rfl, hb2⟩
  have hw2 := hw1.trans (hb2.mono hw1.size)
  clear hb2
  go_wp2_with fail
  go_ret
  exact ⟨rfl, hw2⟩
set_option maxRecDepth 100000 in
set_option maxHeartbeats 1000000 in
theorem safe_long (s : Shop) (a : Option Addr) (len cap : Nat) (x : Option Addr) (xlen xcap : Nat) (w : World) (h40 : len ≤ 40) (hx40 : 40 < xlen) :
    Calls Try.prog 3 #[.agg #[.int .i64 s.P, .int .i64 s.tl, .int .i64 s.th, .int .i64 s.al, .int .i64 s.ah, .int .i64 s.room, .int .i64 s.xl, .int .i64 s.xh, .int .i64 s.yl, .int .i64 s.yh, .slice a len cap], .slice x xlen xcap] w fun e w' => e = .returned (.bool true) ∧ Below w.heap.size w w' := by
  have HH := Lib.hid (fun w1 => Huge_is s a len cap false (decide_eq_false (by omega)) w1)
  have HW := Lib.hid (fun w1 => works_any w1)
  have hgt : (40 : Int) < (xlen : Int) := by omega
  clear h40 hx40
  go_enter Try.func3, Try.ntmps3
  go_wp2_with fail
  refine (HH.out _).mono ?_; rintro e w1 ⟨rfl, hb1⟩; obtain ⟨hc1, hf1⟩ := bcell hb1; have hz1 := hb1.size; (try simp at hz1); have hw1 := ((by repeat (first | assumption | exact Below.refl _ _ | (refine Below.alloc ?_ (by first | omega | (simp; omega) | simp) _) | (refine Below.setCell ?_ (by first | omega | (simp; omega) | simp) _) | refine Below.drew ?_)) : Below w.heap.size w _).trans (hb1.mono (by first | (simp; done) | (simp; omega) | omega)); clear hb1; have p1 : w.heap.size < w1.heap.size := (by omega); go_wp2_with fail
  refine (HW.out _).mono ?_
  rintro e w2 ⟨rfl, hb2⟩
  have hw2 := hw1.trans (hb2.mono hw1.size)
  clear hb2
  go_wp2_with fail
  go_ret
  exact ⟨rfl, hw2⟩

theorem metalSafe_any (s : Shop) (a : Option Addr) (len cap : Nat) (x : Option Addr) (xlen xcap : Nat) (ns : List Int) (w : World) (hp : PigsAt w a len s.pigs) (hx : IntsAt w x xlen ns) :
    Calls Try.prog 3 #[.agg #[.int .i64 s.P, .int .i64 s.tl, .int .i64 s.th, .int .i64 s.al, .int .i64 s.ah, .int .i64 s.room, .int .i64 s.xl, .int .i64 s.xh, .int .i64 s.yl, .int .i64 s.yh, .slice a len cap], .slice x xlen xcap] w fun e w' => e = .returned (.bool true) ∧ Below w.heap.size w w' := by
  rcases Nat.lt_or_ge 40 len with h40 | h40
  · exact safe_huge s a len cap x xlen xcap w h40
  rcases Nat.lt_or_ge 40 xlen with hx40 | hx40
  · exact safe_long s a len cap x xlen xcap w h40 hx40
  by_cases hv : s.code ns = 0
  · obtain ⟨lo, hi, f, hres⟩ : ∃ lo hi f, s.leadsOf ns = (lo, hi, f) := ⟨_, _, _, rfl⟩
    have h4 : (s.bad ns [1, 2, 3, 4]).length ≤ 4 := List.length_filter_le _ _
    have hC : ∀ {f : FuncId}, (∀ (a : Option Addr) (cap : Nat) (x : Option Addr) (xcap : Nat) (w : World), PigsAt w a len s.pigs → IntsAt w x xlen ns → Calls Try.prog f #[.agg #[.int .i64 s.P, .int .i64 s.tl, .int .i64 s.th, .int .i64 s.al, .int .i64 s.ah, .int .i64 s.room, .int .i64 s.xl, .int .i64 s.xh, .int .i64 s.yl, .int .i64 s.yh, .slice a len cap], .slice x xlen xcap] w fun e w' => ∃ v, e = .returned (.tuple #[v, .int .i64 0]) ∧ w'.ownsRow w.heap.size 3 1 v (s.bad ns [1, 2, 3, 4]).length ((s.bad ns [1, 2, 3, 4]).map (Value.int .i64)) ∧ Below w.heap.size w w') → SaysL f s len xlen ns (s.bad ns [1, 2, 3, 4]) 0 := by
      intro f h a cap x xcap w hp hx
      refine (h a cap x xcap w hp hx).mono ?_
      rintro e w' ⟨v, rfl, hown, hb⟩
      obtain ⟨fa, fc, rfl, hi⟩ := row_ints hown (by unfold maxLen; omega)
      exact ⟨⟨fa, fc, rfl, hi⟩, hb⟩
    refine safe_walk s a len cap x xlen xcap ns w hp hx h40 hx40 (s.P + tot Pig.P s.pigs ns) (s.tl + tot Pig.t s.pigs ns) (s.th + tot Pig.t s.pigs ns) (s.al + tot Pig.a s.pigs ns) (s.ah + tot Pig.a s.pigs ns) 0 (s.safeOf ns) (if f then lo else 0) (if f then hi else 0) (if f then 0 else 3) (s.bad ns [1, 2, 3, 4])
      (fun a cap x xcap w hp hx => After_yes s a len cap x xlen xcap ns w hp hx hv) (fun a cap x xcap w hp hx => refAfter_yes s a len cap x xlen xcap ns w hp hx hv)
      (fun a cap x xcap w hp hx => Safe_yes s a len cap x xlen xcap ns w hp hx hv) (fun a cap x xcap w hp hx => refSafe_yes s a len cap x xlen xcap ns w hp hx hv)
      (hC fun a cap x xcap w hp hx => (Fails_yes s a len cap x xlen xcap ns w hp hx hv).mono fun e w' ⟨v, h1, h2, _, h3⟩ => ⟨v, h1, h2, h3⟩) (hC fun a cap x xcap w hp hx => refFails_yes s a len cap x xlen xcap ns w hp hx hv)
      (fun a cap x xcap w hp hx => ?_) (fun a cap x xcap w hp hx => ?_)
    · have h := Lead_yes s a len cap x xlen xcap ns w hp hx hv lo hi f hres
      cases f <;> exact h
    · have h := refLead_yes s a len cap x xlen xcap ns w hp hx hv lo hi f hres
      cases f <;> exact h
  · obtain ⟨v, hvv⟩ : ∃ v, s.code ns = v := ⟨_, rfl⟩
    have hno : v ≠ 0 := fun e => hv (hvv.trans e)
    have hC : ∀ {f : FuncId}, (∀ (a : Option Addr) (cap : Nat) (x : Option Addr) (xcap : Nat) (w : World), PigsAt w a len s.pigs → IntsAt w x xlen ns → Calls Try.prog f #[.agg #[.int .i64 s.P, .int .i64 s.tl, .int .i64 s.th, .int .i64 s.al, .int .i64 s.ah, .int .i64 s.room, .int .i64 s.xl, .int .i64 s.xh, .int .i64 s.yl, .int .i64 s.yh, .slice a len cap], .slice x xlen xcap] w fun e w' => e = .returned (.tuple #[.slice none 0 0, .int .i64 v]) ∧ Below w.heap.size w w') → SaysL f s len xlen ns [] v := by
      intro f h a cap x xcap w hp hx
      refine (h a cap x xcap w hp hx).mono ?_
      rintro e w' ⟨rfl, hb⟩
      exact ⟨⟨none, 0, rfl, rfl, by decide, fun h => by simp at h⟩, hb⟩
    exact safe_walk s a len cap x xlen xcap ns w hp hx h40 hx40 0 0 0 0 0 v 0 0 0 v []
      (fun a cap x xcap w hp hx => After_no s a len cap x xlen xcap ns w hp hx v hvv hno) (fun a cap x xcap w hp hx => refAfter_no s a len cap x xlen xcap ns w hp hx v hvv hno)
      (fun a cap x xcap w hp hx => Safe_no s a len cap x xlen xcap ns w hp hx v hvv hno) (fun a cap x xcap w hp hx => refSafe_no s a len cap x xlen xcap ns w hp hx v hvv hno)
      (hC fun a cap x xcap w hp hx => Fails_no s a len cap x xlen xcap ns w hp hx v hvv hno) (hC fun a cap x xcap w hp hx => refFails_no s a len cap x xlen xcap ns w hp hx v hvv hno)
      (fun a cap x xcap w hp hx => Lead_no s a len cap x xlen xcap ns w hp hx v hvv hno) (fun a cap x xcap w hp hx => refLead_no s a len cap x xlen xcap ns w hp hx v hvv hno)
end Go.Proofs.Ytajabapcmpmboaa
