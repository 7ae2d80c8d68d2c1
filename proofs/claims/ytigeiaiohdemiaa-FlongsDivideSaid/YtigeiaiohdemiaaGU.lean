/- FlongsHolds: the walk. -/
import Derived.Test.YtigeiaiohdemiaaGT
import Derived.Test.YtigeiaiohdemiaaGK
namespace Go.Proofs.Ytigeiaiohdemiaa
set_option linter.unusedVariables false
set_option linter.unusedSimpArgs false
open Go.RowKit

def FShop.holdsN (s : FShop) (x : List Int) : Int := if s.ask (sharesB s.moulds x) = 0 then holdsR (holdN s.left x) s.left.length else 0
def FShop.chanceP (s : FShop) (x : List Int) : Int := if s.ask (sharesB s.moulds x) = 0 then ((holdN s.left x / Nat.gcd (holdN s.left x) s.left.length : Nat) : Int) else 0
def FShop.chanceQ (s : FShop) (x : List Int) : Int := if s.ask (sharesB s.moulds x) = 0 then ((s.left.length / Nat.gcd (holdN s.left x) s.left.length : Nat) : Int) else 0
def FShop.failsL (s : FShop) (x : List Int) : List Int := if s.ask (sharesB s.moulds x) = 0 then failsOf (loOf s.left) x else []
theorem Chance_yes2 (s : FShop) (ma : Option Addr) (ml mc : Nat) (wa : Option Addr) (wl wc : Nat) (na : Option Addr) (nl nc : Nat) (xa : Option Addr) (xl xc : Nat) (x : List Int) (w : World) (hp : FAt w ma ml mc wa wl wc na nl nc s) (hx : IntsAt w xa xl x) (ho : s.ok = true) (hsh : sharesB s.moulds x = true) (hl0 : 0 < s.left.length) :
    Calls Try.prog 44 #[.agg #[.slice ma ml mc, .slice wa wl wc, .slice na nl nc, .int .i64 s.fresh], .slice xa xl xc] w fun e w' => e = .returned (.tuple #[.agg #[.int .i64 ((holdN s.left x / Nat.gcd (holdN s.left x) s.left.length : Nat) : Int), .int .i64 ((s.left.length / Nat.gcd (holdN s.left x) s.left.length : Nat) : Int)], .int .i64 0]) ∧ Below w.heap.size w w' :=
  Chance_yes s ma ml mc wa wl wc na nl nc xa xl xc x w hp hx ho hsh hl0 _ _ _ rfl rfl rfl
theorem Chance_all (s : FShop) (ma : Option Addr) (ml mc : Nat) (wa : Option Addr) (wl wc : Nat) (na : Option Addr) (nl nc : Nat) (xa : Option Addr) (xl xc : Nat) (x : List Int) (a b e0 : Int) (h1 : s.chanceP x = a) (h2 : s.chanceQ x = b) (h3 : s.ask (sharesB s.moulds x) = e0) (w : World) (hp : FAt w ma ml mc wa wl wc na nl nc s) (hx : IntsAt w xa xl x) :
    Calls Try.prog 44 #[.agg #[.slice ma ml mc, .slice wa wl wc, .slice na nl nc, .int .i64 s.fresh], .slice xa xl xc] w fun e w' => e = .returned (.tuple #[.agg #[.int .i64 a, .int .i64 b], .int .i64 e0]) ∧ Below w.heap.size w w' := by
  subst h1 h2 h3
  unfold FShop.chanceP FShop.chanceQ
  by_cases h0 : s.ask (sharesB s.moulds x) = 0
  · obtain ⟨ho, hr, hl0⟩ := ask_zero h0
    rw [if_pos h0, if_pos h0, h0]
    exact Chance_yes2 s ma ml mc wa wl wc na nl nc xa xl xc x w hp hx ho hr hl0
  · rw [if_neg h0, if_neg h0]
    exact Chance_no s ma ml mc wa wl wc na nl nc xa xl xc x _ rfl h0 w hp hx
theorem refChance_all (s : FShop) (ma : Option Addr) (ml mc : Nat) (wa : Option Addr) (wl wc : Nat) (na : Option Addr) (nl nc : Nat) (xa : Option Addr) (xl xc : Nat) (x : List Int) (a b e0 : Int) (h1 : s.chanceP x = a) (h2 : s.chanceQ x = b) (h3 : s.ask (sharesB s.moulds x) = e0) (w : World) (hp : FAt w ma ml mc wa wl wc na nl nc s) (hx : IntsAt w xa xl x) :
    Calls Try.prog 64 #[.agg #[.slice ma ml mc, .slice wa wl wc, .slice na nl nc, .int .i64 s.fresh], .slice xa xl xc] w fun e w' => e = .returned (.tuple #[.agg #[.int .i64 a, .int .i64 b], .int .i64 e0]) ∧ Below w.heap.size w w' := by
  subst h1 h2 h3
  unfold FShop.chanceP FShop.chanceQ
  by_cases h0 : s.ask (sharesB s.moulds x) = 0
  · obtain ⟨ho, hr, hl0⟩ := ask_zero h0
    rw [if_pos h0, if_pos h0, h0]
    exact refChance_yes s ma ml mc wa wl wc na nl nc xa xl xc x w hp hx ho hr hl0
  · rw [if_neg h0, if_neg h0]
    exact refChance_no s ma ml mc wa wl wc na nl nc xa xl xc x _ rfl h0 w hp hx
theorem Holds_all (s : FShop) (ma : Option Addr) (ml mc : Nat) (wa : Option Addr) (wl wc : Nat) (na : Option Addr) (nl nc : Nat) (xa : Option Addr) (xl xc : Nat) (x : List Int) (a e0 : Int) (h1 : s.holdsN x = a) (h3 : s.ask (sharesB s.moulds x) = e0) (w : World) (hp : FAt w ma ml mc wa wl wc na nl nc s) (hx : IntsAt w xa xl x) :
    Calls Try.prog 24 #[.agg #[.slice ma ml mc, .slice wa wl wc, .slice na nl nc, .int .i64 s.fresh], .slice xa xl xc] w fun e w' => e = .returned (.tuple #[.int .i64 a, .int .i64 e0]) ∧ Below w.heap.size w w' := by
  subst h1 h3
  unfold FShop.holdsN
  by_cases h0 : s.ask (sharesB s.moulds x) = 0
  · obtain ⟨ho, hr, hl0⟩ := ask_zero h0
    rw [if_pos h0, h0]
    exact Holds_yes s ma ml mc wa wl wc na nl nc xa xl xc x w hp hx ho hr hl0
  · rw [if_neg h0]
    exact Holds_no s ma ml mc wa wl wc na nl nc xa xl xc x _ rfl h0 w hp hx
theorem refHolds_all (s : FShop) (ma : Option Addr) (ml mc : Nat) (wa : Option Addr) (wl wc : Nat) (na : Option Addr) (nl nc : Nat) (xa : Option Addr) (xl xc : Nat) (x : List Int) (a e0 : Int) (h1 : s.holdsN x = a) (h3 : s.ask (sharesB s.moulds x) = e0) (w : World) (hp : FAt w ma ml mc wa wl wc na nl nc s) (hx : IntsAt w xa xl x) :
    Calls Try.prog 63 #[.agg #[.slice ma ml mc, .slice wa wl wc, .slice na nl nc, .int .i64 s.fresh], .slice xa xl xc] w fun e w' => e = .returned (.tuple #[.int .i64 a, .int .i64 e0]) ∧ Below w.heap.size w w' := by
  subst h1 h3
  unfold FShop.holdsN
  by_cases h0 : s.ask (sharesB s.moulds x) = 0
  · obtain ⟨ho, hr, hl0⟩ := ask_zero h0
    rw [if_pos h0, h0]
    exact refHolds_yes s ma ml mc wa wl wc na nl nc xa xl xc x w hp hx ho hr hl0
  · rw [if_neg h0]
    exact refHolds_no s ma ml mc wa wl wc na nl nc xa xl xc x _ rfl h0 w hp hx
theorem Fails_all (s : FShop) (ma : Option Addr) (ml mc : Nat) (wa : Option Addr) (wl wc : Nat) (na : Option Addr) (nl nc : Nat) (xa : Option Addr) (xl xc : Nat) (x fl : List Int) (e0 : Int) (h1 : s.failsL x = fl) (h3 : s.ask (sharesB s.moulds x) = e0) (w : World) (hp : FAt w ma ml mc wa wl wc na nl nc s) (hx : IntsAt w xa xl x) :
    Calls Try.prog 25 #[.agg #[.slice ma ml mc, .slice wa wl wc, .slice na nl nc, .int .i64 s.fresh], .slice xa xl xc] w fun e w' => (∃ a len c, e = .returned (.tuple #[.slice a len c, .int .i64 e0]) ∧ IntsAt w' a len fl) ∧ Below w.heap.size w w' := by
  subst h1 h3
  unfold FShop.failsL
  by_cases h0 : s.ask (sharesB s.moulds x) = 0
  · obtain ⟨ho, hr, hl0⟩ := ask_zero h0
    rw [if_pos h0, h0]
    refine (Fails_yes s ma ml mc wa wl wc na nl nc xa xl xc x w hp hx ho hr hl0).mono ?_
    rintro e w' ⟨a, c, rfl, hi, hb⟩
    exact ⟨⟨a, _, c, rfl, hi⟩, hb⟩
  · rw [if_neg h0]
    refine (Fails_no s ma ml mc wa wl wc na nl nc xa xl xc x _ rfl h0 w hp hx).mono ?_
    rintro e w' ⟨rfl, hb⟩
    exact ⟨⟨none, 0, 0, rfl, ints_nil w'⟩, hb⟩
theorem refFails_all (s : FShop) (ma : Option Addr) (ml mc : Nat) (wa : Option Addr) (wl wc : Nat) (na : Option Addr) (nl nc : Nat) (xa : Option Addr) (xl xc : Nat) (x fl : List Int) (e0 : Int) (h1 : s.failsL x = fl) (h3 : s.ask (sharesB s.moulds x) = e0) (w : World) (hp : FAt w ma ml mc wa wl wc na nl nc s) (hx : IntsAt w xa xl x) :
    Calls Try.prog 65 #[.agg #[.slice ma ml mc, .slice wa wl wc, .slice na nl nc, .int .i64 s.fresh], .slice xa xl xc] w fun e w' => (∃ a len c, e = .returned (.tuple #[.slice a len c, .int .i64 e0]) ∧ IntsAt w' a len fl) ∧ Below w.heap.size w w' := by
  subst h1 h3
  unfold FShop.failsL
  by_cases h0 : s.ask (sharesB s.moulds x) = 0
  · obtain ⟨ho, hr, hl0⟩ := ask_zero h0
    rw [if_pos h0, h0]
    refine (refFails_yes s ma ml mc wa wl wc na nl nc xa xl xc x w hp hx ho hr hl0).mono ?_
    rintro e w' ⟨a, c, rfl, hi, hb⟩
    exact ⟨⟨a, _, c, rfl, hi⟩, hb⟩
  · rw [if_neg h0]
    refine (refFails_no s ma ml mc wa wl wc na nl nc xa xl xc x _ rfl h0 w hp hx).mono ?_
    rintro e w' ⟨rfl, hb⟩
    exact ⟨⟨none, 0, 0, rfl, ints_nil w'⟩, hb⟩

set_option maxRecDepth 100000 in
set_option maxHeartbeats 16000000 in
theorem holds_walk (s : FShop) (ma : Option Addr) (ml mc : Nat) (wa : Option Addr) (wl wc : Nat) (na : Option Addr) (nl nc : Nat) (xa : Option Addr) (xl xc : Nat) (x : List Int) (w : World) (hp : FAt w ma ml mc wa wl wc na nl nc s) (hx : IntsAt w xa xl x) (hh : s.huge = false) (h40 : xl ≤ 40) :
    Calls Try.prog 13 #[.agg #[.slice ma ml mc, .slice wa wl wc, .slice na nl nc, .int .i64 s.fresh], .slice xa xl xc] w fun e w' => e = .returned (.bool true) ∧ Below w.heap.size w w' := by
  have HH := Lib.hid (fun w1 (hb : Below w.heap.size w w1) => Huge_is s ma ml mc wa wl wc na nl nc false hh w1 (hp.below hb))
  have HC := Lib.hid (fun w1 (hb : Below w.heap.size w w1) => Copy_at s ma ml mc wa wl wc na nl nc w1 (hp.below hb) hh)
  have HX := Lib.hid (fun w1 (hb : Below w.heap.size w w1) => hx.below hb)
  have HP := Lib.hid (fun w1 (hb : Below w.heap.size w w1) => hp.below hb)
  have hgt : ¬ (40 : Int) < (xl : Int) := by omega
  have hxl : xl ≤ 1000 := by omega
  obtain ⟨e0, he0⟩ : ∃ e0, s.ask (sharesB s.moulds x) = e0 := ⟨_, rfl⟩
  obtain ⟨hv, hhv⟩ : ∃ hv, s.holdsN x = hv := ⟨_, rfl⟩
  obtain ⟨lo, hlo⟩ : ∃ lo, s.chanceP x = lo := ⟨_, rfl⟩
  obtain ⟨hi, hhi⟩ : ∃ hi, s.chanceQ x = hi := ⟨_, rfl⟩
  obtain ⟨wh, hwh⟩ : ∃ wh, s.failsL x = wh := ⟨_, rfl⟩
  have HA1 := Lib.hid (fun ga gm va vm ua um ya yc W (h : FAt W ga ml gm va wl vm ua nl um s) (hy : IntsAt W ya xl x) => Holds_all s ga ml gm va wl vm ua nl um ya xl yc x hv e0 hhv he0 W h hy)
  have HA2 := Lib.hid (fun ga gm va vm ua um ya yc W (h : FAt W ga ml gm va wl vm ua nl um s) (hy : IntsAt W ya xl x) => refHolds_all s ga ml gm va wl vm ua nl um ya xl yc x hv e0 hhv he0 W h hy)
  have HB1 := Lib.hid (fun ga gm va vm ua um ya yc W (h : FAt W ga ml gm va wl vm ua nl um s) (hy : IntsAt W ya xl x) => Chance_all s ga ml gm va wl vm ua nl um ya xl yc x lo hi e0 hlo hhi he0 W h hy)
  have HB2 := Lib.hid (fun ga gm va vm ua um ya yc W (h : FAt W ga ml gm va wl vm ua nl um s) (hy : IntsAt W ya xl x) => refChance_all s ga ml gm va wl vm ua nl um ya xl yc x lo hi e0 hlo hhi he0 W h hy)
  have HF1 := Lib.hid (fun ga gm va vm ua um ya yc W (h : FAt W ga ml gm va wl vm ua nl um s) (hy : IntsAt W ya xl x) => Fails_all s ga ml gm va wl vm ua nl um ya xl yc x wh e0 hwh he0 W h hy)
  have HF2 := Lib.hid (fun ga gm va vm ua um ya yc W (h : FAt W ga ml gm va wl vm ua nl um s) (hy : IntsAt W ya xl x) => refFails_all s ga ml gm va wl vm ua nl um ya xl yc x wh e0 hwh he0 W h hy)
  have HS := Lib.hid (fun ga gm va vm ua um W (h : FAt W ga ml gm va wl vm ua nl um s) (hq : FAt W ma ml mc wa wl wc na nl nc s) => Same_yes s ga ml gm va wl vm ua nl um ma mc wa wc na nc W h hq)
  clear hp hx hh he0 hhv hlo hhi hwh
  go_enter Try.func13, Try.ntmps13
  go_wp2_with fail
  refine (HH.out _ (by repeat (first | exact Below.refl _ _ | (refine Below.alloc ?_ (by first | omega | (simp; omega) | simp) _) | (refine Below.setCell ?_ (by first | omega | (simp; omega) | simp) _) | refine Below.drew ?_))).mono ?_; rintro e w1 ⟨rfl, hb1⟩; obtain ⟨hc1, hf1⟩ := bcell hb1; have hz1 := hb1.size; (try simp at hz1); have hw1 := ((by repeat (first | assumption | exact Below.refl _ _ | (refine Below.alloc ?_ (by first | omega | (simp; omega) | simp) _) | (refine Below.setCell ?_ (by first | omega | (simp; omega) | simp) _) | refine Below.drew ?_)) : Below w.heap.size w _).trans (hb1.mono (by first | (simp; done) | (simp; omega) | omega)); clear hb1; have p1 : w.heap.size < w1.heap.size := (by omega); go_wp2_with fail
  refine (HC.out _ hw1).mono ?_
  rintro e u1 ⟨ga, gm, va, vm, ua, um, rfl, hP1, hb2⟩
  have hu1 := hw1.trans (hb2.mono hw1.size)
  obtain ⟨hc2, hf2⟩ := bcell hb2
  have hzu := hb2.size
  clear hb2
  go_wp2_with (at_builtin; refine wpList_append_row _ u1.heap.size u1.heap.size xl xc xa x rfl _ _ rfl rfl rfl (made_row rfl (Nat.le_refl _)) (HX.out _ (hu1.alloc hu1.size _)) hxl (by simp) ?_; intro g2 cap2 u2 hR2 hb3)
  have hI2 := hR2.ints
  obtain ⟨U, hU⟩ : ∃ U, u2.alloc (.cells #[.slice ga ml gm, .slice va wl vm, .slice ua nl um, .int .i64 s.fresh] 26) = U := ⟨_, rfl⟩
  have hzb3 := hb3.size
  simp at hzb3
  have hb3' : Below u1.heap.size u1 U := by rw [← hU]; exact (((Below.refl _ _).alloc (Nat.le_refl _) _).trans hb3).alloc (by omega) _
  have hOb : ∀ i, U.cell? ⟨u2.heap.size, i, none⟩ = (#[.slice ga ml gm, .slice va wl vm, .slice ua nl um, .int .i64 s.fresh] : Array Value)[i]? := fun i => by rw [← hU]; exact World.cell?_alloc_new _ _ _ i
  have hzU : U.heap.size = u2.heap.size + 1 := by rw [← hU]; simp
  have hIU : IntsAt U (some ⟨g2, 0, none⟩) xl x := hI2.below (by rw [← hU]; exact (Below.refl _ _).alloc (Nat.le_refl _) _)
  rw [hU]
  clear hU hI2 hb3 hR2
  have hwU : Below w.heap.size w U := hu1.trans (hb3'.mono hu1.size)
  have hPU : FAt U ga ml gm va wl vm ua nl um s := hP1.below hb3'
  have hp1 : w.heap.size < w1.heap.size := p1
  have hSb : ∀ i, U.cell? ⟨w.heap.size, i, none⟩ = (#[.slice ma ml mc, .slice wa wl wc, .slice na nl nc, .int .i64 s.fresh] : Array Value)[i]? := fun i => (hb3'.cell (p := ⟨w.heap.size, i, none⟩) (show w.heap.size < u1.heap.size by omega)).trans ((hc2 _ _ p1).trans ((hc1 _ _ (by simp)).trans (World.cell?_alloc_new w _ _ i)))
  obtain ⟨gO, hgO⟩ : ∃ gO, gO = u2.heap.size := ⟨_, rfl⟩
  have hsU : w.heap.size < U.heap.size := by have := hb3'.size; omega
  have hgU : gO < U.heap.size := by omega
  rw [← hgO]
  rw [← hgO] at hOb
  clear hgO hzU hc1 hf1 hc2 hf2 hw1 hu1 hb3' hP1 hzb3
  have HSB := Lib.hid hSb
  have HOB := Lib.hid hOb
  have HWU := Lib.hid hwU
  have HPU := Lib.hid (fun W (hb : Below U.heap.size U W) => hPU.below hb)
  have HIU := Lib.hid (fun W (hb : Below U.heap.size U W) => hIU.below hb)
  have HPS := Lib.hid (fun W (hb : Below U.heap.size U W) => HP.out W (hwU.trans (hb.mono hwU.size)))
  have HXS := Lib.hid (fun W (hb : Below U.heap.size U W) => HX.out W (hwU.trans (hb.mono hwU.size)))
  clear hSb hOb hPU hIU hwU
  refine (HA1.out _ _ _ _ _ _ _ _ _ (HPU.out _ (Below.refl _ _)) (HIU.out _ (Below.refl _ _))).mono ?_
  rintro e w2 ⟨rfl, hb2⟩
  have hB2 := hb2
  obtain ⟨x0, x1, x2, x3⟩ : w2.cell? ⟨w.heap.size, 0, none⟩ = some (.slice ma ml mc) ∧ w2.cell? ⟨w.heap.size, 1, none⟩ = some (.slice wa wl wc) ∧ w2.cell? ⟨w.heap.size, 2, none⟩ = some (.slice na nl nc) ∧ w2.cell? ⟨w.heap.size, 3, none⟩ = some (.int .i64 s.fresh) := ⟨(hB2.cell (p := ⟨w.heap.size, 0, none⟩) hsU).trans (HSB.out 0), (hB2.cell (p := ⟨w.heap.size, 1, none⟩) hsU).trans (HSB.out 1), (hB2.cell (p := ⟨w.heap.size, 2, none⟩) hsU).trans (HSB.out 2), (hB2.cell (p := ⟨w.heap.size, 3, none⟩) hsU).trans (HSB.out 3)⟩; obtain ⟨o0, o1, o2, o3⟩ : w2.cell? ⟨gO, 0, none⟩ = some (.slice ga ml gm) ∧ w2.cell? ⟨gO, 1, none⟩ = some (.slice va wl vm) ∧ w2.cell? ⟨gO, 2, none⟩ = some (.slice ua nl um) ∧ w2.cell? ⟨gO, 3, none⟩ = some (.int .i64 s.fresh) := ⟨(hB2.cell (p := ⟨gO, 0, none⟩) hgU).trans (HOB.out 0), (hB2.cell (p := ⟨gO, 1, none⟩) hgU).trans (HOB.out 1), (hB2.cell (p := ⟨gO, 2, none⟩) hgU).trans (HOB.out 2), (hB2.cell (p := ⟨gO, 3, none⟩) hgU).trans (HOB.out 3)⟩
  clear hb2
  go_wp2_with fail
  refine (HA2.out _ _ _ _ _ _ _ _ _ (HPS.out _ hB2) (HXS.out _ hB2)).mono ?_
  rintro e w3 ⟨rfl, hb3⟩
  have hB3 := hB2.trans (hb3.mono hB2.size)
  clear x0 x1 x2 x3 o0 o1 o2 o3
  obtain ⟨x0, x1, x2, x3⟩ : w3.cell? ⟨w.heap.size, 0, none⟩ = some (.slice ma ml mc) ∧ w3.cell? ⟨w.heap.size, 1, none⟩ = some (.slice wa wl wc) ∧ w3.cell? ⟨w.heap.size, 2, none⟩ = some (.slice na nl nc) ∧ w3.cell? ⟨w.heap.size, 3, none⟩ = some (.int .i64 s.fresh) := ⟨(hB3.cell (p := ⟨w.heap.size, 0, none⟩) hsU).trans (HSB.out 0), (hB3.cell (p := ⟨w.heap.size, 1, none⟩) hsU).trans (HSB.out 1), (hB3.cell (p := ⟨w.heap.size, 2, none⟩) hsU).trans (HSB.out 2), (hB3.cell (p := ⟨w.heap.size, 3, none⟩) hsU).trans (HSB.out 3)⟩; obtain ⟨o0, o1, o2, o3⟩ : w3.cell? ⟨gO, 0, none⟩ = some (.slice ga ml gm) ∧ w3.cell? ⟨gO, 1, none⟩ = some (.slice va wl vm) ∧ w3.cell? ⟨gO, 2, none⟩ = some (.slice ua nl um) ∧ w3.cell? ⟨gO, 3, none⟩ = some (.int .i64 s.fresh) := ⟨(hB3.cell (p := ⟨gO, 0, none⟩) hgU).trans (HOB.out 0), (hB3.cell (p := ⟨gO, 1, none⟩) hgU).trans (HOB.out 1), (hB3.cell (p := ⟨gO, 2, none⟩) hgU).trans (HOB.out 2), (hB3.cell (p := ⟨gO, 3, none⟩) hgU).trans (HOB.out 3)⟩
  clear hb3 hB2
  go_wp2_with fail
  refine (HB1.out _ _ _ _ _ _ _ _ _ (HPU.out _ hB3) (HIU.out _ hB3)).mono ?_
  rintro e w4 ⟨rfl, hb4'⟩
  have hb4 := hB3.trans (hb4'.mono hB3.size)
  have hz4 := hb4.size
  clear x0 x1 x2 x3 o0 o1 o2 o3
  obtain ⟨x0, x1, x2, x3⟩ : w4.cell? ⟨w.heap.size, 0, none⟩ = some (.slice ma ml mc) ∧ w4.cell? ⟨w.heap.size, 1, none⟩ = some (.slice wa wl wc) ∧ w4.cell? ⟨w.heap.size, 2, none⟩ = some (.slice na nl nc) ∧ w4.cell? ⟨w.heap.size, 3, none⟩ = some (.int .i64 s.fresh) := ⟨(hb4.cell (p := ⟨w.heap.size, 0, none⟩) hsU).trans (HSB.out 0), (hb4.cell (p := ⟨w.heap.size, 1, none⟩) hsU).trans (HSB.out 1), (hb4.cell (p := ⟨w.heap.size, 2, none⟩) hsU).trans (HSB.out 2), (hb4.cell (p := ⟨w.heap.size, 3, none⟩) hsU).trans (HSB.out 3)⟩; obtain ⟨o0, o1, o2, o3⟩ : w4.cell? ⟨gO, 0, none⟩ = some (.slice ga ml gm) ∧ w4.cell? ⟨gO, 1, none⟩ = some (.slice va wl vm) ∧ w4.cell? ⟨gO, 2, none⟩ = some (.slice ua nl um) ∧ w4.cell? ⟨gO, 3, none⟩ = some (.int .i64 s.fresh) := ⟨(hb4.cell (p := ⟨gO, 0, none⟩) hgU).trans (HOB.out 0), (hb4.cell (p := ⟨gO, 1, none⟩) hgU).trans (HOB.out 1), (hb4.cell (p := ⟨gO, 2, none⟩) hgU).trans (HOB.out 2), (hb4.cell (p := ⟨gO, 3, none⟩) hgU).trans (HOB.out 3)⟩
  have s4 : w.heap.size < w4.heap.size := by omega
  have g4 : gO < w4.heap.size := by omega
  clear hb4' hB3
  go_wp2_with fail
  clear x0 x1 x2 x3 o0 o1 o2 o3
  obtain ⟨V4, hV4⟩ : ∃ V4, w4.alloc (.cells #[.int .i64 lo, .int .i64 hi] 62) = V4 := ⟨_, rfl⟩
  have hv4 : Below U.heap.size U V4 := by rw [← hV4]; exact hb4.alloc hz4 _
  have hpp : ∀ i, V4.cell? ⟨w4.heap.size, i, none⟩ = (#[.int .i64 lo, .int .i64 hi] : Array Value)[i]? := fun i => by rw [← hV4]; exact World.cell?_alloc_new _ _ _ i
  have pz4 : w4.heap.size < V4.heap.size := by rw [← hV4]; simp
  rw [hV4]
  clear hV4
  obtain ⟨p8, hp8⟩ : ∃ p8, p8 = w4.heap.size := ⟨_, rfl⟩
  rw [← hp8]
  rw [← hp8] at hpp pz4
  clear hp8 hb4 hz4 s4 g4
  refine (HB2.out _ _ _ _ _ _ _ _ _ (HPS.out _ hv4) (HXS.out _ hv4)).mono ?_
  rintro e w5 ⟨rfl, hb5⟩
  have hv5 := hv4.trans (hb5.mono hv4.size)
  have pp5 := fun i => (hb5.cell (p := ⟨p8, i, none⟩) pz4).trans (hpp i)
  have pz5 : p8 < w5.heap.size := Nat.lt_of_lt_of_le pz4 hb5.size
  clear hb5 hpp
  obtain ⟨x0, x1, x2, x3⟩ : w5.cell? ⟨w.heap.size, 0, none⟩ = some (.slice ma ml mc) ∧ w5.cell? ⟨w.heap.size, 1, none⟩ = some (.slice wa wl wc) ∧ w5.cell? ⟨w.heap.size, 2, none⟩ = some (.slice na nl nc) ∧ w5.cell? ⟨w.heap.size, 3, none⟩ = some (.int .i64 s.fresh) := ⟨(hv5.cell (p := ⟨w.heap.size, 0, none⟩) hsU).trans (HSB.out 0), (hv5.cell (p := ⟨w.heap.size, 1, none⟩) hsU).trans (HSB.out 1), (hv5.cell (p := ⟨w.heap.size, 2, none⟩) hsU).trans (HSB.out 2), (hv5.cell (p := ⟨w.heap.size, 3, none⟩) hsU).trans (HSB.out 3)⟩; obtain ⟨o0, o1, o2, o3⟩ : w5.cell? ⟨gO, 0, none⟩ = some (.slice ga ml gm) ∧ w5.cell? ⟨gO, 1, none⟩ = some (.slice va wl vm) ∧ w5.cell? ⟨gO, 2, none⟩ = some (.slice ua nl um) ∧ w5.cell? ⟨gO, 3, none⟩ = some (.int .i64 s.fresh) := ⟨(hv5.cell (p := ⟨gO, 0, none⟩) hgU).trans (HOB.out 0), (hv5.cell (p := ⟨gO, 1, none⟩) hgU).trans (HOB.out 1), (hv5.cell (p := ⟨gO, 2, none⟩) hgU).trans (HOB.out 2), (hv5.cell (p := ⟨gO, 3, none⟩) hgU).trans (HOB.out 3)⟩
  have s5 : w.heap.size < w5.heap.size := Nat.lt_of_lt_of_le hsU hv5.size
  have g5 : gO < w5.heap.size := Nat.lt_of_lt_of_le hgU hv5.size
  have PP5 := Lib.hid pp5
  clear pp5
  go_wp2_with fail
  clear x0 x1 x2 x3 o0 o1 o2 o3
  obtain ⟨V5, hV5⟩ : ∃ V5, w5.alloc (.cells #[.int .i64 lo, .int .i64 hi] 62) = V5 := ⟨_, rfl⟩
  have hb6 : Below w5.heap.size w5 V5 := by rw [← hV5]; exact (by repeat (first | exact Below.refl _ _ | (refine Below.alloc ?_ (by first | omega | (simp; omega) | simp) _) | (refine Below.setCell ?_ (by first | omega | (simp; omega) | simp) _) | refine Below.drew ?_))
  have hqq : ∀ i, V5.cell? ⟨w5.heap.size, i, none⟩ = (#[.int .i64 lo, .int .i64 hi] : Array Value)[i]? := fun i => by rw [← hV5]; exact World.cell?_alloc_new _ _ _ i
  have qz5 : w5.heap.size < V5.heap.size := by rw [← hV5]; simp
  rw [hV5]
  clear hV5
  have hpp := fun i => (hb6.cell (p := ⟨p8, i, none⟩) pz5).trans (PP5.out i)
  have pz6 : p8 < V5.heap.size := by omega
  have hv6 := hv5.trans (hb6.mono hv5.size)
  obtain ⟨p10, hp10⟩ : ∃ p10, p10 = w5.heap.size := ⟨_, rfl⟩
  rw [← hp10]
  rw [← hp10] at hqq qz5
  clear hp10 hb6 PP5 s5 g5
  have HPP := Lib.hid hpp
  have HQQ := Lib.hid hqq
  clear hpp hqq
  refine (HF1.out _ _ _ _ _ _ _ _ _ (HPU.out _ hv6) (HIU.out _ hv6)).mono ?_
  rintro e w7 ⟨⟨ra, rl, rc, rfl, hIa⟩, hb7⟩
  have hv7 := hv6.trans (hb7.mono hv6.size)
  have hk7 := hb7
  have HIA := Lib.hid hIa
  clear hIa
  obtain ⟨x0, x1, x2, x3⟩ : w7.cell? ⟨w.heap.size, 0, none⟩ = some (.slice ma ml mc) ∧ w7.cell? ⟨w.heap.size, 1, none⟩ = some (.slice wa wl wc) ∧ w7.cell? ⟨w.heap.size, 2, none⟩ = some (.slice na nl nc) ∧ w7.cell? ⟨w.heap.size, 3, none⟩ = some (.int .i64 s.fresh) := ⟨(hv7.cell (p := ⟨w.heap.size, 0, none⟩) hsU).trans (HSB.out 0), (hv7.cell (p := ⟨w.heap.size, 1, none⟩) hsU).trans (HSB.out 1), (hv7.cell (p := ⟨w.heap.size, 2, none⟩) hsU).trans (HSB.out 2), (hv7.cell (p := ⟨w.heap.size, 3, none⟩) hsU).trans (HSB.out 3)⟩; obtain ⟨o0, o1, o2, o3⟩ : w7.cell? ⟨gO, 0, none⟩ = some (.slice ga ml gm) ∧ w7.cell? ⟨gO, 1, none⟩ = some (.slice va wl vm) ∧ w7.cell? ⟨gO, 2, none⟩ = some (.slice ua nl um) ∧ w7.cell? ⟨gO, 3, none⟩ = some (.int .i64 s.fresh) := ⟨(hv7.cell (p := ⟨gO, 0, none⟩) hgU).trans (HOB.out 0), (hv7.cell (p := ⟨gO, 1, none⟩) hgU).trans (HOB.out 1), (hv7.cell (p := ⟨gO, 2, none⟩) hgU).trans (HOB.out 2), (hv7.cell (p := ⟨gO, 3, none⟩) hgU).trans (HOB.out 3)⟩
  go_wp2_with fail
  refine (HF2.out _ _ _ _ _ _ _ _ _ (HPS.out _ hv7) (HXS.out _ hv7)).mono ?_
  rintro e w8 ⟨⟨rb, rm, rd, rfl, hIb⟩, hb8⟩
  have hv8 := hv7.trans (hb8.mono hv7.size)
  have hk8 := hk7.trans (hb8.mono hk7.size)
  have HSI := Lib.hid (same_refl2 w8 ra rl rc rb rm rd wh (HIA.out.below hb8) hIb)
  clear x0 x1 x2 x3 o0 o1 o2 o3
  obtain ⟨x0, x1, x2, x3⟩ : w8.cell? ⟨w.heap.size, 0, none⟩ = some (.slice ma ml mc) ∧ w8.cell? ⟨w.heap.size, 1, none⟩ = some (.slice wa wl wc) ∧ w8.cell? ⟨w.heap.size, 2, none⟩ = some (.slice na nl nc) ∧ w8.cell? ⟨w.heap.size, 3, none⟩ = some (.int .i64 s.fresh) := ⟨(hv8.cell (p := ⟨w.heap.size, 0, none⟩) hsU).trans (HSB.out 0), (hv8.cell (p := ⟨w.heap.size, 1, none⟩) hsU).trans (HSB.out 1), (hv8.cell (p := ⟨w.heap.size, 2, none⟩) hsU).trans (HSB.out 2), (hv8.cell (p := ⟨w.heap.size, 3, none⟩) hsU).trans (HSB.out 3)⟩; obtain ⟨o0, o1, o2, o3⟩ : w8.cell? ⟨gO, 0, none⟩ = some (.slice ga ml gm) ∧ w8.cell? ⟨gO, 1, none⟩ = some (.slice va wl vm) ∧ w8.cell? ⟨gO, 2, none⟩ = some (.slice ua nl um) ∧ w8.cell? ⟨gO, 3, none⟩ = some (.int .i64 s.fresh) := ⟨(hv8.cell (p := ⟨gO, 0, none⟩) hgU).trans (HOB.out 0), (hv8.cell (p := ⟨gO, 1, none⟩) hgU).trans (HOB.out 1), (hv8.cell (p := ⟨gO, 2, none⟩) hgU).trans (HOB.out 2), (hv8.cell (p := ⟨gO, 3, none⟩) hgU).trans (HOB.out 3)⟩
  have t0 : w8.cell? ⟨p8, 0, none⟩ = some (.int .i64 lo) := (hk8.cell (p := ⟨p8, 0, none⟩) pz6).trans (HPP.out 0)
  have t1 : w8.cell? ⟨p8, 1, none⟩ = some (.int .i64 hi) := (hk8.cell (p := ⟨p8, 1, none⟩) pz6).trans (HPP.out 1)
  have t2 : w8.cell? ⟨p10, 0, none⟩ = some (.int .i64 lo) := (hk8.cell (p := ⟨p10, 0, none⟩) qz5).trans (HQQ.out 0)
  have t3 : w8.cell? ⟨p10, 1, none⟩ = some (.int .i64 hi) := (hk8.cell (p := ⟨p10, 1, none⟩) qz5).trans (HQQ.out 1)
  clear hb7 hb8 hk7 hk8 hIb HIA hv4 hv5 hv6 hv7
  go_wp2_with fail
  refine HSI.out.mono ?_
  rintro e w14 ⟨rfl, hb14⟩
  have hB14 := hv8.trans (hb14.mono hv8.size)
  clear x0 x1 x2 x3 o0 o1 o2 o3
  obtain ⟨x0, x1, x2, x3⟩ : w14.cell? ⟨w.heap.size, 0, none⟩ = some (.slice ma ml mc) ∧ w14.cell? ⟨w.heap.size, 1, none⟩ = some (.slice wa wl wc) ∧ w14.cell? ⟨w.heap.size, 2, none⟩ = some (.slice na nl nc) ∧ w14.cell? ⟨w.heap.size, 3, none⟩ = some (.int .i64 s.fresh) := ⟨(hB14.cell (p := ⟨w.heap.size, 0, none⟩) hsU).trans (HSB.out 0), (hB14.cell (p := ⟨w.heap.size, 1, none⟩) hsU).trans (HSB.out 1), (hB14.cell (p := ⟨w.heap.size, 2, none⟩) hsU).trans (HSB.out 2), (hB14.cell (p := ⟨w.heap.size, 3, none⟩) hsU).trans (HSB.out 3)⟩; obtain ⟨o0, o1, o2, o3⟩ : w14.cell? ⟨gO, 0, none⟩ = some (.slice ga ml gm) ∧ w14.cell? ⟨gO, 1, none⟩ = some (.slice va wl vm) ∧ w14.cell? ⟨gO, 2, none⟩ = some (.slice ua nl um) ∧ w14.cell? ⟨gO, 3, none⟩ = some (.int .i64 s.fresh) := ⟨(hB14.cell (p := ⟨gO, 0, none⟩) hgU).trans (HOB.out 0), (hB14.cell (p := ⟨gO, 1, none⟩) hgU).trans (HOB.out 1), (hB14.cell (p := ⟨gO, 2, none⟩) hgU).trans (HOB.out 2), (hB14.cell (p := ⟨gO, 3, none⟩) hgU).trans (HOB.out 3)⟩
  clear hb14 hv8 t0 t1 t2 t3
  go_wp2_with fail
  refine (HS.out _ _ _ _ _ _ _ (HPU.out _ hB14) (HPS.out _ hB14)).mono ?_
  rintro e w15 ⟨rfl, hb15⟩
  have hB15 := hB14.trans (hb15.mono hB14.size)
  clear x0 x1 x2 x3 o0 o1 o2 o3
  clear hb15 hB14
  go_wp2_with fail
  refine (same_refl w15 _ xl cap2 _ xc x (HIU.out _ hB15) (HXS.out _ hB15)).mono ?_
  rintro e w16 ⟨rfl, hb16⟩
  have hB16 := hB15.trans (hb16.mono hB15.size)
  clear hb16 hB15
  go_wp2_with fail
  refine (works_any _).mono ?_
  rintro e w17 ⟨rfl, hb17⟩
  go_wp2_with fail
  go_ret
  exact ⟨rfl, HWU.out.trans ((hB16.trans (hb17.mono hB16.size)).mono HWU.out.size)⟩

set_option maxRecDepth 100000 in
set_option maxHeartbeats 1000000 in
theorem holds_early (s : FShop) (ma : Option Addr) (ml mc : Nat) (wa : Option Addr) (wl wc : Nat) (na : Option Addr) (nl nc : Nat) (xa : Option Addr) (xl xc : Nat) (w : World) (hp : FAt w ma ml mc wa wl wc na nl nc s) (h : s.huge = true ∨ 40 < xl) (hm : xl ≤ maxLen) :
    Calls Try.prog 13 #[.agg #[.slice ma ml mc, .slice wa wl wc, .slice na nl nc, .int .i64 s.fresh], .slice xa xl xc] w fun e w' => e = .returned (.bool true) ∧ Below w.heap.size w w' := by
  have HH := Lib.hid (fun b (h : s.huge = b) w1 (hb : Below w.heap.size w w1) => Huge_is s ma ml mc wa wl wc na nl nc b h w1 (hp.below hb))
  unfold maxLen at hm
  clear hp
  rcases hh : s.huge with - | -
  · have hgt : (40 : Int) < (xl : Int) := by rcases h with h | h; (rw [hh] at h; cases h); omega
    have HH1 := Lib.hid (HH.out _ hh)
    clear hh h
    go_enter Try.func13, Try.ntmps13
    go_wp2_with fail
    refine (HH1.out _ (by repeat (first | exact Below.refl _ _ | (refine Below.alloc ?_ (by first | omega | (simp; omega) | simp) _) | (refine Below.setCell ?_ (by first | omega | (simp; omega) | simp) _) | refine Below.drew ?_))).mono ?_
    rintro e w1 ⟨rfl, hb1⟩
    have hw1 := ((by repeat (first | exact Below.refl _ _ | (refine Below.alloc ?_ (by first | omega | (simp; omega) | simp) _) | (refine Below.setCell ?_ (by first | omega | (simp; omega) | simp) _) | refine Below.drew ?_)) : Below w.heap.size w _).trans (hb1.mono (by first | (simp; done) | (simp; omega) | omega))
    clear hb1
    go_wp2_with fail
    refine (works_any _).mono ?_
    rintro e w2 ⟨rfl, hb2⟩
    go_wp2_with fail
    go_ret
    exact ⟨rfl, hw1.trans (hb2.mono hw1.size)⟩
  · have HH1 := Lib.hid (HH.out _ hh)
    clear hh h
    go_enter Try.func13, Try.ntmps13
    go_wp2_with fail
    refine (HH1.out _ (by repeat (first | exact Below.refl _ _ | (refine Below.alloc ?_ (by first | omega | (simp; omega) | simp) _) | (refine Below.setCell ?_ (by first | omega | (simp; omega) | simp) _) | refine Below.drew ?_))).mono ?_
    rintro e w1 ⟨rfl, hb1⟩
    have hw1 := ((by repeat (first | exact Below.refl _ _ | (refine Below.alloc ?_ (by first | omega | (simp; omega) | simp) _) | (refine Below.setCell ?_ (by first | omega | (simp; omega) | simp) _) | refine Below.drew ?_)) : Below w.heap.size w _).trans (hb1.mono (by first | (simp; done) | (simp; omega) | omega))
    clear hb1
    go_wp2_with fail
    refine (works_any _).mono ?_
    rintro e w2 ⟨rfl, hb2⟩
    go_wp2_with fail
    go_ret
    exact ⟨rfl, hw1.trans (hb2.mono hw1.size)⟩
theorem holds_law (s : FShop) (ma : Option Addr) (ml mc : Nat) (wa : Option Addr) (wl wc : Nat) (na : Option Addr) (nl nc : Nat) (xa : Option Addr) (xl xc : Nat) (x : List Int) (w : World) (hp : FAt w ma ml mc wa wl wc na nl nc s) (hx : IntsAt w xa xl x) :
    Calls Try.prog 13 #[.agg #[.slice ma ml mc, .slice wa wl wc, .slice na nl nc, .int .i64 s.fresh], .slice xa xl xc] w fun e w' => e = .returned (.bool true) ∧ Below w.heap.size w w' := by
  rcases hh : s.huge with - | -
  · rcases Nat.lt_or_ge 40 xl with h | h
    · exact holds_early s ma ml mc wa wl wc na nl nc xa xl xc w hp (.inr h) hx.2.1
    · exact holds_walk s ma ml mc wa wl wc na nl nc xa xl xc x w hp hx hh h
  · exact holds_early s ma ml mc wa wl wc na nl nc xa xl xc w hp (.inl hh) hx.2.1
end Go.Proofs.Ytigeiaiohdemiaa
