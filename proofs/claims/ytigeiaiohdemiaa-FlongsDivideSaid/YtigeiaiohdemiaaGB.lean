/- The law of the chance: the walk. -/
import Derived.Test.YtigeiaiohdemiaaFZ
namespace Go.Proofs.Ytigeiaiohdemiaa
set_option linter.unusedVariables false
set_option linter.unusedSimpArgs false
open Go.RowKit

theorem set2 {w : World} {b : Nat} {u0 u1 : Value} (v0 v1 : Value) (h0 : w.cell? ⟨b, 0, none⟩ = some u0) (h1 : w.cell? ⟨b, 1, none⟩ = some u1) :
    ((w.setCell ⟨b, 0, none⟩ v0).setCell ⟨b, 1, none⟩ v1).cell? ⟨b, 0, none⟩ = some v0 ∧ ((w.setCell ⟨b, 0, none⟩ v0).setCell ⟨b, 1, none⟩ v1).cell? ⟨b, 1, none⟩ = some v1 := by
  have o : ∀ {i j : Nat} (w : World) (v : Value), i ≠ j → (w.setCell ⟨b, i, none⟩ v).cell? ⟨b, j, none⟩ = w.cell? ⟨b, j, none⟩ := fun w v h => set_other (by intro e; injection e with _ e2; exact h e2)
  exact ⟨by rw [o _ _ (by decide)]; exact set_same h0, set_same (by rw [o _ _ (by decide)]; exact h1)⟩
theorem box2_cut {B g : Nat} {W0 Wf : World} {v0 v1 : Value} (hc : Wf.cell? ⟨g, 0, none⟩ = some v0 ∧ Wf.cell? ⟨g, 1, none⟩ = some v1) (h1 : W0.heap.size ≤ g) (h2 : g < Wf.heap.size) (h3 : Below W0.heap.size W0 Wf) :
    ∃ g', Value.pointer (some ⟨g, 0, none⟩) = .pointer (some ⟨g', 0, none⟩) ∧ Value.int .i64 0 = .int .i64 0 ∧ Wf.cell? ⟨g', 0, none⟩ = some v0 ∧ Wf.cell? ⟨g', 1, none⟩ = some v1 ∧ W0.heap.size ≤ g' ∧ g' < Wf.heap.size ∧ Below W0.heap.size W0 Wf :=
  ⟨g, rfl, rfl, hc.1, hc.2, h1, h2, h3⟩

set_option maxRecDepth 100000 in
set_option maxHeartbeats 4000000 in
theorem chance_no (s : FShop) (ma : Option Addr) (ml mc : Nat) (wa : Option Addr) (wl wc : Nat) (na : Option Addr) (nl nc : Nat) (xa : Option Addr) (xl xc : Nat) (x : List Int) (ya : Option Addr) (yl yc : Nat) (y : List Int) (w : World) (hp : FAt w ma ml mc wa wl wc na nl nc s) (hx : IntsAt w xa xl x) (hy : IntsAt w ya yl y)
    (hno : (s.known && sharesB s.moulds x && sharesB s.moulds y) = false) :
    Calls Try.prog 8 #[.agg #[.slice ma ml mc, .slice wa wl wc, .slice na nl nc, .int .i64 s.fresh], .slice xa xl xc, .slice ya yl yc] w fun e w' => e = .returned (.bool true) ∧ Below w.heap.size w w' := by
  have HK := Lib.hid (fun b (h : s.known = b) W (hb : Below w.heap.size w W) => known_is s ma ml mc wa wl wc na nl nc b h W (hp.below hb))
  have HX := Lib.hid (fun b (h : sharesB s.moulds x = b) W (hb : Below w.heap.size w W) => refAreShares_is s ma ml mc wa wl wc na nl nc xa xl xc x b h W (hp.below hb) (hx.below hb))
  have HY := Lib.hid (fun b (h : sharesB s.moulds y = b) W (hb : Below w.heap.size w W) => refAreShares_is s ma ml mc wa wl wc na nl nc ya yl yc y b h W (hp.below hb) (hy.below hb))
  have hxm := hx.2.1
  have hym := hy.2.1
  unfold maxLen at hxm hym
  clear hp hx hy
  rcases hk : s.known with - | -
  · have HK1 := Lib.hid (HK.out _ hk)
    clear hk hno
    go_enter Try.func8, Try.ntmps8
    go_wp2_with fail
    refine (HK1.out _ (by repeat (first | exact Below.refl _ _ | (refine Below.alloc ?_ (by first | omega | (simp; omega) | simp) _) | (refine Below.setCell ?_ (by first | omega | (simp; omega) | simp) _) | refine Below.drew ?_))).mono ?_
    rintro e w1 ⟨rfl, hb1⟩
    have hw1 := ((by repeat (first | exact Below.refl _ _ | (refine Below.alloc ?_ (by first | omega | (simp; omega) | simp) _) | (refine Below.setCell ?_ (by first | omega | (simp; omega) | simp) _) | refine Below.drew ?_)) : Below w.heap.size w _).trans (hb1.mono (by first | (simp; done) | (simp; omega) | omega))
    clear hb1
    go_wp2_with fail
    refine (works_any _).mono ?_
    rintro e w2 ⟨rfl, hb2⟩
    have hw2 := hw1.trans (hb2.mono hw1.size)
    go_wp2_with fail
    go_ret
    exact ⟨rfl, hw2⟩
  rw [hk] at hno
  simp only [Bool.true_and] at hno
  have HK1 := Lib.hid (HK.out _ hk)
  by_cases h1 : 40 < xl
  · have h1' : (40 : Int) < (xl : Int) := by omega
    clear hk hno
    go_enter Try.func8, Try.ntmps8
    go_wp2_with fail
    refine (HK1.out _ (by repeat (first | exact Below.refl _ _ | (refine Below.alloc ?_ (by first | omega | (simp; omega) | simp) _) | (refine Below.setCell ?_ (by first | omega | (simp; omega) | simp) _) | refine Below.drew ?_))).mono ?_
    rintro e w1 ⟨rfl, hb1⟩
    have hw1 := ((by repeat (first | exact Below.refl _ _ | (refine Below.alloc ?_ (by first | omega | (simp; omega) | simp) _) | (refine Below.setCell ?_ (by first | omega | (simp; omega) | simp) _) | refine Below.drew ?_)) : Below w.heap.size w _).trans (hb1.mono (by first | (simp; done) | (simp; omega) | omega))
    clear hb1
    go_wp2_with fail
    refine (works_any _).mono ?_
    rintro e w2 ⟨rfl, hb2⟩
    have hw2 := hw1.trans (hb2.mono hw1.size)
    go_wp2_with fail
    go_ret
    exact ⟨rfl, hw2⟩
  have h1' : ¬ (40 : Int) < (xl : Int) := by omega
  by_cases h2 : 40 < yl
  · have h2' : (40 : Int) < (yl : Int) := by omega
    clear hk hno
    go_enter Try.func8, Try.ntmps8
    go_wp2_with fail
    refine (HK1.out _ (by repeat (first | exact Below.refl _ _ | (refine Below.alloc ?_ (by first | omega | (simp; omega) | simp) _) | (refine Below.setCell ?_ (by first | omega | (simp; omega) | simp) _) | refine Below.drew ?_))).mono ?_
    rintro e w1 ⟨rfl, hb1⟩
    have hw1 := ((by repeat (first | exact Below.refl _ _ | (refine Below.alloc ?_ (by first | omega | (simp; omega) | simp) _) | (refine Below.setCell ?_ (by first | omega | (simp; omega) | simp) _) | refine Below.drew ?_)) : Below w.heap.size w _).trans (hb1.mono (by first | (simp; done) | (simp; omega) | omega))
    clear hb1
    go_wp2_with fail
    refine (works_any _).mono ?_
    rintro e w2 ⟨rfl, hb2⟩
    have hw2 := hw1.trans (hb2.mono hw1.size)
    go_wp2_with fail
    go_ret
    exact ⟨rfl, hw2⟩
  have h2' : ¬ (40 : Int) < (yl : Int) := by omega
  rcases hsx : sharesB s.moulds x with - | -
  · have HX1 := Lib.hid (HX.out _ hsx)
    clear hk hno hsx
    go_enter Try.func8, Try.ntmps8
    go_wp2_with fail
    refine (HK1.out _ (by repeat (first | exact Below.refl _ _ | (refine Below.alloc ?_ (by first | omega | (simp; omega) | simp) _) | (refine Below.setCell ?_ (by first | omega | (simp; omega) | simp) _) | refine Below.drew ?_))).mono ?_
    rintro e w1 ⟨rfl, hb1⟩
    obtain ⟨hc1, hf1⟩ := bcell hb1
    have hz1 := hb1.size
    simp at hz1
    have hw1 := ((by repeat (first | exact Below.refl _ _ | (refine Below.alloc ?_ (by first | omega | (simp; omega) | simp) _) | (refine Below.setCell ?_ (by first | omega | (simp; omega) | simp) _) | refine Below.drew ?_)) : Below w.heap.size w _).trans (hb1.mono (by first | (simp; done) | (simp; omega) | omega))
    have q1 : w.heap.size < w1.heap.size := by omega
    clear hb1
    go_wp2_with fail
    refine (HX1.out _ (by repeat (first | assumption | exact Below.refl _ _ | (refine Below.alloc ?_ (by first | omega | (simp; omega) | simp) _) | (refine Below.setCell ?_ (by first | omega | (simp; omega) | simp) _) | refine Below.drew ?_))).mono ?_
    rintro e w2 ⟨rfl, hb2⟩
    have hw2 := hw1.trans (hb2.mono hw1.size)
    clear hb2
    go_wp2_with fail
    refine (works_any _).mono ?_
    rintro e w3 ⟨rfl, hb3⟩
    have hw3 := hw2.trans (hb3.mono hw2.size)
    go_wp2_with fail
    go_ret
    exact ⟨rfl, hw3⟩
  rw [hsx] at hno
  simp only [Bool.true_and] at hno
  have HX1 := Lib.hid (HX.out _ hsx)
  have HY1 := Lib.hid (HY.out _ hno)
  clear hk hno hsx
  go_enter Try.func8, Try.ntmps8
  go_wp2_with fail
  refine (HK1.out _ (by repeat (first | exact Below.refl _ _ | (refine Below.alloc ?_ (by first | omega | (simp; omega) | simp) _) | (refine Below.setCell ?_ (by first | omega | (simp; omega) | simp) _) | refine Below.drew ?_))).mono ?_
  rintro e w1 ⟨rfl, hb1⟩
  obtain ⟨hc1, hf1⟩ := bcell hb1
  have hz1 := hb1.size
  simp at hz1
  have hw1 := ((by repeat (first | exact Below.refl _ _ | (refine Below.alloc ?_ (by first | omega | (simp; omega) | simp) _) | (refine Below.setCell ?_ (by first | omega | (simp; omega) | simp) _) | refine Below.drew ?_)) : Below w.heap.size w _).trans (hb1.mono (by first | (simp; done) | (simp; omega) | omega))
  have q1 : w.heap.size < w1.heap.size := by omega
  clear hb1
  go_wp2_with fail
  refine (HX1.out _ (by repeat (first | assumption | exact Below.refl _ _ | (refine Below.alloc ?_ (by first | omega | (simp; omega) | simp) _) | (refine Below.setCell ?_ (by first | omega | (simp; omega) | simp) _) | refine Below.drew ?_))).mono ?_
  rintro e w2 ⟨rfl, hb2⟩
  obtain ⟨hc2, hf2⟩ := bcell hb2
  have hz2 := hb2.size
  have hw2 := hw1.trans (hb2.mono hw1.size)
  have q2 : w.heap.size < w2.heap.size := by omega
  clear hb2
  go_wp2_with fail
  refine (HY1.out _ (by repeat (first | assumption | exact Below.refl _ _ | (refine Below.alloc ?_ (by first | omega | (simp; omega) | simp) _) | (refine Below.setCell ?_ (by first | omega | (simp; omega) | simp) _) | refine Below.drew ?_))).mono ?_
  rintro e w3 ⟨rfl, hb3⟩
  have hw3 := hw2.trans (hb3.mono hw2.size)
  clear hb3
  go_wp2_with fail
  refine (works_any _).mono ?_
  rintro e w4 ⟨rfl, hb4⟩
  have hw4 := hw3.trans (hb4.mono hw3.size)
  go_wp2_with fail
  go_ret
  exact ⟨rfl, hw4⟩

set_option maxRecDepth 100000 in
set_option maxHeartbeats 8000000 in
theorem chance_yes (s : FShop) (ma : Option Addr) (ml mc : Nat) (wa : Option Addr) (wl wc : Nat) (na : Option Addr) (nl nc : Nat) (xa : Option Addr) (xl xc : Nat) (x : List Int) (ya : Option Addr) (yl yc : Nat) (y : List Int) (w : World) (hp : FAt w ma ml mc wa wl wc na nl nc s) (hx : IntsAt w xa xl x) (hy : IntsAt w ya yl y)
    (hk : s.known = true) (hsx : sharesB s.moulds x = true) (hsy : sharesB s.moulds y = true) :
    Calls Try.prog 8 #[.agg #[.slice ma ml mc, .slice wa wl wc, .slice na nl nc, .int .i64 s.fresh], .slice xa xl xc, .slice ya yl yc] w fun e w' => e = .returned (.bool true) ∧ Below w.heap.size w w' := by
  obtain ⟨ho, hl0⟩ : s.ok = true ∧ 0 < s.left.length := by simpa [FShop.known] using hk
  have hl6 := left_few ho
  have hfew := FShop.ok_few ho
  have hlx := (shares_bd hsx).1
  have hly := (shares_bd hsy).1
  have hx5 : xl ≤ 5 := by have := hx.1; omega
  have hxy : yl = xl := by have := hx.1; have := hy.1; omega
  subst hxy
  have HK1 := Lib.hid (fun W (hb : Below w.heap.size w W) => known_is s ma ml mc wa wl wc na nl nc true hk W (hp.below hb))
  have HX1 := Lib.hid (fun W (hb : Below w.heap.size w W) => refAreShares_is s ma ml mc wa wl wc na nl nc xa yl xc x true hsx W (hp.below hb) (hx.below hb))
  have HY1 := Lib.hid (fun W (hb : Below w.heap.size w W) => refAreShares_is s ma ml mc wa wl wc na nl nc ya yl yc y true hsy W (hp.below hb) (hy.below hb))
  obtain ⟨all, hall⟩ : ∃ all, s.left.length = all := ⟨_, rfl⟩
  obtain ⟨n, hn⟩ : ∃ n, holdN s.left x = n := ⟨_, rfl⟩
  obtain ⟨m, hm⟩ : ∃ m, holdN s.left y = m := ⟨_, rfl⟩
  obtain ⟨g, hg⟩ : ∃ g, Nat.gcd n all = g := ⟨_, rfl⟩
  obtain ⟨k, hkk⟩ : ∃ k, Nat.gcd m all = k := ⟨_, rfl⟩
  have hna : n ≤ all := by rw [← hn, ← hall]; exact List.countP_le_length
  have hma : m ≤ all := by rw [← hm, ← hall]; exact List.countP_le_length
  have hall0 : 0 < all := by omega
  have HHO := Lib.hid (fun W (hb : Below w.heap.size w W) (ga : Option Addr) (gc : Nat) (hi : IntsAt W ga yl x) => show Calls Try.prog 24 #[.agg #[.slice ma ml mc, .slice wa wl wc, .slice na nl nc, .int .i64 s.fresh], .slice ga yl gc] W fun e w' => e = .returned (.tuple #[.int .i64 (holdsR n all), .int .i64 0]) ∧ Below W.heap.size W w' from by
    have h := Holds_yes s ma ml mc wa wl wc na nl nc ga yl gc x W (hp.below hb) hi ho hsx hl0
    rwa [hn, hall] at h)
  have HCX := Lib.hid (fun W (hb : Below w.heap.size w W) (ga : Option Addr) (gc : Nat) (hi : IntsAt W ga yl x) => Chance_yes s ma ml mc wa wl wc na nl nc ga yl gc x W (hp.below hb) hi ho hsx hl0 n all g hn hall hg)
  have HCY := Lib.hid (fun W (hb : Below w.heap.size w W) (ga : Option Addr) (gc : Nat) (hi : IntsAt W ga yl y) => Chance_yes s ma ml mc wa wl wc na nl nc ga yl gc y W (hp.below hb) hi ho hsy hl0 m all k hm hall hkk)
  obtain ⟨a1, a2, a3, a4, a5, a6, -, -, -⟩ := part_facts hna hall0 hg
  obtain ⟨b1, b2, b3, b4, b5, b6, -, -, -⟩ := part_facts hma hall0 hkk
  have HLE := Lib.hid (fun (h : ∀ i (h1 : i < x.length) (h2 : i < y.length), y[i] ≤ x[i]) => part_le hna hma hall0 hg hkk (by rw [← hn, ← hm]; exact holdN_less (by omega) h))
  have HPX := Lib.hid (fun W => isPart_yes (n / g) (all / g) a1 (by omega) a3 a4 W)
  have HPY := Lib.hid (fun W => isPart_yes (m / k) (all / k) b1 (by omega) b3 b4 W)
  have hax : all ≤ 6 := by omega
  have p1b : n / g ≤ 6 := by omega
  have q1b : all / g ≤ 6 := by omega
  have p2b : m / k ≤ 6 := by omega
  have q2b : all / k ≤ 6 := by omega
  have HSX := Lib.hid (fun W (hb : Below w.heap.size w W) h0 => ints_src2 (hx.below hb) h0)
  have HSY := Lib.hid (fun W (hb : Below w.heap.size w W) h0 => ints_src2 (hy.below hb) h0)
  have hxc : (x.map (Value.int .i64)).length = yl * 1 := by simp [hx.1]
  have hyc : (y.map (Value.int .i64)).length = yl * 1 := by simp [hy.1]
  have HXC := Lib.hid hx.2.2
  have HYC := Lib.hid hy.2.2
  have HXL := Lib.hid hx.1
  have HYL := Lib.hid hy.1
  have hR : holdsR n all = if n = all then 1 else if n = 0 then 2 else 3 := rfl
  obtain ⟨hv, hhv⟩ : ∃ hv, holdsR n all = hv := ⟨_, rfl⟩
  rw [hhv] at hR HHO
  have HR := Lib.hid hR
  have h40 : ¬ (40 : Int) < (yl : Int) := by omega
  have hyl0 : yl ≤ maxLen := by unfold maxLen; omega
  have hyl1000 : yl ≤ 1000 := by omega
  clear hp hx hy hk hsx hsy ho hl0 hl6 hfew hlx hly hn hm hg hkk hall hhv hR
  generalize hP1 : n / g = P1 at *
  generalize hQ1 : all / g = Q1 at *
  generalize hP2 : m / k = P2 at *
  generalize hQ2 : all / k = Q2 at *
  clear hP1 hQ1 hP2 hQ2
  go_enter Try.func8, Try.ntmps8
  go_wp2_with fail
  refine (HK1.out _ (by repeat (first | exact Below.refl _ _ | (refine Below.alloc ?_ (by first | omega | (simp; omega) | simp) _) | (refine Below.setCell ?_ (by first | omega | (simp; omega) | simp) _) | refine Below.drew ?_))).mono ?_
  rintro e w1 ⟨rfl, hb1⟩
  obtain ⟨hc1, hf1⟩ := bcell hb1
  have hz1 := hb1.size
  simp at hz1
  have hw1 := ((by repeat (first | exact Below.refl _ _ | (refine Below.alloc ?_ (by first | omega | (simp; omega) | simp) _) | (refine Below.setCell ?_ (by first | omega | (simp; omega) | simp) _) | refine Below.drew ?_)) : Below w.heap.size w _).trans (hb1.mono (by first | (simp; done) | (simp; omega) | omega))
  have q1 : w.heap.size < w1.heap.size := by omega
  clear hb1
  go_wp2_with fail
  refine (HX1.out _ (by repeat (first | assumption | exact Below.refl _ _ | (refine Below.alloc ?_ (by first | omega | (simp; omega) | simp) _) | (refine Below.setCell ?_ (by first | omega | (simp; omega) | simp) _) | refine Below.drew ?_))).mono ?_
  rintro e w2 ⟨rfl, hb2⟩
  obtain ⟨hc2, hf2⟩ := bcell hb2
  have hz2 := hb2.size
  have hw2 := hw1.trans (hb2.mono hw1.size)
  have q2 : w.heap.size < w2.heap.size := by omega
  clear hb2
  go_wp2_with fail
  refine (HY1.out _ (by repeat (first | assumption | exact Below.refl _ _ | (refine Below.alloc ?_ (by first | omega | (simp; omega) | simp) _) | (refine Below.setCell ?_ (by first | omega | (simp; omega) | simp) _) | refine Below.drew ?_))).mono ?_
  rintro e w3 ⟨rfl, hb3⟩
  have hz3 := hb3.size
  have hw3 := hw2.trans (hb3.mono hw2.size)
  have x0 : w3.cell? ⟨w.heap.size, 0, none⟩ = some (.slice ma ml mc) := (hb3.cell (p := ⟨w.heap.size, 0, none⟩) q2).trans ((hc2 _ _ q1).trans ((hc1 _ _ (by simp)).trans (by go_simp)))
  have x1 : w3.cell? ⟨w.heap.size, 1, none⟩ = some (.slice wa wl wc) := (hb3.cell (p := ⟨w.heap.size, 1, none⟩) q2).trans ((hc2 _ _ q1).trans ((hc1 _ _ (by simp)).trans (by go_simp)))
  have x2 : w3.cell? ⟨w.heap.size, 2, none⟩ = some (.slice na nl nc) := (hb3.cell (p := ⟨w.heap.size, 2, none⟩) q2).trans ((hc2 _ _ q1).trans ((hc1 _ _ (by simp)).trans (by go_simp)))
  have x3 : w3.cell? ⟨w.heap.size, 3, none⟩ = some (.int .i64 s.fresh) := (hb3.cell (p := ⟨w.heap.size, 3, none⟩) q2).trans ((hc2 _ _ q1).trans ((hc1 _ _ (by simp)).trans (by go_simp)))
  have q3 : w.heap.size < w3.heap.size := by omega
  have HW3 := Lib.hid hw3
  have HHX := Lib.hid (fun W (h : Below w3.heap.size w3 W ∧ ∀ b o, b < w3.heap.size → W.cell? ⟨b, o, none⟩ = w3.cell? ⟨b, o, none⟩) ga gc hi => bothS1 (W0 := w3) (HHO.out W (hw3.trans (h.1.mono hw3.size)) ga gc hi) h)
  have HSX3 := Lib.hid (fun W (h : Below w3.heap.size w3 W ∧ ∀ b o, b < w3.heap.size → W.cell? ⟨b, o, none⟩ = w3.cell? ⟨b, o, none⟩) h0 => HSX.out W (hw3.trans (h.1.mono hw3.size)) h0)
  clear hb3 hc1 hf1 hc2 hf2 hw1 hw2 hw3 hz1 hz2 hz3 q1 q2
  go_upto_region 3 with fail
  go_cut [7, 8] (fun v7 v8 wx => v7 = .int .i64 hv ∧ v8 = .int .i64 0 ∧ Below w3.heap.size w3 wx)
  case first =>
    go_region_held3 (fun w' => Below w3.heap.size w3 w' ∧ ∀ b o, b < w3.heap.size → w'.cell? ⟨b, o, none⟩ = w3.cell? ⟨b, o, none⟩) (first | with_reducible assumption | ((repeat (first | with_reducible refine bothS_drew ?_ | with_reducible refine bothS_alloc _ ?_ | with_reducible refine bothS_set _ _ (by first | omega | (simp; omega) | simp) ?_)); first | with_reducible assumption | with_reducible exact Hid.out (by assumption) | with_reducible exact ⟨Below.refl _ _, fun _ _ _ => rfl⟩)) (first
      | ((with_reducible refine step_append_fresh _ 24 3 _ 1 8 Try.underlying24 Try.info3 rfl (by decide) (by decide) yl xc xa (x.map (Value.int .i64)) hxc hyl1000 rfl _ _ rfl ?_ ?_ ?_ ?_); (· exact ⟨_, rfl⟩); (· rfl); (· intro h0; exact HSX3.out _ (by assumption) h0); intro ga cA wA hfA hbA; have kA := bothS_below (by assumption) hbA; have HIA := Lib.hid (hfA.ints hyl0); clear hfA hbA)
      | (go_at_call 24; (with_reducible refine (HHX.out _ ?_ _ _ HIA.out).mono ?_); (· with_reducible assumption); rintro e w' ⟨rfl, k1, -, -, -⟩)
      | fail "no arm")
    all_goals (go_wp2_with fail; go_meet; exact ⟨rfl, rfl, And.left (by assumption)⟩)
  case rest =>
  obtain ⟨rfl, rfl, hB4⟩ := hcut
  obtain ⟨w4, rfl⟩ : ∃ w4 : World, w4 = wc := ⟨_, rfl⟩
  obtain ⟨y40, y41, y42, y43⟩ : w4.cell? ⟨w.heap.size, 0, none⟩ = some (.slice ma ml mc) ∧ w4.cell? ⟨w.heap.size, 1, none⟩ = some (.slice wa wl wc) ∧ w4.cell? ⟨w.heap.size, 2, none⟩ = some (.slice na nl nc) ∧ w4.cell? ⟨w.heap.size, 3, none⟩ = some (.int .i64 s.fresh) :=
    ⟨(hB4.cell (p := ⟨w.heap.size, 0, none⟩) q3).trans x0, (hB4.cell (p := ⟨w.heap.size, 1, none⟩) q3).trans x1, (hB4.cell (p := ⟨w.heap.size, 2, none⟩) q3).trans x2, (hB4.cell (p := ⟨w.heap.size, 3, none⟩) q3).trans x3⟩
  have hz4 := hB4.size
  have q4 : w.heap.size < w4.heap.size := by omega
  have HW4 := Lib.hid (HW3.out.trans (hB4.mono HW3.out.size))
  clear x0 x1 x2 x3 q3 hB4 hz4
  have hw4 := HW4.out
  have HCC4 := Lib.hid (fun W (h : Below w4.heap.size w4 W ∧ ∀ b o, b < w4.heap.size → W.cell? ⟨b, o, none⟩ = w4.cell? ⟨b, o, none⟩) ga gc hi => bothS1 (W0 := w4) (HCX.out W (hw4.trans (h.1.mono hw4.size)) ga gc hi) h)
  have HSS4 := Lib.hid (fun W (h : Below w4.heap.size w4 W ∧ ∀ b o, b < w4.heap.size → W.cell? ⟨b, o, none⟩ = w4.cell? ⟨b, o, none⟩) h0 => HSX.out W (hw4.trans (h.1.mono hw4.size)) h0)
  clear hw4
  go_upto_region 4 with fail
  go_cut [9, 10] (fun va vb wx => ∃ g, va = .pointer (some ⟨g, 0, none⟩) ∧ vb = .int .i64 0 ∧ wx.cell? ⟨g, 0, none⟩ = some (.int .i64 (P1 : Nat)) ∧ wx.cell? ⟨g, 1, none⟩ = some (.int .i64 (Q1 : Nat)) ∧ w4.heap.size ≤ g ∧ g < wx.heap.size ∧ Below w4.heap.size w4 wx)
  case first =>
    go_region_held3 (fun w' => Below w4.heap.size w4 w' ∧ ∀ b o, b < w4.heap.size → w'.cell? ⟨b, o, none⟩ = w4.cell? ⟨b, o, none⟩) (first | with_reducible assumption | ((repeat (first | with_reducible refine bothS_drew ?_ | with_reducible refine bothS_alloc _ ?_ | with_reducible refine bothS_set _ _ (by first | omega | (simp; omega) | simp) ?_)); first | with_reducible assumption | with_reducible exact Hid.out (by assumption) | with_reducible exact ⟨Below.refl _ _, fun _ _ _ => rfl⟩)) (first
      | ((with_reducible refine step_append_fresh _ 24 3 _ 1 8 Try.underlying24 Try.info3 rfl (by decide) (by decide) yl xc xa (x.map (Value.int .i64)) hxc hyl1000 rfl _ _ rfl ?_ ?_ ?_ ?_); (· exact ⟨_, rfl⟩); (· rfl); (· intro h0; exact HSS4.out _ (by assumption) h0); intro ga cA wA hfA hbA; have kA := bothS_below (by assumption) hbA; have HIA := Lib.hid (fun W (hb : Below wA.heap.size wA W) => (hfA.ints hyl0).below hb); obtain ⟨hcA, hfrA⟩ := bcell hbA; have hzA := hbA.size; (try simp at hzA); (try have yA := Nat.lt_of_succ_le hzA); (try have yA1 := Nat.lt_of_succ_lt yA); clear hfA hbA)
      | (go_at_call 44; (with_reducible refine (HCC4.out _ ?_ _ _ (HIA.out _ (by repeat (first | exact Below.refl _ _ | (refine Below.alloc ?_ (by first | omega | (simp; omega) | simp) _) | (refine Below.setCell ?_ (by first | omega | (simp; omega) | simp) _) | refine Below.drew ?_)))).mono ?_); (· with_reducible assumption); rintro e w' ⟨rfl, k1, k2, k3, k4⟩; have HK1 := Lib.hid k1; (try simp at k4); (try have z6 := Nat.lt_of_succ_le k4); (try have z7 := Nat.lt_of_succ_lt z6))
      | fail "no arm")
    all_goals go_wp2_with fail
    all_goals go_meet
    all_goals
      refine box2_cut (B := 0) ?_ ?_ ?_ (And.left (by assumption))
      · first | (with_reducible refine set2 (u0 := .int .i64 0) (u1 := .int .i64 0) _ _ ?_ ?_ <;> (go_simp; done)) | (refine ⟨?_, ?_⟩ <;> (go_simp; done))
      · have := HK1.out.1.size
        first | omega | (simp; done) | (simp; omega)
      · first | omega | (simp [World.setCell]; done) | (simp [World.setCell]; omega)
  case rest =>
  obtain ⟨g5, rfl, rfl, r50, r51, hg5, hgz5, hB5⟩ := hcut
  obtain ⟨w5, rfl⟩ : ∃ w5 : World, w5 = wc := ⟨_, rfl⟩
  obtain ⟨y50, y51, y52, y53⟩ : w5.cell? ⟨w.heap.size, 0, none⟩ = some (.slice ma ml mc) ∧ w5.cell? ⟨w.heap.size, 1, none⟩ = some (.slice wa wl wc) ∧ w5.cell? ⟨w.heap.size, 2, none⟩ = some (.slice na nl nc) ∧ w5.cell? ⟨w.heap.size, 3, none⟩ = some (.int .i64 s.fresh) :=
    ⟨(hB5.cell (p := ⟨w.heap.size, 0, none⟩) q4).trans y40, (hB5.cell (p := ⟨w.heap.size, 1, none⟩) q4).trans y41, (hB5.cell (p := ⟨w.heap.size, 2, none⟩) q4).trans y42, (hB5.cell (p := ⟨w.heap.size, 3, none⟩) q4).trans y43⟩
  have hz5 := hB5.size
  have q5 : w.heap.size < w5.heap.size := by omega
  have HW5 := Lib.hid (HW4.out.trans (hB5.mono HW4.out.size))
  clear y40 y41 y42 y43 q4 hB5 hz5
  have hw5 := HW5.out
  have HCC5 := Lib.hid (fun W (h : Below w5.heap.size w5 W ∧ ∀ b o, b < w5.heap.size → W.cell? ⟨b, o, none⟩ = w5.cell? ⟨b, o, none⟩) ga gc hi => bothS1 (W0 := w5) (HCY.out W (hw5.trans (h.1.mono hw5.size)) ga gc hi) h)
  have HSS5 := Lib.hid (fun W (h : Below w5.heap.size w5 W ∧ ∀ b o, b < w5.heap.size → W.cell? ⟨b, o, none⟩ = w5.cell? ⟨b, o, none⟩) h0 => HSY.out W (hw5.trans (h.1.mono hw5.size)) h0)
  clear hw5
  go_upto_region 5 with fail
  go_cut [11, 12] (fun va vb wx => ∃ g, va = .pointer (some ⟨g, 0, none⟩) ∧ vb = .int .i64 0 ∧ wx.cell? ⟨g, 0, none⟩ = some (.int .i64 (P2 : Nat)) ∧ wx.cell? ⟨g, 1, none⟩ = some (.int .i64 (Q2 : Nat)) ∧ w5.heap.size ≤ g ∧ g < wx.heap.size ∧ Below w5.heap.size w5 wx)
  case first =>
    go_region_held3 (fun w' => Below w5.heap.size w5 w' ∧ ∀ b o, b < w5.heap.size → w'.cell? ⟨b, o, none⟩ = w5.cell? ⟨b, o, none⟩) (first | with_reducible assumption | ((repeat (first | with_reducible refine bothS_drew ?_ | with_reducible refine bothS_alloc _ ?_ | with_reducible refine bothS_set _ _ (by first | omega | (simp; omega) | simp) ?_)); first | with_reducible assumption | with_reducible exact Hid.out (by assumption) | with_reducible exact ⟨Below.refl _ _, fun _ _ _ => rfl⟩)) (first
      | ((with_reducible refine step_append_fresh _ 24 3 _ 1 8 Try.underlying24 Try.info3 rfl (by decide) (by decide) yl yc ya (y.map (Value.int .i64)) hyc hyl1000 rfl _ _ rfl ?_ ?_ ?_ ?_); (· exact ⟨_, rfl⟩); (· rfl); (· intro h0; exact HSS5.out _ (by assumption) h0); intro ga cA wA hfA hbA; have kA := bothS_below (by assumption) hbA; have HIA := Lib.hid (fun W (hb : Below wA.heap.size wA W) => (hfA.ints hyl0).below hb); obtain ⟨hcA, hfrA⟩ := bcell hbA; have hzA := hbA.size; (try simp at hzA); (try have yA := Nat.lt_of_succ_le hzA); (try have yA1 := Nat.lt_of_succ_lt yA); clear hfA hbA)
      | (go_at_call 44; (with_reducible refine (HCC5.out _ ?_ _ _ (HIA.out _ (by repeat (first | exact Below.refl _ _ | (refine Below.alloc ?_ (by first | omega | (simp; omega) | simp) _) | (refine Below.setCell ?_ (by first | omega | (simp; omega) | simp) _) | refine Below.drew ?_)))).mono ?_); (· with_reducible assumption); rintro e w' ⟨rfl, k1, k2, k3, k4⟩; have HK1 := Lib.hid k1; (try simp at k4); (try have z6 := Nat.lt_of_succ_le k4); (try have z7 := Nat.lt_of_succ_lt z6))
      | fail "no arm")
    all_goals go_wp2_with fail
    all_goals go_meet
    all_goals
      refine box2_cut (B := 0) ?_ ?_ ?_ (And.left (by assumption))
      · first | (with_reducible refine set2 (u0 := .int .i64 0) (u1 := .int .i64 0) _ _ ?_ ?_ <;> (go_simp; done)) | (refine ⟨?_, ?_⟩ <;> (go_simp; done))
      · have := HK1.out.1.size
        first | omega | (simp; done) | (simp; omega)
      · first | omega | (simp [World.setCell]; done) | (simp [World.setCell]; omega)
  case rest =>
  obtain ⟨g6, rfl, rfl, r60, r61, hg6, hgz6, hB6⟩ := hcut
  obtain ⟨w6, rfl⟩ : ∃ w6 : World, w6 = wc := ⟨_, rfl⟩
  have hz6 := hB6.size
  have t50 := (hB6.cell (p := ⟨g5, 0, none⟩) hgz5).trans r50
  have t51 := (hB6.cell (p := ⟨g5, 1, none⟩) hgz5).trans r51
  have HW6 := Lib.hid (HW5.out.trans (hB6.mono HW5.out.size))
  have u5 : g5 < w6.heap.size := by omega
  have hP1 : (0 : Int) ≤ (P1 : Int) := by omega
  have hQ1 : (0 : Int) < (Q1 : Int) := by omega
  have HV : (hv = 1 ∧ P1 = Q1) ∨ (hv = 2 ∧ P1 = 0) ∨ (hv = 3 ∧ P1 ≠ Q1 ∧ P1 ≠ 0) := by
    have h := HR.out
    by_cases h1 : n = all
    · rw [if_pos h1] at h
      exact .inl ⟨h, a5.2 h1⟩
    · have h1' := fun e => h1 (a5.1 e)
      by_cases h2 : n = 0
      · rw [if_neg h1, if_pos h2] at h
        exact .inr (.inl ⟨h, a6.2 h2⟩)
      · rw [if_neg h1, if_neg h2] at h
        exact .inr (.inr ⟨h, h1', fun e => h2 (a6.1 e)⟩)
  have HVV := Lib.hid HV
  clear y50 y51 y52 y53 q5 r50 r51 hB6 HV hz6 hgz5 hg5 hg6
  go_upto_region 6 with fail
  go_cut [101] (fun v wx => v = .bool false ∧ wx.cell? ⟨g5, 0, none⟩ = some (.int .i64 (P1 : Nat)) ∧ wx.cell? ⟨g5, 1, none⟩ = some (.int .i64 (Q1 : Nat)) ∧ wx.cell? ⟨g6, 0, none⟩ = some (.int .i64 (P2 : Nat)) ∧ wx.cell? ⟨g6, 1, none⟩ = some (.int .i64 (Q2 : Nat)) ∧ Below w6.heap.size w6 wx)
  case first =>
    have HE1 := Lib.hid (show (hv == 1) = ((P1 : Int) == (Q1 : Int)) by
      rcases HVV.out with ⟨rfl, h1⟩ | ⟨rfl, h1⟩ | ⟨rfl, h1, h2⟩
      · rw [h1]; simp
      · have : ((P1 : Int) == (Q1 : Int)) = false := by simp; omega
        rw [this]; rfl
      · have : ((P1 : Int) == (Q1 : Int)) = false := by simp; omega
        rw [this]; rfl)
    have HE2 := Lib.hid (show (hv == 2) = ((P1 : Int) == 0) by
      rcases HVV.out with ⟨rfl, h1⟩ | ⟨rfl, h1⟩ | ⟨rfl, h1, h2⟩
      · have : ((P1 : Int) == 0) = false := by simp; omega
        rw [this]; rfl
      · rw [h1]; simp
      · have : ((P1 : Int) == 0) = false := by simp; omega
        rw [this]; rfl)
    clear hP1 hQ1 a1 a2 a3 a4 a5 a6 b1 b2 b3 b4 b5 b6 HR hna hma hall0 hax p1b q1b p2b q2b
    go_wp2_with fail
    refine (HPX.out _).mono ?_
    rintro e w7 ⟨rfl, hb7⟩
    have s0 := (hb7.cell (p := ⟨g5, 0, none⟩) u5).trans t50
    have s1 := (hb7.cell (p := ⟨g5, 1, none⟩) u5).trans t51
    have s2 := (hb7.cell (p := ⟨g6, 0, none⟩) hgz6).trans r60
    have s3 := (hb7.cell (p := ⟨g6, 1, none⟩) hgz6).trans r61
    have u7 : g5 < w7.heap.size := Nat.lt_of_lt_of_le u5 hb7.size
    have u8 : g6 < w7.heap.size := Nat.lt_of_lt_of_le hgz6 hb7.size
    have HB7 := Lib.hid hb7
    clear hb7
    go_wp2_with fail
    refine (HPY.out _).mono ?_
    rintro e w8 ⟨rfl, hb8⟩
    have o0 := (hb8.cell (p := ⟨g5, 0, none⟩) u7).trans s0
    have o1 := (hb8.cell (p := ⟨g5, 1, none⟩) u7).trans s1
    have o2 := (hb8.cell (p := ⟨g6, 0, none⟩) u8).trans s2
    have o3 := (hb8.cell (p := ⟨g6, 1, none⟩) u8).trans s3
    have HB8 := Lib.hid (HB7.out.trans (hb8.mono HB7.out.size))
    clear hb8 s0 s1 s2 s3 t50 t51 r60 r61
    go_wp2_with fail
    all_goals go_meet
    all_goals first
      | exact absurd HE1.out (by assumption)
      | (refine ⟨?_, o0, o1, o2, o3, HB8.out⟩
         rw [HE2.out]
         generalize ((P1 : Int) == 0) = z
         cases z <;> rfl)
  case rest =>
  obtain ⟨rfl, l0, l1, l2, l3, hB9⟩ := hcut
  obtain ⟨w9, rfl⟩ : ∃ w9 : World, w9 = wc := ⟨_, rfl⟩
  have HW9 := Lib.hid (HW6.out.trans (hB9.mono HW6.out.size))
  clear hB9 t50 t51 r60 r61 u5
  go_wp2_with fail
  go_loopw [13] (fun i wr => ∃ j : Nat, j ≤ yl ∧ i = .int .i64 j ∧ (∀ q (h1 : q < x.length) (h2 : q < y.length), q < j → y[q] ≤ x[q]) ∧ wr.cell? ⟨g5, 0, none⟩ = some (.int .i64 (P1 : Nat)) ∧ wr.cell? ⟨g5, 1, none⟩ = some (.int .i64 (Q1 : Nat)) ∧ wr.cell? ⟨g6, 0, none⟩ = some (.int .i64 (P2 : Nat)) ∧ wr.cell? ⟨g6, 1, none⟩ = some (.int .i64 (Q2 : Nat)) ∧ Below w9.heap.size w9 wr) (fun i _ => yl - (intOf i).toNat)
  case atStart => exact ⟨0, by omega, rfl, fun q _ _ h => by omega, l0, l1, l2, l3, Below.refl _ _⟩
  case round =>
    clear l0 l1 l2 l3
    obtain ⟨j, hj, rfl, hall', l0, l1, l2, l3, hB⟩ := hrel
    have HALL := Lib.hid hall'
    have HB := Lib.hid hB
    clear hall'
    by_cases hlt : j < yl
    · have hj2 : j < x.length := by rw [HXL.out]; exact hlt
      have hj3 : j < y.length := by rw [HYL.out]; exact hlt
      obtain ⟨xb, xo, rfl, hxB, hxcell⟩ := HXC.out (by omega)
      obtain ⟨yb, yo, rfl, hyB, hycell⟩ := HYC.out (by omega)
      have hBw := HW9.out.trans (hB.mono HW9.out.size)
      have cx := (hBw.cell (p := ⟨xb, xo + j, none⟩) hxB).trans (hxcell j hj2)
      have cy := (hBw.cell (p := ⟨yb, yo + j, none⟩) hyB).trans (hycell j hj3)
      have hjl : (j : Int) < (yl : Int) := by omega
      have hj0 : (0 : Int) ≤ (j : Int) := by omega
      have HN := Lib.hid (show y[j] ≤ x[j] → ∀ q (h1 : q < x.length) (h2 : q < y.length), q < j + 1 → y[q] ≤ x[q] from fun h q h1 h2 hq => by
        by_cases e : q = j
        · subst e; exact h
        · exact HALL.out q h1 h2 (by omega))
      have HBW := Lib.hid hBw
      clear hxcell hycell hB hBw
      generalize x[j] = vx at *
      generalize y[j] = vy at *
      rcases Int.lt_or_le vx vy with h1 | h1
      · go_wp2_with fail
        go_quiet (fail)
        go_wp2_with fail
        refine (works_any _).mono ?_
        rintro e w10 ⟨rfl, hb10⟩
        go_wp2_with fail
        go_ret
        exact ⟨rfl, (HBW.out.trans (Go.Joins.below_draws _ _ _)).trans (hb10.mono (by simpa using HBW.out.size))⟩
      · have HN' := Lib.hid (HN.out h1)
        have h1' : ¬ vx < vy := by omega
        go_wp2_with fail
        go_quiet (fail)
        go_wp2_with fail
        go_roundw
        case rel => exact ⟨j + 1, by omega, by go_num, HN'.out, l0, l1, l2, l3, HB.out.trans (Go.Joins.below_draws _ _ _)⟩
        case measure => simp [intOf]; omega
    · obtain rfl : yl = j := by omega
      have hle := HLE.out (fun i h1 h2 => HALL.out i h1 h2 (by rw [← HXL.out]; exact h1))
      have hm1 : P1 * Q2 ≤ 36 := Nat.mul_le_mul p1b q2b
      have hm2 : P2 * Q1 ≤ 36 := Nat.mul_le_mul p2b q1b
      have hle' : (P1 : Int) * (Q2 : Int) ≤ (P2 : Int) * (Q1 : Int) := by exact_mod_cast hle
      have hi1 : (P1 : Int) * (Q2 : Int) ≤ 36 := by exact_mod_cast hm1
      have hi2 : (P2 : Int) * (Q1 : Int) ≤ 36 := by exact_mod_cast hm2
      have hi3 : (0 : Int) ≤ (P1 : Int) * (Q2 : Int) := Int.mul_nonneg (by omega) (by omega)
      have hi4 : (0 : Int) ≤ (P2 : Int) * (Q1 : Int) := Int.mul_nonneg (by omega) (by omega)
      have hwr1 : IntKind.i64.wrap ((P1 : Int) * (Q2 : Int)) = (P1 : Int) * (Q2 : Int) := IntWalk.i64_in _ ⟨by omega, by omega⟩
      have hwr2 : IntKind.i64.wrap ((P2 : Int) * (Q1 : Int)) = (P2 : Int) * (Q1 : Int) := IntWalk.i64_in _ ⟨by omega, by omega⟩
      have HBW := Lib.hid (HW9.out.trans (HB.out.mono HW9.out.size))
      clear hB hle hm1 hm2
      go_wp2_with fail
      refine (works_any _).mono ?_
      rintro e w10 ⟨rfl, hb10⟩
      go_wp2_with fail
      go_ret
      exact ⟨rfl, HBW.out.trans (hb10.mono HBW.out.size)⟩
end Go.Proofs.Ytigeiaiohdemiaa
