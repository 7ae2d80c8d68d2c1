/- FlongsOrder: the walk. -/
import Derived.Test.YtgniblcagjdpnaaHH
import Derived.Test.YtgniblcagjdpnaaGK
import Derived.Test.YtgniblcagjdpnaaGB
namespace Go.Proofs.Ytgniblcagjdpnaa
set_option linter.unusedVariables false
set_option linter.unusedSimpArgs false
open Go.RowKit

theorem gS_drew {W0 w1 : World} {g : Nat} (h : W0.grownBy w1 (some g) ∧ ∀ b o, b < W0.heap.size → ¬ b = g → w1.cell? ⟨b, o, none⟩ = W0.cell? ⟨b, o, none⟩) : W0.grownBy w1.drew (some g) ∧ ∀ b o, b < W0.heap.size → ¬ b = g → w1.drew.cell? ⟨b, o, none⟩ = W0.cell? ⟨b, o, none⟩ := ⟨gbx_drew h.1, h.2⟩
theorem gS_of {W0 w1 : World} {g : Nat} (h : W0.grownBy w1 (some g)) : W0.grownBy w1 (some g) ∧ ∀ b o, b < W0.heap.size → ¬ b = g → w1.cell? ⟨b, o, none⟩ = W0.cell? ⟨b, o, none⟩ :=
  ⟨h, fun b o hb hne => World.cell?_of_block (w := W0) (a := ⟨b, o, none⟩) (h.block b hb (fun e => hne (by injection e)))⟩
theorem gS_alloc {W0 w1 : World} {g : Nat} (o : Obj) (h : W0.grownBy w1 (some g) ∧ ∀ b o, b < W0.heap.size → ¬ b = g → w1.cell? ⟨b, o, none⟩ = W0.cell? ⟨b, o, none⟩) : W0.grownBy (w1.alloc o) (some g) ∧ ∀ b o', b < W0.heap.size → ¬ b = g → (w1.alloc o).cell? ⟨b, o', none⟩ = W0.cell? ⟨b, o', none⟩ := gS_of (gbx_alloc h.1 o)
theorem gS_set {W0 w1 : World} {g : Nat} (i : Nat) (v : Value) (h : W0.grownBy w1 (some g) ∧ ∀ b o, b < W0.heap.size → ¬ b = g → w1.cell? ⟨b, o, none⟩ = W0.cell? ⟨b, o, none⟩) : W0.grownBy (w1.setCell ⟨g, i, none⟩ v) (some g) ∧ ∀ b o', b < W0.heap.size → ¬ b = g → (w1.setCell ⟨g, i, none⟩ v).cell? ⟨b, o', none⟩ = W0.cell? ⟨b, o', none⟩ := gS_of (gbx_set h.1 i v)
theorem gS_below {W0 w1 w2 : World} {g : Nat} (h : W0.grownBy w1 (some g) ∧ ∀ b o, b < W0.heap.size → ¬ b = g → w1.cell? ⟨b, o, none⟩ = W0.cell? ⟨b, o, none⟩) (hb : Below w1.heap.size w1 w2) : W0.grownBy w2 (some g) ∧ ∀ b o', b < W0.heap.size → ¬ b = g → w2.cell? ⟨b, o', none⟩ = W0.cell? ⟨b, o', none⟩ := gS_of (gbx_below hb h.1)
theorem box2_cutE {g : Nat} {W0 Wf : World} {v0 v1 : Value} {e : Int} (hc : Wf.cell? ⟨g, 0, none⟩ = some v0 ∧ Wf.cell? ⟨g, 1, none⟩ = some v1) (h1 : W0.heap.size ≤ g) (h2 : g < Wf.heap.size) (h3 : Below W0.heap.size W0 Wf) :
    ∃ g', Value.pointer (some ⟨g, 0, none⟩) = .pointer (some ⟨g', 0, none⟩) ∧ Value.int .i64 e = .int .i64 e ∧ Wf.cell? ⟨g', 0, none⟩ = some v0 ∧ Wf.cell? ⟨g', 1, none⟩ = some v1 ∧ W0.heap.size ≤ g' ∧ g' < Wf.heap.size ∧ Below W0.heap.size W0 Wf :=
  ⟨g, rfl, rfl, hc.1, hc.2, h1, h2, h3⟩


set_option maxRecDepth 100000 in
set_option maxHeartbeats 4000000 in
theorem order_early (s : FShop) (ma : Option Addr) (ml mc : Nat) (wa : Option Addr) (wl wc : Nat) (na : Option Addr) (nl nc : Nat) (n : Int) (xa : Option Addr) (xl xc : Nat) (w : World) (hp : FAt w ma ml mc wa wl wc na nl nc s) (hm : xl ≤ maxLen) (h : ¬ (s.ok = true ∧ 0 ≤ n ∧ n ≤ 100 ∧ xl ≤ 40)) :
    Calls Try.prog 10 #[.agg #[.slice ma ml mc, .slice wa wl wc, .slice na nl nc, .int .i64 s.fresh], .int .i64 n, .slice xa xl xc] w fun e w' => e = .returned (.bool true) ∧ Below w.heap.size w w' := by
  have HR := Lib.hid (fun b (h : s.ok = b) W (hb : Below w.heap.size w W) => ready_is s ma ml mc wa wl wc na nl nc b h W (hp.below hb))
  unfold maxLen at hm
  clear hp
  rcases ho : s.ok with - | -
  · have HR1 := Lib.hid (HR.out _ ho)
    clear ho h
    go_enter Try.func10, Try.ntmps10
    go_wp2_with fail
    refine (HR1.out _ (by repeat (first | exact Below.refl _ _ | (refine Below.alloc ?_ (by first | omega | (simp; omega) | simp) _) | (refine Below.setCell ?_ (by first | omega | (simp; omega) | simp) _) | refine Below.drew ?_))).mono ?_
    rintro e w1 ⟨rfl, hb1⟩
    have hw1 := ((by repeat (first | exact Below.refl _ _ | (refine Below.alloc ?_ (by first | omega | (simp; omega) | simp) _) | (refine Below.setCell ?_ (by first | omega | (simp; omega) | simp) _) | refine Below.drew ?_)) : Below w.heap.size w _).trans (hb1.mono (by first | (simp; done) | (simp; omega) | omega))
    clear hb1
    go_wp2_with fail
    refine (works_any _).mono ?_
    rintro e w9 ⟨rfl, hb9⟩
    go_wp2_with fail
    go_ret
    exact ⟨rfl, hw1.trans (hb9.mono hw1.size)⟩
  have HR1 := Lib.hid (HR.out _ ho)
  by_cases h1 : n < 0
  · clear ho h
    go_enter Try.func10, Try.ntmps10
    go_wp2_with fail
    refine (HR1.out _ (by repeat (first | exact Below.refl _ _ | (refine Below.alloc ?_ (by first | omega | (simp; omega) | simp) _) | (refine Below.setCell ?_ (by first | omega | (simp; omega) | simp) _) | refine Below.drew ?_))).mono ?_
    rintro e w1 ⟨rfl, hb1⟩
    have hw1 := ((by repeat (first | exact Below.refl _ _ | (refine Below.alloc ?_ (by first | omega | (simp; omega) | simp) _) | (refine Below.setCell ?_ (by first | omega | (simp; omega) | simp) _) | refine Below.drew ?_)) : Below w.heap.size w _).trans (hb1.mono (by first | (simp; done) | (simp; omega) | omega))
    clear hb1
    go_wp2_with fail
    refine (works_any _).mono ?_
    rintro e w9 ⟨rfl, hb9⟩
    go_wp2_with fail
    go_ret
    exact ⟨rfl, hw1.trans (hb9.mono hw1.size)⟩
  by_cases h2 : 100 < n
  · clear ho h
    go_enter Try.func10, Try.ntmps10
    go_wp2_with fail
    refine (HR1.out _ (by repeat (first | exact Below.refl _ _ | (refine Below.alloc ?_ (by first | omega | (simp; omega) | simp) _) | (refine Below.setCell ?_ (by first | omega | (simp; omega) | simp) _) | refine Below.drew ?_))).mono ?_
    rintro e w1 ⟨rfl, hb1⟩
    have hw1 := ((by repeat (first | exact Below.refl _ _ | (refine Below.alloc ?_ (by first | omega | (simp; omega) | simp) _) | (refine Below.setCell ?_ (by first | omega | (simp; omega) | simp) _) | refine Below.drew ?_)) : Below w.heap.size w _).trans (hb1.mono (by first | (simp; done) | (simp; omega) | omega))
    clear hb1
    go_wp2_with fail
    refine (works_any _).mono ?_
    rintro e w9 ⟨rfl, hb9⟩
    go_wp2_with fail
    go_ret
    exact ⟨rfl, hw1.trans (hb9.mono hw1.size)⟩
  · have h3 : (40 : Int) < (xl : Int) := by
      by_cases h4 : xl ≤ 40
      · exact absurd ⟨ho, by omega, by omega, h4⟩ h
      · omega
    clear ho h
    go_enter Try.func10, Try.ntmps10
    go_wp2_with fail
    refine (HR1.out _ (by repeat (first | exact Below.refl _ _ | (refine Below.alloc ?_ (by first | omega | (simp; omega) | simp) _) | (refine Below.setCell ?_ (by first | omega | (simp; omega) | simp) _) | refine Below.drew ?_))).mono ?_
    rintro e w1 ⟨rfl, hb1⟩
    have hw1 := ((by repeat (first | exact Below.refl _ _ | (refine Below.alloc ?_ (by first | omega | (simp; omega) | simp) _) | (refine Below.setCell ?_ (by first | omega | (simp; omega) | simp) _) | refine Below.drew ?_)) : Below w.heap.size w _).trans (hb1.mono (by first | (simp; done) | (simp; omega) | omega))
    clear hb1
    go_wp2_with fail
    refine (works_any _).mono ?_
    rintro e w9 ⟨rfl, hb9⟩
    go_wp2_with fail
    go_ret
    exact ⟨rfl, hw1.trans (hb9.mono hw1.size)⟩

set_option maxRecDepth 100000 in
set_option maxHeartbeats 16000000 in
theorem order_walk (s : FShop) (ma : Option Addr) (ml mc : Nat) (wa : Option Addr) (wl wc : Nat) (na : Option Addr) (nl nc : Nat) (f : Nat) (xa : Option Addr) (xl xc : Nat) (x : List Int) (w : World) (hp : FAt w ma ml mc wa wl wc na nl nc s) (hx : IntsAt w xa xl x) (ho : s.ok = true) (hf : f ≤ 100) (h40 : xl ≤ 40) :
    Calls Try.prog 10 #[.agg #[.slice ma ml mc, .slice wa wl wc, .slice na nl nc, .int .i64 s.fresh], .int .i64 f, .slice xa xl xc] w fun e w' => e = .returned (.bool true) ∧ Below w.heap.size w w' := by
  have hml := hp.1.1
  have hwl := hp.2.1.1
  have hnl := hp.2.2.1
  obtain ⟨hn3, hm5, hw6⟩ := FShop.ok_few ho
  have hx40 : ∀ x ∈ s.worlds, x.length ≤ 40 := fun x hx => by
    obtain ⟨k, hk, rfl⟩ := List.mem_iff_getElem.1 hx
    have := (FShop.ok_world ho k hk).1; omega
  have HR1 := Lib.hid (fun W (hb : Below w.heap.size w W) => ready_is s ma ml mc wa wl wc na nl nc true ho W (hp.below hb))
  have HCO := Lib.hid (fun W (hb : Below w.heap.size w W) => Copy_of s ma ml mc wa wl wc na nl nc W (hp.below hb) (FShop.ok_small ho))
  have HP := Lib.hid (fun W (hb : Below w.heap.size w W) => hp.below hb)
  have HAT := Lib.hid (fun ws (hws : ∀ x ∈ ws, x ∈ s.worlds) n0' gm cm va vc gw cw vs N1 W (h : CopyRow (s.with ws) n0' ml wl nl gm cm va vc gw cw vs N1 W) => h.at (by omega) (by omega) (by omega) (fun y hy => hx40 y (hws y hy)))
  have HWC := Lib.hid hp.2.1.2.2
  have HWL := Lib.hid hwl
  have hwlen : wl ≤ 6 := by omega
  have h40' : ¬ (40 : Int) < (xl : Int) := by omega
  have hf0 : (0 : Int) ≤ (f : Int) := by omega
  have hf1 : ¬ (f : Int) < 0 := by omega
  have hf2 : ¬ (100 : Int) < (f : Int) := by omega
  have HX40 := Lib.hid hx40
  have HXX := Lib.hid (fun W (hb : Below w.heap.size w W) => hx.below hb)
  clear hp hx ho hml hwl hnl hn3 hm5 hw6 hx40
  go_enter Try.func10, Try.ntmps10
  go_wp2_with fail
  refine (HR1.out _ (by repeat (first | exact Below.refl _ _ | (refine Below.alloc ?_ (by first | omega | (simp; omega) | simp) _) | (refine Below.setCell ?_ (by first | omega | (simp; omega) | simp) _) | refine Below.drew ?_))).mono ?_
  rintro e w1 ⟨rfl, hb1⟩
  have hx0 := fun i => (hb1.cell (p := ⟨w.heap.size, i, none⟩) (by simp)).trans (World.cell?_alloc_new w #[.slice ma ml mc, .slice wa wl wc, .slice na nl nc, .int .i64 s.fresh] 26 i)
  obtain ⟨x0, x1, x2, x3⟩ : w1.cell? ⟨w.heap.size, 0, none⟩ = some (.slice ma ml mc) ∧ w1.cell? ⟨w.heap.size, 1, none⟩ = some (.slice wa wl wc) ∧ w1.cell? ⟨w.heap.size, 2, none⟩ = some (.slice na nl nc) ∧ w1.cell? ⟨w.heap.size, 3, none⟩ = some (.int .i64 s.fresh) := ⟨hx0 0, hx0 1, hx0 2, hx0 3⟩
  have q1 : w.heap.size < w1.heap.size := by have := hb1.size; simp at this; omega
  have hw1 := ((by repeat (first | exact Below.refl _ _ | (refine Below.alloc ?_ (by first | omega | (simp; omega) | simp) _) | (refine Below.setCell ?_ (by first | omega | (simp; omega) | simp) _) | refine Below.drew ?_)) : Below w.heap.size w _).trans (hb1.mono (by first | (simp; done) | (simp; omega) | omega))
  clear hb1 hx0
  go_wp2_with fail
  refine (HCO.out _ hw1).mono ?_
  rintro e u1 ⟨gm, cm, va, vc, gw, cw, vs, N1, rfl, hR1, hb3⟩
  have hu1 := hw1.trans (hb3.mono hw1.size)
  have hR1c := hR1.cap hb3.size
  obtain ⟨NN, hNN⟩ : ∃ NN, NN = min N1 u1.heap.size := ⟨_, rfl⟩
  rw [← hNN] at hR1c
  have hNu : NN ≤ u1.heap.size := by omega
  have q3 : w.heap.size < u1.heap.size := Nat.lt_of_lt_of_le q1 hb3.size
  obtain ⟨n0', hn0'⟩ : ∃ n0', n0' = w1.heap.size := ⟨_, rfl⟩
  rw [← hn0'] at hR1c
  have q4 : w.heap.size < n0' := by omega
  have y0 := (hb3.cell (p := ⟨w.heap.size, 0, none⟩) q1).trans x0; have y1 := (hb3.cell (p := ⟨w.heap.size, 1, none⟩) q1).trans x1; have y2 := (hb3.cell (p := ⟨w.heap.size, 2, none⟩) q1).trans x2; have y3 := (hb3.cell (p := ⟨w.heap.size, 3, none⟩) q1).trans x3; clear x0 x1 x2 x3
  have HR1c := Lib.hid hR1c
  clear hb3 hR1 hR1c hNN hn0' hw1 q1 HR1
  go_wp2_with fail
  obtain ⟨U, hU, hb4, hOb, -, hgU⟩ := name1kf u1 #[.slice (some gm) ml cm, .slice va wl vc, .slice (some gw) nl cw, .int .i64 s.fresh] 26
  rw [hU]
  clear hU
  obtain ⟨gO, hgO⟩ : ∃ gO, gO = u1.heap.size := ⟨_, rfl⟩
  rw [← hgO]
  rw [← hgO] at hOb hgU
  have HSB := Lib.hid (show U.cell? ⟨w.heap.size, 0, none⟩ = some (.slice ma ml mc) ∧ U.cell? ⟨w.heap.size, 1, none⟩ = some (.slice wa wl wc) ∧ U.cell? ⟨w.heap.size, 2, none⟩ = some (.slice na nl nc) ∧ U.cell? ⟨w.heap.size, 3, none⟩ = some (.int .i64 s.fresh) from ⟨(hb4.cell (p := ⟨w.heap.size, 0, none⟩) q3).trans y0, (hb4.cell (p := ⟨w.heap.size, 1, none⟩) q3).trans y1, (hb4.cell (p := ⟨w.heap.size, 2, none⟩) q3).trans y2, (hb4.cell (p := ⟨w.heap.size, 3, none⟩) q3).trans y3⟩)
  have HOB := Lib.hid (show U.cell? ⟨gO, 0, none⟩ = some (.slice (some gm) ml cm) ∧ U.cell? ⟨gO, 1, none⟩ = some (.slice va wl vc) ∧ U.cell? ⟨gO, 2, none⟩ = some (.slice (some gw) nl cw) ∧ U.cell? ⟨gO, 3, none⟩ = some (.int .i64 s.fresh) from ⟨hOb 0, hOb 1, hOb 2, hOb 3⟩)
  have hsU : w.heap.size < U.heap.size := Nat.lt_of_lt_of_le q3 hb4.size
  have HRU := Lib.hid (HR1c.out.below hb4)
  have hwU := hu1.trans (hb4.mono hu1.size)
  have HWU := Lib.hid hwU
  have hNU : NN ≤ U.heap.size := by omega
  obtain ⟨R, hR⟩ : ∃ R, (Value.slice va wl vc).ownBlock = R := ⟨_, rfl⟩
  have hRb : ∀ r, R = some r → n0' ≤ r ∧ r < gO := fun r hr => by
    have := own_base HR1c.out.2.2.2.1 r (by rw [hR]; exact hr)
    omega
  have HRB := Lib.hid hRb
  have hRw : ¬ some w.heap.size = R := fun e => by have := (hRb _ e.symm).1; omega
  have hRg : ¬ some gO = R := fun e => by have := (hRb _ e.symm).2; omega
  have HRR := Lib.hid hR
  clear hb4 hOb HR1c hu1 hwU q3 hgO y0 y1 y2 y3 hRb hR hNu
  go_loopw [8] (fun i wr => ∃ (k : Nat) (vs' : List Value), k ≤ wl ∧ i = .int .i64 k ∧ CopyRow (s.with (mixL f s.worlds k)) n0' ml wl nl gm cm va vc gw cw vs' NN wr ∧ U.grownBy wr R) (fun i _ => wl - (intOf i).toNat)
  case atStart => exact ⟨0, vs, by omega, rfl, by rw [mix_zero]; exact HRU.out, gbx_refl _ _⟩
  case round =>
    obtain ⟨k, vs', hk, rfl, hCR, hG⟩ := hrel
    obtain ⟨W1, rfl⟩ : ∃ W1 : World, W1 = wr := ⟨_, rfl⟩
    have hcell : ∀ b i, b < U.heap.size → ¬ some b = R → W1.cell? ⟨b, i, none⟩ = U.cell? ⟨b, i, none⟩ := fun b i h1 h2 => World.cell?_of_block (w := U) (a := ⟨b, i, none⟩) (hG.block b h1 h2)
    obtain ⟨x0, x1, x2, x3⟩ : W1.cell? ⟨w.heap.size, 0, none⟩ = some (.slice ma ml mc) ∧ W1.cell? ⟨w.heap.size, 1, none⟩ = some (.slice wa wl wc) ∧ W1.cell? ⟨w.heap.size, 2, none⟩ = some (.slice na nl nc) ∧ W1.cell? ⟨w.heap.size, 3, none⟩ = some (.int .i64 s.fresh) := ⟨(hcell _ 0 hsU hRw).trans HSB.out.1, (hcell _ 1 hsU hRw).trans HSB.out.2.1, (hcell _ 2 hsU hRw).trans HSB.out.2.2.1, (hcell _ 3 hsU hRw).trans HSB.out.2.2.2⟩
    obtain ⟨o0, o1, o2, o3⟩ : W1.cell? ⟨gO, 0, none⟩ = some (.slice (some gm) ml cm) ∧ W1.cell? ⟨gO, 1, none⟩ = some (.slice va wl vc) ∧ W1.cell? ⟨gO, 2, none⟩ = some (.slice (some gw) nl cw) ∧ W1.cell? ⟨gO, 3, none⟩ = some (.int .i64 s.fresh) := ⟨(hcell _ 0 hgU hRg).trans HOB.out.1, (hcell _ 1 hgU hRg).trans HOB.out.2.1, (hcell _ 2 hgU hRg).trans HOB.out.2.2.1, (hcell _ 3 hgU hRg).trans HOB.out.2.2.2⟩
    have hbw : Below w.heap.size w W1 := HWU.out.grown hG HWU.out.size (fun r hr => by have := (HRB.out r hr).1; omega)
    have hs1 : w.heap.size < W1.heap.size := Nat.lt_of_lt_of_le hsU hG.size
    have hg1 : gO < W1.heap.size := Nat.lt_of_lt_of_le hgU hG.size
    have HG := Lib.hid hG
    have HCR := Lib.hid hCR
    have HBW := Lib.hid hbw
    have hN1 : NN ≤ W1.heap.size := Nat.le_trans hNU hG.size
    clear hcell hG hCR
    by_cases hlt : k < wl
    · obtain ⟨gv, rfl⟩ : ∃ gv, va = some ⟨gv, 0, none⟩ := by
        rcases HCR.out.2.2.2.1.2 with ⟨_, h0⟩ | ⟨g, c, cur, e1, _⟩
        · omega
        · injection e1 with e1; exact ⟨g, e1⟩
      obtain rfl : some gv = R := HRR.out
      have hgv := HRB.out gv rfl
      obtain ⟨hv0, cur, hvc⟩ := own_parts HCR.out.2.2.2.1
      have hgvW : gv < W1.heap.size := (Array.getElem?_eq_some_iff.1 hvc).1
      obtain ⟨q, hq⟩ : ∃ q, (k + f) % wl = q := ⟨_, rfl⟩
      have hql : q < wl := by rw [← hq]; exact Nat.mod_lt _ (by omega)
      have hqs : q < s.worlds.length := by rw [HWL.out]; exact hql
      obtain ⟨wb, wo, rfl, hwb, hwc⟩ := HWC.out (by omega)
      obtain ⟨ra, rl, rc, hcc, hints⟩ := hwc q hqs
      have hcx := (hbw.cell (p := ⟨wb, wo + q, none⟩) hwb).trans hcc
      have HXS := Lib.hid (fun W (h : W1.grownBy W (some gv)) h0 => ints_src2 (hints.below (hbw.grown h hbw.size (fun r hr => by injection hr with hr; omega))) h0)
      have hrl := hints.1
      have hrl1 : rl ≤ 1000 := by rw [← hrl]; have := HX40.out _ (List.getElem_mem hqs); omega
      have HMX := Lib.hid (show mixL f s.worlds (k + 1) = (mixL f s.worlds k).set k s.worlds[q] from by
        have h2 : (k + f) % s.worlds.length < s.worlds.length := Nat.mod_lt _ (by omega)
        rw [mix_next f s.worlds k (by rw [HWL.out]; exact hlt) h2]
        have e : (k + f) % s.worlds.length = q := by rw [HWL.out]; exact hq
        simp only [e])
      obtain ⟨y, hy⟩ : ∃ y, s.worlds[q] = y := ⟨_, rfl⟩
      rw [hy] at HMX hrl
      have hxc : (y.map (Value.int .i64)).length = rl * 1 := by simp [hrl]
      rw [hy] at HXS
      subst hrl
      have hwbW : wb < W1.heap.size := Nat.lt_of_lt_of_le hwb hbw.size
      have m1 : ¬ w.heap.size = gv := by omega
      have m2 : ¬ gO = gv := by omega
      have m3 : ¬ wb = gv := by omega
      obtain ⟨u0, hu0⟩ : ∃ u0, W1.cell? ⟨gv, k, none⟩ = some u0 := by
        have h1 := HCR.out.2.2.2.1.cells (g := gv) rfl k
        have h3 : k < vs'.length := by have := HCR.out.2.2.2.1.1; omega
        have h2 := h1 vs'[k] (List.getElem?_eq_getElem h3)
        rw [Addr.add_lit, Nat.zero_add] at h2
        exact ⟨_, h2⟩
      have hf0' : W1.frozen? ⟨gv, k, none⟩ = false := by simp [World.frozen?, hvc]
      have hkl : (k : Int) < (wl : Int) := by omega
      have hk0 : (0 : Int) ≤ (k : Int) := by omega
      have hqlI : (q : Int) < (wl : Int) := by omega
      have hq0 : (0 : Int) ≤ (q : Int) := by omega
      have hwr : IntKind.i64.wrap ((k : Int) + (f : Int)) = (k : Int) + (f : Int) := IntWalk.i64_in _ ⟨by omega, by omega⟩
      have htm : ((k : Int) + (f : Int)).tmod (wl : Int) = (q : Int) := by
        rw [← hq, Int.tmod_eq_emod_of_nonneg (by omega)]
        push_cast
        rfl
      have hwl0 : (0 : Int) < (wl : Int) := by omega
      have hwl1 : ¬ (wl : Int) = 0 := by omega
      have hwl2 : ¬ wl = 0 := by omega
      have hwr2 : IntKind.i64.wrap (q : Int) = (q : Int) := IntWalk.i64_in _ ⟨by omega, by omega⟩
      clear hcc hints hwc hy hq hbw hv0 hgv cur hvc
      go_upto_region 7 with fail
      go_region_held3 (fun w' => W1.grownBy w' (some gv) ∧ ∀ b o, b < W1.heap.size → ¬ b = gv → w'.cell? ⟨b, o, none⟩ = W1.cell? ⟨b, o, none⟩) (first | with_reducible assumption | ((repeat (first | with_reducible refine gS_drew ?_ | with_reducible refine gS_alloc _ ?_ | with_reducible refine gS_set _ _ ?_)); first | with_reducible assumption | with_reducible exact gS_of (gbx_refl _ _))) (first
        | ((with_reducible refine step_append_fresh _ 24 3 _ 1 8 Try.underlying24 Try.info3 rfl (by decide) (by decide) y.length rc ra (y.map (Value.int .i64)) hxc hrl1 rfl _ _ rfl ?_ ?_ ?_ ?_); (· exact ⟨_, rfl⟩); (· rfl); (· intro h0; exact HXS.out _ (And.left (by assumption)) h0); intro ga cA wA hfA hbA; have kA := gS_below (by assumption) hbA; have kAb : Below W1.heap.size W1 wA := below_via (Lib.hid hbA) (by first | exact Nat.le_refl _ | (simp; done) | (simp; omega)) (by repeat (first | exact Below.refl _ _ | (refine Below.alloc ?_ (by first | omega | (simp; omega) | simp) _) | (refine Below.setCell ?_ (by first | omega | (simp; omega) | simp) _) | refine Below.drew ?_)); have HKA := Lib.hid kAb; have gA := (kAb.cell (p := ⟨gv, k, none⟩) hgvW).trans hu0; have gF := (kAb.frozen (p := ⟨gv, k, none⟩) hgvW).trans hf0'; have HFA := Lib.hid hfA; clear hfA hbA kAb)
        | fail "no arm")
      all_goals
        go_wp2_with fail
        go_roundw
        case rel =>
          refine ⟨k + 1, _, by omega, by go_num, by rw [HMX.out]; exact (HCR.out.below HKA.out).setWorld k ga y cA HFA.out (by first | omega | (simp; omega)), gbx_set (gbx_below HKA.out HG.out) _ _⟩
        case measure => simp [intOf]; omega
    · obtain rfl : wl = k := by omega
      clear hlt hk hRw hRg HRB HRR
      have hperm := rot_perm f s.worlds
      obtain ⟨rt, hrt⟩ : ∃ rt, rotL f s.worlds = rt := ⟨_, rfl⟩
      rw [hrt] at hperm
      have hCRf := HCR.out
      rw [show mixL f s.worlds wl = rt by rw [← hrt, ← mix_all f s.worlds, HWL.out]] at hCRf
      have HPO := Lib.hid (fun W (hb : Below W1.heap.size W1 W) => HAT.out rt (fun z hz => hperm.mem_iff.1 hz) _ _ _ _ _ _ _ _ _ W (hCRf.below hb))
      obtain ⟨a1, a2, a3, a4, a5, a6, a7, a8, a9, a10, a11⟩ := with_answers hperm x
      have hfr : (s.with rt).fresh = s.fresh := rfl
      have hmo : (s.with rt).moulds = s.moulds := rfl
      obtain ⟨dl, hdl⟩ : ∃ dl, s.divideL = dl := ⟨_, rfl⟩
      obtain ⟨de, hde⟩ : ∃ de, s.divideE = de := ⟨_, rfl⟩
      obtain ⟨bl, hbl⟩ : ∃ bl, s.boldL = bl := ⟨_, rfl⟩
      obtain ⟨be, hbe⟩ : ∃ be, s.boldE = be := ⟨_, rfl⟩
      obtain ⟨tn, htn⟩ : ∃ tn, s.testN = tn := ⟨_, rfl⟩
      obtain ⟨te, hte⟩ : ∃ te, s.testE = te := ⟨_, rfl⟩
      obtain ⟨nn, hnn⟩ : ∃ nn, s.newN = nn := ⟨_, rfl⟩
      obtain ⟨ne, hne⟩ : ∃ ne, s.ask true = ne := ⟨_, rfl⟩
      obtain ⟨cp, hcp⟩ : ∃ cp, s.chanceP x = cp := ⟨_, rfl⟩
      obtain ⟨cq, hcq⟩ : ∃ cq, s.chanceQ x = cq := ⟨_, rfl⟩
      obtain ⟨ce, hce⟩ : ∃ ce, s.ask (sharesB s.moulds x) = ce := ⟨_, rfl⟩
      rw [hdl] at a1
      rw [hde] at a2
      rw [hbl] at a3
      rw [hbe] at a4
      rw [htn] at a5
      rw [hte] at a6
      rw [hnn] at a7
      rw [hne] at a8
      rw [hcp] at a9
      rw [hcq] at a10
      rw [hce] at a11
      have HBV := Lib.hid (fun W (hb : Below W1.heap.size W1 W) => hbw.trans (hb.mono hbw.size))
      have HD1 := Lib.hid (fun W (hb : Below W1.heap.size W1 W) => Divide_all s ma ml mc wa wl wc na nl nc dl de hdl hde W (HP.out W (HBV.out W hb)))
      have HD2 := Lib.hid (fun W (hb : Below W1.heap.size W1 W) => Divide_all (s.with rt) (some gm) ml cm va wl vc (some gw) nl cw dl de a1 a2 W (HPO.out W hb))
      have HB1 := Lib.hid (fun W (hb : Below W1.heap.size W1 W) => Bold_all s ma ml mc wa wl wc na nl nc bl be hbl hbe W (HP.out W (HBV.out W hb)))
      have HB2 := Lib.hid (fun W (hb : Below W1.heap.size W1 W) => Bold_all (s.with rt) (some gm) ml cm va wl vc (some gw) nl cw bl be a3 a4 W (HPO.out W hb))
      have HT1 := Lib.hid (fun W (hb : Below W1.heap.size W1 W) => Test_all s ma ml mc wa wl wc na nl nc tn te htn hte W (HP.out W (HBV.out W hb)))
      have HT2 := Lib.hid (fun W (hb : Below W1.heap.size W1 W) => Test_all (s.with rt) (some gm) ml cm va wl vc (some gw) nl cw tn te a5 a6 W (HPO.out W hb))
      have HN1' := Lib.hid (fun W (hb : Below W1.heap.size W1 W) => New_all s ma ml mc wa wl wc na nl nc nn ne hnn hne W (HP.out W (HBV.out W hb)))
      have HN2' := Lib.hid (fun W (hb : Below W1.heap.size W1 W) => New_all (s.with rt) (some gm) ml cm va wl vc (some gw) nl cw nn ne a7 a8 W (HPO.out W hb))
      have HCX := Lib.hid (fun W (hb : Below W1.heap.size W1 W) (ga : Option Addr) (gc : Nat) (hi : IntsAt W ga xl x) => Chance_all s ma ml mc wa wl wc na nl nc ga xl gc x cp cq ce hcp hcq hce W (HP.out W (HBV.out W hb)) hi)
      have HCY := Lib.hid (fun W (hb : Below W1.heap.size W1 W) (ga : Option Addr) (gc : Nat) (hi : IntsAt W ga xl x) => Chance_all (s.with rt) (some gm) ml cm va wl vc (some gw) nl cw ga xl gc x cp cq ce a9 a10 (by rw [hmo]; exact a11) W (HPO.out W hb) hi)
      rw [hfr] at HD2 HB2 HT2 HN2' HCY
      have HSX := Lib.hid (fun W (hb : Below W1.heap.size W1 W) h0 => ints_src2 (HXX.out W (HBV.out W hb)) h0)
      have hxl1 := (HXX.out w (Below.refl _ _)).1
      have hxc : (x.map (Value.int .i64)).length = xl * 1 := by simp [hxl1]
      have hxl0 : xl ≤ maxLen := by unfold maxLen; omega
      have hxl1000 : xl ≤ 1000 := by omega
      have hgU' := hg1
      replace HSB := Lib.hid (show W1.cell? ⟨w.heap.size, 0, none⟩ = some (.slice ma ml mc) ∧ W1.cell? ⟨w.heap.size, 1, none⟩ = some (.slice wa wl wc) ∧ W1.cell? ⟨w.heap.size, 2, none⟩ = some (.slice na nl nc) ∧ W1.cell? ⟨w.heap.size, 3, none⟩ = some (.int .i64 s.fresh) from ⟨x0, x1, x2, x3⟩)
      replace HOB := Lib.hid (show W1.cell? ⟨gO, 0, none⟩ = some (.slice (some gm) ml cm) ∧ W1.cell? ⟨gO, 1, none⟩ = some (.slice va wl vc) ∧ W1.cell? ⟨gO, 2, none⟩ = some (.slice (some gw) nl cw) ∧ W1.cell? ⟨gO, 3, none⟩ = some (.int .i64 s.fresh) from ⟨o0, o1, o2, o3⟩)
      clear hsU hgU
      have hsU := hs1
      have hgU := hg1
      clear hrt hperm hCRf a1 a2 a3 a4 a5 a6 a7 a8 a9 a10 a11 hfr hmo hdl hde hbl hbe htn hte hnn hne hcp hcq hce hxl1 hbw HCR HG HRU HAT HPO HWC HX40 hs1 hg1 hgU'
      go_wp2_with fail
      refine (HD1.out _ (Below.refl _ _)).mono ?_
      rintro e w2 ⟨⟨ra, rl, rc, rfl, hI1⟩, hb2⟩
      have hB2 := hb2
      have HI1 := Lib.hid hI1
      clear x0 x1 x2 x3 o0 o1 o2 o3
      have x0 := (hB2.cell (p := ⟨w.heap.size, 0, none⟩) hsU).trans HSB.out.1; have x1 := (hB2.cell (p := ⟨w.heap.size, 1, none⟩) hsU).trans HSB.out.2.1; have x2 := (hB2.cell (p := ⟨w.heap.size, 2, none⟩) hsU).trans HSB.out.2.2.1; have x3 := (hB2.cell (p := ⟨w.heap.size, 3, none⟩) hsU).trans HSB.out.2.2.2; have o0 := (hB2.cell (p := ⟨gO, 0, none⟩) hgU).trans HOB.out.1; have o1 := (hB2.cell (p := ⟨gO, 1, none⟩) hgU).trans HOB.out.2.1; have o2 := (hB2.cell (p := ⟨gO, 2, none⟩) hgU).trans HOB.out.2.2.1; have o3 := (hB2.cell (p := ⟨gO, 3, none⟩) hgU).trans HOB.out.2.2.2
      clear hb2 hI1
      go_wp2_with fail
      refine (HD2.out _ hB2).mono ?_
      rintro e w3 ⟨⟨rb, rm, rd, rfl, hI2⟩, hb3⟩
      have hB3 := hB2.trans (hb3.mono hB2.size)
      have HI2 := Lib.hid hI2
      have HI13 := Lib.hid (HI1.out.below hb3)
      clear x0 x1 x2 x3 o0 o1 o2 o3
      have x0 := (hB3.cell (p := ⟨w.heap.size, 0, none⟩) hsU).trans HSB.out.1; have x1 := (hB3.cell (p := ⟨w.heap.size, 1, none⟩) hsU).trans HSB.out.2.1; have x2 := (hB3.cell (p := ⟨w.heap.size, 2, none⟩) hsU).trans HSB.out.2.2.1; have x3 := (hB3.cell (p := ⟨w.heap.size, 3, none⟩) hsU).trans HSB.out.2.2.2; have o0 := (hB3.cell (p := ⟨gO, 0, none⟩) hgU).trans HOB.out.1; have o1 := (hB3.cell (p := ⟨gO, 1, none⟩) hgU).trans HOB.out.2.1; have o2 := (hB3.cell (p := ⟨gO, 2, none⟩) hgU).trans HOB.out.2.2.1; have o3 := (hB3.cell (p := ⟨gO, 3, none⟩) hgU).trans HOB.out.2.2.2
      clear hb3 hI2 HI1 hB2
      go_wp2_with fail
      refine (HB1.out _ hB3).mono ?_
      rintro e w4 ⟨⟨sa, sl, sc, rfl, hI3⟩, hb4⟩
      have hB4 := hB3.trans (hb4.mono hB3.size)
      have HI3 := Lib.hid hI3
      have HI14 := Lib.hid (HI13.out.below hb4)
      have HI24 := Lib.hid (HI2.out.below hb4)
      clear x0 x1 x2 x3 o0 o1 o2 o3
      have x0 := (hB4.cell (p := ⟨w.heap.size, 0, none⟩) hsU).trans HSB.out.1; have x1 := (hB4.cell (p := ⟨w.heap.size, 1, none⟩) hsU).trans HSB.out.2.1; have x2 := (hB4.cell (p := ⟨w.heap.size, 2, none⟩) hsU).trans HSB.out.2.2.1; have x3 := (hB4.cell (p := ⟨w.heap.size, 3, none⟩) hsU).trans HSB.out.2.2.2; have o0 := (hB4.cell (p := ⟨gO, 0, none⟩) hgU).trans HOB.out.1; have o1 := (hB4.cell (p := ⟨gO, 1, none⟩) hgU).trans HOB.out.2.1; have o2 := (hB4.cell (p := ⟨gO, 2, none⟩) hgU).trans HOB.out.2.2.1; have o3 := (hB4.cell (p := ⟨gO, 3, none⟩) hgU).trans HOB.out.2.2.2
      clear hb4 hI3 HI13 HI2 hB3
      go_wp2_with fail
      refine (HB2.out _ hB4).mono ?_
      rintro e w5 ⟨⟨sb, sm, sd, rfl, hI4⟩, hb5⟩
      have hB5 := hB4.trans (hb5.mono hB4.size)
      have HSI1 := Lib.hid (same_refl2 w5 ra rl rc rb rm rd dl (HI14.out.below hb5) (HI24.out.below hb5))
      have HI35 := Lib.hid (HI3.out.below hb5)
      have HI45 := Lib.hid hI4
      clear x0 x1 x2 x3 o0 o1 o2 o3
      have x0 := (hB5.cell (p := ⟨w.heap.size, 0, none⟩) hsU).trans HSB.out.1; have x1 := (hB5.cell (p := ⟨w.heap.size, 1, none⟩) hsU).trans HSB.out.2.1; have x2 := (hB5.cell (p := ⟨w.heap.size, 2, none⟩) hsU).trans HSB.out.2.2.1; have x3 := (hB5.cell (p := ⟨w.heap.size, 3, none⟩) hsU).trans HSB.out.2.2.2; have o0 := (hB5.cell (p := ⟨gO, 0, none⟩) hgU).trans HOB.out.1; have o1 := (hB5.cell (p := ⟨gO, 1, none⟩) hgU).trans HOB.out.2.1; have o2 := (hB5.cell (p := ⟨gO, 2, none⟩) hgU).trans HOB.out.2.2.1; have o3 := (hB5.cell (p := ⟨gO, 3, none⟩) hgU).trans HOB.out.2.2.2
      clear hb5 hI4 HI14 HI24 HI3 hB4
      go_wp2_with fail
      refine HSI1.out.mono ?_
      rintro e w6 ⟨rfl, hb6⟩
      have hB6 := hB5.trans (hb6.mono hB5.size)
      have HSI2 := Lib.hid (same_refl2 w6 sa sl sc sb sm sd bl (HI35.out.below hb6) (HI45.out.below hb6))
      clear x0 x1 x2 x3 o0 o1 o2 o3
      have x0 := (hB6.cell (p := ⟨w.heap.size, 0, none⟩) hsU).trans HSB.out.1; have x1 := (hB6.cell (p := ⟨w.heap.size, 1, none⟩) hsU).trans HSB.out.2.1; have x2 := (hB6.cell (p := ⟨w.heap.size, 2, none⟩) hsU).trans HSB.out.2.2.1; have x3 := (hB6.cell (p := ⟨w.heap.size, 3, none⟩) hsU).trans HSB.out.2.2.2; have o0 := (hB6.cell (p := ⟨gO, 0, none⟩) hgU).trans HOB.out.1; have o1 := (hB6.cell (p := ⟨gO, 1, none⟩) hgU).trans HOB.out.2.1; have o2 := (hB6.cell (p := ⟨gO, 2, none⟩) hgU).trans HOB.out.2.2.1; have o3 := (hB6.cell (p := ⟨gO, 3, none⟩) hgU).trans HOB.out.2.2.2
      clear hb6 hB5 HI35 HI45
      go_wp2_with fail
      refine HSI2.out.mono ?_
      rintro e w7 ⟨rfl, hb7⟩
      have hB7 := hB6.trans (hb7.mono hB6.size)
      clear x0 x1 x2 x3 o0 o1 o2 o3
      have x0 := (hB7.cell (p := ⟨w.heap.size, 0, none⟩) hsU).trans HSB.out.1; have x1 := (hB7.cell (p := ⟨w.heap.size, 1, none⟩) hsU).trans HSB.out.2.1; have x2 := (hB7.cell (p := ⟨w.heap.size, 2, none⟩) hsU).trans HSB.out.2.2.1; have x3 := (hB7.cell (p := ⟨w.heap.size, 3, none⟩) hsU).trans HSB.out.2.2.2; have o0 := (hB7.cell (p := ⟨gO, 0, none⟩) hgU).trans HOB.out.1; have o1 := (hB7.cell (p := ⟨gO, 1, none⟩) hgU).trans HOB.out.2.1; have o2 := (hB7.cell (p := ⟨gO, 2, none⟩) hgU).trans HOB.out.2.2.1; have o3 := (hB7.cell (p := ⟨gO, 3, none⟩) hgU).trans HOB.out.2.2.2
      clear hb7 hB6
      go_wp2_with fail
      refine (HT1.out _ hB7).mono ?_
      rintro e w8 ⟨rfl, hb8⟩
      have hB8 := hB7.trans (hb8.mono hB7.size)
      clear x0 x1 x2 x3 o0 o1 o2 o3
      have x0 := (hB8.cell (p := ⟨w.heap.size, 0, none⟩) hsU).trans HSB.out.1; have x1 := (hB8.cell (p := ⟨w.heap.size, 1, none⟩) hsU).trans HSB.out.2.1; have x2 := (hB8.cell (p := ⟨w.heap.size, 2, none⟩) hsU).trans HSB.out.2.2.1; have x3 := (hB8.cell (p := ⟨w.heap.size, 3, none⟩) hsU).trans HSB.out.2.2.2; have o0 := (hB8.cell (p := ⟨gO, 0, none⟩) hgU).trans HOB.out.1; have o1 := (hB8.cell (p := ⟨gO, 1, none⟩) hgU).trans HOB.out.2.1; have o2 := (hB8.cell (p := ⟨gO, 2, none⟩) hgU).trans HOB.out.2.2.1; have o3 := (hB8.cell (p := ⟨gO, 3, none⟩) hgU).trans HOB.out.2.2.2
      clear hb8 hB7
      go_wp2_with fail
      refine (HT2.out _ hB8).mono ?_
      rintro e w9 ⟨rfl, hb9⟩
      have hB9 := hB8.trans (hb9.mono hB8.size)
      clear x0 x1 x2 x3 o0 o1 o2 o3
      have x0 := (hB9.cell (p := ⟨w.heap.size, 0, none⟩) hsU).trans HSB.out.1; have x1 := (hB9.cell (p := ⟨w.heap.size, 1, none⟩) hsU).trans HSB.out.2.1; have x2 := (hB9.cell (p := ⟨w.heap.size, 2, none⟩) hsU).trans HSB.out.2.2.1; have x3 := (hB9.cell (p := ⟨w.heap.size, 3, none⟩) hsU).trans HSB.out.2.2.2; have o0 := (hB9.cell (p := ⟨gO, 0, none⟩) hgU).trans HOB.out.1; have o1 := (hB9.cell (p := ⟨gO, 1, none⟩) hgU).trans HOB.out.2.1; have o2 := (hB9.cell (p := ⟨gO, 2, none⟩) hgU).trans HOB.out.2.2.1; have o3 := (hB9.cell (p := ⟨gO, 3, none⟩) hgU).trans HOB.out.2.2.2
      clear hb9 hB8
      go_wp2_with fail
      refine (HN1'.out _ hB9).mono ?_
      rintro e w10 ⟨rfl, hb10⟩
      have hB10 := hB9.trans (hb10.mono hB9.size)
      clear x0 x1 x2 x3 o0 o1 o2 o3
      have x0 := (hB10.cell (p := ⟨w.heap.size, 0, none⟩) hsU).trans HSB.out.1; have x1 := (hB10.cell (p := ⟨w.heap.size, 1, none⟩) hsU).trans HSB.out.2.1; have x2 := (hB10.cell (p := ⟨w.heap.size, 2, none⟩) hsU).trans HSB.out.2.2.1; have x3 := (hB10.cell (p := ⟨w.heap.size, 3, none⟩) hsU).trans HSB.out.2.2.2; have o0 := (hB10.cell (p := ⟨gO, 0, none⟩) hgU).trans HOB.out.1; have o1 := (hB10.cell (p := ⟨gO, 1, none⟩) hgU).trans HOB.out.2.1; have o2 := (hB10.cell (p := ⟨gO, 2, none⟩) hgU).trans HOB.out.2.2.1; have o3 := (hB10.cell (p := ⟨gO, 3, none⟩) hgU).trans HOB.out.2.2.2
      clear hb10 hB9
      go_wp2_with fail
      refine (HN2'.out _ hB10).mono ?_
      rintro e w11 ⟨rfl, hb11⟩
      have hB11 := hB10.trans (hb11.mono hB10.size)
      clear x0 x1 x2 x3 o0 o1 o2 o3
      have x0 := (hB11.cell (p := ⟨w.heap.size, 0, none⟩) hsU).trans HSB.out.1; have x1 := (hB11.cell (p := ⟨w.heap.size, 1, none⟩) hsU).trans HSB.out.2.1; have x2 := (hB11.cell (p := ⟨w.heap.size, 2, none⟩) hsU).trans HSB.out.2.2.1; have x3 := (hB11.cell (p := ⟨w.heap.size, 3, none⟩) hsU).trans HSB.out.2.2.2; have o0 := (hB11.cell (p := ⟨gO, 0, none⟩) hgU).trans HOB.out.1; have o1 := (hB11.cell (p := ⟨gO, 1, none⟩) hgU).trans HOB.out.2.1; have o2 := (hB11.cell (p := ⟨gO, 2, none⟩) hgU).trans HOB.out.2.2.1; have o3 := (hB11.cell (p := ⟨gO, 3, none⟩) hgU).trans HOB.out.2.2.2
      clear hb11 hB10
      have q11 : w.heap.size < w11.heap.size := Nat.lt_of_lt_of_le hsU hB11.size
      have g11 : gO < w11.heap.size := Nat.lt_of_lt_of_le hgU hB11.size
      have HW11 := Lib.hid hB11
      have HCC4 := Lib.hid (fun W (h : Below w11.heap.size w11 W ∧ ∀ b o, b < w11.heap.size → W.cell? ⟨b, o, none⟩ = w11.cell? ⟨b, o, none⟩) ga gc hi => bothS1 (W0 := w11) (HCX.out W (hB11.trans (h.1.mono hB11.size)) ga gc hi) h)
      have HSS4 := Lib.hid (fun W (h : Below w11.heap.size w11 W ∧ ∀ b o, b < w11.heap.size → W.cell? ⟨b, o, none⟩ = w11.cell? ⟨b, o, none⟩) h0 => HSX.out W (hB11.trans (h.1.mono hB11.size)) h0)
      clear hB11
      go_upto_region 18 with fail
      go_cut [21, 22] (fun va vb wx => ∃ g, va = .pointer (some ⟨g, 0, none⟩) ∧ vb = .int .i64 ce ∧ wx.cell? ⟨g, 0, none⟩ = some (.int .i64 cp) ∧ wx.cell? ⟨g, 1, none⟩ = some (.int .i64 cq) ∧ w11.heap.size ≤ g ∧ g < wx.heap.size ∧ Below w11.heap.size w11 wx)
      case first =>
        go_region_held3 (fun w' => Below w11.heap.size w11 w' ∧ ∀ b o, b < w11.heap.size → w'.cell? ⟨b, o, none⟩ = w11.cell? ⟨b, o, none⟩) (first | with_reducible assumption | ((repeat (first | with_reducible refine bothS_drew ?_ | with_reducible refine bothS_alloc _ ?_ | with_reducible refine bothS_set _ _ (by first | omega | (simp; omega) | simp) ?_)); first | with_reducible assumption | with_reducible exact Hid.out (by assumption) | with_reducible exact ⟨Below.refl _ _, fun _ _ _ => rfl⟩)) (first
          | ((with_reducible refine step_append_fresh _ 24 3 _ 1 8 Try.underlying24 Try.info3 rfl (by decide) (by decide) xl xc xa (x.map (Value.int .i64)) hxc hxl1000 rfl _ _ rfl ?_ ?_ ?_ ?_); (· exact ⟨_, rfl⟩); (· rfl); (· intro h0; exact HSS4.out _ (by assumption) h0); intro ga cA wA hfA hbA; have kA := bothS_below (by assumption) hbA; have HIA := Lib.hid (fun W (hb : Below wA.heap.size wA W) => (hfA.ints hxl0).below hb); obtain ⟨hcA, hfrA⟩ := bcell hbA; have hzA := hbA.size; (try simp at hzA); (try have yA := Nat.lt_of_succ_le hzA); (try have yA1 := Nat.lt_of_succ_lt yA); clear hfA hbA)
          | (go_at_call 44; (with_reducible refine (HCC4.out _ ?_ _ _ (HIA.out _ (by repeat (first | exact Below.refl _ _ | (refine Below.alloc ?_ (by first | omega | (simp; omega) | simp) _) | (refine Below.setCell ?_ (by first | omega | (simp; omega) | simp) _) | refine Below.drew ?_)))).mono ?_); (· with_reducible assumption); rintro e w' ⟨rfl, k1, k2, k3, k4⟩; have HK1 := Lib.hid k1; (try simp at k4); (try have z6 := Nat.lt_of_succ_le k4); (try have z7 := Nat.lt_of_succ_lt z6))
          | fail "no arm")
        all_goals go_wp2_with fail
        all_goals go_meet
        all_goals
          refine box2_cutE ?_ ?_ ?_ (And.left (by assumption))
          · first | (with_reducible refine set2 (u0 := .int .i64 0) (u1 := .int .i64 0) _ _ ?_ ?_ <;> (go_simp; done)) | (refine ⟨?_, ?_⟩ <;> (go_simp; done))
          · have := HK1.out.1.size
            first | omega | (simp; done) | (simp; omega)
          · first | omega | (simp [World.setCell]; done) | (simp [World.setCell]; omega)
      case rest =>
      obtain ⟨g5, rfl, rfl, r50, r51, hg5, hgz5, hB5⟩ := hcut
      obtain ⟨w12, rfl⟩ : ∃ w12 : World, w12 = wc := ⟨_, rfl⟩
      have hB12 := HW11.out.trans (hB5.mono HW11.out.size)
      have hsz12 : w11.heap.size ≤ w12.heap.size := hB5.size
      clear x0 x1 x2 x3 o0 o1 o2 o3
      have x0 := (hB12.cell (p := ⟨w.heap.size, 0, none⟩) hsU).trans HSB.out.1; have x1 := (hB12.cell (p := ⟨w.heap.size, 1, none⟩) hsU).trans HSB.out.2.1; have x2 := (hB12.cell (p := ⟨w.heap.size, 2, none⟩) hsU).trans HSB.out.2.2.1; have x3 := (hB12.cell (p := ⟨w.heap.size, 3, none⟩) hsU).trans HSB.out.2.2.2; have o0 := (hB12.cell (p := ⟨gO, 0, none⟩) hgU).trans HOB.out.1; have o1 := (hB12.cell (p := ⟨gO, 1, none⟩) hgU).trans HOB.out.2.1; have o2 := (hB12.cell (p := ⟨gO, 2, none⟩) hgU).trans HOB.out.2.2.1; have o3 := (hB12.cell (p := ⟨gO, 3, none⟩) hgU).trans HOB.out.2.2.2
      have q12 : w.heap.size < w12.heap.size := by omega
      have g12 : gO < w12.heap.size := by omega
      have HW12 := Lib.hid hB12
      have HCC5 := Lib.hid (fun W (h : Below w12.heap.size w12 W ∧ ∀ b o, b < w12.heap.size → W.cell? ⟨b, o, none⟩ = w12.cell? ⟨b, o, none⟩) ga gc hi => bothS1 (W0 := w12) (HCY.out W (hB12.trans (h.1.mono hB12.size)) ga gc hi) h)
      have HSS5 := Lib.hid (fun W (h : Below w12.heap.size w12 W ∧ ∀ b o, b < w12.heap.size → W.cell? ⟨b, o, none⟩ = w12.cell? ⟨b, o, none⟩) h0 => HSX.out W (hB12.trans (h.1.mono hB12.size)) h0)
      clear hB12 hB5 HCC4 HSS4
      go_upto_region 19 with fail
      go_cut [23, 24] (fun va vb wx => ∃ g, va = .pointer (some ⟨g, 0, none⟩) ∧ vb = .int .i64 ce ∧ wx.cell? ⟨g, 0, none⟩ = some (.int .i64 cp) ∧ wx.cell? ⟨g, 1, none⟩ = some (.int .i64 cq) ∧ w12.heap.size ≤ g ∧ g < wx.heap.size ∧ Below w12.heap.size w12 wx)
      case first =>
        go_region_held3 (fun w' => Below w12.heap.size w12 w' ∧ ∀ b o, b < w12.heap.size → w'.cell? ⟨b, o, none⟩ = w12.cell? ⟨b, o, none⟩) (first | with_reducible assumption | ((repeat (first | with_reducible refine bothS_drew ?_ | with_reducible refine bothS_alloc _ ?_ | with_reducible refine bothS_set _ _ (by first | omega | (simp; omega) | simp) ?_)); first | with_reducible assumption | with_reducible exact Hid.out (by assumption) | with_reducible exact ⟨Below.refl _ _, fun _ _ _ => rfl⟩)) (first
          | ((with_reducible refine step_append_fresh _ 24 3 _ 1 8 Try.underlying24 Try.info3 rfl (by decide) (by decide) xl xc xa (x.map (Value.int .i64)) hxc hxl1000 rfl _ _ rfl ?_ ?_ ?_ ?_); (· exact ⟨_, rfl⟩); (· rfl); (· intro h0; exact HSS5.out _ (by assumption) h0); intro ga cA wA hfA hbA; have kA := bothS_below (by assumption) hbA; have HIA := Lib.hid (fun W (hb : Below wA.heap.size wA W) => (hfA.ints hxl0).below hb); obtain ⟨hcA, hfrA⟩ := bcell hbA; have hzA := hbA.size; (try simp at hzA); (try have yA := Nat.lt_of_succ_le hzA); (try have yA1 := Nat.lt_of_succ_lt yA); clear hfA hbA)
          | (go_at_call 44; (with_reducible refine (HCC5.out _ ?_ _ _ (HIA.out _ (by repeat (first | exact Below.refl _ _ | (refine Below.alloc ?_ (by first | omega | (simp; omega) | simp) _) | (refine Below.setCell ?_ (by first | omega | (simp; omega) | simp) _) | refine Below.drew ?_)))).mono ?_); (· with_reducible assumption); rintro e w' ⟨rfl, k1, k2, k3, k4⟩; have HK1 := Lib.hid k1; (try simp at k4); (try have z6 := Nat.lt_of_succ_le k4); (try have z7 := Nat.lt_of_succ_lt z6))
          | fail "no arm")
        all_goals go_wp2_with fail
        all_goals go_meet
        all_goals
          refine box2_cutE ?_ ?_ ?_ (And.left (by assumption))
          · first | (with_reducible refine set2 (u0 := .int .i64 0) (u1 := .int .i64 0) _ _ ?_ ?_ <;> (go_simp; done)) | (refine ⟨?_, ?_⟩ <;> (go_simp; done))
          · have := HK1.out.1.size
            first | omega | (simp; done) | (simp; omega)
          · first | omega | (simp [World.setCell]; done) | (simp [World.setCell]; omega)
      case rest =>
      obtain ⟨g6, rfl, rfl, r60, r61, hg6, hgz6, hB6⟩ := hcut
      obtain ⟨w13, rfl⟩ : ∃ w13 : World, w13 = wc := ⟨_, rfl⟩
      have t50 := (hB6.cell (p := ⟨g5, 0, none⟩) hgz5).trans r50
      have t51 := (hB6.cell (p := ⟨g5, 1, none⟩) hgz5).trans r51
      have HW13 := Lib.hid (HW12.out.trans (hB6.mono HW12.out.size))
      clear x0 x1 x2 x3 o0 o1 o2 o3
      clear hB6 r50 r51
      go_wp2_with fail
      refine (works_any _).mono ?_
      rintro e w14 ⟨rfl, hb14⟩
      go_wp2_with fail
      go_ret
      exact ⟨rfl, HBV.out _ (HW13.out.trans (hb14.mono HW13.out.size))⟩
theorem order_law (s : FShop) (ma : Option Addr) (ml mc : Nat) (wa : Option Addr) (wl wc : Nat) (na : Option Addr) (nl nc : Nat) (n : Int) (xa : Option Addr) (xl xc : Nat) (x : List Int) (w : World) (hp : FAt w ma ml mc wa wl wc na nl nc s) (hx : IntsAt w xa xl x) :
    Calls Try.prog 10 #[.agg #[.slice ma ml mc, .slice wa wl wc, .slice na nl nc, .int .i64 s.fresh], .int .i64 n, .slice xa xl xc] w fun e w' => e = .returned (.bool true) ∧ Below w.heap.size w w' := by
  by_cases h : s.ok = true ∧ 0 ≤ n ∧ n ≤ 100 ∧ xl ≤ 40
  · obtain ⟨h1, h2, h3, h4⟩ := h
    obtain ⟨f, rfl⟩ : ∃ f : Nat, n = (f : Int) := ⟨n.toNat, by omega⟩
    exact order_walk s ma ml mc wa wl wc na nl nc f xa xl xc x w hp hx h1 (by omega) h4
  · exact order_early s ma ml mc wa wl wc na nl nc n xa xl xc w hp hx.2.1 h
end Go.Proofs.Ytgniblcagjdpnaa
