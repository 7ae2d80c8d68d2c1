/- Flongs: the laws' cast. -/
import Derived.Test.YtigeiaiohdemiaaGZ
namespace Go.Proofs.Ytigeiaiohdemiaa
set_option linter.unusedVariables false
set_option linter.unusedSimpArgs false
open Go.RowKit

theorem CopyRow.low {s : FShop} {n0 n1 ml wl nl : Nat} {gm : Addr} {cm : Nat} {va : Option Addr} {vc : Nat} {gw : Addr} {cw : Nat} {vs : List Value} {N1 : Nat} {w : World} (h : CopyRow s n0 ml wl nl gm cm va vc gw cw vs N1 w) (hn : n1 ≤ n0) : CopyRow s n1 ml wl nl gm cm va vc gw cw vs N1 w := by
  obtain ⟨h1, h2, h3, h4, h5, h6⟩ := h
  exact ⟨h1.low hn, h2.low hn, h3, Go.Joins.ownsRow_le h4 hn, h5, Nat.le_trans hn h6⟩

set_option maxRecDepth 100000 in
set_option maxHeartbeats 8000000 in
theorem cast_is (s : FShop) (ma : Option Addr) (ml mc : Nat) (wa : Option Addr) (wl wc : Nat) (na : Option Addr) (nl nc : Nat) (m : Nat) (b : Int) (hm : m < s.moulds.length) (hb01 : b = 0 ∨ b = 1) (ho : s.ok = true) (w : World) (hp : FAt w ma ml mc wa wl wc na nl nc s) :
    Calls Try.prog 30 #[.agg #[.slice ma ml mc, .slice wa wl wc, .slice na nl nc, .int .i64 s.fresh], .int .i64 m, .int .i64 b] w fun e w' => CopyOf (s.cast m b) ml wl nl w e w' := by
  have HC := Lib.hid (fun w1 (hb : Below w.heap.size w w1) => Copy_of s ma ml mc wa wl wc na nl nc w1 (hp.below hb) (FShop.ok_small ho))
  have hml := hp.1.1
  have hm5 := (FShop.ok_few ho).2.1
  obtain ⟨-, ⟨hu1, hu2⟩, -⟩ := FShop.ok_mould ho m hm
  have hml5 : ml ≤ 5 := by omega
  have hmI : (m : Int) < (ml : Int) := by omega
  have hm0 : (0 : Int) ≤ (m : Int) := by omega
  obtain ⟨M, hM⟩ : ∃ M, s.moulds[m] = M := ⟨_, rfl⟩
  have HM := Lib.hid hM
  have HML := Lib.hid hml
  have HEQ := Lib.hid (show s.cast m b = { s with moulds := s.moulds.set m (M.cast b) } by unfold FShop.cast; rw [List.getElem?_eq_getElem hm, hM]; rfl)
  rw [hM] at hu1 hu2
  obtain ⟨m', hm'⟩ : ∃ m', M.cast b = m' := ⟨_, rfl⟩
  rw [hm'] at HEQ
  have hwr : IntKind.i64.wrap (M.u + 1) = M.u + 1 := IntWalk.i64_in _ ⟨by omega, by omega⟩
  have HWR := Lib.hid hwr
  have HBC := Lib.hid (show (b = 1 ∧ m'.p = M.p ∧ m'.u = M.u ∧ m'.b = 1) ∨ (b = 0 ∧ m'.p = M.p ∧ m'.u = M.u + 1 ∧ m'.b = M.b) by
    rw [← hm']
    rcases hb01 with rfl | rfl
    · exact .inr ⟨rfl, by simp [Mould.cast]⟩
    · exact .inl ⟨rfl, by simp [Mould.cast]⟩)
  clear hp ho hml hM hm' hwr hm5 hb01
  rcases HBC.out with ⟨rfl, e1, e2, e3⟩ | ⟨rfl, e1, e2, e3⟩
  · have HE := Lib.hid (And.intro e1 (And.intro e2 e3))
    clear e1 e2 e3
    go_enter Try.func30, Try.ntmps30
    go_wp2_with fail
    obtain ⟨W0, hW0, hB0, hr0, hg0, -, hgf, hz0⟩ := name2e w #[.slice ma ml mc, .slice wa wl wc, .slice na nl nc, .int .i64 s.fresh] 26 #[.slice none 0 0, .slice none 0 0, .slice none 0 0, .int .i64 0] 26
    rw [hW0]
    clear hW0
    have z1 : w.heap.size + 1 < W0.heap.size := by omega
    have HB0 := Lib.hid hB0
    have HG0 := Lib.hid hg0
    have HGF := Lib.hid hgf
    clear hB0 hr0 hg0 hgf hz0
    refine (HC.out _ HB0.out).mono ?_
    rintro e u1 ⟨gm, cm, va, vc, gw, cw, vs, N1, rfl, hR1, hb1⟩
    have HR1 := Lib.hid hR1
    have HB1 := Lib.hid hb1
    obtain ⟨gmb, egm, hgm0, hgml, hgmc, hgmf⟩ := hR1.1.cell (show 0 < ml by omega)
    injection egm with egm
    subst egm
    have cc := fun t ht => hgmc (m * 3 + t) _ (by rw [cells3_get s.moulds m hm t ht]; exact List.getElem?_eq_getElem (by simpa [Mould.cells] using ht))
    rw [HM.out] at cc
    have c0 : u1.cell? ⟨gmb, m * 3, none⟩ = some (.int .i64 M.p) := by simpa [Mould.cells] using cc 0 (by omega)
    have c1 : u1.cell? ⟨gmb, m * 3 + 1, none⟩ = some (.int .i64 M.u) := by simpa [Mould.cells] using cc 1 (by omega)
    have c2 : u1.cell? ⟨gmb, m * 3 + 2, none⟩ = some (.int .i64 M.b) := by simpa [Mould.cells] using cc 2 (by omega)
    have t0 := hgmf (m * 3)
    have t1 := hgmf (m * 3 + 1)
    have t2 := hgmf (m * 3 + 2)
    have r0 := fun i => (hb1.cell (p := ⟨w.heap.size + 1, i, none⟩) z1).trans (HG0.out i)
    have r1 := fun i => (hb1.frozen (p := ⟨w.heap.size + 1, i, none⟩) z1).trans (HGF.out i)
    obtain ⟨v0, v1, v2, v3⟩ : u1.cell? ⟨w.heap.size + 1, 0, none⟩ = some (.slice none 0 0) ∧ u1.cell? ⟨w.heap.size + 1, 1, none⟩ = some (.slice none 0 0) ∧ u1.cell? ⟨w.heap.size + 1, 2, none⟩ = some (.slice none 0 0) ∧ u1.cell? ⟨w.heap.size + 1, 3, none⟩ = some (.int .i64 0) := ⟨r0 0, r0 1, r0 2, r0 3⟩
    obtain ⟨k0, k1, k2, k3⟩ := And.intro (r1 0) (And.intro (r1 1) (And.intro (r1 2) (r1 3)))
    have z2 : w.heap.size + 1 < u1.heap.size := Nat.lt_of_lt_of_le z1 hb1.size
    have z3 : w.heap.size + 1 < gmb := by omega
    clear hR1 hb1 cc hgmc hgmf r0 r1
    go_upto_region 4 with fail
    go_cut [] (fun wx => wx.cell? ⟨u1.heap.size, 0, none⟩ = some (.slice (some ⟨gmb, 0, none⟩) ml cm) ∧ wx.cell? ⟨u1.heap.size, 1, none⟩ = some (.slice va wl vc) ∧ wx.cell? ⟨u1.heap.size, 2, none⟩ = some (.slice (some gw) nl cw) ∧ wx.cell? ⟨u1.heap.size, 3, none⟩ = some (.int .i64 s.fresh) ∧
      wx.cell? ⟨u1.heap.size + 1, 0, none⟩ = some (.int .i64 m'.p) ∧ wx.cell? ⟨u1.heap.size + 1, 1, none⟩ = some (.int .i64 m'.u) ∧ wx.cell? ⟨u1.heap.size + 1, 2, none⟩ = some (.int .i64 m'.b) ∧ Below u1.heap.size u1 wx ∧ u1.heap.size + 1 < wx.heap.size)
    case first =>
      have hwr := HWR.out
      go_wp2_with fail
      go_meet
      rw [HE.out.1, HE.out.2.1, HE.out.2.2]
      exact ⟨by go_simp, by go_simp, by go_simp, by go_simp, by go_simp, by go_simp, by go_simp, (by repeat (first | exact Below.refl _ _ | (refine Below.alloc ?_ (by first | omega | (simp; omega) | simp) _) | (refine Below.setCell ?_ (by first | omega | (simp; omega) | simp) _) | refine Below.drew ?_)), by simp⟩
    case rest =>
    obtain ⟨o0, o1, o2, o3, p0, p1, p2, hb5, hz5⟩ := hcut
    obtain ⟨U5, rfl⟩ : ∃ U5 : World, U5 = wc := ⟨_, rfl⟩
    have d0 := (hb5.cell (p := ⟨gmb, m * 3, none⟩) hgml).trans c0
    have d1 := (hb5.cell (p := ⟨gmb, m * 3 + 1, none⟩) hgml).trans c1
    have d2 := (hb5.cell (p := ⟨gmb, m * 3 + 2, none⟩) hgml).trans c2
    have s0 := (hb5.frozen (p := ⟨gmb, m * 3, none⟩) hgml).trans t0
    have s1 := (hb5.frozen (p := ⟨gmb, m * 3 + 1, none⟩) hgml).trans t1
    have s2 := (hb5.frozen (p := ⟨gmb, m * 3 + 2, none⟩) hgml).trans t2
    have e0 := (hb5.cell (p := ⟨w.heap.size + 1, 0, none⟩) z2).trans v0
    have e1 := (hb5.cell (p := ⟨w.heap.size + 1, 1, none⟩) z2).trans v1
    have e2 := (hb5.cell (p := ⟨w.heap.size + 1, 2, none⟩) z2).trans v2
    have e3 := (hb5.cell (p := ⟨w.heap.size + 1, 3, none⟩) z2).trans v3
    have f0 := (hb5.frozen (p := ⟨w.heap.size + 1, 0, none⟩) z2).trans k0
    have f1 := (hb5.frozen (p := ⟨w.heap.size + 1, 1, none⟩) z2).trans k1
    have f2 := (hb5.frozen (p := ⟨w.heap.size + 1, 2, none⟩) z2).trans k2
    have f3 := (hb5.frozen (p := ⟨w.heap.size + 1, 3, none⟩) z2).trans k3
    have HR5 := Lib.hid (HR1.out.below hb5)
    have HB5 := Lib.hid (HB1.out.trans (hb5.mono HB1.out.size))
    have n1 : ¬ gmb = w.heap.size + 1 := by omega
    have n2 : ¬ w.heap.size + 1 = gmb := by omega
    have n3 : ¬ gmb = u1.heap.size := by omega
    have n4 : ¬ u1.heap.size = gmb := by omega
    have n5 : ¬ gmb = u1.heap.size + 1 := by omega
    have n6 : ¬ u1.heap.size + 1 = gmb := by omega
    clear hb5 c0 c1 c2 t0 t1 t2 v0 v1 v2 v3 k0 k1 k2 k3
    obtain ⟨gO, hgO⟩ : ∃ gO, gO = u1.heap.size := ⟨_, rfl⟩
    rw [← hgO] at o0 o1 o2 o3 p0 p1 p2 n3 n4 n5 n6 hz5
    rw [← hgO]
    clear hgO
    go_wp2_with fail
    refine bodyPost_ret (v := .agg #[.slice (some ⟨gmb, 0, none⟩) ml cm, .slice va wl vc, .slice (some gw) nl cw, .int .i64 s.fresh]) (by simp [results, Try.results30, go_sem, o0, o1, o2, o3, e0, e1, e2, e3, n1, n2, n3, n4, n5, n6]) rfl ?_
    refine ⟨⟨gmb, 0, none⟩, cm, va, vc, gw, cw, vs, N1, by rw [HEQ.out], ?_, ?_⟩
    · have hset := HR5.out.setMould m hm HML.out m'
      dsimp only at hset
      rw [HEQ.out]
      have hg : ∀ (V : World) (a0 a1 a2 a3 : Value), V.grownBy ((((V.setCell ⟨w.heap.size + 1, 0, none⟩ a0).setCell ⟨w.heap.size + 1, 1, none⟩ a1).setCell ⟨w.heap.size + 1, 2, none⟩ a2).setCell ⟨w.heap.size + 1, 3, none⟩ a3) (some (w.heap.size + 1)) := fun V a0 a1 a2 a3 => gbx_set (gbx_set (gbx_set (gbx_set (gbx_refl _ _) _ _) _ _) _ _) _ _
      refine CopyRow.low (n0 := W0.heap.size) ?_ HB0.out.size
      with_reducible exact hset.out (hg _ _ _ _ _) z1
    · have hBB := HB0.out.trans (HB5.out.mono HB0.out.size)
      have q1 : w.heap.size ≤ gmb := by omega
      have q2 : w.heap.size ≤ w.heap.size + 1 := by omega
      with_reducible exact ((((((hBB.setCell q1 _).setCell q1 _).setCell q1 _).setCell q2 _).setCell q2 _).setCell q2 _).setCell q2 _
  · have HE := Lib.hid (And.intro e1 (And.intro e2 e3))
    clear e1 e2 e3
    go_enter Try.func30, Try.ntmps30
    go_wp2_with fail
    obtain ⟨W0, hW0, hB0, hr0, hg0, -, hgf, hz0⟩ := name2e w #[.slice ma ml mc, .slice wa wl wc, .slice na nl nc, .int .i64 s.fresh] 26 #[.slice none 0 0, .slice none 0 0, .slice none 0 0, .int .i64 0] 26
    rw [hW0]
    clear hW0
    have z1 : w.heap.size + 1 < W0.heap.size := by omega
    have HB0 := Lib.hid hB0
    have HG0 := Lib.hid hg0
    have HGF := Lib.hid hgf
    clear hB0 hr0 hg0 hgf hz0
    refine (HC.out _ HB0.out).mono ?_
    rintro e u1 ⟨gm, cm, va, vc, gw, cw, vs, N1, rfl, hR1, hb1⟩
    have HR1 := Lib.hid hR1
    have HB1 := Lib.hid hb1
    obtain ⟨gmb, egm, hgm0, hgml, hgmc, hgmf⟩ := hR1.1.cell (show 0 < ml by omega)
    injection egm with egm
    subst egm
    have cc := fun t ht => hgmc (m * 3 + t) _ (by rw [cells3_get s.moulds m hm t ht]; exact List.getElem?_eq_getElem (by simpa [Mould.cells] using ht))
    rw [HM.out] at cc
    have c0 : u1.cell? ⟨gmb, m * 3, none⟩ = some (.int .i64 M.p) := by simpa [Mould.cells] using cc 0 (by omega)
    have c1 : u1.cell? ⟨gmb, m * 3 + 1, none⟩ = some (.int .i64 M.u) := by simpa [Mould.cells] using cc 1 (by omega)
    have c2 : u1.cell? ⟨gmb, m * 3 + 2, none⟩ = some (.int .i64 M.b) := by simpa [Mould.cells] using cc 2 (by omega)
    have t0 := hgmf (m * 3)
    have t1 := hgmf (m * 3 + 1)
    have t2 := hgmf (m * 3 + 2)
    have r0 := fun i => (hb1.cell (p := ⟨w.heap.size + 1, i, none⟩) z1).trans (HG0.out i)
    have r1 := fun i => (hb1.frozen (p := ⟨w.heap.size + 1, i, none⟩) z1).trans (HGF.out i)
    obtain ⟨v0, v1, v2, v3⟩ : u1.cell? ⟨w.heap.size + 1, 0, none⟩ = some (.slice none 0 0) ∧ u1.cell? ⟨w.heap.size + 1, 1, none⟩ = some (.slice none 0 0) ∧ u1.cell? ⟨w.heap.size + 1, 2, none⟩ = some (.slice none 0 0) ∧ u1.cell? ⟨w.heap.size + 1, 3, none⟩ = some (.int .i64 0) := ⟨r0 0, r0 1, r0 2, r0 3⟩
    obtain ⟨k0, k1, k2, k3⟩ := And.intro (r1 0) (And.intro (r1 1) (And.intro (r1 2) (r1 3)))
    have z2 : w.heap.size + 1 < u1.heap.size := Nat.lt_of_lt_of_le z1 hb1.size
    have z3 : w.heap.size + 1 < gmb := by omega
    clear hR1 hb1 cc hgmc hgmf r0 r1
    go_upto_region 5 with fail
    go_cut [] (fun wx => wx.cell? ⟨u1.heap.size, 0, none⟩ = some (.slice (some ⟨gmb, 0, none⟩) ml cm) ∧ wx.cell? ⟨u1.heap.size, 1, none⟩ = some (.slice va wl vc) ∧ wx.cell? ⟨u1.heap.size, 2, none⟩ = some (.slice (some gw) nl cw) ∧ wx.cell? ⟨u1.heap.size, 3, none⟩ = some (.int .i64 s.fresh) ∧
      wx.cell? ⟨u1.heap.size + 1, 0, none⟩ = some (.int .i64 m'.p) ∧ wx.cell? ⟨u1.heap.size + 1, 1, none⟩ = some (.int .i64 m'.u) ∧ wx.cell? ⟨u1.heap.size + 1, 2, none⟩ = some (.int .i64 m'.b) ∧ Below u1.heap.size u1 wx ∧ u1.heap.size + 1 < wx.heap.size)
    case first =>
      have hwr := HWR.out
      go_wp2_with fail
      go_meet
      rw [HE.out.1, HE.out.2.1, HE.out.2.2]
      exact ⟨by go_simp, by go_simp, by go_simp, by go_simp, by go_simp, by go_simp, by go_simp, (by repeat (first | exact Below.refl _ _ | (refine Below.alloc ?_ (by first | omega | (simp; omega) | simp) _) | (refine Below.setCell ?_ (by first | omega | (simp; omega) | simp) _) | refine Below.drew ?_)), by simp⟩
    case rest =>
    obtain ⟨o0, o1, o2, o3, p0, p1, p2, hb5, hz5⟩ := hcut
    obtain ⟨U5, rfl⟩ : ∃ U5 : World, U5 = wc := ⟨_, rfl⟩
    have d0 := (hb5.cell (p := ⟨gmb, m * 3, none⟩) hgml).trans c0
    have d1 := (hb5.cell (p := ⟨gmb, m * 3 + 1, none⟩) hgml).trans c1
    have d2 := (hb5.cell (p := ⟨gmb, m * 3 + 2, none⟩) hgml).trans c2
    have s0 := (hb5.frozen (p := ⟨gmb, m * 3, none⟩) hgml).trans t0
    have s1 := (hb5.frozen (p := ⟨gmb, m * 3 + 1, none⟩) hgml).trans t1
    have s2 := (hb5.frozen (p := ⟨gmb, m * 3 + 2, none⟩) hgml).trans t2
    have e0 := (hb5.cell (p := ⟨w.heap.size + 1, 0, none⟩) z2).trans v0
    have e1 := (hb5.cell (p := ⟨w.heap.size + 1, 1, none⟩) z2).trans v1
    have e2 := (hb5.cell (p := ⟨w.heap.size + 1, 2, none⟩) z2).trans v2
    have e3 := (hb5.cell (p := ⟨w.heap.size + 1, 3, none⟩) z2).trans v3
    have f0 := (hb5.frozen (p := ⟨w.heap.size + 1, 0, none⟩) z2).trans k0
    have f1 := (hb5.frozen (p := ⟨w.heap.size + 1, 1, none⟩) z2).trans k1
    have f2 := (hb5.frozen (p := ⟨w.heap.size + 1, 2, none⟩) z2).trans k2
    have f3 := (hb5.frozen (p := ⟨w.heap.size + 1, 3, none⟩) z2).trans k3
    have HR5 := Lib.hid (HR1.out.below hb5)
    have HB5 := Lib.hid (HB1.out.trans (hb5.mono HB1.out.size))
    have n1 : ¬ gmb = w.heap.size + 1 := by omega
    have n2 : ¬ w.heap.size + 1 = gmb := by omega
    have n3 : ¬ gmb = u1.heap.size := by omega
    have n4 : ¬ u1.heap.size = gmb := by omega
    have n5 : ¬ gmb = u1.heap.size + 1 := by omega
    have n6 : ¬ u1.heap.size + 1 = gmb := by omega
    clear hb5 c0 c1 c2 t0 t1 t2 v0 v1 v2 v3 k0 k1 k2 k3
    obtain ⟨gO, hgO⟩ : ∃ gO, gO = u1.heap.size := ⟨_, rfl⟩
    rw [← hgO] at o0 o1 o2 o3 p0 p1 p2 n3 n4 n5 n6 hz5
    rw [← hgO]
    clear hgO
    go_wp2_with fail
    refine bodyPost_ret (v := .agg #[.slice (some ⟨gmb, 0, none⟩) ml cm, .slice va wl vc, .slice (some gw) nl cw, .int .i64 s.fresh]) (by simp [results, Try.results30, go_sem, o0, o1, o2, o3, e0, e1, e2, e3, n1, n2, n3, n4, n5, n6]) rfl ?_
    refine ⟨⟨gmb, 0, none⟩, cm, va, vc, gw, cw, vs, N1, by rw [HEQ.out], ?_, ?_⟩
    · have hset := HR5.out.setMould m hm HML.out m'
      dsimp only at hset
      rw [HEQ.out]
      have hg : ∀ (V : World) (a0 a1 a2 a3 : Value), V.grownBy ((((V.setCell ⟨w.heap.size + 1, 0, none⟩ a0).setCell ⟨w.heap.size + 1, 1, none⟩ a1).setCell ⟨w.heap.size + 1, 2, none⟩ a2).setCell ⟨w.heap.size + 1, 3, none⟩ a3) (some (w.heap.size + 1)) := fun V a0 a1 a2 a3 => gbx_set (gbx_set (gbx_set (gbx_set (gbx_refl _ _) _ _) _ _) _ _) _ _
      refine CopyRow.low (n0 := W0.heap.size) ?_ HB0.out.size
      with_reducible exact hset.out (hg _ _ _ _ _) z1
    · have hBB := HB0.out.trans (HB5.out.mono HB0.out.size)
      have q1 : w.heap.size ≤ gmb := by omega
      have q2 : w.heap.size ≤ w.heap.size + 1 := by omega
      with_reducible exact ((((((hBB.setCell q1 _).setCell q1 _).setCell q1 _).setCell q2 _).setCell q2 _).setCell q2 _).setCell q2 _
end Go.Proofs.Ytigeiaiohdemiaa
