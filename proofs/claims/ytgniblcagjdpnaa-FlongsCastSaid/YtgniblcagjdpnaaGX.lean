/- FlongsFewer: the walk. -/
import Derived.Test.YtgniblcagjdpnaaGW
namespace Go.Proofs.Ytgniblcagjdpnaa
set_option linter.unusedVariables false
set_option linter.unusedSimpArgs false
open Go.RowKit


set_option maxRecDepth 100000 in
set_option maxHeartbeats 2000000 in
theorem fewer_early (s : FShop) (ma : Option Addr) (ml mc : Nat) (wa : Option Addr) (wl wc : Nat) (na : Option Addr) (nl nc : Nat) (f t : Int) (w : World) (hp : FAt w ma ml mc wa wl wc na nl nc s) (h : (s.known && btw f 0 t && decide (t ≤ wl)) = false) :
    Calls Try.prog 5 #[.agg #[.slice ma ml mc, .slice wa wl wc, .slice na nl nc, .int .i64 s.fresh], .int .i64 f, .int .i64 t] w fun e w' => e = .returned (.bool true) ∧ Below w.heap.size w w' := by
  have HK := Lib.hid (fun b (h : s.known = b) W (hb : Below w.heap.size w W) => known_is s ma ml mc wa wl wc na nl nc b h W (hp.below hb))
  have hwm := hp.2.1.2.1
  unfold maxLen at hwm
  clear hp
  rcases hk : s.known with - | -
  · have HK1 := Lib.hid (HK.out _ hk)
    clear hk h
    go_enter Try.func5, Try.ntmps5
    go_wp2_with fail
    refine (HK1.out _ (by repeat (first | exact Below.refl _ _ | (refine Below.alloc ?_ (by first | omega | (simp; omega) | simp) _) | (refine Below.setCell ?_ (by first | omega | (simp; omega) | simp) _) | refine Below.drew ?_))).mono ?_
    rintro e w1 ⟨rfl, hb1⟩
    have hw1 := ((by repeat (first | exact Below.refl _ _ | (refine Below.alloc ?_ (by first | omega | (simp; omega) | simp) _) | (refine Below.setCell ?_ (by first | omega | (simp; omega) | simp) _) | refine Below.drew ?_)) : Below w.heap.size w _).trans (hb1.mono (by first | (simp; done) | (simp; omega) | omega))
    clear hb1
    go_wp2_with fail
    refine (works_any _).mono ?_
    rintro e w9 ⟨rfl, hb9⟩
    go_wp2_with fail
    go_ret
    exact ⟨rfl, hw1.trans (hb9.mono hw1.size)⟩
  have HK1 := Lib.hid (HK.out _ hk)
  rw [hk] at h
  rcases hf : btw f 0 t with - | -
  · have HF := Lib.hid (fun W => Within_below f 0 t false hf W)
    clear hk h hf
    go_enter Try.func5, Try.ntmps5
    go_wp2_with fail
    refine (HK1.out _ (by repeat (first | exact Below.refl _ _ | (refine Below.alloc ?_ (by first | omega | (simp; omega) | simp) _) | (refine Below.setCell ?_ (by first | omega | (simp; omega) | simp) _) | refine Below.drew ?_))).mono ?_
    rintro e w1 ⟨rfl, hb1⟩
    have hw1 := ((by repeat (first | exact Below.refl _ _ | (refine Below.alloc ?_ (by first | omega | (simp; omega) | simp) _) | (refine Below.setCell ?_ (by first | omega | (simp; omega) | simp) _) | refine Below.drew ?_)) : Below w.heap.size w _).trans (hb1.mono (by first | (simp; done) | (simp; omega) | omega))
    clear hb1
    go_wp2_with fail
    refine (HF.out _).mono ?_
    rintro e w2 ⟨rfl, hb2⟩
    have hw2 := hw1.trans (hb2.mono hw1.size)
    clear hb2
    go_wp2_with fail
    refine (works_any _).mono ?_
    rintro e w9 ⟨rfl, hb9⟩
    go_wp2_with fail
    go_ret
    exact ⟨rfl, hw2.trans (hb9.mono hw2.size)⟩
  · have HF := Lib.hid (fun W => Within_below f 0 t true hf W)
    rw [hf] at h
    have ht : (wl : Int) < t := by simp at h; omega
    clear hk h hf
    go_enter Try.func5, Try.ntmps5
    go_wp2_with fail
    refine (HK1.out _ (by repeat (first | exact Below.refl _ _ | (refine Below.alloc ?_ (by first | omega | (simp; omega) | simp) _) | (refine Below.setCell ?_ (by first | omega | (simp; omega) | simp) _) | refine Below.drew ?_))).mono ?_
    rintro e w1 ⟨rfl, hb1⟩
    have hx0 := fun i => (hb1.cell (p := ⟨w.heap.size, i, none⟩) (by simp)).trans (World.cell?_alloc_new w #[.slice ma ml mc, .slice wa wl wc, .slice na nl nc, .int .i64 s.fresh] 26 i)
    obtain ⟨x0, x1, x2, x3⟩ : w1.cell? ⟨w.heap.size, 0, none⟩ = some (.slice ma ml mc) ∧ w1.cell? ⟨w.heap.size, 1, none⟩ = some (.slice wa wl wc) ∧ w1.cell? ⟨w.heap.size, 2, none⟩ = some (.slice na nl nc) ∧ w1.cell? ⟨w.heap.size, 3, none⟩ = some (.int .i64 s.fresh) := ⟨hx0 0, hx0 1, hx0 2, hx0 3⟩
    have q1 : w.heap.size < w1.heap.size := by have := hb1.size; simp at this; omega
    have hw1 := ((by repeat (first | exact Below.refl _ _ | (refine Below.alloc ?_ (by first | omega | (simp; omega) | simp) _) | (refine Below.setCell ?_ (by first | omega | (simp; omega) | simp) _) | refine Below.drew ?_)) : Below w.heap.size w _).trans (hb1.mono (by first | (simp; done) | (simp; omega) | omega))
    clear hb1 hx0
    go_wp2_with fail
    refine (HF.out _).mono ?_
    rintro e w2 ⟨rfl, hb2⟩
    have hw2 := hw1.trans (hb2.mono hw1.size)
    have y0 := (hb2.cell (p := ⟨w.heap.size, 0, none⟩) q1).trans x0; have y1 := (hb2.cell (p := ⟨w.heap.size, 1, none⟩) q1).trans x1; have y2 := (hb2.cell (p := ⟨w.heap.size, 2, none⟩) q1).trans x2; have y3 := (hb2.cell (p := ⟨w.heap.size, 3, none⟩) q1).trans x3; clear x0 x1 x2 x3
    clear hb2
    go_wp2_with fail
    refine (works_any _).mono ?_
    rintro e w9 ⟨rfl, hb9⟩
    go_wp2_with fail
    go_ret
    exact ⟨rfl, hw2.trans (hb9.mono hw2.size)⟩

set_option maxRecDepth 100000 in
set_option maxHeartbeats 16000000 in
theorem fewer_walk (s : FShop) (ma : Option Addr) (ml mc : Nat) (wa : Option Addr) (wl wc : Nat) (na : Option Addr) (nl nc : Nat) (i j : Nat) (hij : i ≤ j) (hj : j ≤ wl) (w : World) (hp : FAt w ma ml mc wa wl wc na nl nc s) (hk : s.known = true) :
    Calls Try.prog 5 #[.agg #[.slice ma ml mc, .slice wa wl wc, .slice na nl nc, .int .i64 s.fresh], .int .i64 i, .int .i64 j] w fun e w' => e = .returned (.bool true) ∧ Below w.heap.size w w' := by
  obtain ⟨ho, hl0⟩ : s.ok = true ∧ 0 < s.left.length := by simpa [FShop.known] using hk
  have HK1 := Lib.hid (fun W (hb : Below w.heap.size w W) => known_is s ma ml mc wa wl wc na nl nc true hk W (hp.below hb))
  have HF := Lib.hid (fun W => Within_below (i : Int) 0 (j : Int) true (by simp [btw]; omega) W)
  have HC := Lib.hid (fun w1 (hb : Below w.heap.size w w1) => Copy_atW s ma ml mc wa wl wc na nl nc w1 (hp.below hb) (FShop.ok_small ho))
  have HP := Lib.hid (fun w1 (hb : Below w.heap.size w w1) => hp.below hb)
  have HLS := Lib.hid (fun W (hb : Below w.heap.size w W) => lawLefts_yes s ma ml mc wa wl wc na nl nc W (hp.below hb) ho hl0)
  have HFS := Lib.hid (fun W (hb : Below w.heap.size w W) => lawFresh_is s ma ml mc wa wl wc na nl nc ho hl0 W (hp.below hb))
  have HSS := Lib.hid (fun p (hpn : p < nl) W (hb : Below w.heap.size w W) => lawSure_is s ma ml mc wa wl wc na nl nc p hpn ho hl0 W (hp.below hb))
  have HKO := Lib.hid (fun ga gm va vm ua um b (h : (s.sub i j).known = b) W (h' : FAt W ga ml gm va (j - i) vm ua nl um (s.sub i j)) => known_is (s.sub i j) ga ml gm va (j - i) vm ua nl um b h W h')
  have hwl := hp.2.1.1
  have hwm := hp.2.1.2.1
  have hnm := hp.2.2.2.1
  have hm5 : ml ≤ 5 := by have := (FShop.ok_few ho).2.1; have := hp.1.1; omega
  have hn3 : nl ≤ 3 := by have := (FShop.ok_few ho).1; have := hp.2.2.1; omega
  have hw6 : wl ≤ 6 := by have := (FShop.ok_few ho).2.2; omega
  have hfr := FShop.ok_fresh ho
  have hijI : (i : Int) ≤ (j : Int) := by omega
  have hjI : ¬ (wl : Int) < (j : Int) := by omega
  have hi0 : (0 : Int) ≤ (i : Int) := by omega
  unfold maxLen at hwm
  have HO := Lib.hid (And.intro ho hl0)
  have HFR := Lib.hid hfr
  clear hp hk ho hl0 hnm hfr
  go_enter Try.func5, Try.ntmps5
  go_wp2_with fail
  refine (HK1.out _ (by repeat (first | exact Below.refl _ _ | (refine Below.alloc ?_ (by first | omega | (simp; omega) | simp) _) | (refine Below.setCell ?_ (by first | omega | (simp; omega) | simp) _) | refine Below.drew ?_))).mono ?_
  rintro e w1 ⟨rfl, hb1⟩
  have hx0 := fun i => (hb1.cell (p := ⟨w.heap.size, i, none⟩) (by simp)).trans (World.cell?_alloc_new w #[.slice ma ml mc, .slice wa wl wc, .slice na nl nc, .int .i64 s.fresh] 26 i)
  have HX1 := Lib.hid hx0
  obtain ⟨x0, x1, x2, x3⟩ : w1.cell? ⟨w.heap.size, 0, none⟩ = some (.slice ma ml mc) ∧ w1.cell? ⟨w.heap.size, 1, none⟩ = some (.slice wa wl wc) ∧ w1.cell? ⟨w.heap.size, 2, none⟩ = some (.slice na nl nc) ∧ w1.cell? ⟨w.heap.size, 3, none⟩ = some (.int .i64 s.fresh) := ⟨hx0 0, hx0 1, hx0 2, hx0 3⟩
  have q1 : w.heap.size < w1.heap.size := by have := hb1.size; simp at this; omega
  have hw1 := ((by repeat (first | exact Below.refl _ _ | (refine Below.alloc ?_ (by first | omega | (simp; omega) | simp) _) | (refine Below.setCell ?_ (by first | omega | (simp; omega) | simp) _) | refine Below.drew ?_)) : Below w.heap.size w _).trans (hb1.mono (by first | (simp; done) | (simp; omega) | omega))
  clear hb1 hx0
  go_wp2_with fail
  refine (HF.out _).mono ?_
  rintro e w2 ⟨rfl, hb2⟩
  have hw2 := hw1.trans (hb2.mono hw1.size)
  have q2 : w.heap.size < w2.heap.size := Nat.lt_of_lt_of_le q1 hb2.size
  have HX2 := Lib.hid (fun i => (hb2.cell (p := ⟨w.heap.size, i, none⟩) q1).trans (HX1.out i))
  have y0 := (hb2.cell (p := ⟨w.heap.size, 0, none⟩) q1).trans x0; have y1 := (hb2.cell (p := ⟨w.heap.size, 1, none⟩) q1).trans x1; have y2 := (hb2.cell (p := ⟨w.heap.size, 2, none⟩) q1).trans x2; have y3 := (hb2.cell (p := ⟨w.heap.size, 3, none⟩) q1).trans x3; clear x0 x1 x2 x3
  clear hb2
  go_wp2_with fail
  refine (HC.out _ hw2).mono ?_
  rintro e u1 ⟨ga, gm, va, vm, ua, um, rfl, hP1, hcase, hb3⟩
  have hu1 := hw2.trans (hb3.mono hw2.size)
  have q3 : w.heap.size < u1.heap.size := Nat.lt_of_lt_of_le q2 hb3.size
  have HX4 := Lib.hid (fun i => (hb3.cell (p := ⟨w.heap.size, i, none⟩) q2).trans (HX2.out i))
  have x0 := (hb3.cell (p := ⟨w.heap.size, 0, none⟩) q2).trans y0; have x1 := (hb3.cell (p := ⟨w.heap.size, 1, none⟩) q2).trans y1; have x2 := (hb3.cell (p := ⟨w.heap.size, 2, none⟩) q2).trans y2; have x3 := (hb3.cell (p := ⟨w.heap.size, 3, none⟩) q2).trans y3; clear y0 y1 y2 y3
  clear hb3
  go_upto_region 4 with fail
  obtain ⟨U, hU, hb4, hOb, hOf, hgU⟩ := name1kf u1 #[.slice ga ml gm, .slice va wl vm, .slice ua nl um, .int .i64 s.fresh] 26
  rw [hU]
  clear hU
  obtain ⟨gO, hgO⟩ : ∃ gO, gO = u1.heap.size := ⟨_, rfl⟩
  rw [← hgO]
  rw [← hgO] at hOb hOf hgU
  have hgle : u1.heap.size ≤ gO := by omega
  have hwg : w.heap.size < gO := by omega
  obtain ⟨o0, o1, o2, o3⟩ : U.cell? ⟨gO, 0, none⟩ = some (.slice ga ml gm) ∧ U.cell? ⟨gO, 1, none⟩ = some (.slice va wl vm) ∧ U.cell? ⟨gO, 2, none⟩ = some (.slice ua nl um) ∧ U.cell? ⟨gO, 3, none⟩ = some (.int .i64 s.fresh) := ⟨hOb 0, hOb 1, hOb 2, hOb 3⟩
  have f1 := hOf 1
  have HHP := Lib.hid hP1
  have HB4 := Lib.hid hb4
  have HU1 := Lib.hid hu1
  clear hOb hOf hP1 hb4 hu1 hgO
  go_cut [] (fun wx => ∃ (vb : Option Addr) (vk : Nat), wx.cell? ⟨gO, 0, none⟩ = some (.slice ga ml gm) ∧ wx.cell? ⟨gO, 1, none⟩ = some (.slice vb (j - i) vk) ∧ wx.cell? ⟨gO, 2, none⟩ = some (.slice ua nl um) ∧ wx.cell? ⟨gO, 3, none⟩ = some (.int .i64 s.fresh) ∧ ListsAt wx vb (j - i) ((s.worlds.take j).drop i) ∧ Below gO U wx ∧ Below u1.heap.size u1 wx ∧ gO < wx.heap.size)
  case first =>
    rcases hcase with ⟨rfl, h2, rfl⟩ | ⟨g, rfl, h2, h3⟩
    · obtain rfl : i = 0 := by omega
      obtain rfl : j = 0 := by omega
      have HZ := Lib.hid (show (s.worlds.take 0).drop 0 = [] by simp)
      clear h2 hij hj hijI hjI hi0 hwl
      go_wp2_with fail
      go_meet
      refine ⟨none, 0, by go_simp, by go_simp, by go_simp, by go_simp, by rw [HZ.out]; exact ListsAt.none, ?_, ?_, by simp; omega⟩
      · exact (by repeat (first | exact Below.refl _ _ | (refine Below.alloc ?_ (by first | omega | (simp; omega) | simp) _) | (refine Below.setCell ?_ (by first | omega | (simp; omega) | simp) _) | refine Below.drew ?_))
      · have hBB := HB4.out
        exact (by repeat (first | assumption | exact Below.refl _ _ | (refine Below.alloc ?_ (by first | omega | (simp; omega) | simp) _) | (refine Below.setCell ?_ (by first | omega | (simp; omega) | simp) _) | refine Below.drew ?_))
    · unfold maxLen at h3
      have hjv : (j : Int) ≤ (vm : Int) := by omega
      by_cases hvi : vm = i
      · have HIJ := Lib.hid (show j - i = 0 by omega)
        have HZ := Lib.hid (show (s.worlds.take j).drop i = [] by apply List.drop_eq_nil_of_le; simp; omega)
        go_wp2_with fail
        go_meet
        refine ⟨some ⟨g, 0, none⟩, 0, by go_simp, by go_simp, by go_simp, by go_simp, by rw [HZ.out, HIJ.out]; exact ListsAt.none, ?_, ?_, by simp; omega⟩
        · exact (by repeat (first | exact Below.refl _ _ | (refine Below.alloc ?_ (by first | omega | (simp; omega) | simp) _) | (refine Below.setCell ?_ (by first | omega | (simp; omega) | simp) _) | refine Below.drew ?_))
        · have hBB := HB4.out
          exact (by repeat (first | assumption | exact Below.refl _ _ | (refine Below.alloc ?_ (by first | omega | (simp; omega) | simp) _) | (refine Below.setCell ?_ (by first | omega | (simp; omega) | simp) _) | refine Below.drew ?_))
      · have HSUB := Lib.hid (fun W (hb : Below u1.heap.size u1 W) => (HHP.out.2.1.sub hij hj).below hb)
        go_wp2_with fail
        go_meet
        have hBB := HB4.out
        refine ⟨some ⟨g, i, none⟩, vm - i, by go_simp, by go_simp, by go_simp, by go_simp, HSUB.out _ ?_, ?_, ?_, by simp; omega⟩
        · exact (by repeat (first | assumption | exact Below.refl _ _ | (refine Below.alloc ?_ (by first | omega | (simp; omega) | simp) _) | (refine Below.setCell ?_ (by first | omega | (simp; omega) | simp) _) | refine Below.drew ?_))
        · exact (by repeat (first | exact Below.refl _ _ | (refine Below.alloc ?_ (by first | omega | (simp; omega) | simp) _) | (refine Below.setCell ?_ (by first | omega | (simp; omega) | simp) _) | refine Below.drew ?_))
        · exact (by repeat (first | assumption | exact Below.refl _ _ | (refine Below.alloc ?_ (by first | omega | (simp; omega) | simp) _) | (refine Below.setCell ?_ (by first | omega | (simp; omega) | simp) _) | refine Below.drew ?_))
  case rest =>
  obtain ⟨vb, vk, n0, n1, n2, n3, hL, hBU, hB5, hgU'⟩ := hcut
  obtain ⟨U5, rfl⟩ : ∃ U5 : World, U5 = wc := ⟨_, rfl⟩
  have hSb : ∀ i, U5.cell? ⟨w.heap.size, i, none⟩ = (#[.slice ma ml mc, .slice wa wl wc, .slice na nl nc, .int .i64 s.fresh] : Array Value)[i]? := fun i => (hBU.cell (p := ⟨w.heap.size, i, none⟩) hwg).trans ((HB4.out.cell (p := ⟨w.heap.size, i, none⟩) q3).trans (HX4.out i))
  obtain ⟨ol, hol⟩ : ∃ ol, j - i = ol := ⟨_, rfl⟩
  rw [hol] at n1 hL
  have hPO : FAt U5 ga ml gm vb ol vk ua nl um (s.sub i j) := ⟨HHP.out.1.below hB5, hL, HHP.out.2.2.below hB5⟩
  have hwU := HU1.out.trans (hB5.mono HU1.out.size)
  have hsU : w.heap.size < U5.heap.size := by omega
  have hgU : gO < U5.heap.size := hgU'
  rw [hol] at HKO
  have HSB := Lib.hid hSb
  have HOB := Lib.hid (show U5.cell? ⟨gO, 0, none⟩ = some (.slice ga ml gm) ∧ U5.cell? ⟨gO, 1, none⟩ = some (.slice vb ol vk) ∧ U5.cell? ⟨gO, 2, none⟩ = some (.slice ua nl um) ∧ U5.cell? ⟨gO, 3, none⟩ = some (.int .i64 s.fresh) from ⟨n0, n1, n2, n3⟩)
  have HWU := Lib.hid hwU
  have HPO := Lib.hid (fun W (hb : Below U5.heap.size U5 W) => hPO.below hb)
  have HBS := Lib.hid (fun W (hb : Below U5.heap.size U5 W) => hwU.trans (hb.mono hwU.size))
  clear hSb hPO hwU hL hB5 hBU n0 n1 n2 n3 o0 o1 o2 o3 f1 x0 x1 x2 x3 HX1 HX2 HX4 HB4 HU1 HHP hgle hw1 hw2 q1 q2 q3 hcase hgU' hij hj hijI hjI hi0 hwl hwm hol
  have hUU : Below U5.heap.size U5 U5 := Below.refl _ _
  obtain ⟨x0, x1, x2, x3⟩ : U5.cell? ⟨w.heap.size, 0, none⟩ = some (.slice ma ml mc) ∧ U5.cell? ⟨w.heap.size, 1, none⟩ = some (.slice wa wl wc) ∧ U5.cell? ⟨w.heap.size, 2, none⟩ = some (.slice na nl nc) ∧ U5.cell? ⟨w.heap.size, 3, none⟩ = some (.int .i64 s.fresh) := ⟨(hUU.cell (p := ⟨w.heap.size, 0, none⟩) hsU).trans (HSB.out 0), (hUU.cell (p := ⟨w.heap.size, 1, none⟩) hsU).trans (HSB.out 1), (hUU.cell (p := ⟨w.heap.size, 2, none⟩) hsU).trans (HSB.out 2), (hUU.cell (p := ⟨w.heap.size, 3, none⟩) hsU).trans (HSB.out 3)⟩; obtain ⟨o0, o1, o2, o3⟩ : U5.cell? ⟨gO, 0, none⟩ = some (.slice ga ml gm) ∧ U5.cell? ⟨gO, 1, none⟩ = some (.slice vb ol vk) ∧ U5.cell? ⟨gO, 2, none⟩ = some (.slice ua nl um) ∧ U5.cell? ⟨gO, 3, none⟩ = some (.int .i64 s.fresh) := ⟨(hUU.cell (p := ⟨gO, 0, none⟩) hgU).trans HOB.out.1, (hUU.cell (p := ⟨gO, 1, none⟩) hgU).trans HOB.out.2.1, (hUU.cell (p := ⟨gO, 2, none⟩) hgU).trans HOB.out.2.2.1, (hUU.cell (p := ⟨gO, 3, none⟩) hgU).trans HOB.out.2.2.2⟩
  rcases hk2 : (s.sub i j).known with - | -
  · have HK2 := Lib.hid (HKO.out ga gm vb vk ua um false hk2 U5 (HPO.out U5 hUU))
    clear hk2
    go_wp2_with fail
    refine HK2.out.mono ?_
    rintro e w6 ⟨rfl, hb6⟩
    go_wp2_with fail
    refine (works_any _).mono ?_
    rintro e w9 ⟨rfl, hb9⟩
    go_wp2_with fail
    go_ret
    exact ⟨rfl, HBS.out _ (hb6.trans (hb9.mono hb6.size))⟩
  have HK2 := Lib.hid (HKO.out ga gm vb vk ua um true hk2 U5 (HPO.out U5 hUU))
  obtain ⟨ho2, hl2⟩ : (s.sub i j).ok = true ∧ 0 < (s.sub i j).left.length := by simpa [FShop.known] using hk2
  have HLO := Lib.hid (fun W (hb : Below U5.heap.size U5 W) => lawLefts_yes (s.sub i j) ga ml gm vb ol vk ua nl um W (HPO.out W hb) ho2 hl2)
  have HFO := Lib.hid (fun W (hb : Below U5.heap.size U5 W) => lawFresh_is (s.sub i j) ga ml gm vb ol vk ua nl um ho2 hl2 W (HPO.out W hb))
  have HSO := Lib.hid (fun p (hpn : p < nl) W (hb : Below U5.heap.size U5 W) => lawSure_is (s.sub i j) ga ml gm vb ol vk ua nl um p hpn ho2 hl2 W (HPO.out W hb))
  have HLT := Lib.hid (fun m => lo_sub hl2 (sub_left s i j) m)
  have HMO := Lib.hid (fun p => sumOf_mono (ms := s.moulds) (c := loOf s.left) (d := loOf (s.sub i j).left) (fun t => (lo_sub hl2 (sub_left s i j) t).1) p)
  have hnew : (s.sub i j).newAll ≤ s.newAll := newAll_mono (s := s) (t := s.sub i j) rfl rfl HFR.out.1 (fun p => HMO.out p)
  have hnb : 0 ≤ (s.sub i j).newAll := (newTo_bd ho2 _ (Nat.le_refl _)).1
  have hnb2 : 0 ≤ s.newAll := (newTo_bd HO.out.1 _ (Nat.le_refl _)).1
  have HSB1 := Lib.hid (fun p => sure_bd HO.out.1 p)
  have HLH := Lib.hid (fun m => lo_hi hl2 m)
  have hsmo : (s.sub i j).moulds = s.moulds := rfl
  rw [hsmo] at HSO
  have hsfr : (s.sub i j).fresh = s.fresh := rfl
  rw [hsfr] at HLO HFO HSO
  clear hk2 hl2 ho2 hsmo hsfr HPO HKO
  generalize (s.sub i j).newAll = nO at *
  generalize s.newAll = nS at *
  generalize (s.sub i j).left = LO at *
  generalize hLS : s.left = LS at *
  clear hLS
  go_wp2_with fail
  refine HK2.out.mono ?_
  rintro e w6 ⟨rfl, hb6⟩
  clear x0 x1 x2 x3 o0 o1 o2 o3
  obtain ⟨x0, x1, x2, x3⟩ : w6.cell? ⟨w.heap.size, 0, none⟩ = some (.slice ma ml mc) ∧ w6.cell? ⟨w.heap.size, 1, none⟩ = some (.slice wa wl wc) ∧ w6.cell? ⟨w.heap.size, 2, none⟩ = some (.slice na nl nc) ∧ w6.cell? ⟨w.heap.size, 3, none⟩ = some (.int .i64 s.fresh) := ⟨(hb6.cell (p := ⟨w.heap.size, 0, none⟩) hsU).trans (HSB.out 0), (hb6.cell (p := ⟨w.heap.size, 1, none⟩) hsU).trans (HSB.out 1), (hb6.cell (p := ⟨w.heap.size, 2, none⟩) hsU).trans (HSB.out 2), (hb6.cell (p := ⟨w.heap.size, 3, none⟩) hsU).trans (HSB.out 3)⟩; obtain ⟨o0, o1, o2, o3⟩ : w6.cell? ⟨gO, 0, none⟩ = some (.slice ga ml gm) ∧ w6.cell? ⟨gO, 1, none⟩ = some (.slice vb ol vk) ∧ w6.cell? ⟨gO, 2, none⟩ = some (.slice ua nl um) ∧ w6.cell? ⟨gO, 3, none⟩ = some (.int .i64 s.fresh) := ⟨(hb6.cell (p := ⟨gO, 0, none⟩) hgU).trans HOB.out.1, (hb6.cell (p := ⟨gO, 1, none⟩) hgU).trans HOB.out.2.1, (hb6.cell (p := ⟨gO, 2, none⟩) hgU).trans HOB.out.2.2.1, (hb6.cell (p := ⟨gO, 3, none⟩) hgU).trans HOB.out.2.2.2⟩
  go_wp2_with fail
  refine (HLS.out _ (HBS.out _ hb6)).mono ?_
  rintro e w7 ⟨la, lc, rfl, hsp, hb7⟩
  have hB7 := hb6.trans (hb7.mono hb6.size)
  have HSP7 := Lib.hid hsp
  clear x0 x1 x2 x3 o0 o1 o2 o3
  obtain ⟨x0, x1, x2, x3⟩ : w7.cell? ⟨w.heap.size, 0, none⟩ = some (.slice ma ml mc) ∧ w7.cell? ⟨w.heap.size, 1, none⟩ = some (.slice wa wl wc) ∧ w7.cell? ⟨w.heap.size, 2, none⟩ = some (.slice na nl nc) ∧ w7.cell? ⟨w.heap.size, 3, none⟩ = some (.int .i64 s.fresh) := ⟨(hB7.cell (p := ⟨w.heap.size, 0, none⟩) hsU).trans (HSB.out 0), (hB7.cell (p := ⟨w.heap.size, 1, none⟩) hsU).trans (HSB.out 1), (hB7.cell (p := ⟨w.heap.size, 2, none⟩) hsU).trans (HSB.out 2), (hB7.cell (p := ⟨w.heap.size, 3, none⟩) hsU).trans (HSB.out 3)⟩; obtain ⟨o0, o1, o2, o3⟩ : w7.cell? ⟨gO, 0, none⟩ = some (.slice ga ml gm) ∧ w7.cell? ⟨gO, 1, none⟩ = some (.slice vb ol vk) ∧ w7.cell? ⟨gO, 2, none⟩ = some (.slice ua nl um) ∧ w7.cell? ⟨gO, 3, none⟩ = some (.int .i64 s.fresh) := ⟨(hB7.cell (p := ⟨gO, 0, none⟩) hgU).trans HOB.out.1, (hB7.cell (p := ⟨gO, 1, none⟩) hgU).trans HOB.out.2.1, (hB7.cell (p := ⟨gO, 2, none⟩) hgU).trans HOB.out.2.2.1, (hB7.cell (p := ⟨gO, 3, none⟩) hgU).trans HOB.out.2.2.2⟩
  clear hb7 hsp hb6
  go_wp2_with fail
  refine (HLO.out _ hB7).mono ?_
  rintro e w8 ⟨ka, kc, rfl, hsq, hb8⟩
  have hB8 := hB7.trans (hb8.mono hB7.size)
  have HSP8 := Lib.hid (HSP7.out.below hb8)
  have HSQ8 := Lib.hid hsq
  clear x0 x1 x2 x3 o0 o1 o2 o3
  obtain ⟨x0, x1, x2, x3⟩ : w8.cell? ⟨w.heap.size, 0, none⟩ = some (.slice ma ml mc) ∧ w8.cell? ⟨w.heap.size, 1, none⟩ = some (.slice wa wl wc) ∧ w8.cell? ⟨w.heap.size, 2, none⟩ = some (.slice na nl nc) ∧ w8.cell? ⟨w.heap.size, 3, none⟩ = some (.int .i64 s.fresh) := ⟨(hB8.cell (p := ⟨w.heap.size, 0, none⟩) hsU).trans (HSB.out 0), (hB8.cell (p := ⟨w.heap.size, 1, none⟩) hsU).trans (HSB.out 1), (hB8.cell (p := ⟨w.heap.size, 2, none⟩) hsU).trans (HSB.out 2), (hB8.cell (p := ⟨w.heap.size, 3, none⟩) hsU).trans (HSB.out 3)⟩; obtain ⟨o0, o1, o2, o3⟩ : w8.cell? ⟨gO, 0, none⟩ = some (.slice ga ml gm) ∧ w8.cell? ⟨gO, 1, none⟩ = some (.slice vb ol vk) ∧ w8.cell? ⟨gO, 2, none⟩ = some (.slice ua nl um) ∧ w8.cell? ⟨gO, 3, none⟩ = some (.int .i64 s.fresh) := ⟨(hB8.cell (p := ⟨gO, 0, none⟩) hgU).trans HOB.out.1, (hB8.cell (p := ⟨gO, 1, none⟩) hgU).trans HOB.out.2.1, (hB8.cell (p := ⟨gO, 2, none⟩) hgU).trans HOB.out.2.2.1, (hB8.cell (p := ⟨gO, 3, none⟩) hgU).trans HOB.out.2.2.2⟩
  have s8 : w.heap.size < w8.heap.size := Nat.lt_of_lt_of_le hsU hB8.size
  have g8 : gO < w8.heap.size := Nat.lt_of_lt_of_le hgU hB8.size
  have HB8 := Lib.hid hB8
  have HFS8 := Lib.hid (fun W (h : Below w8.heap.size w8 W ∧ ∀ b o, b < w8.heap.size → W.cell? ⟨b, o, none⟩ = w8.cell? ⟨b, o, none⟩) => bothS1 (W0 := w8) (HFS.out W (HBS.out W (hB8.trans (h.1.mono hB8.size)))) h)
  have HFO8 := Lib.hid (fun W (h : Below w8.heap.size w8 W ∧ ∀ b o, b < w8.heap.size → W.cell? ⟨b, o, none⟩ = w8.cell? ⟨b, o, none⟩) => bothS1 (W0 := w8) (HFO.out W (hB8.trans (h.1.mono hB8.size))) h)
  clear hb8 hsq hB7 hB8 HSP7
  go_upto_region 9 with fail
  go_cut [12, 13] (fun v12 v13 wx => v12 = .int .i64 nS ∧ v13 = .int .i64 nO ∧ Below w8.heap.size w8 wx)
  case first =>
    go_region_held3 (fun w' => Below w8.heap.size w8 w' ∧ ∀ b o, b < w8.heap.size → w'.cell? ⟨b, o, none⟩ = w8.cell? ⟨b, o, none⟩) (first | with_reducible assumption | ((repeat (first | with_reducible refine bothS_drew ?_ | with_reducible refine bothS_alloc _ ?_ | with_reducible refine bothS_set _ _ (by first | omega | (simp; omega) | simp) ?_)); first | with_reducible assumption | with_reducible exact Hid.out (by assumption) | with_reducible exact ⟨Below.refl _ _, fun _ _ _ => rfl⟩)) (first | (go_at_call 31; with_reducible refine (HFS8.out _ ?_).mono ?_; (first | with_reducible assumption | ((repeat (first | with_reducible refine bothS_drew ?_ | with_reducible refine bothS_alloc _ ?_ | with_reducible refine bothS_set _ _ (by first | omega | (simp; omega) | simp) ?_)); first | with_reducible assumption | with_reducible exact Hid.out (by assumption) | with_reducible exact ⟨Below.refl _ _, fun _ _ _ => rfl⟩)); rintro e w' ⟨rfl, k, k1, k2, k3⟩; have HK := Lib.hid k; (try simp at k3); (try have k6 := Nat.lt_of_succ_le k3); (try have k7 := Nat.lt_of_succ_lt k6); (try have k8 := Nat.lt_of_succ_lt k3)) | (go_at_call 31; with_reducible refine (HFO8.out _ ?_).mono ?_; (first | with_reducible assumption | ((repeat (first | with_reducible refine bothS_drew ?_ | with_reducible refine bothS_alloc _ ?_ | with_reducible refine bothS_set _ _ (by first | omega | (simp; omega) | simp) ?_)); first | with_reducible assumption | with_reducible exact Hid.out (by assumption) | with_reducible exact ⟨Below.refl _ _, fun _ _ _ => rfl⟩)); rintro e w' ⟨rfl, k, k1, k2, k3⟩; have HK := Lib.hid k; (try simp at k3); (try have k6 := Nat.lt_of_succ_le k3); (try have k7 := Nat.lt_of_succ_lt k6); (try have k8 := Nat.lt_of_succ_lt k3)) | fail "no arm")
    all_goals (go_wp2_with fail; go_meet; exact ⟨rfl, rfl, And.left (by assumption)⟩)
  case rest =>
  obtain ⟨rfl, rfl, hB9⟩ := hcut
  obtain ⟨w9, rfl⟩ : ∃ w9 : World, w9 = wc := ⟨_, rfl⟩
  have HB9 := Lib.hid (HB8.out.trans (hB9.mono HB8.out.size))
  have HSP9 := Lib.hid (HSP8.out.below hB9)
  have HSQ9 := Lib.hid (HSQ8.out.below hB9)
  have s9 : w.heap.size < w9.heap.size := Nat.lt_of_lt_of_le s8 hB9.size
  have g9 : gO < w9.heap.size := Nat.lt_of_lt_of_le g8 hB9.size
  clear hB9 HFS8 HFO8 HSP8 HSQ8 s8 g8
  clear x0 x1 x2 x3 o0 o1 o2 o3
  have hn1 : ¬ nS < 0 := by omega
  have hn2 : ¬ nO < 0 := by omega
  have hn3' : ¬ nS < nO := by omega
  go_wp2_with fail
  clear hn1 hn2 hn3' hnew hnb hnb2
  go_loopw [14] (fun i wr => ∃ k : Nat, k ≤ ml ∧ i = .int .i64 k ∧ Below w9.heap.size w9 wr) (fun i _ => ml - (intOf i).toNat)
  case atStart => exact ⟨0, by omega, rfl, Below.refl _ _⟩
  case round =>
    obtain ⟨k, hk, rfl, hB⟩ := hrel
    obtain ⟨W1, rfl⟩ : ∃ W1 : World, W1 = wr := ⟨_, rfl⟩
    have HB := Lib.hid hB
    by_cases hlt : k < ml
    · obtain ⟨b1, o1, rfl, hB1, hc1⟩ := HSP9.out.below hB (by omega)
      obtain ⟨b2, o2, rfl, hB2, hc2⟩ := HSQ9.out.below hB (by omega)
      obtain ⟨c0, c1⟩ := hc1 k hlt
      obtain ⟨d0, d1⟩ := hc2 k hlt
      have hlt1 := HLT.out k
      have hlh := HLH.out k
      have hkl : (k : Int) < (ml : Int) := by omega
      have hk0 : (0 : Int) ≤ (k : Int) := by omega
      have HIN := Lib.hid (fun W => inside_is (loOf LO k) (hiOf LO k) (loOf LS k) (hiOf LS k) true (by simp; omega) W)
      clear hc1 hc2 hB
      generalize loOf LO k = lo' at *
      generalize hiOf LO k = hi' at *
      generalize loOf LS k = lo at *
      generalize hiOf LS k = hi at *
      have HIX := Lib.hid (fun W (h : Below W1.heap.size W1 W ∧ ∀ b o, b < W1.heap.size → W.cell? ⟨b, o, none⟩ = W1.cell? ⟨b, o, none⟩) => bothS1 (W0 := W1) (HIN.out W) h)
      go_upto_region 15 with fail
      go_cut [95] (fun v wx => v = .bool false ∧ Below W1.heap.size W1 wx)
      case first =>
        go_region_held3 (fun w' => Below W1.heap.size W1 w' ∧ ∀ b o, b < W1.heap.size → w'.cell? ⟨b, o, none⟩ = W1.cell? ⟨b, o, none⟩) (first | with_reducible assumption | ((repeat (first | with_reducible refine bothS_drew ?_ | with_reducible refine bothS_alloc _ ?_ | with_reducible refine bothS_set _ _ (by first | omega | (simp; omega) | simp) ?_)); first | with_reducible assumption | with_reducible exact Hid.out (by assumption) | with_reducible exact ⟨Below.refl _ _, fun _ _ _ => rfl⟩)) (first | (go_at_call 33; with_reducible refine (HIX.out _ ?_).mono ?_; (first | with_reducible assumption | ((repeat (first | with_reducible refine bothS_drew ?_ | with_reducible refine bothS_alloc _ ?_ | with_reducible refine bothS_set _ _ (by first | omega | (simp; omega) | simp) ?_)); first | with_reducible assumption | with_reducible exact Hid.out (by assumption) | with_reducible exact ⟨Below.refl _ _, fun _ _ _ => rfl⟩)); rintro e w' ⟨rfl, k, k1, k2, k3⟩; have HK := Lib.hid k; (try simp at k3); (try have k6 := Nat.lt_of_succ_le k3); (try have k7 := Nat.lt_of_succ_lt k6); (try have k8 := Nat.lt_of_succ_lt k3)) | fail "no arm")
        all_goals (go_wp2_with fail; go_meet; exact ⟨rfl, And.left (by assumption)⟩)
      case rest =>
      obtain ⟨rfl, hB2'⟩ := hcut
      have HB2 := Lib.hid (HB.out.trans (hB2'.mono HB.out.size))
      clear hB2'
      go_wp2_with fail
      go_roundw
      case rel => exact ⟨k + 1, by omega, by go_num, HB2.out⟩
      case measure => simp [intOf]; omega
    · obtain rfl : ml = k := by omega
      clear hlt hk hB
      have hB9' := HB9.out.trans (HB.out.mono HB9.out.size)
      obtain ⟨x0, x1, x2, x3⟩ : W1.cell? ⟨w.heap.size, 0, none⟩ = some (.slice ma ml mc) ∧ W1.cell? ⟨w.heap.size, 1, none⟩ = some (.slice wa wl wc) ∧ W1.cell? ⟨w.heap.size, 2, none⟩ = some (.slice na nl nc) ∧ W1.cell? ⟨w.heap.size, 3, none⟩ = some (.int .i64 s.fresh) := ⟨(hB9'.cell (p := ⟨w.heap.size, 0, none⟩) hsU).trans (HSB.out 0), (hB9'.cell (p := ⟨w.heap.size, 1, none⟩) hsU).trans (HSB.out 1), (hB9'.cell (p := ⟨w.heap.size, 2, none⟩) hsU).trans (HSB.out 2), (hB9'.cell (p := ⟨w.heap.size, 3, none⟩) hsU).trans (HSB.out 3)⟩; obtain ⟨o0, o1, o2, o3⟩ : W1.cell? ⟨gO, 0, none⟩ = some (.slice ga ml gm) ∧ W1.cell? ⟨gO, 1, none⟩ = some (.slice vb ol vk) ∧ W1.cell? ⟨gO, 2, none⟩ = some (.slice ua nl um) ∧ W1.cell? ⟨gO, 3, none⟩ = some (.int .i64 s.fresh) := ⟨(hB9'.cell (p := ⟨gO, 0, none⟩) hgU).trans HOB.out.1, (hB9'.cell (p := ⟨gO, 1, none⟩) hgU).trans HOB.out.2.1, (hB9'.cell (p := ⟨gO, 2, none⟩) hgU).trans HOB.out.2.2.1, (hB9'.cell (p := ⟨gO, 3, none⟩) hgU).trans HOB.out.2.2.2⟩
      clear hB9'
      go_wp2_with fail
      clear x0 x1 x2 x3 o0 o1 o2 o3
      go_loopw [15] (fun i wr => ∃ k : Nat, k ≤ nl ∧ i = .int .i64 k ∧ Below w9.heap.size w9 wr) (fun i _ => nl - (intOf i).toNat)
      case atStart => exact ⟨0, by omega, rfl, HB.out⟩
      case round =>
        clear HB
        obtain ⟨k, hk, rfl, hB⟩ := hrel
        obtain ⟨W2, rfl⟩ : ∃ W2 : World, W2 = wr := ⟨_, rfl⟩
        have HB := Lib.hid hB
        have hB9' := HB9.out.trans (hB.mono HB9.out.size)
        obtain ⟨x0, x1, x2, x3⟩ : W2.cell? ⟨w.heap.size, 0, none⟩ = some (.slice ma ml mc) ∧ W2.cell? ⟨w.heap.size, 1, none⟩ = some (.slice wa wl wc) ∧ W2.cell? ⟨w.heap.size, 2, none⟩ = some (.slice na nl nc) ∧ W2.cell? ⟨w.heap.size, 3, none⟩ = some (.int .i64 s.fresh) := ⟨(hB9'.cell (p := ⟨w.heap.size, 0, none⟩) hsU).trans (HSB.out 0), (hB9'.cell (p := ⟨w.heap.size, 1, none⟩) hsU).trans (HSB.out 1), (hB9'.cell (p := ⟨w.heap.size, 2, none⟩) hsU).trans (HSB.out 2), (hB9'.cell (p := ⟨w.heap.size, 3, none⟩) hsU).trans (HSB.out 3)⟩; obtain ⟨o0, o1, o2, o3⟩ : W2.cell? ⟨gO, 0, none⟩ = some (.slice ga ml gm) ∧ W2.cell? ⟨gO, 1, none⟩ = some (.slice vb ol vk) ∧ W2.cell? ⟨gO, 2, none⟩ = some (.slice ua nl um) ∧ W2.cell? ⟨gO, 3, none⟩ = some (.int .i64 s.fresh) := ⟨(hB9'.cell (p := ⟨gO, 0, none⟩) hgU).trans HOB.out.1, (hB9'.cell (p := ⟨gO, 1, none⟩) hgU).trans HOB.out.2.1, (hB9'.cell (p := ⟨gO, 2, none⟩) hgU).trans HOB.out.2.2.1, (hB9'.cell (p := ⟨gO, 3, none⟩) hgU).trans HOB.out.2.2.2⟩
        by_cases hlt : k < nl
        · have s10 : w.heap.size < W2.heap.size := Nat.lt_of_lt_of_le s9 hB.size
          have g10 : gO < W2.heap.size := Nat.lt_of_lt_of_le g9 hB.size
          have HSX := Lib.hid (fun W (h : Below W2.heap.size W2 W ∧ ∀ b o, b < W2.heap.size → W.cell? ⟨b, o, none⟩ = W2.cell? ⟨b, o, none⟩) => bothS1 (W0 := W2) (HSS.out k hlt W (HBS.out W (hB9'.trans (h.1.mono hB9'.size)))) h)
          have HSY := Lib.hid (fun W (h : Below W2.heap.size W2 W ∧ ∀ b o, b < W2.heap.size → W.cell? ⟨b, o, none⟩ = W2.cell? ⟨b, o, none⟩) => bothS1 (W0 := W2) (HSO.out k hlt W (hB9'.trans (h.1.mono hB9'.size))) h)
          have hmo := HMO.out (k : Int)
          have hsb := (HSB1.out (k : Int)).1
          have hkl : (k : Int) < (nl : Int) := by omega
          have hk0 : (0 : Int) ≤ (k : Int) := by omega
          clear hB hB9'
          generalize sumOf s.moulds (loOf LS) (k : Int) = aS at *
          generalize sumOf s.moulds (loOf LO) (k : Int) = aO at *
          go_upto_region 20 with fail
          go_cut [16, 17] (fun v16 v17 wx => v16 = .int .i64 aS ∧ v17 = .int .i64 aO ∧ Below W2.heap.size W2 wx)
          case first =>
            go_region_held3 (fun w' => Below W2.heap.size W2 w' ∧ ∀ b o, b < W2.heap.size → w'.cell? ⟨b, o, none⟩ = W2.cell? ⟨b, o, none⟩) (first | with_reducible assumption | ((repeat (first | with_reducible refine bothS_drew ?_ | with_reducible refine bothS_alloc _ ?_ | with_reducible refine bothS_set _ _ (by first | omega | (simp; omega) | simp) ?_)); first | with_reducible assumption | with_reducible exact Hid.out (by assumption) | with_reducible exact ⟨Below.refl _ _, fun _ _ _ => rfl⟩)) (first | (go_at_call 34; with_reducible refine (HSX.out _ ?_).mono ?_; (first | with_reducible assumption | ((repeat (first | with_reducible refine bothS_drew ?_ | with_reducible refine bothS_alloc _ ?_ | with_reducible refine bothS_set _ _ (by first | omega | (simp; omega) | simp) ?_)); first | with_reducible assumption | with_reducible exact Hid.out (by assumption) | with_reducible exact ⟨Below.refl _ _, fun _ _ _ => rfl⟩)); rintro e w' ⟨rfl, k, k1, k2, k3⟩; have HK := Lib.hid k; (try simp at k3); (try have k6 := Nat.lt_of_succ_le k3); (try have k7 := Nat.lt_of_succ_lt k6); (try have k8 := Nat.lt_of_succ_lt k3)) | (go_at_call 34; with_reducible refine (HSY.out _ ?_).mono ?_; (first | with_reducible assumption | ((repeat (first | with_reducible refine bothS_drew ?_ | with_reducible refine bothS_alloc _ ?_ | with_reducible refine bothS_set _ _ (by first | omega | (simp; omega) | simp) ?_)); first | with_reducible assumption | with_reducible exact Hid.out (by assumption) | with_reducible exact ⟨Below.refl _ _, fun _ _ _ => rfl⟩)); rintro e w' ⟨rfl, k, k1, k2, k3⟩; have HK := Lib.hid k; (try simp at k3); (try have k6 := Nat.lt_of_succ_le k3); (try have k7 := Nat.lt_of_succ_lt k6); (try have k8 := Nat.lt_of_succ_lt k3)) | fail "no arm")
            all_goals (go_wp2_with fail; go_meet; exact ⟨rfl, rfl, And.left (by assumption)⟩)
          case rest =>
          obtain ⟨rfl, rfl, hB2'⟩ := hcut
          have HB2 := Lib.hid (HB.out.trans (hB2'.mono HB.out.size))
          clear x0 x1 x2 x3 o0 o1 o2 o3
          clear hB2' HSX HSY
          have ha1 : ¬ aS < 0 := by omega
          have ha2 : ¬ aO < aS := by omega
          go_wp2_with fail
          go_roundw
          case rel => exact ⟨k + 1, by omega, by go_num, HB2.out⟩
          case measure => simp [intOf]; omega
        · obtain rfl : nl = k := by omega
          have HBX := Lib.hid hB9'
          clear hB hB9'
          go_wp2_with fail
          refine (works_any _).mono ?_
          rintro e w9 ⟨rfl, hb9⟩
          go_wp2_with fail
          go_ret
          exact ⟨rfl, HBS.out _ (HBX.out.trans (hb9.mono HBX.out.size))⟩
theorem fewer_law (s : FShop) (ma : Option Addr) (ml mc : Nat) (wa : Option Addr) (wl wc : Nat) (na : Option Addr) (nl nc : Nat) (f t : Int) (w : World) (hp : FAt w ma ml mc wa wl wc na nl nc s) :
    Calls Try.prog 5 #[.agg #[.slice ma ml mc, .slice wa wl wc, .slice na nl nc, .int .i64 s.fresh], .int .i64 f, .int .i64 t] w fun e w' => e = .returned (.bool true) ∧ Below w.heap.size w w' := by
  rcases h : (s.known && btw f 0 t && decide (t ≤ wl)) with - | -
  · exact fewer_early s ma ml mc wa wl wc na nl nc f t w hp h
  · simp only [Bool.and_eq_true, decide_eq_true_eq] at h
    obtain ⟨⟨h1, h2⟩, h3⟩ := h
    have h4 : 0 ≤ f ∧ f ≤ t := by simpa [btw] using h2
    obtain ⟨i, rfl⟩ : ∃ i : Nat, f = (i : Int) := ⟨f.toNat, by omega⟩
    obtain ⟨j, rfl⟩ : ∃ j : Nat, t = (j : Int) := ⟨t.toNat, by omega⟩
    exact fewer_walk s ma ml mc wa wl wc na nl nc i j (by omega) (by omega) w hp h1
end Go.Proofs.Ytgniblcagjdpnaa
