/- FlongsAgrees: the walk. -/
import Derived.Test.YtgniblcagjdpnaaGJ
import Derived.Test.YtgniblcagjdpnaaGK
namespace Go.Proofs.Ytgniblcagjdpnaa
set_option linter.unusedVariables false
set_option linter.unusedSimpArgs false
open Go.RowKit

set_option maxRecDepth 100000 in
set_option maxHeartbeats 16000000 in
theorem agrees_walk (s : FShop) (ma : Option Addr) (ml mc : Nat) (wa : Option Addr) (wl wc : Nat) (na : Option Addr) (nl nc : Nat) (n : Int) (xa : Option Addr) (xl xc : Nat) (x : List Int) (w : World) (hp : FAt w ma ml mc wa wl wc na nl nc s) (hx : IntsAt w xa xl x) (hh : s.huge = false) (h40 : xl ≤ 40) :
    Calls Try.prog 11 #[.agg #[.slice ma ml mc, .slice wa wl wc, .slice na nl nc, .int .i64 s.fresh], .int .i64 n, .slice xa xl xc] w fun e w' => e = .returned (.bool true) ∧ Below w.heap.size w w' := by
  have HH := Lib.hid (fun w1 (hb : Below w.heap.size w w1) => Huge_is s ma ml mc wa wl wc na nl nc false hh w1 (hp.below hb))
  have HC := Lib.hid (fun w1 (hb : Below w.heap.size w w1) => Copy_at s ma ml mc wa wl wc na nl nc w1 (hp.below hb) hh)
  have HX := Lib.hid (fun w1 (hb : Below w.heap.size w w1) => hx.below hb)
  have HP := Lib.hid (fun w1 (hb : Below w.heap.size w w1) => hp.below hb)
  have hgt : ¬ (40 : Int) < (xl : Int) := by omega
  have hxl : xl ≤ 1000 := by omega
  obtain ⟨cc, hcc⟩ : ∃ cc, s.chk = cc := ⟨_, rfl⟩
  obtain ⟨ag, hag⟩ : ∃ ag, s.agOut n = ag := ⟨_, rfl⟩
  obtain ⟨ae, hae⟩ : ∃ ae, s.agErr n = ae := ⟨_, rfl⟩
  obtain ⟨go, hgo⟩ : ∃ go, s.goodOut x = go := ⟨_, rfl⟩
  obtain ⟨wh, hwh⟩ : ∃ wh, (if s.ok then s.which else []) = wh := ⟨_, rfl⟩
  have HK1 := Lib.hid (fun ga gm va vm ua um W (h : FAt W ga ml gm va wl vm ua nl um s) => Check_is s ga ml gm va wl vm ua nl um cc hcc W h)
  have HK2 := Lib.hid (fun ga gm va vm ua um W (h : FAt W ga ml gm va wl vm ua nl um s) => refCheck_is s ga ml gm va wl vm ua nl um cc hcc W h)
  have HA1 := Lib.hid (fun ga gm va vm ua um W (h : FAt W ga ml gm va wl vm ua nl um s) => Agrees_all s ga ml gm va wl vm ua nl um n ag ae hag hae W h)
  have HA2 := Lib.hid (fun ga gm va vm ua um W (h : FAt W ga ml gm va wl vm ua nl um s) => refAgrees_all s ga ml gm va wl vm ua nl um n ag ae hag hae W h)
  have HB1 := Lib.hid (fun ga gm va vm ua um W (h : FAt W ga ml gm va wl vm ua nl um s) => show Calls Try.prog 20 #[.agg #[.slice ga ml gm, .slice va wl vm, .slice ua nl um, .int .i64 s.fresh]] W fun e w' => (∃ a len c, e = .returned (.tuple #[.slice a len c, .int .i64 cc]) ∧ IntsAt w' a len wh) ∧ Below W.heap.size W w' by
    have h1 := Worlds_all s ga ml gm va wl vm ua nl um W h
    unfold WorldsPost at h1
    rwa [hcc, hwh] at h1)
  have HB2 := Lib.hid (fun ga gm va vm ua um W (h : FAt W ga ml gm va wl vm ua nl um s) => show Calls Try.prog 55 #[.agg #[.slice ga ml gm, .slice va wl vm, .slice ua nl um, .int .i64 s.fresh]] W fun e w' => (∃ a len c, e = .returned (.tuple #[.slice a len c, .int .i64 cc]) ∧ IntsAt w' a len wh) ∧ Below W.heap.size W w' by
    have h1 := refWorlds_all s ga ml gm va wl vm ua nl um W h
    unfold WorldsPost at h1
    rwa [hcc, hwh] at h1)
  have HG1 := Lib.hid (fun ga gm va vm ua um ya yc W (h : FAt W ga ml gm va wl vm ua nl um s) (hy : IntsAt W ya xl x) => Good_all s ga ml gm va wl vm ua nl um ya xl yc x go cc hgo hcc W h hy)
  have HG2 := Lib.hid (fun ga gm va vm ua um ya yc W (h : FAt W ga ml gm va wl vm ua nl um s) (hy : IntsAt W ya xl x) => refGood_all s ga ml gm va wl vm ua nl um ya xl yc x go cc hgo hcc W h hy)
  have HS := Lib.hid (fun ga gm va vm ua um W (h : FAt W ga ml gm va wl vm ua nl um s) (hq : FAt W ma ml mc wa wl wc na nl nc s) => Same_yes s ga ml gm va wl vm ua nl um ma mc wa wc na nc W h hq)
  clear hp hx hh hcc hag hae hgo hwh
  go_enter Try.func11, Try.ntmps11
  go_wp2_with fail
  refine (HH.out _ (by repeat (first | exact Below.refl _ _ | (refine Below.alloc ?_ (by first | omega | (simp; omega) | simp) _) | (refine Below.setCell ?_ (by first | omega | (simp; omega) | simp) _) | refine Below.drew ?_))).mono ?_; rintro e w1 ⟨rfl, hb1⟩; obtain ⟨hc1, hf1⟩ := bcell hb1; have hz1 := hb1.size; (try simp at hz1); have hw1 := ((by repeat (first | assumption | exact Below.refl _ _ | (refine Below.alloc ?_ (by first | omega | (simp; omega) | simp) _) | (refine Below.setCell ?_ (by first | omega | (simp; omega) | simp) _) | refine Below.drew ?_)) : Below w.heap.size w _).trans (hb1.mono (by first | (simp; done) | (simp; omega) | omega)); clear hb1; have p1 : w.heap.size < w1.heap.size := (by omega); go_wp2_with fail
  refine (HC.out _ hw1).mono ?_
  rintro e u1 ⟨ga, gm, va, vm, ua, um, rfl, hP1, hb2⟩
  have hu1 := hw1.trans (hb2.mono hw1.size)
  obtain ⟨hc2, hf2⟩ := bcell hb2
  have hzu := hb2.size
  clear hb2
  go_wp2_with (at_builtin; refine wpList_append_row _ u1.heap.size u1.heap.size xl xc xa x rfl _ _ rfl rfl rfl (made_row rfl (Nat.le_refl _)) (HX.out _ (hu1.alloc hu1.size _)) hxl (by simp) ?_; intro g2 cap2 u2 hR2 hb3)
  have hI2 := hR2.ints
  obtain ⟨U, hU⟩ : ∃ U, u2.alloc (.cells #[.slice ga ml gm, .slice va wl vm, .slice ua nl um, .int .i64 s.fresh] 26) = U := ⟨_, rfl⟩
  have hzb3 := hb3.size
  simp at hzb3
  have hb3' : Below u1.heap.size u1 U := by rw [← hU]; exact (((Below.refl _ _).alloc (Nat.le_refl _) _).trans hb3).alloc (by omega) _
  have hOb : ∀ i, U.cell? ⟨u2.heap.size, i, none⟩ = (#[.slice ga ml gm, .slice va wl vm, .slice ua nl um, .int .i64 s.fresh] : Array Value)[i]? := fun i => by rw [← hU]; exact World.cell?_alloc_new _ _ _ i
  have hzU : U.heap.size = u2.heap.size + 1 := by rw [← hU]; simp
  have hIU : IntsAt U (some ⟨g2, 0, none⟩) xl x := hI2.below (by rw [← hU]; exact (Below.refl _ _).alloc (Nat.le_refl _) _)
  rw [hU]
  clear hU hI2 hb3 hR2
  have hwU : Below w.heap.size w U := hu1.trans (hb3'.mono hu1.size)
  have hPU : FAt U ga ml gm va wl vm ua nl um s := hP1.below hb3'
  have hp1 : w.heap.size < w1.heap.size := p1
  have hSb : ∀ i, U.cell? ⟨w.heap.size, i, none⟩ = (#[.slice ma ml mc, .slice wa wl wc, .slice na nl nc, .int .i64 s.fresh] : Array Value)[i]? := fun i => (hb3'.cell (p := ⟨w.heap.size, i, none⟩) (show w.heap.size < u1.heap.size by omega)).trans ((hc2 _ _ p1).trans ((hc1 _ _ (by simp)).trans (World.cell?_alloc_new w _ _ i)))
  obtain ⟨gO, hgO⟩ : ∃ gO, gO = u2.heap.size := ⟨_, rfl⟩
  have hsU : w.heap.size < U.heap.size := by have := hb3'.size; omega
  have hgU : gO < U.heap.size := by omega
  have hne : gO ≠ w.heap.size := by omega
  rw [← hgO]
  rw [← hgO] at hOb
  clear hgO hzU hc1 hf1 hc2 hf2 hw1 hu1 hb3' hP1 hzb3
  have HSB := Lib.hid hSb
  have HOB := Lib.hid hOb
  have HWU := Lib.hid hwU
  have HPU := Lib.hid (fun W (hb : Below U.heap.size U W) => hPU.below hb)
  have HIU := Lib.hid (fun W (hb : Below U.heap.size U W) => hIU.below hb)
  have HPS := Lib.hid (fun W (hb : Below U.heap.size U W) => HP.out W (hwU.trans (hb.mono hwU.size)))
  have HXS := Lib.hid (fun W (hb : Below U.heap.size U W) => HX.out W (hwU.trans (hb.mono hwU.size)))
  clear hSb hOb hPU hIU hwU
  have hU0 : Below U.heap.size U U := Below.refl _ _
  obtain ⟨x0, x1, x2, x3⟩ : U.cell? ⟨w.heap.size, 0, none⟩ = some (.slice ma ml mc) ∧ U.cell? ⟨w.heap.size, 1, none⟩ = some (.slice wa wl wc) ∧ U.cell? ⟨w.heap.size, 2, none⟩ = some (.slice na nl nc) ∧ U.cell? ⟨w.heap.size, 3, none⟩ = some (.int .i64 s.fresh) := ⟨(hU0.cell (p := ⟨w.heap.size, 0, none⟩) hsU).trans (HSB.out 0), (hU0.cell (p := ⟨w.heap.size, 1, none⟩) hsU).trans (HSB.out 1), (hU0.cell (p := ⟨w.heap.size, 2, none⟩) hsU).trans (HSB.out 2), (hU0.cell (p := ⟨w.heap.size, 3, none⟩) hsU).trans (HSB.out 3)⟩; obtain ⟨o0, o1, o2, o3⟩ : U.cell? ⟨gO, 0, none⟩ = some (.slice ga ml gm) ∧ U.cell? ⟨gO, 1, none⟩ = some (.slice va wl vm) ∧ U.cell? ⟨gO, 2, none⟩ = some (.slice ua nl um) ∧ U.cell? ⟨gO, 3, none⟩ = some (.int .i64 s.fresh) := ⟨(hU0.cell (p := ⟨gO, 0, none⟩) hgU).trans (HOB.out 0), (hU0.cell (p := ⟨gO, 1, none⟩) hgU).trans (HOB.out 1), (hU0.cell (p := ⟨gO, 2, none⟩) hgU).trans (HOB.out 2), (hU0.cell (p := ⟨gO, 3, none⟩) hgU).trans (HOB.out 3)⟩
  have HK3 := Lib.hid (fun W (h : Below U.heap.size U W ∧ ∀ b o, b < U.heap.size → W.cell? ⟨b, o, none⟩ = U.cell? ⟨b, o, none⟩) => bothS1 (W0 := U) (HK1.out ga gm va vm ua um W (HPU.out _ h.1)) h)
  have HK4 := Lib.hid (fun W (h : Below U.heap.size U W ∧ ∀ b o, b < U.heap.size → W.cell? ⟨b, o, none⟩ = U.cell? ⟨b, o, none⟩) => bothS1 (W0 := U) (HK2.out ma mc wa wc na nc W (HPS.out _ h.1)) h)
  go_upto_region 4 with fail
  go_cut [38] (fun v wx => v = .bool false ∧ Below U.heap.size U wx)
  case first =>
    go_region_held3 (fun w' => Below U.heap.size U w' ∧ ∀ b o, b < U.heap.size → w'.cell? ⟨b, o, none⟩ = U.cell? ⟨b, o, none⟩) (first | with_reducible assumption | ((repeat (first | with_reducible refine bothS_drew ?_ | with_reducible refine bothS_alloc _ ?_ | with_reducible refine bothS_set _ _ (by first | omega | (simp; omega) | simp) ?_)); first | with_reducible assumption | with_reducible exact Hid.out (by assumption) | with_reducible exact ⟨Below.refl _ _, fun _ _ _ => rfl⟩)) (first | (go_at_call 51; with_reducible refine (HK3.out _ ?_).mono ?_; (first | with_reducible assumption | ((repeat (first | with_reducible refine bothS_drew ?_ | with_reducible refine bothS_alloc _ ?_ | with_reducible refine bothS_set _ _ (by first | omega | (simp; omega) | simp) ?_)); first | with_reducible assumption | with_reducible exact Hid.out (by assumption) | with_reducible exact ⟨Below.refl _ _, fun _ _ _ => rfl⟩)); rintro e w' ⟨rfl, k, k1, k2, k3⟩; have HK := Lib.hid k; (try simp at k3); (try have k6 := Nat.lt_of_succ_le k3); (try have k7 := Nat.lt_of_succ_lt k6); (try have k8 := Nat.lt_of_succ_lt k3)) | (go_at_call 52; with_reducible refine (HK4.out _ ?_).mono ?_; (first | with_reducible assumption | ((repeat (first | with_reducible refine bothS_drew ?_ | with_reducible refine bothS_alloc _ ?_ | with_reducible refine bothS_set _ _ (by first | omega | (simp; omega) | simp) ?_)); first | with_reducible assumption | with_reducible exact Hid.out (by assumption) | with_reducible exact ⟨Below.refl _ _, fun _ _ _ => rfl⟩)); rintro e w' ⟨rfl, k, k1, k2, k3⟩; have HK := Lib.hid k; (try simp at k3); (try have k6 := Nat.lt_of_succ_le k3); (try have k7 := Nat.lt_of_succ_lt k6); (try have k8 := Nat.lt_of_succ_lt k3)) | fail "no arm")
    all_goals (go_wp2_with fail; go_meet; exact ⟨by simp, And.left (by assumption)⟩)
  case rest =>
  obtain ⟨rfl, hB7⟩ := hcut
  obtain ⟨w7, rfl⟩ : ∃ w7 : World, w7 = wc := ⟨_, rfl⟩
  clear x0 x1 x2 x3 o0 o1 o2 o3
  clear HK3 HK4 HK1 HK2
  obtain ⟨x0, x1, x2, x3⟩ : w7.cell? ⟨w.heap.size, 0, none⟩ = some (.slice ma ml mc) ∧ w7.cell? ⟨w.heap.size, 1, none⟩ = some (.slice wa wl wc) ∧ w7.cell? ⟨w.heap.size, 2, none⟩ = some (.slice na nl nc) ∧ w7.cell? ⟨w.heap.size, 3, none⟩ = some (.int .i64 s.fresh) := ⟨(hB7.cell (p := ⟨w.heap.size, 0, none⟩) hsU).trans (HSB.out 0), (hB7.cell (p := ⟨w.heap.size, 1, none⟩) hsU).trans (HSB.out 1), (hB7.cell (p := ⟨w.heap.size, 2, none⟩) hsU).trans (HSB.out 2), (hB7.cell (p := ⟨w.heap.size, 3, none⟩) hsU).trans (HSB.out 3)⟩; obtain ⟨o0, o1, o2, o3⟩ : w7.cell? ⟨gO, 0, none⟩ = some (.slice ga ml gm) ∧ w7.cell? ⟨gO, 1, none⟩ = some (.slice va wl vm) ∧ w7.cell? ⟨gO, 2, none⟩ = some (.slice ua nl um) ∧ w7.cell? ⟨gO, 3, none⟩ = some (.int .i64 s.fresh) := ⟨(hB7.cell (p := ⟨gO, 0, none⟩) hgU).trans (HOB.out 0), (hB7.cell (p := ⟨gO, 1, none⟩) hgU).trans (HOB.out 1), (hB7.cell (p := ⟨gO, 2, none⟩) hgU).trans (HOB.out 2), (hB7.cell (p := ⟨gO, 3, none⟩) hgU).trans (HOB.out 3)⟩
  go_wp2_with fail
  refine (HA1.out _ _ _ _ _ _ _ (HPU.out _ hB7)).mono ?_
  rintro e w8 ⟨rfl, hb8⟩
  have hB8 := hB7.trans (hb8.mono hB7.size)
  clear x0 x1 x2 x3 o0 o1 o2 o3
  obtain ⟨x0, x1, x2, x3⟩ : w8.cell? ⟨w.heap.size, 0, none⟩ = some (.slice ma ml mc) ∧ w8.cell? ⟨w.heap.size, 1, none⟩ = some (.slice wa wl wc) ∧ w8.cell? ⟨w.heap.size, 2, none⟩ = some (.slice na nl nc) ∧ w8.cell? ⟨w.heap.size, 3, none⟩ = some (.int .i64 s.fresh) := ⟨(hB8.cell (p := ⟨w.heap.size, 0, none⟩) hsU).trans (HSB.out 0), (hB8.cell (p := ⟨w.heap.size, 1, none⟩) hsU).trans (HSB.out 1), (hB8.cell (p := ⟨w.heap.size, 2, none⟩) hsU).trans (HSB.out 2), (hB8.cell (p := ⟨w.heap.size, 3, none⟩) hsU).trans (HSB.out 3)⟩; obtain ⟨o0, o1, o2, o3⟩ : w8.cell? ⟨gO, 0, none⟩ = some (.slice ga ml gm) ∧ w8.cell? ⟨gO, 1, none⟩ = some (.slice va wl vm) ∧ w8.cell? ⟨gO, 2, none⟩ = some (.slice ua nl um) ∧ w8.cell? ⟨gO, 3, none⟩ = some (.int .i64 s.fresh) := ⟨(hB8.cell (p := ⟨gO, 0, none⟩) hgU).trans (HOB.out 0), (hB8.cell (p := ⟨gO, 1, none⟩) hgU).trans (HOB.out 1), (hB8.cell (p := ⟨gO, 2, none⟩) hgU).trans (HOB.out 2), (hB8.cell (p := ⟨gO, 3, none⟩) hgU).trans (HOB.out 3)⟩
  clear hb8
  go_wp2_with fail
  refine (HA2.out _ _ _ _ _ _ _ (HPS.out _ hB8)).mono ?_
  rintro e w9 ⟨rfl, hb9⟩
  have hB9 := hB8.trans (hb9.mono hB8.size)
  clear x0 x1 x2 x3 o0 o1 o2 o3
  obtain ⟨x0, x1, x2, x3⟩ : w9.cell? ⟨w.heap.size, 0, none⟩ = some (.slice ma ml mc) ∧ w9.cell? ⟨w.heap.size, 1, none⟩ = some (.slice wa wl wc) ∧ w9.cell? ⟨w.heap.size, 2, none⟩ = some (.slice na nl nc) ∧ w9.cell? ⟨w.heap.size, 3, none⟩ = some (.int .i64 s.fresh) := ⟨(hB9.cell (p := ⟨w.heap.size, 0, none⟩) hsU).trans (HSB.out 0), (hB9.cell (p := ⟨w.heap.size, 1, none⟩) hsU).trans (HSB.out 1), (hB9.cell (p := ⟨w.heap.size, 2, none⟩) hsU).trans (HSB.out 2), (hB9.cell (p := ⟨w.heap.size, 3, none⟩) hsU).trans (HSB.out 3)⟩; obtain ⟨o0, o1, o2, o3⟩ : w9.cell? ⟨gO, 0, none⟩ = some (.slice ga ml gm) ∧ w9.cell? ⟨gO, 1, none⟩ = some (.slice va wl vm) ∧ w9.cell? ⟨gO, 2, none⟩ = some (.slice ua nl um) ∧ w9.cell? ⟨gO, 3, none⟩ = some (.int .i64 s.fresh) := ⟨(hB9.cell (p := ⟨gO, 0, none⟩) hgU).trans (HOB.out 0), (hB9.cell (p := ⟨gO, 1, none⟩) hgU).trans (HOB.out 1), (hB9.cell (p := ⟨gO, 2, none⟩) hgU).trans (HOB.out 2), (hB9.cell (p := ⟨gO, 3, none⟩) hgU).trans (HOB.out 3)⟩
  clear hb9
  go_wp2_with fail
  refine (HB1.out _ _ _ _ _ _ _ (HPU.out _ hB9)).mono ?_
  rintro e w10 ⟨⟨ra, rl, rc, rfl, hIa⟩, hb10⟩
  have hB10 := hB9.trans (hb10.mono hB9.size)
  clear x0 x1 x2 x3 o0 o1 o2 o3
  obtain ⟨x0, x1, x2, x3⟩ : w10.cell? ⟨w.heap.size, 0, none⟩ = some (.slice ma ml mc) ∧ w10.cell? ⟨w.heap.size, 1, none⟩ = some (.slice wa wl wc) ∧ w10.cell? ⟨w.heap.size, 2, none⟩ = some (.slice na nl nc) ∧ w10.cell? ⟨w.heap.size, 3, none⟩ = some (.int .i64 s.fresh) := ⟨(hB10.cell (p := ⟨w.heap.size, 0, none⟩) hsU).trans (HSB.out 0), (hB10.cell (p := ⟨w.heap.size, 1, none⟩) hsU).trans (HSB.out 1), (hB10.cell (p := ⟨w.heap.size, 2, none⟩) hsU).trans (HSB.out 2), (hB10.cell (p := ⟨w.heap.size, 3, none⟩) hsU).trans (HSB.out 3)⟩; obtain ⟨o0, o1, o2, o3⟩ : w10.cell? ⟨gO, 0, none⟩ = some (.slice ga ml gm) ∧ w10.cell? ⟨gO, 1, none⟩ = some (.slice va wl vm) ∧ w10.cell? ⟨gO, 2, none⟩ = some (.slice ua nl um) ∧ w10.cell? ⟨gO, 3, none⟩ = some (.int .i64 s.fresh) := ⟨(hB10.cell (p := ⟨gO, 0, none⟩) hgU).trans (HOB.out 0), (hB10.cell (p := ⟨gO, 1, none⟩) hgU).trans (HOB.out 1), (hB10.cell (p := ⟨gO, 2, none⟩) hgU).trans (HOB.out 2), (hB10.cell (p := ⟨gO, 3, none⟩) hgU).trans (HOB.out 3)⟩
  have HIA := Lib.hid hIa
  clear hb10 hIa
  go_wp2_with fail
  refine (HB2.out _ _ _ _ _ _ _ (HPS.out _ hB10)).mono ?_
  rintro e w11 ⟨⟨rb, rm, rd, rfl, hIb⟩, hb11⟩
  have hB11 := hB10.trans (hb11.mono hB10.size)
  clear x0 x1 x2 x3 o0 o1 o2 o3
  obtain ⟨x0, x1, x2, x3⟩ : w11.cell? ⟨w.heap.size, 0, none⟩ = some (.slice ma ml mc) ∧ w11.cell? ⟨w.heap.size, 1, none⟩ = some (.slice wa wl wc) ∧ w11.cell? ⟨w.heap.size, 2, none⟩ = some (.slice na nl nc) ∧ w11.cell? ⟨w.heap.size, 3, none⟩ = some (.int .i64 s.fresh) := ⟨(hB11.cell (p := ⟨w.heap.size, 0, none⟩) hsU).trans (HSB.out 0), (hB11.cell (p := ⟨w.heap.size, 1, none⟩) hsU).trans (HSB.out 1), (hB11.cell (p := ⟨w.heap.size, 2, none⟩) hsU).trans (HSB.out 2), (hB11.cell (p := ⟨w.heap.size, 3, none⟩) hsU).trans (HSB.out 3)⟩; obtain ⟨o0, o1, o2, o3⟩ : w11.cell? ⟨gO, 0, none⟩ = some (.slice ga ml gm) ∧ w11.cell? ⟨gO, 1, none⟩ = some (.slice va wl vm) ∧ w11.cell? ⟨gO, 2, none⟩ = some (.slice ua nl um) ∧ w11.cell? ⟨gO, 3, none⟩ = some (.int .i64 s.fresh) := ⟨(hB11.cell (p := ⟨gO, 0, none⟩) hgU).trans (HOB.out 0), (hB11.cell (p := ⟨gO, 1, none⟩) hgU).trans (HOB.out 1), (hB11.cell (p := ⟨gO, 2, none⟩) hgU).trans (HOB.out 2), (hB11.cell (p := ⟨gO, 3, none⟩) hgU).trans (HOB.out 3)⟩
  have HIA2 := Lib.hid (HIA.out.below hb11)
  have HIB := Lib.hid hIb
  clear hb11 hIb
  go_wp2_with fail
  refine (HG1.out _ _ _ _ _ _ _ _ _ (HPU.out _ hB11) (HIU.out _ hB11)).mono ?_
  rintro e w12 ⟨rfl, hb12⟩
  have hB12 := hB11.trans (hb12.mono hB11.size)
  clear x0 x1 x2 x3 o0 o1 o2 o3
  obtain ⟨x0, x1, x2, x3⟩ : w12.cell? ⟨w.heap.size, 0, none⟩ = some (.slice ma ml mc) ∧ w12.cell? ⟨w.heap.size, 1, none⟩ = some (.slice wa wl wc) ∧ w12.cell? ⟨w.heap.size, 2, none⟩ = some (.slice na nl nc) ∧ w12.cell? ⟨w.heap.size, 3, none⟩ = some (.int .i64 s.fresh) := ⟨(hB12.cell (p := ⟨w.heap.size, 0, none⟩) hsU).trans (HSB.out 0), (hB12.cell (p := ⟨w.heap.size, 1, none⟩) hsU).trans (HSB.out 1), (hB12.cell (p := ⟨w.heap.size, 2, none⟩) hsU).trans (HSB.out 2), (hB12.cell (p := ⟨w.heap.size, 3, none⟩) hsU).trans (HSB.out 3)⟩; obtain ⟨o0, o1, o2, o3⟩ : w12.cell? ⟨gO, 0, none⟩ = some (.slice ga ml gm) ∧ w12.cell? ⟨gO, 1, none⟩ = some (.slice va wl vm) ∧ w12.cell? ⟨gO, 2, none⟩ = some (.slice ua nl um) ∧ w12.cell? ⟨gO, 3, none⟩ = some (.int .i64 s.fresh) := ⟨(hB12.cell (p := ⟨gO, 0, none⟩) hgU).trans (HOB.out 0), (hB12.cell (p := ⟨gO, 1, none⟩) hgU).trans (HOB.out 1), (hB12.cell (p := ⟨gO, 2, none⟩) hgU).trans (HOB.out 2), (hB12.cell (p := ⟨gO, 3, none⟩) hgU).trans (HOB.out 3)⟩
  have HIA3 := Lib.hid (HIA2.out.below hb12)
  have HIB3 := Lib.hid (HIB.out.below hb12)
  clear hb12
  go_wp2_with fail
  refine (HG2.out _ _ _ _ _ _ _ _ _ (HPS.out _ hB12) (HXS.out _ hB12)).mono ?_
  rintro e w13 ⟨rfl, hb13⟩
  have hB13 := hB12.trans (hb13.mono hB12.size)
  clear x0 x1 x2 x3 o0 o1 o2 o3
  obtain ⟨x0, x1, x2, x3⟩ : w13.cell? ⟨w.heap.size, 0, none⟩ = some (.slice ma ml mc) ∧ w13.cell? ⟨w.heap.size, 1, none⟩ = some (.slice wa wl wc) ∧ w13.cell? ⟨w.heap.size, 2, none⟩ = some (.slice na nl nc) ∧ w13.cell? ⟨w.heap.size, 3, none⟩ = some (.int .i64 s.fresh) := ⟨(hB13.cell (p := ⟨w.heap.size, 0, none⟩) hsU).trans (HSB.out 0), (hB13.cell (p := ⟨w.heap.size, 1, none⟩) hsU).trans (HSB.out 1), (hB13.cell (p := ⟨w.heap.size, 2, none⟩) hsU).trans (HSB.out 2), (hB13.cell (p := ⟨w.heap.size, 3, none⟩) hsU).trans (HSB.out 3)⟩; obtain ⟨o0, o1, o2, o3⟩ : w13.cell? ⟨gO, 0, none⟩ = some (.slice ga ml gm) ∧ w13.cell? ⟨gO, 1, none⟩ = some (.slice va wl vm) ∧ w13.cell? ⟨gO, 2, none⟩ = some (.slice ua nl um) ∧ w13.cell? ⟨gO, 3, none⟩ = some (.int .i64 s.fresh) := ⟨(hB13.cell (p := ⟨gO, 0, none⟩) hgU).trans (HOB.out 0), (hB13.cell (p := ⟨gO, 1, none⟩) hgU).trans (HOB.out 1), (hB13.cell (p := ⟨gO, 2, none⟩) hgU).trans (HOB.out 2), (hB13.cell (p := ⟨gO, 3, none⟩) hgU).trans (HOB.out 3)⟩
  have HSI := Lib.hid (same_refl2 w13 ra rl rc rb rm rd wh (HIA3.out.below hb13) (HIB3.out.below hb13))
  clear hb13 hB7 hB8 hB9 hB10 hB11 hB12
  go_wp2_with fail
  refine HSI.out.mono ?_
  rintro e w14 ⟨rfl, hb14⟩
  have hB14 := hB13.trans (hb14.mono hB13.size)
  clear x0 x1 x2 x3 o0 o1 o2 o3
  obtain ⟨x0, x1, x2, x3⟩ : w14.cell? ⟨w.heap.size, 0, none⟩ = some (.slice ma ml mc) ∧ w14.cell? ⟨w.heap.size, 1, none⟩ = some (.slice wa wl wc) ∧ w14.cell? ⟨w.heap.size, 2, none⟩ = some (.slice na nl nc) ∧ w14.cell? ⟨w.heap.size, 3, none⟩ = some (.int .i64 s.fresh) := ⟨(hB14.cell (p := ⟨w.heap.size, 0, none⟩) hsU).trans (HSB.out 0), (hB14.cell (p := ⟨w.heap.size, 1, none⟩) hsU).trans (HSB.out 1), (hB14.cell (p := ⟨w.heap.size, 2, none⟩) hsU).trans (HSB.out 2), (hB14.cell (p := ⟨w.heap.size, 3, none⟩) hsU).trans (HSB.out 3)⟩; obtain ⟨o0, o1, o2, o3⟩ : w14.cell? ⟨gO, 0, none⟩ = some (.slice ga ml gm) ∧ w14.cell? ⟨gO, 1, none⟩ = some (.slice va wl vm) ∧ w14.cell? ⟨gO, 2, none⟩ = some (.slice ua nl um) ∧ w14.cell? ⟨gO, 3, none⟩ = some (.int .i64 s.fresh) := ⟨(hB14.cell (p := ⟨gO, 0, none⟩) hgU).trans (HOB.out 0), (hB14.cell (p := ⟨gO, 1, none⟩) hgU).trans (HOB.out 1), (hB14.cell (p := ⟨gO, 2, none⟩) hgU).trans (HOB.out 2), (hB14.cell (p := ⟨gO, 3, none⟩) hgU).trans (HOB.out 3)⟩
  clear hb14 hB13
  go_wp2_with fail
  refine (HS.out _ _ _ _ _ _ _ (HPU.out _ hB14) (HPS.out _ hB14)).mono ?_
  rintro e w15 ⟨rfl, hb15⟩
  have hB15 := hB14.trans (hb15.mono hB14.size)
  clear x0 x1 x2 x3 o0 o1 o2 o3
  clear hb15 hB14
  go_wp2_with fail
  refine (same_refl w15 _ xl cap2 _ xc x (HIU.out _ hB15) (HXS.out _ hB15)).mono ?_
  rintro e w16 ⟨rfl, hb16⟩
  have hB16 := hB15.trans (hb16.mono hB15.size)
  clear hb16 hB15
  go_wp2_with fail
  refine (works_any _).mono ?_
  rintro e w17 ⟨rfl, hb17⟩
  go_wp2_with fail
  go_ret
  exact ⟨rfl, HWU.out.trans ((hB16.trans (hb17.mono hB16.size)).mono HWU.out.size)⟩

set_option maxRecDepth 100000 in
set_option maxHeartbeats 1000000 in
theorem agrees_early (s : FShop) (ma : Option Addr) (ml mc : Nat) (wa : Option Addr) (wl wc : Nat) (na : Option Addr) (nl nc : Nat) (n : Int) (xa : Option Addr) (xl xc : Nat) (w : World) (hp : FAt w ma ml mc wa wl wc na nl nc s) (h : s.huge = true ∨ 40 < xl) (hm : xl ≤ maxLen) :
    Calls Try.prog 11 #[.agg #[.slice ma ml mc, .slice wa wl wc, .slice na nl nc, .int .i64 s.fresh], .int .i64 n, .slice xa xl xc] w fun e w' => e = .returned (.bool true) ∧ Below w.heap.size w w' := by
  have HH := Lib.hid (fun b (h : s.huge = b) w1 (hb : Below w.heap.size w w1) => Huge_is s ma ml mc wa wl wc na nl nc b h w1 (hp.below hb))
  unfold maxLen at hm
  clear hp
  rcases hh : s.huge with - | -
  · have hgt : (40 : Int) < (xl : Int) := by rcases h with h | h; (rw [hh] at h; cases h); omega
    have HH1 := Lib.hid (HH.out _ hh)
    clear hh h
    go_enter Try.func11, Try.ntmps11
    go_wp2_with fail
    refine (HH1.out _ (by repeat (first | exact Below.refl _ _ | (refine Below.alloc ?_ (by first | omega | (simp; omega) | simp) _) | (refine Below.setCell ?_ (by first | omega | (simp; omega) | simp) _) | refine Below.drew ?_))).mono ?_
    rintro e w1 ⟨rfl, hb1⟩
    have hw1 := ((by repeat (first | exact Below.refl _ _ | (refine Below.alloc ?_ (by first | omega | (simp; omega) | simp) _) | (refine Below.setCell ?_ (by first | omega | (simp; omega) | simp) _) | refine Below.drew ?_)) : Below w.heap.size w _).trans (hb1.mono (by first | (simp; done) | (simp; omega) | omega))
    clear hb1
    go_wp2_with fail
    refine (works_any _).mono ?_
    rintro e w2 ⟨rfl, hb2⟩
    go_wp2_with fail
    go_ret
    exact ⟨rfl, hw1.trans (hb2.mono hw1.size)⟩
  · have HH1 := Lib.hid (HH.out _ hh)
    clear hh h
    go_enter Try.func11, Try.ntmps11
    go_wp2_with fail
    refine (HH1.out _ (by repeat (first | exact Below.refl _ _ | (refine Below.alloc ?_ (by first | omega | (simp; omega) | simp) _) | (refine Below.setCell ?_ (by first | omega | (simp; omega) | simp) _) | refine Below.drew ?_))).mono ?_
    rintro e w1 ⟨rfl, hb1⟩
    have hw1 := ((by repeat (first | exact Below.refl _ _ | (refine Below.alloc ?_ (by first | omega | (simp; omega) | simp) _) | (refine Below.setCell ?_ (by first | omega | (simp; omega) | simp) _) | refine Below.drew ?_)) : Below w.heap.size w _).trans (hb1.mono (by first | (simp; done) | (simp; omega) | omega))
    clear hb1
    go_wp2_with fail
    refine (works_any _).mono ?_
    rintro e w2 ⟨rfl, hb2⟩
    go_wp2_with fail
    go_ret
    exact ⟨rfl, hw1.trans (hb2.mono hw1.size)⟩
theorem agrees_law (s : FShop) (ma : Option Addr) (ml mc : Nat) (wa : Option Addr) (wl wc : Nat) (na : Option Addr) (nl nc : Nat) (n : Int) (xa : Option Addr) (xl xc : Nat) (x : List Int) (w : World) (hp : FAt w ma ml mc wa wl wc na nl nc s) (hx : IntsAt w xa xl x) :
    Calls Try.prog 11 #[.agg #[.slice ma ml mc, .slice wa wl wc, .slice na nl nc, .int .i64 s.fresh], .int .i64 n, .slice xa xl xc] w fun e w' => e = .returned (.bool true) ∧ Below w.heap.size w w' := by
  rcases hh : s.huge with - | -
  · rcases Nat.lt_or_ge 40 xl with h | h
    · exact agrees_early s ma ml mc wa wl wc na nl nc n xa xl xc w hp (.inr h) hx.2.1
    · exact agrees_walk s ma ml mc wa wl wc na nl nc n xa xl xc x w hp hx hh h
  · exact agrees_early s ma ml mc wa wl wc na nl nc n xa xl xc w hp (.inl hh) hx.2.1
end Go.Proofs.Ytgniblcagjdpnaa
