/- FlongsLeft: the walk. -/
import Derived.Test.YtgniblcagjdpnaaGP
import Derived.Test.YtgniblcagjdpnaaGK
namespace Go.Proofs.Ytgniblcagjdpnaa
set_option linter.unusedVariables false
set_option linter.unusedSimpArgs false
open Go.RowKit

set_option maxRecDepth 100000 in
set_option maxHeartbeats 16000000 in
theorem left_walk (s : FShop) (ma : Option Addr) (ml mc : Nat) (wa : Option Addr) (wl wc : Nat) (na : Option Addr) (nl nc : Nat) (n p : Int) (w : World) (hp : FAt w ma ml mc wa wl wc na nl nc s) (hh : s.huge = false) :
    Calls Try.prog 12 #[.agg #[.slice ma ml mc, .slice wa wl wc, .slice na nl nc, .int .i64 s.fresh], .int .i64 n, .int .i64 p] w fun e w' => e = .returned (.bool true) ∧ Below w.heap.size w w' := by
  have HH := Lib.hid (fun w1 (hb : Below w.heap.size w w1) => Huge_is s ma ml mc wa wl wc na nl nc false hh w1 (hp.below hb))
  have HC := Lib.hid (fun w1 (hb : Below w.heap.size w w1) => Copy_at s ma ml mc wa wl wc na nl nc w1 (hp.below hb) hh)
  have HP := Lib.hid (fun w1 (hb : Below w.heap.size w w1) => hp.below hb)
  obtain ⟨lo, hlo⟩ : ∃ lo, s.leftLo n = lo := ⟨_, rfl⟩
  obtain ⟨hi, hhi⟩ : ∃ hi, s.leftHi n = hi := ⟨_, rfl⟩
  obtain ⟨e1, he1⟩ : ∃ e1, s.ask (btw n 0 ((s.moulds.length : Int) - 1)) = e1 := ⟨_, rfl⟩
  obtain ⟨sn, hsn⟩ : ∃ sn, s.sureN p = sn := ⟨_, rfl⟩
  obtain ⟨e2, he2⟩ : ∃ e2, s.ask (btw p 0 ((s.wants.length : Int) - 1)) = e2 := ⟨_, rfl⟩
  obtain ⟨nn, hnn⟩ : ∃ nn, s.newN = nn := ⟨_, rfl⟩
  obtain ⟨e3, he3⟩ : ∃ e3, s.ask true = e3 := ⟨_, rfl⟩
  have HA1 := Lib.hid (fun ga gm va vm ua um W (h : FAt W ga ml gm va wl vm ua nl um s) => Left_all s ga ml gm va wl vm ua nl um n lo hi e1 hlo hhi he1 W h)
  have HA2 := Lib.hid (fun ga gm va vm ua um W (h : FAt W ga ml gm va wl vm ua nl um s) => refLeft_all s ga ml gm va wl vm ua nl um n lo hi e1 hlo hhi he1 W h)
  have HB1 := Lib.hid (fun ga gm va vm ua um W (h : FAt W ga ml gm va wl vm ua nl um s) => Sure_all s ga ml gm va wl vm ua nl um p sn e2 hsn he2 W h)
  have HB2 := Lib.hid (fun ga gm va vm ua um W (h : FAt W ga ml gm va wl vm ua nl um s) => refSure_all s ga ml gm va wl vm ua nl um p sn e2 hsn he2 W h)
  have HN1 := Lib.hid (fun ga gm va vm ua um W (h : FAt W ga ml gm va wl vm ua nl um s) => New_all s ga ml gm va wl vm ua nl um nn e3 hnn he3 W h)
  have HN2 := Lib.hid (fun ga gm va vm ua um W (h : FAt W ga ml gm va wl vm ua nl um s) => refNew_all s ga ml gm va wl vm ua nl um nn e3 hnn he3 W h)
  have HS := Lib.hid (fun ga gm va vm ua um W (h : FAt W ga ml gm va wl vm ua nl um s) (hq : FAt W ma ml mc wa wl wc na nl nc s) => Same_yes s ga ml gm va wl vm ua nl um ma mc wa wc na nc W h hq)
  clear hp hh hlo hhi he1 hsn he2 hnn he3
  go_enter Try.func12, Try.ntmps12
  go_wp2_with fail
  refine (HH.out _ (by repeat (first | exact Below.refl _ _ | (refine Below.alloc ?_ (by first | omega | (simp; omega) | simp) _) | (refine Below.setCell ?_ (by first | omega | (simp; omega) | simp) _) | refine Below.drew ?_))).mono ?_; rintro e w1 ⟨rfl, hb1⟩; obtain ⟨hc1, hf1⟩ := bcell hb1; have hz1 := hb1.size; (try simp at hz1); have hw1 := ((by repeat (first | assumption | exact Below.refl _ _ | (refine Below.alloc ?_ (by first | omega | (simp; omega) | simp) _) | (refine Below.setCell ?_ (by first | omega | (simp; omega) | simp) _) | refine Below.drew ?_)) : Below w.heap.size w _).trans (hb1.mono (by first | (simp; done) | (simp; omega) | omega)); clear hb1; have p1 : w.heap.size < w1.heap.size := (by omega); go_wp2_with fail
  refine (HC.out _ hw1).mono ?_
  rintro e u1 ⟨ga, gm, va, vm, ua, um, rfl, hP1, hb2⟩
  have hu1 := hw1.trans (hb2.mono hw1.size)
  have hzu := hb2.size
  have hsb1 := fun i => (hb2.cell (p := ⟨w.heap.size, i, none⟩) p1).trans ((hc1 _ _ (by simp)).trans (World.cell?_alloc_new w #[.slice ma ml mc, .slice wa wl wc, .slice na nl nc, .int .i64 s.fresh] 26 i))
  have hsu1 : w.heap.size < u1.heap.size := by omega
  clear hb2 hc1 hf1
  obtain ⟨x0, x1, x2, x3⟩ : u1.cell? ⟨w.heap.size, 0, none⟩ = some (.slice ma ml mc) ∧ u1.cell? ⟨w.heap.size, 1, none⟩ = some (.slice wa wl wc) ∧ u1.cell? ⟨w.heap.size, 2, none⟩ = some (.slice na nl nc) ∧ u1.cell? ⟨w.heap.size, 3, none⟩ = some (.int .i64 s.fresh) := ⟨hsb1 0, hsb1 1, hsb1 2, hsb1 3⟩
  go_wp2_with fail
  obtain ⟨U, hU⟩ : ∃ U, u1.alloc (.cells #[.slice ga ml gm, .slice va wl vm, .slice ua nl um, .int .i64 s.fresh] 26) = U := ⟨_, rfl⟩
  have hb3 : Below u1.heap.size u1 U := by rw [← hU]; exact (by repeat (first | exact Below.refl _ _ | (refine Below.alloc ?_ (by first | omega | (simp; omega) | simp) _) | (refine Below.setCell ?_ (by first | omega | (simp; omega) | simp) _) | refine Below.drew ?_))
  have hOb : ∀ i, U.cell? ⟨u1.heap.size, i, none⟩ = (#[.slice ga ml gm, .slice va wl vm, .slice ua nl um, .int .i64 s.fresh] : Array Value)[i]? := fun i => by rw [← hU]; exact World.cell?_alloc_new _ _ _ i
  have hgU : u1.heap.size < U.heap.size := by rw [← hU]; simp
  rw [hU]
  clear hU
  clear x0 x1 x2 x3
  have hSb := fun i => (hb3.cell (p := ⟨w.heap.size, i, none⟩) hsu1).trans (hsb1 i)
  have hsU : w.heap.size < U.heap.size := by omega
  have hPU : FAt U ga ml gm va wl vm ua nl um s := hP1.below hb3
  have hwU : Below w.heap.size w U := hu1.trans (hb3.mono hu1.size)
  obtain ⟨gO, hgO⟩ : ∃ gO, gO = u1.heap.size := ⟨_, rfl⟩
  rw [← hgO]
  rw [← hgO] at hOb hgU
  clear hgO hsb1 hb3 hP1 hu1 hw1 hzu hsu1
  have HSB := Lib.hid hSb
  have HOB := Lib.hid hOb
  have HWU := Lib.hid hwU
  have HPU := Lib.hid (fun W (hb : Below U.heap.size U W) => hPU.below hb)
  have HPS := Lib.hid (fun W (hb : Below U.heap.size U W) => HP.out W (hwU.trans (hb.mono hwU.size)))
  clear hSb hOb hPU hwU
  refine (HA1.out _ _ _ _ _ _ _ (HPU.out _ (Below.refl _ _))).mono ?_
  rintro e w4 ⟨rfl, hb4⟩
  have hz4 := hb4.size
  obtain ⟨x0, x1, x2, x3⟩ : w4.cell? ⟨w.heap.size, 0, none⟩ = some (.slice ma ml mc) ∧ w4.cell? ⟨w.heap.size, 1, none⟩ = some (.slice wa wl wc) ∧ w4.cell? ⟨w.heap.size, 2, none⟩ = some (.slice na nl nc) ∧ w4.cell? ⟨w.heap.size, 3, none⟩ = some (.int .i64 s.fresh) := ⟨(hb4.cell (p := ⟨w.heap.size, 0, none⟩) hsU).trans (HSB.out 0), (hb4.cell (p := ⟨w.heap.size, 1, none⟩) hsU).trans (HSB.out 1), (hb4.cell (p := ⟨w.heap.size, 2, none⟩) hsU).trans (HSB.out 2), (hb4.cell (p := ⟨w.heap.size, 3, none⟩) hsU).trans (HSB.out 3)⟩; obtain ⟨o0, o1, o2, o3⟩ : w4.cell? ⟨gO, 0, none⟩ = some (.slice ga ml gm) ∧ w4.cell? ⟨gO, 1, none⟩ = some (.slice va wl vm) ∧ w4.cell? ⟨gO, 2, none⟩ = some (.slice ua nl um) ∧ w4.cell? ⟨gO, 3, none⟩ = some (.int .i64 s.fresh) := ⟨(hb4.cell (p := ⟨gO, 0, none⟩) hgU).trans (HOB.out 0), (hb4.cell (p := ⟨gO, 1, none⟩) hgU).trans (HOB.out 1), (hb4.cell (p := ⟨gO, 2, none⟩) hgU).trans (HOB.out 2), (hb4.cell (p := ⟨gO, 3, none⟩) hgU).trans (HOB.out 3)⟩
  have s4 : w.heap.size < w4.heap.size := by omega
  have g4 : gO < w4.heap.size := by omega
  go_wp2_with fail
  clear x0 x1 x2 x3 o0 o1 o2 o3
  obtain ⟨V4, hV4⟩ : ∃ V4, w4.alloc (.cells #[.int .i64 lo, .int .i64 hi] 39) = V4 := ⟨_, rfl⟩
  have hv4 : Below U.heap.size U V4 := by rw [← hV4]; exact hb4.alloc hz4 _
  have hpp : ∀ i, V4.cell? ⟨w4.heap.size, i, none⟩ = (#[.int .i64 lo, .int .i64 hi] : Array Value)[i]? := fun i => by rw [← hV4]; exact World.cell?_alloc_new _ _ _ i
  have pz4 : w4.heap.size < V4.heap.size := by rw [← hV4]; simp
  rw [hV4]
  clear hV4
  obtain ⟨p8, hp8⟩ : ∃ p8, p8 = w4.heap.size := ⟨_, rfl⟩
  rw [← hp8]
  rw [← hp8] at hpp pz4
  clear hp8 hb4 hz4 s4 g4
  refine (HA2.out _ _ _ _ _ _ _ (HPS.out _ hv4)).mono ?_
  rintro e w5 ⟨rfl, hb5⟩
  have hv5 := hv4.trans (hb5.mono hv4.size)
  have pp5 := fun i => (hb5.cell (p := ⟨p8, i, none⟩) pz4).trans (hpp i)
  have pz5 : p8 < w5.heap.size := Nat.lt_of_lt_of_le pz4 hb5.size
  clear hb5 hpp
  obtain ⟨x0, x1, x2, x3⟩ : w5.cell? ⟨w.heap.size, 0, none⟩ = some (.slice ma ml mc) ∧ w5.cell? ⟨w.heap.size, 1, none⟩ = some (.slice wa wl wc) ∧ w5.cell? ⟨w.heap.size, 2, none⟩ = some (.slice na nl nc) ∧ w5.cell? ⟨w.heap.size, 3, none⟩ = some (.int .i64 s.fresh) := ⟨(hv5.cell (p := ⟨w.heap.size, 0, none⟩) hsU).trans (HSB.out 0), (hv5.cell (p := ⟨w.heap.size, 1, none⟩) hsU).trans (HSB.out 1), (hv5.cell (p := ⟨w.heap.size, 2, none⟩) hsU).trans (HSB.out 2), (hv5.cell (p := ⟨w.heap.size, 3, none⟩) hsU).trans (HSB.out 3)⟩; obtain ⟨o0, o1, o2, o3⟩ : w5.cell? ⟨gO, 0, none⟩ = some (.slice ga ml gm) ∧ w5.cell? ⟨gO, 1, none⟩ = some (.slice va wl vm) ∧ w5.cell? ⟨gO, 2, none⟩ = some (.slice ua nl um) ∧ w5.cell? ⟨gO, 3, none⟩ = some (.int .i64 s.fresh) := ⟨(hv5.cell (p := ⟨gO, 0, none⟩) hgU).trans (HOB.out 0), (hv5.cell (p := ⟨gO, 1, none⟩) hgU).trans (HOB.out 1), (hv5.cell (p := ⟨gO, 2, none⟩) hgU).trans (HOB.out 2), (hv5.cell (p := ⟨gO, 3, none⟩) hgU).trans (HOB.out 3)⟩
  have s5 : w.heap.size < w5.heap.size := Nat.lt_of_lt_of_le hsU hv5.size
  have g5 : gO < w5.heap.size := Nat.lt_of_lt_of_le hgU hv5.size
  have PP5 := Lib.hid pp5
  clear pp5
  go_wp2_with fail
  clear x0 x1 x2 x3 o0 o1 o2 o3
  obtain ⟨V5, hV5⟩ : ∃ V5, w5.alloc (.cells #[.int .i64 lo, .int .i64 hi] 39) = V5 := ⟨_, rfl⟩
  have hb6 : Below w5.heap.size w5 V5 := by rw [← hV5]; exact (by repeat (first | exact Below.refl _ _ | (refine Below.alloc ?_ (by first | omega | (simp; omega) | simp) _) | (refine Below.setCell ?_ (by first | omega | (simp; omega) | simp) _) | refine Below.drew ?_))
  have hqq : ∀ i, V5.cell? ⟨w5.heap.size, i, none⟩ = (#[.int .i64 lo, .int .i64 hi] : Array Value)[i]? := fun i => by rw [← hV5]; exact World.cell?_alloc_new _ _ _ i
  have qz5 : w5.heap.size < V5.heap.size := by rw [← hV5]; simp
  rw [hV5]
  clear hV5
  have hpp := fun i => (hb6.cell (p := ⟨p8, i, none⟩) pz5).trans (PP5.out i)
  have pz6 : p8 < V5.heap.size := by omega
  have hv6 := hv5.trans (hb6.mono hv5.size)
  obtain ⟨p10, hp10⟩ : ∃ p10, p10 = w5.heap.size := ⟨_, rfl⟩
  rw [← hp10]
  rw [← hp10] at hqq qz5
  clear hp10 hb6 PP5 s5 g5
  have HPP := Lib.hid hpp
  have HQQ := Lib.hid hqq
  clear hpp hqq
  refine (HB1.out _ _ _ _ _ _ _ (HPU.out _ hv6)).mono ?_
  rintro e w7 ⟨rfl, hb7⟩
  have hv7 := hv6.trans (hb7.mono hv6.size)
  have hk7 := hb7
  obtain ⟨x0, x1, x2, x3⟩ : w7.cell? ⟨w.heap.size, 0, none⟩ = some (.slice ma ml mc) ∧ w7.cell? ⟨w.heap.size, 1, none⟩ = some (.slice wa wl wc) ∧ w7.cell? ⟨w.heap.size, 2, none⟩ = some (.slice na nl nc) ∧ w7.cell? ⟨w.heap.size, 3, none⟩ = some (.int .i64 s.fresh) := ⟨(hv7.cell (p := ⟨w.heap.size, 0, none⟩) hsU).trans (HSB.out 0), (hv7.cell (p := ⟨w.heap.size, 1, none⟩) hsU).trans (HSB.out 1), (hv7.cell (p := ⟨w.heap.size, 2, none⟩) hsU).trans (HSB.out 2), (hv7.cell (p := ⟨w.heap.size, 3, none⟩) hsU).trans (HSB.out 3)⟩; obtain ⟨o0, o1, o2, o3⟩ : w7.cell? ⟨gO, 0, none⟩ = some (.slice ga ml gm) ∧ w7.cell? ⟨gO, 1, none⟩ = some (.slice va wl vm) ∧ w7.cell? ⟨gO, 2, none⟩ = some (.slice ua nl um) ∧ w7.cell? ⟨gO, 3, none⟩ = some (.int .i64 s.fresh) := ⟨(hv7.cell (p := ⟨gO, 0, none⟩) hgU).trans (HOB.out 0), (hv7.cell (p := ⟨gO, 1, none⟩) hgU).trans (HOB.out 1), (hv7.cell (p := ⟨gO, 2, none⟩) hgU).trans (HOB.out 2), (hv7.cell (p := ⟨gO, 3, none⟩) hgU).trans (HOB.out 3)⟩
  go_wp2_with fail
  refine (HB2.out _ _ _ _ _ _ _ (HPS.out _ hv7)).mono ?_
  rintro e w8 ⟨rfl, hb8⟩
  have hv8 := hv7.trans (hb8.mono hv7.size)
  have hk8 := hk7.trans (hb8.mono hk7.size)
  clear x0 x1 x2 x3 o0 o1 o2 o3
  obtain ⟨x0, x1, x2, x3⟩ : w8.cell? ⟨w.heap.size, 0, none⟩ = some (.slice ma ml mc) ∧ w8.cell? ⟨w.heap.size, 1, none⟩ = some (.slice wa wl wc) ∧ w8.cell? ⟨w.heap.size, 2, none⟩ = some (.slice na nl nc) ∧ w8.cell? ⟨w.heap.size, 3, none⟩ = some (.int .i64 s.fresh) := ⟨(hv8.cell (p := ⟨w.heap.size, 0, none⟩) hsU).trans (HSB.out 0), (hv8.cell (p := ⟨w.heap.size, 1, none⟩) hsU).trans (HSB.out 1), (hv8.cell (p := ⟨w.heap.size, 2, none⟩) hsU).trans (HSB.out 2), (hv8.cell (p := ⟨w.heap.size, 3, none⟩) hsU).trans (HSB.out 3)⟩; obtain ⟨o0, o1, o2, o3⟩ : w8.cell? ⟨gO, 0, none⟩ = some (.slice ga ml gm) ∧ w8.cell? ⟨gO, 1, none⟩ = some (.slice va wl vm) ∧ w8.cell? ⟨gO, 2, none⟩ = some (.slice ua nl um) ∧ w8.cell? ⟨gO, 3, none⟩ = some (.int .i64 s.fresh) := ⟨(hv8.cell (p := ⟨gO, 0, none⟩) hgU).trans (HOB.out 0), (hv8.cell (p := ⟨gO, 1, none⟩) hgU).trans (HOB.out 1), (hv8.cell (p := ⟨gO, 2, none⟩) hgU).trans (HOB.out 2), (hv8.cell (p := ⟨gO, 3, none⟩) hgU).trans (HOB.out 3)⟩
  clear hb7 hb8 hk7
  go_wp2_with fail
  refine (HN1.out _ _ _ _ _ _ _ (HPU.out _ hv8)).mono ?_
  rintro e w9 ⟨rfl, hb9⟩
  have hv9 := hv8.trans (hb9.mono hv8.size)
  have hk9 := hk8.trans (hb9.mono hk8.size)
  clear x0 x1 x2 x3 o0 o1 o2 o3
  obtain ⟨x0, x1, x2, x3⟩ : w9.cell? ⟨w.heap.size, 0, none⟩ = some (.slice ma ml mc) ∧ w9.cell? ⟨w.heap.size, 1, none⟩ = some (.slice wa wl wc) ∧ w9.cell? ⟨w.heap.size, 2, none⟩ = some (.slice na nl nc) ∧ w9.cell? ⟨w.heap.size, 3, none⟩ = some (.int .i64 s.fresh) := ⟨(hv9.cell (p := ⟨w.heap.size, 0, none⟩) hsU).trans (HSB.out 0), (hv9.cell (p := ⟨w.heap.size, 1, none⟩) hsU).trans (HSB.out 1), (hv9.cell (p := ⟨w.heap.size, 2, none⟩) hsU).trans (HSB.out 2), (hv9.cell (p := ⟨w.heap.size, 3, none⟩) hsU).trans (HSB.out 3)⟩; obtain ⟨o0, o1, o2, o3⟩ : w9.cell? ⟨gO, 0, none⟩ = some (.slice ga ml gm) ∧ w9.cell? ⟨gO, 1, none⟩ = some (.slice va wl vm) ∧ w9.cell? ⟨gO, 2, none⟩ = some (.slice ua nl um) ∧ w9.cell? ⟨gO, 3, none⟩ = some (.int .i64 s.fresh) := ⟨(hv9.cell (p := ⟨gO, 0, none⟩) hgU).trans (HOB.out 0), (hv9.cell (p := ⟨gO, 1, none⟩) hgU).trans (HOB.out 1), (hv9.cell (p := ⟨gO, 2, none⟩) hgU).trans (HOB.out 2), (hv9.cell (p := ⟨gO, 3, none⟩) hgU).trans (HOB.out 3)⟩
  clear hb9 hk8
  go_wp2_with fail
  refine (HN2.out _ _ _ _ _ _ _ (HPS.out _ hv9)).mono ?_
  rintro e w10 ⟨rfl, hb10⟩
  have hv10 := hv9.trans (hb10.mono hv9.size)
  have hk10 := hk9.trans (hb10.mono hk9.size)
  clear x0 x1 x2 x3 o0 o1 o2 o3
  obtain ⟨x0, x1, x2, x3⟩ : w10.cell? ⟨w.heap.size, 0, none⟩ = some (.slice ma ml mc) ∧ w10.cell? ⟨w.heap.size, 1, none⟩ = some (.slice wa wl wc) ∧ w10.cell? ⟨w.heap.size, 2, none⟩ = some (.slice na nl nc) ∧ w10.cell? ⟨w.heap.size, 3, none⟩ = some (.int .i64 s.fresh) := ⟨(hv10.cell (p := ⟨w.heap.size, 0, none⟩) hsU).trans (HSB.out 0), (hv10.cell (p := ⟨w.heap.size, 1, none⟩) hsU).trans (HSB.out 1), (hv10.cell (p := ⟨w.heap.size, 2, none⟩) hsU).trans (HSB.out 2), (hv10.cell (p := ⟨w.heap.size, 3, none⟩) hsU).trans (HSB.out 3)⟩; obtain ⟨o0, o1, o2, o3⟩ : w10.cell? ⟨gO, 0, none⟩ = some (.slice ga ml gm) ∧ w10.cell? ⟨gO, 1, none⟩ = some (.slice va wl vm) ∧ w10.cell? ⟨gO, 2, none⟩ = some (.slice ua nl um) ∧ w10.cell? ⟨gO, 3, none⟩ = some (.int .i64 s.fresh) := ⟨(hv10.cell (p := ⟨gO, 0, none⟩) hgU).trans (HOB.out 0), (hv10.cell (p := ⟨gO, 1, none⟩) hgU).trans (HOB.out 1), (hv10.cell (p := ⟨gO, 2, none⟩) hgU).trans (HOB.out 2), (hv10.cell (p := ⟨gO, 3, none⟩) hgU).trans (HOB.out 3)⟩
  have t0 : w10.cell? ⟨p8, 0, none⟩ = some (.int .i64 lo) := (hk10.cell (p := ⟨p8, 0, none⟩) pz6).trans (HPP.out 0)
  have t1 : w10.cell? ⟨p8, 1, none⟩ = some (.int .i64 hi) := (hk10.cell (p := ⟨p8, 1, none⟩) pz6).trans (HPP.out 1)
  have t2 : w10.cell? ⟨p10, 0, none⟩ = some (.int .i64 lo) := (hk10.cell (p := ⟨p10, 0, none⟩) qz5).trans (HQQ.out 0)
  have t3 : w10.cell? ⟨p10, 1, none⟩ = some (.int .i64 hi) := (hk10.cell (p := ⟨p10, 1, none⟩) qz5).trans (HQQ.out 1)
  clear hb10 hk9 hv4 hv5 hv6 hv7 hv8 hv9
  go_wp2_with fail
  refine (HS.out _ _ _ _ _ _ _ (HPU.out _ hv10) (HPS.out _ hv10)).mono ?_
  rintro e w15 ⟨rfl, hb15⟩
  have hB15 := hv10.trans (hb15.mono hv10.size)
  clear x0 x1 x2 x3 o0 o1 o2 o3
  clear hb15 hv10 t0 t1 t2 t3
  go_wp2_with fail
  refine (works_any _).mono ?_
  rintro e w17 ⟨rfl, hb17⟩
  go_wp2_with fail
  go_ret
  exact ⟨rfl, HWU.out.trans ((hB15.trans (hb17.mono hB15.size)).mono HWU.out.size)⟩

set_option maxRecDepth 100000 in
set_option maxHeartbeats 1000000 in
theorem left_early (s : FShop) (ma : Option Addr) (ml mc : Nat) (wa : Option Addr) (wl wc : Nat) (na : Option Addr) (nl nc : Nat) (n p : Int) (w : World) (hp : FAt w ma ml mc wa wl wc na nl nc s) (hh : s.huge = true) :
    Calls Try.prog 12 #[.agg #[.slice ma ml mc, .slice wa wl wc, .slice na nl nc, .int .i64 s.fresh], .int .i64 n, .int .i64 p] w fun e w' => e = .returned (.bool true) ∧ Below w.heap.size w w' := by
  have HH1 := Lib.hid (fun w1 (hb : Below w.heap.size w w1) => Huge_is s ma ml mc wa wl wc na nl nc true hh w1 (hp.below hb))
  clear hp hh
  go_enter Try.func12, Try.ntmps12
  go_wp2_with fail
  refine (HH1.out _ (by repeat (first | exact Below.refl _ _ | (refine Below.alloc ?_ (by first | omega | (simp; omega) | simp) _) | (refine Below.setCell ?_ (by first | omega | (simp; omega) | simp) _) | refine Below.drew ?_))).mono ?_
  rintro e w1 ⟨rfl, hb1⟩
  have hw1 := ((by repeat (first | exact Below.refl _ _ | (refine Below.alloc ?_ (by first | omega | (simp; omega) | simp) _) | (refine Below.setCell ?_ (by first | omega | (simp; omega) | simp) _) | refine Below.drew ?_)) : Below w.heap.size w _).trans (hb1.mono (by first | (simp; done) | (simp; omega) | omega))
  clear hb1
  go_wp2_with fail
  refine (works_any _).mono ?_
  rintro e w2 ⟨rfl, hb2⟩
  go_wp2_with fail
  go_ret
  exact ⟨rfl, hw1.trans (hb2.mono hw1.size)⟩
theorem left_law (s : FShop) (ma : Option Addr) (ml mc : Nat) (wa : Option Addr) (wl wc : Nat) (na : Option Addr) (nl nc : Nat) (n p : Int) (w : World) (hp : FAt w ma ml mc wa wl wc na nl nc s) :
    Calls Try.prog 12 #[.agg #[.slice ma ml mc, .slice wa wl wc, .slice na nl nc, .int .i64 s.fresh], .int .i64 n, .int .i64 p] w fun e w' => e = .returned (.bool true) ∧ Below w.heap.size w w' := by
  rcases hh : s.huge with - | -
  · exact left_walk s ma ml mc wa wl wc na nl nc n p w hp hh
  · exact left_early s ma ml mc wa wl wc na nl nc n p w hp hh
end Go.Proofs.Ytgniblcagjdpnaa
