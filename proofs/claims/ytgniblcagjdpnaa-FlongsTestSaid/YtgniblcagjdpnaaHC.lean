/- FlongsTest: the walk. -/
import Derived.Test.YtgniblcagjdpnaaHB
import Derived.Test.YtgniblcagjdpnaaGS
namespace Go.Proofs.Ytgniblcagjdpnaa
set_option linter.unusedVariables false
set_option linter.unusedSimpArgs false
open Go.RowKit


theorem isKnown_is (e : Int) (h : e = 0 ∨ e = 3) (w : World) : Calls Try.prog 37 #[.int .i64 e] w fun r w' => r = .returned (.bool true) ∧ w = w' := by
  rcases h with rfl | rfl
  all_goals
    go_enter Try.func37, Try.ntmps37
    go_wp2
    go_ret
    exact ⟨rfl, rfl⟩

set_option maxRecDepth 100000 in
set_option maxHeartbeats 4000000 in
theorem test_early (s : FShop) (ma : Option Addr) (ml mc : Nat) (wa : Option Addr) (wl wc : Nat) (na : Option Addr) (nl nc : Nat) (n : Int) (w : World) (hp : FAt w ma ml mc wa wl wc na nl nc s) (h : s.known = false ∨ (s.known = true ∧ btw n 0 ((ml : Int) - 1) = false) ∨ (s.known = true ∧ ∃ m : Nat, ∃ hm : m < s.moulds.length, n = (m : Int) ∧ (s.moulds[m].b = 1 ∨ (s.moulds[m].b ≠ 1 ∧ s.moulds[m].u = 12)))) :
    Calls Try.prog 9 #[.agg #[.slice ma ml mc, .slice wa wl wc, .slice na nl nc, .int .i64 s.fresh], .int .i64 n] w fun e w' => e = .returned (.bool true) ∧ Below w.heap.size w w' := by
  have HK := Lib.hid (fun b (h : s.known = b) W (hb : Below w.heap.size w W) => known_is s ma ml mc wa wl wc na nl nc b h W (hp.below hb))
  have hmm := hp.1.2.1
  have HI := Lib.hid (fun n b (h : btw n 0 ((ml : Int) - 1) = b) W (hb : Below w.heap.size w W) => IsMould_is s ma ml mc wa wl wc na nl nc n W hmm b h)
  rcases h with hk | ⟨hk, hf⟩ | ⟨hk, m, hm, rfl, h⟩
  · have HK1 := Lib.hid (HK.out _ hk)
    clear hk hp hmm
    go_enter Try.func9, Try.ntmps9
    go_wp2_with fail
    refine (HK1.out _ (by repeat (first | exact Below.refl _ _ | (refine Below.alloc ?_ (by first | omega | (simp; omega) | simp) _) | (refine Below.setCell ?_ (by first | omega | (simp; omega) | simp) _) | refine Below.drew ?_))).mono ?_
    rintro e w1 ⟨rfl, hb1⟩
    have hw1 := ((by repeat (first | exact Below.refl _ _ | (refine Below.alloc ?_ (by first | omega | (simp; omega) | simp) _) | (refine Below.setCell ?_ (by first | omega | (simp; omega) | simp) _) | refine Below.drew ?_)) : Below w.heap.size w _).trans (hb1.mono (by first | (simp; done) | (simp; omega) | omega))
    clear hb1
    go_wp2_with fail
    refine (works_any _).mono ?_
    rintro e w9 ⟨rfl, hb9⟩
    go_wp2_with fail
    go_ret
    exact ⟨rfl, hw1.trans (hb9.mono hw1.size)⟩
  · have HK1 := Lib.hid (HK.out _ hk)
    have HI1 := Lib.hid (HI.out n _ hf)
    clear hk hp hmm hf
    go_enter Try.func9, Try.ntmps9
    go_wp2_with fail
    refine (HK1.out _ (by repeat (first | exact Below.refl _ _ | (refine Below.alloc ?_ (by first | omega | (simp; omega) | simp) _) | (refine Below.setCell ?_ (by first | omega | (simp; omega) | simp) _) | refine Below.drew ?_))).mono ?_
    rintro e w1 ⟨rfl, hb1⟩
    have hx0 := fun i => (hb1.cell (p := ⟨w.heap.size, i, none⟩) (by simp)).trans (World.cell?_alloc_new w _ _ i)
    have x0 := hx0 0
    have x1 := hx0 1
    have x2 := hx0 2
    have x3 := hx0 3
    simp only [List.getElem?_toArray, List.getElem?_cons_succ, List.getElem?_cons_zero] at x0 x1 x2 x3
    have q1 : w.heap.size < w1.heap.size := by have := hb1.size; simp at this; omega
    have hw1 := ((by repeat (first | exact Below.refl _ _ | (refine Below.alloc ?_ (by first | omega | (simp; omega) | simp) _) | (refine Below.setCell ?_ (by first | omega | (simp; omega) | simp) _) | refine Below.drew ?_)) : Below w.heap.size w _).trans (hb1.mono (by first | (simp; done) | (simp; omega) | omega))
    clear hb1 hx0
    go_wp2_with fail
    refine (HI1.out _ (by repeat (first | assumption | exact Below.refl _ _ | (refine Below.alloc ?_ (by first | omega | (simp; omega) | simp) _) | (refine Below.setCell ?_ (by first | omega | (simp; omega) | simp) _) | refine Below.drew ?_))).mono ?_
    rintro e w2 ⟨rfl, hb2⟩
    have hw2 := hw1.trans (hb2.mono hw1.size)
    have q2 : w.heap.size < w2.heap.size := Nat.lt_of_lt_of_le q1 hb2.size
    have y0 := (hb2.cell (p := ⟨w.heap.size, 0, none⟩) q1).trans x0; have y1 := (hb2.cell (p := ⟨w.heap.size, 1, none⟩) q1).trans x1; have y2 := (hb2.cell (p := ⟨w.heap.size, 2, none⟩) q1).trans x2; have y3 := (hb2.cell (p := ⟨w.heap.size, 3, none⟩) q1).trans x3; clear x0 x1 x2 x3
    clear hb2
    go_wp2_with fail
    refine (works_any _).mono ?_
    rintro e w9 ⟨rfl, hb9⟩
    go_wp2_with fail
    go_ret
    exact ⟨rfl, hw2.trans (hb9.mono hw2.size)⟩
  · have HK1 := Lib.hid (HK.out _ hk)
    obtain ⟨⟨hml, -, hmc⟩, -⟩ := hp
    have HI1 := Lib.hid (HI.out (m : Int) true (by simp [btw]; omega))
    obtain ⟨mb, mo, rfl, hmB, hmc⟩ := hmc (by omega)
    obtain ⟨c0, c1, c2⟩ := hmc m hm
    have hmI : (m : Int) < (ml : Int) := by omega
    have hm0 : (0 : Int) ≤ (m : Int) := by omega
    have HML := Lib.hid hml
    generalize s.moulds[m] = M at *
    unfold maxLen at hmm
    clear hk hmc hml HI HK
    rcases h with h | ⟨h, h'⟩
    · rw [h] at c2
      clear h
      go_enter Try.func9, Try.ntmps9
      go_wp2_with fail
      refine (HK1.out _ (by repeat (first | exact Below.refl _ _ | (refine Below.alloc ?_ (by first | omega | (simp; omega) | simp) _) | (refine Below.setCell ?_ (by first | omega | (simp; omega) | simp) _) | refine Below.drew ?_))).mono ?_
      rintro e w1 ⟨rfl, hb1⟩
      have hx0 := fun i => (hb1.cell (p := ⟨w.heap.size, i, none⟩) (by simp)).trans (World.cell?_alloc_new w _ _ i)
      have x0 := hx0 0
      have x1 := hx0 1
      have x2 := hx0 2
      have x3 := hx0 3
      simp only [List.getElem?_toArray, List.getElem?_cons_succ, List.getElem?_cons_zero] at x0 x1 x2 x3
      have q1 : w.heap.size < w1.heap.size := by have := hb1.size; simp at this; omega
      have hw1 := ((by repeat (first | exact Below.refl _ _ | (refine Below.alloc ?_ (by first | omega | (simp; omega) | simp) _) | (refine Below.setCell ?_ (by first | omega | (simp; omega) | simp) _) | refine Below.drew ?_)) : Below w.heap.size w _).trans (hb1.mono (by first | (simp; done) | (simp; omega) | omega))
      clear hb1 hx0
      go_wp2_with fail
      refine (HI1.out _ (by repeat (first | assumption | exact Below.refl _ _ | (refine Below.alloc ?_ (by first | omega | (simp; omega) | simp) _) | (refine Below.setCell ?_ (by first | omega | (simp; omega) | simp) _) | refine Below.drew ?_))).mono ?_
      rintro e w2 ⟨rfl, hb2⟩
      have hw2 := hw1.trans (hb2.mono hw1.size)
      have q2 : w.heap.size < w2.heap.size := Nat.lt_of_lt_of_le q1 hb2.size
      have y0 := (hb2.cell (p := ⟨w.heap.size, 0, none⟩) q1).trans x0; have y1 := (hb2.cell (p := ⟨w.heap.size, 1, none⟩) q1).trans x1; have y2 := (hb2.cell (p := ⟨w.heap.size, 2, none⟩) q1).trans x2; have y3 := (hb2.cell (p := ⟨w.heap.size, 3, none⟩) q1).trans x3; clear x0 x1 x2 x3
      have d0 := (hw2.cell (p := ⟨mb, mo + m * 3, none⟩) hmB).trans c0
      have d1 := (hw2.cell (p := ⟨mb, mo + m * 3 + 1, none⟩) hmB).trans c1
      have d2 := (hw2.cell (p := ⟨mb, mo + m * 3 + 2, none⟩) hmB).trans c2
      clear hb2 c0 c1 c2
      go_wp2_with fail
      refine (works_any _).mono ?_
      rintro e w9 ⟨rfl, hb9⟩
      go_wp2_with fail
      go_ret
      exact ⟨rfl, hw2.trans (hb9.mono hw2.size)⟩
    · rw [h'] at c1
      have hb0 : ¬ M.b = 1 := h
      clear h h'
      go_enter Try.func9, Try.ntmps9
      go_wp2_with fail
      refine (HK1.out _ (by repeat (first | exact Below.refl _ _ | (refine Below.alloc ?_ (by first | omega | (simp; omega) | simp) _) | (refine Below.setCell ?_ (by first | omega | (simp; omega) | simp) _) | refine Below.drew ?_))).mono ?_
      rintro e w1 ⟨rfl, hb1⟩
      have hx0 := fun i => (hb1.cell (p := ⟨w.heap.size, i, none⟩) (by simp)).trans (World.cell?_alloc_new w _ _ i)
      have x0 := hx0 0
      have x1 := hx0 1
      have x2 := hx0 2
      have x3 := hx0 3
      simp only [List.getElem?_toArray, List.getElem?_cons_succ, List.getElem?_cons_zero] at x0 x1 x2 x3
      have q1 : w.heap.size < w1.heap.size := by have := hb1.size; simp at this; omega
      have hw1 := ((by repeat (first | exact Below.refl _ _ | (refine Below.alloc ?_ (by first | omega | (simp; omega) | simp) _) | (refine Below.setCell ?_ (by first | omega | (simp; omega) | simp) _) | refine Below.drew ?_)) : Below w.heap.size w _).trans (hb1.mono (by first | (simp; done) | (simp; omega) | omega))
      clear hb1 hx0
      go_wp2_with fail
      refine (HI1.out _ (by repeat (first | assumption | exact Below.refl _ _ | (refine Below.alloc ?_ (by first | omega | (simp; omega) | simp) _) | (refine Below.setCell ?_ (by first | omega | (simp; omega) | simp) _) | refine Below.drew ?_))).mono ?_
      rintro e w2 ⟨rfl, hb2⟩
      have hw2 := hw1.trans (hb2.mono hw1.size)
      have q2 : w.heap.size < w2.heap.size := Nat.lt_of_lt_of_le q1 hb2.size
      have y0 := (hb2.cell (p := ⟨w.heap.size, 0, none⟩) q1).trans x0; have y1 := (hb2.cell (p := ⟨w.heap.size, 1, none⟩) q1).trans x1; have y2 := (hb2.cell (p := ⟨w.heap.size, 2, none⟩) q1).trans x2; have y3 := (hb2.cell (p := ⟨w.heap.size, 3, none⟩) q1).trans x3; clear x0 x1 x2 x3
      have d0 := (hw2.cell (p := ⟨mb, mo + m * 3, none⟩) hmB).trans c0
      have d1 := (hw2.cell (p := ⟨mb, mo + m * 3 + 1, none⟩) hmB).trans c1
      have d2 := (hw2.cell (p := ⟨mb, mo + m * 3 + 2, none⟩) hmB).trans c2
      clear hb2 c0 c1 c2
      go_wp2_with fail
      refine (works_any _).mono ?_
      rintro e w9 ⟨rfl, hb9⟩
      go_wp2_with fail
      go_ret
      exact ⟨rfl, hw2.trans (hb9.mono hw2.size)⟩

set_option maxRecDepth 100000 in
set_option maxHeartbeats 8000000 in
theorem test_walk (s : FShop) (ma : Option Addr) (ml mc : Nat) (wa : Option Addr) (wl wc : Nat) (na : Option Addr) (nl nc : Nat) (m : Nat) (hm : m < s.moulds.length) (w : World) (hp : FAt w ma ml mc wa wl wc na nl nc s) (hk : s.known = true) (hb1 : s.moulds[m].b ≠ 1) (hu : s.moulds[m].u ≠ 12) :
    Calls Try.prog 9 #[.agg #[.slice ma ml mc, .slice wa wl wc, .slice na nl nc, .int .i64 s.fresh], .int .i64 m] w fun e w' => e = .returned (.bool true) ∧ Below w.heap.size w w' := by
  obtain ⟨ho, hl0⟩ : s.ok = true ∧ 0 < s.left.length := by simpa [FShop.known] using hk
  have hmm := hp.1.2.1
  have HK1 := Lib.hid (fun W (hb : Below w.heap.size w W) => known_is s ma ml mc wa wl wc na nl nc true hk W (hp.below hb))
  have hml := hp.1.1
  have HI1 := Lib.hid (fun W (hb : Below w.heap.size w W) => IsMould_is s ma ml mc wa wl wc na nl nc (m : Int) W hmm true (by simp [btw]; omega))
  have HT := Lib.hid (fun W (hb : Below w.heap.size w W) => Test_yes s ma ml mc wa wl wc na nl nc W (hp.below hb) ho hl0)
  have HWO := Lib.hid (fun W (hb : Below w.heap.size w W) => refWorldsOf_r s ma ml mc wa wl wc na nl nc W (hp.below hb) ho)
  have hM := FShop.ok_mould ho m hm
  have HS1 := Lib.hid (fun W (hb : Below w.heap.size w W) => shown_is s ma ml mc wa wl wc na nl nc m hm hb1 (by have := hM.2.1; omega) ho W (hp.below hb))
  have hwle := worst_le s.left m
  have hmin := test_min s.left s.moulds.length m hm
  have hl6 := left_few ho
  have HIK := Lib.hid (fun e (h : e = 0 ∨ e = 3) W => isKnown_is e h W)
  obtain ⟨mb, mo, hma, hmB, hmc⟩ := hp.1.2.2 (by omega)
  obtain ⟨c0, c1, c2⟩ := hmc m hm
  have hmI : (m : Int) < (ml : Int) := by omega
  have hm0 : (0 : Int) ≤ (m : Int) := by omega
  have hb0 : ¬ s.moulds[m].b = 1 := hb1
  have hu0 : ¬ s.moulds[m].u = 12 := hu
  have HATT := Lib.hid (test_att s.left s.moulds.length)
  have hbd := testTo_bd s.left s.moulds.length
  by_cases htl : s.test.2 = s.left.length
  · have HTR := Lib.hid (show testRet s.test s.left.length = .tuple #[.int .i64 0, .int .i64 3] by unfold testRet; rw [if_pos htl])
    have HW := Lib.hid (show worstOf s.left m = s.left.length by unfold FShop.test at htl; omega)
    rw [HTR.out] at HT
    rw [HW.out] at HS1
    clear hp hl0 hmc hb1 hu hwle hmin htl HTR HW HATT hbd hml
    subst hma
    generalize s.left.length = all at *
    generalize s.moulds[m] = M at *
    clear hM ho hk hm
    have hbB : (M.b == 1) = false := by simpa using hb0
    have huB : (M.u == 12) = false := by simpa using hu0
    clear hb0 hu0
    unfold maxLen at hmm
    go_enter Try.func9, Try.ntmps9
    go_wp2_with fail
    refine (HK1.out _ (by repeat (first | exact Below.refl _ _ | (refine Below.alloc ?_ (by first | omega | (simp; omega) | simp) _) | (refine Below.setCell ?_ (by first | omega | (simp; omega) | simp) _) | refine Below.drew ?_))).mono ?_
    rintro e w1 ⟨rfl, hb1⟩
    have hx0 := fun i => (hb1.cell (p := ⟨w.heap.size, i, none⟩) (by simp)).trans (World.cell?_alloc_new w _ _ i)
    have x0 := hx0 0
    have x1 := hx0 1
    have x2 := hx0 2
    have x3 := hx0 3
    simp only [List.getElem?_toArray, List.getElem?_cons_succ, List.getElem?_cons_zero] at x0 x1 x2 x3
    have q1 : w.heap.size < w1.heap.size := by have := hb1.size; simp at this; omega
    have hw1 := ((by repeat (first | exact Below.refl _ _ | (refine Below.alloc ?_ (by first | omega | (simp; omega) | simp) _) | (refine Below.setCell ?_ (by first | omega | (simp; omega) | simp) _) | refine Below.drew ?_)) : Below w.heap.size w _).trans (hb1.mono (by first | (simp; done) | (simp; omega) | omega))
    clear hb1 hx0
    go_wp2_with fail
    refine (HI1.out _ (by repeat (first | assumption | exact Below.refl _ _ | (refine Below.alloc ?_ (by first | omega | (simp; omega) | simp) _) | (refine Below.setCell ?_ (by first | omega | (simp; omega) | simp) _) | refine Below.drew ?_))).mono ?_
    rintro e w2 ⟨rfl, hb2⟩
    have hw2 := hw1.trans (hb2.mono hw1.size)
    have q2 : w.heap.size < w2.heap.size := Nat.lt_of_lt_of_le q1 hb2.size
    have y0 := (hb2.cell (p := ⟨w.heap.size, 0, none⟩) q1).trans x0; have y1 := (hb2.cell (p := ⟨w.heap.size, 1, none⟩) q1).trans x1; have y2 := (hb2.cell (p := ⟨w.heap.size, 2, none⟩) q1).trans x2; have y3 := (hb2.cell (p := ⟨w.heap.size, 3, none⟩) q1).trans x3; clear x0 x1 x2 x3
    have d0 := (hw2.cell (p := ⟨mb, mo + m * 3, none⟩) hmB).trans c0
    have d1 := (hw2.cell (p := ⟨mb, mo + m * 3 + 1, none⟩) hmB).trans c1
    have d2 := (hw2.cell (p := ⟨mb, mo + m * 3 + 2, none⟩) hmB).trans c2
    clear hb2 c0 c1 c2
    go_wp2_with fail
    refine (HT.out _ hw2).mono ?_
    rintro e w3 ⟨rfl, hb3⟩
    have hw3 := hw2.trans (hb3.mono hw2.size)
    have q3 : w.heap.size < w3.heap.size := Nat.lt_of_lt_of_le q2 hb3.size
    have x0 := (hb3.cell (p := ⟨w.heap.size, 0, none⟩) q2).trans y0; have x1 := (hb3.cell (p := ⟨w.heap.size, 1, none⟩) q2).trans y1; have x2 := (hb3.cell (p := ⟨w.heap.size, 2, none⟩) q2).trans y2; have x3 := (hb3.cell (p := ⟨w.heap.size, 3, none⟩) q2).trans y3; clear y0 y1 y2 y3
    clear hb3
    go_wp2_with fail
    refine (HWO.out _ hw3).mono ?_
    rintro e w4 ⟨⟨ra, rc, rfl⟩, hb4⟩
    have hw4 := hw3.trans (hb4.mono hw3.size)
    have q4 : w.heap.size < w4.heap.size := Nat.lt_of_lt_of_le q3 hb4.size
    have y0 := (hb4.cell (p := ⟨w.heap.size, 0, none⟩) q3).trans x0; have y1 := (hb4.cell (p := ⟨w.heap.size, 1, none⟩) q3).trans x1; have y2 := (hb4.cell (p := ⟨w.heap.size, 2, none⟩) q3).trans x2; have y3 := (hb4.cell (p := ⟨w.heap.size, 3, none⟩) q3).trans x3; clear x0 x1 x2 x3
    clear hb4
    go_wp2_with fail
    refine (HS1.out _ hw4).mono ?_
    rintro e w5 ⟨rfl, hb5⟩
    have hw5 := hw4.trans (hb5.mono hw4.size)
    have x0 := (hb5.cell (p := ⟨w.heap.size, 0, none⟩) q4).trans y0; have x1 := (hb5.cell (p := ⟨w.heap.size, 1, none⟩) q4).trans y1; have x2 := (hb5.cell (p := ⟨w.heap.size, 2, none⟩) q4).trans y2; have x3 := (hb5.cell (p := ⟨w.heap.size, 3, none⟩) q4).trans y3; clear y0 y1 y2 y3
    clear hb5
    go_wp2_with fail
    refine (HIK.out 3 (.inr rfl) _).mono ?_
    rintro e w6 ⟨rfl, rfl⟩
    go_wp2_with fail
    refine (works_any _).mono ?_
    rintro e w9 ⟨rfl, hb9⟩
    go_wp2_with fail
    go_ret
    exact ⟨rfl, hw5.trans (hb9.mono hw5.size)⟩
  · have HTR := Lib.hid (show testRet s.test s.left.length = .tuple #[.int .i64 (s.test.1 : Nat), .int .i64 0] by unfold testRet; rw [if_neg htl])
    rw [HTR.out] at HT
    obtain ⟨ht1, ht2, ht3⟩ := test_att s.left s.moulds.length (by unfold FShop.test at htl; omega)
    obtain ⟨q, hq⟩ : ∃ q, s.test.1 = q := ⟨_, rfl⟩
    rw [hq] at HT
    have hq' : (testTo s.left s.moulds.length).1 = q := hq
    rw [hq'] at ht1 ht2 ht3
    have hqlt : worstOf s.left q < s.left.length := by rw [ht2]; unfold FShop.test at htl; omega
    have hqb : s.moulds[q].b ≠ 1 := fun e => by have := tired_all ho ht1 (.inl e); omega
    have hqu : s.moulds[q].u ≠ 12 := fun e => by have := tired_all ho ht1 (.inr e); omega
    have hMq := FShop.ok_mould ho q ht1
    have HS2 := Lib.hid (fun W (hb : Below w.heap.size w W) => shown_is s ma ml mc wa wl wc na nl nc q ht1 hqb (by have := hMq.2.1; omega) ho W (hp.below hb))
    have HI2 := Lib.hid (fun W (hb : Below w.heap.size w W) => IsMould_is s ma ml mc wa wl wc na nl nc (q : Int) W hmm true (by simp [btw]; omega))
    obtain ⟨c3, c4, c5⟩ := hmc q ht1
    have hqI : (q : Int) < (ml : Int) := by omega
    have hq0 : (0 : Int) ≤ (q : Int) := by omega
    have hle : worstOf s.left q ≤ worstOf s.left m := by omega
    have hor : worstOf s.left q < worstOf s.left m ∨ q ≤ m := by
      rcases Nat.lt_or_ge m q with h | h
      · have := ht3 m h; omega
      · exact .inr h
    have hqb0 : ¬ s.moulds[q].b = 1 := hqb
    have hqu0 : ¬ s.moulds[q].u = 12 := hqu
    clear hp hl0 hmc hb1 hu hmin htl HTR HATT hbd hml ht2 ht3 hq hq' hqb hqu
    subst hma
    generalize s.left.length = all at *
    generalize worstOf s.left q = own at *
    generalize worstOf s.left m = other at *
    generalize s.moulds[m] = M at *
    generalize s.moulds[q] = Q at *
    clear hM hMq ho hk hm ht1
    have hbB : (M.b == 1) = false := by simpa using hb0
    have huB : (M.u == 12) = false := by simpa using hu0
    have hqbB : (Q.b == 1) = false := by simpa using hqb0
    have hquB : (Q.u == 12) = false := by simpa using hqu0
    clear hb0 hu0 hqb0 hqu0
    unfold maxLen at hmm
    go_enter Try.func9, Try.ntmps9
    go_wp2_with fail
    refine (HK1.out _ (by repeat (first | exact Below.refl _ _ | (refine Below.alloc ?_ (by first | omega | (simp; omega) | simp) _) | (refine Below.setCell ?_ (by first | omega | (simp; omega) | simp) _) | refine Below.drew ?_))).mono ?_
    rintro e w1 ⟨rfl, hb1⟩
    have hx0 := fun i => (hb1.cell (p := ⟨w.heap.size, i, none⟩) (by simp)).trans (World.cell?_alloc_new w _ _ i)
    have x0 := hx0 0
    have x1 := hx0 1
    have x2 := hx0 2
    have x3 := hx0 3
    simp only [List.getElem?_toArray, List.getElem?_cons_succ, List.getElem?_cons_zero] at x0 x1 x2 x3
    have q1 : w.heap.size < w1.heap.size := by have := hb1.size; simp at this; omega
    have hw1 := ((by repeat (first | exact Below.refl _ _ | (refine Below.alloc ?_ (by first | omega | (simp; omega) | simp) _) | (refine Below.setCell ?_ (by first | omega | (simp; omega) | simp) _) | refine Below.drew ?_)) : Below w.heap.size w _).trans (hb1.mono (by first | (simp; done) | (simp; omega) | omega))
    clear hb1 hx0
    go_wp2_with fail
    refine (HI1.out _ (by repeat (first | assumption | exact Below.refl _ _ | (refine Below.alloc ?_ (by first | omega | (simp; omega) | simp) _) | (refine Below.setCell ?_ (by first | omega | (simp; omega) | simp) _) | refine Below.drew ?_))).mono ?_
    rintro e w2 ⟨rfl, hb2⟩
    have hw2 := hw1.trans (hb2.mono hw1.size)
    have q2 : w.heap.size < w2.heap.size := Nat.lt_of_lt_of_le q1 hb2.size
    have y0 := (hb2.cell (p := ⟨w.heap.size, 0, none⟩) q1).trans x0; have y1 := (hb2.cell (p := ⟨w.heap.size, 1, none⟩) q1).trans x1; have y2 := (hb2.cell (p := ⟨w.heap.size, 2, none⟩) q1).trans x2; have y3 := (hb2.cell (p := ⟨w.heap.size, 3, none⟩) q1).trans x3; clear x0 x1 x2 x3
    have d0 := (hw2.cell (p := ⟨mb, mo + m * 3, none⟩) hmB).trans c0
    have d1 := (hw2.cell (p := ⟨mb, mo + m * 3 + 1, none⟩) hmB).trans c1
    have d2 := (hw2.cell (p := ⟨mb, mo + m * 3 + 2, none⟩) hmB).trans c2
    clear hb2 c0 c1 c2
    go_wp2_with fail
    refine (HT.out _ hw2).mono ?_
    rintro e w3 ⟨rfl, hb3⟩
    have hw3 := hw2.trans (hb3.mono hw2.size)
    have q3 : w.heap.size < w3.heap.size := Nat.lt_of_lt_of_le q2 hb3.size
    have x0 := (hb3.cell (p := ⟨w.heap.size, 0, none⟩) q2).trans y0; have x1 := (hb3.cell (p := ⟨w.heap.size, 1, none⟩) q2).trans y1; have x2 := (hb3.cell (p := ⟨w.heap.size, 2, none⟩) q2).trans y2; have x3 := (hb3.cell (p := ⟨w.heap.size, 3, none⟩) q2).trans y3; clear y0 y1 y2 y3
    clear hb3 d0 d1 d2
    go_wp2_with fail
    refine (HWO.out _ hw3).mono ?_
    rintro e w4 ⟨⟨ra, rc, rfl⟩, hb4⟩
    have hw4 := hw3.trans (hb4.mono hw3.size)
    have q4 : w.heap.size < w4.heap.size := Nat.lt_of_lt_of_le q3 hb4.size
    have y0 := (hb4.cell (p := ⟨w.heap.size, 0, none⟩) q3).trans x0; have y1 := (hb4.cell (p := ⟨w.heap.size, 1, none⟩) q3).trans x1; have y2 := (hb4.cell (p := ⟨w.heap.size, 2, none⟩) q3).trans x2; have y3 := (hb4.cell (p := ⟨w.heap.size, 3, none⟩) q3).trans x3; clear x0 x1 x2 x3
    clear hb4
    go_wp2_with fail
    refine (HS1.out _ hw4).mono ?_
    rintro e w5 ⟨rfl, hb5⟩
    have hw5 := hw4.trans (hb5.mono hw4.size)
    have q5 : w.heap.size < w5.heap.size := Nat.lt_of_lt_of_le q4 hb5.size
    have x0 := (hb5.cell (p := ⟨w.heap.size, 0, none⟩) q4).trans y0; have x1 := (hb5.cell (p := ⟨w.heap.size, 1, none⟩) q4).trans y1; have x2 := (hb5.cell (p := ⟨w.heap.size, 2, none⟩) q4).trans y2; have x3 := (hb5.cell (p := ⟨w.heap.size, 3, none⟩) q4).trans y3; clear y0 y1 y2 y3
    clear hb5
    go_wp2_with fail
    refine (HIK.out 0 (.inl rfl) _).mono ?_
    rintro e w6 ⟨rfl, rfl⟩
    go_wp2_with fail
    refine (HI2.out _ hw5).mono ?_
    rintro e w7 ⟨rfl, hb7⟩
    have hw7 := hw5.trans (hb7.mono hw5.size)
    have q7 : w.heap.size < w7.heap.size := Nat.lt_of_lt_of_le q5 hb7.size
    have y0 := (hb7.cell (p := ⟨w.heap.size, 0, none⟩) q5).trans x0; have y1 := (hb7.cell (p := ⟨w.heap.size, 1, none⟩) q5).trans x1; have y2 := (hb7.cell (p := ⟨w.heap.size, 2, none⟩) q5).trans x2; have y3 := (hb7.cell (p := ⟨w.heap.size, 3, none⟩) q5).trans x3; clear x0 x1 x2 x3
    have d3 := (hw7.cell (p := ⟨mb, mo + q * 3, none⟩) hmB).trans c3
    have d4 := (hw7.cell (p := ⟨mb, mo + q * 3 + 1, none⟩) hmB).trans c4
    have d5 := (hw7.cell (p := ⟨mb, mo + q * 3 + 2, none⟩) hmB).trans c5
    clear hb7 c3 c4 c5
    go_wp2_with fail
    refine (HS2.out _ hw7).mono ?_
    rintro e w8 ⟨rfl, hb8⟩
    have hw8 := hw7.trans (hb8.mono hw7.size)
    clear hb8 d3 d4 d5
    have i1 : (0 : Int) ≤ (own : Int) := by omega
    have i2 : (own : Int) < (all : Int) := by omega
    have i3 : (own : Int) ≤ (other : Int) := by omega
    rcases Nat.lt_or_ge own other with h | h
    · have i4 : (own : Int) < (other : Int) := by omega
      go_wp2_with fail
      refine (works_any _).mono ?_
      rintro e w9 ⟨rfl, hb9⟩
      go_wp2_with fail
      go_ret
      exact ⟨rfl, hw8.trans (hb9.mono hw8.size)⟩
    · have i4 : ¬ (own : Int) < (other : Int) := by omega
      have i5 : (q : Int) ≤ (m : Int) := by omega
      go_wp2_with fail
      refine (works_any _).mono ?_
      rintro e w9 ⟨rfl, hb9⟩
      go_wp2_with fail
      go_ret
      exact ⟨rfl, hw8.trans (hb9.mono hw8.size)⟩
theorem test_law (s : FShop) (ma : Option Addr) (ml mc : Nat) (wa : Option Addr) (wl wc : Nat) (na : Option Addr) (nl nc : Nat) (n : Int) (w : World) (hp : FAt w ma ml mc wa wl wc na nl nc s) :
    Calls Try.prog 9 #[.agg #[.slice ma ml mc, .slice wa wl wc, .slice na nl nc, .int .i64 s.fresh], .int .i64 n] w fun e w' => e = .returned (.bool true) ∧ Below w.heap.size w w' := by
  rcases hk : s.known with - | -
  · exact test_early s ma ml mc wa wl wc na nl nc n w hp (.inl hk)
  rcases hf : btw n 0 ((ml : Int) - 1) with - | -
  · exact test_early s ma ml mc wa wl wc na nl nc n w hp (.inr (.inl ⟨hk, hf⟩))
  obtain ⟨m, rfl, hm⟩ := btw_nat hf
  have hm' : m < s.moulds.length := by rw [hp.1.1]; exact hm
  by_cases hb : s.moulds[m].b = 1
  · exact test_early s ma ml mc wa wl wc na nl nc m w hp (.inr (.inr ⟨hk, m, hm', rfl, .inl hb⟩))
  by_cases hu : s.moulds[m].u = 12
  · exact test_early s ma ml mc wa wl wc na nl nc m w hp (.inr (.inr ⟨hk, m, hm', rfl, .inr ⟨hb, hu⟩⟩))
  exact test_walk s ma ml mc wa wl wc na nl nc m hm' w hp hk hb hu
end Go.Proofs.Ytgniblcagjdpnaa
