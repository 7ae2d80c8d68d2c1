/- MetalCheapest. -/
import Derived.Test.YtajabapcmpmboaaSI
import Derived.Test.YtajabapcmpmboaaY
import Derived.Deep.RegionHeld3
import Derived.Deep.RegionLaw
import Derived.Deep.DeepCutAuto
namespace Go.Proofs.Ytajabapcmpmboaa
set_option linter.unusedVariables false
set_option linter.unusedSimpArgs false
open Go.RowKit

theorem bothS1c {P : Program} {f : FuncId} {args : Array Value} {W0 w1 : World} {v : Value} (h : Calls P f args w1 fun e w' => e = .returned v ∧ Below w1.heap.size w1 w')
    (h1 : Below W0.heap.size W0 w1 ∧ ∀ b o, b < W0.heap.size → w1.cell? ⟨b, o, none⟩ = W0.cell? ⟨b, o, none⟩) :
    Calls P f args w1 fun e w' => e = .returned v ∧ (Below W0.heap.size W0 w' ∧ ∀ b o, b < W0.heap.size → w'.cell? ⟨b, o, none⟩ = W0.cell? ⟨b, o, none⟩) ∧
      (∀ b o, b < w1.heap.size → w'.cell? ⟨b, o, none⟩ = w1.cell? ⟨b, o, none⟩) ∧ (∀ b o, b < w1.heap.size → w'.frozen? ⟨b, o, none⟩ = w1.frozen? ⟨b, o, none⟩) ∧ w1.heap.size ≤ w'.heap.size :=
  h.mono fun e w' ⟨he, hb⟩ => ⟨he, ⟨h1.1.trans (hb.mono h1.1.size), fun b o hbo => (h1.1.trans (hb.mono h1.1.size)).cell (p := ⟨b, o, none⟩) hbo⟩, fun b o hbo => hb.cell (p := ⟨b, o, none⟩) hbo, fun b o hbo => hb.frozen (p := ⟨b, o, none⟩) hbo, hb.size⟩
theorem row_ints' {w : World} {n0 n : Nat} {v : Value} {xs : List Int} (h : w.ownsRow n0 3 1 v n (xs.map (Value.int .i64))) (hn : n ≤ maxLen) : ∃ a cap, v = .slice a n cap ∧ IntsAt w a n xs := by
  have h' := h
  rcases h.2 with ⟨h0, h1⟩ | ⟨g, cap, cur, hv, _⟩
  · subst h0; subst h1
    exact ⟨none, 0, rfl, by have := h.1; simp at this; exact ⟨by simp [this], by decide, fun h => by omega⟩⟩
  · subst hv
    exact ⟨_, cap, rfl, ints_own h' hn⟩
theorem Short_read (s : Shop) (a : Option Addr) (len cap : Nat) (w : World) (hp : PigsAt w a len s.pigs) (ho : s.ok = true) :
    Calls Try.prog 30 #[.agg #[.int .i64 s.P, .int .i64 s.tl, .int .i64 s.th, .int .i64 s.al, .int .i64 s.ah, .int .i64 s.room, .int .i64 s.xl, .int .i64 s.xh, .int .i64 s.yl, .int .i64 s.yh, .slice a len cap]] w fun e w' => ∃ fa fc, e = .returned (.tuple #[.slice fa s.shortL.length fc, .int .i64 0]) ∧ IntsAt w' fa s.shortL.length s.shortL ∧ Below w.heap.size w w' := by
  refine (Short_yes s a len cap w hp ho).mono ?_
  rintro e w' ⟨v, rfl, hown, hb⟩
  have h4 := short_few s
  have hl : (s.shortF [0, 1, 2, 3]).length = s.shortL.length := by simp [Shop.shortL]
  rw [hl, show intsF (s.shortF [0, 1, 2, 3]) = s.shortL.map (Value.int .i64) by simp [intsF, Shop.shortL]] at hown
  obtain ⟨fa, fc, rfl, hi⟩ := row_ints' hown (by unfold maxLen; omega)
  exact ⟨fa, fc, rfl, hi, hb⟩
theorem Rising_is (xa : Option Addr) (xl xc : Nat) (x : List Int) (lo hi : Int) (b : Bool) (h : risingB x lo hi = b) (w : World) (hx : IntsAt w xa xl x) :
    Calls Try.prog 49 #[.slice xa xl xc, .int .i64 lo, .int .i64 hi] w fun e w' => e = .returned (.bool b) ∧ Below w.heap.size w w' := h ▸ Rising_any xa xl xc x lo hi w hx

set_option maxRecDepth 100000 in
set_option maxHeartbeats 1000000 in
theorem cheapest_bad (s : Shop) (a : Option Addr) (len cap : Nat) (x : Option Addr) (xlen xcap : Nat) (w : World) (hp : PigsAt w a len s.pigs) (hr : s.ok = false) :
    Calls Try.prog 7 #[.agg #[.int .i64 s.P, .int .i64 s.tl, .int .i64 s.th, .int .i64 s.al, .int .i64 s.ah, .int .i64 s.room, .int .i64 s.xl, .int .i64 s.xh, .int .i64 s.yl, .int .i64 s.yh, .slice a len cap], .slice x xlen xcap] w fun e w' => e = .returned (.bool true) ∧ Below w.heap.size w w' := by
  have HR := Lib.hid (fun w1 (hb : Below w.heap.size w w1) => ready_is s a len cap false hr w1 (hp.below hb))
  have HW := Lib.hid (fun w1 => works_any w1)
  clear hp hr
  go_enter Try.func7, Try.ntmps7
  go_wp2_with fail
  refine (HR.out _ (by repeat (first | exact Below.refl _ _ | (refine Below.alloc ?_ (by first | omega | (simp; omega) | simp) _) | (refine Below.setCell ?_ (by first | omega | (simp; omega) | simp) _) | refine Below.drew ?_))).mono ?_; rintro e w1 ⟨rfl, hb1⟩; obtain ⟨hc1, hf1⟩ := bcell hb1; have hz1 := hb1.size; (try simp at hz1); have hw1 := ((by repeat (first | assumption | exact Below.refl _ _ | (refine Below.alloc ?_ (by first | omega | (simp; omega) | simp) _) | (refine Below.setCell ?_ (by first | omega | (simp; omega) | simp) _) | refine Below.drew ?_)) : Below w.heap.size w _).trans (hb1.mono (by first | (simp; done) | (simp; omega) | omega)); clear hb1; have p1 : w.heap.size < w1.heap.size := (by omega); go_wp2_with fail
  refine (HW.out _).mono ?_; rintro e w2 ⟨rfl, hb2⟩; obtain ⟨hc2, hf2⟩ := bcell hb2; have hz2 := hb2.size; (try simp at hz2); have hw2 := ((by repeat (first | assumption | exact Below.refl _ _ | (refine Below.alloc ?_ (by first | omega | (simp; omega) | simp) _) | (refine Below.setCell ?_ (by first | omega | (simp; omega) | simp) _) | refine Below.drew ?_)) : Below w.heap.size w _).trans (hb2.mono (by first | (simp; done) | (simp; omega) | omega)); clear hb2; have p2 : w.heap.size < w2.heap.size := (by omega); go_wp2_with fail
  go_ret
  exact ⟨rfl, (by repeat (first | assumption | exact Below.refl _ _ | (refine Below.alloc ?_ (by first | omega | (simp; omega) | simp) _) | (refine Below.setCell ?_ (by first | omega | (simp; omega) | simp) _) | refine Below.drew ?_))⟩

set_option maxRecDepth 100000 in
set_option maxHeartbeats 8000000 in
theorem cheapest_none (s : Shop) (a : Option Addr) (len cap : Nat) (x : Option Addr) (xlen xcap : Nat) (ns : List Int) (w : World) (hp : PigsAt w a len s.pigs) (hx : IntsAt w x xlen ns) (hr : s.ok = true) (hb : s.best 2 = none) :
    Calls Try.prog 7 #[.agg #[.int .i64 s.P, .int .i64 s.tl, .int .i64 s.th, .int .i64 s.al, .int .i64 s.ah, .int .i64 s.room, .int .i64 s.xl, .int .i64 s.xh, .int .i64 s.yl, .int .i64 s.yh, .slice a len cap], .slice x xlen xcap] w fun e w' => e = .returned (.bool true) ∧ Below w.heap.size w w' := by
  obtain ⟨hc0, hc1, hno⟩ := cheapest_no hb
  have HR := Lib.hid (fun w1 (hb : Below w.heap.size w w1) => ready_is s a len cap true hr w1 (hp.below hb))
  have H1 := Lib.hid (fun w1 (hb : Below w.heap.size w w1) => hc0 ▸ cheap_any s a len cap w1 (hp.below hb) hr)
  have H2 := Lib.hid (fun w1 (hb : Below w.heap.size w w1) => hc1 ▸ tin_any s a len cap w1 (hp.below hb) hr)
  have H3 := Lib.hid (fun w1 (hbw : Below w.heap.size w w1) => (Mend_any s a len cap w1 (hp.below hbw)).mono fun e w' h => show e = .returned (.tuple #[.slice none 0 0, .int .i64 3]) ∧ Below w1.heap.size w1 w' from ⟨(by
    rcases h.2 with ⟨h1, -⟩ | ⟨-, -, h1⟩ | ⟨-, y, m, v, h1, -⟩
    · rw [hr] at h1; cases h1
    · exact h1
    · rw [hb] at h1; cases h1), h.1⟩)
  have H4 := Lib.hid (fun w1 (hb : Below w.heap.size w w1) => Short_read s a len cap w1 (hp.below hb) hr)
  have H5 := Lib.hid (fun (fa : Option Addr) fc w1 (h : IntsAt w1 fa s.shortL.length s.shortL) => Rising_is fa s.shortL.length fc s.shortL 1 4 true (short_rising s) w1 h)
  have hfew := short_few s
  obtain ⟨ia, hia⟩ : ∃ ia, s.isAdd ns = ia := ⟨_, rfl⟩
  have H6 := Lib.hid (fun w1 (hb : Below w.heap.size w w1) => hia ▸ isAddition_law s a len cap x xlen xcap ns w1 (hp.below hb) (hx.below hb) hr)
  have hxl : ia = true → xlen ≤ 1000 := fun h => by
    have h1 := (Shop.isAdd_len (hia.trans h)).1
    have h2 := Shop.ok_bd hr
    have h3 := hx.1
    omega
  have hk : ia = true → s.safeOf ns ≠ 1 := fun h => hno ns (isAdd_mem (hia.trans h))
  have H7 := Lib.hid (fun (h : ia = true) w1 (hb : Below w.heap.size w w1) => safe_law s a len cap x xlen xcap ns w1 (hp.below hb) (hx.below hb) (by simp [Shop.code, hr, hia, h]) (hxl h))
  have HW := Lib.hid (fun w1 => works_any w1)
  clear hp hx hr hb hc0 hc1 hno hia hxl
  generalize s.safeOf ns = kv at *
  generalize s.shortL = sl at *
  go_enter Try.func7, Try.ntmps7
  go_wp2_with fail
  refine (HR.out _ (by repeat (first | exact Below.refl _ _ | (refine Below.alloc ?_ (by first | omega | (simp; omega) | simp) _) | (refine Below.setCell ?_ (by first | omega | (simp; omega) | simp) _) | refine Below.drew ?_))).mono ?_; rintro e w1 ⟨rfl, hb1⟩; obtain ⟨hc1, hf1⟩ := bcell hb1; have hz1 := hb1.size; (try simp at hz1); have hw1 := ((by repeat (first | assumption | exact Below.refl _ _ | (refine Below.alloc ?_ (by first | omega | (simp; omega) | simp) _) | (refine Below.setCell ?_ (by first | omega | (simp; omega) | simp) _) | refine Below.drew ?_)) : Below w.heap.size w _).trans (hb1.mono (by first | (simp; done) | (simp; omega) | omega)); clear hb1; have p1 : w.heap.size < w1.heap.size := (by omega); go_wp2_with fail
  refine (H1.out _ hw1).mono ?_; rintro e w2 ⟨rfl, hb2⟩; obtain ⟨hc2, hf2⟩ := bcell hb2; have hz2 := hb2.size; (try simp at hz2); have hw2 := ((by repeat (first | assumption | exact Below.refl _ _ | (refine Below.alloc ?_ (by first | omega | (simp; omega) | simp) _) | (refine Below.setCell ?_ (by first | omega | (simp; omega) | simp) _) | refine Below.drew ?_)) : Below w.heap.size w _).trans (hb2.mono (by first | (simp; done) | (simp; omega) | omega)); clear hb2; have p2 : w.heap.size < w2.heap.size := (by omega); go_wp2_with fail
  refine (H2.out _ hw2).mono ?_; rintro e w3 ⟨rfl, hb3⟩; obtain ⟨hc3, hf3⟩ := bcell hb3; have hz3 := hb3.size; (try simp at hz3); have hw3 := ((by repeat (first | assumption | exact Below.refl _ _ | (refine Below.alloc ?_ (by first | omega | (simp; omega) | simp) _) | (refine Below.setCell ?_ (by first | omega | (simp; omega) | simp) _) | refine Below.drew ?_)) : Below w.heap.size w _).trans (hb3.mono (by first | (simp; done) | (simp; omega) | omega)); clear hb3; have p3 : w.heap.size < w3.heap.size := (by omega); go_wp2_with fail
  refine (H3.out _ hw3).mono ?_; rintro e w4 ⟨rfl, hb4⟩; obtain ⟨hc4, hf4⟩ := bcell hb4; have hz4 := hb4.size; (try simp at hz4); have hw4 := ((by repeat (first | assumption | exact Below.refl _ _ | (refine Below.alloc ?_ (by first | omega | (simp; omega) | simp) _) | (refine Below.setCell ?_ (by first | omega | (simp; omega) | simp) _) | refine Below.drew ?_)) : Below w.heap.size w _).trans (hb4.mono (by first | (simp; done) | (simp; omega) | omega)); clear hb4; have p4 : w.heap.size < w4.heap.size := (by omega); go_wp2_with fail
  refine (H4.out _ hw4).mono ?_
  rintro e w5 ⟨fa, fc, rfl, hI, hb5⟩
  obtain ⟨hc5, hf5⟩ := bcell hb5
  have hz5 := hb5.size
  have hw5 := hw4.trans (hb5.mono hw4.size)
  have p5 : w.heap.size < w5.heap.size := by omega
  clear hb5
  go_wp2_with fail
  refine (H5.out fa fc w5 hI).mono ?_; rintro e w6 ⟨rfl, hb6⟩; obtain ⟨hc6, hf6⟩ := bcell hb6; have hz6 := hb6.size; (try simp at hz6); have hw6 := ((by repeat (first | assumption | exact Below.refl _ _ | (refine Below.alloc ?_ (by first | omega | (simp; omega) | simp) _) | (refine Below.setCell ?_ (by first | omega | (simp; omega) | simp) _) | refine Below.drew ?_)) : Below w.heap.size w _).trans (hb6.mono (by first | (simp; done) | (simp; omega) | omega)); clear hb6; have p6 : w.heap.size < w6.heap.size := (by omega); go_wp2_with fail
  clear hI
  all_goals
    refine (H6.out _ hw6).mono ?_
    rintro e w7 ⟨rfl, hb7⟩
    obtain ⟨hc7, hf7⟩ := bcell hb7
    have hz7 := hb7.size
    have hw7 := hw6.trans (hb7.mono hw6.size)
    have p7 : w.heap.size < w7.heap.size := by omega
    clear hb7
    cases ia
    · go_wp2_with fail
      refine (HW.out _).mono ?_; rintro e w8 ⟨rfl, hb8⟩; obtain ⟨hc8, hf8⟩ := bcell hb8; have hz8 := hb8.size; (try simp at hz8); have hw8 := ((by repeat (first | assumption | exact Below.refl _ _ | (refine Below.alloc ?_ (by first | omega | (simp; omega) | simp) _) | (refine Below.setCell ?_ (by first | omega | (simp; omega) | simp) _) | refine Below.drew ?_)) : Below w.heap.size w _).trans (hb8.mono (by first | (simp; done) | (simp; omega) | omega)); clear hb8; have p8 : w.heap.size < w8.heap.size := (by omega); go_wp2_with fail
      go_ret
      exact ⟨rfl, (by repeat (first | assumption | exact Below.refl _ _ | (refine Below.alloc ?_ (by first | omega | (simp; omega) | simp) _) | (refine Below.setCell ?_ (by first | omega | (simp; omega) | simp) _) | refine Below.drew ?_))⟩
    · have hk1 := hk rfl
      have e1 : (kv == 1) = false := by simpa using hk1
      have e2 : (kv != 1) = true := by simpa using hk1
      clear hk hk1
      go_wp2_with fail
      refine (H7.out (by trivial) _ hw7).mono ?_; rintro e w8 ⟨rfl, hb8⟩; obtain ⟨hc8, hf8⟩ := bcell hb8; have hz8 := hb8.size; (try simp at hz8); have hw8 := ((by repeat (first | assumption | exact Below.refl _ _ | (refine Below.alloc ?_ (by first | omega | (simp; omega) | simp) _) | (refine Below.setCell ?_ (by first | omega | (simp; omega) | simp) _) | refine Below.drew ?_)) : Below w.heap.size w _).trans (hb8.mono (by first | (simp; done) | (simp; omega) | omega)); clear hb8; have p8 : w.heap.size < w8.heap.size := (by omega); go_wp2_with fail
      refine (HW.out _).mono ?_; rintro e w9 ⟨rfl, hb9⟩; obtain ⟨hc9, hf9⟩ := bcell hb9; have hz9 := hb9.size; (try simp at hz9); have hw9 := ((by repeat (first | assumption | exact Below.refl _ _ | (refine Below.alloc ?_ (by first | omega | (simp; omega) | simp) _) | (refine Below.setCell ?_ (by first | omega | (simp; omega) | simp) _) | refine Below.drew ?_)) : Below w.heap.size w _).trans (hb9.mono (by first | (simp; done) | (simp; omega) | omega)); clear hb9; have p9 : w.heap.size < w9.heap.size := (by omega); go_wp2_with fail
      go_ret
      exact ⟨rfl, (by repeat (first | assumption | exact Below.refl _ _ | (refine Below.alloc ?_ (by first | omega | (simp; omega) | simp) _) | (refine Below.setCell ?_ (by first | omega | (simp; omega) | simp) _) | refine Below.drew ?_))⟩

set_option maxRecDepth 100000 in
set_option maxHeartbeats 8000000 in
theorem cheapest_some (s : Shop) (a : Option Addr) (len cap : Nat) (x : Option Addr) (xlen xcap : Nat) (ns : List Int) (w : World) (hp : PigsAt w a len s.pigs) (hx : IntsAt w x xlen ns) (hr : s.ok = true) (y : List Int) (m : Int) (hb : s.best 2 = some (y, m)) :
    Calls Try.prog 7 #[.agg #[.int .i64 s.P, .int .i64 s.tl, .int .i64 s.th, .int .i64 s.al, .int .i64 s.ah, .int .i64 s.room, .int .i64 s.xl, .int .i64 s.xh, .int .i64 s.yl, .int .i64 s.yh, .slice a len cap], .slice x xlen xcap] w fun e w' => e = .returned (.bool true) ∧ Below w.heap.size w w' := by
  have hC := cheapest_yes hr hb
  have hsl : s.shortL = [] := short_none (isAdd_mem hC.add) hC.safe
  obtain ⟨hyl, hyf⟩ := Shop.isAdd_len hC.add
  have hyl' : y.length = len := hyl.trans hp.1
  have hl4 : len ≤ 4 := by have := Shop.ok_bd hr; have := hp.1; omega
  have HR := Lib.hid (fun w1 (hb : Below w.heap.size w w1) => ready_is s a len cap true hr w1 (hp.below hb))
  have H1 := Lib.hid (fun w1 (hb : Below w.heap.size w w1) => cheap_any s a len cap w1 (hp.below hb) hr)
  have H2 := Lib.hid (fun w1 (hb : Below w.heap.size w w1) => tin_any s a len cap w1 (hp.below hb) hr)
  have H3 := Lib.hid (fun w1 (hbw : Below w.heap.size w w1) => (Mend_any s a len cap w1 (hp.below hbw)).mono fun e w' h => show ∃ la lc, e = .returned (.tuple #[.slice la len lc, .int .i64 0]) ∧ IntsAt w' la len y ∧ Below w1.heap.size w1 w' from (by
    rcases h.2 with ⟨h1, -⟩ | ⟨-, h1, -⟩ | ⟨-, y', m', v, h1, h2, h3⟩
    · rw [hr] at h1; cases h1
    · rw [hb] at h1; cases h1
    · rw [hb] at h1; cases h1
      obtain ⟨la, lc, rfl, hi⟩ := row_ints' h3 (by unfold maxLen; omega)
      exact ⟨la, lc, h2, hi, h.1⟩))
  have H4 := fun w1 (hb : Below w.heap.size w w1) => Short_read s a len cap w1 (hp.below hb) hr
  rw [hsl] at H4
  replace H4 := Lib.hid H4
  have H5 := Lib.hid (fun (fa : Option Addr) fc w1 (h : IntsAt w1 fa 0 []) => Rising_is fa 0 fc [] 1 4 true rfl w1 h)
  have H6 := Lib.hid (fun la lc w1 (hb : Below w.heap.size w w1) (hi : IntsAt w1 la len y) => hC.add ▸ isAddition_law s a len cap la len lc y w1 (hp.below hb) hi hr)
  have H7 := Lib.hid (fun la lc w1 (hb : Below w.heap.size w w1) (hi : IntsAt w1 la len y) => hC.safe ▸ safe_law s a len cap la len lc y w1 (hp.below hb) hi (by simp [Shop.code, hr, hC.add]) (by omega))
  have HYc := Lib.hid (fun la lc w1 (hb : Below w.heap.size w w1) (hi : IntsAt w1 la len y) => ref_PenceOf s a cap la len lc y w1 (hp.below hb) hi hl4 (s.few y hr hyf))
  have HYt := Lib.hid (fun la lc w1 (hb : Below w.heap.size w w1) (hi : IntsAt w1 la len y) => ref_TinOf s a cap la len lc y w1 (hp.below hb) hi hl4 (s.few y hr hyf))
  have HYP := Lib.hid (fun la lc w1 (hb : Below w.heap.size w w1) (hi : IntsAt w1 la len y) => ref_PoundsOf s a cap la len lc y w1 (hp.below hb) hi hl4 (s.few y hr hyf))
  obtain ⟨ia, hia⟩ : ∃ ia, s.isAdd ns = ia := ⟨_, rfl⟩
  have G6 := Lib.hid (fun w1 (hb : Below w.heap.size w w1) => hia ▸ isAddition_law s a len cap x xlen xcap ns w1 (hp.below hb) (hx.below hb) hr)
  have hxl : ia = true → xlen = len := fun h => by
    have h1 := (Shop.isAdd_len (hia.trans h)).1
    have h3 := hx.1
    have h4 := hp.1
    omega
  have hxf : ia = true → Few s.pigs ns := fun h => s.few ns hr (Shop.isAdd_len (hia.trans h)).2
  have G7 := Lib.hid (fun (h : ia = true) w1 (hb : Below w.heap.size w w1) => safe_law s a len cap x xlen xcap ns w1 (hp.below hb) (hx.below hb) (by simp [Shop.code, hr, hia, h]) (by have := hxl h; omega))
  have GC := Lib.hid (fun (h : ia = true) w1 (hb : Below w.heap.size w w1) => ref_PenceOf s a cap x len xcap ns w1 (hp.below hb) (hxl h ▸ hx.below hb) hl4 (hxf h))
  have GT := Lib.hid (fun (h : ia = true) w1 (hb : Below w.heap.size w w1) => ref_TinOf s a cap x len xcap ns w1 (hp.below hb) (hxl h ▸ hx.below hb) hl4 (hxf h))
  have GP := Lib.hid (fun (h : ia = true) w1 (hb : Below w.heap.size w w1) => ref_PoundsOf s a cap x len xcap ns w1 (hp.below hb) (hxl h ▸ hx.below hb) hl4 (hxf h))
  have GE := Lib.hid (fun (h : ia = true) la lc w1 (hb : Below w.heap.size w w1) (hi : IntsAt w1 la len y) => Earlier_any x xcap la lc len ns y w1 (hxl h ▸ hx.below hb) hi)
  have HALL := Lib.hid (fun (h : ia = true) (hs : s.safeOf ns = 1) => hC.all ns (hia.trans h) hs)
  have HXL := Lib.hid hxl
  have HW := Lib.hid (fun w1 => works_any w1)
  have c1 := hC.cost
  obtain ⟨c2, c3⟩ := hC.cost0
  have c4 := hC.tin
  obtain ⟨c5, c6⟩ := hC.tin0
  clear hp hx hr hb hC hsl hyl hyf hyl' hia hxl hxf
  generalize s.safeOf ns = kv at *
  generalize s.costN 0 = n at *
  generalize s.costN 1 = t at *
  generalize tot Pig.c s.pigs y = yc at *
  generalize tot Pig.t s.pigs y = yt at *
  generalize tot Pig.P s.pigs y = yP at *
  generalize tot Pig.c s.pigs ns = xc at *
  generalize tot Pig.t s.pigs ns = xt at *
  generalize tot Pig.P s.pigs ns = xP at *
  generalize earlierB ns y = eb at *
  subst c1
  go_enter Try.func7, Try.ntmps7
  go_wp2_with fail
  refine (HR.out _ (by repeat (first | exact Below.refl _ _ | (refine Below.alloc ?_ (by first | omega | (simp; omega) | simp) _) | (refine Below.setCell ?_ (by first | omega | (simp; omega) | simp) _) | refine Below.drew ?_))).mono ?_; rintro e w1 ⟨rfl, hb1⟩; obtain ⟨hc1, hf1⟩ := bcell hb1; have hz1 := hb1.size; (try simp at hz1); have hw1 := ((by repeat (first | assumption | exact Below.refl _ _ | (refine Below.alloc ?_ (by first | omega | (simp; omega) | simp) _) | (refine Below.setCell ?_ (by first | omega | (simp; omega) | simp) _) | refine Below.drew ?_)) : Below w.heap.size w _).trans (hb1.mono (by first | (simp; done) | (simp; omega) | omega)); clear hb1; have p1 : w.heap.size < w1.heap.size := (by omega); go_wp2_with fail
  refine (H1.out _ hw1).mono ?_; rintro e w2 ⟨rfl, hb2⟩; obtain ⟨hc2, hf2⟩ := bcell hb2; have hz2 := hb2.size; (try simp at hz2); have hw2 := ((by repeat (first | assumption | exact Below.refl _ _ | (refine Below.alloc ?_ (by first | omega | (simp; omega) | simp) _) | (refine Below.setCell ?_ (by first | omega | (simp; omega) | simp) _) | refine Below.drew ?_)) : Below w.heap.size w _).trans (hb2.mono (by first | (simp; done) | (simp; omega) | omega)); clear hb2; have p2 : w.heap.size < w2.heap.size := (by omega); go_wp2_with fail
  refine (H2.out _ hw2).mono ?_; rintro e w3 ⟨rfl, hb3⟩; obtain ⟨hc3, hf3⟩ := bcell hb3; have hz3 := hb3.size; (try simp at hz3); have hw3 := ((by repeat (first | assumption | exact Below.refl _ _ | (refine Below.alloc ?_ (by first | omega | (simp; omega) | simp) _) | (refine Below.setCell ?_ (by first | omega | (simp; omega) | simp) _) | refine Below.drew ?_)) : Below w.heap.size w _).trans (hb3.mono (by first | (simp; done) | (simp; omega) | omega)); clear hb3; have p3 : w.heap.size < w3.heap.size := (by omega); go_wp2_with fail
  refine (H3.out _ hw3).mono ?_
  rintro e w4 ⟨la, lc, rfl, hIy, hb4⟩
  obtain ⟨hc4, hf4⟩ := bcell hb4
  have hz4 := hb4.size
  have hw4 := hw3.trans (hb4.mono hw3.size)
  have p4 : w.heap.size < w4.heap.size := by omega
  clear hb4
  have HIY := Lib.hid (fun W (hb : Below w4.heap.size w4 W) => hIy.below hb)
  clear hIy
  go_wp2_with fail
  refine (H4.out _ hw4).mono ?_
  rintro e w5 ⟨fa, fc, rfl, hI, hb5⟩
  obtain ⟨hc5, hf5⟩ := bcell hb5
  have hz5 := hb5.size
  have hw5 := hw4.trans (hb5.mono hw4.size)
  have p5 : w.heap.size < w5.heap.size := by omega
  have v5 := hb5
  clear hb5
  go_wp2_with fail
  refine (H5.out fa fc w5 hI).mono ?_
  rintro e w6 ⟨rfl, hb6⟩
  obtain ⟨hc6, hf6⟩ := bcell hb6
  have hz6 := hb6.size
  have hw6 := hw5.trans (hb6.mono hw5.size)
  have p6 : w.heap.size < w6.heap.size := by omega
  have v6 := v5.trans (hb6.mono v5.size)
  clear hb6
  go_wp2_with fail
  clear hI
  refine (H6.out la lc _ hw6 (HIY.out _ v6)).mono ?_
  rintro e w7 ⟨rfl, hb7⟩
  obtain ⟨hc7, hf7⟩ := bcell hb7
  have hz7 := hb7.size
  have hw7 := hw6.trans (hb7.mono hw6.size)
  have p7 : w.heap.size < w7.heap.size := by omega
  have v7 := v6.trans (hb7.mono v6.size)
  clear hb7
  go_wp2_with fail
  refine (HYc.out la lc _ hw7 (HIY.out _ v7)).mono ?_
  rintro e w8 ⟨rfl, hb8⟩
  obtain ⟨hc8, hf8⟩ := bcell hb8
  have hz8 := hb8.size
  have hw8 := hw7.trans (hb8.mono hw7.size)
  have p8 : w.heap.size < w8.heap.size := by omega
  have v8 := v7.trans (hb8.mono v7.size)
  clear hb8
  go_wp2_with fail
  refine (HYt.out la lc _ hw8 (HIY.out _ v8)).mono ?_
  rintro e w9 ⟨rfl, hb9⟩
  obtain ⟨hc9, hf9⟩ := bcell hb9
  have hz9 := hb9.size
  have hw9 := hw8.trans (hb9.mono hw8.size)
  have p9 : w.heap.size < w9.heap.size := by omega
  have v9 := v8.trans (hb9.mono v8.size)
  clear hb9
  go_wp2_with fail
  refine (H7.out la lc _ hw9 (HIY.out _ v9)).mono ?_
  rintro e w10 ⟨rfl, hb10⟩
  obtain ⟨hc10, hf10⟩ := bcell hb10
  have hz10 := hb10.size
  have hw10 := hw9.trans (hb10.mono hw9.size)
  have p10 : w.heap.size < w10.heap.size := by omega
  have v10 := v9.trans (hb10.mono v9.size)
  clear hb10
  go_wp2_with fail
  refine (G6.out _ hw10).mono ?_
  rintro e w11 ⟨rfl, hb11⟩
  obtain ⟨hc11, hf11⟩ := bcell hb11
  have hz11 := hb11.size
  have hw11 := hw10.trans (hb11.mono hw10.size)
  have p11 : w.heap.size < w11.heap.size := by omega
  have v11 := v10.trans (hb11.mono v10.size)
  clear hb11
  cases ia
  · go_wp2_with fail
    refine (HW.out _).mono ?_; rintro e w12 ⟨rfl, hb12⟩; obtain ⟨hc12, hf12⟩ := bcell hb12; have hz12 := hb12.size; (try simp at hz12); have hw12 := ((by repeat (first | assumption | exact Below.refl _ _ | (refine Below.alloc ?_ (by first | omega | (simp; omega) | simp) _) | (refine Below.setCell ?_ (by first | omega | (simp; omega) | simp) _) | refine Below.drew ?_)) : Below w.heap.size w _).trans (hb12.mono (by first | (simp; done) | (simp; omega) | omega)); clear hb12; have p12 : w.heap.size < w12.heap.size := (by omega); go_wp2_with fail
    go_ret
    exact ⟨rfl, (by repeat (first | assumption | exact Below.refl _ _ | (refine Below.alloc ?_ (by first | omega | (simp; omega) | simp) _) | (refine Below.setCell ?_ (by first | omega | (simp; omega) | simp) _) | refine Below.drew ?_))⟩
  · go_wp2_with fail
    refine (G7.out (by trivial) _ hw11).mono ?_
    rintro e w12 ⟨rfl, hb12⟩
    obtain ⟨hc12, hf12⟩ := bcell hb12
    have hz12 := hb12.size
    have hw12 := hw11.trans (hb12.mono hw11.size)
    have p12 : w.heap.size < w12.heap.size := by omega
    have v12 := v11.trans (hb12.mono v11.size)
    clear hb12
    by_cases hk : kv = 1
    · obtain ⟨j1, j2, j3⟩ := HALL.out (by trivial) hk
      obtain rfl := (HXL.out (by trivial)).symm
      subst hk
      have hsb : ∀ i, w12.cell? ⟨w.heap.size, i, none⟩ = (#[.int .i64 s.P, .int .i64 s.tl, .int .i64 s.th, .int .i64 s.al, .int .i64 s.ah, .int .i64 s.room, .int .i64 s.xl, .int .i64 s.xh, .int .i64 s.yl, .int .i64 s.yh, .slice a len cap] : Array Value)[i]? := fun i => (hc12 _ _ p11).trans ((hc11 _ _ p10).trans ((hc10 _ _ p9).trans ((hc9 _ _ p8).trans ((hc8 _ _ p7).trans ((hc7 _ _ p6).trans ((hc6 _ _ p5).trans ((hc5 _ _ p4).trans ((hc4 _ _ p3).trans ((hc3 _ _ p2).trans ((hc2 _ _ p1).trans ((hc1 _ _ (by simp)).trans (World.cell?_alloc_new w _ _ i))))))))))))
      have HSB := Lib.hid hsb
      obtain ⟨x0, x1, x2, x3, x4, x5, x6, x7, x8, x9, x10⟩ : w12.cell? ⟨w.heap.size, 0, none⟩ = some (.int .i64 s.P) ∧ w12.cell? ⟨w.heap.size, 1, none⟩ = some (.int .i64 s.tl) ∧ w12.cell? ⟨w.heap.size, 2, none⟩ = some (.int .i64 s.th) ∧ w12.cell? ⟨w.heap.size, 3, none⟩ = some (.int .i64 s.al) ∧ w12.cell? ⟨w.heap.size, 4, none⟩ = some (.int .i64 s.ah) ∧ w12.cell? ⟨w.heap.size, 5, none⟩ = some (.int .i64 s.room) ∧ w12.cell? ⟨w.heap.size, 6, none⟩ = some (.int .i64 s.xl) ∧ w12.cell? ⟨w.heap.size, 7, none⟩ = some (.int .i64 s.xh) ∧ w12.cell? ⟨w.heap.size, 8, none⟩ = some (.int .i64 s.yl) ∧ w12.cell? ⟨w.heap.size, 9, none⟩ = some (.int .i64 s.yh) ∧ w12.cell? ⟨w.heap.size, 10, none⟩ = some (.slice a len cap) := ⟨hsb 0, hsb 1, hsb 2, hsb 3, hsb 4, hsb 5, hsb 6, hsb 7, hsb 8, hsb 9, hsb 10⟩
      clear hsb hc1 hf1 hc2 hf2 hc3 hf3 hc4 hf4 hc5 hf5 hc6 hf6 hc7 hf7 hc8 hf8 hc9 hf9 hc10 hf10 hc11 hf11 hc12 hf12 hz1 hz2 hz3 hz4 hz5 hz6 hz7 hz8 hz9 hz10 hz11 hz12 p1 p2 p3 p4 p5 p6 p7 p8 p9 p10 p11
      have HC3 := Lib.hid (fun W (h : Below w12.heap.size w12 W ∧ ∀ b o, b < w12.heap.size → W.cell? ⟨b, o, none⟩ = w12.cell? ⟨b, o, none⟩) => bothS1c (W0 := w12) (GC.out (by trivial) W (hw12.trans (h.1.mono hw12.size))) h)
      have HP3 := Lib.hid (fun W (h : Below w12.heap.size w12 W ∧ ∀ b o, b < w12.heap.size → W.cell? ⟨b, o, none⟩ = w12.cell? ⟨b, o, none⟩) => bothS1c (W0 := w12) (GP.out (by trivial) W (hw12.trans (h.1.mono hw12.size))) h)
      go_upto_region 22 with fail
      go_cut [17, 18] (fun v17 v18 wx => v17 = .int .i64 xc ∧ v18 = .int .i64 xP ∧ Below w12.heap.size w12 wx)
      case first =>
        go_region_held3 (fun w' => Below w12.heap.size w12 w' ∧ ∀ b o, b < w12.heap.size → w'.cell? ⟨b, o, none⟩ = w12.cell? ⟨b, o, none⟩) (first | with_reducible assumption | ((repeat (first | with_reducible refine bothS_drew ?_ | with_reducible refine bothS_alloc _ ?_ | with_reducible refine bothS_set _ _ (by first | omega | (simp; omega) | simp) ?_)); first | with_reducible assumption | with_reducible exact Hid.out (by assumption) | with_reducible exact ⟨Below.refl _ _, fun _ _ _ => rfl⟩)) (first | (go_at_call 58; with_reducible refine (HC3.out _ ?_).mono ?_; (first | with_reducible assumption | ((repeat (first | with_reducible refine bothS_drew ?_ | with_reducible refine bothS_alloc _ ?_ | with_reducible refine bothS_set _ _ (by first | omega | (simp; omega) | simp) ?_)); first | with_reducible assumption | with_reducible exact Hid.out (by assumption) | with_reducible exact ⟨Below.refl _ _, fun _ _ _ => rfl⟩)); rintro e w' ⟨rfl, k, k1, k2, k3⟩; have HK := Lib.hid k; (try simp at k3); (try have k6 := Nat.lt_of_succ_le k3); (try have k7 := Nat.lt_of_succ_lt k6); (try have k8 := Nat.lt_of_succ_lt k3)) | (go_at_call 50; with_reducible refine (HP3.out _ ?_).mono ?_; (first | with_reducible assumption | ((repeat (first | with_reducible refine bothS_drew ?_ | with_reducible refine bothS_alloc _ ?_ | with_reducible refine bothS_set _ _ (by first | omega | (simp; omega) | simp) ?_)); first | with_reducible assumption | with_reducible exact Hid.out (by assumption) | with_reducible exact ⟨Below.refl _ _, fun _ _ _ => rfl⟩)); rintro e w' ⟨rfl, k, k1, k2, k3⟩; have HK := Lib.hid k; (try simp at k3); (try have k6 := Nat.lt_of_succ_le k3); (try have k7 := Nat.lt_of_succ_lt k6); (try have k8 := Nat.lt_of_succ_lt k3)))
        all_goals (go_wp2_with fail; go_meet; exact ⟨rfl, rfl, And.left (by assumption)⟩)
      case rest =>
        obtain ⟨rfl, rfl, hB13⟩ := hcut
        obtain ⟨w13, rfl⟩ : ∃ w13 : World, w13 = wc := ⟨_, rfl⟩
        have hw13 := hw12.trans (hB13.mono hw12.size)
        have v13 := v12.trans (hB13.mono v12.size)
        clear x0 x1 x2 x3 x4 x5 x6 x7 x8 x9 x10
        have hsb : ∀ i, w13.cell? ⟨w.heap.size, i, none⟩ = (#[.int .i64 s.P, .int .i64 s.tl, .int .i64 s.th, .int .i64 s.al, .int .i64 s.ah, .int .i64 s.room, .int .i64 s.xl, .int .i64 s.xh, .int .i64 s.yl, .int .i64 s.yh, .slice a len cap] : Array Value)[i]? := fun i => (hB13.cell (p := ⟨w.heap.size, i, none⟩) p12).trans (HSB.out i)
        obtain ⟨x0, x1, x2, x3, x4, x5, x6, x7, x8, x9, x10⟩ : w13.cell? ⟨w.heap.size, 0, none⟩ = some (.int .i64 s.P) ∧ w13.cell? ⟨w.heap.size, 1, none⟩ = some (.int .i64 s.tl) ∧ w13.cell? ⟨w.heap.size, 2, none⟩ = some (.int .i64 s.th) ∧ w13.cell? ⟨w.heap.size, 3, none⟩ = some (.int .i64 s.al) ∧ w13.cell? ⟨w.heap.size, 4, none⟩ = some (.int .i64 s.ah) ∧ w13.cell? ⟨w.heap.size, 5, none⟩ = some (.int .i64 s.room) ∧ w13.cell? ⟨w.heap.size, 6, none⟩ = some (.int .i64 s.xl) ∧ w13.cell? ⟨w.heap.size, 7, none⟩ = some (.int .i64 s.xh) ∧ w13.cell? ⟨w.heap.size, 8, none⟩ = some (.int .i64 s.yl) ∧ w13.cell? ⟨w.heap.size, 9, none⟩ = some (.int .i64 s.yh) ∧ w13.cell? ⟨w.heap.size, 10, none⟩ = some (.slice a len cap) := ⟨hsb 0, hsb 1, hsb 2, hsb 3, hsb 4, hsb 5, hsb 6, hsb 7, hsb 8, hsb 9, hsb 10⟩
        have HSB3 := Lib.hid hsb
        have p13 : w.heap.size < w13.heap.size := by have := hB13.size; omega
        clear hsb
        have q1 : ¬ xc < n := by omega
        have q2 : ¬ xt < t := by omega
        go_wp2_with fail
        refine (GT.out (by trivial) _ hw13).mono ?_
        rintro e w14 ⟨rfl, hb14⟩
        have hw14 := hw13.trans (hb14.mono hw13.size)
        have v14 := v13.trans (hb14.mono v13.size)
        clear x0 x1 x2 x3 x4 x5 x6 x7 x8 x9 x10
        have hsb : ∀ i, w14.cell? ⟨w.heap.size, i, none⟩ = (#[.int .i64 s.P, .int .i64 s.tl, .int .i64 s.th, .int .i64 s.al, .int .i64 s.ah, .int .i64 s.room, .int .i64 s.xl, .int .i64 s.xh, .int .i64 s.yl, .int .i64 s.yh, .slice a len cap] : Array Value)[i]? := fun i => (hb14.cell (p := ⟨w.heap.size, i, none⟩) p13).trans (HSB3.out i)
        obtain ⟨x0, x1, x2, x3, x4, x5, x6, x7, x8, x9, x10⟩ : w14.cell? ⟨w.heap.size, 0, none⟩ = some (.int .i64 s.P) ∧ w14.cell? ⟨w.heap.size, 1, none⟩ = some (.int .i64 s.tl) ∧ w14.cell? ⟨w.heap.size, 2, none⟩ = some (.int .i64 s.th) ∧ w14.cell? ⟨w.heap.size, 3, none⟩ = some (.int .i64 s.al) ∧ w14.cell? ⟨w.heap.size, 4, none⟩ = some (.int .i64 s.ah) ∧ w14.cell? ⟨w.heap.size, 5, none⟩ = some (.int .i64 s.room) ∧ w14.cell? ⟨w.heap.size, 6, none⟩ = some (.int .i64 s.xl) ∧ w14.cell? ⟨w.heap.size, 7, none⟩ = some (.int .i64 s.xh) ∧ w14.cell? ⟨w.heap.size, 8, none⟩ = some (.int .i64 s.yl) ∧ w14.cell? ⟨w.heap.size, 9, none⟩ = some (.int .i64 s.yh) ∧ w14.cell? ⟨w.heap.size, 10, none⟩ = some (.slice a len cap) := ⟨hsb 0, hsb 1, hsb 2, hsb 3, hsb 4, hsb 5, hsb 6, hsb 7, hsb 8, hsb 9, hsb 10⟩
        clear hsb hb14
        go_wp2_with fail
        refine (HYP.out la lc _ hw14 (HIY.out _ v14)).mono ?_
        rintro e w15 ⟨rfl, hb15⟩
        have hw15 := hw14.trans (hb15.mono hw14.size)
        have v15 := v14.trans (hb15.mono v14.size)
        clear hb15
        by_cases hA : n < xc
        · go_wp2_with fail
          refine (HW.out _).mono ?_
          rintro e w17 ⟨rfl, hb17⟩
          have hw17 := hw15.trans (hb17.mono hw15.size)
          clear hb17
          go_wp2_with fail
          go_ret
          exact ⟨rfl, hw17⟩
        · by_cases hB : yP < xP
          · go_wp2_with fail
            refine (HW.out _).mono ?_
            rintro e w17 ⟨rfl, hb17⟩
            have hw17 := hw15.trans (hb17.mono hw15.size)
            clear hb17
            go_wp2_with fail
            go_ret
            exact ⟨rfl, hw17⟩
          · obtain ⟨he, heb⟩ : xP = yP ∧ eb = false := by
              rcases j3 with h | h | h
              · exact absurd h hA
              · exact absurd h hB
              · exact h
            subst he
            subst heb
            go_wp2_with fail
            refine (GE.out (by trivial) la lc _ hw15 (HIY.out _ v15)).mono ?_
            rintro e w16 ⟨rfl, hb16⟩
            have hw16 := hw15.trans (hb16.mono hw15.size)
            clear hb16
            go_wp2_with fail
            refine (HW.out _).mono ?_
            rintro e w17 ⟨rfl, hb17⟩
            have hw17 := hw16.trans (hb17.mono hw16.size)
            clear hb17
            go_wp2_with fail
            go_ret
            exact ⟨rfl, hw17⟩
    · have e1 : (kv == 1) = false := by simpa using hk
      have e2 : (kv != 1) = true := by simpa using hk
      clear hk
      go_wp2_with fail
      refine (HW.out _).mono ?_; rintro e w13 ⟨rfl, hb13⟩; obtain ⟨hc13, hf13⟩ := bcell hb13; have hz13 := hb13.size; (try simp at hz13); have hw13 := ((by repeat (first | assumption | exact Below.refl _ _ | (refine Below.alloc ?_ (by first | omega | (simp; omega) | simp) _) | (refine Below.setCell ?_ (by first | omega | (simp; omega) | simp) _) | refine Below.drew ?_)) : Below w.heap.size w _).trans (hb13.mono (by first | (simp; done) | (simp; omega) | omega)); clear hb13; have p13 : w.heap.size < w13.heap.size := (by omega); go_wp2_with fail
      go_ret
      exact ⟨rfl, (by repeat (first | assumption | exact Below.refl _ _ | (refine Below.alloc ?_ (by first | omega | (simp; omega) | simp) _) | (refine Below.setCell ?_ (by first | omega | (simp; omega) | simp) _) | refine Below.drew ?_))⟩

theorem metalCheapest_any (s : Shop) (a : Option Addr) (len cap : Nat) (x : Option Addr) (xlen xcap : Nat) (ns : List Int) (w : World) (hp : PigsAt w a len s.pigs) (hx : IntsAt w x xlen ns) :
    Calls Try.prog 7 #[.agg #[.int .i64 s.P, .int .i64 s.tl, .int .i64 s.th, .int .i64 s.al, .int .i64 s.ah, .int .i64 s.room, .int .i64 s.xl, .int .i64 s.xh, .int .i64 s.yl, .int .i64 s.yh, .slice a len cap], .slice x xlen xcap] w fun e w' => e = .returned (.bool true) ∧ Below w.heap.size w w' := by
  rcases hr : s.ok with - | -
  · exact cheapest_bad s a len cap x xlen xcap w hp hr
  rcases hb : s.best 2 with - | ⟨y, m⟩
  · exact cheapest_none s a len cap x xlen xcap ns w hp hx hr hb
  · exact cheapest_some s a len cap x xlen xcap ns w hp hx hr y m hb
end Go.Proofs.Ytajabapcmpmboaa
