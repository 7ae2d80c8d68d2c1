/- MetalMixed, where all is valid. -/
import Derived.Test.YtnlgchgpnfkjeaaPC
import Derived.Test.YtnlgchgpnfkjeaaPE
import Derived.Test.YtnlgchgpnfkjeaaMO
namespace Go.Proofs.Ytnlgchgpnfkjeaa
set_option linter.unusedVariables false
set_option linter.unusedSimpArgs false
open Go.RowKit

/-- Copy, in plain words. -/
theorem Copy_law (s : Shop) (a : Option Addr) (len cap : Nat) (w : World) (hp : PigsAt w a len s.pigs) (hl : len ≤ 1000) :
    Calls Try.prog 17 #[.agg #[.int .i64 s.P, .int .i64 s.tl, .int .i64 s.th, .int .i64 s.al, .int .i64 s.ah, .int .i64 s.room, .int .i64 s.xl, .int .i64 s.xh, .int .i64 s.yl, .int .i64 s.yh, .slice a len cap]] w fun e w' => (∃ a' cap', e = .returned (.agg #[.int .i64 s.P, .int .i64 s.tl, .int .i64 s.th, .int .i64 s.al, .int .i64 s.ah, .int .i64 s.room, .int .i64 s.xl, .int .i64 s.xh, .int .i64 s.yl, .int .i64 s.yh, .slice a' len cap']) ∧ PigsAt w' a' len s.pigs ∧ (0 < len → ∀ b o, a' = some ⟨b, o, none⟩ → w.heap.size ≤ b ∧ b < w'.heap.size)) ∧ Below w.heap.size w w' := by
  refine (Copy_any s a len cap w hp hl).mono fun e w' ⟨hb, a', cap', he, ho⟩ => ⟨⟨a', cap', he, ?_⟩, hb⟩
  obtain ⟨h1, h2⟩ := pigs_own ho hp.2.1
  refine ⟨h1, fun h0 b o e => ⟨h2 h0 b o e, ?_⟩⟩
  obtain ⟨b', o', e', hb', -⟩ := h1.2.2 h0
  rw [e] at e'
  cases e'
  exact hb'
theorem bothS3 {P : Program} {f : FuncId} {args : Array Value} {W0 w1 : World} {R : Ending → World → Prop} (h : Calls P f args w1 fun e w' => R e w' ∧ Below w1.heap.size w1 w')
    (h1 : Below W0.heap.size W0 w1 ∧ ∀ b o, b < W0.heap.size → w1.cell? ⟨b, o, none⟩ = W0.cell? ⟨b, o, none⟩) :
    Calls P f args w1 fun e w' => R e w' ∧ (Below W0.heap.size W0 w' ∧ ∀ b o, b < W0.heap.size → w'.cell? ⟨b, o, none⟩ = W0.cell? ⟨b, o, none⟩) ∧ Below w1.heap.size w1 w' :=
  h.mono fun e w' ⟨he, hb⟩ => ⟨he, bothS_step h1 (hb.mono h1.1.size), hb⟩
/-- A box of the call's own: its cells, unfrozen. -/
def Box (w : World) (g : Nat) (cs : Array Value) : Prop := (∀ i v, cs[i]? = some v → w.cell? ⟨g, i, none⟩ = some v) ∧ (∀ i, w.frozen? ⟨g, i, none⟩ = false) ∧ g < w.heap.size
theorem Box.new (w : World) (b : Nat) (hb : b = w.heap.size) (cs : Array Value) (T : TypeId) : Box (w.alloc (.cells cs T)) b cs := by
  subst hb
  exact ⟨fun i v h => (World.cell?_alloc_new w _ _ i).trans h, fun i => frozen_new w cs T i, by simp⟩
theorem Box.below {w w' : World} {g : Nat} {cs : Array Value} (h : Box w g cs) (hb : Below w.heap.size w w') : Box w' g cs :=
  ⟨fun i v hi => (hb.cell (p := ⟨g, i, none⟩) h.2.2).trans (h.1 i v hi), fun i => (hb.frozen (p := ⟨g, i, none⟩) h.2.2).trans (h.2.1 i), Nat.lt_of_lt_of_le h.2.2 hb.size⟩
theorem Box.alloc {w : World} {g : Nat} {cs : Array Value} (o : Obj) (h : Box w g cs) : Box (w.alloc o) g cs := h.below ((Below.refl _ _).alloc (Nat.le_refl _) o)
theorem Box.drew {w : World} {g : Nat} {cs : Array Value} (h : Box w g cs) : Box w.drew g cs := h.below (Below.refl _ _).drew
theorem Box.kept {w w' : World} {g : Nat} {cs : Array Value} {row : Option Nat} (h : Box w g cs) (hg : w.grownBy w' row) (hne : some g ≠ row) : Box w' g cs := by
  have hk := hg.block g h.2.2 hne
  exact ⟨fun i v hi => (World.cell?_of_block (a := ⟨g, i, none⟩) hk).trans (h.1 i v hi), fun i => (World.frozen?_of_block (a := ⟨g, i, none⟩) hk).trans (h.2.1 i), Nat.lt_of_lt_of_le h.2.2 hg.size⟩
theorem Box.set {w : World} {g : Nat} {cs : Array Value} (h : Box w g cs) (k : Nat) (v : Value) (hk : k < cs.size) : Box (w.setCell ⟨g, k, none⟩ v) g (cs.setIfInBounds k v) := by
  refine ⟨fun i u hi => ?_, fun i => ?_, by simp; exact h.2.2⟩
  · by_cases e : k = i
    · subst e
      have := h.1 k _ (Array.getElem?_eq_getElem hk)
      rw [set_same this, ← hi]
      simp [hk]
    · rw [set_other (by simp), ← hi]
      have h2 : cs[i]? = some u := by rw [← hi]; simp [Array.getElem?_setIfInBounds_ne e]
      rw [h.1 i u h2, hi]
  · have := h.2.1 i
    simpa [World.frozen?_setCell] using this
theorem Box.set11 {w : World} {g : Nat} {u0 u1 u2 u3 u4 u5 u6 u7 u8 u9 u10 : Value} (v0 v1 v2 v3 v4 v5 v6 v7 v8 v9 v10 : Value) (h : Box w g #[u0, u1, u2, u3, u4, u5, u6, u7, u8, u9, u10]) :
    Box (((((((((((w.setCell ⟨g, 0, none⟩ v0).setCell ⟨g, 1, none⟩ v1).setCell ⟨g, 2, none⟩ v2).setCell ⟨g, 3, none⟩ v3).setCell ⟨g, 4, none⟩ v4).setCell ⟨g, 5, none⟩ v5).setCell ⟨g, 6, none⟩ v6).setCell ⟨g, 7, none⟩ v7).setCell ⟨g, 8, none⟩ v8).setCell ⟨g, 9, none⟩ v9).setCell ⟨g, 10, none⟩ v10) g #[v0, v1, v2, v3, v4, v5, v6, v7, v8, v9, v10] := by
  have k0 := h.set 0 v0 (by simp)
  simp only [List.setIfInBounds_toArray, List.set_cons_zero, List.set_cons_succ] at k0
  have k1 := k0.set 1 v1 (by simp)
  simp only [List.setIfInBounds_toArray, List.set_cons_zero, List.set_cons_succ] at k1
  have k2 := k1.set 2 v2 (by simp)
  simp only [List.setIfInBounds_toArray, List.set_cons_zero, List.set_cons_succ] at k2
  have k3 := k2.set 3 v3 (by simp)
  simp only [List.setIfInBounds_toArray, List.set_cons_zero, List.set_cons_succ] at k3
  have k4 := k3.set 4 v4 (by simp)
  simp only [List.setIfInBounds_toArray, List.set_cons_zero, List.set_cons_succ] at k4
  have k5 := k4.set 5 v5 (by simp)
  simp only [List.setIfInBounds_toArray, List.set_cons_zero, List.set_cons_succ] at k5
  have k6 := k5.set 6 v6 (by simp)
  simp only [List.setIfInBounds_toArray, List.set_cons_zero, List.set_cons_succ] at k6
  have k7 := k6.set 7 v7 (by simp)
  simp only [List.setIfInBounds_toArray, List.set_cons_zero, List.set_cons_succ] at k7
  have k8 := k7.set 8 v8 (by simp)
  simp only [List.setIfInBounds_toArray, List.set_cons_zero, List.set_cons_succ] at k8
  have k9 := k8.set 9 v9 (by simp)
  simp only [List.setIfInBounds_toArray, List.set_cons_zero, List.set_cons_succ] at k9
  have k10 := k9.set 10 v10 (by simp)
  simp only [List.setIfInBounds_toArray, List.set_cons_zero, List.set_cons_succ] at k10
  exact k10
theorem Box.set5 {w : World} {g : Nat} {u0 u1 u2 u3 u4 u5 u6 u7 u8 u9 u10 : Value} (v0 v1 v2 v3 v4 : Value) (h : Box w g #[u0, u1, u2, u3, u4, u5, u6, u7, u8, u9, u10]) :
    Box (((((w.setCell ⟨g, 0, none⟩ v0).setCell ⟨g, 1, none⟩ v1).setCell ⟨g, 2, none⟩ v2).setCell ⟨g, 3, none⟩ v3).setCell ⟨g, 4, none⟩ v4) g #[v0, v1, v2, v3, v4, u5, u6, u7, u8, u9, u10] := by
  have k0 := h.set 0 v0 (by simp)
  simp only [List.setIfInBounds_toArray, List.set_cons_zero, List.set_cons_succ] at k0
  have k1 := k0.set 1 v1 (by simp)
  simp only [List.setIfInBounds_toArray, List.set_cons_zero, List.set_cons_succ] at k1
  have k2 := k1.set 2 v2 (by simp)
  simp only [List.setIfInBounds_toArray, List.set_cons_zero, List.set_cons_succ] at k2
  have k3 := k2.set 3 v3 (by simp)
  simp only [List.setIfInBounds_toArray, List.set_cons_zero, List.set_cons_succ] at k3
  have k4 := k3.set 4 v4 (by simp)
  simp only [List.setIfInBounds_toArray, List.set_cons_zero, List.set_cons_succ] at k4
  exact k4
theorem PigsAt.alloc {w : World} {a : Option Addr} {len : Nat} {ps : List Pig} (o : Obj) (h : PigsAt w a len ps) : PigsAt (w.alloc o) a len ps := h.below ((Below.refl _ _).alloc (Nat.le_refl _) o)
theorem PigsAt.drew {w : World} {a : Option Addr} {len : Nat} {ps : List Pig} (h : PigsAt w a len ps) : PigsAt w.drew a len ps := h.below (Below.refl _ _).drew
theorem Box.far {w : World} {g h : Nat} {cs : Array Value} (i : Nat) (v : Value) (hb : Box w g cs) (hne : g ≠ h) : Box (w.setCell ⟨h, i, none⟩ v) g cs := hb.kept (gb_setCell w h i v) (by simpa using hne)
/-- The shop with the metal of an addition in its pot. -/
def Shop.poured (s : Shop) (ns : List Int) : Shop := { s with P := s.P + tot Pig.P s.pigs ns, tl := s.tl + tot Pig.t s.pigs ns, th := s.th + tot Pig.t s.pigs ns, al := s.al + tot Pig.a s.pigs ns, ah := s.ah + tot Pig.a s.pigs ns }
set_option maxRecDepth 100000 in
set_option maxHeartbeats 32000000 in
theorem mixed_ok (s : Shop) (a : Option Addr) (len cap : Nat) (q b1 b2 c1 c2 : Int) (x : Option Addr) (xlen xcap : Nat) (ns : List Int) (w : World) (hp : PigsAt w a len s.pigs) (hx : IntsAt w x xlen ns) (hr : s.ok = true) (hpo : potB q b1 b2 c1 c2 = true) (hn : s.isAdd ns = true) (hmix : s.mixCode q b1 b2 c1 c2 = 0) :
    Calls Try.prog 12 #[.agg #[.int .i64 s.P, .int .i64 s.tl, .int .i64 s.th, .int .i64 s.al, .int .i64 s.ah, .int .i64 s.room, .int .i64 s.xl, .int .i64 s.xh, .int .i64 s.yl, .int .i64 s.yh, .slice a len cap], .agg #[.int .i64 q, .int .i64 b1, .int .i64 b2, .int .i64 c1, .int .i64 c2], .slice x xlen xcap] w fun e w' => e = .returned (.bool true) ∧ Below w.heap.size w w' := by
  have HR := Lib.hid (fun w1 (hb : Below w.heap.size w w1) => ready_is s a len cap true hr w1 (hp.below hb))
  have H1 := Lib.hid (fun w1 => IsPot_below q b1 b2 c1 c2 true hpo w1)
  have H2 := Lib.hid (fun w1 (hb : Below w.heap.size w w1) => hn ▸ isAddition_law s a len cap x xlen xcap ns w1 (hp.below hb) (hx.below hb) hr)
  have HW := Lib.hid (fun w1 => works_any w1)
  have hl4 : len ≤ 4 := by have := Shop.ok_bd hr; have := hp.1; omega
  have HC := Lib.hid (fun w1 (hb : Below w.heap.size w w1) => Copy_law s a len cap w1 (hp.below hb) (by omega))
  have HM := fun w1 (hb : Below w.heap.size w w1) => Mix_ok s a len cap q b1 b2 c1 c2 w1 (hp.below hb) hr 0 hmix
  simp only [if_true, show ¬ ((1 : Int) = 0) by decide, if_false] at HM
  replace HM := Lib.hid HM
  have hxl : xlen ≤ 1000 := by have h := Shop.isAdd_len hn; have := hx.1; have := hp.1; omega
  have hcode : s.code ns = 0 := by simp [Shop.code, hr, hn]
  have HD := fun x xcap w1 (hb : Below w.heap.size w w1) (hx : IntsAt w1 x xlen ns) => After_yes s a len cap x xlen xcap ns w1 (hp.below hb) hx hcode
  unfold potCells at HD
  replace HD := Lib.hid HD
  have HX := Lib.hid (fun w1 (hb : Below w.heap.size w w1) => hx.below hb)
  have hbd := Shop.ok_bd hr
  have hq : 0 ≤ q ∧ q ≤ 400 := by simp [potB, btw] at hpo; omega
  obtain ⟨q1, q2⟩ := hq
  have hsum2 : decide (s.P + q ≤ s.room) = (0 == (0 : Int)) := by
    have hm2 := hmix
    simp only [Shop.mixCode, hr, hpo, Bool.true_and, if_true] at hm2
    cases hd : decide (s.P + q ≤ s.room) <;> rw [hd] at hm2 <;> first | rfl | (simp at hm2; done)
  obtain ⟨ra, hra⟩ : ∃ ra, (s.mixed q b1 b2 c1 c2).ok = ra := ⟨_, rfl⟩
  obtain ⟨rb, hrb⟩ : ∃ rb, (s.poured ns).ok = rb := ⟨_, rfl⟩
  obtain ⟨ia, hia⟩ : ∃ ia, (s.mixed q b1 b2 c1 c2).isAdd ns = ia := ⟨_, rfl⟩
  have HKa := Lib.hid (fun a' cap' W (hp' : PigsAt W a' len s.pigs) => ready_is (s.mixed q b1 b2 c1 c2) a' len cap' ra hra W hp')
  have HKb := Lib.hid (fun a' cap' W (hp' : PigsAt W a' len s.pigs) => ready_is (s.poured ns) a' len cap' rb hrb W hp')
  have HAa := Lib.hid (fun (h : ra = true) a' cap' W (hb : Below w.heap.size w W) (hp' : PigsAt W a' len s.pigs) => hia ▸ isAddition_law (s.mixed q b1 b2 c1 c2) a' len cap' x xlen xcap ns W hp' (hx.below hb) (hra.trans h))
  obtain ⟨e1, he1⟩ : ∃ e1, s.P + q + tot Pig.P s.pigs ns = e1 := ⟨_, rfl⟩
  obtain ⟨e2, he2⟩ : ∃ e2, s.tl + b1 + tot Pig.t s.pigs ns = e2 := ⟨_, rfl⟩
  obtain ⟨e3, he3⟩ : ∃ e3, s.th + b2 + tot Pig.t s.pigs ns = e3 := ⟨_, rfl⟩
  obtain ⟨e4, he4⟩ : ∃ e4, s.al + c1 + tot Pig.a s.pigs ns = e4 := ⟨_, rfl⟩
  obtain ⟨e5, he5⟩ : ∃ e5, s.ah + c2 + tot Pig.a s.pigs ns = e5 := ⟨_, rfl⟩
  have HD2 := fun (h1 : ra = true) (h2 : ia = true) x' xc' a' cap' W (hp' : PigsAt W a' len s.pigs) (hx' : IntsAt W x' xlen ns) => After_yes (s.mixed q b1 b2 c1 c2) a' len cap' x' xlen xc' ns W hp' hx' (by simp [Shop.code, hra, hia, h1, h2])
  unfold potCells at HD2
  dsimp only [Shop.mixed] at HD2
  simp only [he1, he2, he3, he4, he5] at HD2
  replace HD2 := Lib.hid HD2
  have HM2 := fun (h1 : rb = true) (h2 : ia = true) a' cap' W (hp' : PigsAt W a' len s.pigs) => Mix_ok (s.poured ns) a' len cap' q b1 b2 c1 c2 W hp' (hrb.trans h1) 0 (by
    have h3 := mixed_add s q b1 b2 c1 c2 ns (hia.trans h2)
    simp [Shop.mixCode, hrb, h1, hpo]
    simpa [Shop.poured] using h3)
  dsimp only [Shop.poured] at HM2
  simp only [if_true, show s.P + tot Pig.P s.pigs ns + q = e1 by omega, show s.tl + tot Pig.t s.pigs ns + b1 = e2 by omega, show s.th + tot Pig.t s.pigs ns + b2 = e3 by omega, show s.al + tot Pig.a s.pigs ns + c1 = e4 by omega, show s.ah + tot Pig.a s.pigs ns + c2 = e5 by omega] at HM2
  replace HM2 := Lib.hid HM2
  dsimp only [Shop.mixed, Shop.poured] at HKa HKb HAa
  have P1 := hbd.1.1
  have P2 := hbd.1.2
  simp at hsum2
  clear hp hx hr hpo hn hmix hcode hbd hra hrb hia he1 he2 he3 he4 he5
  generalize s.P + tot Pig.P s.pigs ns = n1 at *
  generalize s.tl + tot Pig.t s.pigs ns = n2 at *
  generalize s.th + tot Pig.t s.pigs ns = n3 at *
  generalize s.al + tot Pig.a s.pigs ns = n4 at *
  generalize s.ah + tot Pig.a s.pigs ns = n5 at *
  go_enter Try.func12, Try.ntmps12
  go_wp2_with fail
  refine (HR.out _ (by repeat (first | exact Below.refl _ _ | (refine Below.alloc ?_ (by first | omega | (simp; omega) | simp) _) | (refine Below.setCell ?_ (by first | omega | (simp; omega) | simp) _) | refine Below.drew ?_))).mono ?_; rintro e w1 ⟨rfl, hb1⟩; obtain ⟨hc1, hf1⟩ := bcell hb1; have hz1 := hb1.size; (try simp at hz1); have hw1 := ((by repeat (first | assumption | exact Below.refl _ _ | (refine Below.alloc ?_ (by first | omega | (simp; omega) | simp) _) | (refine Below.setCell ?_ (by first | omega | (simp; omega) | simp) _) | refine Below.drew ?_)) : Below w.heap.size w _).trans (hb1.mono (by first | (simp; done) | (simp; omega) | omega)); clear hb1; have p1 : w.heap.size < w1.heap.size := (by omega); have r1 : w.heap.size + 1 < w1.heap.size := (by omega); go_wp2_with fail
  refine (H1.out _).mono ?_; rintro e w2 ⟨rfl, hb2⟩; obtain ⟨hc2, hf2⟩ := bcell hb2; have hz2 := hb2.size; (try simp at hz2); have hw2 := ((by repeat (first | assumption | exact Below.refl _ _ | (refine Below.alloc ?_ (by first | omega | (simp; omega) | simp) _) | (refine Below.setCell ?_ (by first | omega | (simp; omega) | simp) _) | refine Below.drew ?_)) : Below w.heap.size w _).trans (hb2.mono (by first | (simp; done) | (simp; omega) | omega)); clear hb2; have p2 : w.heap.size < w2.heap.size := (by omega); have r2 : w.heap.size + 1 < w2.heap.size := (by omega); go_wp2_with fail
  refine (H2.out _ hw2).mono ?_
  rintro e w3 ⟨rfl, hb3⟩
  obtain ⟨hc3, hf3⟩ := bcell hb3
  have hz3 := hb3.size
  have hw3 := hw2.trans (hb3.mono hw2.size)
  have p3 : w.heap.size < w3.heap.size := by omega
  have r3 : w.heap.size + 1 < w3.heap.size := by omega
  have hbx : ∀ i, w3.cell? ⟨w.heap.size, i, none⟩ = (#[.int .i64 s.P, .int .i64 s.tl, .int .i64 s.th, .int .i64 s.al, .int .i64 s.ah, .int .i64 s.room, .int .i64 s.xl, .int .i64 s.xh, .int .i64 s.yl, .int .i64 s.yh, .slice a len cap] : Array Value)[i]? := fun i => (hc3 _ _ p2).trans ((hc2 _ _ p1).trans ((hc1 _ _ (by simp; omega)).trans (by go_simp)))
  have hbo : ∀ i, w3.cell? ⟨w.heap.size + 1, i, none⟩ = (#[.int .i64 q, .int .i64 b1, .int .i64 b2, .int .i64 c1, .int .i64 c2] : Array Value)[i]? := fun i => (hc3 _ _ r2).trans ((hc2 _ _ r1).trans ((hc1 _ _ (by simp)).trans (by go_simp)))
  obtain ⟨x0, x1, x2, x3, x4, x5, x6, x7, x8, x9, x10⟩ : w3.cell? ⟨w.heap.size, 0, none⟩ = some (.int .i64 s.P) ∧ w3.cell? ⟨w.heap.size, 1, none⟩ = some (.int .i64 s.tl) ∧ w3.cell? ⟨w.heap.size, 2, none⟩ = some (.int .i64 s.th) ∧ w3.cell? ⟨w.heap.size, 3, none⟩ = some (.int .i64 s.al) ∧ w3.cell? ⟨w.heap.size, 4, none⟩ = some (.int .i64 s.ah) ∧ w3.cell? ⟨w.heap.size, 5, none⟩ = some (.int .i64 s.room) ∧ w3.cell? ⟨w.heap.size, 6, none⟩ = some (.int .i64 s.xl) ∧ w3.cell? ⟨w.heap.size, 7, none⟩ = some (.int .i64 s.xh) ∧ w3.cell? ⟨w.heap.size, 8, none⟩ = some (.int .i64 s.yl) ∧ w3.cell? ⟨w.heap.size, 9, none⟩ = some (.int .i64 s.yh) ∧ w3.cell? ⟨w.heap.size, 10, none⟩ = some (.slice a len cap) := ⟨hbx 0, hbx 1, hbx 2, hbx 3, hbx 4, hbx 5, hbx 6, hbx 7, hbx 8, hbx 9, hbx 10⟩
  have HBX := Lib.hid hbx
  have HBO := Lib.hid hbo
  clear hb3 hbx hbo hc1 hf1 hc2 hf2 hc3 hf3
  have HC3 := Lib.hid (fun W (hb : Below w3.heap.size w3 W ∧ ∀ b o, b < w3.heap.size → W.cell? ⟨b, o, none⟩ = w3.cell? ⟨b, o, none⟩) => bothS3 (W0 := w3) (HC.out W (hw3.trans (hb.1.mono hw3.size))) hb)
  have tok1 : True := trivial
  go_upto_region 3 with fail
  go_cut [7, 8] (fun v7 v8 wx => ∃ (g h : Nat) (a1 : Option Addr) (cap1 : Nat) (a2 : Option Addr) (cap2 : Nat), v7 = .pointer (some ⟨g, 0, none⟩) ∧ v8 = .pointer (some ⟨h, 0, none⟩) ∧ Box wx g #[.int .i64 s.P, .int .i64 s.tl, .int .i64 s.th, .int .i64 s.al, .int .i64 s.ah, .int .i64 s.room, .int .i64 s.xl, .int .i64 s.xh, .int .i64 s.yl, .int .i64 s.yh, .slice a1 len cap1] ∧ Box wx h #[.int .i64 s.P, .int .i64 s.tl, .int .i64 s.th, .int .i64 s.al, .int .i64 s.ah, .int .i64 s.room, .int .i64 s.xl, .int .i64 s.xh, .int .i64 s.yl, .int .i64 s.yh, .slice a2 len cap2] ∧ g ≠ h ∧ (w3.heap.size ≤ g ∧ w3.heap.size ≤ h) ∧ (0 < len → ∀ b o, a1 = some ⟨b, o, none⟩ → b ≠ g ∧ b ≠ h) ∧ (0 < len → ∀ b o, a2 = some ⟨b, o, none⟩ → b ≠ g ∧ b ≠ h) ∧ PigsAt wx a1 len s.pigs ∧ PigsAt wx a2 len s.pigs ∧ Below w3.heap.size w3 wx)
  case first =>
    go_region_held3 (fun w' => Below w3.heap.size w3 w' ∧ ∀ b o, b < w3.heap.size → w'.cell? ⟨b, o, none⟩ = w3.cell? ⟨b, o, none⟩) (first | with_reducible assumption | ((repeat (first | with_reducible refine bothS_drew ?_ | with_reducible refine bothS_alloc _ ?_ | with_reducible refine bothS_set _ _ (by first | omega | (simp; omega) | simp) ?_)); first | with_reducible assumption | with_reducible exact Hid.out (by assumption) | with_reducible exact ⟨Below.refl _ _, fun _ _ _ => rfl⟩))
      (first
        | (have _t := tok1; go_at_call 17; (with_reducible refine (HC3.out _ ?_).mono ?_); (· with_reducible assumption); rintro e u1 ⟨⟨a1, cap1, rfl, hP, hfar⟩, k, kb⟩; obtain ⟨k1, k2⟩ := bcell kb; have k3 := kb.size; have HP1 := Lib.hid hP; have HF1 := Lib.hid hfar; clear hP hfar kb tok1 _t; (try simp at k3); (try have k6 := Nat.lt_of_succ_le k3); (try have k7 := Nat.lt_of_succ_lt k6); (try have k8 := Nat.lt_of_succ_lt k7); have sB1 : w3.heap.size ≤ u1.heap.size := (by omega); (try have sB2 : w3.heap.size < u1.heap.size := (by omega)); (try have sB3 : w3.heap.size + 1 < u1.heap.size := (by omega)))
        | (go_at_call 17; (with_reducible refine (HC3.out _ ?_).mono ?_); (· with_reducible assumption); rintro e u2 ⟨⟨a2, cap2, rfl, hP, hfar⟩, k, kb⟩; obtain ⟨k1, k2⟩ := bcell kb; have k3 := kb.size; have HPo := Lib.hid (HP1.out.below (((by repeat (first | exact Below.refl _ _ | (refine Below.alloc ?_ (by first | omega | (simp; omega) | simp) _) | (refine Below.setCell ?_ (by first | omega | (simp; omega) | simp) _) | refine Below.drew ?_)) : Below u1.heap.size u1 _).trans (kb.mono (by first | (simp; done) | (simp; omega) | omega)))); have HP2 := Lib.hid hP; have HF2 := Lib.hid hfar; clear hP hfar kb; (try simp at k3); (try have k6 := Nat.lt_of_succ_le k3); (try have k7 := Nat.lt_of_succ_lt k6); (try have k8 := Nat.lt_of_succ_lt k7); have sC0 : u1.heap.size ≤ u2.heap.size := (by omega); (try have sC4 : u1.heap.size < u2.heap.size := (by omega)); (try have sC5 : u1.heap.size + 1 < u2.heap.size := (by omega)); have sC1 : w3.heap.size ≤ u2.heap.size := (by omega); (try have sC2 : w3.heap.size < u2.heap.size := (by omega)); (try have sC3 : w3.heap.size + 1 < u2.heap.size := (by omega))))
    all_goals
      go_wp2_with fail
      go_meet
      refine ⟨_, _, a1, cap1, a2, cap2, rfl, rfl, ?_, ?_, (by first | with_reducible assumption | (simp; done) | (simp; omega) | omega), ⟨(by first | with_reducible assumption | (simp; done) | (simp; omega) | omega), (by first | with_reducible assumption | (simp; done) | (simp; omega) | omega)⟩, ?_, ?_, ?_, ?_, And.left (by assumption)⟩
      · repeat (first | with_reducible exact Box.new _ _ (by simp) _ _ | with_reducible refine Box.alloc _ ?_ | with_reducible refine Box.drew ?_ | with_reducible refine Box.set11 (u0 := .int .i64 0) (u1 := .int .i64 0) (u2 := .int .i64 0) (u3 := .int .i64 0) (u4 := .int .i64 0) (u5 := .int .i64 0) (u6 := .int .i64 0) (u7 := .int .i64 0) (u8 := .int .i64 0) (u9 := .int .i64 0) (u10 := .slice none 0 0) _ _ _ _ _ _ _ _ _ _ _ ?_ | with_reducible refine Box.far _ _ ?_ (by first | with_reducible assumption | (simp; done) | (simp; omega) | omega))
        all_goals exact ⟨fun i v h => by first | (go_simp; done) | (go_simp; simpa using h), fun i => by go_simp, (by first | with_reducible assumption | (simp; done) | (simp; omega) | omega)⟩
      · repeat (first | with_reducible exact Box.new _ _ (by simp) _ _ | with_reducible refine Box.alloc _ ?_ | with_reducible refine Box.drew ?_ | with_reducible refine Box.set11 (u0 := .int .i64 0) (u1 := .int .i64 0) (u2 := .int .i64 0) (u3 := .int .i64 0) (u4 := .int .i64 0) (u5 := .int .i64 0) (u6 := .int .i64 0) (u7 := .int .i64 0) (u8 := .int .i64 0) (u9 := .int .i64 0) (u10 := .slice none 0 0) _ _ _ _ _ _ _ _ _ _ _ ?_ | with_reducible refine Box.far _ _ ?_ (by first | with_reducible assumption | (simp; done) | (simp; omega) | omega))
        all_goals exact ⟨fun i v h => by first | (go_simp; done) | (go_simp; simpa using h), fun i => by go_simp, (by first | with_reducible assumption | (simp; done) | (simp; omega) | omega)⟩
      · intro h0 b o e; have hh := HF1.out h0 b o e; simp at hh ⊢; omega
      · intro h0 b o e; have hh := HF2.out h0 b o e; simp at hh ⊢; omega
      · repeat (first | with_reducible exact HPo.out | with_reducible refine PigsAt.alloc _ ?_ | with_reducible refine PigsAt.drew ?_ | with_reducible refine PigsAt.kept ?_ (gb_setCell _ _ _ _) (fun h0 b o e => (by have hh := HF1.out h0 b o e; simp at hh ⊢; omega)))
      · repeat (first | with_reducible exact HP2.out | with_reducible refine PigsAt.alloc _ ?_ | with_reducible refine PigsAt.drew ?_ | with_reducible refine PigsAt.kept ?_ (gb_setCell _ _ _ _) (fun h0 b o e => (by have hh := HF2.out h0 b o e; simp at hh ⊢; omega)))
  case rest =>
    obtain ⟨g, h, a1, cap1, a2, cap2, rfl, rfl, hG, hH, hgh, ⟨hg3, hh3⟩, hA1, hA2, hP1, hP2, hB4⟩ := hcut
    obtain ⟨w4, rfl⟩ : ∃ w4 : World, w4 = wc := ⟨_, rfl⟩
    have hz4 := hB4.size
    have hw4 := hw3.trans (hB4.mono hw3.size)
    have p4 : w.heap.size < w4.heap.size := by omega
    have r4 : w.heap.size + 1 < w4.heap.size := by omega
    have hb4 := fun i => (hB4.cell (p := ⟨w.heap.size, i, none⟩) p3).trans (HBX.out i)
    have ho4 := fun i => (hB4.cell (p := ⟨w.heap.size + 1, i, none⟩) r3).trans (HBO.out i)
    have hg4 := hG.2.2
    have hh4 := hH.2.2
    have HG := Lib.hid hG
    have HH := Lib.hid hH
    have HP1 := Lib.hid hP1
    have HP2 := Lib.hid hP2
    clear x0 x1 x2 x3 x4 x5 x6 x7 x8 x9 x10 hG hH hP1 hP2
    obtain ⟨x0, x1, x2, x3, x4, x5, x6, x7, x8, x9, x10⟩ : w4.cell? ⟨w.heap.size, 0, none⟩ = some (.int .i64 s.P) ∧ w4.cell? ⟨w.heap.size, 1, none⟩ = some (.int .i64 s.tl) ∧ w4.cell? ⟨w.heap.size, 2, none⟩ = some (.int .i64 s.th) ∧ w4.cell? ⟨w.heap.size, 3, none⟩ = some (.int .i64 s.al) ∧ w4.cell? ⟨w.heap.size, 4, none⟩ = some (.int .i64 s.ah) ∧ w4.cell? ⟨w.heap.size, 5, none⟩ = some (.int .i64 s.room) ∧ w4.cell? ⟨w.heap.size, 6, none⟩ = some (.int .i64 s.xl) ∧ w4.cell? ⟨w.heap.size, 7, none⟩ = some (.int .i64 s.xh) ∧ w4.cell? ⟨w.heap.size, 8, none⟩ = some (.int .i64 s.yl) ∧ w4.cell? ⟨w.heap.size, 9, none⟩ = some (.int .i64 s.yh) ∧ w4.cell? ⟨w.heap.size, 10, none⟩ = some (.slice a len cap) := ⟨hb4 0, hb4 1, hb4 2, hb4 3, hb4 4, hb4 5, hb4 6, hb4 7, hb4 8, hb4 9, hb4 10⟩
    obtain ⟨y0, y1, y2, y3, y4⟩ : w4.cell? ⟨w.heap.size + 1, 0, none⟩ = some (.int .i64 q) ∧ w4.cell? ⟨w.heap.size + 1, 1, none⟩ = some (.int .i64 b1) ∧ w4.cell? ⟨w.heap.size + 1, 2, none⟩ = some (.int .i64 b2) ∧ w4.cell? ⟨w.heap.size + 1, 3, none⟩ = some (.int .i64 c1) ∧ w4.cell? ⟨w.heap.size + 1, 4, none⟩ = some (.int .i64 c2) := ⟨ho4 0, ho4 1, ho4 2, ho4 3, ho4 4⟩
    have HB4 := Lib.hid hb4
    have HO4 := Lib.hid ho4
    clear hb4 ho4
    go_wp2_with fail
    refine (HM.out _ hw4).mono ?_
    rintro e w5 ⟨rfl, hb5⟩
    have hz5 := hb5.size
    have hw5 := hw4.trans (hb5.mono hw4.size)
    clear x0 x1 x2 x3 x4 x5 x6 x7 x8 x9 x10 y0 y1 y2 y3 y4
    go_upto_region 5 with fail
    obtain ⟨W5, hW5⟩ : ∃ W5, w5.alloc (.cells #[.int .i64 (s.P + q), .int .i64 (s.tl + b1), .int .i64 (s.th + b2), .int .i64 (s.al + c1), .int .i64 (s.ah + c2)] 25) = W5 := ⟨_, rfl⟩
    have hM5 : Box W5 w5.heap.size #[.int .i64 (s.P + q), .int .i64 (s.tl + b1), .int .i64 (s.th + b2), .int .i64 (s.al + c1), .int .i64 (s.ah + c2)] := by rw [← hW5]; exact Box.new _ _ rfl _ _
    have hV5 : Below w5.heap.size w5 W5 := by rw [← hW5]; exact (by repeat (first | exact Below.refl _ _ | (refine Below.alloc ?_ (by first | omega | (simp; omega) | simp) _) | (refine Below.setCell ?_ (by first | omega | (simp; omega) | simp) _) | refine Below.drew ?_))
    rw [hW5]
    clear hW5
    have hz5' := hV5.size
    have hB5 := hb5.trans (hV5.mono hz5)
    have hw5' := hw4.trans (hB5.mono hw4.size)
    have p5 : w.heap.size < W5.heap.size := by omega
    have r5 : w.heap.size + 1 < W5.heap.size := by omega
    have hbx5 := fun i => (hB5.cell (p := ⟨w.heap.size, i, none⟩) p4).trans (HB4.out i)
    have hbo5 := fun i => (hB5.cell (p := ⟨w.heap.size + 1, i, none⟩) r4).trans (HO4.out i)
    obtain ⟨x0, x1, x2, x3, x4, x5, x6, x7, x8, x9, x10⟩ : W5.cell? ⟨w.heap.size, 0, none⟩ = some (.int .i64 s.P) ∧ W5.cell? ⟨w.heap.size, 1, none⟩ = some (.int .i64 s.tl) ∧ W5.cell? ⟨w.heap.size, 2, none⟩ = some (.int .i64 s.th) ∧ W5.cell? ⟨w.heap.size, 3, none⟩ = some (.int .i64 s.al) ∧ W5.cell? ⟨w.heap.size, 4, none⟩ = some (.int .i64 s.ah) ∧ W5.cell? ⟨w.heap.size, 5, none⟩ = some (.int .i64 s.room) ∧ W5.cell? ⟨w.heap.size, 6, none⟩ = some (.int .i64 s.xl) ∧ W5.cell? ⟨w.heap.size, 7, none⟩ = some (.int .i64 s.xh) ∧ W5.cell? ⟨w.heap.size, 8, none⟩ = some (.int .i64 s.yl) ∧ W5.cell? ⟨w.heap.size, 9, none⟩ = some (.int .i64 s.yh) ∧ W5.cell? ⟨w.heap.size, 10, none⟩ = some (.slice a len cap) := ⟨hbx5 0, hbx5 1, hbx5 2, hbx5 3, hbx5 4, hbx5 5, hbx5 6, hbx5 7, hbx5 8, hbx5 9, hbx5 10⟩
    have HBX5 := Lib.hid hbx5
    have HBO5 := Lib.hid hbo5
    have HG5 := Lib.hid (HG.out.below hB5)
    have HH5 := Lib.hid (HH.out.below hB5)
    have HP15 := Lib.hid (HP1.out.below hB5)
    have HP25 := Lib.hid (HP2.out.below hB5)
    have HM5 := Lib.hid hM5
    have hgm : g < w5.heap.size := by omega
    have hhm : h < w5.heap.size := by omega
    have hsz5 := hM5.2.2
    clear hbx5 hbo5 hM5 hB5 hV5 hb5
    have HX5 := Lib.hid (fun W (hb : Below W5.heap.size W5 W) => HX.out W (hw5'.trans (hb.mono hw5'.size)))
    have HD5 := Lib.hid (fun x' xc' W (hb : Below W5.heap.size W5 W ∧ ∀ b o, b < W5.heap.size → W.cell? ⟨b, o, none⟩ = W5.cell? ⟨b, o, none⟩) (hx' : IntsAt W x' xlen ns) => bothS1 (W0 := W5) (HD.out x' xc' W (hw5'.trans (hb.1.mono hw5'.size)) hx') hb)
    go_cut [11, 12] (fun v11 v12 wx => ∃ gq : Nat, v11 = .pointer (some ⟨gq, 0, none⟩) ∧ v12 = .int .i64 0 ∧ (wx.cell? ⟨gq, 0, none⟩ = some (.int .i64 n1) ∧ wx.cell? ⟨gq, 1, none⟩ = some (.int .i64 n2) ∧ wx.cell? ⟨gq, 2, none⟩ = some (.int .i64 n3) ∧ wx.cell? ⟨gq, 3, none⟩ = some (.int .i64 n4) ∧ wx.cell? ⟨gq, 4, none⟩ = some (.int .i64 n5)) ∧ W5.heap.size ≤ gq ∧ gq < wx.heap.size ∧ Below W5.heap.size W5 wx)
    case first =>
      go_region_held3 (fun w' => Below W5.heap.size W5 w' ∧ ∀ b o, b < W5.heap.size → w'.cell? ⟨b, o, none⟩ = W5.cell? ⟨b, o, none⟩) (first | with_reducible assumption | ((repeat (first | with_reducible refine bothS_drew ?_ | with_reducible refine bothS_alloc _ ?_ | with_reducible refine bothS_set _ _ (by first | omega | (simp; omega) | simp) ?_)); first | with_reducible assumption | with_reducible exact Hid.out (by assumption) | with_reducible exact ⟨Below.refl _ _, fun _ _ _ => rfl⟩))
        (first
          | ((with_reducible refine step_append_far _ W5.heap.size (W5.heap.size) xlen xcap x ns rfl _ _ rfl ?_ ?_ ?_ ?_ hxl ?_ ?_ ?_); (· rfl); (· rfl); (· first | exact (made_row (by simp) (by simp)).drew | exact ((made_row (by simp) (by simp)).alloc _).drew | exact made_row (by simp) (by simp) | exact (made_row (by simp) (by simp)).alloc _); (· exact HX5.out _ (And.left (by assumption))); (· first | exact Nat.le_refl _ | omega | (simp; done) | (simp; omega)); (· first | (simp; done) | (simp; omega) | omega); intro gA cA wA hxA hbA hcA hfA hsA; have kA := bothS_step (by assumption) hbA; have HXA := Lib.hid hxA; (try simp at hsA); have sA1 : W5.heap.size < wA.heap.size := (by omega); (try have sA2 : W5.heap.size + 1 < wA.heap.size := (by omega)); clear hxA hbA)
          | ((with_reducible refine step_append_far _ W5.heap.size (W5.heap.size + 1) xlen xcap x ns rfl _ _ rfl ?_ ?_ ?_ ?_ hxl ?_ ?_ ?_); (· rfl); (· rfl); (· first | exact (made_row (by simp) (by simp)).drew | exact ((made_row (by simp) (by simp)).alloc _).drew | exact made_row (by simp) (by simp) | exact (made_row (by simp) (by simp)).alloc _); (· exact HX5.out _ (And.left (by assumption))); (· first | exact Nat.le_refl _ | omega | (simp; done) | (simp; omega)); (· first | (simp; done) | (simp; omega) | omega); intro gA cA wA hxA hbA hcA hfA hsA; have kA := bothS_step (by assumption) hbA; have HXA := Lib.hid hxA; (try simp at hsA); have sA1 : W5.heap.size < wA.heap.size := (by omega); (try have sA2 : W5.heap.size + 1 < wA.heap.size := (by omega)); clear hxA hbA)
          | (go_at_call 18; (with_reducible refine (HD5.out _ _ _ ?_ ?_).mono ?_); (· with_reducible assumption); (· first | exact HXA.out | exact HXA.out.below (by repeat (first | exact Below.refl _ _ | (refine Below.alloc ?_ (by first | omega | (simp; omega) | simp) _) | (refine Below.setCell ?_ (by first | omega | (simp; omega) | simp) _) | refine Below.drew ?_))); rintro e w' ⟨rfl, k, k1, k2, k3⟩; have HK := Lib.hid k; (try simp at k3); have sB1 : W5.heap.size < w'.heap.size := (by omega); (try have sB2 : W5.heap.size + 1 < w'.heap.size := (by omega))))
      all_goals (go_wp2_with fail; go_meet; exact ⟨_, rfl, rfl, ⟨(by first | (go_simp; done) | (go_simp; exact set_same (u := .int .i64 0) (by go_simp; done)) | exact set_same (u := .int .i64 0) (by go_simp; done) | (go_simp; exact set_same (u := .slice none 0 0) (by go_simp; done)) | exact set_same (u := .slice none 0 0) (by go_simp; done)), (by first | (go_simp; done) | (go_simp; exact set_same (u := .int .i64 0) (by go_simp; done)) | exact set_same (u := .int .i64 0) (by go_simp; done) | (go_simp; exact set_same (u := .slice none 0 0) (by go_simp; done)) | exact set_same (u := .slice none 0 0) (by go_simp; done)), (by first | (go_simp; done) | (go_simp; exact set_same (u := .int .i64 0) (by go_simp; done)) | exact set_same (u := .int .i64 0) (by go_simp; done) | (go_simp; exact set_same (u := .slice none 0 0) (by go_simp; done)) | exact set_same (u := .slice none 0 0) (by go_simp; done)), (by first | (go_simp; done) | (go_simp; exact set_same (u := .int .i64 0) (by go_simp; done)) | exact set_same (u := .int .i64 0) (by go_simp; done) | (go_simp; exact set_same (u := .slice none 0 0) (by go_simp; done)) | exact set_same (u := .slice none 0 0) (by go_simp; done)), (by first | (go_simp; done) | (go_simp; exact set_same (u := .int .i64 0) (by go_simp; done)) | exact set_same (u := .int .i64 0) (by go_simp; done) | (go_simp; exact set_same (u := .slice none 0 0) (by go_simp; done)) | exact set_same (u := .slice none 0 0) (by go_simp; done))⟩, (by first | with_reducible assumption | (simp; done) | (simp; omega) | omega), (by first | with_reducible assumption | (simp; done) | (simp; omega) | omega), And.left (by assumption)⟩)
    case rest =>
      obtain ⟨gq, rfl, rfl, ⟨z0, z1, z2, z3, z4⟩, hgq1, hgq2, hB6⟩ := hcut
      obtain ⟨w6, rfl⟩ : ∃ w6 : World, w6 = wc := ⟨_, rfl⟩
      have hz6 := hB6.size
      have hw6 := hw5'.trans (hB6.mono hw5'.size)
      have p6 : w.heap.size < w6.heap.size := by omega
      have r6 : w.heap.size + 1 < w6.heap.size := by omega
      have hbx6 := fun i => (hB6.cell (p := ⟨w.heap.size, i, none⟩) p5).trans (HBX5.out i)
      have hbo6 := fun i => (hB6.cell (p := ⟨w.heap.size + 1, i, none⟩) r5).trans (HBO5.out i)
      clear x0 x1 x2 x3 x4 x5 x6 x7 x8 x9 x10
      obtain ⟨x0, x1, x2, x3, x4, x5, x6, x7, x8, x9, x10⟩ : w6.cell? ⟨w.heap.size, 0, none⟩ = some (.int .i64 s.P) ∧ w6.cell? ⟨w.heap.size, 1, none⟩ = some (.int .i64 s.tl) ∧ w6.cell? ⟨w.heap.size, 2, none⟩ = some (.int .i64 s.th) ∧ w6.cell? ⟨w.heap.size, 3, none⟩ = some (.int .i64 s.al) ∧ w6.cell? ⟨w.heap.size, 4, none⟩ = some (.int .i64 s.ah) ∧ w6.cell? ⟨w.heap.size, 5, none⟩ = some (.int .i64 s.room) ∧ w6.cell? ⟨w.heap.size, 6, none⟩ = some (.int .i64 s.xl) ∧ w6.cell? ⟨w.heap.size, 7, none⟩ = some (.int .i64 s.xh) ∧ w6.cell? ⟨w.heap.size, 8, none⟩ = some (.int .i64 s.yl) ∧ w6.cell? ⟨w.heap.size, 9, none⟩ = some (.int .i64 s.yh) ∧ w6.cell? ⟨w.heap.size, 10, none⟩ = some (.slice a len cap) := ⟨hbx6 0, hbx6 1, hbx6 2, hbx6 3, hbx6 4, hbx6 5, hbx6 6, hbx6 7, hbx6 8, hbx6 9, hbx6 10⟩
      obtain ⟨y0, y1, y2, y3, y4⟩ : w6.cell? ⟨w.heap.size + 1, 0, none⟩ = some (.int .i64 q) ∧ w6.cell? ⟨w.heap.size + 1, 1, none⟩ = some (.int .i64 b1) ∧ w6.cell? ⟨w.heap.size + 1, 2, none⟩ = some (.int .i64 b2) ∧ w6.cell? ⟨w.heap.size + 1, 3, none⟩ = some (.int .i64 c1) ∧ w6.cell? ⟨w.heap.size + 1, 4, none⟩ = some (.int .i64 c2) := ⟨hbo6 0, hbo6 1, hbo6 2, hbo6 3, hbo6 4⟩
      have hG6 := HG5.out.below hB6
      have hH6 := HH5.out.below hB6
      have hM6 := HM5.out.below hB6
      obtain ⟨m0, m1, m2, m3, m4⟩ : w6.cell? ⟨w5.heap.size, 0, none⟩ = some (.int .i64 (s.P + q)) ∧ w6.cell? ⟨w5.heap.size, 1, none⟩ = some (.int .i64 (s.tl + b1)) ∧ w6.cell? ⟨w5.heap.size, 2, none⟩ = some (.int .i64 (s.th + b2)) ∧ w6.cell? ⟨w5.heap.size, 3, none⟩ = some (.int .i64 (s.al + c1)) ∧ w6.cell? ⟨w5.heap.size, 4, none⟩ = some (.int .i64 (s.ah + c2)) := ⟨hM6.1 0 _ rfl, hM6.1 1 _ rfl, hM6.1 2 _ rfl, hM6.1 3 _ rfl, hM6.1 4 _ rfl⟩
      obtain ⟨g0, g1, g2, g3, g4, g5, g6, g7, g8, g9, g10⟩ : w6.cell? ⟨g, 0, none⟩ = some (.int .i64 s.P) ∧ w6.cell? ⟨g, 1, none⟩ = some (.int .i64 s.tl) ∧ w6.cell? ⟨g, 2, none⟩ = some (.int .i64 s.th) ∧ w6.cell? ⟨g, 3, none⟩ = some (.int .i64 s.al) ∧ w6.cell? ⟨g, 4, none⟩ = some (.int .i64 s.ah) ∧ w6.cell? ⟨g, 5, none⟩ = some (.int .i64 s.room) ∧ w6.cell? ⟨g, 6, none⟩ = some (.int .i64 s.xl) ∧ w6.cell? ⟨g, 7, none⟩ = some (.int .i64 s.xh) ∧ w6.cell? ⟨g, 8, none⟩ = some (.int .i64 s.yl) ∧ w6.cell? ⟨g, 9, none⟩ = some (.int .i64 s.yh) ∧ w6.cell? ⟨g, 10, none⟩ = some (.slice a1 len cap1) := ⟨hG6.1 0 _ rfl, hG6.1 1 _ rfl, hG6.1 2 _ rfl, hG6.1 3 _ rfl, hG6.1 4 _ rfl, hG6.1 5 _ rfl, hG6.1 6 _ rfl, hG6.1 7 _ rfl, hG6.1 8 _ rfl, hG6.1 9 _ rfl, hG6.1 10 _ rfl⟩
      obtain ⟨h0, h1, h2, h3, h4, h5, h6, h7, h8, h9, h10⟩ : w6.cell? ⟨h, 0, none⟩ = some (.int .i64 s.P) ∧ w6.cell? ⟨h, 1, none⟩ = some (.int .i64 s.tl) ∧ w6.cell? ⟨h, 2, none⟩ = some (.int .i64 s.th) ∧ w6.cell? ⟨h, 3, none⟩ = some (.int .i64 s.al) ∧ w6.cell? ⟨h, 4, none⟩ = some (.int .i64 s.ah) ∧ w6.cell? ⟨h, 5, none⟩ = some (.int .i64 s.room) ∧ w6.cell? ⟨h, 6, none⟩ = some (.int .i64 s.xl) ∧ w6.cell? ⟨h, 7, none⟩ = some (.int .i64 s.xh) ∧ w6.cell? ⟨h, 8, none⟩ = some (.int .i64 s.yl) ∧ w6.cell? ⟨h, 9, none⟩ = some (.int .i64 s.yh) ∧ w6.cell? ⟨h, 10, none⟩ = some (.slice a2 len cap2) := ⟨hH6.1 0 _ rfl, hH6.1 1 _ rfl, hH6.1 2 _ rfl, hH6.1 3 _ rfl, hH6.1 4 _ rfl, hH6.1 5 _ rfl, hH6.1 6 _ rfl, hH6.1 7 _ rfl, hH6.1 8 _ rfl, hH6.1 9 _ rfl, hH6.1 10 _ rfl⟩
      have gf := hG6.2.1
      have hf := hH6.2.1
      have HG6 := Lib.hid hG6
      have HH6 := Lib.hid hH6
      clear hG6 hH6 hM6 hbx6 hbo6
      have ne1 : g ≠ w5.heap.size := by omega
      have ne2 : h ≠ w5.heap.size := by omega
      have ne3 : g ≠ gq := by omega
      have ne4 : h ≠ gq := by omega
      have ne5 : h ≠ g := Ne.symm hgh
      have ne6 : g ≠ w.heap.size := by omega
      have ne7 : h ≠ w.heap.size := by omega
      have ne8 : g ≠ w.heap.size + 1 := by omega
      have ne9 : h ≠ w.heap.size + 1 := by omega
      go_upto_region 8 with fail
      have HP16 := Lib.hid (HP15.out.below hB6)
      have HP26 := Lib.hid (HP25.out.below hB6)
      go_cut [] (fun wx => Box wx g #[.int .i64 (s.P + q), .int .i64 (s.tl + b1), .int .i64 (s.th + b2), .int .i64 (s.al + c1), .int .i64 (s.ah + c2), .int .i64 s.room, .int .i64 s.xl, .int .i64 s.xh, .int .i64 s.yl, .int .i64 s.yh, .slice a1 len cap1] ∧ Box wx h #[.int .i64 n1, .int .i64 n2, .int .i64 n3, .int .i64 n4, .int .i64 n5, .int .i64 s.room, .int .i64 s.xl, .int .i64 s.xh, .int .i64 s.yl, .int .i64 s.yh, .slice a2 len cap2] ∧ PigsAt wx a1 len s.pigs ∧ PigsAt wx a2 len s.pigs ∧ (wx.cell? ⟨w.heap.size + 1, 0, none⟩ = some (.int .i64 q) ∧ wx.cell? ⟨w.heap.size + 1, 1, none⟩ = some (.int .i64 b1) ∧ wx.cell? ⟨w.heap.size + 1, 2, none⟩ = some (.int .i64 b2) ∧ wx.cell? ⟨w.heap.size + 1, 3, none⟩ = some (.int .i64 c1) ∧ wx.cell? ⟨w.heap.size + 1, 4, none⟩ = some (.int .i64 c2)) ∧ w.heap.size + 1 < wx.heap.size ∧ Below w.heap.size w wx)
      case first =>
        go_region
        all_goals
          go_wp2_with fail
          go_meet
          refine ⟨?_, ?_, ?_, ?_, ⟨by go_simp, by go_simp, by go_simp, by go_simp, by go_simp⟩, (by first | with_reducible assumption | (simp; done) | (simp; omega) | omega), ?_⟩
          · repeat (first | with_reducible exact HG6.out | with_reducible exact HH6.out | with_reducible refine Box.drew ?_ | with_reducible refine Box.set5 (u0 := .int .i64 s.P) (u1 := .int .i64 s.tl) (u2 := .int .i64 s.th) (u3 := .int .i64 s.al) (u4 := .int .i64 s.ah) _ _ _ _ _ ?_ | with_reducible refine Box.far _ _ ?_ (by first | with_reducible assumption | (simp; done) | (simp; omega) | omega))
          · repeat (first | with_reducible exact HG6.out | with_reducible exact HH6.out | with_reducible refine Box.drew ?_ | with_reducible refine Box.set5 (u0 := .int .i64 s.P) (u1 := .int .i64 s.tl) (u2 := .int .i64 s.th) (u3 := .int .i64 s.al) (u4 := .int .i64 s.ah) _ _ _ _ _ ?_ | with_reducible refine Box.far _ _ ?_ (by first | with_reducible assumption | (simp; done) | (simp; omega) | omega))
          · refine PigsAt.below (Below.refl _ _).drew ?_
            repeat (with_reducible refine PigsAt.kept ?_ (gb_setCell _ _ _ _) (fun h0 b o e => (by have hh := hA1 h0 b o e; simp at hh ⊢; omega)))
            exact HP16.out
          · refine PigsAt.below (Below.refl _ _).drew ?_
            repeat (with_reducible refine PigsAt.kept ?_ (gb_setCell _ _ _ _) (fun h0 b o e => (by have hh := hA2 h0 b o e; simp at hh ⊢; omega)))
            exact HP26.out
          · refine Below.drew ?_
            repeat (with_reducible refine Below.setCell ?_ (by first | (simp; done) | (simp; omega) | omega) _)
            exact hw6
      case rest =>
        obtain ⟨hG, hH, hP1, hP2, ⟨y0, y1, y2, y3, y4⟩, hzx, hwx⟩ := hcut
        obtain ⟨w7, rfl⟩ : ∃ w7 : World, w7 = wc := ⟨_, rfl⟩
        obtain ⟨g0, g1, g2, g3, g4, g5, g6, g7, g8, g9, g10⟩ : w7.cell? ⟨g, 0, none⟩ = some (.int .i64 (s.P + q)) ∧ w7.cell? ⟨g, 1, none⟩ = some (.int .i64 (s.tl + b1)) ∧ w7.cell? ⟨g, 2, none⟩ = some (.int .i64 (s.th + b2)) ∧ w7.cell? ⟨g, 3, none⟩ = some (.int .i64 (s.al + c1)) ∧ w7.cell? ⟨g, 4, none⟩ = some (.int .i64 (s.ah + c2)) ∧ w7.cell? ⟨g, 5, none⟩ = some (.int .i64 s.room) ∧ w7.cell? ⟨g, 6, none⟩ = some (.int .i64 s.xl) ∧ w7.cell? ⟨g, 7, none⟩ = some (.int .i64 s.xh) ∧ w7.cell? ⟨g, 8, none⟩ = some (.int .i64 s.yl) ∧ w7.cell? ⟨g, 9, none⟩ = some (.int .i64 s.yh) ∧ w7.cell? ⟨g, 10, none⟩ = some (.slice a1 len cap1) := ⟨hG.1 0 _ rfl, hG.1 1 _ rfl, hG.1 2 _ rfl, hG.1 3 _ rfl, hG.1 4 _ rfl, hG.1 5 _ rfl, hG.1 6 _ rfl, hG.1 7 _ rfl, hG.1 8 _ rfl, hG.1 9 _ rfl, hG.1 10 _ rfl⟩
        obtain ⟨h0, h1, h2, h3, h4, h5, h6, h7, h8, h9, h10⟩ : w7.cell? ⟨h, 0, none⟩ = some (.int .i64 n1) ∧ w7.cell? ⟨h, 1, none⟩ = some (.int .i64 n2) ∧ w7.cell? ⟨h, 2, none⟩ = some (.int .i64 n3) ∧ w7.cell? ⟨h, 3, none⟩ = some (.int .i64 n4) ∧ w7.cell? ⟨h, 4, none⟩ = some (.int .i64 n5) ∧ w7.cell? ⟨h, 5, none⟩ = some (.int .i64 s.room) ∧ w7.cell? ⟨h, 6, none⟩ = some (.int .i64 s.xl) ∧ w7.cell? ⟨h, 7, none⟩ = some (.int .i64 s.xh) ∧ w7.cell? ⟨h, 8, none⟩ = some (.int .i64 s.yl) ∧ w7.cell? ⟨h, 9, none⟩ = some (.int .i64 s.yh) ∧ w7.cell? ⟨h, 10, none⟩ = some (.slice a2 len cap2) := ⟨hH.1 0 _ rfl, hH.1 1 _ rfl, hH.1 2 _ rfl, hH.1 3 _ rfl, hH.1 4 _ rfl, hH.1 5 _ rfl, hH.1 6 _ rfl, hH.1 7 _ rfl, hH.1 8 _ rfl, hH.1 9 _ rfl, hH.1 10 _ rfl⟩
        have g7l := hG.2.2
        have h7l := hH.2.2
        have HP17 := Lib.hid (fun W (hb : Below w7.heap.size w7 W) => hP1.below hb)
        have HP27 := Lib.hid (fun W (hb : Below w7.heap.size w7 W) => hP2.below hb)
        have HWX := Lib.hid hwx
        clear hG hH hP1 hP2 hA1 hA2
        go_wp2_with fail
        first
          | (refine (HW.out _).mono ?_
             rintro e w8 ⟨rfl, hb8⟩
             have hw8 := hwx.trans (hb8.mono hwx.size)
             clear hb8
             go_wp2_with fail
             go_ret
             exact ⟨rfl, hw8⟩)
          | (refine (HKa.out _ _ _ (HP17.out _ (Below.refl _ _))).mono ?_
             rintro e w8 ⟨rfl, hb8⟩
             obtain ⟨hc8, hf8⟩ := bcell hb8
             have hz8 := hb8.size
             have hB8 := hb8
             have hw8 := hwx.trans (hb8.mono hwx.size)
             have g8l : g < w8.heap.size := by omega
             have h8l : h < w8.heap.size := by omega
             have z8 : w.heap.size + 1 < w8.heap.size := by omega
             clear hb8
             cases ra
             · go_wp2_with fail
               refine (HW.out _).mono ?_
               rintro e w9 ⟨rfl, hb9⟩
               have hw9 := hw8.trans (hb9.mono hw8.size)
               clear hb9
               go_wp2_with fail
               go_ret
               exact ⟨rfl, hw9⟩
             · go_wp2_with fail
               refine (HKb.out _ _ _ (HP27.out _ hB8)).mono ?_
               rintro e w9 ⟨rfl, hb9⟩
               obtain ⟨hc9, hf9⟩ := bcell hb9
               have hz9 := hb9.size
               have hB9 := hB8.trans (hb9.mono hB8.size)
               have hw9 := hwx.trans (hB9.mono hwx.size)
               have g9l : g < w9.heap.size := by omega
               have h9l : h < w9.heap.size := by omega
               have z9 : w.heap.size + 1 < w9.heap.size := by omega
               clear hb9
               cases rb
               · go_wp2_with fail
                 refine (HW.out _).mono ?_
                 rintro e w10 ⟨rfl, hb10⟩
                 have hw10 := hw9.trans (hb10.mono hw9.size)
                 clear hb10
                 go_wp2_with fail
                 go_ret
                 exact ⟨rfl, hw10⟩
               · go_wp2_with fail
                 refine (HAa.out trivial _ _ _ hw9 (HP17.out _ hB9)).mono ?_
                 rintro e w10 ⟨rfl, hb10⟩
                 obtain ⟨hc10, hf10⟩ := bcell hb10
                 have hz10 := hb10.size
                 have hB10 := hB9.trans (hb10.mono hB9.size)
                 have hw10 := hwx.trans (hB10.mono hwx.size)
                 have g10l : g < w10.heap.size := by omega
                 have h10l : h < w10.heap.size := by omega
                 have z10 : w.heap.size + 1 < w10.heap.size := by omega
                 clear hb10
                 cases ia
                 · go_wp2_with fail
                   refine (HW.out _).mono ?_
                   rintro e w11 ⟨rfl, hb11⟩
                   have hw11 := hw10.trans (hb11.mono hw10.size)
                   clear hb11
                   go_wp2_with fail
                   go_ret
                   exact ⟨rfl, hw11⟩
                 · have HX10 := Lib.hid (fun W (hb : Below w10.heap.size w10 W) => HX.out W (hw10.trans (hb.mono hw10.size)))
                   have HD10 := Lib.hid (fun x' xc' W (hb : Below w10.heap.size w10 W ∧ ∀ b o, b < w10.heap.size → W.cell? ⟨b, o, none⟩ = w10.cell? ⟨b, o, none⟩) (hx' : IntsAt W x' xlen ns) => bothS1 (W0 := w10) (HD2.out (by trivial) (by trivial) x' xc' a1 cap1 W (HP17.out _ (hB10.trans (hb.1.mono hB10.size))) hx') hb)
                   go_upto_region 11 with fail
                   go_cut [13, 14] (fun v13 v14 wx => ∃ gu : Nat, v13 = .pointer (some ⟨gu, 0, none⟩) ∧ v14 = .int .i64 0 ∧ (wx.cell? ⟨gu, 0, none⟩ = some (.int .i64 e1) ∧ wx.cell? ⟨gu, 1, none⟩ = some (.int .i64 e2) ∧ wx.cell? ⟨gu, 2, none⟩ = some (.int .i64 e3) ∧ wx.cell? ⟨gu, 3, none⟩ = some (.int .i64 e4) ∧ wx.cell? ⟨gu, 4, none⟩ = some (.int .i64 e5)) ∧ w10.heap.size ≤ gu ∧ gu < wx.heap.size ∧ Below w10.heap.size w10 wx)
                   case first =>
                     go_region_held3 (fun w' => Below w10.heap.size w10 w' ∧ ∀ b o, b < w10.heap.size → w'.cell? ⟨b, o, none⟩ = w10.cell? ⟨b, o, none⟩) (first | with_reducible assumption | ((repeat (first | with_reducible refine bothS_drew ?_ | with_reducible refine bothS_alloc _ ?_ | with_reducible refine bothS_set _ _ (by first | omega | (simp; omega) | simp) ?_)); first | with_reducible assumption | with_reducible exact Hid.out (by assumption) | with_reducible exact ⟨Below.refl _ _, fun _ _ _ => rfl⟩))
                       (first
                         | ((with_reducible refine step_append_far _ w10.heap.size (w10.heap.size) xlen xcap x ns rfl _ _ rfl ?_ ?_ ?_ ?_ hxl ?_ ?_ ?_); (· rfl); (· rfl); (· first | exact (made_row (by simp) (by simp)).drew | exact ((made_row (by simp) (by simp)).alloc _).drew | exact made_row (by simp) (by simp) | exact (made_row (by simp) (by simp)).alloc _); (· exact HX10.out _ (And.left (by assumption))); (· first | exact Nat.le_refl _ | omega | (simp; done) | (simp; omega)); (· first | (simp; done) | (simp; omega) | omega); intro gA cA wA hxA hbA hcA hfA hsA; have kA := bothS_step (by assumption) hbA; have HXA := Lib.hid hxA; (try simp at hsA); have sA1 : w10.heap.size < wA.heap.size := (by omega); (try have sA2 : w10.heap.size + 1 < wA.heap.size := (by omega)); clear hxA hbA)
                         | ((with_reducible refine step_append_far _ w10.heap.size (w10.heap.size + 1) xlen xcap x ns rfl _ _ rfl ?_ ?_ ?_ ?_ hxl ?_ ?_ ?_); (· rfl); (· rfl); (· first | exact (made_row (by simp) (by simp)).drew | exact ((made_row (by simp) (by simp)).alloc _).drew | exact made_row (by simp) (by simp) | exact (made_row (by simp) (by simp)).alloc _); (· exact HX10.out _ (And.left (by assumption))); (· first | exact Nat.le_refl _ | omega | (simp; done) | (simp; omega)); (· first | (simp; done) | (simp; omega) | omega); intro gA cA wA hxA hbA hcA hfA hsA; have kA := bothS_step (by assumption) hbA; have HXA := Lib.hid hxA; (try simp at hsA); have sA1 : w10.heap.size < wA.heap.size := (by omega); (try have sA2 : w10.heap.size + 1 < wA.heap.size := (by omega)); clear hxA hbA)
                         | (go_at_call 18; (with_reducible refine (HD10.out _ _ _ ?_ ?_).mono ?_); (· with_reducible assumption); (· first | exact HXA.out | exact HXA.out.below (by repeat (first | exact Below.refl _ _ | (refine Below.alloc ?_ (by first | omega | (simp; omega) | simp) _) | (refine Below.setCell ?_ (by first | omega | (simp; omega) | simp) _) | refine Below.drew ?_))); rintro e w' ⟨rfl, k, k1, k2, k3⟩; have HK := Lib.hid k; (try simp at k3); have sB1 : w10.heap.size < w'.heap.size := (by omega); (try have sB2 : w10.heap.size + 1 < w'.heap.size := (by omega))))
                     all_goals (go_wp2_with fail; go_meet; exact ⟨_, rfl, rfl, ⟨(by first | (go_simp; done) | (go_simp; exact set_same (u := .int .i64 0) (by go_simp; done)) | exact set_same (u := .int .i64 0) (by go_simp; done) | (go_simp; exact set_same (u := .slice none 0 0) (by go_simp; done)) | exact set_same (u := .slice none 0 0) (by go_simp; done)), (by first | (go_simp; done) | (go_simp; exact set_same (u := .int .i64 0) (by go_simp; done)) | exact set_same (u := .int .i64 0) (by go_simp; done) | (go_simp; exact set_same (u := .slice none 0 0) (by go_simp; done)) | exact set_same (u := .slice none 0 0) (by go_simp; done)), (by first | (go_simp; done) | (go_simp; exact set_same (u := .int .i64 0) (by go_simp; done)) | exact set_same (u := .int .i64 0) (by go_simp; done) | (go_simp; exact set_same (u := .slice none 0 0) (by go_simp; done)) | exact set_same (u := .slice none 0 0) (by go_simp; done)), (by first | (go_simp; done) | (go_simp; exact set_same (u := .int .i64 0) (by go_simp; done)) | exact set_same (u := .int .i64 0) (by go_simp; done) | (go_simp; exact set_same (u := .slice none 0 0) (by go_simp; done)) | exact set_same (u := .slice none 0 0) (by go_simp; done)), (by first | (go_simp; done) | (go_simp; exact set_same (u := .int .i64 0) (by go_simp; done)) | exact set_same (u := .int .i64 0) (by go_simp; done) | (go_simp; exact set_same (u := .slice none 0 0) (by go_simp; done)) | exact set_same (u := .slice none 0 0) (by go_simp; done))⟩, (by first | with_reducible assumption | (simp; done) | (simp; omega) | omega), (by first | with_reducible assumption | (simp; done) | (simp; omega) | omega), And.left (by assumption)⟩)
                   case rest =>
                     obtain ⟨gu, rfl, rfl, ⟨u0, u1, u2, u3, u4⟩, hgu1, hgu2, hB11⟩ := hcut
                     obtain ⟨w11, rfl⟩ : ∃ w11 : World, w11 = wc := ⟨_, rfl⟩
                     obtain ⟨hc11, hf11⟩ := bcell hB11
                     have hz11 := hB11.size
                     have hw11 := hw10.trans (hB11.mono hw10.size)
                     have hB11' := hB10.trans (hB11.mono hB10.size)
                     have h11l : h < w11.heap.size := by omega
                     have z11 : w.heap.size + 1 < w11.heap.size := by omega
                     go_wp2_with fail
                     refine (HM2.out (by trivial) (by trivial) _ _ _ (HP27.out _ hB11')).mono ?_
                     rintro e w12 ⟨rfl, hb12⟩
                     obtain ⟨hc12, hf12⟩ := bcell hb12
                     have hz12 := hb12.size
                     have hw12 := hw11.trans (hb12.mono hw11.size)
                     have gu12 : gu < w12.heap.size := by omega
                     clear hb12
                     go_wp2_with fail
                     refine (HW.out _).mono ?_
                     rintro e w13 ⟨rfl, hb13⟩
                     have hw13 : Below w.heap.size w w13 := (hw12.alloc hw12.size _).trans (hb13.mono (by simp; omega))
                     clear hb13
                     go_wp2_with fail
                     go_ret
                     exact ⟨rfl, hw13⟩)
set_option maxRecDepth 100000 in
set_option maxHeartbeats 32000000 in
theorem mixed_bad (s : Shop) (a : Option Addr) (len cap : Nat) (q b1 b2 c1 c2 : Int) (x : Option Addr) (xlen xcap : Nat) (ns : List Int) (w : World) (hp : PigsAt w a len s.pigs) (hx : IntsAt w x xlen ns) (hr : s.ok = true) (hpo : potB q b1 b2 c1 c2 = true) (hn : s.isAdd ns = true) (hmix : s.mixCode q b1 b2 c1 c2 = 1) :
    Calls Try.prog 12 #[.agg #[.int .i64 s.P, .int .i64 s.tl, .int .i64 s.th, .int .i64 s.al, .int .i64 s.ah, .int .i64 s.room, .int .i64 s.xl, .int .i64 s.xh, .int .i64 s.yl, .int .i64 s.yh, .slice a len cap], .agg #[.int .i64 q, .int .i64 b1, .int .i64 b2, .int .i64 c1, .int .i64 c2], .slice x xlen xcap] w fun e w' => e = .returned (.bool true) ∧ Below w.heap.size w w' := by
  have HR := Lib.hid (fun w1 (hb : Below w.heap.size w w1) => ready_is s a len cap true hr w1 (hp.below hb))
  have H1 := Lib.hid (fun w1 => IsPot_below q b1 b2 c1 c2 true hpo w1)
  have H2 := Lib.hid (fun w1 (hb : Below w.heap.size w w1) => hn ▸ isAddition_law s a len cap x xlen xcap ns w1 (hp.below hb) (hx.below hb) hr)
  have HW := Lib.hid (fun w1 => works_any w1)
  have hl4 : len ≤ 4 := by have := Shop.ok_bd hr; have := hp.1; omega
  have HC := Lib.hid (fun w1 (hb : Below w.heap.size w w1) => Copy_law s a len cap w1 (hp.below hb) (by omega))
  have HM := fun w1 (hb : Below w.heap.size w w1) => Mix_ok s a len cap q b1 b2 c1 c2 w1 (hp.below hb) hr 1 hmix
  simp only [if_true, show ¬ ((1 : Int) = 0) by decide, if_false] at HM
  replace HM := Lib.hid HM
  have hxl : xlen ≤ 1000 := by have h := Shop.isAdd_len hn; have := hx.1; have := hp.1; omega
  have hcode : s.code ns = 0 := by simp [Shop.code, hr, hn]
  have HD := fun x xcap w1 (hb : Below w.heap.size w w1) (hx : IntsAt w1 x xlen ns) => After_yes s a len cap x xlen xcap ns w1 (hp.below hb) hx hcode
  unfold potCells at HD
  replace HD := Lib.hid HD
  have HX := Lib.hid (fun w1 (hb : Below w.heap.size w w1) => hx.below hb)
  have hbd := Shop.ok_bd hr
  have hq : 0 ≤ q ∧ q ≤ 400 := by simp [potB, btw] at hpo; omega
  obtain ⟨q1, q2⟩ := hq
  have hsum2 : decide (s.P + q ≤ s.room) = (1 == (0 : Int)) := by
    have hm2 := hmix
    simp only [Shop.mixCode, hr, hpo, Bool.true_and, if_true] at hm2
    cases hd : decide (s.P + q ≤ s.room) <;> rw [hd] at hm2 <;> first | rfl | (simp at hm2; done)
  obtain ⟨ra, hra⟩ : ∃ ra, (s.mixed q b1 b2 c1 c2).ok = ra := ⟨_, rfl⟩
  obtain ⟨rb, hrb⟩ : ∃ rb, (s.poured ns).ok = rb := ⟨_, rfl⟩
  obtain ⟨ia, hia⟩ : ∃ ia, (s.mixed q b1 b2 c1 c2).isAdd ns = ia := ⟨_, rfl⟩
  have HKa := Lib.hid (fun a' cap' W (hp' : PigsAt W a' len s.pigs) => ready_is (s.mixed q b1 b2 c1 c2) a' len cap' ra hra W hp')
  have HKb := Lib.hid (fun a' cap' W (hp' : PigsAt W a' len s.pigs) => ready_is (s.poured ns) a' len cap' rb hrb W hp')
  have HAa := Lib.hid (fun (h : ra = true) a' cap' W (hb : Below w.heap.size w W) (hp' : PigsAt W a' len s.pigs) => hia ▸ isAddition_law (s.mixed q b1 b2 c1 c2) a' len cap' x xlen xcap ns W hp' (hx.below hb) (hra.trans h))
  obtain ⟨e1, he1⟩ : ∃ e1, s.P + q + tot Pig.P s.pigs ns = e1 := ⟨_, rfl⟩
  obtain ⟨e2, he2⟩ : ∃ e2, s.tl + b1 + tot Pig.t s.pigs ns = e2 := ⟨_, rfl⟩
  obtain ⟨e3, he3⟩ : ∃ e3, s.th + b2 + tot Pig.t s.pigs ns = e3 := ⟨_, rfl⟩
  obtain ⟨e4, he4⟩ : ∃ e4, s.al + c1 + tot Pig.a s.pigs ns = e4 := ⟨_, rfl⟩
  obtain ⟨e5, he5⟩ : ∃ e5, s.ah + c2 + tot Pig.a s.pigs ns = e5 := ⟨_, rfl⟩
  have HD2 := fun (h1 : ra = true) (h2 : ia = true) x' xc' a' cap' W (hp' : PigsAt W a' len s.pigs) (hx' : IntsAt W x' xlen ns) => After_yes (s.mixed q b1 b2 c1 c2) a' len cap' x' xlen xc' ns W hp' hx' (by simp [Shop.code, hra, hia, h1, h2])
  unfold potCells at HD2
  dsimp only [Shop.mixed] at HD2
  simp only [he1, he2, he3, he4, he5] at HD2
  replace HD2 := Lib.hid HD2
  have HM2 := fun (h1 : rb = true) (h2 : ia = true) a' cap' W (hp' : PigsAt W a' len s.pigs) => Mix_ok (s.poured ns) a' len cap' q b1 b2 c1 c2 W hp' (hrb.trans h1) 0 (by
    have h3 := mixed_add s q b1 b2 c1 c2 ns (hia.trans h2)
    simp [Shop.mixCode, hrb, h1, hpo]
    simpa [Shop.poured] using h3)
  dsimp only [Shop.poured] at HM2
  simp only [if_true, show s.P + tot Pig.P s.pigs ns + q = e1 by omega, show s.tl + tot Pig.t s.pigs ns + b1 = e2 by omega, show s.th + tot Pig.t s.pigs ns + b2 = e3 by omega, show s.al + tot Pig.a s.pigs ns + c1 = e4 by omega, show s.ah + tot Pig.a s.pigs ns + c2 = e5 by omega] at HM2
  replace HM2 := Lib.hid HM2
  dsimp only [Shop.mixed, Shop.poured] at HKa HKb HAa
  have P1 := hbd.1.1
  have P2 := hbd.1.2
  simp at hsum2
  clear hp hx hr hpo hn hmix hcode hbd hra hrb hia he1 he2 he3 he4 he5
  generalize s.P + tot Pig.P s.pigs ns = n1 at *
  generalize s.tl + tot Pig.t s.pigs ns = n2 at *
  generalize s.th + tot Pig.t s.pigs ns = n3 at *
  generalize s.al + tot Pig.a s.pigs ns = n4 at *
  generalize s.ah + tot Pig.a s.pigs ns = n5 at *
  go_enter Try.func12, Try.ntmps12
  go_wp2_with fail
  refine (HR.out _ (by repeat (first | exact Below.refl _ _ | (refine Below.alloc ?_ (by first | omega | (simp; omega) | simp) _) | (refine Below.setCell ?_ (by first | omega | (simp; omega) | simp) _) | refine Below.drew ?_))).mono ?_; rintro e w1 ⟨rfl, hb1⟩; obtain ⟨hc1, hf1⟩ := bcell hb1; have hz1 := hb1.size; (try simp at hz1); have hw1 := ((by repeat (first | assumption | exact Below.refl _ _ | (refine Below.alloc ?_ (by first | omega | (simp; omega) | simp) _) | (refine Below.setCell ?_ (by first | omega | (simp; omega) | simp) _) | refine Below.drew ?_)) : Below w.heap.size w _).trans (hb1.mono (by first | (simp; done) | (simp; omega) | omega)); clear hb1; have p1 : w.heap.size < w1.heap.size := (by omega); have r1 : w.heap.size + 1 < w1.heap.size := (by omega); go_wp2_with fail
  refine (H1.out _).mono ?_; rintro e w2 ⟨rfl, hb2⟩; obtain ⟨hc2, hf2⟩ := bcell hb2; have hz2 := hb2.size; (try simp at hz2); have hw2 := ((by repeat (first | assumption | exact Below.refl _ _ | (refine Below.alloc ?_ (by first | omega | (simp; omega) | simp) _) | (refine Below.setCell ?_ (by first | omega | (simp; omega) | simp) _) | refine Below.drew ?_)) : Below w.heap.size w _).trans (hb2.mono (by first | (simp; done) | (simp; omega) | omega)); clear hb2; have p2 : w.heap.size < w2.heap.size := (by omega); have r2 : w.heap.size + 1 < w2.heap.size := (by omega); go_wp2_with fail
  refine (H2.out _ hw2).mono ?_
  rintro e w3 ⟨rfl, hb3⟩
  obtain ⟨hc3, hf3⟩ := bcell hb3
  have hz3 := hb3.size
  have hw3 := hw2.trans (hb3.mono hw2.size)
  have p3 : w.heap.size < w3.heap.size := by omega
  have r3 : w.heap.size + 1 < w3.heap.size := by omega
  have hbx : ∀ i, w3.cell? ⟨w.heap.size, i, none⟩ = (#[.int .i64 s.P, .int .i64 s.tl, .int .i64 s.th, .int .i64 s.al, .int .i64 s.ah, .int .i64 s.room, .int .i64 s.xl, .int .i64 s.xh, .int .i64 s.yl, .int .i64 s.yh, .slice a len cap] : Array Value)[i]? := fun i => (hc3 _ _ p2).trans ((hc2 _ _ p1).trans ((hc1 _ _ (by simp; omega)).trans (by go_simp)))
  have hbo : ∀ i, w3.cell? ⟨w.heap.size + 1, i, none⟩ = (#[.int .i64 q, .int .i64 b1, .int .i64 b2, .int .i64 c1, .int .i64 c2] : Array Value)[i]? := fun i => (hc3 _ _ r2).trans ((hc2 _ _ r1).trans ((hc1 _ _ (by simp)).trans (by go_simp)))
  obtain ⟨x0, x1, x2, x3, x4, x5, x6, x7, x8, x9, x10⟩ : w3.cell? ⟨w.heap.size, 0, none⟩ = some (.int .i64 s.P) ∧ w3.cell? ⟨w.heap.size, 1, none⟩ = some (.int .i64 s.tl) ∧ w3.cell? ⟨w.heap.size, 2, none⟩ = some (.int .i64 s.th) ∧ w3.cell? ⟨w.heap.size, 3, none⟩ = some (.int .i64 s.al) ∧ w3.cell? ⟨w.heap.size, 4, none⟩ = some (.int .i64 s.ah) ∧ w3.cell? ⟨w.heap.size, 5, none⟩ = some (.int .i64 s.room) ∧ w3.cell? ⟨w.heap.size, 6, none⟩ = some (.int .i64 s.xl) ∧ w3.cell? ⟨w.heap.size, 7, none⟩ = some (.int .i64 s.xh) ∧ w3.cell? ⟨w.heap.size, 8, none⟩ = some (.int .i64 s.yl) ∧ w3.cell? ⟨w.heap.size, 9, none⟩ = some (.int .i64 s.yh) ∧ w3.cell? ⟨w.heap.size, 10, none⟩ = some (.slice a len cap) := ⟨hbx 0, hbx 1, hbx 2, hbx 3, hbx 4, hbx 5, hbx 6, hbx 7, hbx 8, hbx 9, hbx 10⟩
  have HBX := Lib.hid hbx
  have HBO := Lib.hid hbo
  clear hb3 hbx hbo hc1 hf1 hc2 hf2 hc3 hf3
  have HC3 := Lib.hid (fun W (hb : Below w3.heap.size w3 W ∧ ∀ b o, b < w3.heap.size → W.cell? ⟨b, o, none⟩ = w3.cell? ⟨b, o, none⟩) => bothS3 (W0 := w3) (HC.out W (hw3.trans (hb.1.mono hw3.size))) hb)
  have tok1 : True := trivial
  go_upto_region 3 with fail
  go_cut [7, 8] (fun v7 v8 wx => ∃ (g h : Nat) (a1 : Option Addr) (cap1 : Nat) (a2 : Option Addr) (cap2 : Nat), v7 = .pointer (some ⟨g, 0, none⟩) ∧ v8 = .pointer (some ⟨h, 0, none⟩) ∧ Box wx g #[.int .i64 s.P, .int .i64 s.tl, .int .i64 s.th, .int .i64 s.al, .int .i64 s.ah, .int .i64 s.room, .int .i64 s.xl, .int .i64 s.xh, .int .i64 s.yl, .int .i64 s.yh, .slice a1 len cap1] ∧ Box wx h #[.int .i64 s.P, .int .i64 s.tl, .int .i64 s.th, .int .i64 s.al, .int .i64 s.ah, .int .i64 s.room, .int .i64 s.xl, .int .i64 s.xh, .int .i64 s.yl, .int .i64 s.yh, .slice a2 len cap2] ∧ g ≠ h ∧ (w3.heap.size ≤ g ∧ w3.heap.size ≤ h) ∧ (0 < len → ∀ b o, a1 = some ⟨b, o, none⟩ → b ≠ g ∧ b ≠ h) ∧ (0 < len → ∀ b o, a2 = some ⟨b, o, none⟩ → b ≠ g ∧ b ≠ h) ∧ PigsAt wx a1 len s.pigs ∧ PigsAt wx a2 len s.pigs ∧ Below w3.heap.size w3 wx)
  case first =>
    go_region_held3 (fun w' => Below w3.heap.size w3 w' ∧ ∀ b o, b < w3.heap.size → w'.cell? ⟨b, o, none⟩ = w3.cell? ⟨b, o, none⟩) (first | with_reducible assumption | ((repeat (first | with_reducible refine bothS_drew ?_ | with_reducible refine bothS_alloc _ ?_ | with_reducible refine bothS_set _ _ (by first | omega | (simp; omega) | simp) ?_)); first | with_reducible assumption | with_reducible exact Hid.out (by assumption) | with_reducible exact ⟨Below.refl _ _, fun _ _ _ => rfl⟩))
      (first
        | (have _t := tok1; go_at_call 17; (with_reducible refine (HC3.out _ ?_).mono ?_); (· with_reducible assumption); rintro e u1 ⟨⟨a1, cap1, rfl, hP, hfar⟩, k, kb⟩; obtain ⟨k1, k2⟩ := bcell kb; have k3 := kb.size; have HP1 := Lib.hid hP; have HF1 := Lib.hid hfar; clear hP hfar kb tok1 _t; (try simp at k3); (try have k6 := Nat.lt_of_succ_le k3); (try have k7 := Nat.lt_of_succ_lt k6); (try have k8 := Nat.lt_of_succ_lt k7); have sB1 : w3.heap.size ≤ u1.heap.size := (by omega); (try have sB2 : w3.heap.size < u1.heap.size := (by omega)); (try have sB3 : w3.heap.size + 1 < u1.heap.size := (by omega)))
        | (go_at_call 17; (with_reducible refine (HC3.out _ ?_).mono ?_); (· with_reducible assumption); rintro e u2 ⟨⟨a2, cap2, rfl, hP, hfar⟩, k, kb⟩; obtain ⟨k1, k2⟩ := bcell kb; have k3 := kb.size; have HPo := Lib.hid (HP1.out.below (((by repeat (first | exact Below.refl _ _ | (refine Below.alloc ?_ (by first | omega | (simp; omega) | simp) _) | (refine Below.setCell ?_ (by first | omega | (simp; omega) | simp) _) | refine Below.drew ?_)) : Below u1.heap.size u1 _).trans (kb.mono (by first | (simp; done) | (simp; omega) | omega)))); have HP2 := Lib.hid hP; have HF2 := Lib.hid hfar; clear hP hfar kb; (try simp at k3); (try have k6 := Nat.lt_of_succ_le k3); (try have k7 := Nat.lt_of_succ_lt k6); (try have k8 := Nat.lt_of_succ_lt k7); have sC0 : u1.heap.size ≤ u2.heap.size := (by omega); (try have sC4 : u1.heap.size < u2.heap.size := (by omega)); (try have sC5 : u1.heap.size + 1 < u2.heap.size := (by omega)); have sC1 : w3.heap.size ≤ u2.heap.size := (by omega); (try have sC2 : w3.heap.size < u2.heap.size := (by omega)); (try have sC3 : w3.heap.size + 1 < u2.heap.size := (by omega))))
    all_goals
      go_wp2_with fail
      go_meet
      refine ⟨_, _, a1, cap1, a2, cap2, rfl, rfl, ?_, ?_, (by first | with_reducible assumption | (simp; done) | (simp; omega) | omega), ⟨(by first | with_reducible assumption | (simp; done) | (simp; omega) | omega), (by first | with_reducible assumption | (simp; done) | (simp; omega) | omega)⟩, ?_, ?_, ?_, ?_, And.left (by assumption)⟩
      · repeat (first | with_reducible exact Box.new _ _ (by simp) _ _ | with_reducible refine Box.alloc _ ?_ | with_reducible refine Box.drew ?_ | with_reducible refine Box.set11 (u0 := .int .i64 0) (u1 := .int .i64 0) (u2 := .int .i64 0) (u3 := .int .i64 0) (u4 := .int .i64 0) (u5 := .int .i64 0) (u6 := .int .i64 0) (u7 := .int .i64 0) (u8 := .int .i64 0) (u9 := .int .i64 0) (u10 := .slice none 0 0) _ _ _ _ _ _ _ _ _ _ _ ?_ | with_reducible refine Box.far _ _ ?_ (by first | with_reducible assumption | (simp; done) | (simp; omega) | omega))
        all_goals exact ⟨fun i v h => by first | (go_simp; done) | (go_simp; simpa using h), fun i => by go_simp, (by first | with_reducible assumption | (simp; done) | (simp; omega) | omega)⟩
      · repeat (first | with_reducible exact Box.new _ _ (by simp) _ _ | with_reducible refine Box.alloc _ ?_ | with_reducible refine Box.drew ?_ | with_reducible refine Box.set11 (u0 := .int .i64 0) (u1 := .int .i64 0) (u2 := .int .i64 0) (u3 := .int .i64 0) (u4 := .int .i64 0) (u5 := .int .i64 0) (u6 := .int .i64 0) (u7 := .int .i64 0) (u8 := .int .i64 0) (u9 := .int .i64 0) (u10 := .slice none 0 0) _ _ _ _ _ _ _ _ _ _ _ ?_ | with_reducible refine Box.far _ _ ?_ (by first | with_reducible assumption | (simp; done) | (simp; omega) | omega))
        all_goals exact ⟨fun i v h => by first | (go_simp; done) | (go_simp; simpa using h), fun i => by go_simp, (by first | with_reducible assumption | (simp; done) | (simp; omega) | omega)⟩
      · intro h0 b o e; have hh := HF1.out h0 b o e; simp at hh ⊢; omega
      · intro h0 b o e; have hh := HF2.out h0 b o e; simp at hh ⊢; omega
      · repeat (first | with_reducible exact HPo.out | with_reducible refine PigsAt.alloc _ ?_ | with_reducible refine PigsAt.drew ?_ | with_reducible refine PigsAt.kept ?_ (gb_setCell _ _ _ _) (fun h0 b o e => (by have hh := HF1.out h0 b o e; simp at hh ⊢; omega)))
      · repeat (first | with_reducible exact HP2.out | with_reducible refine PigsAt.alloc _ ?_ | with_reducible refine PigsAt.drew ?_ | with_reducible refine PigsAt.kept ?_ (gb_setCell _ _ _ _) (fun h0 b o e => (by have hh := HF2.out h0 b o e; simp at hh ⊢; omega)))
  case rest =>
    obtain ⟨g, h, a1, cap1, a2, cap2, rfl, rfl, hG, hH, hgh, ⟨hg3, hh3⟩, hA1, hA2, hP1, hP2, hB4⟩ := hcut
    obtain ⟨w4, rfl⟩ : ∃ w4 : World, w4 = wc := ⟨_, rfl⟩
    have hz4 := hB4.size
    have hw4 := hw3.trans (hB4.mono hw3.size)
    have p4 : w.heap.size < w4.heap.size := by omega
    have r4 : w.heap.size + 1 < w4.heap.size := by omega
    have hb4 := fun i => (hB4.cell (p := ⟨w.heap.size, i, none⟩) p3).trans (HBX.out i)
    have ho4 := fun i => (hB4.cell (p := ⟨w.heap.size + 1, i, none⟩) r3).trans (HBO.out i)
    have hg4 := hG.2.2
    have hh4 := hH.2.2
    have HG := Lib.hid hG
    have HH := Lib.hid hH
    have HP1 := Lib.hid hP1
    have HP2 := Lib.hid hP2
    clear x0 x1 x2 x3 x4 x5 x6 x7 x8 x9 x10 hG hH hP1 hP2
    obtain ⟨x0, x1, x2, x3, x4, x5, x6, x7, x8, x9, x10⟩ : w4.cell? ⟨w.heap.size, 0, none⟩ = some (.int .i64 s.P) ∧ w4.cell? ⟨w.heap.size, 1, none⟩ = some (.int .i64 s.tl) ∧ w4.cell? ⟨w.heap.size, 2, none⟩ = some (.int .i64 s.th) ∧ w4.cell? ⟨w.heap.size, 3, none⟩ = some (.int .i64 s.al) ∧ w4.cell? ⟨w.heap.size, 4, none⟩ = some (.int .i64 s.ah) ∧ w4.cell? ⟨w.heap.size, 5, none⟩ = some (.int .i64 s.room) ∧ w4.cell? ⟨w.heap.size, 6, none⟩ = some (.int .i64 s.xl) ∧ w4.cell? ⟨w.heap.size, 7, none⟩ = some (.int .i64 s.xh) ∧ w4.cell? ⟨w.heap.size, 8, none⟩ = some (.int .i64 s.yl) ∧ w4.cell? ⟨w.heap.size, 9, none⟩ = some (.int .i64 s.yh) ∧ w4.cell? ⟨w.heap.size, 10, none⟩ = some (.slice a len cap) := ⟨hb4 0, hb4 1, hb4 2, hb4 3, hb4 4, hb4 5, hb4 6, hb4 7, hb4 8, hb4 9, hb4 10⟩
    obtain ⟨y0, y1, y2, y3, y4⟩ : w4.cell? ⟨w.heap.size + 1, 0, none⟩ = some (.int .i64 q) ∧ w4.cell? ⟨w.heap.size + 1, 1, none⟩ = some (.int .i64 b1) ∧ w4.cell? ⟨w.heap.size + 1, 2, none⟩ = some (.int .i64 b2) ∧ w4.cell? ⟨w.heap.size + 1, 3, none⟩ = some (.int .i64 c1) ∧ w4.cell? ⟨w.heap.size + 1, 4, none⟩ = some (.int .i64 c2) := ⟨ho4 0, ho4 1, ho4 2, ho4 3, ho4 4⟩
    have HB4 := Lib.hid hb4
    have HO4 := Lib.hid ho4
    clear hb4 ho4
    go_wp2_with fail
    refine (HM.out _ hw4).mono ?_
    rintro e w5 ⟨rfl, hb5⟩
    have hz5 := hb5.size
    have hw5 := hw4.trans (hb5.mono hw4.size)
    clear x0 x1 x2 x3 x4 x5 x6 x7 x8 x9 x10 y0 y1 y2 y3 y4
    go_upto_region 5 with fail
    obtain ⟨W5, hW5⟩ : ∃ W5, w5.alloc (.cells #[.int .i64 0, .int .i64 0, .int .i64 0, .int .i64 0, .int .i64 0] 25) = W5 := ⟨_, rfl⟩
    have hM5 : Box W5 w5.heap.size #[.int .i64 0, .int .i64 0, .int .i64 0, .int .i64 0, .int .i64 0] := by rw [← hW5]; exact Box.new _ _ rfl _ _
    have hV5 : Below w5.heap.size w5 W5 := by rw [← hW5]; exact (by repeat (first | exact Below.refl _ _ | (refine Below.alloc ?_ (by first | omega | (simp; omega) | simp) _) | (refine Below.setCell ?_ (by first | omega | (simp; omega) | simp) _) | refine Below.drew ?_))
    rw [hW5]
    clear hW5
    have hz5' := hV5.size
    have hB5 := hb5.trans (hV5.mono hz5)
    have hw5' := hw4.trans (hB5.mono hw4.size)
    have p5 : w.heap.size < W5.heap.size := by omega
    have r5 : w.heap.size + 1 < W5.heap.size := by omega
    have hbx5 := fun i => (hB5.cell (p := ⟨w.heap.size, i, none⟩) p4).trans (HB4.out i)
    have hbo5 := fun i => (hB5.cell (p := ⟨w.heap.size + 1, i, none⟩) r4).trans (HO4.out i)
    obtain ⟨x0, x1, x2, x3, x4, x5, x6, x7, x8, x9, x10⟩ : W5.cell? ⟨w.heap.size, 0, none⟩ = some (.int .i64 s.P) ∧ W5.cell? ⟨w.heap.size, 1, none⟩ = some (.int .i64 s.tl) ∧ W5.cell? ⟨w.heap.size, 2, none⟩ = some (.int .i64 s.th) ∧ W5.cell? ⟨w.heap.size, 3, none⟩ = some (.int .i64 s.al) ∧ W5.cell? ⟨w.heap.size, 4, none⟩ = some (.int .i64 s.ah) ∧ W5.cell? ⟨w.heap.size, 5, none⟩ = some (.int .i64 s.room) ∧ W5.cell? ⟨w.heap.size, 6, none⟩ = some (.int .i64 s.xl) ∧ W5.cell? ⟨w.heap.size, 7, none⟩ = some (.int .i64 s.xh) ∧ W5.cell? ⟨w.heap.size, 8, none⟩ = some (.int .i64 s.yl) ∧ W5.cell? ⟨w.heap.size, 9, none⟩ = some (.int .i64 s.yh) ∧ W5.cell? ⟨w.heap.size, 10, none⟩ = some (.slice a len cap) := ⟨hbx5 0, hbx5 1, hbx5 2, hbx5 3, hbx5 4, hbx5 5, hbx5 6, hbx5 7, hbx5 8, hbx5 9, hbx5 10⟩
    have HBX5 := Lib.hid hbx5
    have HBO5 := Lib.hid hbo5
    have HG5 := Lib.hid (HG.out.below hB5)
    have HH5 := Lib.hid (HH.out.below hB5)
    have HP15 := Lib.hid (HP1.out.below hB5)
    have HP25 := Lib.hid (HP2.out.below hB5)
    have HM5 := Lib.hid hM5
    have hgm : g < w5.heap.size := by omega
    have hhm : h < w5.heap.size := by omega
    have hsz5 := hM5.2.2
    clear hbx5 hbo5 hM5 hB5 hV5 hb5
    have HX5 := Lib.hid (fun W (hb : Below W5.heap.size W5 W) => HX.out W (hw5'.trans (hb.mono hw5'.size)))
    have HD5 := Lib.hid (fun x' xc' W (hb : Below W5.heap.size W5 W ∧ ∀ b o, b < W5.heap.size → W.cell? ⟨b, o, none⟩ = W5.cell? ⟨b, o, none⟩) (hx' : IntsAt W x' xlen ns) => bothS1 (W0 := W5) (HD.out x' xc' W (hw5'.trans (hb.1.mono hw5'.size)) hx') hb)
    go_cut [11, 12] (fun v11 v12 wx => ∃ gq : Nat, v11 = .pointer (some ⟨gq, 0, none⟩) ∧ v12 = .int .i64 0 ∧ (wx.cell? ⟨gq, 0, none⟩ = some (.int .i64 n1) ∧ wx.cell? ⟨gq, 1, none⟩ = some (.int .i64 n2) ∧ wx.cell? ⟨gq, 2, none⟩ = some (.int .i64 n3) ∧ wx.cell? ⟨gq, 3, none⟩ = some (.int .i64 n4) ∧ wx.cell? ⟨gq, 4, none⟩ = some (.int .i64 n5)) ∧ W5.heap.size ≤ gq ∧ gq < wx.heap.size ∧ Below W5.heap.size W5 wx)
    case first =>
      go_region_held3 (fun w' => Below W5.heap.size W5 w' ∧ ∀ b o, b < W5.heap.size → w'.cell? ⟨b, o, none⟩ = W5.cell? ⟨b, o, none⟩) (first | with_reducible assumption | ((repeat (first | with_reducible refine bothS_drew ?_ | with_reducible refine bothS_alloc _ ?_ | with_reducible refine bothS_set _ _ (by first | omega | (simp; omega) | simp) ?_)); first | with_reducible assumption | with_reducible exact Hid.out (by assumption) | with_reducible exact ⟨Below.refl _ _, fun _ _ _ => rfl⟩))
        (first
          | ((with_reducible refine step_append_far _ W5.heap.size (W5.heap.size) xlen xcap x ns rfl _ _ rfl ?_ ?_ ?_ ?_ hxl ?_ ?_ ?_); (· rfl); (· rfl); (· first | exact (made_row (by simp) (by simp)).drew | exact ((made_row (by simp) (by simp)).alloc _).drew | exact made_row (by simp) (by simp) | exact (made_row (by simp) (by simp)).alloc _); (· exact HX5.out _ (And.left (by assumption))); (· first | exact Nat.le_refl _ | omega | (simp; done) | (simp; omega)); (· first | (simp; done) | (simp; omega) | omega); intro gA cA wA hxA hbA hcA hfA hsA; have kA := bothS_step (by assumption) hbA; have HXA := Lib.hid hxA; (try simp at hsA); have sA1 : W5.heap.size < wA.heap.size := (by omega); (try have sA2 : W5.heap.size + 1 < wA.heap.size := (by omega)); clear hxA hbA)
          | ((with_reducible refine step_append_far _ W5.heap.size (W5.heap.size + 1) xlen xcap x ns rfl _ _ rfl ?_ ?_ ?_ ?_ hxl ?_ ?_ ?_); (· rfl); (· rfl); (· first | exact (made_row (by simp) (by simp)).drew | exact ((made_row (by simp) (by simp)).alloc _).drew | exact made_row (by simp) (by simp) | exact (made_row (by simp) (by simp)).alloc _); (· exact HX5.out _ (And.left (by assumption))); (· first | exact Nat.le_refl _ | omega | (simp; done) | (simp; omega)); (· first | (simp; done) | (simp; omega) | omega); intro gA cA wA hxA hbA hcA hfA hsA; have kA := bothS_step (by assumption) hbA; have HXA := Lib.hid hxA; (try simp at hsA); have sA1 : W5.heap.size < wA.heap.size := (by omega); (try have sA2 : W5.heap.size + 1 < wA.heap.size := (by omega)); clear hxA hbA)
          | (go_at_call 18; (with_reducible refine (HD5.out _ _ _ ?_ ?_).mono ?_); (· with_reducible assumption); (· first | exact HXA.out | exact HXA.out.below (by repeat (first | exact Below.refl _ _ | (refine Below.alloc ?_ (by first | omega | (simp; omega) | simp) _) | (refine Below.setCell ?_ (by first | omega | (simp; omega) | simp) _) | refine Below.drew ?_))); rintro e w' ⟨rfl, k, k1, k2, k3⟩; have HK := Lib.hid k; (try simp at k3); have sB1 : W5.heap.size < w'.heap.size := (by omega); (try have sB2 : W5.heap.size + 1 < w'.heap.size := (by omega))))
      all_goals (go_wp2_with fail; go_meet; exact ⟨_, rfl, rfl, ⟨(by first | (go_simp; done) | (go_simp; exact set_same (u := .int .i64 0) (by go_simp; done)) | exact set_same (u := .int .i64 0) (by go_simp; done) | (go_simp; exact set_same (u := .slice none 0 0) (by go_simp; done)) | exact set_same (u := .slice none 0 0) (by go_simp; done)), (by first | (go_simp; done) | (go_simp; exact set_same (u := .int .i64 0) (by go_simp; done)) | exact set_same (u := .int .i64 0) (by go_simp; done) | (go_simp; exact set_same (u := .slice none 0 0) (by go_simp; done)) | exact set_same (u := .slice none 0 0) (by go_simp; done)), (by first | (go_simp; done) | (go_simp; exact set_same (u := .int .i64 0) (by go_simp; done)) | exact set_same (u := .int .i64 0) (by go_simp; done) | (go_simp; exact set_same (u := .slice none 0 0) (by go_simp; done)) | exact set_same (u := .slice none 0 0) (by go_simp; done)), (by first | (go_simp; done) | (go_simp; exact set_same (u := .int .i64 0) (by go_simp; done)) | exact set_same (u := .int .i64 0) (by go_simp; done) | (go_simp; exact set_same (u := .slice none 0 0) (by go_simp; done)) | exact set_same (u := .slice none 0 0) (by go_simp; done)), (by first | (go_simp; done) | (go_simp; exact set_same (u := .int .i64 0) (by go_simp; done)) | exact set_same (u := .int .i64 0) (by go_simp; done) | (go_simp; exact set_same (u := .slice none 0 0) (by go_simp; done)) | exact set_same (u := .slice none 0 0) (by go_simp; done))⟩, (by first | with_reducible assumption | (simp; done) | (simp; omega) | omega), (by first | with_reducible assumption | (simp; done) | (simp; omega) | omega), And.left (by assumption)⟩)
    case rest =>
      obtain ⟨gq, rfl, rfl, ⟨z0, z1, z2, z3, z4⟩, hgq1, hgq2, hB6⟩ := hcut
      obtain ⟨w6, rfl⟩ : ∃ w6 : World, w6 = wc := ⟨_, rfl⟩
      have hz6 := hB6.size
      have hw6 := hw5'.trans (hB6.mono hw5'.size)
      have p6 : w.heap.size < w6.heap.size := by omega
      have r6 : w.heap.size + 1 < w6.heap.size := by omega
      have hbx6 := fun i => (hB6.cell (p := ⟨w.heap.size, i, none⟩) p5).trans (HBX5.out i)
      have hbo6 := fun i => (hB6.cell (p := ⟨w.heap.size + 1, i, none⟩) r5).trans (HBO5.out i)
      clear x0 x1 x2 x3 x4 x5 x6 x7 x8 x9 x10
      obtain ⟨x0, x1, x2, x3, x4, x5, x6, x7, x8, x9, x10⟩ : w6.cell? ⟨w.heap.size, 0, none⟩ = some (.int .i64 s.P) ∧ w6.cell? ⟨w.heap.size, 1, none⟩ = some (.int .i64 s.tl) ∧ w6.cell? ⟨w.heap.size, 2, none⟩ = some (.int .i64 s.th) ∧ w6.cell? ⟨w.heap.size, 3, none⟩ = some (.int .i64 s.al) ∧ w6.cell? ⟨w.heap.size, 4, none⟩ = some (.int .i64 s.ah) ∧ w6.cell? ⟨w.heap.size, 5, none⟩ = some (.int .i64 s.room) ∧ w6.cell? ⟨w.heap.size, 6, none⟩ = some (.int .i64 s.xl) ∧ w6.cell? ⟨w.heap.size, 7, none⟩ = some (.int .i64 s.xh) ∧ w6.cell? ⟨w.heap.size, 8, none⟩ = some (.int .i64 s.yl) ∧ w6.cell? ⟨w.heap.size, 9, none⟩ = some (.int .i64 s.yh) ∧ w6.cell? ⟨w.heap.size, 10, none⟩ = some (.slice a len cap) := ⟨hbx6 0, hbx6 1, hbx6 2, hbx6 3, hbx6 4, hbx6 5, hbx6 6, hbx6 7, hbx6 8, hbx6 9, hbx6 10⟩
      obtain ⟨y0, y1, y2, y3, y4⟩ : w6.cell? ⟨w.heap.size + 1, 0, none⟩ = some (.int .i64 q) ∧ w6.cell? ⟨w.heap.size + 1, 1, none⟩ = some (.int .i64 b1) ∧ w6.cell? ⟨w.heap.size + 1, 2, none⟩ = some (.int .i64 b2) ∧ w6.cell? ⟨w.heap.size + 1, 3, none⟩ = some (.int .i64 c1) ∧ w6.cell? ⟨w.heap.size + 1, 4, none⟩ = some (.int .i64 c2) := ⟨hbo6 0, hbo6 1, hbo6 2, hbo6 3, hbo6 4⟩
      have hG6 := HG5.out.below hB6
      have hH6 := HH5.out.below hB6
      have hM6 := HM5.out.below hB6
      obtain ⟨m0, m1, m2, m3, m4⟩ : w6.cell? ⟨w5.heap.size, 0, none⟩ = some (.int .i64 0) ∧ w6.cell? ⟨w5.heap.size, 1, none⟩ = some (.int .i64 0) ∧ w6.cell? ⟨w5.heap.size, 2, none⟩ = some (.int .i64 0) ∧ w6.cell? ⟨w5.heap.size, 3, none⟩ = some (.int .i64 0) ∧ w6.cell? ⟨w5.heap.size, 4, none⟩ = some (.int .i64 0) := ⟨hM6.1 0 _ rfl, hM6.1 1 _ rfl, hM6.1 2 _ rfl, hM6.1 3 _ rfl, hM6.1 4 _ rfl⟩
      obtain ⟨g0, g1, g2, g3, g4, g5, g6, g7, g8, g9, g10⟩ : w6.cell? ⟨g, 0, none⟩ = some (.int .i64 s.P) ∧ w6.cell? ⟨g, 1, none⟩ = some (.int .i64 s.tl) ∧ w6.cell? ⟨g, 2, none⟩ = some (.int .i64 s.th) ∧ w6.cell? ⟨g, 3, none⟩ = some (.int .i64 s.al) ∧ w6.cell? ⟨g, 4, none⟩ = some (.int .i64 s.ah) ∧ w6.cell? ⟨g, 5, none⟩ = some (.int .i64 s.room) ∧ w6.cell? ⟨g, 6, none⟩ = some (.int .i64 s.xl) ∧ w6.cell? ⟨g, 7, none⟩ = some (.int .i64 s.xh) ∧ w6.cell? ⟨g, 8, none⟩ = some (.int .i64 s.yl) ∧ w6.cell? ⟨g, 9, none⟩ = some (.int .i64 s.yh) ∧ w6.cell? ⟨g, 10, none⟩ = some (.slice a1 len cap1) := ⟨hG6.1 0 _ rfl, hG6.1 1 _ rfl, hG6.1 2 _ rfl, hG6.1 3 _ rfl, hG6.1 4 _ rfl, hG6.1 5 _ rfl, hG6.1 6 _ rfl, hG6.1 7 _ rfl, hG6.1 8 _ rfl, hG6.1 9 _ rfl, hG6.1 10 _ rfl⟩
      obtain ⟨h0, h1, h2, h3, h4, h5, h6, h7, h8, h9, h10⟩ : w6.cell? ⟨h, 0, none⟩ = some (.int .i64 s.P) ∧ w6.cell? ⟨h, 1, none⟩ = some (.int .i64 s.tl) ∧ w6.cell? ⟨h, 2, none⟩ = some (.int .i64 s.th) ∧ w6.cell? ⟨h, 3, none⟩ = some (.int .i64 s.al) ∧ w6.cell? ⟨h, 4, none⟩ = some (.int .i64 s.ah) ∧ w6.cell? ⟨h, 5, none⟩ = some (.int .i64 s.room) ∧ w6.cell? ⟨h, 6, none⟩ = some (.int .i64 s.xl) ∧ w6.cell? ⟨h, 7, none⟩ = some (.int .i64 s.xh) ∧ w6.cell? ⟨h, 8, none⟩ = some (.int .i64 s.yl) ∧ w6.cell? ⟨h, 9, none⟩ = some (.int .i64 s.yh) ∧ w6.cell? ⟨h, 10, none⟩ = some (.slice a2 len cap2) := ⟨hH6.1 0 _ rfl, hH6.1 1 _ rfl, hH6.1 2 _ rfl, hH6.1 3 _ rfl, hH6.1 4 _ rfl, hH6.1 5 _ rfl, hH6.1 6 _ rfl, hH6.1 7 _ rfl, hH6.1 8 _ rfl, hH6.1 9 _ rfl, hH6.1 10 _ rfl⟩
      have gf := hG6.2.1
      have hf := hH6.2.1
      have HG6 := Lib.hid hG6
      have HH6 := Lib.hid hH6
      clear hG6 hH6 hM6 hbx6 hbo6
      have ne1 : g ≠ w5.heap.size := by omega
      have ne2 : h ≠ w5.heap.size := by omega
      have ne3 : g ≠ gq := by omega
      have ne4 : h ≠ gq := by omega
      have ne5 : h ≠ g := Ne.symm hgh
      have ne6 : g ≠ w.heap.size := by omega
      have ne7 : h ≠ w.heap.size := by omega
      have ne8 : g ≠ w.heap.size + 1 := by omega
      have ne9 : h ≠ w.heap.size + 1 := by omega
      go_upto_region 8 with fail
      have HP16 := Lib.hid (HP15.out.below hB6)
      have HP26 := Lib.hid (HP25.out.below hB6)
      go_cut [] (fun wx => Box wx g #[.int .i64 0, .int .i64 0, .int .i64 0, .int .i64 0, .int .i64 0, .int .i64 s.room, .int .i64 s.xl, .int .i64 s.xh, .int .i64 s.yl, .int .i64 s.yh, .slice a1 len cap1] ∧ Box wx h #[.int .i64 n1, .int .i64 n2, .int .i64 n3, .int .i64 n4, .int .i64 n5, .int .i64 s.room, .int .i64 s.xl, .int .i64 s.xh, .int .i64 s.yl, .int .i64 s.yh, .slice a2 len cap2] ∧ PigsAt wx a1 len s.pigs ∧ PigsAt wx a2 len s.pigs ∧ (wx.cell? ⟨w.heap.size + 1, 0, none⟩ = some (.int .i64 q) ∧ wx.cell? ⟨w.heap.size + 1, 1, none⟩ = some (.int .i64 b1) ∧ wx.cell? ⟨w.heap.size + 1, 2, none⟩ = some (.int .i64 b2) ∧ wx.cell? ⟨w.heap.size + 1, 3, none⟩ = some (.int .i64 c1) ∧ wx.cell? ⟨w.heap.size + 1, 4, none⟩ = some (.int .i64 c2)) ∧ w.heap.size + 1 < wx.heap.size ∧ Below w.heap.size w wx)
      case first =>
        go_region
        all_goals
          go_wp2_with fail
          go_meet
          refine ⟨?_, ?_, ?_, ?_, ⟨by go_simp, by go_simp, by go_simp, by go_simp, by go_simp⟩, (by first | with_reducible assumption | (simp; done) | (simp; omega) | omega), ?_⟩
          · repeat (first | with_reducible exact HG6.out | with_reducible exact HH6.out | with_reducible refine Box.drew ?_ | with_reducible refine Box.set5 (u0 := .int .i64 s.P) (u1 := .int .i64 s.tl) (u2 := .int .i64 s.th) (u3 := .int .i64 s.al) (u4 := .int .i64 s.ah) _ _ _ _ _ ?_ | with_reducible refine Box.far _ _ ?_ (by first | with_reducible assumption | (simp; done) | (simp; omega) | omega))
          · repeat (first | with_reducible exact HG6.out | with_reducible exact HH6.out | with_reducible refine Box.drew ?_ | with_reducible refine Box.set5 (u0 := .int .i64 s.P) (u1 := .int .i64 s.tl) (u2 := .int .i64 s.th) (u3 := .int .i64 s.al) (u4 := .int .i64 s.ah) _ _ _ _ _ ?_ | with_reducible refine Box.far _ _ ?_ (by first | with_reducible assumption | (simp; done) | (simp; omega) | omega))
          · refine PigsAt.below (Below.refl _ _).drew ?_
            repeat (with_reducible refine PigsAt.kept ?_ (gb_setCell _ _ _ _) (fun h0 b o e => (by have hh := hA1 h0 b o e; simp at hh ⊢; omega)))
            exact HP16.out
          · refine PigsAt.below (Below.refl _ _).drew ?_
            repeat (with_reducible refine PigsAt.kept ?_ (gb_setCell _ _ _ _) (fun h0 b o e => (by have hh := hA2 h0 b o e; simp at hh ⊢; omega)))
            exact HP26.out
          · refine Below.drew ?_
            repeat (with_reducible refine Below.setCell ?_ (by first | (simp; done) | (simp; omega) | omega) _)
            exact hw6
      case rest =>
        obtain ⟨hG, hH, hP1, hP2, ⟨y0, y1, y2, y3, y4⟩, hzx, hwx⟩ := hcut
        obtain ⟨w7, rfl⟩ : ∃ w7 : World, w7 = wc := ⟨_, rfl⟩
        obtain ⟨g0, g1, g2, g3, g4, g5, g6, g7, g8, g9, g10⟩ : w7.cell? ⟨g, 0, none⟩ = some (.int .i64 0) ∧ w7.cell? ⟨g, 1, none⟩ = some (.int .i64 0) ∧ w7.cell? ⟨g, 2, none⟩ = some (.int .i64 0) ∧ w7.cell? ⟨g, 3, none⟩ = some (.int .i64 0) ∧ w7.cell? ⟨g, 4, none⟩ = some (.int .i64 0) ∧ w7.cell? ⟨g, 5, none⟩ = some (.int .i64 s.room) ∧ w7.cell? ⟨g, 6, none⟩ = some (.int .i64 s.xl) ∧ w7.cell? ⟨g, 7, none⟩ = some (.int .i64 s.xh) ∧ w7.cell? ⟨g, 8, none⟩ = some (.int .i64 s.yl) ∧ w7.cell? ⟨g, 9, none⟩ = some (.int .i64 s.yh) ∧ w7.cell? ⟨g, 10, none⟩ = some (.slice a1 len cap1) := ⟨hG.1 0 _ rfl, hG.1 1 _ rfl, hG.1 2 _ rfl, hG.1 3 _ rfl, hG.1 4 _ rfl, hG.1 5 _ rfl, hG.1 6 _ rfl, hG.1 7 _ rfl, hG.1 8 _ rfl, hG.1 9 _ rfl, hG.1 10 _ rfl⟩
        obtain ⟨h0, h1, h2, h3, h4, h5, h6, h7, h8, h9, h10⟩ : w7.cell? ⟨h, 0, none⟩ = some (.int .i64 n1) ∧ w7.cell? ⟨h, 1, none⟩ = some (.int .i64 n2) ∧ w7.cell? ⟨h, 2, none⟩ = some (.int .i64 n3) ∧ w7.cell? ⟨h, 3, none⟩ = some (.int .i64 n4) ∧ w7.cell? ⟨h, 4, none⟩ = some (.int .i64 n5) ∧ w7.cell? ⟨h, 5, none⟩ = some (.int .i64 s.room) ∧ w7.cell? ⟨h, 6, none⟩ = some (.int .i64 s.xl) ∧ w7.cell? ⟨h, 7, none⟩ = some (.int .i64 s.xh) ∧ w7.cell? ⟨h, 8, none⟩ = some (.int .i64 s.yl) ∧ w7.cell? ⟨h, 9, none⟩ = some (.int .i64 s.yh) ∧ w7.cell? ⟨h, 10, none⟩ = some (.slice a2 len cap2) := ⟨hH.1 0 _ rfl, hH.1 1 _ rfl, hH.1 2 _ rfl, hH.1 3 _ rfl, hH.1 4 _ rfl, hH.1 5 _ rfl, hH.1 6 _ rfl, hH.1 7 _ rfl, hH.1 8 _ rfl, hH.1 9 _ rfl, hH.1 10 _ rfl⟩
        have g7l := hG.2.2
        have h7l := hH.2.2
        have HP17 := Lib.hid (fun W (hb : Below w7.heap.size w7 W) => hP1.below hb)
        have HP27 := Lib.hid (fun W (hb : Below w7.heap.size w7 W) => hP2.below hb)
        have HWX := Lib.hid hwx
        clear hG hH hP1 hP2 hA1 hA2
        go_wp2_with fail
        first
          | (refine (HW.out _).mono ?_
             rintro e w8 ⟨rfl, hb8⟩
             have hw8 := hwx.trans (hb8.mono hwx.size)
             clear hb8
             go_wp2_with fail
             go_ret
             exact ⟨rfl, hw8⟩)
          | (refine (HKa.out _ _ _ (HP17.out _ (Below.refl _ _))).mono ?_
             rintro e w8 ⟨rfl, hb8⟩
             obtain ⟨hc8, hf8⟩ := bcell hb8
             have hz8 := hb8.size
             have hB8 := hb8
             have hw8 := hwx.trans (hb8.mono hwx.size)
             have g8l : g < w8.heap.size := by omega
             have h8l : h < w8.heap.size := by omega
             have z8 : w.heap.size + 1 < w8.heap.size := by omega
             clear hb8
             cases ra
             · go_wp2_with fail
               refine (HW.out _).mono ?_
               rintro e w9 ⟨rfl, hb9⟩
               have hw9 := hw8.trans (hb9.mono hw8.size)
               clear hb9
               go_wp2_with fail
               go_ret
               exact ⟨rfl, hw9⟩
             · go_wp2_with fail
               refine (HKb.out _ _ _ (HP27.out _ hB8)).mono ?_
               rintro e w9 ⟨rfl, hb9⟩
               obtain ⟨hc9, hf9⟩ := bcell hb9
               have hz9 := hb9.size
               have hB9 := hB8.trans (hb9.mono hB8.size)
               have hw9 := hwx.trans (hB9.mono hwx.size)
               have g9l : g < w9.heap.size := by omega
               have h9l : h < w9.heap.size := by omega
               have z9 : w.heap.size + 1 < w9.heap.size := by omega
               clear hb9
               cases rb
               · go_wp2_with fail
                 refine (HW.out _).mono ?_
                 rintro e w10 ⟨rfl, hb10⟩
                 have hw10 := hw9.trans (hb10.mono hw9.size)
                 clear hb10
                 go_wp2_with fail
                 go_ret
                 exact ⟨rfl, hw10⟩
               · go_wp2_with fail
                 refine (HAa.out trivial _ _ _ hw9 (HP17.out _ hB9)).mono ?_
                 rintro e w10 ⟨rfl, hb10⟩
                 obtain ⟨hc10, hf10⟩ := bcell hb10
                 have hz10 := hb10.size
                 have hB10 := hB9.trans (hb10.mono hB9.size)
                 have hw10 := hwx.trans (hB10.mono hwx.size)
                 have g10l : g < w10.heap.size := by omega
                 have h10l : h < w10.heap.size := by omega
                 have z10 : w.heap.size + 1 < w10.heap.size := by omega
                 clear hb10
                 cases ia
                 · go_wp2_with fail
                   refine (HW.out _).mono ?_
                   rintro e w11 ⟨rfl, hb11⟩
                   have hw11 := hw10.trans (hb11.mono hw10.size)
                   clear hb11
                   go_wp2_with fail
                   go_ret
                   exact ⟨rfl, hw11⟩
                 · have HX10 := Lib.hid (fun W (hb : Below w10.heap.size w10 W) => HX.out W (hw10.trans (hb.mono hw10.size)))
                   have HD10 := Lib.hid (fun x' xc' W (hb : Below w10.heap.size w10 W ∧ ∀ b o, b < w10.heap.size → W.cell? ⟨b, o, none⟩ = w10.cell? ⟨b, o, none⟩) (hx' : IntsAt W x' xlen ns) => bothS1 (W0 := w10) (HD2.out (by trivial) (by trivial) x' xc' a1 cap1 W (HP17.out _ (hB10.trans (hb.1.mono hB10.size))) hx') hb)
                   go_upto_region 11 with fail
                   go_cut [13, 14] (fun v13 v14 wx => ∃ gu : Nat, v13 = .pointer (some ⟨gu, 0, none⟩) ∧ v14 = .int .i64 0 ∧ (wx.cell? ⟨gu, 0, none⟩ = some (.int .i64 e1) ∧ wx.cell? ⟨gu, 1, none⟩ = some (.int .i64 e2) ∧ wx.cell? ⟨gu, 2, none⟩ = some (.int .i64 e3) ∧ wx.cell? ⟨gu, 3, none⟩ = some (.int .i64 e4) ∧ wx.cell? ⟨gu, 4, none⟩ = some (.int .i64 e5)) ∧ w10.heap.size ≤ gu ∧ gu < wx.heap.size ∧ Below w10.heap.size w10 wx)
                   case first =>
                     go_region_held3 (fun w' => Below w10.heap.size w10 w' ∧ ∀ b o, b < w10.heap.size → w'.cell? ⟨b, o, none⟩ = w10.cell? ⟨b, o, none⟩) (first | with_reducible assumption | ((repeat (first | with_reducible refine bothS_drew ?_ | with_reducible refine bothS_alloc _ ?_ | with_reducible refine bothS_set _ _ (by first | omega | (simp; omega) | simp) ?_)); first | with_reducible assumption | with_reducible exact Hid.out (by assumption) | with_reducible exact ⟨Below.refl _ _, fun _ _ _ => rfl⟩))
                       (first
                         | ((with_reducible refine step_append_far _ w10.heap.size (w10.heap.size) xlen xcap x ns rfl _ _ rfl ?_ ?_ ?_ ?_ hxl ?_ ?_ ?_); (· rfl); (· rfl); (· first | exact (made_row (by simp) (by simp)).drew | exact ((made_row (by simp) (by simp)).alloc _).drew | exact made_row (by simp) (by simp) | exact (made_row (by simp) (by simp)).alloc _); (· exact HX10.out _ (And.left (by assumption))); (· first | exact Nat.le_refl _ | omega | (simp; done) | (simp; omega)); (· first | (simp; done) | (simp; omega) | omega); intro gA cA wA hxA hbA hcA hfA hsA; have kA := bothS_step (by assumption) hbA; have HXA := Lib.hid hxA; (try simp at hsA); have sA1 : w10.heap.size < wA.heap.size := (by omega); (try have sA2 : w10.heap.size + 1 < wA.heap.size := (by omega)); clear hxA hbA)
                         | ((with_reducible refine step_append_far _ w10.heap.size (w10.heap.size + 1) xlen xcap x ns rfl _ _ rfl ?_ ?_ ?_ ?_ hxl ?_ ?_ ?_); (· rfl); (· rfl); (· first | exact (made_row (by simp) (by simp)).drew | exact ((made_row (by simp) (by simp)).alloc _).drew | exact made_row (by simp) (by simp) | exact (made_row (by simp) (by simp)).alloc _); (· exact HX10.out _ (And.left (by assumption))); (· first | exact Nat.le_refl _ | omega | (simp; done) | (simp; omega)); (· first | (simp; done) | (simp; omega) | omega); intro gA cA wA hxA hbA hcA hfA hsA; have kA := bothS_step (by assumption) hbA; have HXA := Lib.hid hxA; (try simp at hsA); have sA1 : w10.heap.size < wA.heap.size := (by omega); (try have sA2 : w10.heap.size + 1 < wA.heap.size := (by omega)); clear hxA hbA)
                         | (go_at_call 18; (with_reducible refine (HD10.out _ _ _ ?_ ?_).mono ?_); (· with_reducible assumption); (· first | exact HXA.out | exact HXA.out.below (by repeat (first | exact Below.refl _ _ | (refine Below.alloc ?_ (by first | omega | (simp; omega) | simp) _) | (refine Below.setCell ?_ (by first | omega | (simp; omega) | simp) _) | refine Below.drew ?_))); rintro e w' ⟨rfl, k, k1, k2, k3⟩; have HK := Lib.hid k; (try simp at k3); have sB1 : w10.heap.size < w'.heap.size := (by omega); (try have sB2 : w10.heap.size + 1 < w'.heap.size := (by omega))))
                     all_goals (go_wp2_with fail; go_meet; exact ⟨_, rfl, rfl, ⟨(by first | (go_simp; done) | (go_simp; exact set_same (u := .int .i64 0) (by go_simp; done)) | exact set_same (u := .int .i64 0) (by go_simp; done) | (go_simp; exact set_same (u := .slice none 0 0) (by go_simp; done)) | exact set_same (u := .slice none 0 0) (by go_simp; done)), (by first | (go_simp; done) | (go_simp; exact set_same (u := .int .i64 0) (by go_simp; done)) | exact set_same (u := .int .i64 0) (by go_simp; done) | (go_simp; exact set_same (u := .slice none 0 0) (by go_simp; done)) | exact set_same (u := .slice none 0 0) (by go_simp; done)), (by first | (go_simp; done) | (go_simp; exact set_same (u := .int .i64 0) (by go_simp; done)) | exact set_same (u := .int .i64 0) (by go_simp; done) | (go_simp; exact set_same (u := .slice none 0 0) (by go_simp; done)) | exact set_same (u := .slice none 0 0) (by go_simp; done)), (by first | (go_simp; done) | (go_simp; exact set_same (u := .int .i64 0) (by go_simp; done)) | exact set_same (u := .int .i64 0) (by go_simp; done) | (go_simp; exact set_same (u := .slice none 0 0) (by go_simp; done)) | exact set_same (u := .slice none 0 0) (by go_simp; done)), (by first | (go_simp; done) | (go_simp; exact set_same (u := .int .i64 0) (by go_simp; done)) | exact set_same (u := .int .i64 0) (by go_simp; done) | (go_simp; exact set_same (u := .slice none 0 0) (by go_simp; done)) | exact set_same (u := .slice none 0 0) (by go_simp; done))⟩, (by first | with_reducible assumption | (simp; done) | (simp; omega) | omega), (by first | with_reducible assumption | (simp; done) | (simp; omega) | omega), And.left (by assumption)⟩)
                   case rest =>
                     obtain ⟨gu, rfl, rfl, ⟨u0, u1, u2, u3, u4⟩, hgu1, hgu2, hB11⟩ := hcut
                     obtain ⟨w11, rfl⟩ : ∃ w11 : World, w11 = wc := ⟨_, rfl⟩
                     obtain ⟨hc11, hf11⟩ := bcell hB11
                     have hz11 := hB11.size
                     have hw11 := hw10.trans (hB11.mono hw10.size)
                     have hB11' := hB10.trans (hB11.mono hB10.size)
                     have h11l : h < w11.heap.size := by omega
                     have z11 : w.heap.size + 1 < w11.heap.size := by omega
                     go_wp2_with fail
                     refine (HM2.out (by trivial) (by trivial) _ _ _ (HP27.out _ hB11')).mono ?_
                     rintro e w12 ⟨rfl, hb12⟩
                     obtain ⟨hc12, hf12⟩ := bcell hb12
                     have hz12 := hb12.size
                     have hw12 := hw11.trans (hb12.mono hw11.size)
                     have gu12 : gu < w12.heap.size := by omega
                     clear hb12
                     go_wp2_with fail
                     refine (HW.out _).mono ?_
                     rintro e w13 ⟨rfl, hb13⟩
                     have hw13 : Below w.heap.size w w13 := (hw12.alloc hw12.size _).trans (hb13.mono (by simp; omega))
                     clear hb13
                     go_wp2_with fail
                     go_ret
                     exact ⟨rfl, hw13⟩)
end Go.Proofs.Ytnlgchgpnfkjeaa
