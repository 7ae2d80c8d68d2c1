/- Package flongs: Divide and Bold. -/
import Derived.Test.YtigeiaiohdemiaaFP
namespace Go.Proofs.Ytigeiaiohdemiaa
set_option linter.unusedVariables false
set_option linter.unusedSimpArgs false
open Go.RowKit Go.Shelf

set_option maxHeartbeats 1000000 in
theorem justEnough_is (s : FShop) (ma : Option Addr) (ml mc : Nat) (wa : Option Addr) (wl wc : Nat) (na : Option Addr) (nl nc : Nat) (w : World) :
    Calls Try.prog 77 #[.agg #[.slice ma ml mc, .slice wa wl wc, .slice na nl nc, .int .i64 s.fresh]] w fun e w' => e = .returned (.func (.func 104) #[] #[.pointer (some ⟨w.heap.size, 0, none⟩)]) ∧ w.alloc (.cells #[.slice ma ml mc, .slice wa wl wc, .slice na nl nc, .int .i64 s.fresh] 77) = w' := by
  go_enter Try.func77, Try.ntmps77
  go_wp2_with fail
  go_ret
  exact ⟨rfl, rfl⟩

/-- The shares by which the most is spared; those that hold in the most worlds. -/
def FShop.divide (s : FShop) : Option (List Int) := match bestF (sparedOf (loOf s.left)) s.justs with
  | some (y, m) => if m < 0 then none else some y
  | none => none
def FShop.bold (s : FShop) : Option (List Int) := (bestF (fun x => (holdN s.left x : Int)) s.justs).map Prod.fst
def ListPost (o : Option (List Int)) (len : Nat) (w : World) (e : Ending) (w' : World) : Prop :=
  Below w.heap.size w w' ∧ ((o = none ∧ e = .returned (.tuple #[.slice none 0 0, .int .i64 3])) ∨ ∃ y g cc, o = some y ∧ e = .returned (.tuple #[.slice (some ⟨g, 0, none⟩) len cc, .int .i64 0]) ∧ RowI w' w.heap.size g len cc y)

set_option maxRecDepth 100000 in
set_option maxHeartbeats 4000000 in
theorem Divide_no (s : FShop) (ma : Option Addr) (ml mc : Nat) (wa : Option Addr) (wl wc : Nat) (na : Option Addr) (nl nc : Nat) (v : Int) (hv : s.ask true = v) (h0 : v ≠ 0) (w : World) (hp : FAt w ma ml mc wa wl wc na nl nc s) :
    Calls Try.prog 35 #[.agg #[.slice ma ml mc, .slice wa wl wc, .slice na nl nc, .int .i64 s.fresh]] w fun e w' => e = .returned (.tuple #[.slice none 0 0, .int .i64 v]) ∧ Below w.heap.size w w' := by
  have HA := Lib.hid (fun W (hb : Below w.heap.size w W) => asked_no s ma ml mc wa wl wc na nl nc _ v hv h0 W (hp.below hb))
  have e1 : (v == 0) = false := by simpa using h0
  have e2 : (v != 0) = true := by simpa using h0
  clear hp hv
  go_enter Try.func35, Try.ntmps35
  go_wp2_with fail
  refine (HA.out _ (by repeat (first | exact Below.refl _ _ | (refine Below.alloc ?_ (by first | omega | (simp; omega) | simp) _) | (refine Below.setCell ?_ (by first | omega | (simp; omega) | simp) _) | refine Below.drew ?_))).mono ?_
  rintro e w1 ⟨rfl, hb1⟩
  have hw1 := ((by repeat (first | exact Below.refl _ _ | (refine Below.alloc ?_ (by first | omega | (simp; omega) | simp) _) | (refine Below.setCell ?_ (by first | omega | (simp; omega) | simp) _) | refine Below.drew ?_)) : Below w.heap.size w _).trans (hb1.mono (by first | (simp; done) | (simp; omega) | omega))
  clear hb1
  go_wp2_with fail
  go_ret2
  exact ⟨rfl, hw1⟩
set_option maxRecDepth 100000 in
set_option maxHeartbeats 4000000 in
theorem Bold_no (s : FShop) (ma : Option Addr) (ml mc : Nat) (wa : Option Addr) (wl wc : Nat) (na : Option Addr) (nl nc : Nat) (v : Int) (hv : s.ask true = v) (h0 : v ≠ 0) (w : World) (hp : FAt w ma ml mc wa wl wc na nl nc s) :
    Calls Try.prog 36 #[.agg #[.slice ma ml mc, .slice wa wl wc, .slice na nl nc, .int .i64 s.fresh]] w fun e w' => e = .returned (.tuple #[.slice none 0 0, .int .i64 v]) ∧ Below w.heap.size w w' := by
  have HA := Lib.hid (fun W (hb : Below w.heap.size w W) => asked_no s ma ml mc wa wl wc na nl nc _ v hv h0 W (hp.below hb))
  have e1 : (v == 0) = false := by simpa using h0
  have e2 : (v != 0) = true := by simpa using h0
  clear hp hv
  go_enter Try.func36, Try.ntmps36
  go_wp2_with fail
  refine (HA.out _ (by repeat (first | exact Below.refl _ _ | (refine Below.alloc ?_ (by first | omega | (simp; omega) | simp) _) | (refine Below.setCell ?_ (by first | omega | (simp; omega) | simp) _) | refine Below.drew ?_))).mono ?_
  rintro e w1 ⟨rfl, hb1⟩
  have hw1 := ((by repeat (first | exact Below.refl _ _ | (refine Below.alloc ?_ (by first | omega | (simp; omega) | simp) _) | (refine Below.setCell ?_ (by first | omega | (simp; omega) | simp) _) | refine Below.drew ?_)) : Below w.heap.size w _).trans (hb1.mono (by first | (simp; done) | (simp; omega) | omega))
  clear hb1
  go_wp2_with fail
  go_ret2
  exact ⟨rfl, hw1⟩

set_option maxRecDepth 100000 in
set_option maxHeartbeats 4000000 in
theorem Divide_yes (s : FShop) (ma : Option Addr) (ml mc : Nat) (wa : Option Addr) (wl wc : Nat) (na : Option Addr) (nl nc : Nat) (w : World) (hp : FAt w ma ml mc wa wl wc na nl nc s) (ho : s.ok = true) (hl0 : 0 < s.left.length) :
    Calls Try.prog 35 #[.agg #[.slice ma ml mc, .slice wa wl wc, .slice na nl nc, .int .i64 s.fresh]] w fun e w' => ListPost s.divide ml w e w' := by
  have hm5 : ml ≤ 5 := by have := (FShop.ok_few ho).2.1; have := hp.1.1; omega
  have HA := Lib.hid (fun W (hb : Below w.heap.size w W) => asked_read s ma ml mc wa wl wc na nl nc W (hp.below hb) ho hl0)
  have HSP := Lib.hid (fun (W : World) (Sb b : Nat) (x : List Int) (hc : ∀ t, t < 5 → W.cell? ⟨Sb, t, none⟩ = some (.int .i64 (loOf s.left t))) (hx : IntsAt W (some ⟨b, 0, none⟩) ml x) (hxj : x ∈ s.justs) =>
    spared_any (loOf s.left) (fun t => by have := lo_bd ho t; omega) Sb (some ⟨b, 0, none⟩) ml ml x W hc hx hm5 (shares_bd (just_shares hxj)).2)
  have HGR := Lib.hid (fun (W : World) (Bs Sb : Nat) (hb : Below w.heap.size w W) (hbox : ∀ i, W.cell? ⟨Bs, i, none⟩ = (#[.slice ma ml mc, .slice wa wl wc, .slice na nl nc, .int .i64 s.fresh] : Array Value)[i]?) (hc : ∀ t, t < 5 → W.cell? ⟨Sb, t, none⟩ = some (.int .i64 (loOf s.left t))) =>
    greatest_D s ma ml mc wa wl wc na nl nc ho Bs Sb (sparedOf (loOf s.left)) W (hp.below hb) hbox (fun W' b x hb' hx hxj => HSP.out W' Sb b x (fun t ht => (hb'.cell (p := ⟨Sb, t, none⟩) (World.block_lt_of_cell? _ _ (hc t ht))).trans (hc t ht)) hx hxj))
  unfold GreatestPost at HGR
  have HJE := Lib.hid (fun W => justEnough_is s ma ml mc wa wl wc na nl nc W)
  clear hp HSP
  unfold ListPost
  go_enter Try.func35, Try.ntmps35
  go_wp2_with fail
  refine (HA.out _ (by repeat (first | exact Below.refl _ _ | (refine Below.alloc ?_ (by first | omega | (simp; omega) | simp) _) | (refine Below.setCell ?_ (by first | omega | (simp; omega) | simp) _) | refine Below.drew ?_))).mono ?_
  rintro e w1 ⟨⟨la, lc, rfl, hC1⟩, hb1⟩
  obtain ⟨hc1, hf1'⟩ := bcell hb1
  have hz1 := hb1.size
  simp at hz1
  have hw1 := ((by repeat (first | exact Below.refl _ _ | (refine Below.alloc ?_ (by first | omega | (simp; omega) | simp) _) | (refine Below.setCell ?_ (by first | omega | (simp; omega) | simp) _) | refine Below.drew ?_)) : Below w.heap.size w _).trans (hb1.mono (by first | (simp; done) | (simp; omega) | omega))
  have q1 : w.heap.size < w1.heap.size := by omega
  have q2 : w.heap.size + 1 < w1.heap.size := by omega
  have HS := Lib.hid (surely_is s.left la s.left.length lc w1 hC1 hl0)
  clear hb1 hC1
  go_wp2_with fail
  refine HS.out.mono ?_
  rintro e w2 ⟨rfl, hb2⟩
  have hz2 := hb2.size
  have hT : ∀ i, w2.cell? ⟨w.heap.size + 1, i, none⟩ = (#[.slice ma ml mc, .slice wa wl wc, .slice na nl nc, .int .i64 s.fresh] : Array Value)[i]? := fun i => (hb2.cell (p := ⟨w.heap.size + 1, i, none⟩) q2).trans ((hc1 _ _ (by simp)).trans (by go_simp))
  have hw2 := hw1.trans (hb2.mono hw1.size)
  obtain ⟨x0, x1, x2, x3⟩ : w2.cell? ⟨w.heap.size + 1, 0, none⟩ = some (.slice ma ml mc) ∧ w2.cell? ⟨w.heap.size + 1, 1, none⟩ = some (.slice wa wl wc) ∧ w2.cell? ⟨w.heap.size + 1, 2, none⟩ = some (.slice na nl nc) ∧ w2.cell? ⟨w.heap.size + 1, 3, none⟩ = some (.int .i64 s.fresh) := ⟨hT 0, hT 1, hT 2, hT 3⟩
  have s2 : w.heap.size + 1 < w2.heap.size := by omega
  have HW2 := Lib.hid hw2
  have hcs : ∀ t, t < 5 → ((w2.alloc (.cells #[.int .i64 (loOf s.left 0), .int .i64 (loOf s.left 1), .int .i64 (loOf s.left 2), .int .i64 (loOf s.left 3), .int .i64 (loOf s.left 4)] 85)).alloc (.cells #[.slice ma ml mc, .slice wa wl wc, .slice na nl nc, .int .i64 s.fresh] 77)).cell? ⟨w2.heap.size, t, none⟩ = some (.int .i64 (loOf s.left t)) := fun t ht => by
    rw [World.cell?_of_block (Below.heap_alloc _ _ _ (by simp)), World.cell?_alloc_new]; exact five_arr _ t ht
  have HCS := Lib.hid hcs
  clear hb2 hT hc1 hf1' hw1 hz1 q1 q2 hz2 hcs
  go_wp2_with (go_at_call 77; refine (HJE.out _).mono ?_; rintro e w3 ⟨rfl, rfl⟩)
  have hw3 := (hw2.alloc hw2.size (.cells #[.int .i64 (loOf s.left 0), .int .i64 (loOf s.left 1), .int .i64 (loOf s.left 2), .int .i64 (loOf s.left 3), .int .i64 (loOf s.left 4)] 85)).alloc (by simp; have := hw2.size; omega) (.cells #[.slice ma ml mc, .slice wa wl wc, .slice na nl nc, .int .i64 s.fresh] 77)
  refine (HGR.out _ _ _ hw3 (fun i => by simp) HCS.out).mono ?_
  have HW3 := Lib.hid hw3
  clear hw2 hw3
  rintro e w4 ⟨hb4, ⟨hn, rfl⟩ | ⟨y, m, g, cc, hbest, rfl, hr⟩⟩
  · have HD := Lib.hid (show s.divide = none by unfold FShop.divide; rw [hn])
    have HBW := Lib.hid (HW3.out.trans (hb4.mono HW3.out.size))
    clear hn hb4
    go_wp2_with fail
    go_ret2
    exact ⟨HBW.out, .inl ⟨HD.out, rfl⟩⟩
  · have HBW := Lib.hid (HW3.out.trans (hb4.mono HW3.out.size))
    have HR := Lib.hid (hr.low HW3.out.size)
    by_cases hm : m < 0
    · have HD := Lib.hid (show s.divide = none by unfold FShop.divide; rw [hbest]; simp [hm])
      clear hbest hr hb4
      go_wp2_with fail
      go_ret2
      exact ⟨HBW.out, .inl ⟨HD.out, rfl⟩⟩
    · have HD := Lib.hid (show s.divide = some y by unfold FShop.divide; rw [hbest]; simp [hm])
      clear hbest hr hb4
      go_wp2_with fail
      go_ret2
      exact ⟨HBW.out, .inr ⟨y, g, cc, HD.out, rfl, HR.out⟩⟩

set_option maxRecDepth 100000 in
set_option maxHeartbeats 4000000 in
theorem Bold_yes (s : FShop) (ma : Option Addr) (ml mc : Nat) (wa : Option Addr) (wl wc : Nat) (na : Option Addr) (nl nc : Nat) (w : World) (hp : FAt w ma ml mc wa wl wc na nl nc s) (ho : s.ok = true) (hl0 : 0 < s.left.length) :
    Calls Try.prog 36 #[.agg #[.slice ma ml mc, .slice wa wl wc, .slice na nl nc, .int .i64 s.fresh]] w fun e w' => ListPost s.bold ml w e w' := by
  have hm5 : ml ≤ 5 := by have := (FShop.ok_few ho).2.1; have := hp.1.1; omega
  have HA := Lib.hid (fun W (hb : Below w.heap.size w W) => asked_read s ma ml mc wa wl wc na nl nc W (hp.below hb) ho hl0)
  have hl6 := left_few ho
  have HGR := Lib.hid (fun (W : World) (Bs : Nat) (la : Option Addr) (lc : Nat) (hb : Below w.heap.size w W) (hbox : ∀ i, W.cell? ⟨Bs, i, none⟩ = (#[.slice ma ml mc, .slice wa wl wc, .slice na nl nc, .int .i64 s.fresh] : Array Value)[i]?) (hC : CastsAt W la s.left.length s.left) =>
    greatest_H s ma ml mc wa wl wc na nl nc ho Bs la s.left.length lc (fun x => (holdN s.left x : Int)) W (hp.below hb) hbox (fun W' b x hb' hx hxj => holding_any s.left la s.left.length lc (some ⟨b, 0, none⟩) ml ml x W' (hC.below hb') hl6 hx hm5))
  unfold GreatestPost at HGR
  have HJE := Lib.hid (fun W => justEnough_is s ma ml mc wa wl wc na nl nc W)
  clear hp
  unfold ListPost
  go_enter Try.func36, Try.ntmps36
  go_wp2_with fail
  refine (HA.out _ (by repeat (first | exact Below.refl _ _ | (refine Below.alloc ?_ (by first | omega | (simp; omega) | simp) _) | (refine Below.setCell ?_ (by first | omega | (simp; omega) | simp) _) | refine Below.drew ?_))).mono ?_
  rintro e w1 ⟨⟨la, lc, rfl, hC1⟩, hb1⟩
  obtain ⟨hc1, hf1'⟩ := bcell hb1
  have hz1 := hb1.size
  simp at hz1
  have hw1 := ((by repeat (first | exact Below.refl _ _ | (refine Below.alloc ?_ (by first | omega | (simp; omega) | simp) _) | (refine Below.setCell ?_ (by first | omega | (simp; omega) | simp) _) | refine Below.drew ?_)) : Below w.heap.size w _).trans (hb1.mono (by first | (simp; done) | (simp; omega) | omega))
  have q1 : w.heap.size < w1.heap.size := by omega
  have q2 : w.heap.size + 1 < w1.heap.size := by omega
  have hT : ∀ i, w1.cell? ⟨w.heap.size + 1, i, none⟩ = (#[.slice ma ml mc, .slice wa wl wc, .slice na nl nc, .int .i64 s.fresh] : Array Value)[i]? := fun i => (hc1 _ _ (by simp)).trans (by go_simp)
  obtain ⟨x0, x1, x2, x3⟩ : w1.cell? ⟨w.heap.size + 1, 0, none⟩ = some (.slice ma ml mc) ∧ w1.cell? ⟨w.heap.size + 1, 1, none⟩ = some (.slice wa wl wc) ∧ w1.cell? ⟨w.heap.size + 1, 2, none⟩ = some (.slice na nl nc) ∧ w1.cell? ⟨w.heap.size + 1, 3, none⟩ = some (.int .i64 s.fresh) := ⟨hT 0, hT 1, hT 2, hT 3⟩
  have HC1 := Lib.hid hC1
  have HW1 := Lib.hid hw1
  clear hb1 hC1 hT hc1 hf1' hz1 q1 hw1
  go_wp2_with (go_at_call 77; refine (HJE.out _).mono ?_; rintro e w3 ⟨rfl, rfl⟩)
  have hw3 := HW1.out.alloc HW1.out.size (.cells #[.slice ma ml mc, .slice wa wl wc, .slice na nl nc, .int .i64 s.fresh] 77)
  refine (HGR.out _ _ _ _ hw3 (fun i => World.cell?_alloc_new w1 _ _ i) (HC1.out.below (by repeat (first | exact Below.refl _ _ | (refine Below.alloc ?_ (by first | omega | (simp; omega) | simp) _) | (refine Below.setCell ?_ (by first | omega | (simp; omega) | simp) _) | refine Below.drew ?_)))).mono ?_
  have HW3 := Lib.hid hw3
  clear hw3
  rintro e w4 ⟨hb4, ⟨hn, rfl⟩ | ⟨y, m, g, cc, hbest, rfl, hr⟩⟩
  · have HD := Lib.hid (show s.bold = none by unfold FShop.bold; rw [hn]; rfl)
    have HBW := Lib.hid (HW3.out.trans (hb4.mono HW3.out.size))
    clear hn hb4
    go_wp2_with fail
    go_ret2
    exact ⟨HBW.out, .inl ⟨HD.out, rfl⟩⟩
  · have HBW := Lib.hid (HW3.out.trans (hb4.mono HW3.out.size))
    have HR := Lib.hid (hr.low HW3.out.size)
    have HD := Lib.hid (show s.bold = some y by unfold FShop.bold; rw [hbest]; rfl)
    clear hbest hr hb4
    go_wp2_with fail
    go_ret2
    exact ⟨HBW.out, .inr ⟨y, g, cc, HD.out, rfl, HR.out⟩⟩

end Go.Proofs.Ytigeiaiohdemiaa
