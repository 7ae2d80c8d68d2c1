/- Flongs: the test: mathematics; the law's shown. -/
import Derived.Test.YtigeiaiohdemiaaHA
namespace Go.Proofs.Ytigeiaiohdemiaa
set_option linter.unusedVariables false
set_option linter.unusedSimpArgs false
open Go.RowKit

theorem tired_le (L : List (Nat → Int)) (j : Nat) : tiredN L j ≤ L.length := List.countP_le_length
theorem worst_le (L : List (Nat → Int)) (j : Nat) : worstOf L j ≤ L.length := by have := tired_le L j; unfold worstOf; omega
theorem test_min (L : List (Nat → Int)) : ∀ k j, j < k → (testTo L k).2 ≤ worstOf L j
  | 0, j, h => by omega
  | k + 1, j, h => by
    rw [testTo_next]
    by_cases e : j = k
    · subst e
      split <;> omega
    · have := test_min L k j (by omega)
      split <;> omega
theorem test_att (L : List (Nat → Int)) : ∀ k, (testTo L k).2 < L.length → (testTo L k).1 < k ∧ worstOf L (testTo L k).1 = (testTo L k).2 ∧ ∀ j, j < (testTo L k).1 → (testTo L k).2 < worstOf L j
  | 0, h => by simp [testTo] at h
  | k + 1, h => by
    rw [testTo_next] at h ⊢
    split
    · rename_i h1
      refine ⟨by simp only; omega, rfl, fun j hj => ?_⟩
      have := test_min L k j hj
      simp only; omega
    · rename_i h1
      rw [if_neg h1] at h
      obtain ⟨h2, h3, h4⟩ := test_att L k h
      exact ⟨by omega, h3, h4⟩
theorem agree_iff {ms : List Mould} {x : List Int} : agreeB ms x = true ↔ ∀ i (h1 : i < ms.length) (h2 : i < x.length), agM ms[i] x[i] = true := by
  unfold agreeB
  rw [List.all_eq_true]
  constructor
  · intro h i h1 h2
    have := h (ms[i], x[i]) (by
      have h3 : i < (ms.zip x).length := by simp; omega
      have h4 := List.getElem_mem h3
      rwa [List.getElem_zip] at h4)
    exact this
  · intro h q hq
    obtain ⟨i, hi, e⟩ := List.mem_iff_getElem.1 hq
    have h1 : i < ms.length := by simp at hi; omega
    have h2 : i < x.length := by simp at hi; omega
    rw [List.getElem_zip] at e
    rw [← e]
    exact h i h1 h2
theorem agree_set {ms : List Mould} {x : List Int} {m : Nat} (hm : m < ms.length) (hx : m < x.length) (a : Mould) (p : Bool) (h : agM a x[m] = (agM ms[m] x[m] && p)) : agreeB (ms.set m a) x = (agreeB ms x && p) := by
  rw [Bool.eq_iff_iff, Bool.and_eq_true, agree_iff, agree_iff]
  constructor
  · intro hh
    have h1 := hh m (by rw [List.length_set]; exact hm) hx
    rw [List.getElem_set_self, h, Bool.and_eq_true] at h1
    refine ⟨fun i h2 h3 => ?_, h1.2⟩
    by_cases e : m = i
    · subst e; exact h1.1
    · have := hh i (by rw [List.length_set]; exact h2) h3
      rwa [List.getElem_set_ne e] at this
  · rintro ⟨hh, hp⟩ i h2 h3
    have h2' : i < ms.length := by rwa [List.length_set] at h2
    by_cases e : m = i
    · subst e
      rw [List.getElem_set_self, h, hp, Bool.and_true]
      exact hh m hm h3
    · rw [List.getElem_set_ne e]; exact hh i h2' h3
theorem cast_moulds {s : FShop} {m : Nat} (hm : m < s.moulds.length) (b : Int) : (s.cast m b).moulds = s.moulds.set m (s.moulds[m].cast b) := by
  unfold FShop.cast; rw [List.getElem?_eq_getElem hm]; rfl
theorem cast_agree1 {s : FShop} {m : Nat} (hm : m < s.moulds.length) (hb : s.moulds[m].b ≠ 1) {x : List Int} (hx : x.length = s.moulds.length) : agreeB (s.cast m 1).moulds x = (agreeB s.moulds x && decide (cst s.moulds x m = 0)) := by
  rw [cast_moulds hm]
  refine agree_set hm (by omega) _ _ ?_
  rw [cst_at hm (by omega)]
  unfold agM Mould.cast
  rw [Bool.eq_iff_iff]
  simp [hb]
  omega
theorem cast_agree0 {s : FShop} {m : Nat} (hm : m < s.moulds.length) (hb : s.moulds[m].b ≠ 1) {x : List Int} (hx : x.length = s.moulds.length) : agreeB (s.cast m 0).moulds x = (agreeB s.moulds x && !decide (cst s.moulds x m = 0)) := by
  rw [cast_moulds hm]
  refine agree_set hm (by omega) _ _ ?_
  rw [cst_at hm (by omega)]
  unfold agM Mould.cast
  rw [Bool.eq_iff_iff]
  simp [hb]
  omega
theorem left_count (s : FShop) : s.left.length = s.worlds.countP (agreeB s.moulds) := by
  unfold FShop.left FShop.agreeing
  rw [List.length_map, List.countP_eq_length_filter]
theorem tired_count (s : FShop) (m : Nat) : tiredN s.left m = s.worlds.countP (fun x => agreeB s.moulds x && decide (cst s.moulds x m = 0)) := by
  unfold tiredN FShop.left FShop.agreeing
  rw [List.countP_map, List.countP_filter]
  refine List.countP_congr fun x _ => ?_
  simp [Function.comp, and_comm]
theorem cast_left1 {s : FShop} (ho : s.ok = true) {m : Nat} (hm : m < s.moulds.length) (hb : s.moulds[m].b ≠ 1) : (s.cast m 1).left.length = tiredN s.left m := by
  rw [left_count, tired_count]
  show s.worlds.countP _ = _
  refine List.countP_congr fun x hx => ?_
  obtain ⟨k, hk, rfl⟩ := List.mem_iff_getElem.1 hx
  rw [cast_agree1 hm hb (FShop.ok_world ho k hk).1]
theorem count_split (l : List (List Int)) (p q : List Int → Bool) : l.countP p = l.countP (fun x => p x && q x) + l.countP (fun x => p x && !q x) := by
  induction l with
  | nil => rfl
  | cons a l ih =>
    rw [List.countP_cons, List.countP_cons, List.countP_cons, ih]
    cases p a <;> cases q a <;> simp <;> omega
theorem cast_left0 {s : FShop} (ho : s.ok = true) {m : Nat} (hm : m < s.moulds.length) (hb : s.moulds[m].b ≠ 1) : (s.cast m 0).left.length + tiredN s.left m = s.left.length := by
  rw [left_count, tired_count, left_count, count_split s.worlds (agreeB s.moulds) (fun x => decide (cst s.moulds x m = 0)), Nat.add_comm]
  congr 1
  show s.worlds.countP _ = _
  refine List.countP_congr fun x hx => ?_
  obtain ⟨k, hk, rfl⟩ := List.mem_iff_getElem.1 hx
  rw [cast_agree0 hm hb (FShop.ok_world ho k hk).1]
theorem cast_ok {s : FShop} (ho : s.ok = true) {m : Nat} (hm : m < s.moulds.length) {b : Int} (h : b = 1 ∨ (b = 0 ∧ s.moulds[m].u < 12)) : (s.cast m b).ok = true := by
  have hM := FShop.ok_mould ho m hm
  unfold FShop.ok FShop.few at ho ⊢
  rw [cast_moulds hm, List.length_set]
  show (decide (s.wants.length ≤ 3) && decide (s.moulds.length ≤ 5) && decide (s.worlds.length ≤ 6) && s.wants.all _ && (s.moulds.set m (s.moulds[m].cast b)).all (mouldB s.wants.length) && s.worlds.all (worldB s.moulds.length) && btw s.fresh 1 12) = true
  simp only [Bool.and_eq_true] at ho ⊢
  obtain ⟨⟨⟨⟨h1, h2⟩, h3⟩, h4⟩, h5⟩ := ho
  refine ⟨⟨⟨⟨h1, h2⟩, ?_⟩, h4⟩, h5⟩
  rw [List.all_eq_true] at h3 ⊢
  intro q hq
  rcases List.mem_or_eq_of_mem_set hq with hq | rfl
  · exact h3 q hq
  · unfold mouldB Mould.cast
    obtain ⟨⟨a1, a2⟩, ⟨a3, a4⟩, a5, a6⟩ := hM
    rcases h with rfl | ⟨rfl, h⟩
    · simp [btw]; omega
    · simp [btw]; omega
theorem tired_all {s : FShop} (ho : s.ok = true) {m : Nat} (hm : m < s.moulds.length) (h : s.moulds[m].b = 1 ∨ s.moulds[m].u = 12) : worstOf s.left m = s.left.length := by
  have e : tiredN s.left m = s.left.length := by
    rw [tired_count, left_count]
    refine List.countP_congr fun x hx => ?_
    obtain ⟨k, hk, rfl⟩ := List.mem_iff_getElem.1 hx
    obtain ⟨h1, h2⟩ := FShop.ok_world ho k hk
    rw [Bool.and_eq_true, decide_eq_true_eq]
    constructor
    · exact And.left
    · intro ha
      refine ⟨ha, ?_⟩
      have h3 := agree_iff.1 ha m hm (by omega)
      have h4 := h2 m (by omega)
      rw [cst_at hm (by omega)]
      unfold agM at h3
      simp only [Bool.and_eq_true, Bool.or_eq_true, decide_eq_true_eq] at h3
      rcases h with h | h
      · rcases h3.2 with h5 | h5
        · exact absurd h h5
        · omega
      · omega
  unfold worstOf
  omega

set_option maxRecDepth 100000 in
set_option maxHeartbeats 4000000 in
theorem shown_is (s : FShop) (ma : Option Addr) (ml mc : Nat) (wa : Option Addr) (wl wc : Nat) (na : Option Addr) (nl nc : Nat) (m : Nat) (hm : m < s.moulds.length) (hb1 : s.moulds[m].b ≠ 1) (hu : s.moulds[m].u < 12) (ho : s.ok = true) (w : World) (hp : FAt w ma ml mc wa wl wc na nl nc s) :
    Calls Try.prog 47 #[.agg #[.slice ma ml mc, .slice wa wl wc, .slice na nl nc, .int .i64 s.fresh], .int .i64 m] w fun e w' => e = .returned (.int .i64 (worstOf s.left m : Nat)) ∧ Below w.heap.size w w' := by
  have hml := hp.1.1
  have hwl := hp.2.1.1
  have hnl := hp.2.2.1
  have hwm := hp.2.1.2.1
  obtain ⟨hn3, hm5, hw6⟩ := FShop.ok_few ho
  have HC0 := Lib.hid (fun W (hb : Below w.heap.size w W) => cast_is s ma ml mc wa wl wc na nl nc m 0 hm (.inl rfl) ho W (hp.below hb))
  have HC1 := Lib.hid (fun W (hb : Below w.heap.size w W) => cast_is s ma ml mc wa wl wc na nl nc m 1 hm (.inr rfl) ho W (hp.below hb))
  have ho0 := cast_ok ho hm (b := 0) (.inr ⟨rfl, hu⟩)
  have ho1 := cast_ok ho hm (b := 1) (.inl rfl)
  have hx40 : ∀ x ∈ s.worlds, x.length ≤ 40 := fun x hx => by
    obtain ⟨k, hk, rfl⟩ := List.mem_iff_getElem.1 hx
    have := (FShop.ok_world ho k hk).1; omega
  have HW := Lib.hid (fun (b : Int) (hob : (s.cast m b).ok = true) ga gm va vm ua um W (h : FAt W ga ml gm va wl vm ua nl um (s.cast m b)) => Worlds_yes (s.cast m b) ga ml gm va wl vm ua nl um W h hob (by simp [FShop.chk, hob]))
  have h0 := cast_left0 ho hm hb1
  have h1 := cast_left1 ho hm hb1
  have e0 := which_left (s.cast m 0)
  have e1 := which_left (s.cast m 1)
  obtain ⟨n0, hn0⟩ : ∃ n0, (s.cast m 0).which.length = n0 := ⟨_, rfl⟩
  obtain ⟨n1, hn1⟩ : ∃ n1, (s.cast m 1).which.length = n1 := ⟨_, rfl⟩
  have hW : worstOf s.left m = max n0 n1 := by unfold worstOf; omega
  have hlf : s.left.length ≤ wl := by rw [← hwl, left_count]; exact List.countP_le_length
  have hsum : n0 + n1 ≤ wl := by omega
  have HAT := Lib.hid (fun (b : Int) n0' gm cm va vc gw cw vs N1 W (h : CopyRow (s.cast m b) n0' ml wl nl gm cm va vc gw cw vs N1 W) => h.at (by omega) (by omega) (by omega) hx40)
  have hw6' : wl ≤ 6 := by omega
  have HE := Lib.hid hW
  have HOO := Lib.hid (And.intro ho0 ho1)
  have HN0 := Lib.hid hn0
  have HN1 := Lib.hid hn1
  clear hp ho hm hb1 hu hml hwl hnl hn3 hm5 hw6 ho0 ho1 hx40 h0 h1 e0 e1 hW hlf hn0 hn1
  unfold maxLen at hwm
  have hwr : IntKind.i64.wrap ((n0 : Int) + (n1 : Int)) = (n0 : Int) + (n1 : Int) := IntWalk.i64_in _ ⟨by omega, by omega⟩
  have hng : ¬ (wl : Int) < (n0 : Int) + (n1 : Int) := by omega
  have HWR := Lib.hid hwr
  clear hwr
  go_enter Try.func47, Try.ntmps47
  go_wp2_with fail
  refine (HC0.out _ (by repeat (first | exact Below.refl _ _ | (refine Below.alloc ?_ (by first | omega | (simp; omega) | simp) _) | (refine Below.setCell ?_ (by first | omega | (simp; omega) | simp) _) | refine Below.drew ?_))).mono ?_
  rintro e w1 ⟨gm, cm, va, vc, gw, cw, vs, N1, rfl, hR1, hb1⟩
  have hx0 := fun i => (hb1.cell (p := ⟨w.heap.size, i, none⟩) (by simp)).trans (World.cell?_alloc_new w #[.slice ma ml mc, .slice wa wl wc, .slice na nl nc, .int .i64 s.fresh] 26 i)
  obtain ⟨x0, x1, x2, x3⟩ : w1.cell? ⟨w.heap.size, 0, none⟩ = some (.slice ma ml mc) ∧ w1.cell? ⟨w.heap.size, 1, none⟩ = some (.slice wa wl wc) ∧ w1.cell? ⟨w.heap.size, 2, none⟩ = some (.slice na nl nc) ∧ w1.cell? ⟨w.heap.size, 3, none⟩ = some (.int .i64 s.fresh) := ⟨hx0 0, hx0 1, hx0 2, hx0 3⟩
  have q1 : w.heap.size < w1.heap.size := by have := hb1.size; simp at this; omega
  have hw1 := ((by repeat (first | exact Below.refl _ _ | (refine Below.alloc ?_ (by first | omega | (simp; omega) | simp) _) | (refine Below.setCell ?_ (by first | omega | (simp; omega) | simp) _) | refine Below.drew ?_)) : Below w.heap.size w _).trans (hb1.mono (by first | (simp; done) | (simp; omega) | omega))
  have hF1 := HAT.out 0 _ _ _ _ _ _ _ _ _ _ hR1
  clear hb1 hx0 hR1
  go_wp2_with fail
  refine (HW.out 0 HOO.out.1 _ _ _ _ _ _ _ hF1).mono ?_
  rintro e w2 ⟨ra, rc, rfl, -, hb2⟩
  rw [HN0.out]
  have hw2 := hw1.trans (hb2.mono hw1.size)
  have q2 : w.heap.size < w2.heap.size := Nat.lt_of_lt_of_le q1 hb2.size
  have y0 := (hb2.cell (p := ⟨w.heap.size, 0, none⟩) q1).trans x0; have y1 := (hb2.cell (p := ⟨w.heap.size, 1, none⟩) q1).trans x1; have y2 := (hb2.cell (p := ⟨w.heap.size, 2, none⟩) q1).trans x2; have y3 := (hb2.cell (p := ⟨w.heap.size, 3, none⟩) q1).trans x3; clear x0 x1 x2 x3
  clear hb2 hF1
  go_wp2_with fail
  refine (HC1.out _ hw2).mono ?_
  rintro e w3 ⟨gm', cm', va', vc', gw', cw', vs', N1', rfl, hR3, hb3⟩
  have hw3 := hw2.trans (hb3.mono hw2.size)
  have q3 : w.heap.size < w3.heap.size := Nat.lt_of_lt_of_le q2 hb3.size
  have x0 := (hb3.cell (p := ⟨w.heap.size, 0, none⟩) q2).trans y0; have x1 := (hb3.cell (p := ⟨w.heap.size, 1, none⟩) q2).trans y1; have x2 := (hb3.cell (p := ⟨w.heap.size, 2, none⟩) q2).trans y2; have x3 := (hb3.cell (p := ⟨w.heap.size, 3, none⟩) q2).trans y3; clear y0 y1 y2 y3
  have hF3 := HAT.out 1 _ _ _ _ _ _ _ _ _ _ hR3
  clear hb3 hR3
  go_wp2_with fail
  refine (HW.out 1 HOO.out.2 _ _ _ _ _ _ _ hF3).mono ?_
  rintro e w4 ⟨rb, rd, rfl, -, hb4⟩
  rw [HN1.out]
  have hw4 := hw3.trans (hb4.mono hw3.size)
  have y0 := (hb4.cell (p := ⟨w.heap.size, 0, none⟩) q3).trans x0; have y1 := (hb4.cell (p := ⟨w.heap.size, 1, none⟩) q3).trans x1; have y2 := (hb4.cell (p := ⟨w.heap.size, 2, none⟩) q3).trans x2; have y3 := (hb4.cell (p := ⟨w.heap.size, 3, none⟩) q3).trans x3; clear x0 x1 x2 x3
  clear hb4 hF3
  have hwr := HWR.out
  go_wp2_with fail
  all_goals
    go_ret
    refine ⟨ret_i64 ?_, hw4⟩
    rw [HE.out]
    omega
end Go.Proofs.Ytigeiaiohdemiaa
