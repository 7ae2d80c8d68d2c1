/- The law of each world: mathematics, early ways. -/
import Derived.Test.YtigeiaiohdemiaaGE
namespace Go.Proofs.Ytigeiaiohdemiaa
set_option linter.unusedVariables false
set_option linter.unusedSimpArgs false
open Go.RowKit

theorem which_mem {s : FShop} {j : Nat} (hj : j < s.worlds.length) (h : agreeB s.moulds s.worlds[j] = true) : (j : Int) ∈ s.which := by
  unfold FShop.which whichTo
  refine List.mem_map.2 ⟨j, List.mem_filter.2 ⟨List.mem_range.2 hj, ?_⟩, rfl⟩
  rw [List.getElem?_eq_getElem hj]; exact h
theorem left_mem {s : FShop} {j : Nat} (hj : j < s.worlds.length) (h : agreeB s.moulds s.worlds[j] = true) : cst s.moulds s.worlds[j] ∈ s.left := by
  unfold FShop.left FShop.agreeing
  exact List.mem_map_of_mem (List.mem_filter.2 ⟨List.getElem_mem hj, h⟩)
theorem loTo_att {L : List (Nat → Int)} (h0 : 0 < L.length) (m : Nat) : ∀ k, k ≤ L.length → ∃ c ∈ L, loTo L m k = c m
  | 0, _ => ⟨L[0], List.getElem_mem h0, headD_get h0 m⟩
  | k + 1, hk => by
    obtain ⟨c, hc, e⟩ := loTo_att h0 m k (by omega)
    rw [loTo_next (by omega), e]
    by_cases h : c m ≤ L[k] m
    · exact ⟨c, hc, by omega⟩
    · exact ⟨L[k], List.getElem_mem (by omega), by omega⟩
theorem lo_att {L : List (Nat → Int)} (h0 : 0 < L.length) (m : Nat) : ∃ c ∈ L, loOf L m = c m := loTo_att h0 m _ (Nat.le_refl _)
theorem holdB_iff {c : Nat → Int} {x : List Int} : holdB c x = true ↔ ∀ i (h : i < x.length), x[i] ≤ c i := by
  unfold holdB
  rw [List.all_eq_true]
  constructor
  · intro h i hi
    have := h (x[i], i) (List.mem_iff_getElem.2 ⟨i, by simpa using hi, by simp⟩)
    simpa using this
  · intro h q hq
    obtain ⟨i, hi, rfl⟩ := List.getElem_of_mem hq
    have := h i (by simpa using hi)
    simpa using this
theorem fails_mem {g : Nat → Int} {x : List Int} {i : Nat} (hi : i < x.length) (h : g i < x[i]) : (i : Int) ∈ failsOf g x := by
  unfold failsOf failsTo
  refine List.mem_map.2 ⟨i, List.mem_filter.2 ⟨List.mem_range.2 hi, ?_⟩, rfl⟩
  rw [List.getElem?_eq_getElem hi]; exact decide_eq_true h
theorem fails_nil {g : Nat → Int} {x : List Int} : failsOf g x = [] ↔ ∀ i (h : i < x.length), x[i] ≤ g i := by
  constructor
  · intro h i hi
    rcases Int.lt_or_le (g i) x[i] with h1 | h1
    · have := fails_mem hi h1; rw [h] at this; cases this
    · exact h1
  · intro h
    unfold failsOf failsTo
    rw [List.map_eq_nil_iff, List.filter_eq_nil_iff]
    intro i hi
    have hi' := List.mem_range.1 hi
    have := h i hi'
    rw [List.getElem?_eq_getElem hi']
    simp; omega
/-- Shares hold in all worlds just if none is among the failing. -/
theorem hold_fails {L : List (Nat → Int)} {x : List Int} (h0 : 0 < L.length) : holdN L x = L.length ↔ failsOf (loOf L) x = [] := by
  rw [fails_nil]
  unfold holdN
  rw [List.countP_eq_length]
  constructor
  · intro h i hi
    obtain ⟨c, hc, e⟩ := lo_att h0 i
    rw [e]
    exact holdB_iff.1 (h c hc) i hi
  · intro h c hc
    refine holdB_iff.2 fun i hi => ?_
    have := h i hi
    have := (lo_mem i hc).1
    omega
theorem hold_all {L : List (Nat → Int)} {x : List Int} {c : Nat → Int} (hc : c ∈ L) (h : holdN L x = L.length) : holdB c x = true := by
  unfold holdN at h
  rw [List.countP_eq_length] at h
  exact h c hc
theorem hold_none {L : List (Nat → Int)} {x : List Int} {c : Nat → Int} (hc : c ∈ L) (h : holdN L x = 0) : holdB c x = false := by
  unfold holdN at h
  rw [List.countP_eq_zero] at h
  simpa using h c hc

set_option maxRecDepth 100000 in
set_option maxHeartbeats 4000000 in
theorem each_no (s : FShop) (ma : Option Addr) (ml mc : Nat) (wa : Option Addr) (wl wc : Nat) (na : Option Addr) (nl nc : Nat) (n : Int) (xa : Option Addr) (xl xc : Nat) (x : List Int) (w : World) (hp : FAt w ma ml mc wa wl wc na nl nc s) (hx : IntsAt w xa xl x)
    (hno : ∀ j (hj : j < s.worlds.length), s.ok = true → n = (j : Int) → xl ≤ 40 → agreeB s.moulds s.worlds[j] = false) :
    Calls Try.prog 3 #[.agg #[.slice ma ml mc, .slice wa wl wc, .slice na nl nc, .int .i64 s.fresh], .int .i64 n, .slice xa xl xc] w fun e w' => e = .returned (.bool true) ∧ Below w.heap.size w w' := by
  have HR := Lib.hid (fun b (h : s.ok = b) W (hb : Below w.heap.size w W) => ready_is s ma ml mc wa wl wc na nl nc b h W (hp.below hb))
  have hxm := hx.2.1
  have hwl := hp.2.1.1
  have hwm := hp.2.1.2.1
  have HI := Lib.hid (fun b (h : btw n 0 ((wl : Int) - 1) = b) W => IsWorld_is s ma ml mc wa wl wc na nl nc n W hwm b h)
  have HA := Lib.hid (fun (ho : s.ok = true) j (hj : j < s.worlds.length) b (h : agreeB s.moulds s.worlds[j] = b) W (hb : Below w.heap.size w W) => refAgreesOf_is s ma ml mc wa wl wc na nl nc j hj (FShop.ok_world ho j hj).1 b h W (hp.below hb))
  have HNO := Lib.hid hno
  unfold maxLen at hxm hwm
  clear hp hx hno
  rcases ho : s.ok with - | -
  · have HR1 := Lib.hid (HR.out _ ho)
    clear ho
    go_enter Try.func3, Try.ntmps3
    go_wp2_with fail
    refine (HR1.out _ (by repeat (first | exact Below.refl _ _ | (refine Below.alloc ?_ (by first | omega | (simp; omega) | simp) _) | (refine Below.setCell ?_ (by first | omega | (simp; omega) | simp) _) | refine Below.drew ?_))).mono ?_
    rintro e w1 ⟨rfl, hb1⟩
    have hw1 := ((by repeat (first | exact Below.refl _ _ | (refine Below.alloc ?_ (by first | omega | (simp; omega) | simp) _) | (refine Below.setCell ?_ (by first | omega | (simp; omega) | simp) _) | refine Below.drew ?_)) : Below w.heap.size w _).trans (hb1.mono (by first | (simp; done) | (simp; omega) | omega))
    clear hb1
    go_wp2_with fail
    refine (works_any _).mono ?_
    rintro e w9 ⟨rfl, hb9⟩
    go_wp2_with fail
    go_ret
    exact ⟨rfl, hw1.trans (hb9.mono hw1.size)⟩
  have HR1 := Lib.hid (HR.out _ ho)
  by_cases h1 : 40 < xl
  · have h1' : (40 : Int) < (xl : Int) := by omega
    clear ho
    go_enter Try.func3, Try.ntmps3
    go_wp2_with fail
    refine (HR1.out _ (by repeat (first | exact Below.refl _ _ | (refine Below.alloc ?_ (by first | omega | (simp; omega) | simp) _) | (refine Below.setCell ?_ (by first | omega | (simp; omega) | simp) _) | refine Below.drew ?_))).mono ?_
    rintro e w1 ⟨rfl, hb1⟩
    have hw1 := ((by repeat (first | exact Below.refl _ _ | (refine Below.alloc ?_ (by first | omega | (simp; omega) | simp) _) | (refine Below.setCell ?_ (by first | omega | (simp; omega) | simp) _) | refine Below.drew ?_)) : Below w.heap.size w _).trans (hb1.mono (by first | (simp; done) | (simp; omega) | omega))
    clear hb1
    go_wp2_with fail
    refine (works_any _).mono ?_
    rintro e w9 ⟨rfl, hb9⟩
    go_wp2_with fail
    go_ret
    exact ⟨rfl, hw1.trans (hb9.mono hw1.size)⟩
  have h1' : ¬ (40 : Int) < (xl : Int) := by omega
  rcases hin : btw n 0 ((wl : Int) - 1) with - | -
  · have HI1 := Lib.hid (HI.out _ hin)
    clear ho hin
    go_enter Try.func3, Try.ntmps3
    go_wp2_with fail
    refine (HR1.out _ (by repeat (first | exact Below.refl _ _ | (refine Below.alloc ?_ (by first | omega | (simp; omega) | simp) _) | (refine Below.setCell ?_ (by first | omega | (simp; omega) | simp) _) | refine Below.drew ?_))).mono ?_
    rintro e w1 ⟨rfl, hb1⟩
    obtain ⟨hc1, hf1⟩ := bcell hb1
    have hz1 := hb1.size
    simp at hz1
    have hw1 := ((by repeat (first | exact Below.refl _ _ | (refine Below.alloc ?_ (by first | omega | (simp; omega) | simp) _) | (refine Below.setCell ?_ (by first | omega | (simp; omega) | simp) _) | refine Below.drew ?_)) : Below w.heap.size w _).trans (hb1.mono (by first | (simp; done) | (simp; omega) | omega))
    have q1 : w.heap.size < w1.heap.size := by omega
    clear hb1
    go_wp2_with fail
    refine (HI1.out _).mono ?_
    rintro e w2 ⟨rfl, hb2⟩
    have hw2 := hw1.trans (hb2.mono hw1.size)
    clear hb2
    go_wp2_with fail
    refine (works_any _).mono ?_
    rintro e w9 ⟨rfl, hb9⟩
    go_wp2_with fail
    go_ret
    exact ⟨rfl, hw2.trans (hb9.mono hw2.size)⟩
  · have HI1 := Lib.hid (HI.out _ hin)
    simp only [btw, decide_eq_true_eq] at hin
    obtain ⟨j, rfl⟩ := Int.eq_ofNat_of_zero_le hin.1
    have hj : j < s.worlds.length := by omega
    have HA1 := Lib.hid (HA.out ho j hj _ (HNO.out j hj ho rfl (by omega)))
    clear ho hin
    go_enter Try.func3, Try.ntmps3
    go_wp2_with fail
    refine (HR1.out _ (by repeat (first | exact Below.refl _ _ | (refine Below.alloc ?_ (by first | omega | (simp; omega) | simp) _) | (refine Below.setCell ?_ (by first | omega | (simp; omega) | simp) _) | refine Below.drew ?_))).mono ?_
    rintro e w1 ⟨rfl, hb1⟩
    obtain ⟨hc1, hf1⟩ := bcell hb1
    have hz1 := hb1.size
    simp at hz1
    have hw1 := ((by repeat (first | exact Below.refl _ _ | (refine Below.alloc ?_ (by first | omega | (simp; omega) | simp) _) | (refine Below.setCell ?_ (by first | omega | (simp; omega) | simp) _) | refine Below.drew ?_)) : Below w.heap.size w _).trans (hb1.mono (by first | (simp; done) | (simp; omega) | omega))
    have q1 : w.heap.size < w1.heap.size := by omega
    clear hb1
    go_wp2_with fail
    refine (HI1.out _).mono ?_
    rintro e w2 ⟨rfl, hb2⟩
    obtain ⟨hc2, hf2⟩ := bcell hb2
    have hz2 := hb2.size
    have hw2 := hw1.trans (hb2.mono hw1.size)
    have q2 : w.heap.size < w2.heap.size := by omega
    clear hb2
    go_wp2_with fail
    refine (HA1.out _ (by repeat (first | assumption | exact Below.refl _ _ | (refine Below.alloc ?_ (by first | omega | (simp; omega) | simp) _) | (refine Below.setCell ?_ (by first | omega | (simp; omega) | simp) _) | refine Below.drew ?_))).mono ?_
    rintro e w3 ⟨rfl, hb3⟩
    have hw3 := hw2.trans (hb3.mono hw2.size)
    clear hb3
    go_wp2_with fail
    refine (works_any _).mono ?_
    rintro e w9 ⟨rfl, hb9⟩
    go_wp2_with fail
    go_ret
    exact ⟨rfl, hw3.trans (hb9.mono hw3.size)⟩
end Go.Proofs.Ytigeiaiohdemiaa
