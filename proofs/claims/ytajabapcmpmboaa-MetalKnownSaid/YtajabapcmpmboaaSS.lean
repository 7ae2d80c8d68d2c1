/- SR SS, joined. -/
import Derived.Test.YtajabapcmpmboaaPK
import Derived.Test.YtajabapcmpmboaaSO
import Derived.Test.YtajabapcmpmboaaSD
import Derived.Test.YtajabapcmpmboaaKH
/- The reference's Known: mathematics. -/
namespace Go.Proofs.Ytajabapcmpmboaa
set_option linter.unusedVariables false
set_option linter.unusedSimpArgs false
open Go.RowKit

/-- What the cheapest addition costs in a truth. -/
def Shop.costAt (s : Shop) (t a : Int) : Option Int := ((s.narrow t t a a).best 0).map Prod.snd
theorem costAt_least {s : Shop} {t a : Int} (hn : (s.narrow t t a a).ok = true) : (∃ c, s.costAt t a = some c ∧ (s.narrow t t a a).least 0 = (c, 0)) ∨ (s.costAt t a = none ∧ (s.narrow t t a a).least 0 = (0, 3)) := by
  unfold Shop.costAt Shop.least
  rw [if_pos hn]
  cases hb : (s.narrow t t a a).best 0 with
  | none => exact .inr ⟨rfl, rfl⟩
  | some p => exact .inl ⟨p.2, rfl, rfl⟩
theorem inT_narrow {s : Shop} (ho : s.ok = true) {t a : Int} (h : s.inT t a) : (s.narrow t t a a).ok = true := by
  obtain ⟨⟨h1, h2⟩, h3, h4⟩ := h
  exact narrow_ok s t t a a (by simp only [insideB, decide_eq_true_eq]; omega) (by simp only [insideB, decide_eq_true_eq]; omega) ho
/-- A truth that has been looked at. -/
def Shop.seen (s : Shop) (t a t' a' : Int) : Prop := s.inT t' a' ∧ (t' < t ∨ t' = t ∧ a' < a)
def KInv (s : Shop) (t a : Int) (first : Bool) (lo hi : Int) : Prop :=
  (first = true → lo = 0 ∧ hi = 0 ∧ ∀ t' a', ¬ s.seen t a t' a') ∧
  (first = false → (∀ t' a', s.seen t a t' a' → ∃ c, s.costAt t' a' = some c ∧ lo ≤ c ∧ c ≤ hi) ∧ (∃ t' a', s.seen t a t' a' ∧ s.costAt t' a' = some lo) ∧ (∃ t' a', s.seen t a t' a' ∧ s.costAt t' a' = some hi))
theorem KInv.start (s : Shop) : KInv s s.tl s.al true 0 0 :=
  ⟨fun _ => ⟨rfl, rfl, fun t' a' ⟨⟨⟨h1, h2⟩, h3, h4⟩, h⟩ => by omega⟩, fun h => by cases h⟩
theorem KInv.next {s : Shop} {t a : Int} {first : Bool} {lo hi : Int} (h : KInv s t a first lo hi) (hin : s.inT t a) {c : Int} (hc : s.costAt t a = some c) : KInv s t (a + 1) false (if first then c else min lo c) (if first then c else max hi c) := by
  refine ⟨(fun h => by cases h), fun _ => ?_⟩
  have hs : s.seen t (a + 1) t a := ⟨hin, .inr ⟨rfl, by omega⟩⟩
  have hmono : ∀ t' a', s.seen t a t' a' → s.seen t (a + 1) t' a' := fun t' a' ⟨h1, h2⟩ => ⟨h1, by omega⟩
  have hcase : ∀ t' a', s.seen t (a + 1) t' a' → s.seen t a t' a' ∨ (t' = t ∧ a' = a) := fun t' a' ⟨h1, h2⟩ => by
    by_cases e : t' = t ∧ a' = a
    · exact .inr e
    · exact .inl ⟨h1, by omega⟩
  cases first
  · obtain ⟨k1, ⟨t1, a1, k2, k3⟩, t2, a2, k4, k5⟩ := h.2 rfl
    simp only [Bool.false_eq_true, if_false]
    refine ⟨fun t' a' h' => ?_, ?_, ?_⟩
    · rcases hcase t' a' h' with h1 | ⟨rfl, rfl⟩
      · obtain ⟨c', e1, e2, e3⟩ := k1 t' a' h1
        exact ⟨c', e1, by omega, by omega⟩
      · exact ⟨c, hc, by omega, by omega⟩
    · by_cases hlt : c ≤ lo
      · exact ⟨t, a, hs, by rw [hc]; congr 1; omega⟩
      · exact ⟨t1, a1, hmono _ _ k2, by rw [k3]; congr 1; omega⟩
    · by_cases hlt : hi ≤ c
      · exact ⟨t, a, hs, by rw [hc]; congr 1; omega⟩
      · exact ⟨t2, a2, hmono _ _ k4, by rw [k5]; congr 1; omega⟩
  · obtain ⟨-, -, k⟩ := h.1 rfl
    simp only [if_true]
    refine ⟨fun t' a' h' => ?_, ⟨t, a, hs, hc⟩, ⟨t, a, hs, hc⟩⟩
    rcases hcase t' a' h' with h1 | ⟨rfl, rfl⟩
    · exact absurd h1 (k t' a')
    · exact ⟨c, hc, by omega, by omega⟩
theorem KInv.row {s : Shop} {t a : Int} {first : Bool} {lo hi : Int} (h : KInv s t a first lo hi) (ha : s.ah < a) : KInv s (t + 1) s.al first lo hi := by
  have e : ∀ t' a', s.seen (t + 1) s.al t' a' ↔ s.seen t a t' a' := fun t' a' => by
    unfold Shop.seen Shop.inT
    constructor <;> rintro ⟨h1, h2⟩ <;> exact ⟨h1, by omega⟩
  unfold KInv at h ⊢
  simpa only [e] using h
theorem costAt_spec {s : Shop} {t a : Int} : (s.costAt t a = none ∧ ∀ x ∈ s.adds, ¬ s.does t a x) ∨ ∃ c y, s.costAt t a = some c ∧ y ∈ s.adds ∧ s.does t a y ∧ s.cost y = c ∧ ∀ x ∈ s.adds, s.does t a x → c ≤ s.cost x := by
  have hb := best_spec (s.narrow t t a a) (askF 0 (s.narrow t t a a)) (s.narrow t t a a).adds
  change BestSpec _ _ _ ((s.narrow t t a a).best 0) at hb
  unfold Shop.costAt
  rcases hb with ⟨he, hn⟩ | ⟨y, m, he, hy, hs, hmy, hmin⟩
  · exact .inl ⟨by rw [he]; rfl, fun x hx hd => hn x hx ((narrow_does s t a x).2 hd)⟩
  · exact .inr ⟨m, y, by rw [he]; rfl, hy, (narrow_does s t a y).1 hs, hmy.symm, fun x hx hd => hmin x hx ((narrow_does s t a x).2 hd)⟩
theorem known_none {s : Shop} (ho : s.ok = true) {t a : Int} (hin : s.inT t a) (h : s.costAt t a = none) : s.knownR = none := by
  refine known_one ⟨t, a, hin⟩ _ _ (known_spec ho) ⟨t, a, hin, ?_⟩
  rcases costAt_spec (s := s) (t := t) (a := a) with ⟨-, h1⟩ | ⟨c, y, h1, -⟩
  · exact h1
  · rw [h] at h1; cases h1
theorem KInv.done {s : Shop} (ho : s.ok = true) {t : Int} {first : Bool} {lo hi : Int} (h : KInv s t s.al first lo hi) (ht : s.th < t) : s.knownR = some (lo, hi) := by
  have hbd : s.tl ≤ s.th ∧ s.al ≤ s.ah := by have := Shop.ok_bd ho; omega
  have hin : s.inT s.tl s.al := ⟨by omega, by omega⟩
  have hall : ∀ t' a', s.inT t' a' → s.seen t s.al t' a' := fun t' a' h' => ⟨h', by obtain ⟨⟨h1, h2⟩, _⟩ := h'; omega⟩
  cases first
  · obtain ⟨k1, ⟨t1, a1, k2, k3⟩, t2, a2, k4, k5⟩ := h.2 rfl
    refine known_one ⟨_, _, hin⟩ _ _ (known_spec ho) ⟨fun t a hi' => ?_, ⟨t2, a2, k4.1, ?_⟩, ?_, fun t a x hi' hx hd => ?_⟩
    · obtain ⟨c, e1, e2, e3⟩ := k1 t a (hall t a hi')
      rcases costAt_spec (s := s) (t := t) (a := a) with ⟨h1, -⟩ | ⟨c', y, h1, h2, h3, h4, -⟩
      · rw [e1] at h1; cases h1
      · rw [e1] at h1; cases h1
        exact ⟨y, h2, h3, by omega⟩
    · intro x hx hd
      rcases costAt_spec (s := s) (t := t2) (a := a2) with ⟨h1, -⟩ | ⟨c', y, h1, h2, h3, h4, h5⟩
      · rw [k5] at h1; cases h1
      · rw [k5] at h1; cases h1
        exact h5 x hx hd
    · rcases costAt_spec (s := s) (t := t1) (a := a1) with ⟨h1, -⟩ | ⟨c', y, h1, h2, h3, h4, h5⟩
      · rw [k3] at h1; cases h1
      · rw [k3] at h1; cases h1
        exact ⟨t1, a1, y, k2.1, h2, h3, h4⟩
    · obtain ⟨c, e1, e2, e3⟩ := k1 t a (hall t a hi')
      rcases costAt_spec (s := s) (t := t) (a := a) with ⟨h1, -⟩ | ⟨c', y, h1, h2, h3, h4, h5⟩
      · rw [e1] at h1; cases h1
      · rw [e1] at h1; cases h1
        have := h5 x hx hd
        omega
  · obtain ⟨-, -, k⟩ := h.1 rfl
    exact absurd (hall _ _ hin) (k _ _)
/-- What is bounded in it. -/
theorem KInv.fair {s : Shop} (ho : s.ok = true) {t a : Int} {first : Bool} {lo hi : Int} (h : KInv s t a first lo hi) : (0 ≤ lo ∧ lo ≤ 2000) ∧ (0 ≤ hi ∧ hi ≤ 2000) := by
  have hf : ∀ t a c, s.costAt t a = some c → 0 ≤ c ∧ c ≤ 2000 := fun t a c e => by
    rcases costAt_spec (s := s) (t := t) (a := a) with ⟨h1, -⟩ | ⟨c', y, h1, h2, h3, h4, -⟩
    · rw [e] at h1; cases h1
    · rw [e] at h1; cases h1
      have := cost_fair ho h2
      omega
  cases first
  · obtain ⟨-, ⟨t1, a1, k2, k3⟩, t2, a2, k4, k5⟩ := h.2 rfl
    exact ⟨hf _ _ _ k3, hf _ _ _ k5⟩
  · obtain ⟨rfl, rfl, -⟩ := h.1 rfl
    omega
end Go.Proofs.Ytajabapcmpmboaa

/- The reference's Known. -/
namespace Go.Proofs.Ytajabapcmpmboaa
set_option linter.unusedVariables false
set_option linter.unusedSimpArgs false
open Go.RowKit

/-- The cheapest in a truth, by the reference. -/
theorem refCheap_truth (s : Shop) (ho : s.ok = true) (len : Nat) (t u : Int) (hin : s.inT t u) (a' : Option Addr) (cap' : Nat) (w : World) (hp : PigsAt w a' len s.pigs) :
    Calls Try.prog 33 #[.agg #[.int .i64 s.P, .int .i64 t, .int .i64 t, .int .i64 u, .int .i64 u, .int .i64 s.room, .int .i64 s.xl, .int .i64 s.xh, .int .i64 s.yl, .int .i64 s.yh, .slice a' len cap']] w fun e w' => (∃ c v, e = .returned (.tuple #[.int .i64 c, .int .i64 v]) ∧ ((v = 0 ∧ s.costAt t u = some c) ∨ (v = 3 ∧ c = 0 ∧ s.costAt t u = none))) ∧ Below w.heap.size w w' := by
  refine (refCheap_any (s.narrow t t u u) a' len cap' w hp).mono ?_
  rintro e w' ⟨rfl, hb⟩
  refine ⟨⟨_, _, rfl, ?_⟩, hb⟩
  rcases costAt_least (inT_narrow ho hin) with ⟨c, h1, h2⟩ | ⟨h1, h2⟩
  · rw [h2]; exact .inl ⟨rfl, h1⟩
  · rw [h2]; exact .inr ⟨rfl, rfl, h1⟩

set_option maxHeartbeats 1000000 in
theorem refKnown_bad (s : Shop) (a : Option Addr) (len cap : Nat) (w : World) (hp : PigsAt w a len s.pigs) (ho : s.ok = false) :
    Calls Try.prog 40 #[.agg #[.int .i64 s.P, .int .i64 s.tl, .int .i64 s.th, .int .i64 s.al, .int .i64 s.ah, .int .i64 s.room, .int .i64 s.xl, .int .i64 s.xh, .int .i64 s.yl, .int .i64 s.yh, .slice a len cap]] w fun e w' => e = .returned (.tuple #[.agg #[.int .i64 0, .int .i64 0], .int .i64 10]) ∧ Below w.heap.size w w' := by
  have HT := Lib.hid (fun w1 (hb : Below w.heap.size w w1) => refCheck_is s a len cap 10 (by simp [Shop.chk, ho]) w1 (hp.below hb))
  clear hp ho
  go_enter Try.func40, Try.ntmps40
  go_wp2_with fail
  refine (HT.out _ (by repeat (first | exact Below.refl _ _ | (refine Below.alloc ?_ (by first | omega | (simp; omega) | simp) _) | (refine Below.setCell ?_ (by first | omega | (simp; omega) | simp) _) | refine Below.drew ?_))).mono ?_
  rintro e w1 ⟨rfl, hb1⟩
  obtain ⟨hc1, hf1⟩ := bcell hb1
  have hz1 := hb1.size
  simp at hz1
  have HB := Lib.hid hb1
  clear hb1
  have q2 : w.heap.size < w1.heap.size := by omega
  have q1 : w.heap.size + 1 < w1.heap.size := by omega
  go_wp2_with fail
  refine bodyPost_ret (v := .tuple #[.agg #[.int .i64 0, .int .i64 0], .int .i64 10]) (by simp [results, Try.results40, go_sem , hc1, hf1, q1, q2]) rfl ⟨rfl, ?_⟩
  exact (by repeat (first | exact Below.refl _ _ | (refine Below.alloc ?_ (by first | omega | (simp; omega) | simp) _) | (refine Below.setCell ?_ (by first | omega | (simp; omega) | simp) _) | refine Below.drew ?_ | (refine below_via (by assumption) (by first | omega | (simp; omega) | simp) ?_)))

theorem name1f (w : World) (ds : Array Value) (U : TypeId) :
    ∃ W0, w.alloc (.cells ds U) = W0 ∧ Below w.heap.size w W0 ∧ (∀ i, W0.cell? ⟨w.heap.size, i, none⟩ = ds[i]?) ∧ (∀ i, W0.frozen? ⟨w.heap.size, i, none⟩ = false) ∧ w.heap.size < W0.heap.size :=
  ⟨_, rfl, (by repeat (first | exact Below.refl _ _ | (refine Below.alloc ?_ (by first | omega | (simp; omega) | simp) _) | (refine Below.setCell ?_ (by first | omega | (simp; omega) | simp) _) | refine Below.drew ?_)), fun i => World.cell?_alloc_new w _ _ i, fun i => by go_simp, by simp⟩

set_option maxRecDepth 100000 in
set_option maxHeartbeats 8000000 in
theorem refKnown_ok (s : Shop) (a : Option Addr) (len cap : Nat) (w : World) (hp : PigsAt w a len s.pigs) (ho : s.ok = true) :
    Calls Try.prog 40 #[.agg #[.int .i64 s.P, .int .i64 s.tl, .int .i64 s.th, .int .i64 s.al, .int .i64 s.ah, .int .i64 s.room, .int .i64 s.xl, .int .i64 s.xh, .int .i64 s.yl, .int .i64 s.yh, .slice a len cap]] w fun e w' => (e = .returned (.tuple #[.agg (knownCells s), .int .i64 s.knownCode])) ∧ Below w.heap.size w w' := by
  have hl4 : len ≤ 4 := by have := Shop.ok_bd ho; have := hp.1; omega
  have hbd : ((0 ≤ s.tl ∧ s.tl ≤ s.th) ∧ s.th ≤ 2000) ∧ ((0 ≤ s.al ∧ s.al ≤ s.ah) ∧ s.ah ≤ 2000) := by have := Shop.ok_bd ho; omega
  have HT := Lib.hid (fun w1 (hb : Below w.heap.size w w1) => refCheck_is s a len cap 0 (by simp [Shop.chk, ho]) w1 (hp.below hb))
  have HI := Lib.hid (fun t u w1 (hb : Below w.heap.size w w1) => InTruth_any s a len cap t u w1 (hp.below hb) (by omega))
  have HC := Lib.hid (fun t u (hin : s.inT t u) a' cap' w1 (hp' : PigsAt w1 a' len s.pigs) => refCheap_truth s ho len t u hin a' cap' w1 hp')
  have HNO := Lib.hid (fun t u (hin : s.inT t u) (h : s.costAt t u = none) => show knownCells s = #[.int .i64 0, .int .i64 0] ∧ s.knownCode = 3 by
    have := known_none ho hin h
    simp [knownCells, Shop.knownCode, ho, this, knownTwo])
  have HYES := Lib.hid (fun t f lo hi (h : KInv s t s.al f lo hi) (ht : s.th < t) => show knownCells s = #[.int .i64 lo, .int .i64 hi] ∧ s.knownCode = 0 by
    have := h.done ho ht
    simp [knownCells, Shop.knownCode, ho, this, knownTwo])
  have HST := Lib.hid (KInv.start s)
  have HNX := Lib.hid (fun t u f lo hi (h : KInv s t u f lo hi) (hin : s.inT t u) c (hc : s.costAt t u = some c) => h.next hin hc)
  have HRW := Lib.hid (fun t u f lo hi (h : KInv s t u f lo hi) (ha : s.ah < u) => h.row ha)
  have HFR := Lib.hid (fun t u f lo hi (h : KInv s t u f lo hi) => h.fair ho)
  generalize hkc : knownCells s = kcs at *
  generalize hkk : s.knownCode = kk at *
  clear hp ho hkc hkk
  go_enter Try.func40, Try.ntmps40
  go_wp2_with fail
  refine (HT.out _ (by repeat (first | exact Below.refl _ _ | (refine Below.alloc ?_ (by first | omega | (simp; omega) | simp) _) | (refine Below.setCell ?_ (by first | omega | (simp; omega) | simp) _) | refine Below.drew ?_))).mono ?_
  rintro e w1 ⟨rfl, hb1⟩
  obtain ⟨hc1, hf1⟩ := bcell hb1
  have hz1 := hb1.size
  simp at hz1
  have hbw : Below w.heap.size w w1 := ((by repeat (first | exact Below.refl _ _ | (refine Below.alloc ?_ (by first | omega | (simp; omega) | simp) _) | (refine Below.setCell ?_ (by first | omega | (simp; omega) | simp) _) | refine Below.drew ?_)) : Below w.heap.size w _).trans (hb1.mono (by simp; omega))
  clear hb1
  have q2 : w.heap.size < w1.heap.size := by omega
  have q3 : w.heap.size + 1 < w1.heap.size := by omega
  have hbox : ∀ i, w1.cell? ⟨w.heap.size, i, none⟩ = (#[.int .i64 s.P, .int .i64 s.tl, .int .i64 s.th, .int .i64 s.al, .int .i64 s.ah, .int .i64 s.room, .int .i64 s.xl, .int .i64 s.xh, .int .i64 s.yl, .int .i64 s.yh, .slice a len cap] : Array Value)[i]? := fun i => (hc1 _ _ (by simp; omega)).trans ((World.cell?_of_block (Below.heap_alloc _ _ _ (by simp))).trans (World.cell?_alloc_new w _ _ i))
  have hr1 : ∀ i, w1.cell? ⟨w.heap.size + 1, i, none⟩ = (#[.int .i64 0, .int .i64 0] : Array Value)[i]? := fun i => (hc1 _ _ (by simp)).trans (by go_simp)
  have hr2 : ∀ i, w1.frozen? ⟨w.heap.size + 1, i, none⟩ = false := fun i => (hf1 _ _ (by simp)).trans (by go_simp)
  clear hc1 hf1
  obtain ⟨x0, x1, x2, x3, x4, x5, x6, x7, x8, x9, x10⟩ : w1.cell? ⟨w.heap.size, 0, none⟩ = some (.int .i64 s.P) ∧ w1.cell? ⟨w.heap.size, 1, none⟩ = some (.int .i64 s.tl) ∧ w1.cell? ⟨w.heap.size, 2, none⟩ = some (.int .i64 s.th) ∧ w1.cell? ⟨w.heap.size, 3, none⟩ = some (.int .i64 s.al) ∧ w1.cell? ⟨w.heap.size, 4, none⟩ = some (.int .i64 s.ah) ∧ w1.cell? ⟨w.heap.size, 5, none⟩ = some (.int .i64 s.room) ∧ w1.cell? ⟨w.heap.size, 6, none⟩ = some (.int .i64 s.xl) ∧ w1.cell? ⟨w.heap.size, 7, none⟩ = some (.int .i64 s.xh) ∧ w1.cell? ⟨w.heap.size, 8, none⟩ = some (.int .i64 s.yl) ∧ w1.cell? ⟨w.heap.size, 9, none⟩ = some (.int .i64 s.yh) ∧ w1.cell? ⟨w.heap.size, 10, none⟩ = some (.slice a len cap) := ⟨hbox 0, hbox 1, hbox 2, hbox 3, hbox 4, hbox 5, hbox 6, hbox 7, hbox 8, hbox 9, hbox 10⟩
  go_wp2_with fail
  obtain ⟨W0, hW0, hB0, hg0, hgf, hz0⟩ := name1f w1 #[.int .i64 0, .int .i64 0] 23
  rw [hW0]
  clear hW0
  obtain ⟨g, hg⟩ : ∃ g, g = w1.heap.size := ⟨_, rfl⟩
  have hw0 : Below w.heap.size w W0 := hbw.trans (hB0.mono hbw.size)
  have t0 : w.heap.size < g := by omega
  have t1 : w.heap.size + 1 < g := by omega
  have t2 : g < W0.heap.size := by omega
  have HSB := Lib.hid (fun i => (hB0.cell (p := ⟨w.heap.size, i, none⟩) q2).trans (hbox i))
  have HR1 := Lib.hid (fun i => (hB0.cell (p := ⟨w.heap.size + 1, i, none⟩) q3).trans (hr1 i))
  have HR2 := Lib.hid (fun i => (hB0.frozen (p := ⟨w.heap.size + 1, i, none⟩) q3).trans (hr2 i))
  rw [← hg]
  rw [← hg] at hg0 hgf
  have HW0 := Lib.hid hw0
  clear hg hr1 hr2 hbox hB0 hbw hw0 hz0 hz1 q2 q3 x0 x1 x2 x3 x4 x5 x6 x7 x8 x9 x10
  go_loopw [6, 7] (fun v6 v7 wr => ∃ (t : Int) (f : Bool) (lo hi : Int), v6 = .bool f ∧ v7 = .int .i64 t ∧ s.tl ≤ t ∧ t ≤ s.th + 1 ∧ KInv s t s.al f lo hi ∧ wr.cell? ⟨g, 0, none⟩ = some (.int .i64 lo) ∧ wr.cell? ⟨g, 1, none⟩ = some (.int .i64 hi) ∧ wr.frozen? ⟨g, 0, none⟩ = false ∧ wr.frozen? ⟨g, 1, none⟩ = false ∧ g < wr.heap.size ∧ Below g W0 wr) (fun _ i _ => (s.th + 1 - intOf i).toNat)
  case atStart => exact ⟨s.tl, true, 0, 0, rfl, rfl, by omega, by omega, HST.out, hg0 0, hg0 1, hgf 0, hgf 1, t2, Below.refl _ _⟩
  case round =>
    obtain ⟨t, f, lo, hi, rfl, rfl, ht1, ht2, hinv, l0, l1, y0, y1, hzr, hB⟩ := hrel
    clear hg0 hgf
    have HINV := Lib.hid hinv
    have HB := Lib.hid hB
    have hbx := fun i => (hB.cell (p := ⟨w.heap.size, i, none⟩) t0).trans (HSB.out i)
    by_cases hlt : t ≤ s.th
    · obtain ⟨x0, x1, x2, x3, x4, x5, x6, x7, x8, x9, x10⟩ : wr.cell? ⟨w.heap.size, 0, none⟩ = some (.int .i64 s.P) ∧ wr.cell? ⟨w.heap.size, 1, none⟩ = some (.int .i64 s.tl) ∧ wr.cell? ⟨w.heap.size, 2, none⟩ = some (.int .i64 s.th) ∧ wr.cell? ⟨w.heap.size, 3, none⟩ = some (.int .i64 s.al) ∧ wr.cell? ⟨w.heap.size, 4, none⟩ = some (.int .i64 s.ah) ∧ wr.cell? ⟨w.heap.size, 5, none⟩ = some (.int .i64 s.room) ∧ wr.cell? ⟨w.heap.size, 6, none⟩ = some (.int .i64 s.xl) ∧ wr.cell? ⟨w.heap.size, 7, none⟩ = some (.int .i64 s.xh) ∧ wr.cell? ⟨w.heap.size, 8, none⟩ = some (.int .i64 s.yl) ∧ wr.cell? ⟨w.heap.size, 9, none⟩ = some (.int .i64 s.yh) ∧ wr.cell? ⟨w.heap.size, 10, none⟩ = some (.slice a len cap) := ⟨hbx 0, hbx 1, hbx 2, hbx 3, hbx 4, hbx 5, hbx 6, hbx 7, hbx 8, hbx 9, hbx 10⟩
      clear hbx hinv hB
      go_wp2_with fail
      go_loopw [6, 8] (fun v6 v8 wi => ∃ (u : Int) (f : Bool) (lo hi : Int), v6 = .bool f ∧ v8 = .int .i64 u ∧ s.al ≤ u ∧ u ≤ s.ah + 1 ∧ KInv s t u f lo hi ∧ wi.cell? ⟨g, 0, none⟩ = some (.int .i64 lo) ∧ wi.cell? ⟨g, 1, none⟩ = some (.int .i64 hi) ∧ wi.frozen? ⟨g, 0, none⟩ = false ∧ wi.frozen? ⟨g, 1, none⟩ = false ∧ g < wi.heap.size ∧ Below g W0 wi) (fun _ i _ => (s.ah + 1 - intOf i).toNat)
      case atStart => exact ⟨s.al, f, lo, hi, rfl, rfl, by omega, by omega, HINV.out, l0, l1, y0, y1, hzr, HB.out⟩
      case round =>
        clear l0 l1 y0 y1 hzr HB HINV x0 x1 x2 x3 x4 x5 x6 x7 x8 x9 x10
        obtain ⟨u, f, lo, hi, rfl, rfl, hu1, hu2, hinv, l0, l1, y0, y1, hzr, hB⟩ := hrel
        have HINV := Lib.hid hinv
        have HB := Lib.hid hB
        have hbx := fun i => (hB.cell (p := ⟨w.heap.size, i, none⟩) t0).trans (HSB.out i)
        obtain ⟨x0, x1, x2, x3, x4, x5, x6, x7, x8, x9, x10⟩ : wr.cell? ⟨w.heap.size, 0, none⟩ = some (.int .i64 s.P) ∧ wr.cell? ⟨w.heap.size, 1, none⟩ = some (.int .i64 s.tl) ∧ wr.cell? ⟨w.heap.size, 2, none⟩ = some (.int .i64 s.th) ∧ wr.cell? ⟨w.heap.size, 3, none⟩ = some (.int .i64 s.al) ∧ wr.cell? ⟨w.heap.size, 4, none⟩ = some (.int .i64 s.ah) ∧ wr.cell? ⟨w.heap.size, 5, none⟩ = some (.int .i64 s.room) ∧ wr.cell? ⟨w.heap.size, 6, none⟩ = some (.int .i64 s.xl) ∧ wr.cell? ⟨w.heap.size, 7, none⟩ = some (.int .i64 s.xh) ∧ wr.cell? ⟨w.heap.size, 8, none⟩ = some (.int .i64 s.yl) ∧ wr.cell? ⟨w.heap.size, 9, none⟩ = some (.int .i64 s.yh) ∧ wr.cell? ⟨w.heap.size, 10, none⟩ = some (.slice a len cap) := ⟨hbx 0, hbx 1, hbx 2, hbx 3, hbx 4, hbx 5, hbx 6, hbx 7, hbx 8, hbx 9, hbx 10⟩
        have hBw := HW0.out.trans (hB.mono (by have := HW0.out.size; omega))
        by_cases hul : u ≤ s.ah
        · have hin : s.inT t u := ⟨⟨ht1, hlt⟩, hu1, hul⟩
          have HII := Lib.hid (HI.out t u wr hBw)
          have HCC := Lib.hid (HC.out t u hin)
          have HNN := Lib.hid (HNO.out t u hin)
          have HXX := Lib.hid (HNX.out t u f lo hi hinv hin)
          clear hbx hinv hB hBw hin
          go_wp2_with fail
          refine HII.out.mono ?_
          rintro e w2 ⟨a2, cap2, rfl, hP2, hb2⟩
          obtain ⟨hc2, hf2⟩ := bcell hb2
          have hz2 := hb2.size
          clear x0 x1 x2 x3 x4 x5 x6 x7 x8 x9 x10
          go_wp2_with fail
          refine (HCC.out _ _ _ hP2).mono ?_
          rintro e w3 ⟨⟨c, v, rfl, hcase⟩, hb3⟩
          obtain ⟨hc3, hf3⟩ := bcell hb3
          have hz3 := hb3.size
          have HB3 := Lib.hid (HB.out.trans ((hb2.trans (hb3.mono hb2.size)).mono (Nat.le_of_lt hzr)))
          have g2 : g < w2.heap.size := by omega
          have g3 : g < w3.heap.size := by omega
          have m0 := ((hc3 _ 0 g2).trans (hc2 _ 0 hzr)).trans l0
          have m1 := ((hc3 _ 1 g2).trans (hc2 _ 1 hzr)).trans l1
          have n0 := ((hf3 _ 0 g2).trans (hf2 _ 0 hzr)).trans y0
          have n1 := ((hf3 _ 1 g2).trans (hf2 _ 1 hzr)).trans y1
          clear hb2 hb3 hP2 hc2 hc3 hf2 hf3 l0 l1 y0 y1
          rcases hcase with ⟨rfl, hcs⟩ | ⟨rfl, rfl, hcs⟩
          · have HV := Lib.hid (HXX.out c hcs)
            clear hcs
            cases f
            all_goals
              go_wp2_with fail
              go_roundw
              case rel => exact ⟨u + 1, false, _, _, rfl, by go_num, by omega, by omega, HV.out, (by first | (go_simp; done) | exact set_same (u := .int .i64 c) (by go_simp; done)), (by first | (go_simp; done) | exact set_same (u := .int .i64 c) (by go_simp; done)), by go_simp, by go_simp, by simp; exact g3, by repeat (first | exact HB3.out | (refine Below.setCell ?_ (by exact Nat.le_refl _) _))⟩
              case measure => simp [intOf]; omega
          · obtain ⟨k1, k2⟩ := HNN.out hcs
            have hr0 : w3.cell? ⟨w.heap.size + 1, 0, none⟩ = some (.int .i64 0) := (HB3.out.cell (p := ⟨w.heap.size + 1, 0, none⟩) t1).trans (HR1.out 0)
            have hr1 : w3.cell? ⟨w.heap.size + 1, 1, none⟩ = some (.int .i64 0) := (HB3.out.cell (p := ⟨w.heap.size + 1, 1, none⟩) t1).trans (HR1.out 1)
            have hs0 : w3.frozen? ⟨w.heap.size + 1, 0, none⟩ = false := (HB3.out.frozen (p := ⟨w.heap.size + 1, 0, none⟩) t1).trans (HR2.out 0)
            have hs1 : w3.frozen? ⟨w.heap.size + 1, 1, none⟩ = false := (HB3.out.frozen (p := ⟨w.heap.size + 1, 1, none⟩) t1).trans (HR2.out 1)
            have HBW := Lib.hid (HW0.out.trans (HB3.out.mono (by have := HW0.out.size; omega)))
            clear hcs m0 m1 n0 n1
            go_wp2_with fail
            refine bodyPost_ret (v := .tuple #[.agg #[.int .i64 0, .int .i64 0], .int .i64 3]) (by simp [results, Try.results40, go_sem, hr0, hr1, hs0, hs1]) rfl ⟨by first | rfl | rw [k1, k2], ?_⟩
            exact Below.setCell (Below.setCell HBW.out (by simp) _) (by simp) _
        · obtain rfl : u = s.ah + 1 := by omega
          have HROW := Lib.hid (HRW.out t _ f lo hi hinv (by omega))
          have hcond : ¬ s.ah + 1 ≤ s.ah := by omega
          clear hbx hinv hB hBw
          go_wp2_with fail
          go_roundw
          case rel => exact ⟨t + 1, f, lo, hi, rfl, by go_num, by omega, by omega, HROW.out, l0, l1, y0, y1, hzr, HB.out⟩
          case measure => simp [intOf]; omega
    · obtain ⟨x0, x1, x2, x3, x4, x5, x6, x7, x8, x9, x10⟩ : wr.cell? ⟨w.heap.size, 0, none⟩ = some (.int .i64 s.P) ∧ wr.cell? ⟨w.heap.size, 1, none⟩ = some (.int .i64 s.tl) ∧ wr.cell? ⟨w.heap.size, 2, none⟩ = some (.int .i64 s.th) ∧ wr.cell? ⟨w.heap.size, 3, none⟩ = some (.int .i64 s.al) ∧ wr.cell? ⟨w.heap.size, 4, none⟩ = some (.int .i64 s.ah) ∧ wr.cell? ⟨w.heap.size, 5, none⟩ = some (.int .i64 s.room) ∧ wr.cell? ⟨w.heap.size, 6, none⟩ = some (.int .i64 s.xl) ∧ wr.cell? ⟨w.heap.size, 7, none⟩ = some (.int .i64 s.xh) ∧ wr.cell? ⟨w.heap.size, 8, none⟩ = some (.int .i64 s.yl) ∧ wr.cell? ⟨w.heap.size, 9, none⟩ = some (.int .i64 s.yh) ∧ wr.cell? ⟨w.heap.size, 10, none⟩ = some (.slice a len cap) := ⟨hbx 0, hbx 1, hbx 2, hbx 3, hbx 4, hbx 5, hbx 6, hbx 7, hbx 8, hbx 9, hbx 10⟩
      obtain ⟨k1, k2⟩ := HYES.out t f lo hi hinv (by omega)
      have hr0 : wr.cell? ⟨w.heap.size + 1, 0, none⟩ = some (.int .i64 0) := (hB.cell (p := ⟨w.heap.size + 1, 0, none⟩) t1).trans (HR1.out 0)
      have hr1 : wr.cell? ⟨w.heap.size + 1, 1, none⟩ = some (.int .i64 0) := (hB.cell (p := ⟨w.heap.size + 1, 1, none⟩) t1).trans (HR1.out 1)
      have hs0 : wr.frozen? ⟨w.heap.size + 1, 0, none⟩ = false := (hB.frozen (p := ⟨w.heap.size + 1, 0, none⟩) t1).trans (HR2.out 0)
      have hs1 : wr.frozen? ⟨w.heap.size + 1, 1, none⟩ = false := (hB.frozen (p := ⟨w.heap.size + 1, 1, none⟩) t1).trans (HR2.out 1)
      have HBW := Lib.hid (HW0.out.trans (hB.mono (by have := HW0.out.size; omega)))
      clear hbx hinv hB
      go_wp2_with fail
      refine bodyPost_ret (v := .tuple #[.agg #[.int .i64 lo, .int .i64 hi], .int .i64 0]) (by simp [results, Try.results40, go_sem, l0, l1, hr0, hr1, hs0, hs1]) rfl ⟨by first | rfl | rw [k1, k2], ?_⟩
      exact Below.setCell (Below.setCell HBW.out (by simp) _) (by simp) _

theorem refKnown_is (s : Shop) (a : Option Addr) (len cap : Nat) (x y v : Int) (w : World) (hp : PigsAt w a len s.pigs) (h : knownCells s = #[.int .i64 x, .int .i64 y] ∧ s.knownCode = v) :
    Calls Try.prog 40 #[.agg #[.int .i64 s.P, .int .i64 s.tl, .int .i64 s.th, .int .i64 s.al, .int .i64 s.ah, .int .i64 s.room, .int .i64 s.xl, .int .i64 s.xh, .int .i64 s.yl, .int .i64 s.yh, .slice a len cap]] w fun e w' => e = .returned (.tuple #[.agg #[.int .i64 x, .int .i64 y], .int .i64 v]) ∧ Below w.heap.size w w' := by
  rw [← h.1, ← h.2]
  rcases ho : s.ok with - | -
  · have hk : knownCells s = #[.int .i64 0, .int .i64 0] ∧ s.knownCode = 10 := by simp [knownCells, Shop.knownCode, ho]
    rw [hk.1, hk.2]
    exact refKnown_bad s a len cap w hp ho
  · exact refKnown_ok s a len cap w hp ho
theorem refCheap_is (s : Shop) (a : Option Addr) (len cap : Nat) (n v : Int) (w : World) (hp : PigsAt w a len s.pigs) (h : s.least 0 = (n, v)) :
    Calls Try.prog 33 #[.agg #[.int .i64 s.P, .int .i64 s.tl, .int .i64 s.th, .int .i64 s.al, .int .i64 s.ah, .int .i64 s.room, .int .i64 s.xl, .int .i64 s.xh, .int .i64 s.yl, .int .i64 s.yh, .slice a len cap]] w fun e w' => e = .returned (.tuple #[.int .i64 n, .int .i64 v]) ∧ Below w.heap.size w w' := by
  have h1 := refCheap_any s a len cap w hp
  rw [h] at h1
  exact h1

set_option maxHeartbeats 2000000 in
theorem refWorth_any (s : Shop) (a : Option Addr) (len cap : Nat) (w : World) (hp : PigsAt w a len s.pigs) :
    Calls Try.prog 42 #[.agg #[.int .i64 s.P, .int .i64 s.tl, .int .i64 s.th, .int .i64 s.al, .int .i64 s.ah, .int .i64 s.room, .int .i64 s.xl, .int .i64 s.xh, .int .i64 s.yl, .int .i64 s.yh, .slice a len cap]] w fun e w' => e = .returned (.tuple #[.int .i64 s.worthOf.1, .int .i64 s.worthOf.2]) ∧ Below w.heap.size w w' := by
  have stop : ∀ v : Int, v ≠ 0 → s.least 0 = (0, v) → s.worthOf = (0, v) → Calls Try.prog 42 #[.agg #[.int .i64 s.P, .int .i64 s.tl, .int .i64 s.th, .int .i64 s.al, .int .i64 s.ah, .int .i64 s.room, .int .i64 s.xl, .int .i64 s.xh, .int .i64 s.yl, .int .i64 s.yh, .slice a len cap]] w fun e w' => e = .returned (.tuple #[.int .i64 s.worthOf.1, .int .i64 s.worthOf.2]) ∧ Below w.heap.size w w' := by
    intro v hv h1 h2
    have HC := Lib.hid (fun w1 (hb : Below w.heap.size w w1) => refCheap_is s a len cap 0 v w1 (hp.below hb) h1)
    have e1 : (v == 0) = false := by simpa using hv
    have e2 : (v != 0) = true := by simpa using hv
    rw [h2]
    clear hp h1 h2
    go_enter Try.func42, Try.ntmps42
    go_wp2_with fail
    refine (HC.out _ (by repeat (first | exact Below.refl _ _ | (refine Below.alloc ?_ (by first | omega | (simp; omega) | simp) _) | (refine Below.setCell ?_ (by first | omega | (simp; omega) | simp) _) | refine Below.drew ?_))).mono ?_
    rintro e w1 ⟨rfl, hb1⟩
    have HB := Lib.hid (((by repeat (first | exact Below.refl _ _ | (refine Below.alloc ?_ (by first | omega | (simp; omega) | simp) _) | (refine Below.setCell ?_ (by first | omega | (simp; omega) | simp) _) | refine Below.drew ?_)) : Below w.heap.size w _).trans (hb1.mono (by simp)))
    clear hb1
    go_wp2_with fail
    go_ret2
    exact ⟨rfl, HB.out⟩
  rcases ho : s.ok with - | -
  · exact stop 10 (by decide) (by simp [Shop.least, ho]) (by simp [Shop.worthOf, ho])
  · rcases hb0 : s.best 0 with - | ⟨u, m⟩
    · exact stop 3 (by decide) (by simp [Shop.least, ho, hb0]) (by simp only [Shop.worthOf, ho, hb0, if_true]; rcases s.knownR with - | ⟨x, y⟩ <;> rfl)
    · have HC := Lib.hid (fun w1 (hb : Below w.heap.size w w1) => refCheap_is s a len cap m 0 w1 (hp.below hb) (by simp [Shop.least, ho, hb0]))
      have hfm := cheap_fair ho hb0
      rcases hk : s.knownR with - | ⟨x, y⟩
      · have HK := Lib.hid (fun w1 (hb : Below w.heap.size w w1) => refKnown_is s a len cap 0 0 3 w1 (hp.below hb) (by simp [knownCells, Shop.knownCode, ho, hk, knownTwo]))
        have HW := Lib.hid (show s.worthOf = (0, 3) by simp [Shop.worthOf, ho, hk])
        clear hp hk hb0 stop
        go_enter Try.func42, Try.ntmps42
        go_wp2_with fail
        refine (HC.out _ (by repeat (first | exact Below.refl _ _ | (refine Below.alloc ?_ (by first | omega | (simp; omega) | simp) _) | (refine Below.setCell ?_ (by first | omega | (simp; omega) | simp) _) | refine Below.drew ?_))).mono ?_
        rintro e w1 ⟨rfl, hb1⟩
        obtain ⟨hc1, hf1⟩ := bcell hb1
        have hz1 := hb1.size
        simp at hz1
        have hbw := (((by repeat (first | exact Below.refl _ _ | (refine Below.alloc ?_ (by first | omega | (simp; omega) | simp) _) | (refine Below.setCell ?_ (by first | omega | (simp; omega) | simp) _) | refine Below.drew ?_)) : Below w.heap.size w _).trans (hb1.mono (by simp)))
        clear hb1
        have q2 : w.heap.size < w1.heap.size := by omega
        go_wp2_with fail
        refine (HK.out _ hbw).mono ?_
        rintro e w2 ⟨rfl, hb2⟩
        have HB := Lib.hid (hbw.trans (hb2.mono hbw.size))
        clear hb2 hbw
        go_wp2_with fail
        go_ret2
        exact ⟨by rw [HW.out]; rfl, HB.out.alloc HB.out.size _⟩
      · have hfair := known_fair ho hk
        have HK := Lib.hid (fun w1 (hb : Below w.heap.size w w1) => refKnown_is s a len cap x y 0 w1 (hp.below hb) (by simp [knownCells, Shop.knownCode, ho, hk, knownTwo]))
        have HW := Lib.hid (show s.worthOf = (m - y, 0) by simp [Shop.worthOf, ho, hk, hb0])
        clear hp hk hb0 stop
        go_enter Try.func42, Try.ntmps42
        go_wp2_with fail
        refine (HC.out _ (by repeat (first | exact Below.refl _ _ | (refine Below.alloc ?_ (by first | omega | (simp; omega) | simp) _) | (refine Below.setCell ?_ (by first | omega | (simp; omega) | simp) _) | refine Below.drew ?_))).mono ?_
        rintro e w1 ⟨rfl, hb1⟩
        obtain ⟨hc1, hf1⟩ := bcell hb1
        have hz1 := hb1.size
        simp at hz1
        have hbw := (((by repeat (first | exact Below.refl _ _ | (refine Below.alloc ?_ (by first | omega | (simp; omega) | simp) _) | (refine Below.setCell ?_ (by first | omega | (simp; omega) | simp) _) | refine Below.drew ?_)) : Below w.heap.size w _).trans (hb1.mono (by simp)))
        clear hb1
        have q2 : w.heap.size < w1.heap.size := by omega
        go_wp2_with fail
        refine (HK.out _ hbw).mono ?_
        rintro e w2 ⟨rfl, hb2⟩
        have HB := Lib.hid (hbw.trans (hb2.mono hbw.size))
        clear hb2 hbw
        obtain ⟨f1, f2⟩ := hfair
        obtain ⟨f3, f4⟩ := hfm
        go_wp2_with fail
        go_ret2
        exact ⟨by rw [HW.out]; rfl, HB.out.alloc HB.out.size _⟩
end Go.Proofs.Ytajabapcmpmboaa
