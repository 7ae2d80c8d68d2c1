/- RI ST, joined. -/
import Derived.Test.YtajabapcmpmboaaRE
import Derived.Test.YtajabapcmpmboaaM
import Derived.Test.YtajabapcmpmboaaSS
import Derived.Test.YtajabapcmpmboaaSQ
import Derived.Test.YtajabapcmpmboaaPG
/- Mix of the reference. -/
namespace Go.Proofs.Ytajabapcmpmboaa
set_option linter.unusedVariables false
set_option linter.unusedSimpArgs false
open Go.RowKit

set_option maxHeartbeats 1000000 in
theorem refMix_bad (s : Shop) (a : Option Addr) (len cap : Nat) (P tl th al ah : Int) (w : World) (hp : PigsAt w a len s.pigs) (hok : s.ok = false) :
    Calls Try.prog 44 #[.agg #[.int .i64 s.P, .int .i64 s.tl, .int .i64 s.th, .int .i64 s.al, .int .i64 s.ah, .int .i64 s.room, .int .i64 s.xl, .int .i64 s.xh, .int .i64 s.yl, .int .i64 s.yh, .slice a len cap], .agg #[.int .i64 P, .int .i64 tl, .int .i64 th, .int .i64 al, .int .i64 ah]] w fun e w' => e = .returned (.tuple #[.agg #[.int .i64 0, .int .i64 0, .int .i64 0, .int .i64 0, .int .i64 0], .int .i64 10]) ∧ Below w.heap.size w w' := by
  have HC := Lib.hid (fun w1 (hb : Below w.heap.size w w1) => refCheck_is s a len cap 10 (by simp [Shop.chk, hok]) w1 (hp.below hb))
  clear hp hok
  go_enter Try.func44, Try.ntmps44
  go_wp2_with fail
  refine (HC.out _ (by repeat (first | exact Below.refl _ _ | (refine Below.alloc ?_ (by first | omega | (simp; omega) | simp) _) | (refine Below.setCell ?_ (by first | omega | (simp; omega) | simp) _) | refine Below.drew ?_))).mono ?_
  rintro e w1 ⟨rfl, hb1⟩
  obtain ⟨hc1, hf1⟩ := bcell hb1
  have hz1 := hb1.size
  simp at hz1
  have HB := Lib.hid hb1
  clear hb1
  have q1 : w.heap.size + 1 + 1 < w1.heap.size := by omega
  have q2 : w.heap.size + 1 < w1.heap.size := by omega
  have q3 : w.heap.size < w1.heap.size := by omega
  go_wp2_with fail
  refine bodyPost_ret (v := .tuple #[.agg #[.int .i64 0, .int .i64 0, .int .i64 0, .int .i64 0, .int .i64 0], .int .i64 10]) (by simp [results, Try.results44, go_sem , hc1, hf1, q1, q2]) rfl ⟨rfl, ?_⟩
  exact (by repeat (first | exact Below.refl _ _ | (refine Below.alloc ?_ (by first | omega | (simp; omega) | simp) _) | (refine Below.setCell ?_ (by first | omega | (simp; omega) | simp) _) | refine Below.drew ?_ | (refine below_via (by assumption) (by first | omega | (simp; omega) | simp) ?_)))

set_option maxHeartbeats 2000000 in
theorem refMix_ok (s : Shop) (a : Option Addr) (len cap : Nat) (P tl th al ah : Int) (w : World) (hp : PigsAt w a len s.pigs) (hok : s.ok = true) (v : Int) (hv : s.mixCode P tl th al ah = v) :
    Calls Try.prog 44 #[.agg #[.int .i64 s.P, .int .i64 s.tl, .int .i64 s.th, .int .i64 s.al, .int .i64 s.ah, .int .i64 s.room, .int .i64 s.xl, .int .i64 s.xh, .int .i64 s.yl, .int .i64 s.yh, .slice a len cap], .agg #[.int .i64 P, .int .i64 tl, .int .i64 th, .int .i64 al, .int .i64 ah]] w fun e w' => e = .returned (.tuple #[.agg (if v = 0 then #[.int .i64 (s.P + P), .int .i64 (s.tl + tl), .int .i64 (s.th + th), .int .i64 (s.al + al), .int .i64 (s.ah + ah)] else #[.int .i64 0, .int .i64 0, .int .i64 0, .int .i64 0, .int .i64 0]), .int .i64 v]) ∧ Below w.heap.size w w' := by
  have HC := Lib.hid (fun w1 (hb : Below w.heap.size w w1) => refCheck_is s a len cap 0 (by simp [Shop.chk, hok]) w1 (hp.below hb))
  have hbd := Shop.ok_bd hok
  obtain ⟨⟨q1, q2⟩, ⟨q3, q4⟩, ⟨q5, q6⟩, q7, ⟨q8, q9⟩, -⟩ := hbd
  clear hp
  rcases hpot : potB P tl th al ah with - | -
  · obtain rfl : v = 1 := by rw [← hv]; simp [Shop.mixCode, hok, hpot]
    clear hv hok
    simp only [show ¬ ((1 : Int) = 0) from by decide, if_false]
    go_enter Try.func44, Try.ntmps44
    go_wp2_with fail
    refine (HC.out _ (by repeat (first | exact Below.refl _ _ | (refine Below.alloc ?_ (by first | omega | (simp; omega) | simp) _) | (refine Below.setCell ?_ (by first | omega | (simp; omega) | simp) _) | refine Below.drew ?_))).mono ?_
    rintro e w1 ⟨rfl, hb1⟩
    obtain ⟨hc1, hf1⟩ := bcell hb1
    have hz1 := hb1.size
    simp at hz1
    have HB := Lib.hid hb1
    clear hb1
    have z1 : w.heap.size + 1 + 1 < w1.heap.size := by omega
    have z2 : w.heap.size + 1 < w1.heap.size := by omega
    have z3 : w.heap.size < w1.heap.size := by omega
    go_wp2_with (go_at_call 65; with_reducible refine (IsPot_is _ _ _ _ _ _ hpot _).mono ?_; rintro e w2 ⟨rfl, hb2⟩; obtain ⟨hc2, hf2⟩ := bcell hb2; have hz2 := hb2.size; have HB2 := Lib.hid hb2; clear hb2; have z4 : w.heap.size + 1 + 1 < w2.heap.size := (by omega); have z5 : w.heap.size + 1 < w2.heap.size := (by omega); have z6 : w.heap.size < w2.heap.size := (by omega))
    refine bodyPost_ret (v := .tuple #[.agg #[.int .i64 0, .int .i64 0, .int .i64 0, .int .i64 0, .int .i64 0], .int .i64 1]) (by simp [results, Try.results44, go_sem , *]) rfl ⟨rfl, ?_⟩
    exact (by repeat (first | exact Below.refl _ _ | (refine Below.alloc ?_ (by first | omega | (simp; omega) | simp) _) | (refine Below.setCell ?_ (by first | omega | (simp; omega) | simp) _) | refine Below.drew ?_ | (refine below_via (by assumption) (by first | omega | (simp; omega) | simp) ?_)))
  · have hb := hpot
    simp only [potB, btw, spanB, Bool.and_eq_true, decide_eq_true_eq] at hb
    obtain ⟨⟨⟨⟨b1, b2⟩, ⟨b3, b4, b5⟩⟩, ⟨b6, b7, b8⟩⟩, b9⟩ := hb
    rcases Int.lt_or_le s.room (s.P + P) with hr | hr
    · obtain rfl : v = 1 := by rw [← hv]; simp [Shop.mixCode, hok, hpot]; omega
      clear hv hok
      simp only [show ¬ ((1 : Int) = 0) from by decide, if_false]
      go_enter Try.func44, Try.ntmps44
      go_wp2_with fail
      refine (HC.out _ (by repeat (first | exact Below.refl _ _ | (refine Below.alloc ?_ (by first | omega | (simp; omega) | simp) _) | (refine Below.setCell ?_ (by first | omega | (simp; omega) | simp) _) | refine Below.drew ?_))).mono ?_
      rintro e w1 ⟨rfl, hb1⟩
      obtain ⟨hc1, hf1⟩ := bcell hb1
      have hz1 := hb1.size
      simp at hz1
      have HB := Lib.hid hb1
      clear hb1
      have z1 : w.heap.size + 1 + 1 < w1.heap.size := by omega
      have z2 : w.heap.size + 1 < w1.heap.size := by omega
      have z3 : w.heap.size < w1.heap.size := by omega
      go_wp2_with (go_at_call 65; with_reducible refine (IsPot_is _ _ _ _ _ _ hpot _).mono ?_; rintro e w2 ⟨rfl, hb2⟩; obtain ⟨hc2, hf2⟩ := bcell hb2; have hz2 := hb2.size; have HB2 := Lib.hid hb2; clear hb2; have z4 : w.heap.size + 1 + 1 < w2.heap.size := (by omega); have z5 : w.heap.size + 1 < w2.heap.size := (by omega); have z6 : w.heap.size < w2.heap.size := (by omega))
      refine bodyPost_ret (v := .tuple #[.agg #[.int .i64 0, .int .i64 0, .int .i64 0, .int .i64 0, .int .i64 0], .int .i64 1]) (by simp [results, Try.results44, go_sem , *]) rfl ⟨rfl, ?_⟩
      exact (by repeat (first | exact Below.refl _ _ | (refine Below.alloc ?_ (by first | omega | (simp; omega) | simp) _) | (refine Below.setCell ?_ (by first | omega | (simp; omega) | simp) _) | refine Below.drew ?_ | (refine below_via (by assumption) (by first | omega | (simp; omega) | simp) ?_)))
    · obtain rfl : v = 0 := by rw [← hv]; simp [Shop.mixCode, hok, hpot]; omega
      clear hv hok
      simp only [if_true]
      go_enter Try.func44, Try.ntmps44
      go_wp2_with fail
      refine (HC.out _ (by repeat (first | exact Below.refl _ _ | (refine Below.alloc ?_ (by first | omega | (simp; omega) | simp) _) | (refine Below.setCell ?_ (by first | omega | (simp; omega) | simp) _) | refine Below.drew ?_))).mono ?_
      rintro e w1 ⟨rfl, hb1⟩
      obtain ⟨hc1, hf1⟩ := bcell hb1
      have hz1 := hb1.size
      simp at hz1
      have HB := Lib.hid hb1
      clear hb1
      have z1 : w.heap.size + 1 + 1 < w1.heap.size := by omega
      have z2 : w.heap.size + 1 < w1.heap.size := by omega
      have z3 : w.heap.size < w1.heap.size := by omega
      go_wp2_with (go_at_call 65; with_reducible refine (IsPot_is _ _ _ _ _ _ hpot _).mono ?_; rintro e w2 ⟨rfl, hb2⟩; obtain ⟨hc2, hf2⟩ := bcell hb2; have hz2 := hb2.size; have HB2 := Lib.hid hb2; clear hb2; have z4 : w.heap.size + 1 + 1 < w2.heap.size := (by omega); have z5 : w.heap.size + 1 < w2.heap.size := (by omega); have z6 : w.heap.size < w2.heap.size := (by omega))
      refine bodyPost_ret (v := .tuple #[.agg #[.int .i64 (s.P + P), .int .i64 (s.tl + tl), .int .i64 (s.th + th), .int .i64 (s.al + al), .int .i64 (s.ah + ah)], .int .i64 0]) (by simp [results, Try.results44, go_sem , *]) rfl ⟨rfl, ?_⟩
      exact (by repeat (first | exact Below.refl _ _ | (refine Below.alloc ?_ (by first | omega | (simp; omega) | simp) _) | (refine Below.setCell ?_ (by first | omega | (simp; omega) | simp) _) | refine Below.drew ?_ | (refine below_via (by assumption) (by first | omega | (simp; omega) | simp) ?_)))
end Go.Proofs.Ytajabapcmpmboaa

/- MetalKnown. -/
namespace Go.Proofs.Ytajabapcmpmboaa
set_option linter.unusedVariables false
set_option linter.unusedSimpArgs false
open Go.RowKit

set_option maxRecDepth 100000 in
set_option maxHeartbeats 2000000 in
theorem Far_huge (s : Shop) (a : Option Addr) (len cap : Nat) (w : World) (h40 : 40 < len) :
    Calls Try.prog 38 #[.agg #[.int .i64 s.P, .int .i64 s.tl, .int .i64 s.th, .int .i64 s.al, .int .i64 s.ah, .int .i64 s.room, .int .i64 s.xl, .int .i64 s.xh, .int .i64 s.yl, .int .i64 s.yh, .slice a len cap]] w fun e w' => e = .returned (.bool true) ∧ Below w.heap.size w w' := by
  have HH := fun w1 => Huge_any s a len cap w1
  rw [show decide (40 < len) = true by simpa using h40] at HH
  replace HH := Lib.hid HH
  clear h40
  go_enter Try.func38, Try.ntmps38
  go_wp2_with fail
  refine (HH.out _).mono ?_; rintro e w1 ⟨rfl, hb1⟩; obtain ⟨hc1, hf1⟩ := bcell hb1; have hz1 := hb1.size; (try simp at hz1); have hw1 := ((by repeat (first | assumption | exact Below.refl _ _ | (refine Below.alloc ?_ (by first | omega | (simp; omega) | simp) _) | (refine Below.setCell ?_ (by first | omega | (simp; omega) | simp) _) | refine Below.drew ?_)) : Below w.heap.size w _).trans (hb1.mono (by first | (simp; done) | (simp; omega) | omega)); clear hb1; have p1 : w.heap.size < w1.heap.size := (by omega); go_wp2_with fail
  go_ret
  exact ⟨rfl, hw1⟩

/-- What a question about a shop and a pot is answered with, wherever the shop lies. -/
def SaysP (f : FuncId) (s : Shop) (len : Nat) (b1 b2 b3 b4 b5 : Int) (v : Value) : Prop :=
  ∀ (a : Option Addr) (cap : Nat) (w : World), PigsAt w a len s.pigs → Calls Try.prog f #[.agg #[.int .i64 s.P, .int .i64 s.tl, .int .i64 s.th, .int .i64 s.al, .int .i64 s.ah, .int .i64 s.room, .int .i64 s.xl, .int .i64 s.xh, .int .i64 s.yl, .int .i64 s.yh, .slice a len cap], .agg #[.int .i64 b1, .int .i64 b2, .int .i64 b3, .int .i64 b4, .int .i64 b5]] w fun e w' => e = .returned v ∧ Below w.heap.size w w'
theorem name1k (w : World) (ds : Array Value) (U : TypeId) :
    ∃ W0, w.alloc (.cells ds U) = W0 ∧ Below w.heap.size w W0 ∧ (∀ i, W0.cell? ⟨w.heap.size, i, none⟩ = ds[i]?) ∧ w.heap.size < W0.heap.size :=
  ⟨_, rfl, (by repeat (first | exact Below.refl _ _ | (refine Below.alloc ?_ (by first | omega | (simp; omega) | simp) _) | (refine Below.setCell ?_ (by first | omega | (simp; omega) | simp) _) | refine Below.drew ?_)), fun i => World.cell?_alloc_new w _ _ i, by simp⟩

set_option maxRecDepth 100000 in
set_option maxHeartbeats 16000000 in
theorem known_walk (s : Shop) (a : Option Addr) (len cap : Nat) (b1 b2 b3 b4 b5 : Int) (w : World) (hp : PigsAt w a len s.pigs) (h40 : len ≤ 40) (lo hi kk m g m1 m2 m3 m4 m5 v : Int)
    (A1 : SaysS 39 s len (.tuple #[.agg #[.int .i64 lo, .int .i64 hi], .int .i64 kk])) (A2 : SaysS 40 s len (.tuple #[.agg #[.int .i64 lo, .int .i64 hi], .int .i64 kk]))
    (B1 : SaysS 41 s len (.tuple #[.int .i64 m, .int .i64 g])) (B2 : SaysS 42 s len (.tuple #[.int .i64 m, .int .i64 g]))
    (C1 : SaysP 43 s len b1 b2 b3 b4 b5 (.tuple #[.agg #[.int .i64 m1, .int .i64 m2, .int .i64 m3, .int .i64 m4, .int .i64 m5], .int .i64 v])) (C2 : SaysP 44 s len b1 b2 b3 b4 b5 (.tuple #[.agg #[.int .i64 m1, .int .i64 m2, .int .i64 m3, .int .i64 m4, .int .i64 m5], .int .i64 v])) :
    Calls Try.prog 5 #[.agg #[.int .i64 s.P, .int .i64 s.tl, .int .i64 s.th, .int .i64 s.al, .int .i64 s.ah, .int .i64 s.room, .int .i64 s.xl, .int .i64 s.xh, .int .i64 s.yl, .int .i64 s.yh, .slice a len cap], .agg #[.int .i64 b1, .int .i64 b2, .int .i64 b3, .int .i64 b4, .int .i64 b5]] w fun e w' => e = .returned (.bool true) ∧ Below w.heap.size w w' := by
  have HF := Lib.hid (fun w1 (hb : Below w.heap.size w w1) => Far_any s a len cap w1 (hp.below hb))
  have HW := Lib.hid (fun w1 => works_any w1)
  have HC := Lib.hid (fun w1 (hb : Below w.heap.size w w1) => Copy_readM s a len cap w1 (hp.below hb) (by omega))
  have HP := Lib.hid (fun w1 (hb : Below w.heap.size w w1) => hp.below hb)
  have HA1 := Lib.hid A1
  have HA2 := Lib.hid A2
  have HB1 := Lib.hid B1
  have HB2 := Lib.hid B2
  have HC1 := Lib.hid C1
  have HC2 := Lib.hid C2
  clear hp A1 A2 B1 B2 C1 C2
  go_enter Try.func5, Try.ntmps5
  go_wp2_with fail
  refine (HF.out _ (by repeat (first | exact Below.refl _ _ | (refine Below.alloc ?_ (by first | omega | (simp; omega) | simp) _) | (refine Below.setCell ?_ (by first | omega | (simp; omega) | simp) _) | refine Below.drew ?_))).mono ?_
  rintro e w1 ⟨b, rfl, hb1⟩
  obtain ⟨hc1, hf1⟩ := bcell hb1
  have hz1 := hb1.size
  simp at hz1
  have hw1 := ((by repeat (first | exact Below.refl _ _ | (refine Below.alloc ?_ (by first | omega | (simp; omega) | simp) _) | (refine Below.setCell ?_ (by first | omega | (simp; omega) | simp) _) | refine Below.drew ?_)) : Below w.heap.size w _).trans (hb1.mono (by first | (simp; done) | (simp; omega) | omega))
  clear hb1
  have p1 : w.heap.size < w1.heap.size := by omega
  have r1 : w.heap.size + 1 < w1.heap.size := by omega
  cases b
  case true =>
    go_wp2_with fail
    refine (HW.out _).mono ?_
    rintro e w2 ⟨rfl, hb2⟩
    have hw2 := hw1.trans (hb2.mono hw1.size)
    clear hb2
    go_wp2_with fail
    go_ret
    exact ⟨rfl, hw2⟩
  case false =>
    go_wp2_with fail
    refine (HC.out _ hw1).mono ?_
    rintro e u1 ⟨⟨a1, cap1, rfl, hP1⟩, hb2⟩
    have hu1 := hw1.trans (hb2.mono hw1.size)
    obtain ⟨hc2, hf2⟩ := bcell hb2
    have hzu := hb2.size
    clear hb2
    have hS0 : ∀ i, w1.cell? ⟨w.heap.size, i, none⟩ = (#[.int .i64 s.P, .int .i64 s.tl, .int .i64 s.th, .int .i64 s.al, .int .i64 s.ah, .int .i64 s.room, .int .i64 s.xl, .int .i64 s.xh, .int .i64 s.yl, .int .i64 s.yh, .slice a len cap] : Array Value)[i]? := fun i => (hc1 _ _ (by simp; omega)).trans ((World.cell?_of_block (Below.heap_alloc _ _ _ (by simp))).trans (World.cell?_alloc_new w _ _ i))
    have hT0 : ∀ i, w1.cell? ⟨w.heap.size + 1, i, none⟩ = (#[.int .i64 b1, .int .i64 b2, .int .i64 b3, .int .i64 b4, .int .i64 b5] : Array Value)[i]? := fun i => (hc1 _ _ (by simp)).trans (by go_simp)
    go_wp2_with fail
    obtain ⟨U, hU, hb3', hOb, hzU⟩ := name1k u1 #[.int .i64 s.P, .int .i64 s.tl, .int .i64 s.th, .int .i64 s.al, .int .i64 s.ah, .int .i64 s.room, .int .i64 s.xl, .int .i64 s.xh, .int .i64 s.yl, .int .i64 s.yh, .slice a1 len cap1] 28
    rw [hU]
    clear hU
    have hwU : Below w.heap.size w U := hu1.trans (hb3'.mono hu1.size)
    have hPU : PigsAt U a1 len s.pigs := hP1.below hb3'
    have hSb : ∀ i, U.cell? ⟨w.heap.size, i, none⟩ = (#[.int .i64 s.P, .int .i64 s.tl, .int .i64 s.th, .int .i64 s.al, .int .i64 s.ah, .int .i64 s.room, .int .i64 s.xl, .int .i64 s.xh, .int .i64 s.yl, .int .i64 s.yh, .slice a len cap] : Array Value)[i]? := fun i => (hb3'.cell (p := ⟨w.heap.size, i, none⟩) (show w.heap.size < u1.heap.size by omega)).trans ((hc2 _ _ p1).trans (hS0 i))
    have hTb : ∀ i, U.cell? ⟨w.heap.size + 1, i, none⟩ = (#[.int .i64 b1, .int .i64 b2, .int .i64 b3, .int .i64 b4, .int .i64 b5] : Array Value)[i]? := fun i => (hb3'.cell (p := ⟨w.heap.size + 1, i, none⟩) (show w.heap.size + 1 < u1.heap.size by omega)).trans ((hc2 _ _ r1).trans (hT0 i))
    obtain ⟨gO, hgO⟩ : ∃ gO, gO = u1.heap.size := ⟨_, rfl⟩
    have hsU : w.heap.size < U.heap.size := by omega
    have htU : w.heap.size + 1 < U.heap.size := by omega
    have hgU : gO < U.heap.size := by omega
    have hne : gO ≠ w.heap.size := by omega
    have hne' : gO ≠ w.heap.size + 1 := by omega
    rw [← hgO]
    rw [← hgO] at hOb
    clear hgO hzU hc1 hf1 hc2 hf2 hw1 hu1 hb3' hP1 hzu hS0 hT0
    have HSB := Lib.hid hSb
    have HOB := Lib.hid hOb
    have HTB := Lib.hid hTb
    have HWU := Lib.hid hwU
    have HPU := Lib.hid (fun W (hb : Below U.heap.size U W) => hPU.below hb)
    have HPS := Lib.hid (fun W (hb : Below U.heap.size U W) => HP.out W (hwU.trans (hb.mono hwU.size)))
    clear hSb hOb hTb hPU hwU
    refine (HA1.out _ _ U (HPU.out _ (Below.refl _ _))).mono ?_
    rintro e w4 ⟨rfl, hv4⟩
    obtain ⟨x0, x1, x2, x3, x4, x5, x6, x7, x8, x9, x10⟩ : w4.cell? ⟨w.heap.size, 0, none⟩ = some (.int .i64 s.P) ∧ w4.cell? ⟨w.heap.size, 1, none⟩ = some (.int .i64 s.tl) ∧ w4.cell? ⟨w.heap.size, 2, none⟩ = some (.int .i64 s.th) ∧ w4.cell? ⟨w.heap.size, 3, none⟩ = some (.int .i64 s.al) ∧ w4.cell? ⟨w.heap.size, 4, none⟩ = some (.int .i64 s.ah) ∧ w4.cell? ⟨w.heap.size, 5, none⟩ = some (.int .i64 s.room) ∧ w4.cell? ⟨w.heap.size, 6, none⟩ = some (.int .i64 s.xl) ∧ w4.cell? ⟨w.heap.size, 7, none⟩ = some (.int .i64 s.xh) ∧ w4.cell? ⟨w.heap.size, 8, none⟩ = some (.int .i64 s.yl) ∧ w4.cell? ⟨w.heap.size, 9, none⟩ = some (.int .i64 s.yh) ∧ w4.cell? ⟨w.heap.size, 10, none⟩ = some (.slice a len cap) := ⟨(hv4.cell (p := ⟨w.heap.size, 0, none⟩) hsU).trans (HSB.out 0), (hv4.cell (p := ⟨w.heap.size, 1, none⟩) hsU).trans (HSB.out 1), (hv4.cell (p := ⟨w.heap.size, 2, none⟩) hsU).trans (HSB.out 2), (hv4.cell (p := ⟨w.heap.size, 3, none⟩) hsU).trans (HSB.out 3), (hv4.cell (p := ⟨w.heap.size, 4, none⟩) hsU).trans (HSB.out 4), (hv4.cell (p := ⟨w.heap.size, 5, none⟩) hsU).trans (HSB.out 5), (hv4.cell (p := ⟨w.heap.size, 6, none⟩) hsU).trans (HSB.out 6), (hv4.cell (p := ⟨w.heap.size, 7, none⟩) hsU).trans (HSB.out 7), (hv4.cell (p := ⟨w.heap.size, 8, none⟩) hsU).trans (HSB.out 8), (hv4.cell (p := ⟨w.heap.size, 9, none⟩) hsU).trans (HSB.out 9), (hv4.cell (p := ⟨w.heap.size, 10, none⟩) hsU).trans (HSB.out 10)⟩; obtain ⟨o0, o1, o2, o3, o4, o5, o6, o7, o8, o9, o10⟩ : w4.cell? ⟨gO, 0, none⟩ = some (.int .i64 s.P) ∧ w4.cell? ⟨gO, 1, none⟩ = some (.int .i64 s.tl) ∧ w4.cell? ⟨gO, 2, none⟩ = some (.int .i64 s.th) ∧ w4.cell? ⟨gO, 3, none⟩ = some (.int .i64 s.al) ∧ w4.cell? ⟨gO, 4, none⟩ = some (.int .i64 s.ah) ∧ w4.cell? ⟨gO, 5, none⟩ = some (.int .i64 s.room) ∧ w4.cell? ⟨gO, 6, none⟩ = some (.int .i64 s.xl) ∧ w4.cell? ⟨gO, 7, none⟩ = some (.int .i64 s.xh) ∧ w4.cell? ⟨gO, 8, none⟩ = some (.int .i64 s.yl) ∧ w4.cell? ⟨gO, 9, none⟩ = some (.int .i64 s.yh) ∧ w4.cell? ⟨gO, 10, none⟩ = some (.slice a1 len cap1) := ⟨(hv4.cell (p := ⟨gO, 0, none⟩) hgU).trans (HOB.out 0), (hv4.cell (p := ⟨gO, 1, none⟩) hgU).trans (HOB.out 1), (hv4.cell (p := ⟨gO, 2, none⟩) hgU).trans (HOB.out 2), (hv4.cell (p := ⟨gO, 3, none⟩) hgU).trans (HOB.out 3), (hv4.cell (p := ⟨gO, 4, none⟩) hgU).trans (HOB.out 4), (hv4.cell (p := ⟨gO, 5, none⟩) hgU).trans (HOB.out 5), (hv4.cell (p := ⟨gO, 6, none⟩) hgU).trans (HOB.out 6), (hv4.cell (p := ⟨gO, 7, none⟩) hgU).trans (HOB.out 7), (hv4.cell (p := ⟨gO, 8, none⟩) hgU).trans (HOB.out 8), (hv4.cell (p := ⟨gO, 9, none⟩) hgU).trans (HOB.out 9), (hv4.cell (p := ⟨gO, 10, none⟩) hgU).trans (HOB.out 10)⟩
    have s4 : w.heap.size < w4.heap.size := by have := hv4.size; omega
    go_wp2_with fail
    obtain ⟨A4, hA4, kb4, ha4, hz4⟩ := name1k w4 #[.int .i64 lo, .int .i64 hi] 23
    rw [hA4]
    clear hA4
    have hv4' := hv4.trans (kb4.mono hv4.size)
    clear x0 x1 x2 x3 x4 x5 x6 x7 x8 x9 x10 o0 o1 o2 o3 o4 o5 o6 o7 o8 o9 o10
    refine (HA2.out _ _ _ (HPS.out _ hv4')).mono ?_
    rintro e w5 ⟨rfl, hb5⟩
    have hv5 := hv4'.trans (hb5.mono hv4'.size)
    obtain ⟨x0, x1, x2, x3, x4, x5, x6, x7, x8, x9, x10⟩ : w5.cell? ⟨w.heap.size, 0, none⟩ = some (.int .i64 s.P) ∧ w5.cell? ⟨w.heap.size, 1, none⟩ = some (.int .i64 s.tl) ∧ w5.cell? ⟨w.heap.size, 2, none⟩ = some (.int .i64 s.th) ∧ w5.cell? ⟨w.heap.size, 3, none⟩ = some (.int .i64 s.al) ∧ w5.cell? ⟨w.heap.size, 4, none⟩ = some (.int .i64 s.ah) ∧ w5.cell? ⟨w.heap.size, 5, none⟩ = some (.int .i64 s.room) ∧ w5.cell? ⟨w.heap.size, 6, none⟩ = some (.int .i64 s.xl) ∧ w5.cell? ⟨w.heap.size, 7, none⟩ = some (.int .i64 s.xh) ∧ w5.cell? ⟨w.heap.size, 8, none⟩ = some (.int .i64 s.yl) ∧ w5.cell? ⟨w.heap.size, 9, none⟩ = some (.int .i64 s.yh) ∧ w5.cell? ⟨w.heap.size, 10, none⟩ = some (.slice a len cap) := ⟨(hv5.cell (p := ⟨w.heap.size, 0, none⟩) hsU).trans (HSB.out 0), (hv5.cell (p := ⟨w.heap.size, 1, none⟩) hsU).trans (HSB.out 1), (hv5.cell (p := ⟨w.heap.size, 2, none⟩) hsU).trans (HSB.out 2), (hv5.cell (p := ⟨w.heap.size, 3, none⟩) hsU).trans (HSB.out 3), (hv5.cell (p := ⟨w.heap.size, 4, none⟩) hsU).trans (HSB.out 4), (hv5.cell (p := ⟨w.heap.size, 5, none⟩) hsU).trans (HSB.out 5), (hv5.cell (p := ⟨w.heap.size, 6, none⟩) hsU).trans (HSB.out 6), (hv5.cell (p := ⟨w.heap.size, 7, none⟩) hsU).trans (HSB.out 7), (hv5.cell (p := ⟨w.heap.size, 8, none⟩) hsU).trans (HSB.out 8), (hv5.cell (p := ⟨w.heap.size, 9, none⟩) hsU).trans (HSB.out 9), (hv5.cell (p := ⟨w.heap.size, 10, none⟩) hsU).trans (HSB.out 10)⟩; obtain ⟨o0, o1, o2, o3, o4, o5, o6, o7, o8, o9, o10⟩ : w5.cell? ⟨gO, 0, none⟩ = some (.int .i64 s.P) ∧ w5.cell? ⟨gO, 1, none⟩ = some (.int .i64 s.tl) ∧ w5.cell? ⟨gO, 2, none⟩ = some (.int .i64 s.th) ∧ w5.cell? ⟨gO, 3, none⟩ = some (.int .i64 s.al) ∧ w5.cell? ⟨gO, 4, none⟩ = some (.int .i64 s.ah) ∧ w5.cell? ⟨gO, 5, none⟩ = some (.int .i64 s.room) ∧ w5.cell? ⟨gO, 6, none⟩ = some (.int .i64 s.xl) ∧ w5.cell? ⟨gO, 7, none⟩ = some (.int .i64 s.xh) ∧ w5.cell? ⟨gO, 8, none⟩ = some (.int .i64 s.yl) ∧ w5.cell? ⟨gO, 9, none⟩ = some (.int .i64 s.yh) ∧ w5.cell? ⟨gO, 10, none⟩ = some (.slice a1 len cap1) := ⟨(hv5.cell (p := ⟨gO, 0, none⟩) hgU).trans (HOB.out 0), (hv5.cell (p := ⟨gO, 1, none⟩) hgU).trans (HOB.out 1), (hv5.cell (p := ⟨gO, 2, none⟩) hgU).trans (HOB.out 2), (hv5.cell (p := ⟨gO, 3, none⟩) hgU).trans (HOB.out 3), (hv5.cell (p := ⟨gO, 4, none⟩) hgU).trans (HOB.out 4), (hv5.cell (p := ⟨gO, 5, none⟩) hgU).trans (HOB.out 5), (hv5.cell (p := ⟨gO, 6, none⟩) hgU).trans (HOB.out 6), (hv5.cell (p := ⟨gO, 7, none⟩) hgU).trans (HOB.out 7), (hv5.cell (p := ⟨gO, 8, none⟩) hgU).trans (HOB.out 8), (hv5.cell (p := ⟨gO, 9, none⟩) hgU).trans (HOB.out 9), (hv5.cell (p := ⟨gO, 10, none⟩) hgU).trans (HOB.out 10)⟩
    have s5 : w.heap.size < w5.heap.size := by have := hv5.size; omega
    have t5 : gO < w5.heap.size := by have := hv5.size; omega
    go_wp2_with fail
    obtain ⟨A5, hA5, kb5, ha5, hz5⟩ := name1k w5 #[.int .i64 lo, .int .i64 hi] 23
    rw [hA5]
    clear hA5
    have hv5' := hv5.trans (kb5.mono hv5.size)
    have ka5 : Below A4.heap.size A4 A5 := hb5.trans (kb5.mono hb5.size)
    clear x0 x1 x2 x3 x4 x5 x6 x7 x8 x9 x10 o0 o1 o2 o3 o4 o5 o6 o7 o8 o9 o10
    clear hv4 hv4' kb4 hb5 hv5 kb5 s4 s5 t5
    refine (HB1.out _ _ _ (HPU.out _ hv5')).mono ?_
    rintro e w6 ⟨rfl, hb6⟩
    have hv6 := hv5'.trans (hb6.mono hv5'.size)
    have ka6 := ka5.trans (hb6.mono ka5.size)
    have kb6 := hb6
    obtain ⟨x0, x1, x2, x3, x4, x5, x6, x7, x8, x9, x10⟩ : w6.cell? ⟨w.heap.size, 0, none⟩ = some (.int .i64 s.P) ∧ w6.cell? ⟨w.heap.size, 1, none⟩ = some (.int .i64 s.tl) ∧ w6.cell? ⟨w.heap.size, 2, none⟩ = some (.int .i64 s.th) ∧ w6.cell? ⟨w.heap.size, 3, none⟩ = some (.int .i64 s.al) ∧ w6.cell? ⟨w.heap.size, 4, none⟩ = some (.int .i64 s.ah) ∧ w6.cell? ⟨w.heap.size, 5, none⟩ = some (.int .i64 s.room) ∧ w6.cell? ⟨w.heap.size, 6, none⟩ = some (.int .i64 s.xl) ∧ w6.cell? ⟨w.heap.size, 7, none⟩ = some (.int .i64 s.xh) ∧ w6.cell? ⟨w.heap.size, 8, none⟩ = some (.int .i64 s.yl) ∧ w6.cell? ⟨w.heap.size, 9, none⟩ = some (.int .i64 s.yh) ∧ w6.cell? ⟨w.heap.size, 10, none⟩ = some (.slice a len cap) := ⟨(hv6.cell (p := ⟨w.heap.size, 0, none⟩) hsU).trans (HSB.out 0), (hv6.cell (p := ⟨w.heap.size, 1, none⟩) hsU).trans (HSB.out 1), (hv6.cell (p := ⟨w.heap.size, 2, none⟩) hsU).trans (HSB.out 2), (hv6.cell (p := ⟨w.heap.size, 3, none⟩) hsU).trans (HSB.out 3), (hv6.cell (p := ⟨w.heap.size, 4, none⟩) hsU).trans (HSB.out 4), (hv6.cell (p := ⟨w.heap.size, 5, none⟩) hsU).trans (HSB.out 5), (hv6.cell (p := ⟨w.heap.size, 6, none⟩) hsU).trans (HSB.out 6), (hv6.cell (p := ⟨w.heap.size, 7, none⟩) hsU).trans (HSB.out 7), (hv6.cell (p := ⟨w.heap.size, 8, none⟩) hsU).trans (HSB.out 8), (hv6.cell (p := ⟨w.heap.size, 9, none⟩) hsU).trans (HSB.out 9), (hv6.cell (p := ⟨w.heap.size, 10, none⟩) hsU).trans (HSB.out 10)⟩; obtain ⟨o0, o1, o2, o3, o4, o5, o6, o7, o8, o9, o10⟩ : w6.cell? ⟨gO, 0, none⟩ = some (.int .i64 s.P) ∧ w6.cell? ⟨gO, 1, none⟩ = some (.int .i64 s.tl) ∧ w6.cell? ⟨gO, 2, none⟩ = some (.int .i64 s.th) ∧ w6.cell? ⟨gO, 3, none⟩ = some (.int .i64 s.al) ∧ w6.cell? ⟨gO, 4, none⟩ = some (.int .i64 s.ah) ∧ w6.cell? ⟨gO, 5, none⟩ = some (.int .i64 s.room) ∧ w6.cell? ⟨gO, 6, none⟩ = some (.int .i64 s.xl) ∧ w6.cell? ⟨gO, 7, none⟩ = some (.int .i64 s.xh) ∧ w6.cell? ⟨gO, 8, none⟩ = some (.int .i64 s.yl) ∧ w6.cell? ⟨gO, 9, none⟩ = some (.int .i64 s.yh) ∧ w6.cell? ⟨gO, 10, none⟩ = some (.slice a1 len cap1) := ⟨(hv6.cell (p := ⟨gO, 0, none⟩) hgU).trans (HOB.out 0), (hv6.cell (p := ⟨gO, 1, none⟩) hgU).trans (HOB.out 1), (hv6.cell (p := ⟨gO, 2, none⟩) hgU).trans (HOB.out 2), (hv6.cell (p := ⟨gO, 3, none⟩) hgU).trans (HOB.out 3), (hv6.cell (p := ⟨gO, 4, none⟩) hgU).trans (HOB.out 4), (hv6.cell (p := ⟨gO, 5, none⟩) hgU).trans (HOB.out 5), (hv6.cell (p := ⟨gO, 6, none⟩) hgU).trans (HOB.out 6), (hv6.cell (p := ⟨gO, 7, none⟩) hgU).trans (HOB.out 7), (hv6.cell (p := ⟨gO, 8, none⟩) hgU).trans (HOB.out 8), (hv6.cell (p := ⟨gO, 9, none⟩) hgU).trans (HOB.out 9), (hv6.cell (p := ⟨gO, 10, none⟩) hgU).trans (HOB.out 10)⟩
    clear hb6 ka5 hv5'
    go_wp2_with fail
    refine (HB2.out _ _ _ (HPS.out _ hv6)).mono ?_
    rintro e w7 ⟨rfl, hb7⟩
    have hv7 := hv6.trans (hb7.mono hv6.size)
    have ka7 := ka6.trans (hb7.mono ka6.size)
    have kb7 := kb6.trans (hb7.mono kb6.size)
    clear x0 x1 x2 x3 x4 x5 x6 x7 x8 x9 x10 o0 o1 o2 o3 o4 o5 o6 o7 o8 o9 o10
    obtain ⟨x0, x1, x2, x3, x4, x5, x6, x7, x8, x9, x10⟩ : w7.cell? ⟨w.heap.size, 0, none⟩ = some (.int .i64 s.P) ∧ w7.cell? ⟨w.heap.size, 1, none⟩ = some (.int .i64 s.tl) ∧ w7.cell? ⟨w.heap.size, 2, none⟩ = some (.int .i64 s.th) ∧ w7.cell? ⟨w.heap.size, 3, none⟩ = some (.int .i64 s.al) ∧ w7.cell? ⟨w.heap.size, 4, none⟩ = some (.int .i64 s.ah) ∧ w7.cell? ⟨w.heap.size, 5, none⟩ = some (.int .i64 s.room) ∧ w7.cell? ⟨w.heap.size, 6, none⟩ = some (.int .i64 s.xl) ∧ w7.cell? ⟨w.heap.size, 7, none⟩ = some (.int .i64 s.xh) ∧ w7.cell? ⟨w.heap.size, 8, none⟩ = some (.int .i64 s.yl) ∧ w7.cell? ⟨w.heap.size, 9, none⟩ = some (.int .i64 s.yh) ∧ w7.cell? ⟨w.heap.size, 10, none⟩ = some (.slice a len cap) := ⟨(hv7.cell (p := ⟨w.heap.size, 0, none⟩) hsU).trans (HSB.out 0), (hv7.cell (p := ⟨w.heap.size, 1, none⟩) hsU).trans (HSB.out 1), (hv7.cell (p := ⟨w.heap.size, 2, none⟩) hsU).trans (HSB.out 2), (hv7.cell (p := ⟨w.heap.size, 3, none⟩) hsU).trans (HSB.out 3), (hv7.cell (p := ⟨w.heap.size, 4, none⟩) hsU).trans (HSB.out 4), (hv7.cell (p := ⟨w.heap.size, 5, none⟩) hsU).trans (HSB.out 5), (hv7.cell (p := ⟨w.heap.size, 6, none⟩) hsU).trans (HSB.out 6), (hv7.cell (p := ⟨w.heap.size, 7, none⟩) hsU).trans (HSB.out 7), (hv7.cell (p := ⟨w.heap.size, 8, none⟩) hsU).trans (HSB.out 8), (hv7.cell (p := ⟨w.heap.size, 9, none⟩) hsU).trans (HSB.out 9), (hv7.cell (p := ⟨w.heap.size, 10, none⟩) hsU).trans (HSB.out 10)⟩; obtain ⟨o0, o1, o2, o3, o4, o5, o6, o7, o8, o9, o10⟩ : w7.cell? ⟨gO, 0, none⟩ = some (.int .i64 s.P) ∧ w7.cell? ⟨gO, 1, none⟩ = some (.int .i64 s.tl) ∧ w7.cell? ⟨gO, 2, none⟩ = some (.int .i64 s.th) ∧ w7.cell? ⟨gO, 3, none⟩ = some (.int .i64 s.al) ∧ w7.cell? ⟨gO, 4, none⟩ = some (.int .i64 s.ah) ∧ w7.cell? ⟨gO, 5, none⟩ = some (.int .i64 s.room) ∧ w7.cell? ⟨gO, 6, none⟩ = some (.int .i64 s.xl) ∧ w7.cell? ⟨gO, 7, none⟩ = some (.int .i64 s.xh) ∧ w7.cell? ⟨gO, 8, none⟩ = some (.int .i64 s.yl) ∧ w7.cell? ⟨gO, 9, none⟩ = some (.int .i64 s.yh) ∧ w7.cell? ⟨gO, 10, none⟩ = some (.slice a1 len cap1) := ⟨(hv7.cell (p := ⟨gO, 0, none⟩) hgU).trans (HOB.out 0), (hv7.cell (p := ⟨gO, 1, none⟩) hgU).trans (HOB.out 1), (hv7.cell (p := ⟨gO, 2, none⟩) hgU).trans (HOB.out 2), (hv7.cell (p := ⟨gO, 3, none⟩) hgU).trans (HOB.out 3), (hv7.cell (p := ⟨gO, 4, none⟩) hgU).trans (HOB.out 4), (hv7.cell (p := ⟨gO, 5, none⟩) hgU).trans (HOB.out 5), (hv7.cell (p := ⟨gO, 6, none⟩) hgU).trans (HOB.out 6), (hv7.cell (p := ⟨gO, 7, none⟩) hgU).trans (HOB.out 7), (hv7.cell (p := ⟨gO, 8, none⟩) hgU).trans (HOB.out 8), (hv7.cell (p := ⟨gO, 9, none⟩) hgU).trans (HOB.out 9), (hv7.cell (p := ⟨gO, 10, none⟩) hgU).trans (HOB.out 10)⟩
    obtain ⟨e0, e1, e2, e3, e4⟩ : w7.cell? ⟨w.heap.size + 1, 0, none⟩ = some (.int .i64 b1) ∧ w7.cell? ⟨w.heap.size + 1, 1, none⟩ = some (.int .i64 b2) ∧ w7.cell? ⟨w.heap.size + 1, 2, none⟩ = some (.int .i64 b3) ∧ w7.cell? ⟨w.heap.size + 1, 3, none⟩ = some (.int .i64 b4) ∧ w7.cell? ⟨w.heap.size + 1, 4, none⟩ = some (.int .i64 b5) := ⟨(hv7.cell (p := ⟨w.heap.size + 1, 0, none⟩) htU).trans (HTB.out 0), (hv7.cell (p := ⟨w.heap.size + 1, 1, none⟩) htU).trans (HTB.out 1), (hv7.cell (p := ⟨w.heap.size + 1, 2, none⟩) htU).trans (HTB.out 2), (hv7.cell (p := ⟨w.heap.size + 1, 3, none⟩) htU).trans (HTB.out 3), (hv7.cell (p := ⟨w.heap.size + 1, 4, none⟩) htU).trans (HTB.out 4)⟩
    clear hb7 ka6 kb6 hv6
    go_wp2_with fail
    refine (HC1.out _ _ _ (HPU.out _ hv7)).mono ?_
    rintro e w8 ⟨rfl, hb8⟩
    have hv8 := hv7.trans (hb8.mono hv7.size)
    have ka8 := ka7.trans (hb8.mono ka7.size)
    have kb8 := kb7.trans (hb8.mono kb7.size)
    clear x0 x1 x2 x3 x4 x5 x6 x7 x8 x9 x10 o0 o1 o2 o3 o4 o5 o6 o7 o8 o9 o10
    clear e0 e1 e2 e3 e4
    obtain ⟨x0, x1, x2, x3, x4, x5, x6, x7, x8, x9, x10⟩ : w8.cell? ⟨w.heap.size, 0, none⟩ = some (.int .i64 s.P) ∧ w8.cell? ⟨w.heap.size, 1, none⟩ = some (.int .i64 s.tl) ∧ w8.cell? ⟨w.heap.size, 2, none⟩ = some (.int .i64 s.th) ∧ w8.cell? ⟨w.heap.size, 3, none⟩ = some (.int .i64 s.al) ∧ w8.cell? ⟨w.heap.size, 4, none⟩ = some (.int .i64 s.ah) ∧ w8.cell? ⟨w.heap.size, 5, none⟩ = some (.int .i64 s.room) ∧ w8.cell? ⟨w.heap.size, 6, none⟩ = some (.int .i64 s.xl) ∧ w8.cell? ⟨w.heap.size, 7, none⟩ = some (.int .i64 s.xh) ∧ w8.cell? ⟨w.heap.size, 8, none⟩ = some (.int .i64 s.yl) ∧ w8.cell? ⟨w.heap.size, 9, none⟩ = some (.int .i64 s.yh) ∧ w8.cell? ⟨w.heap.size, 10, none⟩ = some (.slice a len cap) := ⟨(hv8.cell (p := ⟨w.heap.size, 0, none⟩) hsU).trans (HSB.out 0), (hv8.cell (p := ⟨w.heap.size, 1, none⟩) hsU).trans (HSB.out 1), (hv8.cell (p := ⟨w.heap.size, 2, none⟩) hsU).trans (HSB.out 2), (hv8.cell (p := ⟨w.heap.size, 3, none⟩) hsU).trans (HSB.out 3), (hv8.cell (p := ⟨w.heap.size, 4, none⟩) hsU).trans (HSB.out 4), (hv8.cell (p := ⟨w.heap.size, 5, none⟩) hsU).trans (HSB.out 5), (hv8.cell (p := ⟨w.heap.size, 6, none⟩) hsU).trans (HSB.out 6), (hv8.cell (p := ⟨w.heap.size, 7, none⟩) hsU).trans (HSB.out 7), (hv8.cell (p := ⟨w.heap.size, 8, none⟩) hsU).trans (HSB.out 8), (hv8.cell (p := ⟨w.heap.size, 9, none⟩) hsU).trans (HSB.out 9), (hv8.cell (p := ⟨w.heap.size, 10, none⟩) hsU).trans (HSB.out 10)⟩; obtain ⟨o0, o1, o2, o3, o4, o5, o6, o7, o8, o9, o10⟩ : w8.cell? ⟨gO, 0, none⟩ = some (.int .i64 s.P) ∧ w8.cell? ⟨gO, 1, none⟩ = some (.int .i64 s.tl) ∧ w8.cell? ⟨gO, 2, none⟩ = some (.int .i64 s.th) ∧ w8.cell? ⟨gO, 3, none⟩ = some (.int .i64 s.al) ∧ w8.cell? ⟨gO, 4, none⟩ = some (.int .i64 s.ah) ∧ w8.cell? ⟨gO, 5, none⟩ = some (.int .i64 s.room) ∧ w8.cell? ⟨gO, 6, none⟩ = some (.int .i64 s.xl) ∧ w8.cell? ⟨gO, 7, none⟩ = some (.int .i64 s.xh) ∧ w8.cell? ⟨gO, 8, none⟩ = some (.int .i64 s.yl) ∧ w8.cell? ⟨gO, 9, none⟩ = some (.int .i64 s.yh) ∧ w8.cell? ⟨gO, 10, none⟩ = some (.slice a1 len cap1) := ⟨(hv8.cell (p := ⟨gO, 0, none⟩) hgU).trans (HOB.out 0), (hv8.cell (p := ⟨gO, 1, none⟩) hgU).trans (HOB.out 1), (hv8.cell (p := ⟨gO, 2, none⟩) hgU).trans (HOB.out 2), (hv8.cell (p := ⟨gO, 3, none⟩) hgU).trans (HOB.out 3), (hv8.cell (p := ⟨gO, 4, none⟩) hgU).trans (HOB.out 4), (hv8.cell (p := ⟨gO, 5, none⟩) hgU).trans (HOB.out 5), (hv8.cell (p := ⟨gO, 6, none⟩) hgU).trans (HOB.out 6), (hv8.cell (p := ⟨gO, 7, none⟩) hgU).trans (HOB.out 7), (hv8.cell (p := ⟨gO, 8, none⟩) hgU).trans (HOB.out 8), (hv8.cell (p := ⟨gO, 9, none⟩) hgU).trans (HOB.out 9), (hv8.cell (p := ⟨gO, 10, none⟩) hgU).trans (HOB.out 10)⟩
    obtain ⟨e0, e1, e2, e3, e4⟩ : w8.cell? ⟨w.heap.size + 1, 0, none⟩ = some (.int .i64 b1) ∧ w8.cell? ⟨w.heap.size + 1, 1, none⟩ = some (.int .i64 b2) ∧ w8.cell? ⟨w.heap.size + 1, 2, none⟩ = some (.int .i64 b3) ∧ w8.cell? ⟨w.heap.size + 1, 3, none⟩ = some (.int .i64 b4) ∧ w8.cell? ⟨w.heap.size + 1, 4, none⟩ = some (.int .i64 b5) := ⟨(hv8.cell (p := ⟨w.heap.size + 1, 0, none⟩) htU).trans (HTB.out 0), (hv8.cell (p := ⟨w.heap.size + 1, 1, none⟩) htU).trans (HTB.out 1), (hv8.cell (p := ⟨w.heap.size + 1, 2, none⟩) htU).trans (HTB.out 2), (hv8.cell (p := ⟨w.heap.size + 1, 3, none⟩) htU).trans (HTB.out 3), (hv8.cell (p := ⟨w.heap.size + 1, 4, none⟩) htU).trans (HTB.out 4)⟩
    have s8 : w.heap.size < w8.heap.size := by have := hv8.size; omega
    have t8 : w.heap.size + 1 < w8.heap.size := by have := hv8.size; omega
    clear hb8 ka7 kb7 hv7
    go_wp2_with fail
    obtain ⟨A8, hA8, kb8', ha8, hz8⟩ := name1k w8 #[.int .i64 m1, .int .i64 m2, .int .i64 m3, .int .i64 m4, .int .i64 m5] 25
    rw [hA8]
    clear hA8
    have hv8' := hv8.trans (kb8'.mono hv8.size)
    have ka8' := ka8.trans (kb8'.mono ka8.size)
    have kb8'' := kb8.trans (kb8'.mono kb8.size)
    clear x0 x1 x2 x3 x4 x5 x6 x7 x8 x9 x10 o0 o1 o2 o3 o4 o5 o6 o7 o8 o9 o10
    clear e0 e1 e2 e3 e4 hv8 ka8 kb8 kb8' s8 t8
    refine (HC2.out _ _ _ (HPS.out _ hv8')).mono ?_
    rintro e w9 ⟨rfl, hb9⟩
    have hv9 := hv8'.trans (hb9.mono hv8'.size)
    have ka9 := ka8'.trans (hb9.mono ka8'.size)
    have kb9 := kb8''.trans (hb9.mono kb8''.size)
    have kp9 : Below A8.heap.size A8 w9 := hb9
    have d0 := (ka9.cell (p := ⟨w4.heap.size, 0, none⟩) hz4).trans (ha4 0)
    have d1 := (ka9.cell (p := ⟨w4.heap.size, 1, none⟩) hz4).trans (ha4 1)
    have f0 := (kb9.cell (p := ⟨w5.heap.size, 0, none⟩) hz5).trans (ha5 0)
    have f1 := (kb9.cell (p := ⟨w5.heap.size, 1, none⟩) hz5).trans (ha5 1)
    have g0 := (kp9.cell (p := ⟨w8.heap.size, 0, none⟩) hz8).trans (ha8 0)
    have g1 := (kp9.cell (p := ⟨w8.heap.size, 1, none⟩) hz8).trans (ha8 1)
    have g2 := (kp9.cell (p := ⟨w8.heap.size, 2, none⟩) hz8).trans (ha8 2)
    have g3 := (kp9.cell (p := ⟨w8.heap.size, 3, none⟩) hz8).trans (ha8 3)
    have g4 := (kp9.cell (p := ⟨w8.heap.size, 4, none⟩) hz8).trans (ha8 4)
    have z4 : w4.heap.size < w9.heap.size := Nat.lt_of_lt_of_le hz4 ka9.size
    have z5 : w5.heap.size < w9.heap.size := Nat.lt_of_lt_of_le hz5 kb9.size
    have z8 : w8.heap.size < w9.heap.size := Nat.lt_of_lt_of_le hz8 kp9.size
    have s9 : w.heap.size < w9.heap.size := by have := hv9.size; omega
    have t9 : gO < w9.heap.size := by have := hv9.size; omega
    obtain ⟨x0, x1, x2, x3, x4, x5, x6, x7, x8, x9, x10⟩ : w9.cell? ⟨w.heap.size, 0, none⟩ = some (.int .i64 s.P) ∧ w9.cell? ⟨w.heap.size, 1, none⟩ = some (.int .i64 s.tl) ∧ w9.cell? ⟨w.heap.size, 2, none⟩ = some (.int .i64 s.th) ∧ w9.cell? ⟨w.heap.size, 3, none⟩ = some (.int .i64 s.al) ∧ w9.cell? ⟨w.heap.size, 4, none⟩ = some (.int .i64 s.ah) ∧ w9.cell? ⟨w.heap.size, 5, none⟩ = some (.int .i64 s.room) ∧ w9.cell? ⟨w.heap.size, 6, none⟩ = some (.int .i64 s.xl) ∧ w9.cell? ⟨w.heap.size, 7, none⟩ = some (.int .i64 s.xh) ∧ w9.cell? ⟨w.heap.size, 8, none⟩ = some (.int .i64 s.yl) ∧ w9.cell? ⟨w.heap.size, 9, none⟩ = some (.int .i64 s.yh) ∧ w9.cell? ⟨w.heap.size, 10, none⟩ = some (.slice a len cap) := ⟨(hv9.cell (p := ⟨w.heap.size, 0, none⟩) hsU).trans (HSB.out 0), (hv9.cell (p := ⟨w.heap.size, 1, none⟩) hsU).trans (HSB.out 1), (hv9.cell (p := ⟨w.heap.size, 2, none⟩) hsU).trans (HSB.out 2), (hv9.cell (p := ⟨w.heap.size, 3, none⟩) hsU).trans (HSB.out 3), (hv9.cell (p := ⟨w.heap.size, 4, none⟩) hsU).trans (HSB.out 4), (hv9.cell (p := ⟨w.heap.size, 5, none⟩) hsU).trans (HSB.out 5), (hv9.cell (p := ⟨w.heap.size, 6, none⟩) hsU).trans (HSB.out 6), (hv9.cell (p := ⟨w.heap.size, 7, none⟩) hsU).trans (HSB.out 7), (hv9.cell (p := ⟨w.heap.size, 8, none⟩) hsU).trans (HSB.out 8), (hv9.cell (p := ⟨w.heap.size, 9, none⟩) hsU).trans (HSB.out 9), (hv9.cell (p := ⟨w.heap.size, 10, none⟩) hsU).trans (HSB.out 10)⟩; obtain ⟨o0, o1, o2, o3, o4, o5, o6, o7, o8, o9, o10⟩ : w9.cell? ⟨gO, 0, none⟩ = some (.int .i64 s.P) ∧ w9.cell? ⟨gO, 1, none⟩ = some (.int .i64 s.tl) ∧ w9.cell? ⟨gO, 2, none⟩ = some (.int .i64 s.th) ∧ w9.cell? ⟨gO, 3, none⟩ = some (.int .i64 s.al) ∧ w9.cell? ⟨gO, 4, none⟩ = some (.int .i64 s.ah) ∧ w9.cell? ⟨gO, 5, none⟩ = some (.int .i64 s.room) ∧ w9.cell? ⟨gO, 6, none⟩ = some (.int .i64 s.xl) ∧ w9.cell? ⟨gO, 7, none⟩ = some (.int .i64 s.xh) ∧ w9.cell? ⟨gO, 8, none⟩ = some (.int .i64 s.yl) ∧ w9.cell? ⟨gO, 9, none⟩ = some (.int .i64 s.yh) ∧ w9.cell? ⟨gO, 10, none⟩ = some (.slice a1 len cap1) := ⟨(hv9.cell (p := ⟨gO, 0, none⟩) hgU).trans (HOB.out 0), (hv9.cell (p := ⟨gO, 1, none⟩) hgU).trans (HOB.out 1), (hv9.cell (p := ⟨gO, 2, none⟩) hgU).trans (HOB.out 2), (hv9.cell (p := ⟨gO, 3, none⟩) hgU).trans (HOB.out 3), (hv9.cell (p := ⟨gO, 4, none⟩) hgU).trans (HOB.out 4), (hv9.cell (p := ⟨gO, 5, none⟩) hgU).trans (HOB.out 5), (hv9.cell (p := ⟨gO, 6, none⟩) hgU).trans (HOB.out 6), (hv9.cell (p := ⟨gO, 7, none⟩) hgU).trans (HOB.out 7), (hv9.cell (p := ⟨gO, 8, none⟩) hgU).trans (HOB.out 8), (hv9.cell (p := ⟨gO, 9, none⟩) hgU).trans (HOB.out 9), (hv9.cell (p := ⟨gO, 10, none⟩) hgU).trans (HOB.out 10)⟩
    have HV9 := Lib.hid hv9
    clear hv8' ka8' kb8'' hb9 ka9 kb9 kp9 hz4 hz5 hz8 ha4 ha5 ha8 hv9
    go_wp2_with fail
    obtain ⟨A9, hA9, kb9, ha9, hz9⟩ := name1k w9 #[.int .i64 m1, .int .i64 m2, .int .i64 m3, .int .i64 m4, .int .i64 m5] 25
    rw [hA9]
    have hvA := HV9.out.trans (kb9.mono HV9.out.size)
    refine (Same_yes s a1 a len cap1 cap A9 (HPU.out _ hvA) (HPS.out _ hvA)).mono ?_
    rintro e w14 ⟨rfl, hb14⟩
    have hv14 := hvA.trans (hb14.mono hvA.size)
    clear hb14
    go_wp2_with fail
    refine (HW.out _).mono ?_
    rintro e w15 ⟨rfl, hb15⟩
    have hv15 := HWU.out.trans ((hv14.trans (hb15.mono hv14.size)).mono HWU.out.size)
    clear hb15
    go_wp2_with fail
    go_ret
    exact ⟨rfl, hv15⟩

/-- What Mix answers. -/
theorem mix_both (s : Shop) (len : Nat) (b1 b2 b3 b4 b5 : Int) : ∃ m1 m2 m3 m4 m5 v : Int,
    SaysP 43 s len b1 b2 b3 b4 b5 (.tuple #[.agg #[.int .i64 m1, .int .i64 m2, .int .i64 m3, .int .i64 m4, .int .i64 m5], .int .i64 v]) ∧
    SaysP 44 s len b1 b2 b3 b4 b5 (.tuple #[.agg #[.int .i64 m1, .int .i64 m2, .int .i64 m3, .int .i64 m4, .int .i64 m5], .int .i64 v]) := by
  rcases ho : s.ok with - | -
  · exact ⟨0, 0, 0, 0, 0, 10, fun a cap w hp => Mix_bad s a len cap b1 b2 b3 b4 b5 w hp ho, fun a cap w hp => refMix_bad s a len cap b1 b2 b3 b4 b5 w hp ho⟩
  · by_cases hv : s.mixCode b1 b2 b3 b4 b5 = 0
    · refine ⟨s.P + b1, s.tl + b2, s.th + b3, s.al + b4, s.ah + b5, 0, fun a cap w hp => ?_, fun a cap w hp => ?_⟩
      · have h := Mix_ok s a len cap b1 b2 b3 b4 b5 w hp ho 0 hv
        simpa using h
      · have h := refMix_ok s a len cap b1 b2 b3 b4 b5 w hp ho 0 hv
        simpa using h
    · refine ⟨0, 0, 0, 0, 0, s.mixCode b1 b2 b3 b4 b5, fun a cap w hp => ?_, fun a cap w hp => ?_⟩
      · have h := Mix_ok s a len cap b1 b2 b3 b4 b5 w hp ho _ rfl
        simpa [hv] using h
      · have h := refMix_ok s a len cap b1 b2 b3 b4 b5 w hp ho _ rfl
        simpa [hv] using h
/-- What Known answers. -/
theorem known_two (s : Shop) : ∃ lo hi : Int, knownCells s = #[.int .i64 lo, .int .i64 hi] := by
  unfold knownCells
  split
  · rcases s.knownR with - | ⟨x, y⟩
    · exact ⟨0, 0, rfl⟩
    · exact ⟨x, y, rfl⟩
  · exact ⟨0, 0, rfl⟩

theorem known_far (s : Shop) (a : Option Addr) (len cap : Nat) (b1 b2 b3 b4 b5 : Int) (w : World) (h40 : 40 < len) :
    Calls Try.prog 5 #[.agg #[.int .i64 s.P, .int .i64 s.tl, .int .i64 s.th, .int .i64 s.al, .int .i64 s.ah, .int .i64 s.room, .int .i64 s.xl, .int .i64 s.xh, .int .i64 s.yl, .int .i64 s.yh, .slice a len cap], .agg #[.int .i64 b1, .int .i64 b2, .int .i64 b3, .int .i64 b4, .int .i64 b5]] w fun e w' => e = .returned (.bool true) ∧ Below w.heap.size w w' := by
  have HF := Lib.hid (fun w1 => Far_huge s a len cap w1 h40)
  have HW := Lib.hid (fun w1 => works_any w1)
  clear h40
  go_enter Try.func5, Try.ntmps5
  go_wp2_with fail
  refine (HF.out _).mono ?_
  rintro e w1 ⟨rfl, hb1⟩
  have hw1 := ((by repeat (first | exact Below.refl _ _ | (refine Below.alloc ?_ (by first | omega | (simp; omega) | simp) _) | (refine Below.setCell ?_ (by first | omega | (simp; omega) | simp) _) | refine Below.drew ?_)) : Below w.heap.size w _).trans (hb1.mono (by first | (simp; done) | (simp; omega) | omega))
  clear hb1
  go_wp2_with fail
  refine (HW.out _).mono ?_
  rintro e w2 ⟨rfl, hb2⟩
  have hw2 := hw1.trans (hb2.mono hw1.size)
  clear hb2
  go_wp2_with fail
  go_ret
  exact ⟨rfl, hw2⟩

theorem metalKnown_any (s : Shop) (a : Option Addr) (len cap : Nat) (b1 b2 b3 b4 b5 : Int) (w : World) (hp : PigsAt w a len s.pigs) :
    Calls Try.prog 5 #[.agg #[.int .i64 s.P, .int .i64 s.tl, .int .i64 s.th, .int .i64 s.al, .int .i64 s.ah, .int .i64 s.room, .int .i64 s.xl, .int .i64 s.xh, .int .i64 s.yl, .int .i64 s.yh, .slice a len cap], .agg #[.int .i64 b1, .int .i64 b2, .int .i64 b3, .int .i64 b4, .int .i64 b5]] w fun e w' => e = .returned (.bool true) ∧ Below w.heap.size w w' := by
  rcases Nat.lt_or_ge 40 len with h40 | h40
  · exact known_far s a len cap b1 b2 b3 b4 b5 w h40
  obtain ⟨m1, m2, m3, m4, m5, v, C1, C2⟩ := mix_both s len b1 b2 b3 b4 b5
  obtain ⟨lo, hi, hk⟩ := known_two s
  exact known_walk s a len cap b1 b2 b3 b4 b5 w hp h40 lo hi s.knownCode s.worthOf.1 s.worthOf.2 m1 m2 m3 m4 m5 v
    (fun a cap w hp => Known_is s a len cap lo hi _ w hp ⟨hk, rfl⟩) (fun a cap w hp => refKnown_is s a len cap lo hi _ w hp ⟨hk, rfl⟩)
    (fun a cap w hp => Worth_any s a len cap w hp) (fun a cap w hp => refWorth_any s a len cap w hp) C1 C2
end Go.Proofs.Ytajabapcmpmboaa
