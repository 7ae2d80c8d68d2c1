/- The reference's Fails. -/
import Derived.Test.YtajabapcmpmboaaSA
namespace Go.Proofs.Ytajabapcmpmboaa
set_option linter.unusedVariables false
set_option linter.unusedSimpArgs false
open Go.RowKit

set_option maxHeartbeats 1000000 in
theorem refFails_no (s : Shop) (a : Option Addr) (len cap : Nat) (x : Option Addr) (xlen xcap : Nat) (ns : List Int) (w : World) (hp : PigsAt w a len s.pigs) (hx : IntsAt w x xlen ns) (v : Int) (hv : s.code ns = v) (hno : v ≠ 0) :
    Calls Try.prog 25 #[.agg #[.int .i64 s.P, .int .i64 s.tl, .int .i64 s.th, .int .i64 s.al, .int .i64 s.ah, .int .i64 s.room, .int .i64 s.xl, .int .i64 s.xh, .int .i64 s.yl, .int .i64 s.yh, .slice a len cap], .slice x xlen xcap] w fun e w' => e = .returned (.tuple #[.slice none 0 0, .int .i64 v]) ∧ Below w.heap.size w w' := by
  have HT := Lib.hid (fun w1 (hb : Below w.heap.size w w1) => open_any s a len cap x xlen xcap ns w1 (hp.below hb) (hx.below hb) v hv)
  have e1 : (v == 0) = false := by simpa using hno
  have e2 : (v != 0) = true := by simpa using hno
  clear hp hx hv hno
  go_enter Try.func25, Try.ntmps25
  go_wp2_with fail
  refine (HT.out _ (by repeat (first | exact Below.refl _ _ | (refine Below.alloc ?_ (by first | omega | (simp; omega) | simp) _) | (refine Below.setCell ?_ (by first | omega | (simp; omega) | simp) _) | refine Below.drew ?_))).mono ?_
  rintro e w1 ⟨rfl, hb1⟩
  have HB := Lib.hid hb1
  clear hb1
  go_wp2_with fail
  go_ret2
  exact ⟨rfl, (by repeat (first | exact Below.refl _ _ | (refine Below.alloc ?_ (by first | omega | (simp; omega) | simp) _) | (refine Below.setCell ?_ (by first | omega | (simp; omega) | simp) _) | refine Below.drew ?_ | (refine below_via (by assumption) (by first | omega | (simp; omega) | simp) ?_)))⟩

theorem own_both {P : Program} {f : FuncId} {args : Array Value} {W0 w1 : World} {base : Nat} {t : TypeId} {n : Nat} {xs : List Value} (hz : base ≤ w1.heap.size) (h : Calls P f args w1 fun e w' => ∃ v, e = .returned v ∧ w'.ownsRow w1.heap.size t 1 v n xs ∧ Below w1.heap.size w1 w')
    (h1 : Below W0.heap.size W0 w1 ∧ ∀ b o, b < W0.heap.size → w1.cell? ⟨b, o, none⟩ = W0.cell? ⟨b, o, none⟩) :
    Calls P f args w1 fun e w' => ∃ v, e = .returned v ∧ (Below W0.heap.size W0 w' ∧ ∀ b o, b < W0.heap.size → w'.cell? ⟨b, o, none⟩ = W0.cell? ⟨b, o, none⟩) ∧ w'.ownsRow base t 1 v n xs ∧ w1.heap.size ≤ w'.heap.size :=
  h.mono fun e w' ⟨v, he, ho, hb⟩ => ⟨v, he, bothS_step h1 (hb.mono h1.1.size), Go.Joins.ownsRow_le ho hz, hb.size⟩
set_option maxHeartbeats 4000000 in
theorem refFails_yes (s : Shop) (a : Option Addr) (len cap : Nat) (x : Option Addr) (xlen xcap : Nat) (ns : List Int) (w : World) (hp : PigsAt w a len s.pigs) (hx : IntsAt w x xlen ns) (hv : s.code ns = 0) :
    Calls Try.prog 25 #[.agg #[.int .i64 s.P, .int .i64 s.tl, .int .i64 s.th, .int .i64 s.al, .int .i64 s.ah, .int .i64 s.room, .int .i64 s.xl, .int .i64 s.xh, .int .i64 s.yl, .int .i64 s.yh, .slice a len cap], .slice x xlen xcap] w fun e w' => ∃ v, e = .returned (.tuple #[v, .int .i64 0]) ∧ w'.ownsRow w.heap.size 3 1 v (s.bad ns [1, 2, 3, 4]).length ((s.bad ns [1, 2, 3, 4]).map (Value.int .i64)) ∧ Below w.heap.size w w' := by
  obtain ⟨ho, hadd⟩ := Shop.code_yes hv
  obtain ⟨hl, hfew⟩ := Shop.isAdd_len hadd
  obtain rfl : len = xlen := by rw [← hp.1, ← hx.1, hl]
  have HT := Lib.hid (fun w1 (hb : Below w.heap.size w w1) => open_any s a len cap x len xcap ns w1 (hp.below hb) (hx.below hb) 0 hv)
  have HA := fun w1 (hb : Below w.heap.size w w1) => refAfterOf_any s a len cap x xcap ns w1 (hp.below hb) (hx.below hb) ho hfew
  unfold potCells at HA
  replace HA := Lib.hid HA
  obtain ⟨f1, f2, f3, f4⟩ := pot_fair ho hadd
  have hord : s.tl + tot Pig.t s.pigs ns ≤ s.th + tot Pig.t s.pigs ns ∧ s.al + tot Pig.a s.pigs ns ≤ s.ah + tot Pig.a s.pigs ns := by have := Shop.ok_bd ho; omega
  have HF := Lib.hid (fun w1 => failed_any s a len cap (s.P + tot Pig.P s.pigs ns) (s.tl + tot Pig.t s.pigs ns) (s.th + tot Pig.t s.pigs ns) (s.al + tot Pig.a s.pigs ns) (s.ah + tot Pig.a s.pigs ns) w1 (Shop.tot_P ho hadd) (Shop.lims ho) f1 f2 f3 f4 hord.1 hord.2)
  have HE := Lib.hid (show failsOf s (s.P + tot Pig.P s.pigs ns) (s.tl + tot Pig.t s.pigs ns) (s.th + tot Pig.t s.pigs ns) (s.al + tot Pig.a s.pigs ns) (s.ah + tot Pig.a s.pigs ns) [1, 2, 3, 4] = s.bad ns [1, 2, 3, 4] from rfl)
  clear hp hx hv ho hadd hl hfew f1 f2 f3 f4 hord
  generalize s.bad ns [1, 2, 3, 4] = fl at *
  generalize s.P + tot Pig.P s.pigs ns = n1 at *
  generalize s.tl + tot Pig.t s.pigs ns = n2 at *
  generalize s.th + tot Pig.t s.pigs ns = n3 at *
  generalize s.al + tot Pig.a s.pigs ns = n4 at *
  generalize s.ah + tot Pig.a s.pigs ns = n5 at *
  have HG := Lib.hid (fun w1 => HE.out ▸ HF.out w1)
  clear HF HE
  go_enter Try.func25, Try.ntmps25
  go_wp2_with fail
  refine (HT.out _ (by repeat (first | exact Below.refl _ _ | (refine Below.alloc ?_ (by first | omega | (simp; omega) | simp) _) | (refine Below.setCell ?_ (by first | omega | (simp; omega) | simp) _) | refine Below.drew ?_))).mono ?_
  rintro e w1 ⟨rfl, hb1⟩
  obtain ⟨hc1, hf1⟩ := bcell hb1
  have hz1 := hb1.size
  simp at hz1
  have q1 : w.heap.size < w1.heap.size := by omega
  have hbw : Below w.heap.size w w1 := ((by repeat (first | exact Below.refl _ _ | (refine Below.alloc ?_ (by first | omega | (simp; omega) | simp) _) | (refine Below.setCell ?_ (by first | omega | (simp; omega) | simp) _) | refine Below.drew ?_)) : Below w.heap.size w _).trans (hb1.mono (by simp))
  clear hb1
  have HA1 := Lib.hid (fun W (h : Below w1.heap.size w1 W ∧ ∀ b o, b < w1.heap.size → W.cell? ⟨b, o, none⟩ = w1.cell? ⟨b, o, none⟩) => bothS1 (W0 := w1) (HA.out W (hbw.trans (h.1.mono hbw.size))) h)
  have HG1 := Lib.hid (fun W (h : Below w1.heap.size w1 W ∧ ∀ b o, b < w1.heap.size → W.cell? ⟨b, o, none⟩ = w1.cell? ⟨b, o, none⟩) => own_both (W0 := w1) (base := w.heap.size) (Nat.le_trans hbw.size h.1.size) (HG.out W) h)
  clear HA HG HT
  go_wp2_with fail
  go_region_held3 (fun w' => Below w1.heap.size w1 w' ∧ ∀ b o, b < w1.heap.size → w'.cell? ⟨b, o, none⟩ = w1.cell? ⟨b, o, none⟩) (first | with_reducible assumption | ((repeat (first | with_reducible refine bothS_drew ?_ | with_reducible refine bothS_alloc _ ?_ | with_reducible refine bothS_set _ _ (by first | omega | (simp; omega) | simp) ?_)); first | with_reducible assumption | with_reducible exact Hid.out (by assumption) | with_reducible exact ⟨Below.refl _ _, fun _ _ _ => rfl⟩))
    (first
      | (go_at_call 63; with_reducible refine (HA1.out _ ?_).mono ?_; (first | with_reducible assumption | ((repeat (first | with_reducible refine bothS_drew ?_ | with_reducible refine bothS_alloc _ ?_ | with_reducible refine bothS_set _ _ (by first | omega | (simp; omega) | simp) ?_)); first | with_reducible assumption | with_reducible exact Hid.out (by assumption) | with_reducible exact ⟨Below.refl _ _, fun _ _ _ => rfl⟩)); rintro e w' ⟨rfl, k, k1, k2, k3⟩; have HK := Lib.hid k; (try simp at k3); (try have k6 := Nat.lt_of_succ_le k3); (try have k7 := Nat.lt_of_succ_lt k6); (try have k8 := Nat.lt_of_succ_lt k3))
      | (go_at_call 78; with_reducible refine (HG1.out _ ?_).mono ?_; (first | with_reducible assumption | ((repeat (first | with_reducible refine bothS_drew ?_ | with_reducible refine bothS_alloc _ ?_ | with_reducible refine bothS_set _ _ (by first | omega | (simp; omega) | simp) ?_)); first | with_reducible assumption | with_reducible exact Hid.out (by assumption) | with_reducible exact ⟨Below.refl _ _, fun _ _ _ => rfl⟩)); rintro e w' ⟨v, rfl, k, kr, k3⟩; have HKR := Lib.hid kr; clear kr; have HK := Lib.hid k; (try simp at k3)))
  all_goals
    have hh := HK.out
    go_wp2_with fail
    go_ret2
    exact ⟨_, rfl, HKR.out, hbw.trans (Below.mono hh.1 hbw.size)⟩
end Go.Proofs.Ytajabapcmpmboaa
