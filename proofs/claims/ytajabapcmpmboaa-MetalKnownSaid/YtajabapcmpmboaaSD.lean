/- The reference's Lead. -/
import Derived.Test.YtajabapcmpmboaaPB
namespace Go.Proofs.Ytajabapcmpmboaa
set_option linter.unusedVariables false
set_option linter.unusedSimpArgs false
open Go.RowKit

set_option maxHeartbeats 1000000 in
theorem refLead_no (s : Shop) (a : Option Addr) (len cap : Nat) (x : Option Addr) (xlen xcap : Nat) (ns : List Int) (w : World) (hp : PigsAt w a len s.pigs) (hx : IntsAt w x xlen ns) (v : Int) (hv : s.code ns = v) (hno : v ≠ 0) :
    Calls Try.prog 27 #[.agg #[.int .i64 s.P, .int .i64 s.tl, .int .i64 s.th, .int .i64 s.al, .int .i64 s.ah, .int .i64 s.room, .int .i64 s.xl, .int .i64 s.xh, .int .i64 s.yl, .int .i64 s.yh, .slice a len cap], .slice x xlen xcap] w fun e w' => e = .returned (.tuple #[.agg #[.int .i64 0, .int .i64 0], .int .i64 v]) ∧ Below w.heap.size w w' := by
  have HT := Lib.hid (fun w1 (hb : Below w.heap.size w w1) => open_any s a len cap x xlen xcap ns w1 (hp.below hb) (hx.below hb) v hv)
  have e1 : (v == 0) = false := by simpa using hno
  have e2 : (v != 0) = true := by simpa using hno
  clear hp hx hv hno
  go_enter Try.func27, Try.ntmps27
  go_wp2_with fail
  refine (HT.out _ (by repeat (first | exact Below.refl _ _ | (refine Below.alloc ?_ (by first | omega | (simp; omega) | simp) _) | (refine Below.setCell ?_ (by first | omega | (simp; omega) | simp) _) | refine Below.drew ?_))).mono ?_
  rintro e w1 ⟨rfl, hb1⟩
  obtain ⟨hc1, hf1⟩ := bcell hb1
  have hz1 := hb1.size
  simp at hz1
  have HB := Lib.hid hb1
  clear hb1
  have q2 : w.heap.size < w1.heap.size := by omega
  have q1 : w.heap.size + 1 < w1.heap.size := by omega
  go_wp2_with fail
  refine bodyPost_ret (v := .tuple #[.agg #[.int .i64 0, .int .i64 0], .int .i64 v]) (by simp [results, Try.results27, go_sem , hc1, hf1, q1, q2]) rfl ⟨rfl, ?_⟩
  exact (by repeat (first | exact Below.refl _ _ | (refine Below.alloc ?_ (by first | omega | (simp; omega) | simp) _) | (refine Below.setCell ?_ (by first | omega | (simp; omega) | simp) _) | refine Below.drew ?_ | (refine below_via (by assumption) (by first | omega | (simp; omega) | simp) ?_)))

theorem leadsTo_nonneg {s : Shop} {n1 n2 n3 n4 n5 : Int} {k : Nat} {lo hi : Int} (h : leadsTo s n1 n2 n3 n4 n5 k = (lo, hi, true)) : 0 ≤ lo := by
  induction k generalizing lo hi with
  | zero => simp [leadsTo] at h
  | succ k ih =>
    by_cases h1 : safeI s (n1 + k) n2 n3 n4 n5 = 1
    · rcases hp : leadsTo s n1 n2 n3 n4 n5 k with ⟨l, h', f⟩
      rw [leadsTo_yes h1 hp] at h
      cases f
      · simp at h; omega
      · simp at h; have := ih hp; omega
    · rw [leadsTo_no h1] at h; exact ih h
theorem cutS1 {P : Program} {f : FuncId} {args : Array Value} {W0 w1 : World} {B g : Nat} {v : Value} (hB : B ≤ W0.heap.size) (h : Calls P f args w1 fun e w' => e = .returned v ∧ Below w1.heap.size w1 w')
    (h1 : Below B W0 w1 ∧ ∀ b o, b < W0.heap.size → b ≠ g → w1.cell? ⟨b, o, none⟩ = W0.cell? ⟨b, o, none⟩) :
    Calls P f args w1 fun e w' => e = .returned v ∧ (Below B W0 w' ∧ ∀ b o, b < W0.heap.size → b ≠ g → w'.cell? ⟨b, o, none⟩ = W0.cell? ⟨b, o, none⟩) ∧ (∀ b o, b < w1.heap.size → w'.cell? ⟨b, o, none⟩ = w1.cell? ⟨b, o, none⟩) ∧ (∀ b o, b < w1.heap.size → w'.frozen? ⟨b, o, none⟩ = w1.frozen? ⟨b, o, none⟩) ∧ w1.heap.size ≤ w'.heap.size :=
  h.mono fun e w' ⟨he, hb⟩ => ⟨he, ⟨h1.1.trans (hb.mono (Nat.le_trans hB h1.1.size)), fun b o hbo hne => (hb.cell (p := ⟨b, o, none⟩) (Nat.lt_of_lt_of_le hbo h1.1.size)).trans (h1.2 b o hbo hne)⟩, fun b o hbo => hb.cell (p := ⟨b, o, none⟩) hbo, fun b o hbo => hb.frozen (p := ⟨b, o, none⟩) hbo, hb.size⟩
theorem cutS_set {W0 w : World} {B g i : Nat} {v : Value} (hle : B ≤ g) (h : Below B W0 w ∧ ∀ b o, b < W0.heap.size → b ≠ g → w.cell? ⟨b, o, none⟩ = W0.cell? ⟨b, o, none⟩) :
    Below B W0 (w.setCell ⟨g, i, none⟩ v) ∧ ∀ b o, b < W0.heap.size → b ≠ g → (w.setCell ⟨g, i, none⟩ v).cell? ⟨b, o, none⟩ = W0.cell? ⟨b, o, none⟩ :=
  ⟨Below.setCell h.1 hle _, fun b o hbo hne => (set_other (by intro e; injection e with e1; first | exact hne e1 | exact hne e1.symm)).trans (h.2 b o hbo hne)⟩
@[local go_sem] theorem field_pot (n1 n2 n3 n4 n5 : Int) (w : World) : Sem.run Try.prog (Instr.field 25 (.agg #[.int .i64 n1, .int .i64 n2, .int .i64 n3, .int .i64 n4, .int .i64 n5]) 0) w = .ok (.int .i64 n1) w := by simp [Instr.field, asAgg, go_sem]
theorem name2 (w : World) (cs : Array Value) (T : TypeId) (ds : Array Value) (U : TypeId) :
    ∃ W0, (w.alloc (.cells cs T)).alloc (.cells ds U) = W0 ∧ Below w.heap.size w W0 ∧ (∀ i, W0.cell? ⟨w.heap.size, i, none⟩ = cs[i]?) ∧ (∀ i, W0.cell? ⟨w.heap.size + 1, i, none⟩ = ds[i]?) ∧
      (∀ i, W0.frozen? ⟨w.heap.size, i, none⟩ = false) ∧ (∀ i, W0.frozen? ⟨w.heap.size + 1, i, none⟩ = false) ∧ W0.heap.size = w.heap.size + 1 + 1 :=
  ⟨_, rfl, (by repeat (first | exact Below.refl _ _ | (refine Below.alloc ?_ (by first | omega | (simp; omega) | simp) _) | (refine Below.setCell ?_ (by first | omega | (simp; omega) | simp) _) | refine Below.drew ?_)), fun i => by go_simp, fun i => by go_simp, fun i => by go_simp, fun i => by go_simp, by simp⟩

set_option maxRecDepth 100000 in
set_option maxHeartbeats 8000000 in
theorem refLead_yes (s : Shop) (a : Option Addr) (len cap : Nat) (x : Option Addr) (xlen xcap : Nat) (ns : List Int) (w : World) (hp : PigsAt w a len s.pigs) (hx : IntsAt w x xlen ns) (hv : s.code ns = 0) (lo hi : Int) (f : Bool) (hres : s.leadsOf ns = (lo, hi, f)) :
    Calls Try.prog 27 #[.agg #[.int .i64 s.P, .int .i64 s.tl, .int .i64 s.th, .int .i64 s.al, .int .i64 s.ah, .int .i64 s.room, .int .i64 s.xl, .int .i64 s.xh, .int .i64 s.yl, .int .i64 s.yh, .slice a len cap], .slice x xlen xcap] w fun e w' => e = .returned (.tuple #[.agg (if f then #[.int .i64 lo, .int .i64 hi] else #[.int .i64 0, .int .i64 0]), .int .i64 (if f then 0 else 3)]) ∧ Below w.heap.size w w' := by
  obtain ⟨ho, hadd⟩ := Shop.code_yes hv
  obtain ⟨hl, hfew⟩ := Shop.isAdd_len hadd
  obtain rfl : len = xlen := by rw [← hp.1, ← hx.1, hl]
  have HT := Lib.hid (fun w1 (hb : Below w.heap.size w w1) => open_any s a len cap x len xcap ns w1 (hp.below hb) (hx.below hb) 0 hv)
  have HA := fun w1 (hb : Below w.heap.size w w1) => refAfterOf_any s a len cap x xcap ns w1 (hp.below hb) (hx.below hb) ho hfew
  unfold potCells at HA
  replace HA := Lib.hid HA
  obtain ⟨f1, f2, f3, f4⟩ := pot_fair ho hadd
  have h0 := Shop.tot_P ho hadd
  have hr := Shop.isAdd_room hadd
  have hrr := (Shop.ok_bd ho).2.2.2.2.1.2
  have hlims := Shop.lims ho
  have HS := Lib.hid (fun (k : Nat) (hk : (s.P + tot Pig.P s.pigs ns) + k ≤ s.room) b (hb : isSafeR s ((s.P + tot Pig.P s.pigs ns) + k) (s.tl + tot Pig.t s.pigs ns) (s.th + tot Pig.t s.pigs ns) (s.al + tot Pig.a s.pigs ns) (s.ah + tot Pig.a s.pigs ns) = b) w1 => IsSafe_is s a len cap ((s.P + tot Pig.P s.pigs ns) + k) (s.tl + tot Pig.t s.pigs ns) (s.th + tot Pig.t s.pigs ns) (s.al + tot Pig.a s.pigs ns) (s.ah + tot Pig.a s.pigs ns) b hb w1 (by omega) hlims f1 f2 f3 f4)
  obtain ⟨N, hN⟩ : ∃ N : Nat, s.room - (s.P + tot Pig.P s.pigs ns) + 1 = N := ⟨(s.room - (s.P + tot Pig.P s.pigs ns) + 1).toNat, by omega⟩
  have HR := Lib.hid (show leadsTo s (s.P + tot Pig.P s.pigs ns) (s.tl + tot Pig.t s.pigs ns) (s.th + tot Pig.t s.pigs ns) (s.al + tot Pig.a s.pigs ns) (s.ah + tot Pig.a s.pigs ns) N = (lo, hi, f) by rw [← hres, Shop.leadsOf, hN]; simp)
  clear hp hx hv ho hadd hl hfew hlims f1 f2 f3 f4 hres
  generalize s.P + tot Pig.P s.pigs ns = n1 at *
  generalize s.tl + tot Pig.t s.pigs ns = n2 at *
  generalize s.th + tot Pig.t s.pigs ns = n3 at *
  generalize s.al + tot Pig.a s.pigs ns = n4 at *
  generalize s.ah + tot Pig.a s.pigs ns = n5 at *
  go_enter Try.func27, Try.ntmps27
  go_wp2_with fail
  refine (HT.out _ (by repeat (first | exact Below.refl _ _ | (refine Below.alloc ?_ (by first | omega | (simp; omega) | simp) _) | (refine Below.setCell ?_ (by first | omega | (simp; omega) | simp) _) | refine Below.drew ?_))).mono ?_
  rintro e w1 ⟨rfl, hb1⟩
  obtain ⟨hc1, hf1⟩ := bcell hb1
  have hz1 := hb1.size
  simp at hz1
  have hbw : Below w.heap.size w w1 := ((by repeat (first | exact Below.refl _ _ | (refine Below.alloc ?_ (by first | omega | (simp; omega) | simp) _) | (refine Below.setCell ?_ (by first | omega | (simp; omega) | simp) _) | refine Below.drew ?_)) : Below w.heap.size w _).trans (hb1.mono (by simp; omega))
  clear hb1
  have q2 : w.heap.size < w1.heap.size := by omega
  have q3 : w.heap.size + 1 < w1.heap.size := by omega
  go_wp2_with fail
  refine (HA.out _ hbw).mono ?_
  rintro e w2 ⟨rfl, hb2⟩
  have hz2 := hb2.size
  have hbw2 := hbw.trans (hb2.mono hbw.size)
  have hbox : ∀ i, w2.cell? ⟨w.heap.size, i, none⟩ = (#[.int .i64 s.P, .int .i64 s.tl, .int .i64 s.th, .int .i64 s.al, .int .i64 s.ah, .int .i64 s.room, .int .i64 s.xl, .int .i64 s.xh, .int .i64 s.yl, .int .i64 s.yh, .slice a len cap] : Array Value)[i]? := fun i => ((hb2.cell (p := ⟨w.heap.size, i, none⟩) q2).trans (hc1 _ _ (by simp; omega))).trans ((World.cell?_of_block (Below.heap_alloc _ _ _ (by simp))).trans (World.cell?_alloc_new w _ _ i))
  have hr1 : ∀ i, w2.cell? ⟨w.heap.size + 1, i, none⟩ = (#[.int .i64 0, .int .i64 0] : Array Value)[i]? := fun i => ((hb2.cell (p := ⟨w.heap.size + 1, i, none⟩) q3).trans (hc1 _ _ (by simp))).trans (by go_simp)
  have hr2 : ∀ i, w2.frozen? ⟨w.heap.size + 1, i, none⟩ = false := fun i => ((hb2.frozen (p := ⟨w.heap.size + 1, i, none⟩) q3).trans (hf1 _ _ (by simp))).trans (by go_simp)
  clear hb2 hc1 hf1
  go_wp2_with fail
  obtain ⟨W0, hW0, hB0, hp0, hl0, hfp, hfl, hz0⟩ := name2 w2 #[.int .i64 n1, .int .i64 n2, .int .i64 n3, .int .i64 n4, .int .i64 n5] 25 #[.int .i64 (-1), .int .i64 (-1)] 23
  rw [hW0]
  clear hW0
  obtain ⟨gp, hgp⟩ : ∃ gp, gp = w2.heap.size := ⟨_, rfl⟩
  obtain ⟨gl, hgl⟩ : ∃ gl, gl = w2.heap.size + 1 := ⟨_, rfl⟩
  have hw0 : Below w.heap.size w W0 := hbw2.trans (hB0.mono hbw2.size)
  have t0 : w.heap.size < gp := by omega
  have t1 : gp < gl := by omega
  have t2 : gl < W0.heap.size := by omega
  have hs0 : ∀ i, W0.cell? ⟨w.heap.size, i, none⟩ = (#[.int .i64 s.P, .int .i64 s.tl, .int .i64 s.th, .int .i64 s.al, .int .i64 s.ah, .int .i64 s.room, .int .i64 s.xl, .int .i64 s.xh, .int .i64 s.yl, .int .i64 s.yh, .slice a len cap] : Array Value)[i]? := fun i => (hB0.cell (p := ⟨w.heap.size, i, none⟩) (show w.heap.size < w2.heap.size by omega)).trans (hbox i)
  have t3 : w.heap.size + 1 < gp := by omega
  have HR1 := Lib.hid (fun i => (hB0.cell (p := ⟨w.heap.size + 1, i, none⟩) (show w.heap.size + 1 < w2.heap.size by omega)).trans (hr1 i))
  have HR2 := Lib.hid (fun i => (hB0.frozen (p := ⟨w.heap.size + 1, i, none⟩) (show w.heap.size + 1 < w2.heap.size by omega)).trans (hr2 i))
  clear hr1 hr2
  rw [← hgl, ← hgp]
  rw [← hgl] at hl0 hfl
  rw [← hgp] at hp0 hfp
  clear hgl hgp hbox hB0 hbw2 hz0
  have HS0 := Lib.hid hs0
  have HW0 := Lib.hid hw0
  clear hs0 hw0
  go_loopw [] (fun wr => ∃ (k : Nat) (lo' hi' : Int) (f' : Bool), k ≤ N ∧ leadsTo s n1 n2 n3 n4 n5 k = (lo', hi', f') ∧ wr.cell? ⟨gp, 0, none⟩ = some (.int .i64 (n1 + k)) ∧ wr.cell? ⟨gp, 1, none⟩ = some (.int .i64 n2) ∧ wr.cell? ⟨gp, 2, none⟩ = some (.int .i64 n3) ∧ wr.cell? ⟨gp, 3, none⟩ = some (.int .i64 n4) ∧ wr.cell? ⟨gp, 4, none⟩ = some (.int .i64 n5)
      ∧ wr.cell? ⟨gl, 0, none⟩ = some (.int .i64 (if f' then lo' else -1)) ∧ wr.cell? ⟨gl, 1, none⟩ = some (.int .i64 (if f' then hi' else -1)) ∧ wr.frozen? ⟨gp, 0, none⟩ = false ∧ wr.frozen? ⟨gl, 0, none⟩ = false ∧ wr.frozen? ⟨gl, 1, none⟩ = false ∧ gl < wr.heap.size ∧ Below gp W0 wr) (fun wr => (s.room + 1 - intOf ((wr.cell? ⟨gp, 0, none⟩).getD (.int .i64 0))).toNat)
  case atStart => exact ⟨0, 0, 0, false, by omega, rfl, by simpa using hp0 0, hp0 1, hp0 2, hp0 3, hp0 4, hl0 0, hl0 1, hfp 0, hfl 0, hfl 1, t2, Below.refl _ _⟩
  case round =>
    obtain ⟨k, lo', hi', f', hk, hle, p0, p1, p2, p3, p4, l0, l1, y0, y1, y2, hzl, hB⟩ := hrel
    have HLE := Lib.hid hle; clear hle
    have hbx := fun i => (hB.cell (p := ⟨w.heap.size, i, none⟩) t0).trans (HS0.out i)
    obtain ⟨x0, x1, x2, x3, x4, x5, x6, x7, x8, x9, x10⟩ : wr.cell? ⟨w.heap.size, 0, none⟩ = some (.int .i64 s.P) ∧ wr.cell? ⟨w.heap.size, 1, none⟩ = some (.int .i64 s.tl) ∧ wr.cell? ⟨w.heap.size, 2, none⟩ = some (.int .i64 s.th) ∧ wr.cell? ⟨w.heap.size, 3, none⟩ = some (.int .i64 s.al) ∧ wr.cell? ⟨w.heap.size, 4, none⟩ = some (.int .i64 s.ah) ∧ wr.cell? ⟨w.heap.size, 5, none⟩ = some (.int .i64 s.room) ∧ wr.cell? ⟨w.heap.size, 6, none⟩ = some (.int .i64 s.xl) ∧ wr.cell? ⟨w.heap.size, 7, none⟩ = some (.int .i64 s.xh) ∧ wr.cell? ⟨w.heap.size, 8, none⟩ = some (.int .i64 s.yl) ∧ wr.cell? ⟨w.heap.size, 9, none⟩ = some (.int .i64 s.yh) ∧ wr.cell? ⟨w.heap.size, 10, none⟩ = some (.slice a len cap) := ⟨hbx 0, hbx 1, hbx 2, hbx 3, hbx 4, hbx 5, hbx 6, hbx 7, hbx 8, hbx 9, hbx 10⟩
    clear hbx
    by_cases hlt : n1 + k ≤ s.room
    · obtain ⟨b, hb⟩ : ∃ b, isSafeR s (n1 + k) n2 n3 n4 n5 = b := ⟨_, rfl⟩
      have HC := Lib.hid (HS.out k hlt b hb)
      have hkk : (n1 + k : Int) ≤ 2000 := by omega
      have hk1 : 0 ≤ (n1 + k : Int) := by omega
      have g1 : gp < wr.heap.size := by omega
      have g2 : w.heap.size < wr.heap.size := by omega
      have n1' : ¬ gp = gl := by omega
      have n2' : ¬ gl = gp := by omega
      have n3' : ¬ w.heap.size = gp := by omega
      have n4' : ¬ w.heap.size = gl := by omega
      have HM := Lib.hid (show (s.room + 1 - intOf ((wr.cell? ⟨gp, 0, none⟩).getD (.int .i64 0))) = s.room + 1 - (n1 + k) by rw [p0]; rfl)
      cases b
      · have HV := Lib.hid ((leadsTo_no (k := k) (by intro h; rw [← isSafeR_1, hb] at h; cases h)).trans HLE.out)
        clear hb
        go_wp2_with (go_at_call 64; with_reducible refine (HC.out _).mono ?_; rintro e w4 ⟨rfl, hb4⟩; obtain ⟨hc4, hf4⟩ := bcell hb4; have hz4 := hb4.size; have HB4 := Lib.hid (hB.trans (hb4.mono (Nat.le_of_lt g1))); clear hb4; have g3 : gp < w4.heap.size := (by omega); have g4 : gl < w4.heap.size := (by omega))
        go_roundw
        case rel => exact ⟨k + 1, lo', hi', f', by omega, HV.out, by go_simp; go_num, by go_simp, by go_simp, by go_simp, by go_simp, by go_simp, by go_simp, by go_simp, by go_simp, by go_simp, by simp; omega, Below.setCell HB4.out (Nat.le_refl _) _⟩
        case measure => rw [HM.out]; go_simp; simp [intOf]; omega
      · have HV := leadsTo_yes ((isSafeR_1 _ _ _ _ _ _).1 hb) HLE.out
        have hsub : (n1 + (k : Int) - n1) = (k : Int) := by omega
        have hk0 : ¬ (k : Int) < 0 := by omega
        have hkf : (k : Int) ≤ 2000 := by omega
        clear hb
        rcases f' with - | -
        all_goals simp only [Bool.false_eq_true, if_false, if_true] at HV l0 l1
        all_goals replace HV := Lib.hid HV
        · go_wp2_with (go_at_call 64; with_reducible refine (HC.out _).mono ?_; rintro e w4 ⟨rfl, hb4⟩; obtain ⟨hc4, hf4⟩ := bcell hb4; have hz4 := hb4.size; have HB4 := Lib.hid (hB.trans (hb4.mono (Nat.le_of_lt g1))); clear hb4; have g3 : gp < w4.heap.size := (by omega); have g4 : gl < w4.heap.size := (by omega); have g5 : w.heap.size < w4.heap.size := (by omega); have l0' := (hc4 _ 0 (Nat.lt_trans t1 hzl |> fun _ => hzl)).trans l0; have l1' := (hc4 _ 1 hzl).trans l1; have y1' := (hf4 _ 0 hzl).trans y1; have y2' := (hf4 _ 1 hzl).trans y2; have p0' := (hc4 _ 0 g1).trans p0; have y0' := (hf4 _ 0 g1).trans y0; have HA1 := Lib.hid (fun W (h : Below gp w4 W ∧ ∀ b o, b < w4.heap.size → b ≠ gl → W.cell? ⟨b, o, none⟩ = w4.cell? ⟨b, o, none⟩) => cutS1 (Nat.le_of_lt g3) (HA.out W (HW0.out.trans ((HB4.out.trans h.1).mono (Nat.le_of_lt t0)))) h))
          have ha := Nat.le_of_lt t1
          go_region_held3 (fun w' => Below gp w4 w' ∧ ∀ b o, b < w4.heap.size → b ≠ gl → w'.cell? ⟨b, o, none⟩ = w4.cell? ⟨b, o, none⟩) (first | with_reducible assumption | with_reducible exact cutS_set ha (by assumption) | exact ⟨(Below.refl _ _).drew, fun _ _ _ _ => rfl⟩ | exact ⟨Below.refl _ _, fun _ _ _ _ => rfl⟩)
            (first | (go_at_call 63; with_reducible refine (HA1.out _ ?_).mono ?_; (· first | with_reducible assumption | exact ⟨(Below.refl _ _).drew, fun _ _ _ _ => rfl⟩ | exact ⟨Below.refl _ _, fun _ _ _ _ => rfl⟩); rintro e w' ⟨rfl, k0, k1, k2, k3⟩; have HK := Lib.hid k0; (try simp at k3); have g6 : gp < w'.heap.size := (by omega); have g7 : gl < w'.heap.size := (by omega); have m0 : w'.cell? ⟨gl, 0, none⟩ = some (.int .i64 (-1)) := (by with_unfolding_all exact Eq.trans (k1 gl 0 g4) l0'); have m1 : w'.cell? ⟨gl, 1, none⟩ = some (.int .i64 (-1)) := (by with_unfolding_all exact Eq.trans (k1 gl 1 g4) l1'); have j1 : w'.frozen? ⟨gl, 0, none⟩ = false := (by with_unfolding_all exact Eq.trans (k2 gl 0 g4) y1'); have j2 : w'.frozen? ⟨gl, 1, none⟩ = false := (by with_unfolding_all exact Eq.trans (k2 gl 1 g4) y2'); have r0 : w'.cell? ⟨gp, 0, none⟩ = some (.int .i64 (n1 + k)) := (by with_unfolding_all exact Eq.trans (k1 gp 0 g3) p0'); have j0 : w'.frozen? ⟨gp, 0, none⟩ = false := (by with_unfolding_all exact Eq.trans (k2 gp 0 g3) y0'); clear k1 k2))
          all_goals
            have d1 := (hc4 _ 1 g1).trans p1
            have e1 := (HK.out.2 gp 1 g3 n1').trans d1
            have d2 := (hc4 _ 2 g1).trans p2
            have e2 := (HK.out.2 gp 2 g3 n1').trans d2
            have d3 := (hc4 _ 3 g1).trans p3
            have e3 := (HK.out.2 gp 3 g3 n1').trans d3
            have d4 := (hc4 _ 4 g1).trans p4
            have e4 := (HK.out.2 gp 4 g3 n1').trans d4
            have HBK := Lib.hid (HB4.out.trans HK.out.1)
            clear hc4 hf4
            go_wp2_with fail
            go_roundw
            case rel => exact ⟨k + 1, k, k, true, by omega, HV.out, by go_simp; go_num, by go_simp, by go_simp, by go_simp, by go_simp, by go_simp, by go_simp, by go_simp, by go_simp, by go_simp, by simp; exact g7, by repeat (first | exact HBK.out | (refine Below.setCell ?_ (by first | exact Nat.le_refl _ | exact ha) _))⟩
            case measure => rw [HM.out]; go_simp; simp [intOf]; omega
        · have hnn := leadsTo_nonneg HLE.out
          have hnn' : ¬ lo' < 0 := by omega
          go_wp2_with (go_at_call 64; with_reducible refine (HC.out _).mono ?_; rintro e w4 ⟨rfl, hb4⟩; obtain ⟨hc4, hf4⟩ := bcell hb4; have hz4 := hb4.size; have HB4 := Lib.hid (hB.trans (hb4.mono (Nat.le_of_lt g1))); clear hb4; have g3 : gp < w4.heap.size := (by omega); have g4 : gl < w4.heap.size := (by omega); have g5 : w.heap.size < w4.heap.size := (by omega); have l0' := (hc4 _ 0 (Nat.lt_trans t1 hzl |> fun _ => hzl)).trans l0; have l1' := (hc4 _ 1 hzl).trans l1; have y1' := (hf4 _ 0 hzl).trans y1; have y2' := (hf4 _ 1 hzl).trans y2; have p0' := (hc4 _ 0 g1).trans p0; have y0' := (hf4 _ 0 g1).trans y0; have HA1 := Lib.hid (fun W (h : Below gp w4 W ∧ ∀ b o, b < w4.heap.size → b ≠ gl → W.cell? ⟨b, o, none⟩ = w4.cell? ⟨b, o, none⟩) => cutS1 (Nat.le_of_lt g3) (HA.out W (HW0.out.trans ((HB4.out.trans h.1).mono (Nat.le_of_lt t0)))) h))
          have ha := Nat.le_of_lt t1
          go_region_held3 (fun w' => Below gp w4 w' ∧ ∀ b o, b < w4.heap.size → b ≠ gl → w'.cell? ⟨b, o, none⟩ = w4.cell? ⟨b, o, none⟩) (first | with_reducible assumption | with_reducible exact cutS_set ha (by assumption) | exact ⟨(Below.refl _ _).drew, fun _ _ _ _ => rfl⟩ | exact ⟨Below.refl _ _, fun _ _ _ _ => rfl⟩)
            (first | (go_at_call 63; with_reducible refine (HA1.out _ ?_).mono ?_; (· first | with_reducible assumption | exact ⟨(Below.refl _ _).drew, fun _ _ _ _ => rfl⟩ | exact ⟨Below.refl _ _, fun _ _ _ _ => rfl⟩); rintro e w' ⟨rfl, k0, k1, k2, k3⟩; have HK := Lib.hid k0; (try simp at k3); have g6 : gp < w'.heap.size := (by omega); have g7 : gl < w'.heap.size := (by omega); have m0 : w'.cell? ⟨gl, 0, none⟩ = some (.int .i64 lo') := (by with_unfolding_all exact Eq.trans (k1 gl 0 g4) l0'); have m1 : w'.cell? ⟨gl, 1, none⟩ = some (.int .i64 hi') := (by with_unfolding_all exact Eq.trans (k1 gl 1 g4) l1'); have j1 : w'.frozen? ⟨gl, 0, none⟩ = false := (by with_unfolding_all exact Eq.trans (k2 gl 0 g4) y1'); have j2 : w'.frozen? ⟨gl, 1, none⟩ = false := (by with_unfolding_all exact Eq.trans (k2 gl 1 g4) y2'); have r0 : w'.cell? ⟨gp, 0, none⟩ = some (.int .i64 (n1 + k)) := (by with_unfolding_all exact Eq.trans (k1 gp 0 g3) p0'); have j0 : w'.frozen? ⟨gp, 0, none⟩ = false := (by with_unfolding_all exact Eq.trans (k2 gp 0 g3) y0'); clear k1 k2))
          all_goals
            have d1 := (hc4 _ 1 g1).trans p1
            have e1 := (HK.out.2 gp 1 g3 n1').trans d1
            have d2 := (hc4 _ 2 g1).trans p2
            have e2 := (HK.out.2 gp 2 g3 n1').trans d2
            have d3 := (hc4 _ 3 g1).trans p3
            have e3 := (HK.out.2 gp 3 g3 n1').trans d3
            have d4 := (hc4 _ 4 g1).trans p4
            have e4 := (HK.out.2 gp 4 g3 n1').trans d4
            have HBK := Lib.hid (HB4.out.trans HK.out.1)
            clear hc4 hf4
            go_wp2_with fail
            go_roundw
            case rel => exact ⟨k + 1, lo', k, true, by omega, HV.out, by go_simp; go_num, by go_simp, by go_simp, by go_simp, by go_simp, by go_simp, by go_simp, by go_simp, by go_simp, by go_simp, by simp; exact g7, by repeat (first | exact HBK.out | (refine Below.setCell ?_ (by first | exact Nat.le_refl _ | exact ha) _))⟩
            case measure => rw [HM.out]; go_simp; simp [intOf]; omega
    · have hr0 : wr.cell? ⟨w.heap.size + 1, 0, none⟩ = some (.int .i64 0) := (hB.cell (p := ⟨w.heap.size + 1, 0, none⟩) t3).trans (HR1.out 0)
      have hr1 : wr.cell? ⟨w.heap.size + 1, 1, none⟩ = some (.int .i64 0) := (hB.cell (p := ⟨w.heap.size + 1, 1, none⟩) t3).trans (HR1.out 1)
      have hs0 : wr.frozen? ⟨w.heap.size + 1, 0, none⟩ = false := (hB.frozen (p := ⟨w.heap.size + 1, 0, none⟩) t3).trans (HR2.out 0)
      have hs1 : wr.frozen? ⟨w.heap.size + 1, 1, none⟩ = false := (hB.frozen (p := ⟨w.heap.size + 1, 1, none⟩) t3).trans (HR2.out 1)
      obtain rfl : k = N := by omega
      have he := HLE.out.symm.trans HR.out
      simp only [Prod.mk.injEq] at he
      obtain ⟨rfl, rfl, rfl⟩ := he
      have HBW := Lib.hid (HW0.out.trans (hB.mono (by have := HW0.out.size; omega)))
      cases f'
      · go_wp2_with fail
        refine bodyPost_ret (v := .tuple #[.agg #[.int .i64 0, .int .i64 0], .int .i64 3]) (by simp [results, Try.results27, go_sem, *]) rfl ⟨rfl, ?_⟩
        exact Below.setCell (Below.setCell HBW.out (by simp) _) (by simp) _
      · have hnn := leadsTo_nonneg HLE.out
        simp only [if_true] at l0 l1
        go_wp2_with fail
        refine bodyPost_ret (v := .tuple #[.agg #[.int .i64 lo', .int .i64 hi'], .int .i64 0]) (by simp [results, Try.results27, go_sem, *]) rfl ⟨rfl, ?_⟩
        exact Below.setCell (Below.setCell HBW.out (by simp) _) (by simp) _
end Go.Proofs.Ytajabapcmpmboaa
