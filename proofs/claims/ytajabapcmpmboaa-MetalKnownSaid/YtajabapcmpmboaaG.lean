/- G H L, joined. -/
import Derived.Test.YtajabapcmpmboaaD
/- After, Safe and Mix. -/
namespace Go.Proofs.Ytajabapcmpmboaa
set_option linter.unusedVariables false
set_option linter.unusedSimpArgs false
open Go.RowKit

/-- What is asked of a list ahead of all else. -/
def Shop.code (s : Shop) (ns : List Int) : Int := if s.ok then (if s.isAdd ns then 0 else 1) else 10
theorem Shop.code_no {s : Shop} {ns : List Int} (h : s.code ns ≠ 0) : s.code ns = 1 ∨ s.code ns = 10 := by
  unfold Shop.code at *; split at h <;> (try split at h) <;> simp_all
theorem Shop.code_yes {s : Shop} {ns : List Int} (h : s.code ns = 0) : s.ok = true ∧ s.isAdd ns = true := by
  unfold Shop.code at *; split at h <;> (try split at h) <;> simp_all
theorem Shop.isAdd_len {s : Shop} {ns : List Int} (h : s.isAdd ns = true) : ns.length = s.pigs.length ∧ s.fewB ns = true := by
  simp [Shop.isAdd] at h; exact h.1

set_option maxHeartbeats 1000000 in
theorem After_no (s : Shop) (a : Option Addr) (len cap : Nat) (x : Option Addr) (xlen xcap : Nat) (ns : List Int) (w : World) (hp : PigsAt w a len s.pigs) (hx : IntsAt w x xlen ns) (v : Int) (hv : s.code ns = v) (hno : v ≠ 0) :
    Calls Try.prog 18 #[.agg #[.int .i64 s.P, .int .i64 s.tl, .int .i64 s.th, .int .i64 s.al, .int .i64 s.ah, .int .i64 s.room, .int .i64 s.xl, .int .i64 s.xh, .int .i64 s.yl, .int .i64 s.yh, .slice a len cap], .slice x xlen xcap] w fun e w' => e = .returned (.tuple #[.agg #[.int .i64 0, .int .i64 0, .int .i64 0, .int .i64 0, .int .i64 0], .int .i64 v]) ∧ Below w.heap.size w w' := by
  have HT := Lib.hid (fun w1 (hb : Below w.heap.size w w1) => asked_any s a len cap x xlen xcap ns w1 (hp.below hb) (hx.below hb) v hv)
  have e1 : (v == 0) = false := by simpa using hno
  have e2 : (v != 0) = true := by simpa using hno
  clear hp hx hv hno
  go_enter Try.func18, Try.ntmps18
  go_wp2_with fail
  refine (HT.out _ (by repeat (first | exact Below.refl _ _ | (refine Below.alloc ?_ (by first | omega | (simp; omega) | simp) _) | (refine Below.setCell ?_ (by first | omega | (simp; omega) | simp) _) | refine Below.drew ?_))).mono ?_
  rintro e w1 ⟨rfl, hb1⟩
  obtain ⟨hc1, hf1⟩ := bcell hb1
  have hz1 := hb1.size
  simp at hz1
  have HB := Lib.hid hb1
  clear hb1
  have q1 : w.heap.size + 1 < w1.heap.size := by omega
  have q2 : w.heap.size < w1.heap.size := by omega
  go_wp2_with fail
  refine bodyPost_ret (v := .tuple #[.agg #[.int .i64 0, .int .i64 0, .int .i64 0, .int .i64 0, .int .i64 0], .int .i64 v]) (by simp [results, Try.results18, go_sem , hc1, hf1, q1, q2]) rfl ⟨rfl, ?_⟩
  exact (by repeat (first | exact Below.refl _ _ | (refine Below.alloc ?_ (by first | omega | (simp; omega) | simp) _) | (refine Below.setCell ?_ (by first | omega | (simp; omega) | simp) _) | refine Below.drew ?_ | (refine below_via (by assumption) (by first | omega | (simp; omega) | simp) ?_)))

set_option maxHeartbeats 1000000 in
theorem After_yes (s : Shop) (a : Option Addr) (len cap : Nat) (x : Option Addr) (xlen xcap : Nat) (ns : List Int) (w : World) (hp : PigsAt w a len s.pigs) (hx : IntsAt w x xlen ns) (hv : s.code ns = 0) :
    Calls Try.prog 18 #[.agg #[.int .i64 s.P, .int .i64 s.tl, .int .i64 s.th, .int .i64 s.al, .int .i64 s.ah, .int .i64 s.room, .int .i64 s.xl, .int .i64 s.xh, .int .i64 s.yl, .int .i64 s.yh, .slice a len cap], .slice x xlen xcap] w fun e w' => e = .returned (.tuple #[.agg (potCells s ns), .int .i64 0]) ∧ Below w.heap.size w w' := by
  obtain ⟨ho, hadd⟩ := Shop.code_yes hv
  obtain ⟨hl, hfew⟩ := Shop.isAdd_len hadd
  obtain rfl : len = xlen := by rw [← hp.1, ← hx.1, hl]
  have HT := Lib.hid (fun w1 (hb : Below w.heap.size w w1) => asked_any s a len cap x len xcap ns w1 (hp.below hb) (hx.below hb) 0 hv)
  have HA := fun w1 (hb : Below w.heap.size w w1) => after_any s a len cap x xcap ns w1 (hp.below hb) (hx.below hb) ho hfew
  unfold potCells at HA
  replace HA := Lib.hid HA
  clear hp hx hv ho hadd hl hfew
  generalize hn1 : s.P + tot Pig.P s.pigs ns = n1 at *
  generalize hn2 : s.tl + tot Pig.t s.pigs ns = n2 at *
  generalize hn3 : s.th + tot Pig.t s.pigs ns = n3 at *
  generalize hn4 : s.al + tot Pig.a s.pigs ns = n4 at *
  generalize hn5 : s.ah + tot Pig.a s.pigs ns = n5 at *
  have HR := Lib.hid (show potCells s ns = #[.int .i64 n1, .int .i64 n2, .int .i64 n3, .int .i64 n4, .int .i64 n5] by rw [← hn1, ← hn2, ← hn3, ← hn4, ← hn5]; rfl)
  clear hn1 hn2 hn3 hn4 hn5
  go_enter Try.func18, Try.ntmps18
  go_wp2_with fail
  refine (HT.out _ (by repeat (first | exact Below.refl _ _ | (refine Below.alloc ?_ (by first | omega | (simp; omega) | simp) _) | (refine Below.setCell ?_ (by first | omega | (simp; omega) | simp) _) | refine Below.drew ?_))).mono ?_
  rintro e w1 ⟨rfl, hb1⟩
  obtain ⟨hc1, hf1⟩ := bcell hb1
  have hz1 := hb1.size
  simp at hz1
  have HB := Lib.hid hb1
  have hbw : Below w.heap.size w w1 := ((by repeat (first | exact Below.refl _ _ | (refine Below.alloc ?_ (by first | omega | (simp; omega) | simp) _) | (refine Below.setCell ?_ (by first | omega | (simp; omega) | simp) _) | refine Below.drew ?_)) : Below w.heap.size w _).trans (hb1.mono (by simp; omega))
  clear hb1
  have q1 : w.heap.size + 1 < w1.heap.size := by omega
  have q2 : w.heap.size < w1.heap.size := by omega
  have q3 : w.heap.size + 1 + 1 < w1.heap.size := by omega
  go_wp2_with fail
  refine (HA.out _ hbw).mono ?_
  rintro e w2 ⟨rfl, hb2⟩
  obtain ⟨hc2, hf2⟩ := bcell hb2
  have hz2 := hb2.size
  have HB2 := Lib.hid hb2
  clear hb2
  have q4 : w.heap.size + 1 < w2.heap.size := by omega
  have q5 : w.heap.size < w2.heap.size := by omega
  go_wp2_with fail
  refine bodyPost_ret (v := .tuple #[.agg #[.int .i64 n1, .int .i64 n2, .int .i64 n3, .int .i64 n4, .int .i64 n5], .int .i64 0]) (by simp [results, Try.results18, go_sem, hc2, hf2, hc1, hf1, q1, q2, q4, q5]) rfl ⟨by rw [HR.out], ?_⟩
  exact (by repeat (first | exact Below.refl _ _ | (refine Below.alloc ?_ (by first | omega | (simp; omega) | simp) _) | (refine Below.setCell ?_ (by first | omega | (simp; omega) | simp) _) | refine Below.drew ?_ | (refine below_via (by assumption) (by first | omega | (simp; omega) | simp) ?_)))
end Go.Proofs.Ytajabapcmpmboaa

/- Safe. -/
namespace Go.Proofs.Ytajabapcmpmboaa
set_option linter.unusedVariables false
set_option linter.unusedSimpArgs false
open Go.RowKit

/-- A contract at each world that has kept what lay at W0, in the words of a region. -/
theorem held2 {P : Program} {f : FuncId} {args : Array Value} {w W0 : World} {v : Value} (h0 : Below w.heap.size w W0) (h : ∀ w1, Below w.heap.size w w1 → Calls P f args w1 fun e w' => e = .returned v ∧ Below w1.heap.size w1 w')
    (w1 : World) (h1 : Below W0.heap.size W0 w1 ∧ ∀ b o, b < W0.heap.size → w1.cell? ⟨b, o, none⟩ = W0.cell? ⟨b, o, none⟩) : Calls P f args w1 fun e w' => e = .returned v ∧ Below W0.heap.size W0 w' ∧ ∀ b o, b < W0.heap.size → w'.cell? ⟨b, o, none⟩ = W0.cell? ⟨b, o, none⟩ :=
  held_of h0 h w1 h1.1
theorem ret_two {a b c d : Int} (h : a = b) (k : c = d) : Ending.returned (.tuple #[.int .i64 a, .int .i64 c]) = .returned (.tuple #[.int .i64 b, .int .i64 d]) := by rw [h, k]
/-- Safe of the pot with an addition. -/
def Shop.safeOf (s : Shop) (ns : List Int) : Int := safeI s (s.P + tot Pig.P s.pigs ns) (s.tl + tot Pig.t s.pigs ns) (s.th + tot Pig.t s.pigs ns) (s.al + tot Pig.a s.pigs ns) (s.ah + tot Pig.a s.pigs ns)
theorem Shop.isAdd_room {s : Shop} {ns : List Int} (h : s.isAdd ns = true) : s.P + tot Pig.P s.pigs ns ≤ s.room := by
  simp [Shop.isAdd, Shop.room?] at h; exact h.2
theorem Shop.tot_P {s : Shop} {ns : List Int} (ho : s.ok = true) (h : s.isAdd ns = true) : 0 ≤ s.P + tot Pig.P s.pigs ns ∧ s.P + tot Pig.P s.pigs ns ≤ 2000 := by
  have h1 := Shop.ok_bd ho
  have h2 := Shop.isAdd_room h
  have h3 := Shop.isAdd_len h
  have := tot_all Pig.P bd_pounds s.pigs ns (s.few ns ho h3.2) rfl h3.1
  omega
theorem Shop.lims {s : Shop} (ho : s.ok = true) : ((0 ≤ s.xl ∧ s.xl ≤ 1000) ∧ (0 ≤ s.xh ∧ s.xh ≤ 1000)) ∧ ((0 ≤ s.yl ∧ s.yl ≤ 1000) ∧ (0 ≤ s.yh ∧ s.yh ≤ 1000)) := by
  have h1 := Shop.ok_bd ho; omega

set_option maxHeartbeats 1000000 in
theorem Safe_no (s : Shop) (a : Option Addr) (len cap : Nat) (x : Option Addr) (xlen xcap : Nat) (ns : List Int) (w : World) (hp : PigsAt w a len s.pigs) (hx : IntsAt w x xlen ns) (v : Int) (hv : s.code ns = v) (hno : v ≠ 0) :
    Calls Try.prog 22 #[.agg #[.int .i64 s.P, .int .i64 s.tl, .int .i64 s.th, .int .i64 s.al, .int .i64 s.ah, .int .i64 s.room, .int .i64 s.xl, .int .i64 s.xh, .int .i64 s.yl, .int .i64 s.yh, .slice a len cap], .slice x xlen xcap] w fun e w' => e = .returned (.tuple #[.int .i64 0, .int .i64 v]) ∧ Below w.heap.size w w' := by
  have HT := Lib.hid (fun w1 (hb : Below w.heap.size w w1) => asked_any s a len cap x xlen xcap ns w1 (hp.below hb) (hx.below hb) v hv)
  have e1 : (v == 0) = false := by simpa using hno
  have e2 : (v != 0) = true := by simpa using hno
  clear hp hx hv hno
  go_enter Try.func22, Try.ntmps22
  go_wp2_with fail
  refine (HT.out _ (by repeat (first | exact Below.refl _ _ | (refine Below.alloc ?_ (by first | omega | (simp; omega) | simp) _) | (refine Below.setCell ?_ (by first | omega | (simp; omega) | simp) _) | refine Below.drew ?_))).mono ?_
  rintro e w1 ⟨rfl, hb1⟩
  have HB := Lib.hid hb1
  clear hb1
  go_wp2_with fail
  go_ret2
  exact ⟨rfl, (by repeat (first | exact Below.refl _ _ | (refine Below.alloc ?_ (by first | omega | (simp; omega) | simp) _) | (refine Below.setCell ?_ (by first | omega | (simp; omega) | simp) _) | refine Below.drew ?_ | (refine below_via (by assumption) (by first | omega | (simp; omega) | simp) ?_)))⟩

set_option maxHeartbeats 1000000 in
theorem Safe_yes (s : Shop) (a : Option Addr) (len cap : Nat) (x : Option Addr) (xlen xcap : Nat) (ns : List Int) (w : World) (hp : PigsAt w a len s.pigs) (hx : IntsAt w x xlen ns) (hv : s.code ns = 0) :
    Calls Try.prog 22 #[.agg #[.int .i64 s.P, .int .i64 s.tl, .int .i64 s.th, .int .i64 s.al, .int .i64 s.ah, .int .i64 s.room, .int .i64 s.xl, .int .i64 s.xh, .int .i64 s.yl, .int .i64 s.yh, .slice a len cap], .slice x xlen xcap] w fun e w' => e = .returned (.tuple #[.int .i64 (s.safeOf ns), .int .i64 0]) ∧ Below w.heap.size w w' := by
  obtain ⟨ho, hadd⟩ := Shop.code_yes hv
  obtain ⟨hl, hfew⟩ := Shop.isAdd_len hadd
  obtain rfl : len = xlen := by rw [← hp.1, ← hx.1, hl]
  have HT := Lib.hid (fun w1 (hb : Below w.heap.size w w1) => asked_any s a len cap x len xcap ns w1 (hp.below hb) (hx.below hb) 0 hv)
  have HA := fun w1 (hb : Below w.heap.size w w1) => after_any s a len cap x xcap ns w1 (hp.below hb) (hx.below hb) ho hfew
  unfold potCells at HA
  replace HA := Lib.hid HA
  have HS := Lib.hid (fun w1 => safe_any s a len cap (s.P + tot Pig.P s.pigs ns) (s.tl + tot Pig.t s.pigs ns) (s.th + tot Pig.t s.pigs ns) (s.al + tot Pig.a s.pigs ns) (s.ah + tot Pig.a s.pigs ns) w1 (Shop.tot_P ho hadd) (Shop.lims ho).1 (Shop.lims ho).2)
  clear hp hx hv ho hadd hl hfew
  have HR := Lib.hid (show s.safeOf ns = safeI s (s.P + tot Pig.P s.pigs ns) (s.tl + tot Pig.t s.pigs ns) (s.th + tot Pig.t s.pigs ns) (s.al + tot Pig.a s.pigs ns) (s.ah + tot Pig.a s.pigs ns) from rfl)
  generalize s.P + tot Pig.P s.pigs ns = n1 at *
  generalize s.tl + tot Pig.t s.pigs ns = n2 at *
  generalize s.th + tot Pig.t s.pigs ns = n3 at *
  generalize s.al + tot Pig.a s.pigs ns = n4 at *
  generalize s.ah + tot Pig.a s.pigs ns = n5 at *
  generalize safeI s n1 n2 n3 n4 n5 = sv at *
  go_enter Try.func22, Try.ntmps22
  go_wp2_with fail
  refine (HT.out _ (by repeat (first | exact Below.refl _ _ | (refine Below.alloc ?_ (by first | omega | (simp; omega) | simp) _) | (refine Below.setCell ?_ (by first | omega | (simp; omega) | simp) _) | refine Below.drew ?_))).mono ?_
  rintro e w1 ⟨rfl, hb1⟩
  obtain ⟨hc1, hf1⟩ := bcell hb1
  have hz1 := hb1.size
  simp at hz1
  have hbw : Below w.heap.size w w1 := ((by repeat (first | exact Below.refl _ _ | (refine Below.alloc ?_ (by first | omega | (simp; omega) | simp) _) | (refine Below.setCell ?_ (by first | omega | (simp; omega) | simp) _) | refine Below.drew ?_)) : Below w.heap.size w _).trans (hb1.mono (by simp; omega))
  clear hb1
  have q2 : w.heap.size < w1.heap.size := by omega
  have q3 : w.heap.size + 1 < w1.heap.size := by omega
  have HA1 := Lib.hid (held2 (W0 := w1) hbw HA.out)
  have HS1 := Lib.hid (held2 (W0 := w1) hbw fun w2 _ => HS.out w2)
  go_wp2_with fail
  go_region_held3 (fun w' => Below w1.heap.size w1 w' ∧ ∀ b o, b < w1.heap.size → w'.cell? ⟨b, o, none⟩ = w1.cell? ⟨b, o, none⟩) (first | with_reducible assumption | exact ⟨(Below.refl _ _).drew, fun _ _ _ => rfl⟩)
    (first | (go_at_call 69; with_reducible refine (HA1.out _ ?_).mono ?_; (first | with_reducible assumption | exact ⟨(Below.refl _ _).drew, fun _ _ _ => rfl⟩); rintro e w' ⟨rfl, k⟩) | (go_at_call 74; with_reducible refine (HS1.out _ ?_).mono ?_; (first | with_reducible assumption | exact ⟨(Below.refl _ _).drew, fun _ _ _ => rfl⟩); rintro e w' ⟨rfl, k⟩))
  have hh := ‹Below w1.heap.size w1 _ ∧ _›
  go_wp2_with fail
  go_ret2
  exact ⟨ret_two HR.out.symm rfl, hbw.trans (Below.mono hh.1 hbw.size)⟩
end Go.Proofs.Ytajabapcmpmboaa

/- Lead: between how many pounds of lead keep a pot safe. -/
namespace Go.Proofs.Ytajabapcmpmboaa
set_option linter.unusedVariables false
set_option linter.unusedSimpArgs false
open Go.RowKit

theorem bothS_drew {W0 w1 : World} (h : Below W0.heap.size W0 w1 ∧ ∀ b o, b < W0.heap.size → w1.cell? ⟨b, o, none⟩ = W0.cell? ⟨b, o, none⟩) :
    Below W0.heap.size W0 w1.drew ∧ ∀ b o, b < W0.heap.size → w1.drew.cell? ⟨b, o, none⟩ = W0.cell? ⟨b, o, none⟩ := ⟨h.1.drew, h.2⟩
theorem bothS_alloc {W0 w1 : World} (o : Obj) (h : Below W0.heap.size W0 w1 ∧ ∀ b o, b < W0.heap.size → w1.cell? ⟨b, o, none⟩ = W0.cell? ⟨b, o, none⟩) :
    Below W0.heap.size W0 (w1.alloc o) ∧ ∀ b o', b < W0.heap.size → (w1.alloc o).cell? ⟨b, o', none⟩ = W0.cell? ⟨b, o', none⟩ :=
  ⟨h.1.alloc h.1.size _, fun b _ hb => (h.1.alloc h.1.size _).cell (p := ⟨b, _, none⟩) hb⟩
theorem bothS_set {W0 w1 : World} (p : Addr) (v : Value) (hp : W0.heap.size ≤ p.block) (h : Below W0.heap.size W0 w1 ∧ ∀ b o, b < W0.heap.size → w1.cell? ⟨b, o, none⟩ = W0.cell? ⟨b, o, none⟩) :
    Below W0.heap.size W0 (w1.setCell p v) ∧ ∀ b o', b < W0.heap.size → (w1.setCell p v).cell? ⟨b, o', none⟩ = W0.cell? ⟨b, o', none⟩ :=
  ⟨h.1.setCell hp _, fun b _ hb => (h.1.setCell hp _).cell (p := ⟨b, _, none⟩) hb⟩
/-- A contract in the words of a region in which blocks are made: what lay at the call lies behind it, too. -/
theorem bothS {P : Program} {f : FuncId} {args : Array Value} {w W0 : World} {v : Value} (h0 : Below w.heap.size w W0) (h : ∀ w1, Below w.heap.size w w1 → Calls P f args w1 fun e w' => e = .returned v ∧ Below w1.heap.size w1 w')
    (w1 : World) (h1 : Below W0.heap.size W0 w1 ∧ ∀ b o, b < W0.heap.size → w1.cell? ⟨b, o, none⟩ = W0.cell? ⟨b, o, none⟩) :
    Calls P f args w1 fun e w' => e = .returned v ∧ (Below W0.heap.size W0 w' ∧ ∀ b o, b < W0.heap.size → w'.cell? ⟨b, o, none⟩ = W0.cell? ⟨b, o, none⟩) ∧
      (∀ b o, b < w1.heap.size → w'.cell? ⟨b, o, none⟩ = w1.cell? ⟨b, o, none⟩) ∧ (∀ b o, b < w1.heap.size → w'.frozen? ⟨b, o, none⟩ = w1.frozen? ⟨b, o, none⟩) ∧ w1.heap.size ≤ w'.heap.size :=
  (h w1 (h0.trans (h1.1.mono h0.size))).mono fun e w' ⟨he, hb⟩ => ⟨he, ⟨h1.1.trans (hb.mono h1.1.size), fun b o hbo => (h1.1.trans (hb.mono h1.1.size)).cell (p := ⟨b, o, none⟩) hbo⟩,
    fun b o hbo => hb.cell (p := ⟨b, o, none⟩) hbo, fun b o hbo => hb.frozen (p := ⟨b, o, none⟩) hbo, hb.size⟩
/-- What has been found behind k tries: the least, the greatest, and whether there is any. -/
def leadsTo (s : Shop) (n1 n2 n3 n4 n5 : Int) : Nat → Int × Int × Bool
  | 0 => (0, 0, false)
  | k + 1 => if safeI s (n1 + k) n2 n3 n4 n5 = 1 then ((if (leadsTo s n1 n2 n3 n4 n5 k).2.2 then (leadsTo s n1 n2 n3 n4 n5 k).1 else (k : Int)), (k : Int), true) else leadsTo s n1 n2 n3 n4 n5 k
theorem leadsTo_no {s : Shop} {n1 n2 n3 n4 n5 : Int} {k : Nat} (h : safeI s (n1 + k) n2 n3 n4 n5 ≠ 1) : leadsTo s n1 n2 n3 n4 n5 (k + 1) = leadsTo s n1 n2 n3 n4 n5 k := by
  simp [leadsTo, h]
theorem leadsTo_yes {s : Shop} {n1 n2 n3 n4 n5 : Int} {k : Nat} (h : safeI s (n1 + k) n2 n3 n4 n5 = 1) {lo hi : Int} {f : Bool} (he : leadsTo s n1 n2 n3 n4 n5 k = (lo, hi, f)) :
    leadsTo s n1 n2 n3 n4 n5 (k + 1) = ((if f then lo else (k : Int)), (k : Int), true) := by
  simp [leadsTo, h, he]

/-- Four boxes under one name. -/
theorem name4 (w : World) (cs : Array Value) (T : TypeId) (ds : Array Value) (U : TypeId) (es : Array Value) (V : TypeId) (fs : Array Value) (X : TypeId) :
    ∃ W0, (((w.alloc (.cells cs T)).alloc (.cells ds U)).alloc (.cells es V)).alloc (.cells fs X) = W0 ∧ Below w.heap.size w W0 ∧ (∀ i, W0.cell? ⟨w.heap.size, i, none⟩ = cs[i]?) ∧ (∀ i, W0.cell? ⟨w.heap.size + 1, i, none⟩ = ds[i]?) ∧
      (∀ i, W0.cell? ⟨w.heap.size + 1 + 1, i, none⟩ = es[i]?) ∧ (∀ i, W0.cell? ⟨w.heap.size + 1 + 1 + 1, i, none⟩ = fs[i]?) ∧ (∀ i, W0.frozen? ⟨w.heap.size + 1 + 1, i, none⟩ = false) ∧ (∀ i, W0.frozen? ⟨w.heap.size + 1 + 1 + 1, i, none⟩ = false) ∧ w.heap.size + 1 + 1 + 1 < W0.heap.size :=
  ⟨_, rfl, (by repeat (first | exact Below.refl _ _ | (refine Below.alloc ?_ (by first | omega | (simp; omega) | simp) _) | (refine Below.setCell ?_ (by first | omega | (simp; omega) | simp) _) | refine Below.drew ?_)), fun i => by go_simp, fun i => by go_simp, fun i => by go_simp, fun i => by go_simp, fun i => by go_simp, fun i => by go_simp, by simp⟩

set_option maxHeartbeats 2000000 in
theorem leads_any (s : Shop) (a : Option Addr) (len cap : Nat) (n1 n2 n3 n4 n5 : Int) (N : Nat) (w : World) (hN : s.room - n1 + 1 = N) (h0 : 0 ≤ n1) (hr : s.room ≤ 999)
    (hx : (0 ≤ s.xl ∧ s.xl ≤ 1000) ∧ (0 ≤ s.xh ∧ s.xh ≤ 1000)) (hy : (0 ≤ s.yl ∧ s.yl ≤ 1000) ∧ (0 ≤ s.yh ∧ s.yh ≤ 1000)) (lo hi : Int) (f : Bool) (hres : leadsTo s n1 n2 n3 n4 n5 N = (lo, hi, f)) :
    Calls Try.prog 79 #[.agg #[.int .i64 s.P, .int .i64 s.tl, .int .i64 s.th, .int .i64 s.al, .int .i64 s.ah, .int .i64 s.room, .int .i64 s.xl, .int .i64 s.xh, .int .i64 s.yl, .int .i64 s.yh, .slice a len cap], .agg #[.int .i64 n1, .int .i64 n2, .int .i64 n3, .int .i64 n4, .int .i64 n5]] w fun e w' => e = .returned (.tuple #[.agg #[.int .i64 lo, .int .i64 hi], .bool f]) ∧ Below w.heap.size w w' := by
  have HS := Lib.hid (fun (k : Nat) (hk : k < N) w1 => safe_any s a len cap (n1 + k) n2 n3 n4 n5 w1 (by omega) hx hy)
  have HR := Lib.hid hres
  have HN := Lib.hid hN
  have d1 : s.room - n1 ≤ 999 := by omega
  have d2 : 0 ≤ s.room - n1 + 1 := by omega
  have d3 : N ≤ 1000 := by omega
  have d4 : n1 ≤ 1000 := by omega
  clear hres hN hx hy
  go_enter Try.func79, Try.ntmps79
  go_wp2_with fail
  obtain ⟨W0, hW0, hB0, hs0, hp0, hr0, hl0, hfr, hfl, hz0⟩ := name4 w #[.int .i64 s.P, .int .i64 s.tl, .int .i64 s.th, .int .i64 s.al, .int .i64 s.ah, .int .i64 s.room, .int .i64 s.xl, .int .i64 s.xh, .int .i64 s.yl, .int .i64 s.yh, .slice a len cap] 78 #[.int .i64 n1, .int .i64 n2, .int .i64 n3, .int .i64 n4, .int .i64 n5] 25 #[.int .i64 0, .int .i64 0] 23 #[.int .i64 0, .int .i64 0] 23
  rw [hW0]
  clear hW0
  obtain ⟨bl, hbl⟩ : ∃ bl, bl = w.heap.size + 1 + 1 + 1 := ⟨_, rfl⟩
  obtain ⟨br, hbr⟩ : ∃ br, br = w.heap.size + 1 + 1 := ⟨_, rfl⟩
  obtain ⟨bp, hbp⟩ : ∃ bp, bp = w.heap.size + 1 := ⟨_, rfl⟩
  have t1 : w.heap.size < bl := by omega
  have t2 : bp < bl := by omega
  have t3 : br < bl := by omega
  have t4 : w.heap.size ≤ br := by omega
  have ne1 : ¬ w.heap.size = bl := by omega
  have ne2 : ¬ bp = bl := by omega
  have ne3 : ¬ br = bl := by omega
  have ne4 : ¬ bl = w.heap.size := by omega
  have ne5 : ¬ bl = bp := by omega
  have ne6 : ¬ bl = br := by omega
  have ne7 : ¬ w.heap.size = br := by omega
  have ne8 : ¬ bp = br := by omega
  rw [← hbl, ← hbr, ← hbp]
  rw [← hbl] at hl0 hfl hz0
  rw [← hbr] at hr0 hfr
  rw [← hbp] at hp0
  clear hbl hbr hbp
  go_loopw [7, 18] (fun v7 v18 wr => ∃ (k : Nat) (lo' hi' : Int) (f' : Bool), k ≤ N ∧ v18 = .int .i64 k ∧ v7 = .bool f' ∧ leadsTo s n1 n2 n3 n4 n5 k = (lo', hi', f') ∧ Below bl W0 wr ∧ wr.cell? ⟨bl, 0, none⟩ = some (.int .i64 lo') ∧ wr.cell? ⟨bl, 1, none⟩ = some (.int .i64 hi') ∧ wr.frozen? ⟨bl, 0, none⟩ = false ∧ wr.frozen? ⟨bl, 1, none⟩ = false ∧ bl < wr.heap.size) (fun _ i _ => N - (intOf i).toNat)
  case atStart => exact ⟨0, 0, 0, false, by omega, rfl, rfl, rfl, Below.refl _ _, hl0 0, hl0 1, hfl 0, hfl 1, hz0⟩
  case round =>
    obtain ⟨k, lo', hi', f', hk, rfl, rfl, hle, hB, cl0, cl1, fl0, fl1, hz⟩ := hrel
    have HLE := Lib.hid hle; clear hle
    have hc : ∀ b o, b < bl → wr.cell? ⟨b, o, none⟩ = W0.cell? ⟨b, o, none⟩ := fun b o h => hB.cell (p := ⟨b, o, none⟩) h
    have hff : ∀ b o, b < bl → wr.frozen? ⟨b, o, none⟩ = W0.frozen? ⟨b, o, none⟩ := fun b o h => hB.frozen (p := ⟨b, o, none⟩) h
    have u1 : w.heap.size < wr.heap.size := by omega
    have u2 : bp < wr.heap.size := by omega
    have u3 : br < wr.heap.size := by omega
    have HBw := Lib.hid hB; clear hB
    have HNN := HN.out
    by_cases hlt : k < N
    · have j1 : (k : Int) < s.room - n1 + 1 := by omega
      have j2 : (k : Int) ≤ 1000 := by omega
      have HSk := Lib.hid (HS.out k hlt)
      clear HNN
      generalize hsv : safeI s (n1 + k) n2 n3 n4 n5 = sv at HSk
      by_cases h1 : sv = 1
      · subst h1
        have HV := leadsTo_yes hsv HLE.out
        clear hsv
        cases f'
        all_goals simp only [Bool.false_eq_true, if_false, if_true] at HV
        all_goals replace HV := Lib.hid HV
        all_goals go_wp2_with (go_at_call 74; with_reducible refine (HSk.out _).mono ?_; rintro e w2 ⟨rfl, hb2⟩; obtain ⟨hc2, hf2⟩ := bcell hb2; have hz2 := hb2.size; simp at hz2; have HB2 := Lib.hid hb2; clear hb2; have v1 : bl < w2.heap.size := (by omega); have y0 : w2.cell? ⟨bl, 0, none⟩ = some (.int .i64 lo') := (by rw [hc2 _ _ (by simp; omega)]; go_simp); have y1 : w2.cell? ⟨bl, 1, none⟩ = some (.int .i64 hi') := (by rw [hc2 _ _ (by simp; omega)]; go_simp))
        · go_roundw
          case rel => exact ⟨k + 1, k, k, true, by omega, by go_num, rfl, HV.out, (by repeat (first | exact Below.refl _ _ | (refine Below.alloc ?_ (by first | omega | (simp; omega) | simp) _) | (refine Below.setCell ?_ (by first | omega | (simp; omega) | simp) _) | refine Below.drew ?_ | (refine below_via (by assumption) (by first | omega | (simp; omega) | simp) ?_))), by go_simp, by go_simp, by go_simp, by go_simp, by simp [World.setCell]; omega⟩
          case measure => simp [intOf]; omega
        · go_roundw
          case rel => exact ⟨k + 1, lo', k, true, by omega, by go_num, rfl, HV.out, (by repeat (first | exact Below.refl _ _ | (refine Below.alloc ?_ (by first | omega | (simp; omega) | simp) _) | (refine Below.setCell ?_ (by first | omega | (simp; omega) | simp) _) | refine Below.drew ?_ | (refine below_via (by assumption) (by first | omega | (simp; omega) | simp) ?_))), by go_simp, by go_simp, by go_simp, by go_simp, by simp [World.setCell]; omega⟩
          case measure => simp [intOf]; omega
      · have HV := Lib.hid (leadsTo_no (k := k) (n1 := n1) (by rw [hsv]; exact h1))
        have e1 : (sv == 1) = false := by simpa using h1
        have e2 : (sv != 1) = true := by simpa using h1
        clear hsv
        go_wp2_with (go_at_call 74; with_reducible refine (HSk.out _).mono ?_; rintro e w2 ⟨rfl, hb2⟩; obtain ⟨hc2, hf2⟩ := bcell hb2; have hz2 := hb2.size; simp at hz2; have HB2 := Lib.hid hb2; clear hb2; have v1 : bl < w2.heap.size := (by omega); have y0 : w2.cell? ⟨bl, 0, none⟩ = some (.int .i64 lo') := (by rw [hc2 _ _ (by simp; omega)]; go_simp); have y1 : w2.cell? ⟨bl, 1, none⟩ = some (.int .i64 hi') := (by rw [hc2 _ _ (by simp; omega)]; go_simp))
        go_roundw
        case rel => exact ⟨k + 1, lo', hi', f', by omega, by go_num, rfl, by rw [HV.out]; exact HLE.out, (by repeat (first | exact Below.refl _ _ | (refine Below.alloc ?_ (by first | omega | (simp; omega) | simp) _) | (refine Below.setCell ?_ (by first | omega | (simp; omega) | simp) _) | refine Below.drew ?_ | (refine below_via (by assumption) (by first | omega | (simp; omega) | simp) ?_))), by go_simp, by go_simp, by go_simp, by go_simp, by omega⟩
        case measure => simp [intOf]; omega
    · have hk' : k = N := by omega
      subst hk'
      have j1 : ¬ (k : Int) < s.room - n1 + 1 := by omega
      clear HNN
      have hq := HLE.out.symm.trans HR.out
      simp only [Prod.mk.injEq] at hq
      obtain ⟨rfl, rfl, rfl⟩ := hq
      have u4 : w.heap.size ≤ br := t4
      go_wp2_with fail
      refine bodyPost_ret (v := .tuple #[.agg #[.int .i64 lo', .int .i64 hi'], .bool f']) (by simp [results, Try.results79, go_sem, *]) rfl ⟨rfl, ?_⟩
      exact ((hB0.trans (Below.mono HBw.out (by omega))).setCell (p := ⟨br, 0, none⟩) t4 _).setCell (p := ⟨br, 1, none⟩) t4 _
end Go.Proofs.Ytajabapcmpmboaa
