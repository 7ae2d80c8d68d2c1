/- MetalLead. -/
import Derived.Test.YtajabapcmpmboaaPA
import Derived.Deep.RegionHeld3
import Derived.Deep.RegionLaw
import Derived.Deep.DeepCutAuto
namespace Go.Proofs.Ytajabapcmpmboaa
set_option linter.unusedVariables false
set_option linter.unusedSimpArgs false
open Go.RowKit

theorem within_below (n lo hi : Int) (b : Bool) (h : btw n lo hi = b) (w : World) :
    Calls Try.prog 53 #[.int .i64 n, .int .i64 lo, .int .i64 hi] w fun e w' => e = .returned (.bool b) ∧ Below w.heap.size w w' :=
  (Within_is n lo hi b h w).mono fun e w' ⟨he, hw⟩ => ⟨he, hw ▸ Below.refl _ _⟩
theorem IsSafe_is (s : Shop) (a : Option Addr) (len cap : Nat) (P tl th al ah : Int) (b : Bool) (h : isSafeR s P tl th al ah = b) (w : World) (hP : 0 ≤ P ∧ P ≤ 2000) (hL : ((0 ≤ s.xl ∧ s.xl ≤ 1000) ∧ (0 ≤ s.xh ∧ s.xh ≤ 1000)) ∧ ((0 ≤ s.yl ∧ s.yl ≤ 1000) ∧ (0 ≤ s.yh ∧ s.yh ≤ 1000))) (f1 : Fair tl) (f2 : Fair th) (f3 : Fair al) (f4 : Fair ah) :
    Calls Try.prog 64 #[.agg #[.int .i64 s.P, .int .i64 s.tl, .int .i64 s.th, .int .i64 s.al, .int .i64 s.ah, .int .i64 s.room, .int .i64 s.xl, .int .i64 s.xh, .int .i64 s.yl, .int .i64 s.yh, .slice a len cap], .agg #[.int .i64 P, .int .i64 tl, .int .i64 th, .int .i64 al, .int .i64 ah]] w fun e w' => e = .returned (.bool b) ∧ Below w.heap.size w w' := h ▸ IsSafe_any s a len cap P tl th al ah w hP hL f1 f2 f3 f4

/-- append([]int{}, add...) as one law, with what it leaves as it was. -/
theorem run_append_far (w : World) (t ty : TypeId) (ht : t = 29) (n0 b xlen xcap : Nat) (xa : Option Addr) (xs : List Int)
    (hrow : w.ownsRow n0 3 1 (.slice (some ⟨b, 0, none⟩) 0 0) 0 []) (hx : IntsAt w xa xlen xs) (hl : xlen ≤ 1000) (hn : n0 ≤ b) (hnw : n0 ≤ w.heap.size) :
    ∃ g cap' w3, (Builtin.append_ #[t, t] ty #[.slice (some ⟨b, 0, none⟩) 0 0, .slice xa xlen xcap]).run Try.prog w = .ok (.slice (some ⟨g, 0, none⟩) xlen cap') w3 ∧ IntsAt w3 (some ⟨g, 0, none⟩) xlen xs ∧ Below n0 w w3 ∧ w.grownBy w3 (some b) := by
  subst ht
  obtain ⟨i0, hi, hy0, hy1, hy2⟩ := info_parts Try.info3
  obtain ⟨hxl, hxm, hxc⟩ := hx
  rcases Nat.eq_zero_or_pos xlen with h0 | h0
  · subst h0
    have hxs : xs = [] := List.length_eq_zero_iff.1 hxl
    subst hxs
    have hsrc : Src Try.prog i0.size 29 (.slice xa 0 xcap) 0 [] w := by
      cases xa with
      | none => exact Src.ofNil w Try.underlying29 xcap
      | some xa => exact Src.ofSlice w Try.underlying29 xa 0 xcap [] (by simp) (by simp) (by simp)
    exact ⟨b, 0, w, run_append_room_src (P := Try.prog) w 29 29 ty 3 i0 Try.underlying29 hi b 0 0 0 (.slice xa 0 xcap) 0 [] hsrc (by omega) (by simp) (by simp), ⟨rfl, by decide, fun h => by omega⟩, Below.refl _ _, gb_refl w b⟩
  · obtain ⟨pb, po, rfl, hpb, hat⟩ := hxc h0
    obtain ⟨v', w3, hr, hown, hgrow, _, hat'⟩ := run_append_own_at (P := Try.prog) w n0 29 ty 3 i0 (.int .i64 0) 1 8 Try.underlying29 hi hy0 hy1 hy2 rfl (by decide) _ 0 [] hrow ⟨pb, po, none⟩ xlen xcap (xs.map (Value.int .i64)) (by simp [hxl]) (by
      intro j u hj
      have hjx : j < xs.length := by have := (List.getElem?_eq_some_iff.1 hj).1; simpa using this
      rw [Addr.add_lit]
      refine (hat j hjx).trans ?_
      rw [← hj]; simp [hjx]) (by intro u hu; obtain ⟨y, _, rfl⟩ := List.mem_map.1 hu; rfl) (by unfold maxLen; omega) (by omega) hnw
    rw [Nat.zero_add, List.nil_append] at hown
    obtain ⟨g, c, rfl, hg⟩ := ownsRow_pos hown h0
    exact ⟨g, c, w3, hr, ints_own hown hxm, (Below.refl n0 w).grown hgrow hnw (by intro k hk; simp [Value.ownBlock] at hk; omega), by simpa [Value.ownBlock] using hgrow⟩
theorem step_append_far {ops : Array Oper} {o : Oper} {a : Act} {K : Act → World → Prop} {Q : Exit → Act → World → Prop} {E : Prop} (w : World) (n0 b xlen xcap : Nat) (xa : Option Addr) (xs : List Int) (hgd : o.guard = none) (s x : Operand)
    (ho : o.op = .call { callee := .builtin .append, args := #[s, x], argTypes := #[29, 29] }) (hs : a.eval s = .slice (some ⟨b, 0, none⟩) 0 0) (hxv : a.eval x = .slice xa xlen xcap)
    (hrow : w.ownsRow n0 3 1 (.slice (some ⟨b, 0, none⟩) 0 0) 0 []) (hx : IntsAt w xa xlen xs) (hl : xlen ≤ 1000) (hn : n0 ≤ b) (hnw : n0 ≤ w.heap.size)
    (h : ∀ g cap' w3, IntsAt w3 (some ⟨g, 0, none⟩) xlen xs → Below n0 w w3 → (∀ k i, k < w.heap.size → k ≠ b → w3.cell? ⟨k, i, none⟩ = w.cell? ⟨k, i, none⟩) → (∀ k i, k < w.heap.size → k ≠ b → w3.frozen? ⟨k, i, none⟩ = w.frozen? ⟨k, i, none⟩) → w.heap.size ≤ w3.heap.size →
      K (a.put o.dst (.slice (some ⟨g, 0, none⟩) xlen cap')) w3) : if Region.wanted o (yielded ops a.tmps) = true then Oper.wp Try.prog o a w K Q else E := by
  obtain ⟨g, c, w3, hr, hi, hb, hg⟩ := run_append_far w 29 o.type rfl n0 b xlen xcap xa xs hrow hx hl hn hnw
  rw [if_pos (by simp [Region.wanted, hgd])]
  unfold Oper.wp execOp
  simp only [ho, resolve, invoke, builtin, Sem.run_bind, Sem.run_pure, Result.andThen_ok, List.map_toArray, List.map_cons, List.map_nil, hs, hxv, hr]
  exact h g c w3 hi hb (fun k i hk hne => World.cell?_of_block (a := ⟨k, i, none⟩) (hg.block k hk (by simpa using fun e => hne e))) (fun k i hk hne => World.frozen?_of_block (a := ⟨k, i, none⟩) (hg.block k hk (by simpa using fun e => hne e))) hg.size

theorem bothS_step {W0 W wA : World} (h : Below W0.heap.size W0 W ∧ ∀ b o, b < W0.heap.size → W.cell? ⟨b, o, none⟩ = W0.cell? ⟨b, o, none⟩) (hb : Below W0.heap.size W wA) : Below W0.heap.size W0 wA ∧ ∀ b o, b < W0.heap.size → wA.cell? ⟨b, o, none⟩ = W0.cell? ⟨b, o, none⟩ :=
  ⟨h.1.trans hb, fun b o hbo => (h.1.trans hb).cell (p := ⟨b, o, none⟩) hbo⟩
theorem bothS1 {P : Program} {f : FuncId} {args : Array Value} {W0 w1 : World} {v : Value} (h : Calls P f args w1 fun e w' => e = .returned v ∧ Below w1.heap.size w1 w')
    (h1 : Below W0.heap.size W0 w1 ∧ ∀ b o, b < W0.heap.size → w1.cell? ⟨b, o, none⟩ = W0.cell? ⟨b, o, none⟩) :
    Calls P f args w1 fun e w' => e = .returned v ∧ (Below W0.heap.size W0 w' ∧ ∀ b o, b < W0.heap.size → w'.cell? ⟨b, o, none⟩ = W0.cell? ⟨b, o, none⟩) ∧
      (∀ b o, b < w1.heap.size → w'.cell? ⟨b, o, none⟩ = w1.cell? ⟨b, o, none⟩) ∧ (∀ b o, b < w1.heap.size → w'.frozen? ⟨b, o, none⟩ = w1.frozen? ⟨b, o, none⟩) ∧ w1.heap.size ≤ w'.heap.size :=
  h.mono fun e w' ⟨he, hb⟩ => ⟨he, bothS_step h1 (hb.mono h1.1.size), fun b o hbo => hb.cell (p := ⟨b, o, none⟩) hbo, fun b o hbo => hb.frozen (p := ⟨b, o, none⟩) hbo, hb.size⟩

/-- How much of everything there can be with an addition. -/
theorem pot_fair {s : Shop} (ho : s.ok = true) {ns : List Int} (ha : s.isAdd ns = true) :
    Fair (s.tl + tot Pig.t s.pigs ns) ∧ Fair (s.th + tot Pig.t s.pigs ns) ∧ Fair (s.al + tot Pig.a s.pigs ns) ∧ Fair (s.ah + tot Pig.a s.pigs ns) := by
  obtain ⟨hl, hfew⟩ := Shop.isAdd_len ha
  have hb := Shop.ok_bd ho
  have h1 := tot_all Pig.t bd_tin s.pigs ns (s.few ns ho hfew) rfl hl
  have h2 := tot_all Pig.a bd_antimony s.pigs ns (s.few ns ho hfew) rfl hl
  unfold Fair
  omega

theorem ints6 (w : World) (v0 v1 v2 v3 v4 v5 : Int) (b : Nat) (hb : b = w.heap.size) : IntsAt (w.alloc (.cells #[.int .i64 v0, .int .i64 v1, .int .i64 v2, .int .i64 v3, .int .i64 v4, .int .i64 v5] 3)) (some ⟨b, 0, none⟩) 6 [v0, v1, v2, v3, v4, v5] := by
  subst hb
  refine ⟨rfl, by decide, fun _ => ⟨w.heap.size, 0, rfl, by simp, fun i hi => ?_⟩⟩
  rw [Nat.zero_add, World.cell?_alloc_new]
  have : i = 0 ∨ i = 1 ∨ i = 2 ∨ i = 3 ∨ i = 4 ∨ i = 5 := by simp at hi; omega
  rcases this with rfl | rfl | rfl | rfl | rfl | rfl <;> rfl

set_option maxRecDepth 100000 in
set_option maxHeartbeats 1000000 in
theorem lead_no1 (s : Shop) (a : Option Addr) (len cap : Nat) (x : Option Addr) (xlen xcap : Nat) (ns : List Int) (pounds : Int) (w : World) (hp : PigsAt w a len s.pigs) (hx : IntsAt w x xlen ns) (hr : s.ok = false) (h1 : false = true → s.isAdd ns = true) :
    Calls Try.prog 11 #[.agg #[.int .i64 s.P, .int .i64 s.tl, .int .i64 s.th, .int .i64 s.al, .int .i64 s.ah, .int .i64 s.room, .int .i64 s.xl, .int .i64 s.xh, .int .i64 s.yl, .int .i64 s.yh, .slice a len cap], .slice x xlen xcap, .int .i64 pounds] w fun e w' => e = .returned (.bool true) ∧ Below w.heap.size w w' := by
  have HR := Lib.hid (fun w1 (hb : Below w.heap.size w w1) => ready_is s a len cap false hr w1 (hp.below hb))
  have H1 := Lib.hid (fun (h : false = true) w1 (hb : Below w.heap.size w w1) => (h1 h) ▸ isAddition_law s a len cap x xlen xcap ns w1 (hp.below hb) (hx.below hb) (hr.trans h))
  have HW := Lib.hid (fun w1 => works_any w1)
  clear hp hr h1 hx
  go_enter Try.func11, Try.ntmps11
  go_wp2_with fail
  refine (HR.out _ (by repeat (first | exact Below.refl _ _ | (refine Below.alloc ?_ (by first | omega | (simp; omega) | simp) _) | (refine Below.setCell ?_ (by first | omega | (simp; omega) | simp) _) | refine Below.drew ?_))).mono ?_; rintro e w1 ⟨rfl, hb1⟩; obtain ⟨hc1, hf1⟩ := bcell hb1; have hz1 := hb1.size; (try simp at hz1); have hw1 := ((by repeat (first | assumption | exact Below.refl _ _ | (refine Below.alloc ?_ (by first | omega | (simp; omega) | simp) _) | (refine Below.setCell ?_ (by first | omega | (simp; omega) | simp) _) | refine Below.drew ?_)) : Below w.heap.size w _).trans (hb1.mono (by first | (simp; done) | (simp; omega) | omega)); clear hb1; have p1 : w.heap.size < w1.heap.size := (by omega); go_wp2_with fail
  first
    | refine (HW.out _).mono ?_; rintro e w2 ⟨rfl, hb2⟩; obtain ⟨hc2, hf2⟩ := bcell hb2; have hz2 := hb2.size; (try simp at hz2); have hw2 := ((by repeat (first | assumption | exact Below.refl _ _ | (refine Below.alloc ?_ (by first | omega | (simp; omega) | simp) _) | (refine Below.setCell ?_ (by first | omega | (simp; omega) | simp) _) | refine Below.drew ?_)) : Below w.heap.size w _).trans (hb2.mono (by first | (simp; done) | (simp; omega) | omega)); clear hb2; have p2 : w.heap.size < w2.heap.size := (by omega); go_wp2_with fail
    | (refine (H1.out (by trivial) _ hw1).mono ?_; rintro e w3 ⟨rfl, hb3⟩; obtain ⟨hc3, hf3⟩ := bcell hb3; have hz3 := hb3.size; (try simp at hz3); have hw3 := ((by repeat (first | assumption | exact Below.refl _ _ | (refine Below.alloc ?_ (by first | omega | (simp; omega) | simp) _) | (refine Below.setCell ?_ (by first | omega | (simp; omega) | simp) _) | refine Below.drew ?_)) : Below w.heap.size w _).trans (hb3.mono (by first | (simp; done) | (simp; omega) | omega)); clear hb3; have p3 : w.heap.size < w3.heap.size := (by omega); go_wp2_with fail
       refine (HW.out _).mono ?_; rintro e w4 ⟨rfl, hb4⟩; obtain ⟨hc4, hf4⟩ := bcell hb4; have hz4 := hb4.size; (try simp at hz4); have hw4 := ((by repeat (first | assumption | exact Below.refl _ _ | (refine Below.alloc ?_ (by first | omega | (simp; omega) | simp) _) | (refine Below.setCell ?_ (by first | omega | (simp; omega) | simp) _) | refine Below.drew ?_)) : Below w.heap.size w _).trans (hb4.mono (by first | (simp; done) | (simp; omega) | omega)); clear hb4; have p4 : w.heap.size < w4.heap.size := (by omega); go_wp2_with fail)
  go_ret
  exact ⟨rfl, (by repeat (first | assumption | exact Below.refl _ _ | (refine Below.alloc ?_ (by first | omega | (simp; omega) | simp) _) | (refine Below.setCell ?_ (by first | omega | (simp; omega) | simp) _) | refine Below.drew ?_))⟩
set_option maxRecDepth 100000 in
set_option maxHeartbeats 1000000 in
theorem lead_no2 (s : Shop) (a : Option Addr) (len cap : Nat) (x : Option Addr) (xlen xcap : Nat) (ns : List Int) (pounds : Int) (w : World) (hp : PigsAt w a len s.pigs) (hx : IntsAt w x xlen ns) (hr : s.ok = true) (h1 : true = true → s.isAdd ns = false) :
    Calls Try.prog 11 #[.agg #[.int .i64 s.P, .int .i64 s.tl, .int .i64 s.th, .int .i64 s.al, .int .i64 s.ah, .int .i64 s.room, .int .i64 s.xl, .int .i64 s.xh, .int .i64 s.yl, .int .i64 s.yh, .slice a len cap], .slice x xlen xcap, .int .i64 pounds] w fun e w' => e = .returned (.bool true) ∧ Below w.heap.size w w' := by
  have HR := Lib.hid (fun w1 (hb : Below w.heap.size w w1) => ready_is s a len cap true hr w1 (hp.below hb))
  have H1 := Lib.hid (fun (h : true = true) w1 (hb : Below w.heap.size w w1) => (h1 h) ▸ isAddition_law s a len cap x xlen xcap ns w1 (hp.below hb) (hx.below hb) (hr.trans h))
  have HW := Lib.hid (fun w1 => works_any w1)
  clear hp hr h1 hx
  go_enter Try.func11, Try.ntmps11
  go_wp2_with fail
  refine (HR.out _ (by repeat (first | exact Below.refl _ _ | (refine Below.alloc ?_ (by first | omega | (simp; omega) | simp) _) | (refine Below.setCell ?_ (by first | omega | (simp; omega) | simp) _) | refine Below.drew ?_))).mono ?_; rintro e w1 ⟨rfl, hb1⟩; obtain ⟨hc1, hf1⟩ := bcell hb1; have hz1 := hb1.size; (try simp at hz1); have hw1 := ((by repeat (first | assumption | exact Below.refl _ _ | (refine Below.alloc ?_ (by first | omega | (simp; omega) | simp) _) | (refine Below.setCell ?_ (by first | omega | (simp; omega) | simp) _) | refine Below.drew ?_)) : Below w.heap.size w _).trans (hb1.mono (by first | (simp; done) | (simp; omega) | omega)); clear hb1; have p1 : w.heap.size < w1.heap.size := (by omega); go_wp2_with fail
  first
    | refine (HW.out _).mono ?_; rintro e w2 ⟨rfl, hb2⟩; obtain ⟨hc2, hf2⟩ := bcell hb2; have hz2 := hb2.size; (try simp at hz2); have hw2 := ((by repeat (first | assumption | exact Below.refl _ _ | (refine Below.alloc ?_ (by first | omega | (simp; omega) | simp) _) | (refine Below.setCell ?_ (by first | omega | (simp; omega) | simp) _) | refine Below.drew ?_)) : Below w.heap.size w _).trans (hb2.mono (by first | (simp; done) | (simp; omega) | omega)); clear hb2; have p2 : w.heap.size < w2.heap.size := (by omega); go_wp2_with fail
    | (refine (H1.out (by trivial) _ hw1).mono ?_; rintro e w3 ⟨rfl, hb3⟩; obtain ⟨hc3, hf3⟩ := bcell hb3; have hz3 := hb3.size; (try simp at hz3); have hw3 := ((by repeat (first | assumption | exact Below.refl _ _ | (refine Below.alloc ?_ (by first | omega | (simp; omega) | simp) _) | (refine Below.setCell ?_ (by first | omega | (simp; omega) | simp) _) | refine Below.drew ?_)) : Below w.heap.size w _).trans (hb3.mono (by first | (simp; done) | (simp; omega) | omega)); clear hb3; have p3 : w.heap.size < w3.heap.size := (by omega); go_wp2_with fail
       refine (HW.out _).mono ?_; rintro e w4 ⟨rfl, hb4⟩; obtain ⟨hc4, hf4⟩ := bcell hb4; have hz4 := hb4.size; (try simp at hz4); have hw4 := ((by repeat (first | assumption | exact Below.refl _ _ | (refine Below.alloc ?_ (by first | omega | (simp; omega) | simp) _) | (refine Below.setCell ?_ (by first | omega | (simp; omega) | simp) _) | refine Below.drew ?_)) : Below w.heap.size w _).trans (hb4.mono (by first | (simp; done) | (simp; omega) | omega)); clear hb4; have p4 : w.heap.size < w4.heap.size := (by omega); go_wp2_with fail)
  go_ret
  exact ⟨rfl, (by repeat (first | assumption | exact Below.refl _ _ | (refine Below.alloc ?_ (by first | omega | (simp; omega) | simp) _) | (refine Below.setCell ?_ (by first | omega | (simp; omega) | simp) _) | refine Below.drew ?_))⟩

set_option maxRecDepth 100000 in
set_option maxHeartbeats 16000000 in
theorem lead_some (s : Shop) (a : Option Addr) (len cap : Nat) (x : Option Addr) (xlen xcap : Nat) (ns : List Int) (pounds : Int) (w : World) (hp : PigsAt w a len s.pigs) (hx : IntsAt w x xlen ns) (hr : s.ok = true) (hn : s.isAdd ns = true) (lo hi : Int) (hres : s.leadsOf ns = (lo, hi, true)) (hpo : True) :
    Calls Try.prog 11 #[.agg #[.int .i64 s.P, .int .i64 s.tl, .int .i64 s.th, .int .i64 s.al, .int .i64 s.ah, .int .i64 s.room, .int .i64 s.xl, .int .i64 s.xh, .int .i64 s.yl, .int .i64 s.yh, .slice a len cap], .slice x xlen xcap, .int .i64 pounds] w fun e w' => e = .returned (.bool true) ∧ Below w.heap.size w w' := by
  have HR := Lib.hid (fun w1 (hb : Below w.heap.size w w1) => ready_is s a len cap true hr w1 (hp.below hb))
  have H1 := Lib.hid (fun w1 (hb : Below w.heap.size w w1) => hn ▸ isAddition_law s a len cap x xlen xcap ns w1 (hp.below hb) (hx.below hb) hr)
  have HW := Lib.hid (fun w1 => works_any w1)
  have hxl : xlen ≤ 1000 := by have h := Shop.isAdd_len hn; have := hx.1; have := hp.1; have := Shop.ok_bd hr; omega
  have hcode : s.code ns = 0 := by simp [Shop.code, hr, hn]
  have HD := fun x xcap w1 (hb : Below w.heap.size w w1) (hx : IntsAt w1 x xlen ns) => Lead_yes s a len cap x xlen xcap ns w1 (hp.below hb) hx hcode lo hi true hres
  simp only [if_true, Bool.false_eq_true, if_false] at HD
  replace HD := Lib.hid HD
  obtain ⟨hl, hfew⟩ := Shop.isAdd_len hn
  obtain rfl : len = xlen := by rw [← hp.1, ← hx.1, hl]
  have HA := fun w1 (hb : Below w.heap.size w w1) => refAfterOf_any s a len cap x xcap ns w1 (hp.below hb) (hx.below hb) hr hfew
  unfold potCells at HA
  replace HA := Lib.hid HA
  have HX := Lib.hid (fun w1 (hb : Below w.heap.size w w1) => hx.below hb)
  have hlk := lead_ok hr hn hres
  obtain ⟨hP0, hP1⟩ := Shop.tot_P hr hn
  have hroom := Shop.isAdd_room hn
  have hrr := (Shop.ok_bd hr).2.2.2.2.1.2
  obtain ⟨f1, f2, f3, f4⟩ := pot_fair hr hn
  have HIS := Lib.hid (fun P b h w1 (hP : 0 ≤ P ∧ P ≤ 2000) => IsSafe_is s a len cap P (s.tl + tot Pig.t s.pigs ns) (s.th + tot Pig.t s.pigs ns) (s.al + tot Pig.a s.pigs ns) (s.ah + tot Pig.a s.pigs ns) b h w1 hP (Shop.lims hr) f1 f2 f3 f4)
  obtain ⟨hk1, hk2, hk3, hk4⟩ := hlk
  have HAL := Lib.hid hk4
  first | (simp only [forall_const] at hk1 hk2 hk3) | clear hk1 hk2 hk3
  clear hp hr hx hn hcode hl hfew hres f1 f2 f3 f4 hk4
  generalize s.P + tot Pig.P s.pigs ns = n1 at *
  generalize s.tl + tot Pig.t s.pigs ns = n2 at *
  generalize s.th + tot Pig.t s.pigs ns = n3 at *
  generalize s.al + tot Pig.a s.pigs ns = n4 at *
  generalize s.ah + tot Pig.a s.pigs ns = n5 at *
  go_enter Try.func11, Try.ntmps11
  go_wp2_with fail
  refine (HR.out _ (by repeat (first | exact Below.refl _ _ | (refine Below.alloc ?_ (by first | omega | (simp; omega) | simp) _) | (refine Below.setCell ?_ (by first | omega | (simp; omega) | simp) _) | refine Below.drew ?_))).mono ?_
  rintro e w0 ⟨rfl, hb0⟩
  obtain ⟨hc0, hf0⟩ := bcell hb0
  have hz0 := hb0.size
  simp at hz0
  have hw0 := ((by repeat (first | exact Below.refl _ _ | (refine Below.alloc ?_ (by first | omega | (simp; omega) | simp) _) | (refine Below.setCell ?_ (by first | omega | (simp; omega) | simp) _) | refine Below.drew ?_)) : Below w.heap.size w _).trans (hb0.mono (by simp))
  clear hb0
  have p0 : w.heap.size < w0.heap.size := by omega
  go_wp2_with fail
  refine (H1.out _ hw0).mono ?_
  rintro e w1 ⟨rfl, hb1⟩
  obtain ⟨hc1, hf1⟩ := bcell hb1
  have hz1 := hb1.size
  have hw1 := hw0.trans (hb1.mono hw0.size)
  have p1 : w.heap.size < w1.heap.size := by omega
  have hbox : ∀ i, w1.cell? ⟨w.heap.size, i, none⟩ = (#[.int .i64 s.P, .int .i64 s.tl, .int .i64 s.th, .int .i64 s.al, .int .i64 s.ah, .int .i64 s.room, .int .i64 s.xl, .int .i64 s.xh, .int .i64 s.yl, .int .i64 s.yh, .slice a len cap] : Array Value)[i]? := fun i => (hc1 _ _ p0).trans ((hc0 _ _ (by simp)).trans (World.cell?_alloc_new w _ _ i))
  clear hb1
  have HBX := Lib.hid hbox
  obtain ⟨x0, x1, x2, x3, x4, x5, x6, x7, x8, x9, x10⟩ : w1.cell? ⟨w.heap.size, 0, none⟩ = some (.int .i64 s.P) ∧ w1.cell? ⟨w.heap.size, 1, none⟩ = some (.int .i64 s.tl) ∧ w1.cell? ⟨w.heap.size, 2, none⟩ = some (.int .i64 s.th) ∧ w1.cell? ⟨w.heap.size, 3, none⟩ = some (.int .i64 s.al) ∧ w1.cell? ⟨w.heap.size, 4, none⟩ = some (.int .i64 s.ah) ∧ w1.cell? ⟨w.heap.size, 5, none⟩ = some (.int .i64 s.room) ∧ w1.cell? ⟨w.heap.size, 6, none⟩ = some (.int .i64 s.xl) ∧ w1.cell? ⟨w.heap.size, 7, none⟩ = some (.int .i64 s.xh) ∧ w1.cell? ⟨w.heap.size, 8, none⟩ = some (.int .i64 s.yl) ∧ w1.cell? ⟨w.heap.size, 9, none⟩ = some (.int .i64 s.yh) ∧ w1.cell? ⟨w.heap.size, 10, none⟩ = some (.slice a len cap) := ⟨hbox 0, hbox 1, hbox 2, hbox 3, hbox 4, hbox 5, hbox 6, hbox 7, hbox 8, hbox 9, hbox 10⟩
  clear hbox hc0 hf0 hc1 hf1
  have HX1 := Lib.hid (fun W (hb : Below w1.heap.size w1 W) => HX.out W (hw1.trans (hb.mono hw1.size)))
  have HD1 := Lib.hid (fun x' xc' W (hb : Below w1.heap.size w1 W ∧ ∀ b o, b < w1.heap.size → W.cell? ⟨b, o, none⟩ = w1.cell? ⟨b, o, none⟩) (hx' : IntsAt W x' len ns) => bothS1 (W0 := w1) (HD.out x' xc' W (hw1.trans (hb.1.mono hw1.size)) hx') hb)
  go_upto_region 3 with fail
  go_cut [7, 8] (fun v7 v8 wx => ∃ g : Nat, v7 = .pointer (some ⟨g, 0, none⟩) ∧ v8 = .int .i64 0 ∧ wx.cell? ⟨g, 0, none⟩ = some (.int .i64 lo) ∧ wx.cell? ⟨g, 1, none⟩ = some (.int .i64 hi) ∧ wx.frozen? ⟨g, 0, none⟩ = false ∧ wx.frozen? ⟨g, 1, none⟩ = false ∧ w1.heap.size ≤ g ∧ g < wx.heap.size ∧ Below w1.heap.size w1 wx)
  case first =>
    go_region_held3 (fun w' => Below w1.heap.size w1 w' ∧ ∀ b o, b < w1.heap.size → w'.cell? ⟨b, o, none⟩ = w1.cell? ⟨b, o, none⟩) (first | with_reducible assumption | ((repeat (first | with_reducible refine bothS_drew ?_ | with_reducible refine bothS_alloc _ ?_ | with_reducible refine bothS_set _ _ (by first | omega | (simp; omega) | simp) ?_)); first | with_reducible assumption | with_reducible exact Hid.out (by assumption) | with_reducible exact ⟨Below.refl _ _, fun _ _ _ => rfl⟩))
      (first
        | ((with_reducible refine step_append_far _ w1.heap.size (w1.heap.size) len xcap x ns rfl _ _ rfl ?_ ?_ ?_ ?_ hxl ?_ ?_ ?_); (· rfl); (· rfl); (· first | exact (made_row (by simp) (by simp)).drew | exact ((made_row (by simp) (by simp)).alloc _).drew | exact made_row (by simp) (by simp) | exact (made_row (by simp) (by simp)).alloc _); (· exact HX1.out _ (And.left (by assumption))); (· first | exact Nat.le_refl _ | omega | (simp; done) | (simp; omega)); (· first | (simp; done) | (simp; omega) | omega); intro gA cA wA hxA hbA hcA hfA hsA; have kA := bothS_step (by assumption) hbA; have HXA := Lib.hid hxA; (try simp at hsA); have sA1 : w1.heap.size < wA.heap.size := (by omega); (try have sA2 : w1.heap.size + 1 < wA.heap.size := (by omega)); clear hxA hbA)
        | ((with_reducible refine step_append_far _ w1.heap.size (w1.heap.size + 1) len xcap x ns rfl _ _ rfl ?_ ?_ ?_ ?_ hxl ?_ ?_ ?_); (· rfl); (· rfl); (· first | exact (made_row (by simp) (by simp)).drew | exact ((made_row (by simp) (by simp)).alloc _).drew | exact made_row (by simp) (by simp) | exact (made_row (by simp) (by simp)).alloc _); (· exact HX1.out _ (And.left (by assumption))); (· first | exact Nat.le_refl _ | omega | (simp; done) | (simp; omega)); (· first | (simp; done) | (simp; omega) | omega); intro gA cA wA hxA hbA hcA hfA hsA; have kA := bothS_step (by assumption) hbA; have HXA := Lib.hid hxA; (try simp at hsA); have sA1 : w1.heap.size < wA.heap.size := (by omega); (try have sA2 : w1.heap.size + 1 < wA.heap.size := (by omega)); clear hxA hbA)
        | (go_at_call 26; (with_reducible refine (HD1.out _ _ _ ?_ ?_).mono ?_); (· with_reducible assumption); (· first | exact HXA.out | exact HXA.out.below (by repeat (first | exact Below.refl _ _ | (refine Below.alloc ?_ (by first | omega | (simp; omega) | simp) _) | (refine Below.setCell ?_ (by first | omega | (simp; omega) | simp) _) | refine Below.drew ?_))); rintro e w' ⟨rfl, k, k1, k2, k3⟩; have HK := Lib.hid k; (try simp at k3); have sB1 : w1.heap.size < w'.heap.size := (by omega); (try have sB2 : w1.heap.size + 1 < w'.heap.size := (by omega))))
    all_goals (go_wp2_with fail; go_meet; exact ⟨_, rfl, rfl, (by first | (go_simp; done) | (go_simp; exact set_same (u := .int .i64 0) (by go_simp; done)) | exact set_same (u := .int .i64 0) (by go_simp; done) | (go_simp; exact set_same (u := .slice none 0 0) (by go_simp; done)) | exact set_same (u := .slice none 0 0) (by go_simp; done)), (by first | (go_simp; done) | (go_simp; exact set_same (u := .int .i64 0) (by go_simp; done)) | exact set_same (u := .int .i64 0) (by go_simp; done) | (go_simp; exact set_same (u := .slice none 0 0) (by go_simp; done)) | exact set_same (u := .slice none 0 0) (by go_simp; done)), by go_simp, by go_simp, (by first | with_reducible assumption | (simp; done) | (simp; omega) | omega), (by first | with_reducible assumption | (simp; done) | (simp; omega) | omega), And.left (by assumption)⟩)
  case rest =>
    obtain ⟨g, rfl, rfl, g0, g1, z0, z1, hg1, hg2, hB⟩ := hcut
    obtain ⟨wo, rfl⟩ : ∃ wo : World, wo = wc := ⟨_, rfl⟩
    obtain ⟨hcc, hfc⟩ := bcell hB
    have hzc := hB.size
    have hwc := hw1.trans (hB.mono hw1.size)
    have pc : w.heap.size < wo.heap.size := by omega
    have hgw : w.heap.size < g := by omega
    have hgn : g ≠ w.heap.size := by omega
    go_wp2_with fail
    refine (HA.out _ hwc).mono ?_
    rintro e w3 ⟨rfl, hb3⟩
    obtain ⟨hc3, hf3⟩ := bcell hb3
    have hz3 := hb3.size
    have hB3 := hB.trans (hb3.mono hzc)
    have p3 : w.heap.size < w3.heap.size := by omega
    have q3 : g < w3.heap.size := by omega
    have r3 : g ≠ w3.heap.size := by omega
    clear hb3
    go_upto_region 10 with fail
    go_cut [11] (fun v11 wx => ∃ (ga : Nat) (ts : List Int), v11 = .slice (some ⟨ga, 0, none⟩) 6 6 ∧ ts.length = 6 ∧ IntsAt wx (some ⟨ga, 0, none⟩) 6 ts ∧ Below w1.heap.size w1 wx ∧ wx.cell? ⟨g, 0, none⟩ = some (.int .i64 lo) ∧ wx.cell? ⟨g, 1, none⟩ = some (.int .i64 hi) ∧ wx.cell? ⟨w3.heap.size, 0, none⟩ = some (.int .i64 n1) ∧ wx.cell? ⟨w3.heap.size, 1, none⟩ = some (.int .i64 n2) ∧ wx.cell? ⟨w3.heap.size, 2, none⟩ = some (.int .i64 n3) ∧ wx.cell? ⟨w3.heap.size, 3, none⟩ = some (.int .i64 n4) ∧ wx.cell? ⟨w3.heap.size, 4, none⟩ = some (.int .i64 n5) ∧ w3.heap.size < wx.heap.size)
    case first =>
      go_wp2_with fail
      go_meet
      refine ⟨_, [_, _, _, _, _, _], rfl, rfl, ints6 _ _ _ _ _ _ _ _ (by simp), ?_, by go_simp, by go_simp, by go_simp, by go_simp, by go_simp, by go_simp, by go_simp, by simp; omega⟩
      repeat (first | exact hB3 | (refine Below.alloc ?_ (by first | (simp; done) | (simp; omega) | omega) _) | (refine Below.setCell ?_ (by first | (simp; done) | (simp; omega) | omega) _))
    case rest =>
      obtain ⟨ga, ts, rfl, hts, hit, hBx, u0, u1, v0, v1, v2, v3, v4, hgx⟩ := hcut
      obtain ⟨wp, rfl⟩ : ∃ wp : World, wp = wc := ⟨_, rfl⟩
      clear g0 g1 z0 z1 hc3 hf3 hcc hfc
      have hzp := hBx.size
      have HT := Lib.hid hit
      have HBp := Lib.hid hBx
      have hwp := hw1.trans (hBx.mono hw1.size)
      have gx : g < wp.heap.size := by omega
      clear hit hBx
      go_wp2_with fail
      go_loopw [12] (fun i wr => ∃ k : Nat, k ≤ 6 ∧ i = .int .i64 k ∧ Below wp.heap.size wp wr) (fun i _ => 6 - (intOf i).toNat)
      case atStart => exact ⟨0, Nat.zero_le _, rfl, Below.refl _ _⟩
      case round =>
        obtain ⟨j, hk, rfl, hBr⟩ := hrel
        have hzr := hBr.size
        by_cases hlt : j < 6
        · obtain ⟨hl1, hl2, hl3⟩ := HT.out
          obtain ⟨lb, lo', hle, hlb, hlc⟩ := hl3 (by omega)
          cases hle
          have cl := (hBr.cell (p := ⟨ga, 0 + j, none⟩) hlb).trans (hlc j (by omega))
          rw [Nat.zero_add] at cl
          generalize ts[j]'(by omega) = n at cl
          clear hl1 hl2 hl3 hlb hlc
          have hkl : (j : Int) < 6 := by omega
          obtain ⟨s0, s1⟩ : wr.cell? ⟨g, 0, none⟩ = some (.int .i64 lo) ∧ wr.cell? ⟨g, 1, none⟩ = some (.int .i64 hi) := ⟨(hBr.cell (p := ⟨g, 0, none⟩) gx).trans u0, (hBr.cell (p := ⟨g, 1, none⟩) gx).trans u1⟩
          obtain ⟨m0, m1, m2, m3, m4⟩ : wr.cell? ⟨w3.heap.size, 0, none⟩ = some (.int .i64 n1) ∧ wr.cell? ⟨w3.heap.size, 1, none⟩ = some (.int .i64 n2) ∧ wr.cell? ⟨w3.heap.size, 2, none⟩ = some (.int .i64 n3) ∧ wr.cell? ⟨w3.heap.size, 3, none⟩ = some (.int .i64 n4) ∧ wr.cell? ⟨w3.heap.size, 4, none⟩ = some (.int .i64 n5) :=
            ⟨(hBr.cell (p := ⟨w3.heap.size, 0, none⟩) hgx).trans v0, (hBr.cell (p := ⟨w3.heap.size, 1, none⟩) hgx).trans v1, (hBr.cell (p := ⟨w3.heap.size, 2, none⟩) hgx).trans v2, (hBr.cell (p := ⟨w3.heap.size, 3, none⟩) hgx).trans v3, (hBr.cell (p := ⟨w3.heap.size, 4, none⟩) hgx).trans v4⟩
          by_cases hn : 0 ≤ n ∧ n ≤ s.room - n1
          · have HWi := Lib.hid (fun w2 => Within_is n 0 (s.room - n1) true (by simp [btw]; omega) w2)
            have hal := HAL.out n hn.1 hn.2
            obtain ⟨hn1, hn2⟩ := hn
            go_wp2_with fail
            refine (HWi.out _).mono ?_
            rintro e w4 ⟨rfl, rfl⟩
            go_upto_region 18 with fail
            obtain ⟨W0, hW0⟩ : ∃ W0, wr.alloc (.cells #[.int .i64 (n1 + n), .int .i64 n2, .int .i64 n3, .int .i64 n4, .int .i64 n5] 25) = W0 := ⟨_, rfl⟩
            have hB0 : Below wp.heap.size wp W0 := by rw [← hW0]; exact hBr.alloc hzr _
            have hz0 : wr.heap.size < W0.heap.size := by rw [← hW0]; simp
            have hnew : ∀ i, W0.cell? ⟨wr.heap.size, i, none⟩ = (#[.int .i64 (n1 + n), .int .i64 n2, .int .i64 n3, .int .i64 n4, .int .i64 n5] : Array Value)[i]? := fun i => by rw [← hW0]; exact World.cell?_alloc_new wr _ _ i
            have hold : ∀ b o, b < wr.heap.size → W0.cell? ⟨b, o, none⟩ = wr.cell? ⟨b, o, none⟩ := fun b o h => by rw [← hW0]; exact ((Below.refl wr.heap.size wr).alloc (Nat.le_refl _) _).cell (p := ⟨b, o, none⟩) h
            rw [hW0]
            clear hW0
            obtain ⟨r0, r1, r2, r3, r4⟩ : W0.cell? ⟨wr.heap.size, 0, none⟩ = some (.int .i64 (n1 + n)) ∧ W0.cell? ⟨wr.heap.size, 1, none⟩ = some (.int .i64 n2) ∧ W0.cell? ⟨wr.heap.size, 2, none⟩ = some (.int .i64 n3) ∧ W0.cell? ⟨wr.heap.size, 3, none⟩ = some (.int .i64 n4) ∧ W0.cell? ⟨wr.heap.size, 4, none⟩ = some (.int .i64 n5) := ⟨hnew 0, hnew 1, hnew 2, hnew 3, hnew 4⟩
            have d0 : W0.cell? ⟨g, 0, none⟩ = some (.int .i64 lo) := (hold g 0 (by omega)).trans s0
            have d1 : W0.cell? ⟨g, 1, none⟩ = some (.int .i64 hi) := (hold g 1 (by omega)).trans s1
            have hBW := HBp.out.trans (hB0.mono hzp)
            have hbb := fun i => (hBW.cell (p := ⟨w.heap.size, i, none⟩) p1).trans (HBX.out i)
            obtain ⟨X0, X1, X2, X3, X4, X5, X6, X7, X8, X9, X10⟩ : W0.cell? ⟨w.heap.size, 0, none⟩ = some (.int .i64 s.P) ∧ W0.cell? ⟨w.heap.size, 1, none⟩ = some (.int .i64 s.tl) ∧ W0.cell? ⟨w.heap.size, 2, none⟩ = some (.int .i64 s.th) ∧ W0.cell? ⟨w.heap.size, 3, none⟩ = some (.int .i64 s.al) ∧ W0.cell? ⟨w.heap.size, 4, none⟩ = some (.int .i64 s.ah) ∧ W0.cell? ⟨w.heap.size, 5, none⟩ = some (.int .i64 s.room) ∧ W0.cell? ⟨w.heap.size, 6, none⟩ = some (.int .i64 s.xl) ∧ W0.cell? ⟨w.heap.size, 7, none⟩ = some (.int .i64 s.xh) ∧ W0.cell? ⟨w.heap.size, 8, none⟩ = some (.int .i64 s.yl) ∧ W0.cell? ⟨w.heap.size, 9, none⟩ = some (.int .i64 s.yh) ∧ W0.cell? ⟨w.heap.size, 10, none⟩ = some (.slice a len cap) := ⟨hbb 0, hbb 1, hbb 2, hbb 3, hbb 4, hbb 5, hbb 6, hbb 7, hbb 8, hbb 9, hbb 10⟩
            have gx0 : g < W0.heap.size := by omega
            have wx0 : w.heap.size < W0.heap.size := by omega
            obtain ⟨b, hb1, hb2⟩ : ∃ b, isSafeR s (n1 + n) n2 n3 n4 n5 = b ∧ btw n lo hi = b := ⟨_, rfl, by rw [hal]; simp⟩
            have HI := Lib.hid (bothS (W0 := W0) (Below.refl _ _) (fun w2 _ => HIS.out (n1 + n) b hb1 w2 ⟨by omega, by omega⟩))
            have HV := Lib.hid (bothS (W0 := W0) (Below.refl _ _) (fun w2 _ => within_below n lo hi b hb2 w2))
            have hBZ := Lib.hid hB0
            clear hal hb1 hb2 hbb hBW hnew hold s0 s1 m0 m1 m2 m3 m4 x0 x1 x2 x3 x4 x5 x6 x7 x8 x9 x10 u0 u1 v0 v1 v2 v3 v4 hBr cl hB0
            go_region_held3 (fun w' => Below W0.heap.size W0 w' ∧ ∀ b o, b < W0.heap.size → w'.cell? ⟨b, o, none⟩ = W0.cell? ⟨b, o, none⟩) (first | with_reducible assumption | ((repeat (first | with_reducible refine bothS_drew ?_ | with_reducible refine bothS_alloc _ ?_ | with_reducible refine bothS_set _ _ (by first | omega | (simp; omega) | simp) ?_)); first | with_reducible assumption | with_reducible exact Hid.out (by assumption) | with_reducible exact ⟨Below.refl _ _, fun _ _ _ => rfl⟩))
              (first | (go_at_call 64; with_reducible refine (HI.out _ ?_).mono ?_; (first | with_reducible assumption | ((repeat (first | with_reducible refine bothS_drew ?_ | with_reducible refine bothS_alloc _ ?_ | with_reducible refine bothS_set _ _ (by first | omega | (simp; omega) | simp) ?_)); first | with_reducible assumption | with_reducible exact Hid.out (by assumption) | with_reducible exact ⟨Below.refl _ _, fun _ _ _ => rfl⟩)); rintro e w' ⟨rfl, k, k1, k2, k3⟩; have HK := Lib.hid k; (try simp at k3); (try have k6 := Nat.lt_of_succ_le k3); (try have k7 := Nat.lt_of_succ_lt k6); (try have k8 := Nat.lt_of_succ_lt k3)) | (go_at_call 53; with_reducible refine (HV.out _ ?_).mono ?_; (first | with_reducible assumption | ((repeat (first | with_reducible refine bothS_drew ?_ | with_reducible refine bothS_alloc _ ?_ | with_reducible refine bothS_set _ _ (by first | omega | (simp; omega) | simp) ?_)); first | with_reducible assumption | with_reducible exact Hid.out (by assumption) | with_reducible exact ⟨Below.refl _ _, fun _ _ _ => rfl⟩)); rintro e w' ⟨rfl, k, k1, k2, k3⟩; have HK := Lib.hid k; (try simp at k3); (try have k6 := Nat.lt_of_succ_le k3); (try have k7 := Nat.lt_of_succ_lt k6); (try have k8 := Nat.lt_of_succ_lt k3)))
            all_goals (
              go_wp2_with fail
              go_roundw
              case rel => exact ⟨j + 1, by omega, by go_num, hBZ.out.trans (Below.mono (And.left (by assumption)) hBZ.out.size)⟩
              case measure => simp [intOf]; omega)
          · have HWi := Lib.hid (fun w2 => Within_is n 0 (s.room - n1) false (by simp [btw]; omega) w2)
            go_wp2_with fail
            refine (HWi.out _).mono ?_
            rintro e w4 ⟨rfl, rfl⟩
            go_wp2_with fail
            go_roundw
            case rel => exact ⟨j + 1, by omega, by go_num, hBr⟩
            case measure => simp [intOf]; omega
        · have hkl : ¬ (j : Int) < 6 := by omega
          have hwr := hwp.trans (hBr.mono hwp.size)
          go_wp2_with fail
          refine (HW.out _).mono ?_
          rintro e w5 ⟨rfl, hb5⟩
          have hw5 := hwr.trans (hb5.mono hwr.size)
          clear hb5
          go_wp2_with fail
          go_ret
          exact ⟨rfl, hw5⟩
set_option maxRecDepth 100000 in
set_option maxHeartbeats 16000000 in
theorem lead_none (s : Shop) (a : Option Addr) (len cap : Nat) (x : Option Addr) (xlen xcap : Nat) (ns : List Int) (pounds : Int) (w : World) (hp : PigsAt w a len s.pigs) (hx : IntsAt w x xlen ns) (hr : s.ok = true) (hn : s.isAdd ns = true) (lo hi : Int) (hres : s.leadsOf ns = (lo, hi, false)) (hpo : True) :
    Calls Try.prog 11 #[.agg #[.int .i64 s.P, .int .i64 s.tl, .int .i64 s.th, .int .i64 s.al, .int .i64 s.ah, .int .i64 s.room, .int .i64 s.xl, .int .i64 s.xh, .int .i64 s.yl, .int .i64 s.yh, .slice a len cap], .slice x xlen xcap, .int .i64 pounds] w fun e w' => e = .returned (.bool true) ∧ Below w.heap.size w w' := by
  have HR := Lib.hid (fun w1 (hb : Below w.heap.size w w1) => ready_is s a len cap true hr w1 (hp.below hb))
  have H1 := Lib.hid (fun w1 (hb : Below w.heap.size w w1) => hn ▸ isAddition_law s a len cap x xlen xcap ns w1 (hp.below hb) (hx.below hb) hr)
  have HW := Lib.hid (fun w1 => works_any w1)
  have hxl : xlen ≤ 1000 := by have h := Shop.isAdd_len hn; have := hx.1; have := hp.1; have := Shop.ok_bd hr; omega
  have hcode : s.code ns = 0 := by simp [Shop.code, hr, hn]
  have HD := fun x xcap w1 (hb : Below w.heap.size w w1) (hx : IntsAt w1 x xlen ns) => Lead_yes s a len cap x xlen xcap ns w1 (hp.below hb) hx hcode lo hi false hres
  simp only [if_true, Bool.false_eq_true, if_false] at HD
  replace HD := Lib.hid HD
  obtain ⟨hl, hfew⟩ := Shop.isAdd_len hn
  obtain rfl : len = xlen := by rw [← hp.1, ← hx.1, hl]
  have HA := fun w1 (hb : Below w.heap.size w w1) => refAfterOf_any s a len cap x xcap ns w1 (hp.below hb) (hx.below hb) hr hfew
  unfold potCells at HA
  replace HA := Lib.hid HA
  have HX := Lib.hid (fun w1 (hb : Below w.heap.size w w1) => hx.below hb)
  have hlk := lead_ok hr hn hres
  obtain ⟨hP0, hP1⟩ := Shop.tot_P hr hn
  have hroom := Shop.isAdd_room hn
  have hrr := (Shop.ok_bd hr).2.2.2.2.1.2
  obtain ⟨f1, f2, f3, f4⟩ := pot_fair hr hn
  have HIS := Lib.hid (fun P b h w1 (hP : 0 ≤ P ∧ P ≤ 2000) => IsSafe_is s a len cap P (s.tl + tot Pig.t s.pigs ns) (s.th + tot Pig.t s.pigs ns) (s.al + tot Pig.a s.pigs ns) (s.ah + tot Pig.a s.pigs ns) b h w1 hP (Shop.lims hr) f1 f2 f3 f4)
  obtain ⟨hk1, hk2, hk3, hk4⟩ := hlk
  have HAL := Lib.hid hk4
  first | (simp only [forall_const] at hk1 hk2 hk3) | clear hk1 hk2 hk3
  clear hp hr hx hn hcode hl hfew hres f1 f2 f3 f4 hk4
  generalize s.P + tot Pig.P s.pigs ns = n1 at *
  generalize s.tl + tot Pig.t s.pigs ns = n2 at *
  generalize s.th + tot Pig.t s.pigs ns = n3 at *
  generalize s.al + tot Pig.a s.pigs ns = n4 at *
  generalize s.ah + tot Pig.a s.pigs ns = n5 at *
  go_enter Try.func11, Try.ntmps11
  go_wp2_with fail
  refine (HR.out _ (by repeat (first | exact Below.refl _ _ | (refine Below.alloc ?_ (by first | omega | (simp; omega) | simp) _) | (refine Below.setCell ?_ (by first | omega | (simp; omega) | simp) _) | refine Below.drew ?_))).mono ?_
  rintro e w0 ⟨rfl, hb0⟩
  obtain ⟨hc0, hf0⟩ := bcell hb0
  have hz0 := hb0.size
  simp at hz0
  have hw0 := ((by repeat (first | exact Below.refl _ _ | (refine Below.alloc ?_ (by first | omega | (simp; omega) | simp) _) | (refine Below.setCell ?_ (by first | omega | (simp; omega) | simp) _) | refine Below.drew ?_)) : Below w.heap.size w _).trans (hb0.mono (by simp))
  clear hb0
  have p0 : w.heap.size < w0.heap.size := by omega
  go_wp2_with fail
  refine (H1.out _ hw0).mono ?_
  rintro e w1 ⟨rfl, hb1⟩
  obtain ⟨hc1, hf1⟩ := bcell hb1
  have hz1 := hb1.size
  have hw1 := hw0.trans (hb1.mono hw0.size)
  have p1 : w.heap.size < w1.heap.size := by omega
  have hbox : ∀ i, w1.cell? ⟨w.heap.size, i, none⟩ = (#[.int .i64 s.P, .int .i64 s.tl, .int .i64 s.th, .int .i64 s.al, .int .i64 s.ah, .int .i64 s.room, .int .i64 s.xl, .int .i64 s.xh, .int .i64 s.yl, .int .i64 s.yh, .slice a len cap] : Array Value)[i]? := fun i => (hc1 _ _ p0).trans ((hc0 _ _ (by simp)).trans (World.cell?_alloc_new w _ _ i))
  clear hb1
  have HBX := Lib.hid hbox
  obtain ⟨x0, x1, x2, x3, x4, x5, x6, x7, x8, x9, x10⟩ : w1.cell? ⟨w.heap.size, 0, none⟩ = some (.int .i64 s.P) ∧ w1.cell? ⟨w.heap.size, 1, none⟩ = some (.int .i64 s.tl) ∧ w1.cell? ⟨w.heap.size, 2, none⟩ = some (.int .i64 s.th) ∧ w1.cell? ⟨w.heap.size, 3, none⟩ = some (.int .i64 s.al) ∧ w1.cell? ⟨w.heap.size, 4, none⟩ = some (.int .i64 s.ah) ∧ w1.cell? ⟨w.heap.size, 5, none⟩ = some (.int .i64 s.room) ∧ w1.cell? ⟨w.heap.size, 6, none⟩ = some (.int .i64 s.xl) ∧ w1.cell? ⟨w.heap.size, 7, none⟩ = some (.int .i64 s.xh) ∧ w1.cell? ⟨w.heap.size, 8, none⟩ = some (.int .i64 s.yl) ∧ w1.cell? ⟨w.heap.size, 9, none⟩ = some (.int .i64 s.yh) ∧ w1.cell? ⟨w.heap.size, 10, none⟩ = some (.slice a len cap) := ⟨hbox 0, hbox 1, hbox 2, hbox 3, hbox 4, hbox 5, hbox 6, hbox 7, hbox 8, hbox 9, hbox 10⟩
  clear hbox hc0 hf0 hc1 hf1
  have HX1 := Lib.hid (fun W (hb : Below w1.heap.size w1 W) => HX.out W (hw1.trans (hb.mono hw1.size)))
  have HD1 := Lib.hid (fun x' xc' W (hb : Below w1.heap.size w1 W ∧ ∀ b o, b < w1.heap.size → W.cell? ⟨b, o, none⟩ = w1.cell? ⟨b, o, none⟩) (hx' : IntsAt W x' len ns) => bothS1 (W0 := w1) (HD.out x' xc' W (hw1.trans (hb.1.mono hw1.size)) hx') hb)
  go_upto_region 3 with fail
  go_cut [7, 8] (fun v7 v8 wx => ∃ g : Nat, v7 = .pointer (some ⟨g, 0, none⟩) ∧ v8 = .int .i64 3 ∧ wx.cell? ⟨g, 0, none⟩ = some (.int .i64 0) ∧ wx.cell? ⟨g, 1, none⟩ = some (.int .i64 0) ∧ wx.frozen? ⟨g, 0, none⟩ = false ∧ wx.frozen? ⟨g, 1, none⟩ = false ∧ w1.heap.size ≤ g ∧ g < wx.heap.size ∧ Below w1.heap.size w1 wx)
  case first =>
    go_region_held3 (fun w' => Below w1.heap.size w1 w' ∧ ∀ b o, b < w1.heap.size → w'.cell? ⟨b, o, none⟩ = w1.cell? ⟨b, o, none⟩) (first | with_reducible assumption | ((repeat (first | with_reducible refine bothS_drew ?_ | with_reducible refine bothS_alloc _ ?_ | with_reducible refine bothS_set _ _ (by first | omega | (simp; omega) | simp) ?_)); first | with_reducible assumption | with_reducible exact Hid.out (by assumption) | with_reducible exact ⟨Below.refl _ _, fun _ _ _ => rfl⟩))
      (first
        | ((with_reducible refine step_append_far _ w1.heap.size (w1.heap.size) len xcap x ns rfl _ _ rfl ?_ ?_ ?_ ?_ hxl ?_ ?_ ?_); (· rfl); (· rfl); (· first | exact (made_row (by simp) (by simp)).drew | exact ((made_row (by simp) (by simp)).alloc _).drew | exact made_row (by simp) (by simp) | exact (made_row (by simp) (by simp)).alloc _); (· exact HX1.out _ (And.left (by assumption))); (· first | exact Nat.le_refl _ | omega | (simp; done) | (simp; omega)); (· first | (simp; done) | (simp; omega) | omega); intro gA cA wA hxA hbA hcA hfA hsA; have kA := bothS_step (by assumption) hbA; have HXA := Lib.hid hxA; (try simp at hsA); have sA1 : w1.heap.size < wA.heap.size := (by omega); (try have sA2 : w1.heap.size + 1 < wA.heap.size := (by omega)); clear hxA hbA)
        | ((with_reducible refine step_append_far _ w1.heap.size (w1.heap.size + 1) len xcap x ns rfl _ _ rfl ?_ ?_ ?_ ?_ hxl ?_ ?_ ?_); (· rfl); (· rfl); (· first | exact (made_row (by simp) (by simp)).drew | exact ((made_row (by simp) (by simp)).alloc _).drew | exact made_row (by simp) (by simp) | exact (made_row (by simp) (by simp)).alloc _); (· exact HX1.out _ (And.left (by assumption))); (· first | exact Nat.le_refl _ | omega | (simp; done) | (simp; omega)); (· first | (simp; done) | (simp; omega) | omega); intro gA cA wA hxA hbA hcA hfA hsA; have kA := bothS_step (by assumption) hbA; have HXA := Lib.hid hxA; (try simp at hsA); have sA1 : w1.heap.size < wA.heap.size := (by omega); (try have sA2 : w1.heap.size + 1 < wA.heap.size := (by omega)); clear hxA hbA)
        | (go_at_call 26; (with_reducible refine (HD1.out _ _ _ ?_ ?_).mono ?_); (· with_reducible assumption); (· first | exact HXA.out | exact HXA.out.below (by repeat (first | exact Below.refl _ _ | (refine Below.alloc ?_ (by first | omega | (simp; omega) | simp) _) | (refine Below.setCell ?_ (by first | omega | (simp; omega) | simp) _) | refine Below.drew ?_))); rintro e w' ⟨rfl, k, k1, k2, k3⟩; have HK := Lib.hid k; (try simp at k3); have sB1 : w1.heap.size < w'.heap.size := (by omega); (try have sB2 : w1.heap.size + 1 < w'.heap.size := (by omega))))
    all_goals (go_wp2_with fail; go_meet; exact ⟨_, rfl, rfl, (by first | (go_simp; done) | (go_simp; exact set_same (u := .int .i64 0) (by go_simp; done)) | exact set_same (u := .int .i64 0) (by go_simp; done) | (go_simp; exact set_same (u := .slice none 0 0) (by go_simp; done)) | exact set_same (u := .slice none 0 0) (by go_simp; done)), (by first | (go_simp; done) | (go_simp; exact set_same (u := .int .i64 0) (by go_simp; done)) | exact set_same (u := .int .i64 0) (by go_simp; done) | (go_simp; exact set_same (u := .slice none 0 0) (by go_simp; done)) | exact set_same (u := .slice none 0 0) (by go_simp; done)), by go_simp, by go_simp, (by first | with_reducible assumption | (simp; done) | (simp; omega) | omega), (by first | with_reducible assumption | (simp; done) | (simp; omega) | omega), And.left (by assumption)⟩)
  case rest =>
    obtain ⟨g, rfl, rfl, g0, g1, z0, z1, hg1, hg2, hB⟩ := hcut
    obtain ⟨wo, rfl⟩ : ∃ wo : World, wo = wc := ⟨_, rfl⟩
    obtain ⟨hcc, hfc⟩ := bcell hB
    have hzc := hB.size
    have hwc := hw1.trans (hB.mono hw1.size)
    have pc : w.heap.size < wo.heap.size := by omega
    have hgw : w.heap.size < g := by omega
    have hgn : g ≠ w.heap.size := by omega
    go_wp2_with fail
    refine (HA.out _ hwc).mono ?_
    rintro e w3 ⟨rfl, hb3⟩
    obtain ⟨hc3, hf3⟩ := bcell hb3
    have hz3 := hb3.size
    have hB3 := hB.trans (hb3.mono hzc)
    have p3 : w.heap.size < w3.heap.size := by omega
    have q3 : g < w3.heap.size := by omega
    have r3 : g ≠ w3.heap.size := by omega
    clear hb3
    go_upto_region 10 with fail
    go_cut [11] (fun v11 wx => ∃ (ga : Nat) (ts : List Int), v11 = .slice (some ⟨ga, 0, none⟩) 6 6 ∧ ts.length = 6 ∧ IntsAt wx (some ⟨ga, 0, none⟩) 6 ts ∧ Below w1.heap.size w1 wx ∧ wx.cell? ⟨g, 0, none⟩ = some (.int .i64 0) ∧ wx.cell? ⟨g, 1, none⟩ = some (.int .i64 (-1)) ∧ wx.cell? ⟨w3.heap.size, 0, none⟩ = some (.int .i64 n1) ∧ wx.cell? ⟨w3.heap.size, 1, none⟩ = some (.int .i64 n2) ∧ wx.cell? ⟨w3.heap.size, 2, none⟩ = some (.int .i64 n3) ∧ wx.cell? ⟨w3.heap.size, 3, none⟩ = some (.int .i64 n4) ∧ wx.cell? ⟨w3.heap.size, 4, none⟩ = some (.int .i64 n5) ∧ w3.heap.size < wx.heap.size)
    case first =>
      go_wp2_with fail
      go_meet
      refine ⟨_, [_, _, _, _, _, _], rfl, rfl, ints6 _ _ _ _ _ _ _ _ (by simp), ?_, by go_simp, by go_simp, by go_simp, by go_simp, by go_simp, by go_simp, by go_simp, by simp; omega⟩
      repeat (first | exact hB3 | (refine Below.alloc ?_ (by first | (simp; done) | (simp; omega) | omega) _) | (refine Below.setCell ?_ (by first | (simp; done) | (simp; omega) | omega) _))
    case rest =>
      obtain ⟨ga, ts, rfl, hts, hit, hBx, u0, u1, v0, v1, v2, v3, v4, hgx⟩ := hcut
      obtain ⟨wp, rfl⟩ : ∃ wp : World, wp = wc := ⟨_, rfl⟩
      clear g0 g1 z0 z1 hc3 hf3 hcc hfc
      have hzp := hBx.size
      have HT := Lib.hid hit
      have HBp := Lib.hid hBx
      have hwp := hw1.trans (hBx.mono hw1.size)
      have gx : g < wp.heap.size := by omega
      clear hit hBx
      go_wp2_with fail
      go_loopw [12] (fun i wr => ∃ k : Nat, k ≤ 6 ∧ i = .int .i64 k ∧ Below wp.heap.size wp wr) (fun i _ => 6 - (intOf i).toNat)
      case atStart => exact ⟨0, Nat.zero_le _, rfl, Below.refl _ _⟩
      case round =>
        obtain ⟨j, hk, rfl, hBr⟩ := hrel
        have hzr := hBr.size
        by_cases hlt : j < 6
        · obtain ⟨hl1, hl2, hl3⟩ := HT.out
          obtain ⟨lb, lo', hle, hlb, hlc⟩ := hl3 (by omega)
          cases hle
          have cl := (hBr.cell (p := ⟨ga, 0 + j, none⟩) hlb).trans (hlc j (by omega))
          rw [Nat.zero_add] at cl
          generalize ts[j]'(by omega) = n at cl
          clear hl1 hl2 hl3 hlb hlc
          have hkl : (j : Int) < 6 := by omega
          obtain ⟨s0, s1⟩ : wr.cell? ⟨g, 0, none⟩ = some (.int .i64 0) ∧ wr.cell? ⟨g, 1, none⟩ = some (.int .i64 (-1)) := ⟨(hBr.cell (p := ⟨g, 0, none⟩) gx).trans u0, (hBr.cell (p := ⟨g, 1, none⟩) gx).trans u1⟩
          obtain ⟨m0, m1, m2, m3, m4⟩ : wr.cell? ⟨w3.heap.size, 0, none⟩ = some (.int .i64 n1) ∧ wr.cell? ⟨w3.heap.size, 1, none⟩ = some (.int .i64 n2) ∧ wr.cell? ⟨w3.heap.size, 2, none⟩ = some (.int .i64 n3) ∧ wr.cell? ⟨w3.heap.size, 3, none⟩ = some (.int .i64 n4) ∧ wr.cell? ⟨w3.heap.size, 4, none⟩ = some (.int .i64 n5) :=
            ⟨(hBr.cell (p := ⟨w3.heap.size, 0, none⟩) hgx).trans v0, (hBr.cell (p := ⟨w3.heap.size, 1, none⟩) hgx).trans v1, (hBr.cell (p := ⟨w3.heap.size, 2, none⟩) hgx).trans v2, (hBr.cell (p := ⟨w3.heap.size, 3, none⟩) hgx).trans v3, (hBr.cell (p := ⟨w3.heap.size, 4, none⟩) hgx).trans v4⟩
          by_cases hn : 0 ≤ n ∧ n ≤ s.room - n1
          · have HWi := Lib.hid (fun w2 => Within_is n 0 (s.room - n1) true (by simp [btw]; omega) w2)
            have hal := HAL.out n hn.1 hn.2
            obtain ⟨hn1, hn2⟩ := hn
            go_wp2_with fail
            refine (HWi.out _).mono ?_
            rintro e w4 ⟨rfl, rfl⟩
            go_upto_region 18 with fail
            obtain ⟨W0, hW0⟩ : ∃ W0, wr.alloc (.cells #[.int .i64 (n1 + n), .int .i64 n2, .int .i64 n3, .int .i64 n4, .int .i64 n5] 25) = W0 := ⟨_, rfl⟩
            have hB0 : Below wp.heap.size wp W0 := by rw [← hW0]; exact hBr.alloc hzr _
            have hz0 : wr.heap.size < W0.heap.size := by rw [← hW0]; simp
            have hnew : ∀ i, W0.cell? ⟨wr.heap.size, i, none⟩ = (#[.int .i64 (n1 + n), .int .i64 n2, .int .i64 n3, .int .i64 n4, .int .i64 n5] : Array Value)[i]? := fun i => by rw [← hW0]; exact World.cell?_alloc_new wr _ _ i
            have hold : ∀ b o, b < wr.heap.size → W0.cell? ⟨b, o, none⟩ = wr.cell? ⟨b, o, none⟩ := fun b o h => by rw [← hW0]; exact ((Below.refl wr.heap.size wr).alloc (Nat.le_refl _) _).cell (p := ⟨b, o, none⟩) h
            rw [hW0]
            clear hW0
            obtain ⟨r0, r1, r2, r3, r4⟩ : W0.cell? ⟨wr.heap.size, 0, none⟩ = some (.int .i64 (n1 + n)) ∧ W0.cell? ⟨wr.heap.size, 1, none⟩ = some (.int .i64 n2) ∧ W0.cell? ⟨wr.heap.size, 2, none⟩ = some (.int .i64 n3) ∧ W0.cell? ⟨wr.heap.size, 3, none⟩ = some (.int .i64 n4) ∧ W0.cell? ⟨wr.heap.size, 4, none⟩ = some (.int .i64 n5) := ⟨hnew 0, hnew 1, hnew 2, hnew 3, hnew 4⟩
            have d0 : W0.cell? ⟨g, 0, none⟩ = some (.int .i64 0) := (hold g 0 (by omega)).trans s0
            have d1 : W0.cell? ⟨g, 1, none⟩ = some (.int .i64 (-1)) := (hold g 1 (by omega)).trans s1
            have hBW := HBp.out.trans (hB0.mono hzp)
            have hbb := fun i => (hBW.cell (p := ⟨w.heap.size, i, none⟩) p1).trans (HBX.out i)
            obtain ⟨X0, X1, X2, X3, X4, X5, X6, X7, X8, X9, X10⟩ : W0.cell? ⟨w.heap.size, 0, none⟩ = some (.int .i64 s.P) ∧ W0.cell? ⟨w.heap.size, 1, none⟩ = some (.int .i64 s.tl) ∧ W0.cell? ⟨w.heap.size, 2, none⟩ = some (.int .i64 s.th) ∧ W0.cell? ⟨w.heap.size, 3, none⟩ = some (.int .i64 s.al) ∧ W0.cell? ⟨w.heap.size, 4, none⟩ = some (.int .i64 s.ah) ∧ W0.cell? ⟨w.heap.size, 5, none⟩ = some (.int .i64 s.room) ∧ W0.cell? ⟨w.heap.size, 6, none⟩ = some (.int .i64 s.xl) ∧ W0.cell? ⟨w.heap.size, 7, none⟩ = some (.int .i64 s.xh) ∧ W0.cell? ⟨w.heap.size, 8, none⟩ = some (.int .i64 s.yl) ∧ W0.cell? ⟨w.heap.size, 9, none⟩ = some (.int .i64 s.yh) ∧ W0.cell? ⟨w.heap.size, 10, none⟩ = some (.slice a len cap) := ⟨hbb 0, hbb 1, hbb 2, hbb 3, hbb 4, hbb 5, hbb 6, hbb 7, hbb 8, hbb 9, hbb 10⟩
            have gx0 : g < W0.heap.size := by omega
            have wx0 : w.heap.size < W0.heap.size := by omega
            obtain ⟨b, hb1, hb2⟩ : ∃ b, isSafeR s (n1 + n) n2 n3 n4 n5 = b ∧ btw n 0 (-1) = b := ⟨_, rfl, by rw [hal]; simp⟩
            have HI := Lib.hid (bothS (W0 := W0) (Below.refl _ _) (fun w2 _ => HIS.out (n1 + n) b hb1 w2 ⟨by omega, by omega⟩))
            have HV := Lib.hid (bothS (W0 := W0) (Below.refl _ _) (fun w2 _ => within_below n 0 (-1) b hb2 w2))
            have hBZ := Lib.hid hB0
            clear hal hb1 hb2 hbb hBW hnew hold s0 s1 m0 m1 m2 m3 m4 x0 x1 x2 x3 x4 x5 x6 x7 x8 x9 x10 u0 u1 v0 v1 v2 v3 v4 hBr cl hB0
            go_region_held3 (fun w' => Below W0.heap.size W0 w' ∧ ∀ b o, b < W0.heap.size → w'.cell? ⟨b, o, none⟩ = W0.cell? ⟨b, o, none⟩) (first | with_reducible assumption | ((repeat (first | with_reducible refine bothS_drew ?_ | with_reducible refine bothS_alloc _ ?_ | with_reducible refine bothS_set _ _ (by first | omega | (simp; omega) | simp) ?_)); first | with_reducible assumption | with_reducible exact Hid.out (by assumption) | with_reducible exact ⟨Below.refl _ _, fun _ _ _ => rfl⟩))
              (first | (go_at_call 64; with_reducible refine (HI.out _ ?_).mono ?_; (first | with_reducible assumption | ((repeat (first | with_reducible refine bothS_drew ?_ | with_reducible refine bothS_alloc _ ?_ | with_reducible refine bothS_set _ _ (by first | omega | (simp; omega) | simp) ?_)); first | with_reducible assumption | with_reducible exact Hid.out (by assumption) | with_reducible exact ⟨Below.refl _ _, fun _ _ _ => rfl⟩)); rintro e w' ⟨rfl, k, k1, k2, k3⟩; have HK := Lib.hid k; (try simp at k3); (try have k6 := Nat.lt_of_succ_le k3); (try have k7 := Nat.lt_of_succ_lt k6); (try have k8 := Nat.lt_of_succ_lt k3)) | (go_at_call 53; with_reducible refine (HV.out _ ?_).mono ?_; (first | with_reducible assumption | ((repeat (first | with_reducible refine bothS_drew ?_ | with_reducible refine bothS_alloc _ ?_ | with_reducible refine bothS_set _ _ (by first | omega | (simp; omega) | simp) ?_)); first | with_reducible assumption | with_reducible exact Hid.out (by assumption) | with_reducible exact ⟨Below.refl _ _, fun _ _ _ => rfl⟩)); rintro e w' ⟨rfl, k, k1, k2, k3⟩; have HK := Lib.hid k; (try simp at k3); (try have k6 := Nat.lt_of_succ_le k3); (try have k7 := Nat.lt_of_succ_lt k6); (try have k8 := Nat.lt_of_succ_lt k3)))
            all_goals (
              go_wp2_with fail
              go_roundw
              case rel => exact ⟨j + 1, by omega, by go_num, hBZ.out.trans (Below.mono (And.left (by assumption)) hBZ.out.size)⟩
              case measure => simp [intOf]; omega)
          · have HWi := Lib.hid (fun w2 => Within_is n 0 (s.room - n1) false (by simp [btw]; omega) w2)
            go_wp2_with fail
            refine (HWi.out _).mono ?_
            rintro e w4 ⟨rfl, rfl⟩
            go_wp2_with fail
            go_roundw
            case rel => exact ⟨j + 1, by omega, by go_num, hBr⟩
            case measure => simp [intOf]; omega
        · have hkl : ¬ (j : Int) < 6 := by omega
          have hwr := hwp.trans (hBr.mono hwp.size)
          go_wp2_with fail
          refine (HW.out _).mono ?_
          rintro e w5 ⟨rfl, hb5⟩
          have hw5 := hwr.trans (hb5.mono hwr.size)
          clear hb5
          go_wp2_with fail
          go_ret
          exact ⟨rfl, hw5⟩
end Go.Proofs.Ytajabapcmpmboaa
