/- MetalMore. -/
import Derived.Test.YtajabapcmpmboaaMD
import Derived.Deep.RegionHeld3
import Derived.Deep.DeepCutAuto
namespace Go.Proofs.Ytajabapcmpmboaa
set_option linter.unusedVariables false
set_option linter.unusedSimpArgs false
open Go.RowKit

set_option maxRecDepth 100000 in
set_option maxHeartbeats 1000000 in
theorem more_no (s : Shop) (a : Option Addr) (len cap : Nat) (kind room : Int) (w : World) (hp : PigsAt w a len s.pigs) (hr : s.ok = false) :
    Calls Try.prog 10 #[.agg #[.int .i64 s.P, .int .i64 s.tl, .int .i64 s.th, .int .i64 s.al, .int .i64 s.ah, .int .i64 s.room, .int .i64 s.xl, .int .i64 s.xh, .int .i64 s.yl, .int .i64 s.yh, .slice a len cap], .int .i64 kind, .int .i64 room] w fun e w' => e = .returned (.bool true) ∧ Below w.heap.size w w' := by
  have HR := Lib.hid (fun w1 (hb : Below w.heap.size w w1) => ready_is s a len cap false hr w1 (hp.below hb))
  have HW := Lib.hid (fun w1 => works_any w1)
  clear hp hr
  go_enter Try.func10, Try.ntmps10
  go_wp2_with fail
  refine (HR.out _ (by repeat (first | exact Below.refl _ _ | (refine Below.alloc ?_ (by first | omega | (simp; omega) | simp) _) | (refine Below.setCell ?_ (by first | omega | (simp; omega) | simp) _) | refine Below.drew ?_))).mono ?_; rintro e w1 ⟨rfl, hb1⟩; obtain ⟨hc1, hf1⟩ := bcell hb1; have hz1 := hb1.size; (try simp at hz1); have hw1 := ((by repeat (first | assumption | exact Below.refl _ _ | (refine Below.alloc ?_ (by first | omega | (simp; omega) | simp) _) | (refine Below.setCell ?_ (by first | omega | (simp; omega) | simp) _) | refine Below.drew ?_)) : Below w.heap.size w _).trans (hb1.mono (by first | (simp; done) | (simp; omega) | omega)); clear hb1; have p1 : w.heap.size < w1.heap.size := (by omega); go_wp2_with fail
  refine (HW.out _).mono ?_; rintro e w2 ⟨rfl, hb2⟩; obtain ⟨hc2, hf2⟩ := bcell hb2; have hz2 := hb2.size; (try simp at hz2); have hw2 := ((by repeat (first | assumption | exact Below.refl _ _ | (refine Below.alloc ?_ (by first | omega | (simp; omega) | simp) _) | (refine Below.setCell ?_ (by first | omega | (simp; omega) | simp) _) | refine Below.drew ?_)) : Below w.heap.size w _).trans (hb2.mono (by first | (simp; done) | (simp; omega) | omega)); clear hb2; have p2 : w.heap.size < w2.heap.size := (by omega); go_wp2_with fail
  go_ret
  exact ⟨rfl, (by repeat (first | assumption | exact Below.refl _ _ | (refine Below.alloc ?_ (by first | omega | (simp; omega) | simp) _) | (refine Below.setCell ?_ (by first | omega | (simp; omega) | simp) _) | refine Below.drew ?_))⟩

/-- The cells of the pig of a kind. -/
theorem pig_cells {w : World} {a : Option Addr} {len : Nat} {ps : List Pig} (h : PigsAt w a len ps) (k : Nat) (hk : k < len) (q : Pig) (hq : ps[k]? = some q) :
    ∃ b o, a = some ⟨b, o, none⟩ ∧ b < w.heap.size ∧ w.cell? ⟨b, o + k * 5, none⟩ = some (.int .i64 q.P) ∧ w.cell? ⟨b, o + k * 5 + 1, none⟩ = some (.int .i64 q.t) ∧ w.cell? ⟨b, o + k * 5 + 2, none⟩ = some (.int .i64 q.a) ∧ w.cell? ⟨b, o + k * 5 + 3, none⟩ = some (.int .i64 q.c) ∧ w.cell? ⟨b, o + k * 5 + 4, none⟩ = some (.int .i64 q.m) := by
  obtain ⟨hl, _, hc⟩ := h
  obtain ⟨b, o, ha, hb, hat⟩ := hc (by omega)
  have hk' : k < ps.length := by omega
  obtain ⟨c0, c1, c2, c3, c4⟩ := hat k hk'
  have e : ps[k] = q := by rw [List.getElem?_eq_getElem hk'] at hq; exact Option.some.inj hq
  rw [e] at c0 c1 c2 c3 c4
  exact ⟨b, o, ha, hb, c0, c1, c2, c3, c4⟩

theorem PigsAt.kept {w w' : World} {a : Option Addr} {len : Nat} {ps : List Pig} {row : Option Nat} (h : PigsAt w a len ps) (hg : w.grownBy w' row) (hne : 0 < len → ∀ b o, a = some ⟨b, o, none⟩ → row ≠ some b) : PigsAt w' a len ps := by
  obtain ⟨h1, h2, h3⟩ := h
  refine ⟨h1, h2, fun hl => ?_⟩
  obtain ⟨b, o, rfl, hb, hc⟩ := h3 hl
  have hk : w'.heap[b]? = w.heap[b]? := hg.block b hb (fun e => hne hl b o rfl e.symm)
  refine ⟨b, o, rfl, Nat.lt_of_lt_of_le hb hg.size, fun i hi => ?_⟩
  obtain ⟨c0, c1, c2, c3, c4⟩ := hc i hi
  exact ⟨(World.cell?_of_block (a := ⟨b, _, none⟩) hk).trans c0, (World.cell?_of_block (a := ⟨b, _, none⟩) hk).trans c1, (World.cell?_of_block (a := ⟨b, _, none⟩) hk).trans c2, (World.cell?_of_block (a := ⟨b, _, none⟩) hk).trans c3, (World.cell?_of_block (a := ⟨b, _, none⟩) hk).trans c4⟩
theorem bothM2 {P : Program} {f : FuncId} {args : Array Value} {W0 w1 : World} {R : Ending → World → Prop} (h : Calls P f args w1 fun e w' => R e w' ∧ Below w1.heap.size w1 w')
    (h1 : Below W0.heap.size W0 w1 ∧ ∀ b o, b < W0.heap.size → w1.cell? ⟨b, o, none⟩ = W0.cell? ⟨b, o, none⟩) :
    Calls P f args w1 fun e w' => R e w' ∧ (Below W0.heap.size W0 w' ∧ ∀ b o, b < W0.heap.size → w'.cell? ⟨b, o, none⟩ = W0.cell? ⟨b, o, none⟩) ∧
      (∀ b o, b < w1.heap.size → w'.cell? ⟨b, o, none⟩ = w1.cell? ⟨b, o, none⟩) ∧ (∀ b o, b < w1.heap.size → w'.frozen? ⟨b, o, none⟩ = w1.frozen? ⟨b, o, none⟩) ∧ w1.heap.size ≤ w'.heap.size :=
  h.mono fun e w' ⟨he, hb⟩ => ⟨he, ⟨h1.1.trans (hb.mono h1.1.size), fun b o hbo => (h1.1.trans (hb.mono h1.1.size)).cell (p := ⟨b, o, none⟩) hbo⟩, fun b o hbo => hb.cell (p := ⟨b, o, none⟩) hbo, fun b o hbo => hb.frozen (p := ⟨b, o, none⟩) hbo, hb.size⟩
/-- Pigged, in plain words. -/
theorem Pigged_law (s : Shop) (a : Option Addr) (len cap : Nat) (k : Nat) (many : Int) (q : Pig) (hq : s.pigs[k]? = some q) (w : World) (hp : PigsAt w a len s.pigs) (hl : len ≤ 1000) (hk : k < len) :
    Calls Try.prog 62 #[.agg #[.int .i64 s.P, .int .i64 s.tl, .int .i64 s.th, .int .i64 s.al, .int .i64 s.ah, .int .i64 s.room, .int .i64 s.xl, .int .i64 s.xh, .int .i64 s.yl, .int .i64 s.yh, .slice a len cap], .int .i64 k, .int .i64 many] w fun e w' => (∃ a' cap', e = .returned (.agg #[.int .i64 s.P, .int .i64 s.tl, .int .i64 s.th, .int .i64 s.al, .int .i64 s.ah, .int .i64 s.room, .int .i64 s.xl, .int .i64 s.xh, .int .i64 s.yl, .int .i64 s.yh, .slice a' len cap']) ∧ PigsAt w' a' len (s.pigs.set k { q with m := many }) ∧ ∀ b o, a' = some ⟨b, o, none⟩ → w.heap.size ≤ b) ∧ Below w.heap.size w w' := by
  refine (Pigged_any s a len cap k many w hp hl hk).mono fun e w' ⟨hb, a', cap', he, ho⟩ => ⟨⟨a', cap', he, ?_⟩, hb⟩
  have h1 := pigs_own (ho q hq) hp.2.1
  exact ⟨h1.1, fun b o e => h1.2 (by omega) b o e⟩


set_option maxRecDepth 100000 in
set_option maxHeartbeats 8000000 in
theorem more_out (s : Shop) (a : Option Addr) (len cap : Nat) (kind room : Int) (w : World) (hp : PigsAt w a len s.pigs) (hr : s.ok = true) (hk : ¬ (0 ≤ kind ∧ kind ≤ (len : Int) - 1)) :
    Calls Try.prog 10 #[.agg #[.int .i64 s.P, .int .i64 s.tl, .int .i64 s.th, .int .i64 s.al, .int .i64 s.ah, .int .i64 s.room, .int .i64 s.xl, .int .i64 s.xh, .int .i64 s.yl, .int .i64 s.yh, .slice a len cap], .int .i64 kind, .int .i64 room] w fun e w' => e = .returned (.bool true) ∧ Below w.heap.size w w' := by
  have HR := Lib.hid (fun w1 (hb : Below w.heap.size w w1) => ready_is s a len cap true hr w1 (hp.below hb))
  have HW := Lib.hid (fun w1 => works_any w1)
  have hl4 : len ≤ 4 := by have := Shop.ok_bd hr; have := hp.1; omega
  have HC := Lib.hid (fun w1 (hb : Below w.heap.size w w1) => Copy_any s a len cap w1 (hp.below hb) (by omega))
  obtain ⟨rb, hrb⟩ : ∃ rb, ({ s with room := room } : Shop).ok = rb := ⟨_, rfl⟩
  have HK := Lib.hid (fun a' cap' w1 (hp' : PigsAt w1 a' len s.pigs) => ready_is { s with room := room } a' len cap' rb hrb w1 hp')
  have HL := Lib.hid (fun (h : rb = true) (hlt : s.room < room) a' cap' w1 (hb : Below w.heap.size w w1) (hp' : PigsAt w1 a' len s.pigs) => (more_room s room (Int.le_of_lt hlt) (hrb.trans h)) ▸ less_any { s with room := room } s a' len cap' a len cap w1 hp' (hp.below hb) (hrb.trans h) hr)
  have hm : len ≤ maxLen := hp.2.1
  have HI := Lib.hid (fun w2 => Within_is kind 0 ((len : Int) - 1) false (by simp [btw]; omega) w2)
  clear hp hr hrb hk
  dsimp only at HK HL
  go_enter Try.func10, Try.ntmps10
  go_wp2_with fail
  refine (HR.out _ (by repeat (first | exact Below.refl _ _ | (refine Below.alloc ?_ (by first | omega | (simp; omega) | simp) _) | (refine Below.setCell ?_ (by first | omega | (simp; omega) | simp) _) | refine Below.drew ?_))).mono ?_
  rintro e w1 ⟨rfl, hb1⟩
  obtain ⟨hc1, hf1⟩ := bcell hb1
  have hz1 := hb1.size
  simp at hz1
  have hw1 := ((by repeat (first | exact Below.refl _ _ | (refine Below.alloc ?_ (by first | omega | (simp; omega) | simp) _) | (refine Below.setCell ?_ (by first | omega | (simp; omega) | simp) _) | refine Below.drew ?_)) : Below w.heap.size w _).trans (hb1.mono (by simp))
  clear hb1
  have p1 : w.heap.size < w1.heap.size := by omega
  go_upto_if 22 with fail
  go_cut [] (fun wx => Below w1.heap.size w1 wx)
  case first =>
    by_cases hlt : s.room < room
    · go_wp2_with fail
      refine (HC.out _ hw1).mono ?_
      rintro e w4 ⟨hb4, a', cap', rfl, hown⟩
      obtain ⟨hc4, hf4⟩ := bcell hb4
      have hz4 := hb4.size
      have hw4 := hw1.trans (hb4.mono hw1.size)
      have hv4 := hb4
      have hP4 := (pigs_own hown hm).1
      clear hb4 hown
      have p4 : w.heap.size < w4.heap.size := by omega
      have HP4 := Lib.hid (fun w5 (hb : Below w4.heap.size w4 w5) => hP4.below hb)
      clear hP4
      have hB4 : Below w4.heap.size w4 (w4.alloc (.cells #[.int .i64 s.P, .int .i64 s.tl, .int .i64 s.th, .int .i64 s.al, .int .i64 s.ah, .int .i64 room, .int .i64 s.xl, .int .i64 s.xh, .int .i64 s.yl, .int .i64 s.yh, .slice a' len cap'] 28)) := (by repeat (first | exact Below.refl _ _ | (refine Below.alloc ?_ (by first | omega | (simp; omega) | simp) _) | (refine Below.setCell ?_ (by first | omega | (simp; omega) | simp) _) | refine Below.drew ?_))
      have hW4 := hw4.trans (hB4.mono hw4.size)
      have hV4 := hv4.trans (hB4.mono hz4)
      have HV4 := Lib.hid hV4
      clear hv4 hV4
      cases rb
      · go_wp2_with fail
        refine (HK.out _ _ _ (HP4.out _ hB4)).mono ?_
        rintro e w5 ⟨rfl, hb5⟩
        have hv5 := HV4.out.trans (hb5.mono HV4.out.size)
        clear hb5
        go_wp2_with fail
        go_meet
        exact hv5
      · go_wp2_with fail
        refine (HK.out _ _ _ (HP4.out _ hB4)).mono ?_
        rintro e w5 ⟨rfl, hb5⟩
        obtain ⟨hc5, hf5⟩ := bcell hb5
        have hz5 := hb5.size
        simp at hz5
        have hw5 := hW4.trans (hb5.mono hW4.size)
        have hB5 := hB4.trans (hb5.mono hB4.size)
        have HV5 := Lib.hid (HV4.out.trans (hb5.mono HV4.out.size))
        clear hb5
        have p5 : w.heap.size < w5.heap.size := by omega
        have s5 : w4.heap.size < w5.heap.size := by omega
        have q5 : w4.heap.size < w4.heap.size + 1 := by omega
        have q6 : w.heap.size < w4.heap.size + 1 := by omega
        go_wp2_with fail
        refine (HL.out trivial hlt _ _ _ hw5 (HP4.out _ hB5)).mono ?_
        rintro e w6 ⟨rfl, hb6⟩
        have hv6 := HV5.out.trans (hb6.mono HV5.out.size)
        clear hb6
        go_wp2_with fail
        go_meet
        exact hv6
    · go_wp2_with fail
      go_meet
      exact Below.refl _ _
  case rest =>
    have hB := hcut
    obtain ⟨hcc, hfc⟩ := bcell hB
    have hzc := hB.size
    have hwc := hw1.trans (hB.mono hw1.size)
    have pc : w.heap.size < wc.heap.size := by omega
    clear hB hcut
    go_wp2_with fail
    refine (HI.out _).mono ?_
    rintro e w2 ⟨rfl, rfl⟩
    go_wp2_with fail
    refine (HW.out _).mono ?_
    rintro e w3 ⟨rfl, hb3⟩
    have hw3 := hwc.trans (hb3.mono hwc.size)
    clear hb3
    go_wp2_with fail
    go_ret
    exact ⟨rfl, hw3⟩

set_option maxRecDepth 100000 in
set_option maxHeartbeats 16000000 in
theorem more_in (s : Shop) (pb po : Nat) (len cap : Nat) (k : Nat) (room : Int) (w : World) (hp : PigsAt w (some ⟨pb, po, none⟩) len s.pigs) (hr : s.ok = true) (hk : k < len) :
    Calls Try.prog 10 #[.agg #[.int .i64 s.P, .int .i64 s.tl, .int .i64 s.th, .int .i64 s.al, .int .i64 s.ah, .int .i64 s.room, .int .i64 s.xl, .int .i64 s.xh, .int .i64 s.yl, .int .i64 s.yh, .slice (some ⟨pb, po, none⟩) len cap], .int .i64 k, .int .i64 room] w fun e w' => e = .returned (.bool true) ∧ Below w.heap.size w w' := by
  obtain ⟨a, ha⟩ : ∃ a, some (⟨pb, po, none⟩ : Addr) = a := ⟨_, rfl⟩
  rw [ha] at hp
  have HR := Lib.hid (fun w1 (hb : Below w.heap.size w w1) => ready_is s a len cap true hr w1 (hp.below hb))
  have HW := Lib.hid (fun w1 => works_any w1)
  have hl4 : len ≤ 4 := by have := Shop.ok_bd hr; have := hp.1; omega
  have HC := Lib.hid (fun w1 (hb : Below w.heap.size w w1) => Copy_any s a len cap w1 (hp.below hb) (by omega))
  obtain ⟨rb, hrb⟩ : ∃ rb, ({ s with room := room } : Shop).ok = rb := ⟨_, rfl⟩
  have HK := Lib.hid (fun a' cap' w1 (hp' : PigsAt w1 a' len s.pigs) => ready_is { s with room := room } a' len cap' rb hrb w1 hp')
  have HL := Lib.hid (fun (h : rb = true) (hlt : s.room < room) a' cap' w1 (hb : Below w.heap.size w w1) (hp' : PigsAt w1 a' len s.pigs) => (more_room s room (Int.le_of_lt hlt) (hrb.trans h)) ▸ less_any { s with room := room } s a' len cap' a len cap w1 hp' (hp.below hb) (hrb.trans h) hr)
  have hm : len ≤ maxLen := hp.2.1
  have HI := Lib.hid (fun w2 => Within_is k 0 ((len : Int) - 1) true (by simp [btw]; omega) w2)
  obtain ⟨q, hq⟩ : ∃ q, s.pigs[k]? = some q := ⟨_, List.getElem?_eq_getElem (by have := hp.1; omega)⟩
  have hqok := Pig.ok_bd (Shop.ok_pig hr k (by have := hp.1; omega))
  rw [(List.getElem?_eq_some_iff.1 hq).2] at hqok
  have hqm := hqok.2.2.2.2.2.2.2
  have hqc := hqok.2.2.2.2.2
  obtain ⟨b', o', hbo, hpb, g0, g1, g2, g3, g4⟩ := pig_cells hp k hk q hq
  have HG := Lib.hid (fun W (hb : Below w.heap.size w W) => Pigged_law s a len cap k (q.m + 1) q hq W (hp.below hb) (by omega) hk)
  obtain ⟨r2, hr2⟩ : ∃ r2, (s.withPig k { q with m := q.m + 1 }).ok = r2 := ⟨_, rfl⟩
  have HK2 := Lib.hid (fun a' cap' w1 (hp' : PigsAt w1 a' len (s.pigs.set k { q with m := q.m + 1 })) => ready_is (s.withPig k { q with m := q.m + 1 }) a' len cap' r2 hr2 w1 hp')
  have HL2 := Lib.hid (fun (h : r2 = true) a' cap' w1 (hb : Below w.heap.size w w1) (hp' : PigsAt w1 a' len (s.pigs.set k { q with m := q.m + 1 })) => (more_many s hr k q hq (hr2.trans h)) ▸ less_any (s.withPig k { q with m := q.m + 1 }) s a' len cap' a len cap w1 hp' (hp.below hb) (hr2.trans h) hr)
  obtain ⟨r3, hr3⟩ : ∃ r3, (s.withPig k { q with c := q.c + 1 }).ok = r3 := ⟨_, rfl⟩
  have HK3 := Lib.hid (fun a' cap' w1 (hp' : PigsAt w1 a' len (s.pigs.set k { q with c := q.c + 1 })) => ready_is (s.withPig k { q with c := q.c + 1 }) a' len cap' r3 hr3 w1 hp')
  have HC3 := Lib.hid (fun (h : r3 = true) a' cap' w1 (hp' : PigsAt w1 a' len (s.pigs.set k { q with c := q.c + 1 })) => cheap_any (s.withPig k { q with c := q.c + 1 }) a' len cap' w1 hp' (hr3.trans h))
  have HC0 := Lib.hid (fun w1 (hb : Below w.heap.size w w1) => cheap_any s a len cap w1 (hp.below hb) hr)
  have HPE := Lib.hid (fun (h : r3 = true) => penny s hr k q hq (hr3.trans h))
  have hm0 : 0 ≤ s.costN 0 ∧ s.costN 0 ≤ 100000 := by
    unfold Shop.costN
    cases hb : s.best 0 with
    | none => exact ⟨by decide, by decide⟩
    | some y => have := cheap_fair (y := y.1) (m := y.2) hr (by rw [hb]); simp only; omega
  obtain ⟨hm01, hm02⟩ := hm0
  have hlen := hp.1
  have HLEN := Lib.hid hlen
  have HQ := Lib.hid hq
  subst ha
  cases hbo
  clear hp hr hrb hqok hq hr2 hr3 hlen
  generalize (s.withPig k { q with c := q.c + 1 }).costN 0 = n0 at *
  dsimp only [Shop.withPig] at HK HL HK2 HL2 HK3 HC3
  generalize s.costN 0 = m0 at *
  go_enter Try.func10, Try.ntmps10
  go_wp2_with fail
  refine (HR.out _ (by repeat (first | exact Below.refl _ _ | (refine Below.alloc ?_ (by first | omega | (simp; omega) | simp) _) | (refine Below.setCell ?_ (by first | omega | (simp; omega) | simp) _) | refine Below.drew ?_))).mono ?_
  rintro e w1 ⟨rfl, hb1⟩
  obtain ⟨hc1, hf1⟩ := bcell hb1
  have hz1 := hb1.size
  simp at hz1
  have hw1 := ((by repeat (first | exact Below.refl _ _ | (refine Below.alloc ?_ (by first | omega | (simp; omega) | simp) _) | (refine Below.setCell ?_ (by first | omega | (simp; omega) | simp) _) | refine Below.drew ?_)) : Below w.heap.size w _).trans (hb1.mono (by simp))
  clear hb1
  have p1 : w.heap.size < w1.heap.size := by omega
  go_upto_if 22 with fail
  go_cut [] (fun wx => Below w1.heap.size w1 wx)
  case first =>
    by_cases hlt : s.room < room
    · go_wp2_with fail
      refine (HC.out _ hw1).mono ?_
      rintro e w4 ⟨hb4, a', cap', rfl, hown⟩
      obtain ⟨hc4, hf4⟩ := bcell hb4
      have hz4 := hb4.size
      have hw4 := hw1.trans (hb4.mono hw1.size)
      have hv4 := hb4
      have hP4 := (pigs_own hown hm).1
      clear hb4 hown
      have p4 : w.heap.size < w4.heap.size := by omega
      have HP4 := Lib.hid (fun w5 (hb : Below w4.heap.size w4 w5) => hP4.below hb)
      clear hP4
      have hB4 : Below w4.heap.size w4 (w4.alloc (.cells #[.int .i64 s.P, .int .i64 s.tl, .int .i64 s.th, .int .i64 s.al, .int .i64 s.ah, .int .i64 room, .int .i64 s.xl, .int .i64 s.xh, .int .i64 s.yl, .int .i64 s.yh, .slice a' len cap'] 28)) := (by repeat (first | exact Below.refl _ _ | (refine Below.alloc ?_ (by first | omega | (simp; omega) | simp) _) | (refine Below.setCell ?_ (by first | omega | (simp; omega) | simp) _) | refine Below.drew ?_))
      have hW4 := hw4.trans (hB4.mono hw4.size)
      have hV4 := hv4.trans (hB4.mono hz4)
      have HV4 := Lib.hid hV4
      clear hv4 hV4
      cases rb
      · go_wp2_with fail
        refine (HK.out _ _ _ (HP4.out _ hB4)).mono ?_
        rintro e w5 ⟨rfl, hb5⟩
        have hv5 := HV4.out.trans (hb5.mono HV4.out.size)
        clear hb5
        go_wp2_with fail
        go_meet
        exact hv5
      · go_wp2_with fail
        refine (HK.out _ _ _ (HP4.out _ hB4)).mono ?_
        rintro e w5 ⟨rfl, hb5⟩
        obtain ⟨hc5, hf5⟩ := bcell hb5
        have hz5 := hb5.size
        simp at hz5
        have hw5 := hW4.trans (hb5.mono hW4.size)
        have hB5 := hB4.trans (hb5.mono hB4.size)
        have HV5 := Lib.hid (HV4.out.trans (hb5.mono HV4.out.size))
        clear hb5
        have p5 : w.heap.size < w5.heap.size := by omega
        have s5 : w4.heap.size < w5.heap.size := by omega
        have q5 : w4.heap.size < w4.heap.size + 1 := by omega
        have q6 : w.heap.size < w4.heap.size + 1 := by omega
        go_wp2_with fail
        refine (HL.out trivial hlt _ _ _ hw5 (HP4.out _ hB5)).mono ?_
        rintro e w6 ⟨rfl, hb6⟩
        have hv6 := HV5.out.trans (hb6.mono HV5.out.size)
        clear hb6
        go_wp2_with fail
        go_meet
        exact hv6
    · go_wp2_with fail
      go_meet
      exact Below.refl _ _
  case rest =>
    have hB := hcut
    obtain ⟨wo, rfl⟩ : ∃ wo : World, wo = wc := ⟨_, rfl⟩
    obtain ⟨hcc, hfc⟩ := bcell hB
    have hzc := hB.size
    have hwc := hw1.trans (hB.mono hw1.size)
    have pc : w.heap.size < wo.heap.size := by omega
    clear hB hcut
    go_wp2_with fail
    refine (HI.out _).mono ?_
    rintro e w2 ⟨rfl, rfl⟩
    have hbx : ∀ i, wo.cell? ⟨w.heap.size, i, none⟩ = (#[.int .i64 s.P, .int .i64 s.tl, .int .i64 s.th, .int .i64 s.al, .int .i64 s.ah, .int .i64 s.room, .int .i64 s.xl, .int .i64 s.xh, .int .i64 s.yl, .int .i64 s.yh, .slice (some ⟨pb, po, none⟩) len cap] : Array Value)[i]? := fun i => (hcc _ _ p1).trans ((hc1 _ _ (by simp)).trans (World.cell?_alloc_new w _ _ i))
    have HBX := Lib.hid hbx
    obtain ⟨x0, x1, x2, x3, x4, x5, x6, x7, x8, x9, x10⟩ : wo.cell? ⟨w.heap.size, 0, none⟩ = some (.int .i64 s.P) ∧ wo.cell? ⟨w.heap.size, 1, none⟩ = some (.int .i64 s.tl) ∧ wo.cell? ⟨w.heap.size, 2, none⟩ = some (.int .i64 s.th) ∧ wo.cell? ⟨w.heap.size, 3, none⟩ = some (.int .i64 s.al) ∧ wo.cell? ⟨w.heap.size, 4, none⟩ = some (.int .i64 s.ah) ∧ wo.cell? ⟨w.heap.size, 5, none⟩ = some (.int .i64 s.room) ∧ wo.cell? ⟨w.heap.size, 6, none⟩ = some (.int .i64 s.xl) ∧ wo.cell? ⟨w.heap.size, 7, none⟩ = some (.int .i64 s.xh) ∧ wo.cell? ⟨w.heap.size, 8, none⟩ = some (.int .i64 s.yl) ∧ wo.cell? ⟨w.heap.size, 9, none⟩ = some (.int .i64 s.yh) ∧ wo.cell? ⟨w.heap.size, 10, none⟩ = some (.slice (some ⟨pb, po, none⟩) len cap) := ⟨hbx 0, hbx 1, hbx 2, hbx 3, hbx 4, hbx 5, hbx 6, hbx 7, hbx 8, hbx 9, hbx 10⟩
    have G4 : wo.cell? ⟨pb, po + k * 5 + 4, none⟩ = some (.int .i64 q.m) := (hwc.cell (p := ⟨pb, po + k * 5 + 4, none⟩) hpb).trans g4
    have gp : pb < wo.heap.size := by omega
    clear hbx hc1 hf1 hcc hfc g0 g1 g2 g3
    obtain ⟨qm1, qm2⟩ := hqm
    have hq1 : (0 : Int) ≤ (k : Int) := by omega
    have hq2 : (k : Int) < (len : Int) := by omega
    have hqw : IntKind.i64.wrap (q.m + 1) = q.m + 1 := IntWalk.i64_in _ ⟨by omega, by omega⟩
    have HG1 := Lib.hid (fun W (hb : Below wo.heap.size wo W ∧ ∀ b o, b < wo.heap.size → W.cell? ⟨b, o, none⟩ = wo.cell? ⟨b, o, none⟩) => bothM2 (W0 := wo) (HG.out W (hwc.trans (hb.1.mono hwc.size))) hb)
    go_upto_region 10 with fail
    go_cut [8] (fun v8 wx => ∃ (g : Nat) (a' : Option Addr) (cap' : Nat), v8 = .pointer (some ⟨g, 0, none⟩) ∧ (wx.cell? ⟨g, 0, none⟩ = some (.int .i64 s.P) ∧ wx.cell? ⟨g, 1, none⟩ = some (.int .i64 s.tl) ∧ wx.cell? ⟨g, 2, none⟩ = some (.int .i64 s.th) ∧ wx.cell? ⟨g, 3, none⟩ = some (.int .i64 s.al) ∧ wx.cell? ⟨g, 4, none⟩ = some (.int .i64 s.ah) ∧ wx.cell? ⟨g, 5, none⟩ = some (.int .i64 s.room) ∧ wx.cell? ⟨g, 6, none⟩ = some (.int .i64 s.xl) ∧ wx.cell? ⟨g, 7, none⟩ = some (.int .i64 s.xh) ∧ wx.cell? ⟨g, 8, none⟩ = some (.int .i64 s.yl) ∧ wx.cell? ⟨g, 9, none⟩ = some (.int .i64 s.yh) ∧ wx.cell? ⟨g, 10, none⟩ = some (.slice a' len cap')) ∧ g < wx.heap.size ∧ PigsAt wx a' len (s.pigs.set k { q with m := q.m + 1 }) ∧ Below wo.heap.size wo wx)
    case first =>
      go_region_held3 (fun w' => Below wo.heap.size wo w' ∧ ∀ b o, b < wo.heap.size → w'.cell? ⟨b, o, none⟩ = wo.cell? ⟨b, o, none⟩) (first | with_reducible assumption | ((repeat (first | with_reducible refine bothS_drew ?_ | with_reducible refine bothS_alloc _ ?_ | with_reducible refine bothS_set _ _ (by first | omega | (simp; omega) | simp) ?_)); first | with_reducible assumption | with_reducible exact Hid.out (by assumption) | with_reducible exact ⟨Below.refl _ _, fun _ _ _ => rfl⟩))
        ((go_at_call 62; (with_reducible refine (HG1.out _ ?_).mono ?_); (· with_reducible assumption); rintro e w' ⟨⟨a', cap', rfl, hP, hfar⟩, kk, k1, k2, k3⟩; have HP8 := Lib.hid hP; have HF8 := Lib.hid hfar; clear hP hfar; (try simp at k3); have sB1 : wo.heap.size ≤ w'.heap.size := (by omega); (try have sB2 : wo.heap.size < w'.heap.size := (by omega))))
      all_goals
        go_wp2_with fail
        go_meet
        refine ⟨_, a', cap', rfl, ⟨(by first | (go_simp; done) | (go_simp; exact set_same (u := .int .i64 0) (by go_simp; done)) | exact set_same (u := .int .i64 0) (by go_simp; done) | (go_simp; exact set_same (u := .slice none 0 0) (by go_simp; done)) | exact set_same (u := .slice none 0 0) (by go_simp; done)), (by first | (go_simp; done) | (go_simp; exact set_same (u := .int .i64 0) (by go_simp; done)) | exact set_same (u := .int .i64 0) (by go_simp; done) | (go_simp; exact set_same (u := .slice none 0 0) (by go_simp; done)) | exact set_same (u := .slice none 0 0) (by go_simp; done)), (by first | (go_simp; done) | (go_simp; exact set_same (u := .int .i64 0) (by go_simp; done)) | exact set_same (u := .int .i64 0) (by go_simp; done) | (go_simp; exact set_same (u := .slice none 0 0) (by go_simp; done)) | exact set_same (u := .slice none 0 0) (by go_simp; done)), (by first | (go_simp; done) | (go_simp; exact set_same (u := .int .i64 0) (by go_simp; done)) | exact set_same (u := .int .i64 0) (by go_simp; done) | (go_simp; exact set_same (u := .slice none 0 0) (by go_simp; done)) | exact set_same (u := .slice none 0 0) (by go_simp; done)), (by first | (go_simp; done) | (go_simp; exact set_same (u := .int .i64 0) (by go_simp; done)) | exact set_same (u := .int .i64 0) (by go_simp; done) | (go_simp; exact set_same (u := .slice none 0 0) (by go_simp; done)) | exact set_same (u := .slice none 0 0) (by go_simp; done)), (by first | (go_simp; done) | (go_simp; exact set_same (u := .int .i64 0) (by go_simp; done)) | exact set_same (u := .int .i64 0) (by go_simp; done) | (go_simp; exact set_same (u := .slice none 0 0) (by go_simp; done)) | exact set_same (u := .slice none 0 0) (by go_simp; done)), (by first | (go_simp; done) | (go_simp; exact set_same (u := .int .i64 0) (by go_simp; done)) | exact set_same (u := .int .i64 0) (by go_simp; done) | (go_simp; exact set_same (u := .slice none 0 0) (by go_simp; done)) | exact set_same (u := .slice none 0 0) (by go_simp; done)), (by first | (go_simp; done) | (go_simp; exact set_same (u := .int .i64 0) (by go_simp; done)) | exact set_same (u := .int .i64 0) (by go_simp; done) | (go_simp; exact set_same (u := .slice none 0 0) (by go_simp; done)) | exact set_same (u := .slice none 0 0) (by go_simp; done)), (by first | (go_simp; done) | (go_simp; exact set_same (u := .int .i64 0) (by go_simp; done)) | exact set_same (u := .int .i64 0) (by go_simp; done) | (go_simp; exact set_same (u := .slice none 0 0) (by go_simp; done)) | exact set_same (u := .slice none 0 0) (by go_simp; done)), (by first | (go_simp; done) | (go_simp; exact set_same (u := .int .i64 0) (by go_simp; done)) | exact set_same (u := .int .i64 0) (by go_simp; done) | (go_simp; exact set_same (u := .slice none 0 0) (by go_simp; done)) | exact set_same (u := .slice none 0 0) (by go_simp; done)), (by first | (go_simp; done) | (go_simp; exact set_same (u := .int .i64 0) (by go_simp; done)) | exact set_same (u := .int .i64 0) (by go_simp; done) | (go_simp; exact set_same (u := .slice none 0 0) (by go_simp; done)) | exact set_same (u := .slice none 0 0) (by go_simp; done))⟩, (by first | with_reducible assumption | (simp; done) | (simp; omega) | omega), ?_, And.left (by assumption)⟩
        repeat (with_reducible refine PigsAt.kept ?_ (gb_setCell _ _ _ _) (fun _ b o e => ?_))
        · first
            | with_reducible exact HP8.out
            | exact HP8.out.below (by repeat (first | exact Below.refl _ _ | (refine Below.alloc ?_ (by first | omega | (simp; omega) | simp) _) | (refine Below.setCell ?_ (by first | omega | (simp; omega) | simp) _) | refine Below.drew ?_))
        all_goals (have hf8 := HF8.out _ _ (by assumption); simp at hf8 ⊢; omega)
    case rest =>
      obtain ⟨g, a', cap', rfl, ⟨y0, y1, y2, y3, y4, y5, y6, y7, y8, y9, y10⟩, hgx, hP8, hB8⟩ := hcut
      obtain ⟨w8, rfl⟩ : ∃ w8 : World, w8 = wc := ⟨_, rfl⟩
      have hz8 := hB8.size
      have hw8 := hwc.trans (hB8.mono hwc.size)
      have p8 : w.heap.size < w8.heap.size := by omega
      have hbx8 := fun i => (hB8.cell (p := ⟨w.heap.size, i, none⟩) pc).trans (HBX.out i)
      clear x0 x1 x2 x3 x4 x5 x6 x7 x8 x9 x10
      obtain ⟨x0, x1, x2, x3, x4, x5, x6, x7, x8, x9, x10⟩ : w8.cell? ⟨w.heap.size, 0, none⟩ = some (.int .i64 s.P) ∧ w8.cell? ⟨w.heap.size, 1, none⟩ = some (.int .i64 s.tl) ∧ w8.cell? ⟨w.heap.size, 2, none⟩ = some (.int .i64 s.th) ∧ w8.cell? ⟨w.heap.size, 3, none⟩ = some (.int .i64 s.al) ∧ w8.cell? ⟨w.heap.size, 4, none⟩ = some (.int .i64 s.ah) ∧ w8.cell? ⟨w.heap.size, 5, none⟩ = some (.int .i64 s.room) ∧ w8.cell? ⟨w.heap.size, 6, none⟩ = some (.int .i64 s.xl) ∧ w8.cell? ⟨w.heap.size, 7, none⟩ = some (.int .i64 s.xh) ∧ w8.cell? ⟨w.heap.size, 8, none⟩ = some (.int .i64 s.yl) ∧ w8.cell? ⟨w.heap.size, 9, none⟩ = some (.int .i64 s.yh) ∧ w8.cell? ⟨w.heap.size, 10, none⟩ = some (.slice (some ⟨pb, po, none⟩) len cap) := ⟨hbx8 0, hbx8 1, hbx8 2, hbx8 3, hbx8 4, hbx8 5, hbx8 6, hbx8 7, hbx8 8, hbx8 9, hbx8 10⟩
      have HBX8 := Lib.hid hbx8
      have HP8 := Lib.hid hP8
      clear hbx8 hP8 hB8 hqw G4 gp
      go_upto_region 11 with fail
      go_cut [60] (fun v60 wx => v60 = .bool false ∧ Below w8.heap.size w8 wx)
      case first =>
        cases r2
        · go_wp2_with fail
          refine (HK2.out _ _ _ HP8.out).mono ?_
          rintro e w9 ⟨rfl, hb9⟩
          go_wp2_with fail
          go_meet
          exact ⟨rfl, hb9⟩
        · go_wp2_with fail
          refine (HK2.out _ _ _ HP8.out).mono ?_
          rintro e w9 ⟨rfl, hb9⟩
          obtain ⟨hc9, hf9⟩ := bcell hb9
          have hz9 := hb9.size
          have hw9 := hw8.trans (hb9.mono hw8.size)
          have HB9 := Lib.hid hb9
          have HP9 := Lib.hid (HP8.out.below hb9)
          clear hb9
          go_wp2_with fail
          refine (HL2.out trivial _ _ _ hw9 HP9.out).mono ?_
          rintro e w10 ⟨rfl, hb10⟩
          have hv10 := HB9.out.trans (hb10.mono HB9.out.size)
          clear hb10
          go_wp2_with fail
          go_meet
          exact ⟨rfl, hv10⟩
      case rest =>
        obtain ⟨rfl, hB9⟩ := hcut
        obtain ⟨w9, rfl⟩ : ∃ w9 : World, w9 = wc := ⟨_, rfl⟩
        have hz9 := hB9.size
        have hw9 := hw8.trans (hB9.mono hw8.size)
        have p9 : w.heap.size < w9.heap.size := by omega
        have hbx9 := fun i => (hB9.cell (p := ⟨w.heap.size, i, none⟩) p8).trans (HBX8.out i)
        clear x0 x1 x2 x3 x4 x5 x6 x7 x8 x9 x10 y0 y1 y2 y3 y4 y5 y6 y7 y8 y9 y10
        obtain ⟨x0, x1, x2, x3, x4, x5, x6, x7, x8, x9, x10⟩ : w9.cell? ⟨w.heap.size, 0, none⟩ = some (.int .i64 s.P) ∧ w9.cell? ⟨w.heap.size, 1, none⟩ = some (.int .i64 s.tl) ∧ w9.cell? ⟨w.heap.size, 2, none⟩ = some (.int .i64 s.th) ∧ w9.cell? ⟨w.heap.size, 3, none⟩ = some (.int .i64 s.al) ∧ w9.cell? ⟨w.heap.size, 4, none⟩ = some (.int .i64 s.ah) ∧ w9.cell? ⟨w.heap.size, 5, none⟩ = some (.int .i64 s.room) ∧ w9.cell? ⟨w.heap.size, 6, none⟩ = some (.int .i64 s.xl) ∧ w9.cell? ⟨w.heap.size, 7, none⟩ = some (.int .i64 s.xh) ∧ w9.cell? ⟨w.heap.size, 8, none⟩ = some (.int .i64 s.yl) ∧ w9.cell? ⟨w.heap.size, 9, none⟩ = some (.int .i64 s.yh) ∧ w9.cell? ⟨w.heap.size, 10, none⟩ = some (.slice (some ⟨pb, po, none⟩) len cap) := ⟨hbx9 0, hbx9 1, hbx9 2, hbx9 3, hbx9 4, hbx9 5, hbx9 6, hbx9 7, hbx9 8, hbx9 9, hbx9 10⟩
        have HBX9 := Lib.hid hbx9
        clear hbx9 hB9
        go_wp2_with fail
        refine (HC.out _ hw9).mono ?_
        rintro e w11 ⟨hb11, a2, cap2, rfl, hown⟩
        obtain ⟨gr, cap3, hv, hgr⟩ := ownsRow_pos hown (by omega)
        cases hv
        have hcell := fun j u (hj : (s.pigs.flatMap Pig.cells)[j]? = some u) => hown.cells (g := gr) rfl j u hj
        have hpg : ∀ j u, q.cells[j]? = some u → w11.cell? ⟨gr, k * 5 + j, none⟩ = some u := fun j u hj => by
          have hj5 : j < 5 := by have := (List.getElem?_eq_some_iff.1 hj).1; simpa [Pig.cells] using this
          have := hcell (k * 5 + j) u (by
            have e1 : (k * 5 + j) / 5 = k := by omega
            have e2 : (k * 5 + j) % 5 = j := by omega
            have e3 := HLEN.out
            rw [flat_get5 _ Pig.len _ _ (by omega)]
            have hq2 := HQ.out
            rw [List.getElem?_eq_getElem (by omega)] at hq2
            simp only [e1, e2, Option.some.inj hq2]; exact hj)
          rwa [addr_add] at this
        have c0 : w11.cell? ⟨gr, k * 5, none⟩ = some (.int .i64 q.P) := hpg 0 _ rfl
        have c1 : w11.cell? ⟨gr, k * 5 + 1, none⟩ = some (.int .i64 q.t) := hpg 1 _ rfl
        have c2 : w11.cell? ⟨gr, k * 5 + 2, none⟩ = some (.int .i64 q.a) := hpg 2 _ rfl
        have c3 : w11.cell? ⟨gr, k * 5 + 3, none⟩ = some (.int .i64 q.c) := hpg 3 _ rfl
        have c4 : w11.cell? ⟨gr, k * 5 + 4, none⟩ = some (.int .i64 q.m) := hpg 4 _ rfl
        have hgl : gr < w11.heap.size := World.block_lt_of_cell? _ _ c0
        have hfz : ∀ i, w11.frozen? ⟨gr, i, none⟩ = false := by
          rcases hown.2 with ⟨h0, _⟩ | ⟨g', cap', cur, hv, _, hb, _⟩
          · cases h0
          · cases hv; intro i; simp [World.frozen?, hb]
        obtain ⟨hc11, hf11⟩ := bcell hb11
        have hz11 := hb11.size
        have hw11 := hw9.trans (hb11.mono hw9.size)
        have HO := Lib.hid hown
        clear hb11 hown hcell hpg
        have p11 : w.heap.size < w11.heap.size := by omega
        have hgn : gr ≠ w11.heap.size := by omega
        have hgn2 : gr ≠ w11.heap.size + 1 := by omega
        have hgw : gr ≠ w.heap.size := by omega
        obtain ⟨qc1, qc2⟩ : 0 ≤ q.c ∧ q.c ≤ 99 := ⟨hqc.1, hqc.2.1⟩
        clear hqc
        go_wp2_with fail
        obtain ⟨W5, hW5⟩ : ∃ W5, ((((((w11.setCell ⟨gr, k * 5, none⟩ (.int .i64 q.P)).setCell ⟨gr, k * 5 + 1, none⟩ (.int .i64 q.t)).setCell ⟨gr, k * 5 + 2, none⟩ (.int .i64 q.a)).setCell ⟨gr, k * 5 + 3, none⟩ (.int .i64 (q.c + 1))).setCell ⟨gr, k * 5 + 4, none⟩ (.int .i64 q.m)).alloc (.cells #[.int .i64 s.P, .int .i64 s.tl, .int .i64 s.th, .int .i64 s.al, .int .i64 s.ah, .int .i64 s.room, .int .i64 s.xl, .int .i64 s.xh, .int .i64 s.yl, .int .i64 s.yh, .slice (some ⟨gr, 0, none⟩) len cap2] 28)).alloc (.cells #[.int .i64 q.P, .int .i64 q.t, .int .i64 q.a, .int .i64 (q.c + 1), .int .i64 q.m] 70) = W5 := ⟨_, rfl⟩
        rw [hW5]
        have hPW : PigsAt W5 (some ⟨gr, 0, none⟩) len (s.pigs.set k { q with c := q.c + 1 }) := by
          rw [← hW5]
          exact (pigs_own (World.ownsRow.alloc (World.ownsRow.alloc (own_set5 (p := { q with c := q.c + 1 }) HO.out hk) _) _) hm).1
        have hBW : Below w.heap.size w W5 := by
          rw [← hW5]
          refine Below.alloc (Below.alloc ?_ (by first | (simp; done) | (simp; omega) | omega) _) (by first | (simp; done) | (simp; omega) | omega) _
          refine Below.setCell (Below.setCell (Below.setCell (Below.setCell (Below.setCell hw11 (by first | (simp; done) | (simp; omega) | omega) _) (by first | (simp; done) | (simp; omega) | omega) _) (by first | (simp; done) | (simp; omega) | omega) _) (by first | (simp; done) | (simp; omega) | omega) _) (by first | (simp; done) | (simp; omega) | omega) _
        have hzW : w11.heap.size + 1 < W5.heap.size := by rw [← hW5]; simp
        have hoW : ∀ i, W5.cell? ⟨w11.heap.size, i, none⟩ = (#[.int .i64 s.P, .int .i64 s.tl, .int .i64 s.th, .int .i64 s.al, .int .i64 s.ah, .int .i64 s.room, .int .i64 s.xl, .int .i64 s.xh, .int .i64 s.yl, .int .i64 s.yh, .slice (some ⟨gr, 0, none⟩) len cap2] : Array Value)[i]? := fun i => by rw [← hW5]; clear hW5; go_simp
        have hxW : ∀ i, W5.cell? ⟨w.heap.size, i, none⟩ = (#[.int .i64 s.P, .int .i64 s.tl, .int .i64 s.th, .int .i64 s.al, .int .i64 s.ah, .int .i64 s.room, .int .i64 s.xl, .int .i64 s.xh, .int .i64 s.yl, .int .i64 s.yh, .slice (some ⟨pb, po, none⟩) len cap] : Array Value)[i]? := fun i => by
          refine Eq.trans ?_ ((hc11 _ _ p9).trans (HBX9.out i))
          rw [← hW5]; clear hW5; go_simp
        clear hW5 c0 c1 c2 c3 c4 hfz hc11 hf11 x0 x1 x2 x3 x4 x5 x6 x7 x8 x9 x10
        have HPW := Lib.hid hPW
        have HOW := Lib.hid hoW
        have HXW := Lib.hid hxW
        clear hPW hoW hxW
        cases r3
        · refine (HK3.out _ _ _ HPW.out).mono ?_
          rintro e w12 ⟨rfl, hb12⟩
          have hw12 := hBW.trans (hb12.mono hBW.size)
          clear hb12
          go_wp2_with fail
          refine (HW.out _).mono ?_
          rintro e w13 ⟨rfl, hb13⟩
          have hw13 := hw12.trans (hb13.mono hw12.size)
          clear hb13
          go_wp2_with fail
          go_ret
          exact ⟨rfl, hw13⟩
        · refine (HK3.out _ _ _ HPW.out).mono ?_
          rintro e w12 ⟨rfl, hb12⟩
          have hz12 := hb12.size
          have hw12 := hBW.trans (hb12.mono hBW.size)
          have HP12 := Lib.hid (HPW.out.below hb12)
          have hb := fun i => (hb12.cell (p := ⟨w.heap.size, i, none⟩) (show w.heap.size < W5.heap.size by omega)).trans (HXW.out i)
          obtain ⟨x0, x1, x2, x3, x4, x5, x6, x7, x8, x9, x10⟩ : w12.cell? ⟨w.heap.size, 0, none⟩ = some (.int .i64 s.P) ∧ w12.cell? ⟨w.heap.size, 1, none⟩ = some (.int .i64 s.tl) ∧ w12.cell? ⟨w.heap.size, 2, none⟩ = some (.int .i64 s.th) ∧ w12.cell? ⟨w.heap.size, 3, none⟩ = some (.int .i64 s.al) ∧ w12.cell? ⟨w.heap.size, 4, none⟩ = some (.int .i64 s.ah) ∧ w12.cell? ⟨w.heap.size, 5, none⟩ = some (.int .i64 s.room) ∧ w12.cell? ⟨w.heap.size, 6, none⟩ = some (.int .i64 s.xl) ∧ w12.cell? ⟨w.heap.size, 7, none⟩ = some (.int .i64 s.xh) ∧ w12.cell? ⟨w.heap.size, 8, none⟩ = some (.int .i64 s.yl) ∧ w12.cell? ⟨w.heap.size, 9, none⟩ = some (.int .i64 s.yh) ∧ w12.cell? ⟨w.heap.size, 10, none⟩ = some (.slice (some ⟨pb, po, none⟩) len cap) := ⟨hb 0, hb 1, hb 2, hb 3, hb 4, hb 5, hb 6, hb 7, hb 8, hb 9, hb 10⟩
          have HX12 := Lib.hid hb
          have HO12 := Lib.hid (fun i => (hb12.cell (p := ⟨w11.heap.size, i, none⟩) (show w11.heap.size < W5.heap.size by omega)).trans (HOW.out i))
          clear hb hb12
          go_wp2_with fail
          refine (HC0.out _ hw12).mono ?_
          rintro e w13 ⟨rfl, hb13⟩
          have hz13 := hb13.size
          have hw13 := hw12.trans (hb13.mono hw12.size)
          have HP13 := Lib.hid (HP12.out.below hb13)
          clear x0 x1 x2 x3 x4 x5 x6 x7 x8 x9 x10
          have hb := fun i => (hb13.cell (p := ⟨w11.heap.size, i, none⟩) (show w11.heap.size < w12.heap.size by omega)).trans (HO12.out i)
          obtain ⟨x0, x1, x2, x3, x4, x5, x6, x7, x8, x9, x10⟩ : w13.cell? ⟨w11.heap.size, 0, none⟩ = some (.int .i64 s.P) ∧ w13.cell? ⟨w11.heap.size, 1, none⟩ = some (.int .i64 s.tl) ∧ w13.cell? ⟨w11.heap.size, 2, none⟩ = some (.int .i64 s.th) ∧ w13.cell? ⟨w11.heap.size, 3, none⟩ = some (.int .i64 s.al) ∧ w13.cell? ⟨w11.heap.size, 4, none⟩ = some (.int .i64 s.ah) ∧ w13.cell? ⟨w11.heap.size, 5, none⟩ = some (.int .i64 s.room) ∧ w13.cell? ⟨w11.heap.size, 6, none⟩ = some (.int .i64 s.xl) ∧ w13.cell? ⟨w11.heap.size, 7, none⟩ = some (.int .i64 s.xh) ∧ w13.cell? ⟨w11.heap.size, 8, none⟩ = some (.int .i64 s.yl) ∧ w13.cell? ⟨w11.heap.size, 9, none⟩ = some (.int .i64 s.yh) ∧ w13.cell? ⟨w11.heap.size, 10, none⟩ = some (.slice (some ⟨gr, 0, none⟩) len cap2) := ⟨hb 0, hb 1, hb 2, hb 3, hb 4, hb 5, hb 6, hb 7, hb 8, hb 9, hb 10⟩
          have HX13 := Lib.hid (fun i => (hb13.cell (p := ⟨w.heap.size, i, none⟩) (show w.heap.size < w12.heap.size by omega)).trans (HX12.out i))
          clear hb hb13
          go_wp2_with fail
          refine (HC3.out trivial _ _ _ HP13.out).mono ?_
          rintro e w14 ⟨rfl, hb14⟩
          have hw14 := hw13.trans (hb14.mono hw13.size)
          clear x0 x1 x2 x3 x4 x5 x6 x7 x8 x9 x10
          have x10 := (hb14.cell (p := ⟨w.heap.size, 10, none⟩) (show w.heap.size < w13.heap.size by omega)).trans (HX13.out 10)
          have G4 : w14.cell? ⟨pb, po + k * 5 + 4, none⟩ = some (.int .i64 q.m) := (hw14.cell (p := ⟨pb, po + k * 5 + 4, none⟩) hpb).trans g4
          obtain ⟨e1, e2, e3⟩ := HPE.out trivial
          clear hb14
          simp at x10
          rcases Int.lt_or_le m0 100000 with hlt | hle
          · go_wp2_with fail
            refine (HW.out _).mono ?_
            rintro e w15 ⟨rfl, hb15⟩
            have hw15 := hw14.trans (hb15.mono hw14.size)
            clear hb15
            go_wp2_with fail
            go_ret
            exact ⟨rfl, hw15⟩
          · have e4 : n0 = 100000 := by omega
            have e5 : (n0 == 100000) = true := by simp [e4]
            have e6 : decide (m0 < 100000) = false := by simpa using hle
            clear e3 e4
            go_wp2_with fail
            refine (HW.out _).mono ?_
            rintro e w15 ⟨rfl, hb15⟩
            have hw15 := hw14.trans (hb15.mono hw14.size)
            clear hb15
            go_wp2_with fail
            go_ret
            exact ⟨rfl, hw15⟩
end Go.Proofs.Ytajabapcmpmboaa
