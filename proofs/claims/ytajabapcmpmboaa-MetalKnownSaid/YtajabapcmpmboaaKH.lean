/- Known and Worth: the walks. -/
import Derived.Test.YtajabapcmpmboaaKD
import Derived.Test.YtajabapcmpmboaaM
namespace Go.Proofs.Ytajabapcmpmboaa
set_option linter.unusedVariables false
set_option linter.unusedSimpArgs false
open Go.RowKit

def knownCells (s : Shop) : Array Value := if s.ok then (knownTwo s.knownR).1 else #[.int .i64 0, .int .i64 0]
def Shop.knownCode (s : Shop) : Int := if s.ok then (match s.knownR with | none => 3 | some _ => 0) else 10
/-- What an analysis is worth. -/
def Shop.worthOf (s : Shop) : Int × Int :=
  if s.ok then (match s.knownR with
    | none => (0, 3)
    | some (_, h) => match s.best 0 with
      | none => (0, 3)
      | some (_, m) => (m - h, 0))
  else (0, 10)

theorem known_is (s : Shop) (a : Option Addr) (len cap : Nat) (cs : Array Value) (b : Bool) (w : World) (hp : PigsAt w a len s.pigs) (ho : s.ok = true) (hk : knownTwo s.knownR = (cs, b)) :
    Calls Try.prog 91 #[.agg #[.int .i64 s.P, .int .i64 s.tl, .int .i64 s.th, .int .i64 s.al, .int .i64 s.ah, .int .i64 s.room, .int .i64 s.xl, .int .i64 s.xh, .int .i64 s.yl, .int .i64 s.yh, .slice a len cap]] w fun e w' => e = .returned (.tuple #[.agg cs, .bool b]) ∧ Below w.heap.size w w' :=
  (known_any s a len cap w hp ho).mono fun e w' ⟨⟨l, hl, he⟩, hb⟩ => ⟨by rw [he, known_perm ho hl (sorted_is s), show knownOf s s.sorted = s.knownR from rfl, hk], hb⟩

set_option maxHeartbeats 1000000 in
theorem Known_any (s : Shop) (a : Option Addr) (len cap : Nat) (w : World) (hp : PigsAt w a len s.pigs) :
    Calls Try.prog 39 #[.agg #[.int .i64 s.P, .int .i64 s.tl, .int .i64 s.th, .int .i64 s.al, .int .i64 s.ah, .int .i64 s.room, .int .i64 s.xl, .int .i64 s.xh, .int .i64 s.yl, .int .i64 s.yh, .slice a len cap]] w fun e w' => e = .returned (.tuple #[.agg (knownCells s), .int .i64 s.knownCode]) ∧ Below w.heap.size w w' := by
  rcases ho : s.ok with - | -
  · have HC := Lib.hid (fun w1 (hb : Below w.heap.size w w1) => Check_is s a len cap 10 (by simp [ho]) w1 (hp.below hb))
    have HK := Lib.hid (show knownCells s = #[.int .i64 0, .int .i64 0] ∧ s.knownCode = 10 by simp [knownCells, Shop.knownCode, ho])
    clear hp
    go_enter Try.func39, Try.ntmps39
    go_wp2_with fail
    refine (HC.out _ (by repeat (first | exact Below.refl _ _ | (refine Below.alloc ?_ (by first | omega | (simp; omega) | simp) _) | (refine Below.setCell ?_ (by first | omega | (simp; omega) | simp) _) | refine Below.drew ?_))).mono ?_
    rintro e w1 ⟨rfl, hb1⟩
    obtain ⟨hc1, hf1⟩ := bcell hb1
    have hz1 := hb1.size
    simp at hz1
    have HB := Lib.hid (((by repeat (first | exact Below.refl _ _ | (refine Below.alloc ?_ (by first | omega | (simp; omega) | simp) _) | (refine Below.setCell ?_ (by first | omega | (simp; omega) | simp) _) | refine Below.drew ?_)) : Below w.heap.size w _).trans (hb1.mono (by simp; omega)))
    clear hb1
    have q2 : w.heap.size < w1.heap.size := by omega
    have q3 : w.heap.size + 1 < w1.heap.size := by omega
    go_wp2_with fail
    refine bodyPost_ret (v := .tuple #[.agg #[.int .i64 0, .int .i64 0], .int .i64 10]) (by simp [results, Try.results39, go_sem, hc1, hf1, q2, q3]) rfl ⟨by rw [HK.out.1, HK.out.2], ?_⟩
    exact (HB.out.setCell (by simp) _).setCell (by simp) _
  · have HC := Lib.hid (fun w1 (hb : Below w.heap.size w w1) => Check_is s a len cap 0 (by simp [ho]) w1 (hp.below hb))
    rcases hk : s.knownR with - | ⟨x, y⟩
    · have HKN := Lib.hid (fun w1 (hb : Below w.heap.size w w1) => known_is s a len cap #[.int .i64 0, .int .i64 0] false w1 (hp.below hb) ho (by rw [hk]; rfl))
      have HK := Lib.hid (show knownCells s = #[.int .i64 0, .int .i64 0] ∧ s.knownCode = 3 by simp [knownCells, Shop.knownCode, ho, hk, knownTwo])
      clear hp hk
      go_enter Try.func39, Try.ntmps39
      go_wp2_with fail
      refine (HC.out _ (by repeat (first | exact Below.refl _ _ | (refine Below.alloc ?_ (by first | omega | (simp; omega) | simp) _) | (refine Below.setCell ?_ (by first | omega | (simp; omega) | simp) _) | refine Below.drew ?_))).mono ?_
      rintro e w1 ⟨rfl, hb1⟩
      obtain ⟨hc1, hf1⟩ := bcell hb1
      have hz1 := hb1.size
      simp at hz1
      have hbw := (((by repeat (first | exact Below.refl _ _ | (refine Below.alloc ?_ (by first | omega | (simp; omega) | simp) _) | (refine Below.setCell ?_ (by first | omega | (simp; omega) | simp) _) | refine Below.drew ?_)) : Below w.heap.size w _).trans (hb1.mono (by simp; omega)))
      clear hb1
      have q2 : w.heap.size < w1.heap.size := by omega
      have q3 : w.heap.size + 1 < w1.heap.size := by omega
      go_wp2_with fail
      refine (HKN.out _ hbw).mono ?_
      rintro e w2 ⟨rfl, hb2⟩
      obtain ⟨hc2, hf2⟩ := bcell hb2
      have hz2 := hb2.size
      have HB := Lib.hid (hbw.trans (hb2.mono hbw.size))
      clear hb2 hbw
      have q4 : w.heap.size < w2.heap.size := by omega
      have q5 : w.heap.size + 1 < w2.heap.size := by omega
      go_wp2_with fail
      refine bodyPost_ret (v := .tuple #[.agg #[.int .i64 0, .int .i64 0], .int .i64 3]) (by simp [results, Try.results39, go_sem, hc1, hf1, hc2, hf2, q2, q3, q4, q5]) rfl ⟨by rw [HK.out.1, HK.out.2], ?_⟩
      exact ((HB.out.setCell (by simp) _).setCell (by simp) _).alloc (by simpa using HB.out.size) _
    · have HKN := Lib.hid (fun w1 (hb : Below w.heap.size w w1) => known_is s a len cap #[.int .i64 x, .int .i64 y] true w1 (hp.below hb) ho (by rw [hk]; rfl))
      have HK := Lib.hid (show knownCells s = #[.int .i64 x, .int .i64 y] ∧ s.knownCode = 0 by simp [knownCells, Shop.knownCode, ho, hk, knownTwo])
      clear hp hk
      go_enter Try.func39, Try.ntmps39
      go_wp2_with fail
      refine (HC.out _ (by repeat (first | exact Below.refl _ _ | (refine Below.alloc ?_ (by first | omega | (simp; omega) | simp) _) | (refine Below.setCell ?_ (by first | omega | (simp; omega) | simp) _) | refine Below.drew ?_))).mono ?_
      rintro e w1 ⟨rfl, hb1⟩
      obtain ⟨hc1, hf1⟩ := bcell hb1
      have hz1 := hb1.size
      simp at hz1
      have hbw := (((by repeat (first | exact Below.refl _ _ | (refine Below.alloc ?_ (by first | omega | (simp; omega) | simp) _) | (refine Below.setCell ?_ (by first | omega | (simp; omega) | simp) _) | refine Below.drew ?_)) : Below w.heap.size w _).trans (hb1.mono (by simp; omega)))
      clear hb1
      have q2 : w.heap.size < w1.heap.size := by omega
      have q3 : w.heap.size + 1 < w1.heap.size := by omega
      go_wp2_with fail
      refine (HKN.out _ hbw).mono ?_
      rintro e w2 ⟨rfl, hb2⟩
      obtain ⟨hc2, hf2⟩ := bcell hb2
      have hz2 := hb2.size
      have HB := Lib.hid (hbw.trans (hb2.mono hbw.size))
      clear hb2 hbw
      have q4 : w.heap.size < w2.heap.size := by omega
      have q5 : w.heap.size + 1 < w2.heap.size := by omega
      go_wp2_with fail
      refine bodyPost_ret (v := .tuple #[.agg #[.int .i64 x, .int .i64 y], .int .i64 0]) (by simp [results, Try.results39, go_sem, hc1, hf1, hc2, hf2, q2, q3, q4, q5]) rfl ⟨by rw [HK.out.1, HK.out.2], ?_⟩
      exact ((HB.out.setCell (by simp) _).setCell (by simp) _).alloc (by simpa using HB.out.size) _

theorem Known_is (s : Shop) (a : Option Addr) (len cap : Nat) (x y v : Int) (w : World) (hp : PigsAt w a len s.pigs) (h : knownCells s = #[.int .i64 x, .int .i64 y] ∧ s.knownCode = v) :
    Calls Try.prog 39 #[.agg #[.int .i64 s.P, .int .i64 s.tl, .int .i64 s.th, .int .i64 s.al, .int .i64 s.ah, .int .i64 s.room, .int .i64 s.xl, .int .i64 s.xh, .int .i64 s.yl, .int .i64 s.yh, .slice a len cap]] w fun e w' => e = .returned (.tuple #[.agg #[.int .i64 x, .int .i64 y], .int .i64 v]) ∧ Below w.heap.size w w' := by
  rw [← h.1, ← h.2]; exact Known_any s a len cap w hp
theorem Cheap_is (s : Shop) (a : Option Addr) (len cap : Nat) (n v : Int) (w : World) (hp : PigsAt w a len s.pigs) (h : s.least 0 = (n, v)) :
    Calls Try.prog 32 #[.agg #[.int .i64 s.P, .int .i64 s.tl, .int .i64 s.th, .int .i64 s.al, .int .i64 s.ah, .int .i64 s.room, .int .i64 s.xl, .int .i64 s.xh, .int .i64 s.yl, .int .i64 s.yh, .slice a len cap]] w fun e w' => e = .returned (.tuple #[.int .i64 n, .int .i64 v]) ∧ Below w.heap.size w w' := by
  have h1 := Cheap_any s a len cap w hp
  rw [h] at h1
  exact h1

theorem best_mem {s : Shop} {f : List Int → Int} : ∀ (l : List (List Int)) (y : List Int) (m : Int), bestOf s f l = some (y, m) → y ∈ l ∧ m = f y := by
  intro l
  have key : ∀ (r : List (List Int)) (o : Option (List Int × Int)) (P : List Int → Prop), (∀ y m, o = some (y, m) → P y ∧ m = f y) → (∀ x ∈ r, P x) → ∀ y m, r.foldl (stepBest s f) o = some (y, m) → P y ∧ m = f y := by
    intro r
    induction r with
    | nil => intro o P ho _ y m h; exact ho y m h
    | cons x r ih =>
      intro o P ho hr y m h
      rw [List.foldl_cons] at h
      refine ih _ P ?_ (fun z hz => hr z (List.mem_cons_of_mem _ hz)) y m h
      intro y' m' h'
      unfold stepBest at h'
      split at h'
      · split at h'
        · obtain ⟨rfl, rfl⟩ := by simpa using h'
          exact ⟨hr _ (List.mem_cons_self ..), rfl⟩
        · rename_i y1 m1
          split at h'
          · obtain ⟨rfl, rfl⟩ := by simpa using h'
            exact ⟨hr _ (List.mem_cons_self ..), rfl⟩
          · exact ho y' m' h'
      · exact ho y' m' h'
  intro y m h
  exact key l none (fun y => y ∈ l) (fun y m h => by cases h) (fun x hx => hx) y m h
theorem cheap_fair {s : Shop} {y : List Int} {m : Int} (ho : s.ok = true) (h : s.best 0 = some (y, m)) : 0 ≤ m ∧ m ≤ 2000 := by
  obtain ⟨h1, rfl⟩ := best_mem _ _ _ h
  have h2 := (List.mem_filter.1 h1).1
  have hl := allL_len _ _ h2
  simp only [Shop.most, List.length_map] at hl
  have := tot_all Pig.c bd_pence s.pigs y (Shop.few_all ho h2) rfl hl
  have hbd := Shop.ok_bd ho
  simp only [askF, if_true]
  omega
theorem offer_fair {s : Shop} (ho : s.ok = true) {o : Offer} (h : o ∈ s.sorted) : 0 ≤ o.c ∧ o.c ≤ 2000 := by
  have h1 := (sorted_is s).1.mem_iff.1 h
  simp only [Shop.offersOf, List.mem_filter, List.mem_map] at h1
  obtain ⟨⟨x, hx, rfl⟩, -⟩ := h1
  have hl := allL_len _ _ hx.1
  simp only [Shop.most, List.length_map] at hl
  have := tot_all Pig.c bd_pence s.pigs x (Shop.few_all ho hx.1) rfl hl
  have hbd := Shop.ok_bd ho
  simp only [Shop.offerOf]
  omega
theorem most_fair {s : Shop} (ho : s.ok = true) (al : Int) (n : Nat) (tl : Int) : ∀ (m : Nat) (h : Int), mostOf al n s.sorted m tl = some h → 0 ≤ h ∧ h ≤ 2000
  | 0, h, e => by simp [mostOf] at e; omega
  | m + 1, h, e => by
    rw [mostOf] at e
    cases h1 : mostOf al n s.sorted m tl with
    | none => rw [h1] at e; cases e
    | some h' =>
      rw [h1] at e
      cases h2 : dearOf (tl + m) al n [] s.sorted with
      | none => rw [h2] at e; cases e
      | some c =>
        rw [h2] at e
        have e3 := most_fair ho al n tl m h' h1
        obtain ⟨k, hk, h4, -⟩ := dear_some _ _ h2
        have e5 := offer_fair ho (List.getElem_mem hk)
        simp only [Option.some.injEq] at e
        rw [← e, ← h4]; unfold maxI; split <;> omega
theorem known_fair {s : Shop} {x y : Int} (ho : s.ok = true) (h : s.knownR = some (x, y)) : 0 ≤ y ∧ y ≤ 2000 := by
  unfold Shop.knownR knownOf at h
  cases hl : s.sorted with
  | nil => rw [hl] at h; cases h
  | cons o r =>
    rw [hl] at h
    simp only [Option.map_eq_some_iff] at h
    obtain ⟨h', h1, h2⟩ := h
    cases h2
    rw [← hl] at h1
    exact most_fair ho _ _ _ _ _ h1

set_option maxHeartbeats 2000000 in
theorem Worth_any (s : Shop) (a : Option Addr) (len cap : Nat) (w : World) (hp : PigsAt w a len s.pigs) :
    Calls Try.prog 41 #[.agg #[.int .i64 s.P, .int .i64 s.tl, .int .i64 s.th, .int .i64 s.al, .int .i64 s.ah, .int .i64 s.room, .int .i64 s.xl, .int .i64 s.xh, .int .i64 s.yl, .int .i64 s.yh, .slice a len cap]] w fun e w' => e = .returned (.tuple #[.int .i64 s.worthOf.1, .int .i64 s.worthOf.2]) ∧ Below w.heap.size w w' := by
  rcases ho : s.ok with - | -
  · have HK := Lib.hid (fun w1 (hb : Below w.heap.size w w1) => Known_is s a len cap 0 0 10 w1 (hp.below hb) (by simp [knownCells, Shop.knownCode, ho]))
    have HW := Lib.hid (show s.worthOf = (0, 10) by simp [Shop.worthOf, ho])
    clear hp
    go_enter Try.func41, Try.ntmps41
    go_wp2_with fail
    refine (HK.out _ (by repeat (first | exact Below.refl _ _ | (refine Below.alloc ?_ (by first | omega | (simp; omega) | simp) _) | (refine Below.setCell ?_ (by first | omega | (simp; omega) | simp) _) | refine Below.drew ?_))).mono ?_
    rintro e w1 ⟨rfl, hb1⟩
    have HB := Lib.hid (((by repeat (first | exact Below.refl _ _ | (refine Below.alloc ?_ (by first | omega | (simp; omega) | simp) _) | (refine Below.setCell ?_ (by first | omega | (simp; omega) | simp) _) | refine Below.drew ?_)) : Below w.heap.size w _).trans (hb1.mono (by simp)))
    clear hb1
    go_wp2_with fail
    go_ret2
    exact ⟨by rw [HW.out]; rfl, HB.out.alloc HB.out.size _⟩
  · rcases hk : s.knownR with - | ⟨x, y⟩
    · have HK := Lib.hid (fun w1 (hb : Below w.heap.size w w1) => Known_is s a len cap 0 0 3 w1 (hp.below hb) (by simp [knownCells, Shop.knownCode, ho, hk, knownTwo]))
      have HW := Lib.hid (show s.worthOf = (0, 3) by simp [Shop.worthOf, ho, hk])
      clear hp
      go_enter Try.func41, Try.ntmps41
      go_wp2_with fail
      refine (HK.out _ (by repeat (first | exact Below.refl _ _ | (refine Below.alloc ?_ (by first | omega | (simp; omega) | simp) _) | (refine Below.setCell ?_ (by first | omega | (simp; omega) | simp) _) | refine Below.drew ?_))).mono ?_
      rintro e w1 ⟨rfl, hb1⟩
      have HB := Lib.hid (((by repeat (first | exact Below.refl _ _ | (refine Below.alloc ?_ (by first | omega | (simp; omega) | simp) _) | (refine Below.setCell ?_ (by first | omega | (simp; omega) | simp) _) | refine Below.drew ?_)) : Below w.heap.size w _).trans (hb1.mono (by simp)))
      clear hb1
      go_wp2_with fail
      go_ret2
      exact ⟨by rw [HW.out]; rfl, HB.out.alloc HB.out.size _⟩
    · have hfair := known_fair ho hk
      have HK := Lib.hid (fun w1 (hb : Below w.heap.size w w1) => Known_is s a len cap x y 0 w1 (hp.below hb) (by simp [knownCells, Shop.knownCode, ho, hk, knownTwo]))
      rcases hb0 : s.best 0 with - | ⟨u, m⟩
      · have HCH := Lib.hid (fun w1 (hb : Below w.heap.size w w1) => Cheap_is s a len cap 0 3 w1 (hp.below hb) (by simp [Shop.least, ho, hb0]))
        have HW := Lib.hid (show s.worthOf = (0, 3) by simp [Shop.worthOf, ho, hk, hb0])
        clear hp hk hb0
        go_enter Try.func41, Try.ntmps41
        go_wp2_with fail
        refine (HK.out _ (by repeat (first | exact Below.refl _ _ | (refine Below.alloc ?_ (by first | omega | (simp; omega) | simp) _) | (refine Below.setCell ?_ (by first | omega | (simp; omega) | simp) _) | refine Below.drew ?_))).mono ?_
        rintro e w1 ⟨rfl, hb1⟩
        obtain ⟨hc1, hf1⟩ := bcell hb1
        have hz1 := hb1.size
        simp at hz1
        have hbw := (((by repeat (first | exact Below.refl _ _ | (refine Below.alloc ?_ (by first | omega | (simp; omega) | simp) _) | (refine Below.setCell ?_ (by first | omega | (simp; omega) | simp) _) | refine Below.drew ?_)) : Below w.heap.size w _).trans (hb1.mono (by simp)))
        clear hb1
        have q2 : w.heap.size < w1.heap.size := by omega
        go_wp2_with fail
        refine (HCH.out _ (hbw.alloc hbw.size _)).mono ?_
        rintro e w2 ⟨rfl, hb2⟩
        have HB := Lib.hid ((hbw.alloc hbw.size _).trans (hb2.mono (by simp; omega)))
        clear hb2 hbw
        go_wp2_with fail
        go_ret2
        exact ⟨by rw [HW.out]; rfl, HB.out⟩
      · have hfm := cheap_fair ho hb0
        have HCH := Lib.hid (fun w1 (hb : Below w.heap.size w w1) => Cheap_is s a len cap m 0 w1 (hp.below hb) (by simp [Shop.least, ho, hb0]))
        have HW := Lib.hid (show s.worthOf = (m - y, 0) by simp [Shop.worthOf, ho, hk, hb0])
        clear hp hk hb0
        go_enter Try.func41, Try.ntmps41
        go_wp2_with fail
        refine (HK.out _ (by repeat (first | exact Below.refl _ _ | (refine Below.alloc ?_ (by first | omega | (simp; omega) | simp) _) | (refine Below.setCell ?_ (by first | omega | (simp; omega) | simp) _) | refine Below.drew ?_))).mono ?_
        rintro e w1 ⟨rfl, hb1⟩
        obtain ⟨hc1, hf1⟩ := bcell hb1
        have hz1 := hb1.size
        simp at hz1
        have hbw := (((by repeat (first | exact Below.refl _ _ | (refine Below.alloc ?_ (by first | omega | (simp; omega) | simp) _) | (refine Below.setCell ?_ (by first | omega | (simp; omega) | simp) _) | refine Below.drew ?_)) : Below w.heap.size w _).trans (hb1.mono (by simp)))
        clear hb1
        have q2 : w.heap.size < w1.heap.size := by omega
        go_wp2_with fail
        refine (HCH.out _ (hbw.alloc hbw.size _)).mono ?_
        rintro e w2 ⟨rfl, hb2⟩
        obtain ⟨hc2, hf2⟩ := bcell hb2
        have HB := Lib.hid ((hbw.alloc hbw.size _).trans (hb2.mono (by simp; omega)))
        clear hb2 hbw
        obtain ⟨f1, f2⟩ := hfair
        obtain ⟨f3, f4⟩ := hfm
        go_wp2_with fail
        go_ret2
        exact ⟨by rw [HW.out]; rfl, HB.out⟩
end Go.Proofs.Ytajabapcmpmboaa
