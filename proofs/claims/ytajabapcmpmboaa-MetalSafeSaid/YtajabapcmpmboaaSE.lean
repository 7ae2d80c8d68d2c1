/- The reference's Safe. -/
import Derived.Test.YtajabapcmpmboaaSA
namespace Go.Proofs.Ytajabapcmpmboaa
set_option linter.unusedVariables false
set_option linter.unusedSimpArgs false
open Go.RowKit

def knownB (so all : Int) : Int := if so = 0 then 2 else if so = all then 1 else 3
theorem KnownOf_any (so all : Int) (w : World) : Calls Try.prog 75 #[.int .i64 so, .int .i64 all] w fun e w' => e = .returned (.int .i64 (knownB so all)) ∧ Below w.heap.size w w' := by
  unfold knownB
  by_cases h0 : so = 0
  · subst h0
    rw [if_pos rfl]
    go_enter Try.func75, Try.ntmps75
    go_wp2_with fail
    go_ret
    exact ⟨rfl, (by repeat (first | exact Below.refl _ _ | (refine Below.alloc ?_ (by first | omega | (simp; omega) | simp) _) | (refine Below.setCell ?_ (by first | omega | (simp; omega) | simp) _) | refine Below.drew ?_))⟩
  · rw [if_neg h0]
    have e1 : (so == 0) = false := by simpa using h0
    by_cases h1 : so = all
    · rw [if_pos h1]
      have e2 : (so == all) = true := by simpa using h1
      go_enter Try.func75, Try.ntmps75
      go_wp2_with fail
      go_ret
      exact ⟨rfl, (by repeat (first | exact Below.refl _ _ | (refine Below.alloc ?_ (by first | omega | (simp; omega) | simp) _) | (refine Below.setCell ?_ (by first | omega | (simp; omega) | simp) _) | refine Below.drew ?_))⟩
    · rw [if_neg h1]
      have e2 : (so == all) = false := by simpa using h1
      go_enter Try.func75, Try.ntmps75
      go_wp2_with fail
      go_ret
      exact ⟨rfl, (by repeat (first | exact Below.refl _ _ | (refine Below.alloc ?_ (by first | omega | (simp; omega) | simp) _) | (refine Below.setCell ?_ (by first | omega | (simp; omega) | simp) _) | refine Below.drew ?_))⟩

/-- What is counted behind the truths with less tin, and those with so much and less antimony. -/
def SafeInv (s : Shop) (P tl th al ah t a so all : Int) : Prop :=
  (0 ≤ so ∧ so ≤ all ∧ all ≤ 3000000 * (t - tl) + (a - al)) ∧
  (so = 0 → ∀ t' a', tl ≤ t' → al ≤ a' → a' ≤ ah → (t' < t ∨ t' = t ∧ a' < a) → allTo s P t' a' 4 = false) ∧
  (so = all → ∀ t' a', tl ≤ t' → al ≤ a' → a' ≤ ah → (t' < t ∨ t' = t ∧ a' < a) → allTo s P t' a' 4 = true) ∧
  (so ≠ 0 → ∃ t' a', (tl ≤ t' ∧ t' ≤ th) ∧ (al ≤ a' ∧ a' ≤ ah) ∧ allTo s P t' a' 4 = true) ∧
  (so ≠ all → ∃ t' a', (tl ≤ t' ∧ t' ≤ th) ∧ (al ≤ a' ∧ a' ≤ ah) ∧ allTo s P t' a' 4 = false)
theorem SafeInv.start (s : Shop) (P tl th al ah : Int) : SafeInv s P tl th al ah tl al 0 0 :=
  ⟨by omega, fun _ t' a' h1 h2 h3 h4 => by omega, fun _ t' a' h1 h2 h3 h4 => by omega, fun h => absurd rfl h, fun h => absurd rfl h⟩
theorem SafeInv.yes {s : Shop} {P tl th al ah t a so all : Int} (h : SafeInv s P tl th al ah t a so all) (ht : tl ≤ t ∧ t ≤ th) (ha : al ≤ a ∧ a ≤ ah) (hk : allTo s P t a 4 = true) : SafeInv s P tl th al ah t (a + 1) (so + 1) (all + 1) := by
  obtain ⟨h1, h2, h3, h4, h5⟩ := h
  refine ⟨by omega, fun h => by omega, fun h t' a' k1 k2 k3 k4 => ?_, fun _ => ⟨t, a, ht, ha, hk⟩, fun h => h5 (by omega)⟩
  by_cases e : t' = t ∧ a' = a
  · rw [e.1, e.2]; exact hk
  · exact h3 (by omega) t' a' k1 k2 k3 (by omega)
theorem SafeInv.no {s : Shop} {P tl th al ah t a so all : Int} (h : SafeInv s P tl th al ah t a so all) (ht : tl ≤ t ∧ t ≤ th) (ha : al ≤ a ∧ a ≤ ah) (hk : allTo s P t a 4 = false) : SafeInv s P tl th al ah t (a + 1) so (all + 1) := by
  obtain ⟨h1, h2, h3, h4, h5⟩ := h
  refine ⟨by omega, fun h t' a' k1 k2 k3 k4 => ?_, fun h => by omega, h4, fun _ => ⟨t, a, ht, ha, hk⟩⟩
  by_cases e : t' = t ∧ a' = a
  · rw [e.1, e.2]; exact hk
  · exact h2 h t' a' k1 k2 k3 (by omega)
theorem SafeInv.row {s : Shop} {P tl th al ah t a so all : Int} (h : SafeInv s P tl th al ah t a so all) (ha : ah < a) (ha' : a ≤ ah + 1) (hw : ah + 1 - al ≤ 3000000) : SafeInv s P tl th al ah (t + 1) al so all := by
  obtain ⟨h1, h2, h3, h4, h5⟩ := h
  exact ⟨by omega, fun h t' a' k1 k2 k3 k4 => h2 h t' a' k1 k2 k3 (by omega), fun h t' a' k1 k2 k3 k4 => h3 h t' a' k1 k2 k3 (by omega), h4, h5⟩
theorem safeI_some {s : Shop} {P tl th al ah : Int} (h : safeI s P tl th al ah ≠ 2) (h1 : tl ≤ th) (h2 : al ≤ ah) : ∃ t a, (tl ≤ t ∧ t ≤ th) ∧ (al ≤ a ∧ a ≤ ah) ∧ allTo s P t a 4 = true := by
  have h' : ¬ verdict tl th al ah (allowLo P s.xl) (allowHi P s.xh) (allowLo P s.yl) (allowHi P s.yh) = 2 := h
  rw [verdict_2] at h'
  have hg : (allowLo P s.xl ≤ th ∧ tl ≤ allowHi P s.xh ∧ allowLo P s.xl ≤ allowHi P s.xh) ∧ (allowLo P s.yl ≤ ah ∧ al ≤ allowHi P s.yh ∧ allowLo P s.yl ≤ allowHi P s.yh) ∨ ((allowLo P s.xl ≤ tl ∧ th ≤ allowHi P s.xh) ∧ (allowLo P s.yl ≤ al ∧ ah ≤ allowHi P s.yh)) := by omega
  clear h h'
  have hm : ∃ t a, (tl ≤ t ∧ t ≤ th) ∧ (al ≤ a ∧ a ≤ ah) ∧ (allowLo P s.xl ≤ t ∧ t ≤ allowHi P s.xh) ∧ (allowLo P s.yl ≤ a ∧ a ≤ allowHi P s.yh) := by
    refine ⟨max tl (allowLo P s.xl), max al (allowLo P s.yl), ?_⟩
    omega
  obtain ⟨t, a, ht, ha, k1, k2⟩ := hm
  refine ⟨t, a, ht, ha, ?_⟩
  rw [allTo_4]
  unfold allowLo allowHi at k1 k2
  generalize P * s.xl = e1 at *
  generalize P * s.xh = e2 at *
  generalize P * s.yl = e3 at *
  generalize P * s.yh = e4 at *
  omega
theorem SafeInv.done {s : Shop} {P tl th al ah t a so all : Int} (h : SafeInv s P tl th al ah t a so all) (ht : th < t) (h1 : tl ≤ th) (h2 : al ≤ ah) : knownB so all = safeI s P tl th al ah := by
  obtain ⟨-, g0, g1, n0, n1⟩ := h
  have never : ∀ t' a', (tl ≤ t' ∧ t' ≤ th) → (al ≤ a' ∧ a' ≤ ah) → allTo s P t' a' 4 = true → safeI s P tl th al ah ≠ 2 := by
    intro t' a' k1 k2 k3 h
    have h' : verdict tl th al ah (allowLo P s.xl) (allowHi P s.xh) (allowLo P s.yl) (allowHi P s.yh) = 2 := h
    rw [verdict_2] at h'
    rw [allTo_4] at k3
    unfold allowLo allowHi at h'
    generalize P * s.xl = e1 at *
    generalize P * s.xh = e2 at *
    generalize P * s.yl = e3 at *
    generalize P * s.yh = e4 at *
    omega
  have sure : ∀ t' a', (tl ≤ t' ∧ t' ≤ th) → (al ≤ a' ∧ a' ≤ ah) → allTo s P t' a' 4 = false → safeI s P tl th al ah ≠ 1 := by
    intro t' a' k1 k2 k3 h
    rw [safeI_1] at h
    have : allTo s P t' a' 4 = true := by
      rw [allTo_4]
      unfold allowLo allowHi at h
      generalize P * s.xl = e1 at *
      generalize P * s.xh = e2 at *
      generalize P * s.yl = e3 at *
      generalize P * s.yh = e4 at *
      omega
    rw [this] at k3; cases k3
  have h3 : safeI s P tl th al ah = 1 ∨ safeI s P tl th al ah = 2 ∨ safeI s P tl th al ah = 3 := by
    unfold safeI; split
    · exact .inl rfl
    · split
      · exact .inr (.inl rfl)
      · exact .inr (.inr rfl)
  unfold knownB
  by_cases e0 : so = 0
  · rw [if_pos e0]
    rcases Classical.em (safeI s P tl th al ah = 2) with h | h
    · exact h.symm
    · obtain ⟨t', a', k1, k2, k3⟩ := safeI_some h h1 h2
      rw [g0 e0 t' a' k1.1 k2.1 k2.2 (by omega)] at k3; cases k3
  · rw [if_neg e0]
    obtain ⟨t', a', k1, k2, k3⟩ := n0 e0
    have hn := never t' a' k1 k2 k3
    by_cases e1 : so = all
    · rw [if_pos e1]
      have a1 := (allTo_4 ..).1 (g1 e1 tl al (Int.le_refl _) (Int.le_refl _) h2 (by omega))
      have a2 := (allTo_4 ..).1 (g1 e1 th ah h1 h2 (Int.le_refl _) (by omega))
      refine ((safeI_1 s P tl th al ah).2 ?_).symm
      unfold allowLo allowHi
      generalize P * s.xl = e1 at *
      generalize P * s.xh = e2 at *
      generalize P * s.yl = e3 at *
      generalize P * s.yh = e4 at *
      omega
    · rw [if_neg e1]
      obtain ⟨t'', a'', k1, k2, k3⟩ := n1 e1
      have hs := sure t'' a'' k1 k2 k3
      omega

set_option maxHeartbeats 1000000 in
theorem refSafe_no (s : Shop) (a : Option Addr) (len cap : Nat) (x : Option Addr) (xlen xcap : Nat) (ns : List Int) (w : World) (hp : PigsAt w a len s.pigs) (hx : IntsAt w x xlen ns) (v : Int) (hv : s.code ns = v) (hno : v ≠ 0) :
    Calls Try.prog 23 #[.agg #[.int .i64 s.P, .int .i64 s.tl, .int .i64 s.th, .int .i64 s.al, .int .i64 s.ah, .int .i64 s.room, .int .i64 s.xl, .int .i64 s.xh, .int .i64 s.yl, .int .i64 s.yh, .slice a len cap], .slice x xlen xcap] w fun e w' => e = .returned (.tuple #[.int .i64 0, .int .i64 v]) ∧ Below w.heap.size w w' := by
  have HT := Lib.hid (fun w1 (hb : Below w.heap.size w w1) => open_any s a len cap x xlen xcap ns w1 (hp.below hb) (hx.below hb) v hv)
  have e1 : (v == 0) = false := by simpa using hno
  have e2 : (v != 0) = true := by simpa using hno
  clear hp hx hv hno
  go_enter Try.func23, Try.ntmps23
  go_wp2_with fail
  refine (HT.out _ (by repeat (first | exact Below.refl _ _ | (refine Below.alloc ?_ (by first | omega | (simp; omega) | simp) _) | (refine Below.setCell ?_ (by first | omega | (simp; omega) | simp) _) | refine Below.drew ?_))).mono ?_
  rintro e w1 ⟨rfl, hb1⟩
  have HB := Lib.hid hb1
  clear hb1
  go_wp2_with fail
  go_ret2
  exact ⟨rfl, (by repeat (first | exact Below.refl _ _ | (refine Below.alloc ?_ (by first | omega | (simp; omega) | simp) _) | (refine Below.setCell ?_ (by first | omega | (simp; omega) | simp) _) | refine Below.drew ?_ | (refine below_via (by assumption) (by first | omega | (simp; omega) | simp) ?_)))⟩

theorem name1 (w : World) (ds : Array Value) (U : TypeId) :
    ∃ W0, w.alloc (.cells ds U) = W0 ∧ Below w.heap.size w W0 ∧ (∀ i, W0.cell? ⟨w.heap.size, i, none⟩ = ds[i]?) ∧ W0.heap.size = w.heap.size + 1 :=
  ⟨_, rfl, (by repeat (first | exact Below.refl _ _ | (refine Below.alloc ?_ (by first | omega | (simp; omega) | simp) _) | (refine Below.setCell ?_ (by first | omega | (simp; omega) | simp) _) | refine Below.drew ?_)), fun i => by go_simp, by simp⟩

set_option maxRecDepth 100000 in
set_option maxHeartbeats 8000000 in
theorem refSafe_yes (s : Shop) (a : Option Addr) (len cap : Nat) (x : Option Addr) (xlen xcap : Nat) (ns : List Int) (w : World) (hp : PigsAt w a len s.pigs) (hx : IntsAt w x xlen ns) (hv : s.code ns = 0) :
    Calls Try.prog 23 #[.agg #[.int .i64 s.P, .int .i64 s.tl, .int .i64 s.th, .int .i64 s.al, .int .i64 s.ah, .int .i64 s.room, .int .i64 s.xl, .int .i64 s.xh, .int .i64 s.yl, .int .i64 s.yh, .slice a len cap], .slice x xlen xcap] w fun e w' => e = .returned (.tuple #[.int .i64 (s.safeOf ns), .int .i64 0]) ∧ Below w.heap.size w w' := by
  obtain ⟨ho, hadd⟩ := Shop.code_yes hv
  obtain ⟨hl, hfew⟩ := Shop.isAdd_len hadd
  obtain rfl : len = xlen := by rw [← hp.1, ← hx.1, hl]
  have HT := Lib.hid (fun w1 (hb : Below w.heap.size w w1) => open_any s a len cap x len xcap ns w1 (hp.below hb) (hx.below hb) 0 hv)
  have HA := fun w1 (hb : Below w.heap.size w w1) => refAfterOf_any s a len cap x xcap ns w1 (hp.below hb) (hx.below hb) ho hfew
  unfold potCells at HA
  replace HA := Lib.hid HA
  obtain ⟨f1, f2, f3, f4⟩ := pot_fair ho hadd
  have hord : s.tl + tot Pig.t s.pigs ns ≤ s.th + tot Pig.t s.pigs ns ∧ s.al + tot Pig.a s.pigs ns ≤ s.ah + tot Pig.a s.pigs ns := by have := Shop.ok_bd ho; omega
  have hP := Shop.tot_P ho hadd
  have hlims := Shop.lims ho
  have HE := Lib.hid (show safeI s (s.P + tot Pig.P s.pigs ns) (s.tl + tot Pig.t s.pigs ns) (s.th + tot Pig.t s.pigs ns) (s.al + tot Pig.a s.pigs ns) (s.ah + tot Pig.a s.pigs ns) = s.safeOf ns from rfl)
  clear hp hx hv ho hadd hl hfew
  obtain ⟨ht0, ha0⟩ := hord
  generalize s.safeOf ns = res at *
  generalize s.P + tot Pig.P s.pigs ns = n1 at *
  generalize s.tl + tot Pig.t s.pigs ns = n2 at *
  generalize s.th + tot Pig.t s.pigs ns = n3 at *
  generalize s.al + tot Pig.a s.pigs ns = n4 at *
  generalize s.ah + tot Pig.a s.pigs ns = n5 at *
  have HK := Lib.hid (fun l (hl : 1 ≤ l ∧ l ≤ 4) t x b h w1 (g1 : Fair t) (g2 : Fair x) => refKeeps_is s a len cap l n1 t x hl b h w1 hP hlims g1 g2)
  clear hlims
  unfold Fair at f1 f2 f3 f4
  obtain ⟨f1a, f1b⟩ := f1
  obtain ⟨f2a, f2b⟩ := f2
  obtain ⟨f3a, f3b⟩ := f3
  obtain ⟨f4a, f4b⟩ := f4
  have HST := Lib.hid (SafeInv.start s n1 n2 n3 n4 n5)
  have HYES := Lib.hid (fun t x c d (h : SafeInv s n1 n2 n3 n4 n5 t x c d) h1 h2 hk => h.yes h1 h2 hk)
  have HNO := Lib.hid (fun t x c d (h : SafeInv s n1 n2 n3 n4 n5 t x c d) h1 h2 hk => h.no h1 h2 hk)
  have HRW := Lib.hid (fun t x c d (h : SafeInv s n1 n2 n3 n4 n5 t x c d) h1 h2 => h.row h1 h2 (by omega))
  have HDN := Lib.hid (fun t x c d (h : SafeInv s n1 n2 n3 n4 n5 t x c d) (h1 : n3 < t) => (h.done h1 ht0 ha0).trans HE.out)
  have HBD := Lib.hid (fun t x c d (h : SafeInv s n1 n2 n3 n4 n5 t x c d) (h1 : n2 ≤ t ∧ t ≤ n3 + 1) (h2 : n4 ≤ x ∧ x ≤ n5 + 1) => show (0 ≤ c ∧ c ≤ 100000000000000) ∧ (0 ≤ d ∧ d ≤ 100000000000000) by have := h.1; omega)
  have HAT := Lib.hid (fun t x k => allTo_succ s n1 t x k)
  have HA0 := Lib.hid (fun t x => show allTo s n1 t x 0 = true from rfl)
  have HKN := Lib.hid KnownOf_any
  clear hP HE
  go_enter Try.func23, Try.ntmps23
  go_wp2_with fail
  refine (HT.out _ (by repeat (first | exact Below.refl _ _ | (refine Below.alloc ?_ (by first | omega | (simp; omega) | simp) _) | (refine Below.setCell ?_ (by first | omega | (simp; omega) | simp) _) | refine Below.drew ?_))).mono ?_
  rintro e w1 ⟨rfl, hb1⟩
  obtain ⟨hc1, hf1⟩ := bcell hb1
  have hz1 := hb1.size
  simp at hz1
  have hbw : Below w.heap.size w w1 := ((by repeat (first | exact Below.refl _ _ | (refine Below.alloc ?_ (by first | omega | (simp; omega) | simp) _) | (refine Below.setCell ?_ (by first | omega | (simp; omega) | simp) _) | refine Below.drew ?_)) : Below w.heap.size w _).trans (hb1.mono (by simp))
  clear hb1
  have q2 : w.heap.size < w1.heap.size := by omega
  go_wp2_with fail
  refine (HA.out _ hbw).mono ?_
  rintro e w2 ⟨rfl, hb2⟩
  have hz2 := hb2.size
  have hbw2 := hbw.trans (hb2.mono hbw.size)
  have hbox : ∀ i, w2.cell? ⟨w.heap.size, i, none⟩ = (#[.int .i64 s.P, .int .i64 s.tl, .int .i64 s.th, .int .i64 s.al, .int .i64 s.ah, .int .i64 s.room, .int .i64 s.xl, .int .i64 s.xh, .int .i64 s.yl, .int .i64 s.yh, .slice a len cap] : Array Value)[i]? := fun i => ((hb2.cell (p := ⟨w.heap.size, i, none⟩) q2).trans (hc1 _ _ (by simp))).trans (World.cell?_alloc_new w _ _ i)
  clear hb2 hc1 hf1
  go_wp2_with fail
  obtain ⟨W0, hW0, hB0, hp0, hz0⟩ := name1 w2 #[.int .i64 n1, .int .i64 n2, .int .i64 n3, .int .i64 n4, .int .i64 n5] 25
  rw [hW0]
  clear hW0
  obtain ⟨gp, hgp⟩ : ∃ gp, gp = w2.heap.size := ⟨_, rfl⟩
  have hw0 : Below w.heap.size w W0 := hbw2.trans (hB0.mono hbw2.size)
  have t0 : w.heap.size < gp := by omega
  have t1 : gp < W0.heap.size := by omega
  have HS0 := Lib.hid (fun i => (hB0.cell (p := ⟨w.heap.size, i, none⟩) (show w.heap.size < w2.heap.size by omega)).trans (hbox i))
  rw [← hgp]
  rw [← hgp] at hp0
  have HBP := Lib.hid hp0
  have HW0 := Lib.hid hw0
  clear hgp hbox hB0 hbw2 hz0 hp0 hw0 hbw
  go_loopw [8, 9, 10] (fun v7 v8 v9 wr => ∃ c d t : Int, n2 ≤ t ∧ t ≤ n3 + 1 ∧ v7 = .int .i64 c ∧ v8 = .int .i64 d ∧ v9 = .int .i64 t ∧ SafeInv s n1 n2 n3 n4 n5 t n4 c d ∧ Below W0.heap.size W0 wr) (fun _ _ t _ => (n3 + 1 - intOf t).toNat)
  case atStart => exact ⟨0, 0, n2, by omega, by omega, rfl, rfl, rfl, HST.out, Below.refl _ _⟩
  case round =>
    obtain ⟨c, d, t, ht1, ht2, rfl, rfl, rfl, hinv, hBm⟩ := hrel
    obtain ⟨wm, rfl⟩ : ∃ wm : World, wm = wr := ⟨_, rfl⟩
    have hzm := hBm.size
    have hbp := fun i => (hBm.cell (p := ⟨gp, i, none⟩) t1).trans (HBP.out i)
    have c2 : wm.cell? ⟨gp, 2, none⟩ = some (.int .i64 n3) := hbp 2
    have c3 : wm.cell? ⟨gp, 3, none⟩ = some (.int .i64 n4) := hbp 3
    clear hbp
    have HINV := Lib.hid hinv
    have HBM := Lib.hid hBm
    clear hinv hBm
    by_cases htt : t ≤ n3
    · go_wp2_with fail
      go_loopw [8, 9, 11] (fun v7 v8 v10 wr => ∃ c d x : Int, n4 ≤ x ∧ x ≤ n5 + 1 ∧ v7 = .int .i64 c ∧ v8 = .int .i64 d ∧ v10 = .int .i64 x ∧ SafeInv s n1 n2 n3 n4 n5 t x c d ∧ Below wm.heap.size wm wr) (fun _ _ x _ => (n5 + 1 - intOf x).toNat)
      case atStart => exact ⟨c, d, n4, by omega, by omega, rfl, rfl, rfl, HINV.out, Below.refl _ _⟩
      case round =>
        obtain ⟨c', d', x, hx1, hx2, rfl, rfl, rfl, hinv, hBi⟩ := hrel
        obtain ⟨wi, rfl⟩ : ∃ wi : World, wi = wr := ⟨_, rfl⟩
        have hzi := hBi.size
        have hBi0 := HBM.out.trans (hBi.mono hzm)
        have d4 : wi.cell? ⟨gp, 4, none⟩ = some (.int .i64 n5) := (hBi0.cell (p := ⟨gp, 4, none⟩) t1).trans (HBP.out 4)
        obtain ⟨⟨k1, k2⟩, k3, k4⟩ := HBD.out t x c' d' hinv ⟨ht1, ht2⟩ ⟨hx1, hx2⟩
        have HIN := Lib.hid hinv
        have HBI := Lib.hid hBi
        have HBI0 := Lib.hid hBi0
        clear hinv hBi hBi0
        by_cases hxx : x ≤ n5
        · go_wp2_with fail
          go_loopw [12, 13] (fun v11 v12 wr => ∃ (k : Nat) (kb : Bool), k ≤ 4 ∧ allTo s n1 t x k = kb ∧ v11 = .bool kb ∧ v12 = .int .i64 ((k : Int) + 1) ∧ Below wi.heap.size wi wr) (fun _ l _ => 5 - (intOf l).toNat)
          case atStart => exact ⟨0, true, by omega, HA0.out t x, rfl, rfl, Below.refl _ _⟩
          case round =>
            obtain ⟨k, kb, hk, hkb, rfl, rfl, hBl⟩ := hrel
            have hzl := hBl.size
            have HKB := Lib.hid hkb
            clear hkb
            by_cases hlt : k < 4
            · have hk4 : (k : Int) + 1 ≤ 4 := by omega
              cases kb
              · go_wp2_with fail
                go_roundw
                case rel => exact ⟨k + 1, false, by omega, by rw [HAT.out, HKB.out]; rfl, rfl, by go_num, hBl⟩
                case measure => simp [intOf]; omega
              · have hBl0 := HBI0.out.trans (hBl.mono (by omega))
                have d0 : wr.cell? ⟨gp, 0, none⟩ = some (.int .i64 n1) := (hBl0.cell (p := ⟨gp, 0, none⟩) t1).trans (HBP.out 0)
                have hbx := fun i => (hBl0.cell (p := ⟨w.heap.size, i, none⟩) (show w.heap.size < W0.heap.size by omega)).trans (HS0.out i)
                obtain ⟨x0, x1, x2, x3, x4, x5, x6, x7, x8, x9, x10⟩ : wr.cell? ⟨w.heap.size, 0, none⟩ = some (.int .i64 s.P) ∧ wr.cell? ⟨w.heap.size, 1, none⟩ = some (.int .i64 s.tl) ∧ wr.cell? ⟨w.heap.size, 2, none⟩ = some (.int .i64 s.th) ∧ wr.cell? ⟨w.heap.size, 3, none⟩ = some (.int .i64 s.al) ∧ wr.cell? ⟨w.heap.size, 4, none⟩ = some (.int .i64 s.ah) ∧ wr.cell? ⟨w.heap.size, 5, none⟩ = some (.int .i64 s.room) ∧ wr.cell? ⟨w.heap.size, 6, none⟩ = some (.int .i64 s.xl) ∧ wr.cell? ⟨w.heap.size, 7, none⟩ = some (.int .i64 s.xh) ∧ wr.cell? ⟨w.heap.size, 8, none⟩ = some (.int .i64 s.yl) ∧ wr.cell? ⟨w.heap.size, 9, none⟩ = some (.int .i64 s.yh) ∧ wr.cell? ⟨w.heap.size, 10, none⟩ = some (.slice a len cap) := ⟨hbx 0, hbx 1, hbx 2, hbx 3, hbx 4, hbx 5, hbx 6, hbx 7, hbx 8, hbx 9, hbx 10⟩
                obtain ⟨b, hb⟩ : ∃ b, keepsR s ((k : Int) + 1) n1 t x = b := ⟨_, rfl⟩
                have HC := Lib.hid (HK.out ((k : Int) + 1) ⟨by omega, hk4⟩ t x b hb wr ⟨by omega, by omega⟩ ⟨by omega, by omega⟩)
                have HAK := Lib.hid (show allTo s n1 t x (k + 1) = b by rw [HAT.out, HKB.out, hb]; rfl)
                clear hb hbx hBl0
                go_wp2_with fail
                refine HC.out.mono ?_
                rintro e w5 ⟨rfl, hb5⟩
                have HB5 := Lib.hid (hBl.trans (hb5.mono hzl))
                clear hb5 x0 x1 x2 x3 x4 x5 x6 x7 x8 x9 x10 d0
                cases b
                all_goals
                  go_wp2_with fail
                  go_roundw
                  case rel => exact ⟨k + 1, _, by omega, HAK.out, rfl, by go_num, HB5.out⟩
                  case measure => simp [intOf]; omega
            · have hk4 : ¬ (k : Int) + 1 ≤ 4 := by omega
              obtain rfl : k = 4 := by omega
              have HB6 := Lib.hid (HBI.out.trans (hBl.mono hzi))
              clear hBl
              cases kb
              · have HN := Lib.hid (HNO.out _ _ _ _ HIN.out ⟨ht1, htt⟩ ⟨hx1, hxx⟩ HKB.out)
                go_wp2_with fail
                go_roundw
                case rel => exact ⟨c', d' + 1, x + 1, by omega, by omega, rfl, rfl, rfl, HN.out, HB6.out⟩
                case measure => simp [intOf]; omega
              · have HN := Lib.hid (HYES.out _ _ _ _ HIN.out ⟨ht1, htt⟩ ⟨hx1, hxx⟩ HKB.out)
                go_wp2_with fail
                go_roundw
                case rel => exact ⟨c' + 1, d' + 1, x + 1, by omega, by omega, rfl, rfl, rfl, HN.out, HB6.out⟩
                case measure => simp [intOf]; omega
        · have HR := Lib.hid (HRW.out _ _ _ _ HIN.out (by omega) (by omega))
          have HB6 := Lib.hid (HBM.out.trans (HBI.out.mono hzm))
          go_wp2_with fail
          go_roundw
          case rel => exact ⟨c', d', t + 1, by omega, by omega, rfl, rfl, rfl, HR.out, HB6.out⟩
          case measure => simp [intOf]; omega
    · have HRES := Lib.hid (HDN.out _ _ _ _ HINV.out (by omega))
      have hBw := HW0.out.trans (HBM.out.mono HW0.out.size)
      have HKC := Lib.hid (HRES.out ▸ HKN.out c d wm)
      go_wp2_with fail
      refine HKC.out.mono ?_
      rintro e w6 ⟨rfl, hb6⟩
      have HB6 := Lib.hid (hBw.trans (hb6.mono hBw.size))
      clear hb6
      go_wp2_with fail
      go_ret2
      exact ⟨rfl, HB6.out⟩
end Go.Proofs.Ytajabapcmpmboaa
