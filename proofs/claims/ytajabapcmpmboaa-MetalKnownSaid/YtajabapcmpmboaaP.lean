/- The next list, in its place. -/
import Derived.Test.YtajabapcmpmboaaG
import Derived.Test.YtajabapcmpmboaaO
namespace Go.Proofs.Ytajabapcmpmboaa
set_option linter.unusedVariables false
set_option linter.unusedSimpArgs false
open Go.RowKit

def Shop.most (s : Shop) : List Int := s.pigs.map Pig.m
/-- A slice's own block holds a list of numbers. -/
def Holds (w : World) (b : Nat) (xs : List Int) : Prop := b < w.heap.size ∧ (∀ i (h : i < xs.length), w.cell? ⟨b, i, none⟩ = some (.int .i64 xs[i])) ∧ ∀ i, w.frozen? ⟨b, i, none⟩ = false
def NextPost (ms ns : List Int) (w : World) (b : Nat) (e : Ending) (w' : World) : Prop :=
  ∃ ys, ys.length = ns.length ∧ ((nextL ms ns = some ys ∧ e = .returned (.bool true)) ∨ (nextL ms ns = none ∧ e = .returned (.bool false))) ∧ w.grownBy w' (some b) ∧ Holds w' b ys

theorem gb_alloc {w w' : World} {b : Nat} (h : w.grownBy w' (some b)) (o : Obj) : w.grownBy (w'.alloc o) (some b) :=
  ⟨h.os, h.tape, h.output, by have := h.size; simp; omega, fun k hk hne => (Below.heap_alloc w' o k (by have := h.size; omega)).trans (h.block k hk hne)⟩
theorem gb_set {w w' : World} {b : Nat} (h : w.grownBy w' (some b)) (i : Nat) (v : Value) : w.grownBy (w'.setCell ⟨b, i, none⟩ v) (some b) :=
  ⟨h.os, h.tape, h.output, by have := h.size; simpa [World.setCell] using this, fun k hk hne => (Below.heap_setCell w' _ v k (fun e => hne (by rw [e]))).trans (h.block k hk hne)⟩
theorem gb_drew {w w' : World} {b : Nat} (h : w.grownBy w' (some b)) (n : Nat) : w.grownBy (w'.drewN n) (some b) :=
  ⟨h.os, h.tape, h.output, h.size, h.block⟩
theorem gb_refl (w : World) (b : Nat) : w.grownBy w (some b) := ⟨rfl, rfl, rfl, Nat.le_refl _, fun _ _ _ => rfl⟩
theorem gb_trans {u v w : World} {b : Nat} (h : u.grownBy v (some b)) (k : v.grownBy w (some b)) : u.grownBy w (some b) :=
  ⟨k.os.trans h.os, k.tape.trans h.tape, k.output.trans h.output, Nat.le_trans h.size k.size, fun i hi hne => (k.block i (Nat.lt_of_lt_of_le hi h.size) hne).trans (h.block i hi hne)⟩
theorem gb_cell {w w' : World} {b : Nat} (h : w.grownBy w' (some b)) {k : Nat} (hk : k < w.heap.size) (hne : k ≠ b) (o : Nat) : w'.cell? ⟨k, o, none⟩ = w.cell? ⟨k, o, none⟩ :=
  World.cell?_of_block (w := w) (a := ⟨k, o, none⟩) (h.block k hk (by simpa using hne))

theorem set_same {w : World} {a : Addr} {u v : Value} (h : w.cell? a = some u) : (w.setCell a v).cell? a = some v := World.cell?_setCell_same' w a v (by rw [h]; rfl)
theorem set_other {w : World} {a b : Addr} {v : Value} (h : a ≠ b) : (w.setCell a v).cell? b = w.cell? b := by rw [World.cell?_setCell_other]; exact h
theorem holds_set {wr : World} {b j len : Nat} {ns : List Int} {v : Int} {nq : Nat} (hl : ns.length = len) (hj : j < len) (hlow : ∀ q (h : q < ns.length), q < j → wr.cell? ⟨b, q, none⟩ = some (.int .i64 ns[q]))
    (hx : ∃ u, wr.cell? ⟨b, j, none⟩ = some u) (hz : ∀ q, j + 1 ≤ q → q < len → wr.cell? ⟨b, q, none⟩ = some (.int .i64 0)) (hf : ∀ q, wr.frozen? ⟨b, q, none⟩ = false) (hB : b < wr.heap.size) :
    Holds ((wr.drewN nq).setCell ⟨b, j, none⟩ (.int .i64 v)) b (ns.take j ++ v :: List.replicate (ns.length - j - 1) 0) := by
  refine ⟨by simpa [World.setCell] using hB, fun i hi => ?_, fun i => (World.frozen?_setCell _ _ _ _).trans (hf i)⟩
  have hil : i < len := by simp at hi; omega
  obtain ⟨u, hu⟩ := hx
  rcases Nat.lt_trichotomy i j with h | h | h
  · rw [set_other (by intro e; cases e; omega)]
    rw [List.getElem_append_left (by simp; omega)]
    simpa using hlow i (by omega) h
  · subst h
    rw [set_same (w := wr.drewN nq) hu]
    rw [List.getElem_append_right (by simp; omega)]
    simp [Nat.min_eq_left (Nat.le_of_lt (hl ▸ hj))]
  · rw [set_other (by intro e; cases e; omega)]
    rw [List.getElem_append_right (by simp; omega)]
    have h2 : i - (ns.take j).length = (i - j - 1) + 1 := by simp; omega
    simp only [h2, List.getElem_cons_succ, List.getElem_replicate]
    exact hz i (by omega) hil

set_option maxHeartbeats 1000000 in
theorem next_any (s : Shop) (a : Option Addr) (len cap : Nat) (b : Nat) (ns : List Int) (w : World) (hp : PigsAt w a len s.pigs) (hb : Holds w b ns) (hl : ns.length = len) (ha : 0 < len → ∀ pb po, a = some ⟨pb, po, none⟩ → pb ≠ b) (hf : Few s.pigs ns) :
    Calls Try.prog 113 #[.agg #[.int .i64 s.P, .int .i64 s.tl, .int .i64 s.th, .int .i64 s.al, .int .i64 s.ah, .int .i64 s.room, .int .i64 s.xl, .int .i64 s.xh, .int .i64 s.yl, .int .i64 s.yh, .slice a len cap], .slice (some ⟨b, 0, none⟩) len len] w fun e w' => NextPost s.most ns w b e w' := by
  obtain ⟨hpl, hm, hpc⟩ := hp
  obtain ⟨hbB, hbc, hbf⟩ := hb
  have hms : s.most.length = len := by simp [Shop.most, hpl]
  unfold maxLen at hm
  rcases Nat.eq_zero_or_pos len with h0 | h0
  · subst h0
    have hn : ns = [] := List.length_eq_zero_iff.1 hl
    have hs : s.pigs = [] := List.length_eq_zero_iff.1 hpl
    have HF := Lib.hid (show ∀ w', w.grownBy w' (some b) → (∀ i, w'.frozen? ⟨b, i, none⟩ = false) → NextPost s.most ns w b (.returned (.bool false)) w' from fun w' hg hf => ⟨[], by simp [hn], .inr ⟨by simp [Shop.most, hs, nextL], rfl⟩, hg, Nat.lt_of_lt_of_le hbB hg.size, by simp, hf⟩)
    clear hn hs hpl hl hms hpc hbc hf
    go_enter Try.func113, Try.ntmps113
    go_wp2
    go_loopw [5] (fun i wr => i = .int .i64 (-1) ∧ w.grownBy wr (some b) ∧ ∀ i, wr.frozen? ⟨b, i, none⟩ = false) (fun _ _ => 0)
    case atStart => exact ⟨rfl, gb_alloc (gb_refl _ _) _, fun i => by go_simp⟩
    case round =>
      obtain ⟨rfl, hg, hf2⟩ := hrel
      go_wp2
      go_ret
      exact HF.out _ hg hf2
  · obtain ⟨pb, po, rfl, hpB, hcell⟩ := hpc h0
    have hne : pb ≠ b := ha h0 _ _ rfl
    have HL := Lib.hid hl
    have HPL := Lib.hid hpl
    have HMS := Lib.hid hms
    clear hl hpl hms hpc ha
    go_enter Try.func113, Try.ntmps113
    go_wp2
    obtain ⟨W0, hW0, hB0, hz0, hbx⟩ := name_box w #[.int .i64 s.P, .int .i64 s.tl, .int .i64 s.th, .int .i64 s.al, .int .i64 s.ah, .int .i64 s.room, .int .i64 s.xl, .int .i64 s.xh, .int .i64 s.yl, .int .i64 s.yh, .slice (some ⟨pb, po, none⟩) len cap] 78
    have hb0 : ∀ i (h : i < ns.length), W0.cell? ⟨b, i, none⟩ = some (.int .i64 ns[i]) := fun i h => (hB0.cell (p := ⟨b, i, none⟩) hbB).trans (hbc i h)
    have hf0 : ∀ i, W0.frozen? ⟨b, i, none⟩ = false := fun i => (hB0.frozen (p := ⟨b, i, none⟩) hbB).trans (hbf i)
    have hg0 : w.grownBy W0 (some b) := by rw [← hW0]; exact gb_alloc (gb_refl _ _) _
    rw [hW0]
    clear hW0
    go_loopw [5] (fun i wr => ∃ j : Nat, j ≤ len ∧ i = .int .i64 ((j : Int) - 1) ∧ (∀ q (h : q < ns.length) (h' : q < s.most.length), j ≤ q → s.most[q] ≤ ns[q]) ∧ (∀ q (h : q < ns.length), q < j → wr.cell? ⟨b, q, none⟩ = some (.int .i64 ns[q])) ∧
      (∀ q, j ≤ q → q < len → wr.cell? ⟨b, q, none⟩ = some (.int .i64 0)) ∧ (∀ q, wr.frozen? ⟨b, q, none⟩ = false) ∧ W0.grownBy wr (some b)) (fun i _ => (intOf i + 1).toNat)
    case atStart => exact ⟨len, by omega, rfl, fun q h _ hq => by have := HL.out; omega, fun q h _ => hb0 q h, fun q h1 h2 => by omega, hf0, gb_refl _ _⟩
    case round =>
      obtain ⟨j, hj, rfl, hbig, hlow, hzero, hfz, hg⟩ := hrel
      have HBIG := Lib.hid hbig
      have HLOW := Lib.hid hlow
      have HZ := Lib.hid hzero
      clear hbig hlow hzero
      cases j with
      | zero =>
        have HF := Lib.hid (show NextPost s.most ns w b (.returned (.bool false)) wr from ⟨List.replicate len 0, by simp [HL.out], .inr ⟨nextL_some.nextL_none _ _ (by rw [HMS.out, HL.out]) (fun q h h' => Int.not_lt.2 (HBIG.out q h h' (by omega))), rfl⟩, gb_trans hg0 hg, Nat.lt_of_lt_of_le hbB (Nat.le_trans hg0.size hg.size), fun i h => by simpa using HZ.out i (by omega) (by simpa using h), hfz⟩)
        go_wp2
        go_ret
        exact HF.out
      | succ j =>
        have hj1 : (((j + 1 : Nat) : Int) - 1) = (j : Int) := by omega
        rw [hj1]
        clear hj1
        have hjl : j < len := by omega
        have hjn : j < ns.length := by rw [HL.out]; exact hjl
        have hjp : j < s.pigs.length := by rw [HPL.out]; exact hjl
        have cx := HLOW.out j hjn (by omega)
        obtain ⟨-, -, -, -, c4⟩ := hcell j hjp
        have c4' := (gb_cell hg (by omega) hne _).trans ((hB0.cell (p := ⟨pb, _, none⟩) hpB).trans c4)
        have cb := (gb_cell hg hz0 (by omega) 10).trans (hbx 10)
        simp only [List.getElem?_toArray, List.getElem?_cons_succ, List.getElem?_cons_zero] at cb
        obtain ⟨f1, f2, f3⟩ := hf j hjp hjn
        have f4 := Pig.ok_bd f1
        have hmj : s.most[j]'(by rw [HMS.out]; exact hjl) = (s.pigs[j]).m := by simp [Shop.most]
        have hjb : (j : Int) < (len : Int) := by omega
        by_cases hlt : ns[j] < (s.pigs[j]).m
        · have HY := Lib.hid (nextL_some s.most ns j hjn (by rw [HMS.out]; exact hjl) (by rw [HMS.out, HL.out]) (fun q h h' hq => Int.not_lt.2 (HBIG.out q h h' (by omega))) (by rw [hmj]; exact hlt))
          have HLO := Lib.hid (show ∀ q (h : q < ns.length), q < j → wr.cell? ⟨b, q, none⟩ = some (.int .i64 ns[q]) from fun q h hq => HLOW.out q h (by omega))
          clear hmj
          generalize (s.pigs[j]).m = mj at *
          generalize hnj : ns[j] = nj at *
          clear hnj
          have hw : IntKind.i64.wrap (nj + 1) = nj + 1 := IntWalk.i64_in _ ⟨by omega, by omega⟩
          go_wp2_with fail
          go_quiet (fail)
          go_wp2_with fail
          go_ret
          exact ⟨_, by have := HL.out; simp; omega, .inl ⟨HY.out, rfl⟩, gb_trans hg0 (gb_set (gb_drew hg _) _ _), holds_set HL.out hjl HLO.out ⟨_, cx⟩ HZ.out hfz (Nat.lt_of_lt_of_le hbB (Nat.le_trans hg0.size hg.size))⟩
        · have HBG := Lib.hid (show ∀ q (h : q < ns.length) (h' : q < s.most.length), j ≤ q → s.most[q] ≤ ns[q] from fun q h h' hq => by
            by_cases e : q = j
            · subst e; rw [hmj]; exact Int.not_lt.1 hlt
            · exact HBIG.out q h h' (by omega))
          have HLO := Lib.hid (show ∀ q (h : q < ns.length), q < j → wr.cell? ⟨b, q, none⟩ = some (.int .i64 ns[q]) from fun q h hq => HLOW.out q h (by omega))
          clear hmj
          generalize (s.pigs[j]).m = mj at *
          generalize ns[j] = nj at *
          go_wp2_with fail
          go_quiet (fail)
          go_wp2_with fail
          refine ⟨⟨j, by omega, by go_num, HBG.out, fun q h hq => ?_, fun q h1 h2 => ?_, fun q => (World.frozen?_setCell _ _ _ _).trans (hfz q), gb_set (gb_drew hg _) _ _⟩, by simp [intOf]⟩
          · rw [set_other (by intro e; cases e; omega)]; exact HLO.out q h hq
          · by_cases e : q = j
            · subst e; exact set_same cx
            · rw [set_other (by intro e'; cases e'; omega)]; exact HZ.out q (by omega) h2
end Go.Proofs.Ytajabapcmpmboaa
