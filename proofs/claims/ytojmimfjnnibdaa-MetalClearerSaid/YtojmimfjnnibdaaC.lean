/- Additions of package metal: their sums, whether they have room, whether they are any. -/
import Derived.Test.YtojmimfjnnibdaaB
import Derived.Deep.RegionHeld3
namespace Go.Proofs.Ytojmimfjnnibdaa
set_option linter.unusedVariables false
set_option linter.unusedSimpArgs false
open Go.RowKit

/-- A slice of numbers reads as a list. -/
def IntsAt (w : World) (a : Option Addr) (len : Nat) (xs : List Int) : Prop :=
  xs.length = len ∧ len ≤ maxLen ∧ (0 < len → ∃ b o, a = some ⟨b, o, none⟩ ∧ b < w.heap.size ∧ ∀ i (h : i < xs.length), w.cell? ⟨b, o + i, none⟩ = some (.int .i64 xs[i]))
theorem IntsAt.below {w w1 : World} {a : Option Addr} {len : Nat} {xs : List Int} (hb : Below w.heap.size w w1) (h : IntsAt w a len xs) : IntsAt w1 a len xs := by
  obtain ⟨h1, h2, h3⟩ := h
  refine ⟨h1, h2, fun hl => ?_⟩
  obtain ⟨b, o, ha, hB, hc⟩ := h3 hl
  exact ⟨b, o, ha, Nat.lt_of_lt_of_le hB hb.size, fun i hi => (hb.cell (p := ⟨b, _, none⟩) hB).trans (hc i hi)⟩

theorem cell_more {W : World} {a : Addr} {v : Value} (o : Obj) (h : W.cell? a = some v) : (W.alloc o).cell? a = some v :=
  ((Below.refl W.heap.size W).alloc (Nat.le_refl _) o).cell (World.block_lt_of_cell? W a h) |>.trans h

/-- What is asked of each pig, for all pigs of an addition. -/
def tot (f : Pig → Int) (ps : List Pig) (ns : List Int) : Int := ((ps.zip ns).map fun x => x.2 * f x.1).sum
theorem tot_nil (f : Pig → Int) (ns : List Int) : tot f [] ns = 0 := by simp [tot]
theorem tot_nil' (f : Pig → Int) (ps : List Pig) : tot f ps [] = 0 := by simp [tot]
theorem tot_cons (f : Pig → Int) (p : Pig) (ps : List Pig) (n : Int) (ns : List Int) : tot f (p :: ps) (n :: ns) = n * f p + tot f ps ns := by simp [tot]
theorem tot_snoc (f : Pig → Int) (ps : List Pig) (ns : List Int) (k : Nat) (h : k < ps.length) (h' : k < ns.length) :
    tot f (ps.take (k + 1)) (ns.take (k + 1)) = tot f (ps.take k) (ns.take k) + ns[k] * f ps[k] := by
  induction ps generalizing ns k with
  | nil => simp at h
  | cons p ps ih =>
    cases ns with
    | nil => simp at h'
    | cons n ns =>
      cases k with
      | zero => simp [tot_cons, tot_nil]
      | succ k =>
        have := ih ns k (by simpa using h) (by simpa using h')
        simp only [List.take_succ_cons, tot_cons, List.getElem_cons_succ]
        omega
/-- Each number is of a valid pig, and from 0 to its Many. -/
def Few (ps : List Pig) (ns : List Int) : Prop := ∀ (k : Nat) (h : k < ps.length) (h' : k < ns.length), (ps[k]).ok = true ∧ 0 ≤ ns[k] ∧ ns[k] ≤ (ps[k]).m
theorem Pig.ok_bd {p : Pig} (h : p.ok = true) : 1 ≤ p.P ∧ p.P ≤ 40 ∧ 0 ≤ p.t ∧ 0 ≤ p.a ∧ p.t + p.a ≤ p.P ∧ 0 ≤ p.c ∧ p.c ≤ 99 ∧ 0 ≤ p.m ∧ p.m ≤ 5 := by
  simp [Pig.ok, pigB, btw] at h; omega
theorem mul_bd {n f : Int} (h1 : 0 ≤ n ∧ n ≤ 5) (h2 : 0 ≤ f ∧ f ≤ 99) : 0 ≤ n * f ∧ n * f ≤ 500 :=
  ⟨Int.mul_nonneg h1.1 h2.1, Int.le_trans (Int.mul_le_mul h1.2 h2.2 h2.1 (by omega)) (by decide)⟩
theorem tot_bd (f : Pig → Int) (hf : ∀ p : Pig, p.ok = true → 0 ≤ f p ∧ f p ≤ 99) (ps : List Pig) (ns : List Int) (h : Few ps ns) (k : Nat) (hk : k ≤ ps.length) (hk' : k ≤ ns.length) :
    0 ≤ tot f (ps.take k) (ns.take k) ∧ tot f (ps.take k) (ns.take k) ≤ 500 * k := by
  induction k with
  | zero => simp [tot]
  | succ k ih =>
    obtain ⟨i1, i2⟩ := ih (by omega) (by omega)
    obtain ⟨a1, a2, a3⟩ := h k (by omega) (by omega)
    have := Pig.ok_bd a1
    have := mul_bd (f := f ps[k]) ⟨a2, by omega⟩ (hf _ a1)
    rw [tot_snoc f ps ns k (by omega) (by omega)]
    omega
theorem bd_pounds (p : Pig) (h : p.ok = true) : 0 ≤ p.P ∧ p.P ≤ 99 := by have := Pig.ok_bd h; omega
set_option maxHeartbeats 400000 in
theorem total_pounds (s : Shop) (a : Option Addr) (cap : Nat) (x : Option Addr) (len xcap : Nat) (ns : List Int) (w : World) (hp : PigsAt w a len s.pigs) (hx : IntsAt w x len ns) (hl4 : len ≤ 4) (hf : Few s.pigs ns) :
    Calls Try.prog 84 #[.agg #[.int .i64 s.P, .int .i64 s.tl, .int .i64 s.th, .int .i64 s.al, .int .i64 s.ah, .int .i64 s.room, .int .i64 s.xl, .int .i64 s.xh, .int .i64 s.yl, .int .i64 s.yh, .slice a len cap], .slice x len xcap, .func (.func 87) #[] #[]] w fun e w' => e = .returned (.int .i64 (tot Pig.P s.pigs ns)) ∧ Below w.heap.size w w' := by
  obtain ⟨hl, hm, hc⟩ := hp
  obtain ⟨hxl, _, hxc⟩ := hx
  have hbd := tot_bd Pig.P bd_pounds s.pigs ns hf
  rcases Nat.eq_zero_or_pos len with h0 | h0
  · subst h0
    have hs : s.pigs = [] := List.length_eq_zero_iff.1 hl
    have HS := Lib.hid (show tot Pig.P s.pigs ns = 0 by simp [hs, tot_nil]); clear hs hl hc hxl hxc hbd
    go_enter Try.func84, Try.ntmps84
    go_wp2
    go_loopw [7, 12] (fun n i wr => n = .int .i64 0 ∧ i = .int .i64 0 ∧ Below w.heap.size w wr) (fun _ _ _ => 0)
    case atStart => exact ⟨rfl, rfl, (by repeat (first | exact Below.refl _ _ | (refine Below.alloc ?_ (by first | omega | (simp; omega) | simp) _) | (refine Below.setCell ?_ (by first | omega | (simp; omega) | simp) _) | refine Below.drew ?_))⟩
    case round =>
      obtain ⟨rfl, rfl, hB⟩ := hrel
      go_wp2
      go_ret
      exact ⟨ret_i64 HS.out.symm, hB⟩
  · obtain ⟨b, o, rfl, hbB, hcell⟩ := hc h0
    obtain ⟨xb, xo, rfl, hxB, hxcell⟩ := hxc h0
    have HL := Lib.hid hl; clear hl hc
    have HX := Lib.hid hxl; clear hxl hxc
    have HB := Lib.hid hbd; clear hbd
    go_enter Try.func84, Try.ntmps84
    go_wp2
    go_loopw [7, 12] (fun n i wr => ∃ k : Nat, k ≤ len ∧ i = .int .i64 k ∧ n = .int .i64 (tot Pig.P (s.pigs.take k) (ns.take k)) ∧ Below w.heap.size w wr ∧ wr.cell? ⟨w.heap.size, 10, none⟩ = some (.slice (some ⟨b, o, none⟩) len cap)) (fun _ i _ => len - (intOf i).toNat)
    case atStart => exact ⟨0, by omega, rfl, by simp [tot_nil], (by repeat (first | exact Below.refl _ _ | (refine Below.alloc ?_ (by first | omega | (simp; omega) | simp) _) | (refine Below.setCell ?_ (by first | omega | (simp; omega) | simp) _) | refine Below.drew ?_)), by simp⟩
    case round =>
      obtain ⟨k, hk, rfl, rfl, hB, hbox⟩ := hrel
      have hz := hB.size
      by_cases hlt : k < len
      · have hk2 : k < s.pigs.length := by rw [HL.out]; exact hlt
        have hk3 : k < ns.length := by rw [HX.out]; exact hlt
        obtain ⟨c0, c1, c2, c3, c4⟩ := Pig.at_below hB hbB (hcell k hk2)
        have cx := (hB.cell (p := ⟨xb, _, none⟩) hxB).trans (hxcell k hk3)
        obtain ⟨f1, f2, f3⟩ := hf k hk2 hk3
        have f4 := Pig.ok_bd f1
        have f5 := mul_bd (f := (s.pigs[k]).P) ⟨f2, by omega⟩ (bd_pounds _ f1)
        obtain ⟨g1, g2⟩ := HB.out k (by omega) (by omega)
        have HT := Lib.hid (tot_snoc Pig.P s.pigs ns k hk2 hk3)
        have hq : k < 4 := by omega
        clear f1 f4
        generalize s.pigs[k] = p at *
        generalize ns[k] = n at *
        generalize tot Pig.P (s.pigs.take k) (ns.take k) = t at *
        obtain ⟨f5, f6⟩ := f5
        go_wp2_with (go_at_call 87; with_reducible refine (poundsOf_any _ _ _ _ _ _).mono ?_; rintro e w4 ⟨rfl, rfl⟩)
        go_roundw
        case rel => exact ⟨k + 1, by omega, by go_num, by rw [HT.out], hB.trans (by repeat (first | exact Below.refl _ _ | (refine Below.alloc ?_ (by first | omega | (simp; omega) | simp) _) | (refine Below.setCell ?_ (by first | omega | (simp; omega) | simp) _) | refine Below.drew ?_)), cell_more _ hbox⟩
        case measure => simp [intOf]; omega
      · have hk' : k = len := by omega
        subst hk'
        go_wp2
        go_ret
        exact ⟨ret_i64 (by rw [List.take_of_length_le (by rw [HL.out]; omega), List.take_of_length_le (by rw [HX.out]; omega)]), hB⟩
theorem bd_tin (p : Pig) (h : p.ok = true) : 0 ≤ p.t ∧ p.t ≤ 99 := by have := Pig.ok_bd h; omega
set_option maxHeartbeats 400000 in
theorem total_tin (s : Shop) (a : Option Addr) (cap : Nat) (x : Option Addr) (len xcap : Nat) (ns : List Int) (w : World) (hp : PigsAt w a len s.pigs) (hx : IntsAt w x len ns) (hl4 : len ≤ 4) (hf : Few s.pigs ns) :
    Calls Try.prog 84 #[.agg #[.int .i64 s.P, .int .i64 s.tl, .int .i64 s.th, .int .i64 s.al, .int .i64 s.ah, .int .i64 s.room, .int .i64 s.xl, .int .i64 s.xh, .int .i64 s.yl, .int .i64 s.yh, .slice a len cap], .slice x len xcap, .func (.func 90) #[] #[]] w fun e w' => e = .returned (.int .i64 (tot Pig.t s.pigs ns)) ∧ Below w.heap.size w w' := by
  obtain ⟨hl, hm, hc⟩ := hp
  obtain ⟨hxl, _, hxc⟩ := hx
  have hbd := tot_bd Pig.t bd_tin s.pigs ns hf
  rcases Nat.eq_zero_or_pos len with h0 | h0
  · subst h0
    have hs : s.pigs = [] := List.length_eq_zero_iff.1 hl
    have HS := Lib.hid (show tot Pig.t s.pigs ns = 0 by simp [hs, tot_nil]); clear hs hl hc hxl hxc hbd
    go_enter Try.func84, Try.ntmps84
    go_wp2
    go_loopw [7, 12] (fun n i wr => n = .int .i64 0 ∧ i = .int .i64 0 ∧ Below w.heap.size w wr) (fun _ _ _ => 0)
    case atStart => exact ⟨rfl, rfl, (by repeat (first | exact Below.refl _ _ | (refine Below.alloc ?_ (by first | omega | (simp; omega) | simp) _) | (refine Below.setCell ?_ (by first | omega | (simp; omega) | simp) _) | refine Below.drew ?_))⟩
    case round =>
      obtain ⟨rfl, rfl, hB⟩ := hrel
      go_wp2
      go_ret
      exact ⟨ret_i64 HS.out.symm, hB⟩
  · obtain ⟨b, o, rfl, hbB, hcell⟩ := hc h0
    obtain ⟨xb, xo, rfl, hxB, hxcell⟩ := hxc h0
    have HL := Lib.hid hl; clear hl hc
    have HX := Lib.hid hxl; clear hxl hxc
    have HB := Lib.hid hbd; clear hbd
    go_enter Try.func84, Try.ntmps84
    go_wp2
    go_loopw [7, 12] (fun n i wr => ∃ k : Nat, k ≤ len ∧ i = .int .i64 k ∧ n = .int .i64 (tot Pig.t (s.pigs.take k) (ns.take k)) ∧ Below w.heap.size w wr ∧ wr.cell? ⟨w.heap.size, 10, none⟩ = some (.slice (some ⟨b, o, none⟩) len cap)) (fun _ i _ => len - (intOf i).toNat)
    case atStart => exact ⟨0, by omega, rfl, by simp [tot_nil], (by repeat (first | exact Below.refl _ _ | (refine Below.alloc ?_ (by first | omega | (simp; omega) | simp) _) | (refine Below.setCell ?_ (by first | omega | (simp; omega) | simp) _) | refine Below.drew ?_)), by simp⟩
    case round =>
      obtain ⟨k, hk, rfl, rfl, hB, hbox⟩ := hrel
      have hz := hB.size
      by_cases hlt : k < len
      · have hk2 : k < s.pigs.length := by rw [HL.out]; exact hlt
        have hk3 : k < ns.length := by rw [HX.out]; exact hlt
        obtain ⟨c0, c1, c2, c3, c4⟩ := Pig.at_below hB hbB (hcell k hk2)
        have cx := (hB.cell (p := ⟨xb, _, none⟩) hxB).trans (hxcell k hk3)
        obtain ⟨f1, f2, f3⟩ := hf k hk2 hk3
        have f4 := Pig.ok_bd f1
        have f5 := mul_bd (f := (s.pigs[k]).t) ⟨f2, by omega⟩ (bd_tin _ f1)
        obtain ⟨g1, g2⟩ := HB.out k (by omega) (by omega)
        have HT := Lib.hid (tot_snoc Pig.t s.pigs ns k hk2 hk3)
        have hq : k < 4 := by omega
        clear f1 f4
        generalize s.pigs[k] = p at *
        generalize ns[k] = n at *
        generalize tot Pig.t (s.pigs.take k) (ns.take k) = t at *
        obtain ⟨f5, f6⟩ := f5
        go_wp2_with (go_at_call 90; with_reducible refine (tinOf_any _ _ _ _ _ _).mono ?_; rintro e w4 ⟨rfl, rfl⟩)
        go_roundw
        case rel => exact ⟨k + 1, by omega, by go_num, by rw [HT.out], hB.trans (by repeat (first | exact Below.refl _ _ | (refine Below.alloc ?_ (by first | omega | (simp; omega) | simp) _) | (refine Below.setCell ?_ (by first | omega | (simp; omega) | simp) _) | refine Below.drew ?_)), cell_more _ hbox⟩
        case measure => simp [intOf]; omega
      · have hk' : k = len := by omega
        subst hk'
        go_wp2
        go_ret
        exact ⟨ret_i64 (by rw [List.take_of_length_le (by rw [HL.out]; omega), List.take_of_length_le (by rw [HX.out]; omega)]), hB⟩
theorem bd_antimony (p : Pig) (h : p.ok = true) : 0 ≤ p.a ∧ p.a ≤ 99 := by have := Pig.ok_bd h; omega
set_option maxHeartbeats 400000 in
theorem total_antimony (s : Shop) (a : Option Addr) (cap : Nat) (x : Option Addr) (len xcap : Nat) (ns : List Int) (w : World) (hp : PigsAt w a len s.pigs) (hx : IntsAt w x len ns) (hl4 : len ≤ 4) (hf : Few s.pigs ns) :
    Calls Try.prog 84 #[.agg #[.int .i64 s.P, .int .i64 s.tl, .int .i64 s.th, .int .i64 s.al, .int .i64 s.ah, .int .i64 s.room, .int .i64 s.xl, .int .i64 s.xh, .int .i64 s.yl, .int .i64 s.yh, .slice a len cap], .slice x len xcap, .func (.func 97) #[] #[]] w fun e w' => e = .returned (.int .i64 (tot Pig.a s.pigs ns)) ∧ Below w.heap.size w w' := by
  obtain ⟨hl, hm, hc⟩ := hp
  obtain ⟨hxl, _, hxc⟩ := hx
  have hbd := tot_bd Pig.a bd_antimony s.pigs ns hf
  rcases Nat.eq_zero_or_pos len with h0 | h0
  · subst h0
    have hs : s.pigs = [] := List.length_eq_zero_iff.1 hl
    have HS := Lib.hid (show tot Pig.a s.pigs ns = 0 by simp [hs, tot_nil]); clear hs hl hc hxl hxc hbd
    go_enter Try.func84, Try.ntmps84
    go_wp2
    go_loopw [7, 12] (fun n i wr => n = .int .i64 0 ∧ i = .int .i64 0 ∧ Below w.heap.size w wr) (fun _ _ _ => 0)
    case atStart => exact ⟨rfl, rfl, (by repeat (first | exact Below.refl _ _ | (refine Below.alloc ?_ (by first | omega | (simp; omega) | simp) _) | (refine Below.setCell ?_ (by first | omega | (simp; omega) | simp) _) | refine Below.drew ?_))⟩
    case round =>
      obtain ⟨rfl, rfl, hB⟩ := hrel
      go_wp2
      go_ret
      exact ⟨ret_i64 HS.out.symm, hB⟩
  · obtain ⟨b, o, rfl, hbB, hcell⟩ := hc h0
    obtain ⟨xb, xo, rfl, hxB, hxcell⟩ := hxc h0
    have HL := Lib.hid hl; clear hl hc
    have HX := Lib.hid hxl; clear hxl hxc
    have HB := Lib.hid hbd; clear hbd
    go_enter Try.func84, Try.ntmps84
    go_wp2
    go_loopw [7, 12] (fun n i wr => ∃ k : Nat, k ≤ len ∧ i = .int .i64 k ∧ n = .int .i64 (tot Pig.a (s.pigs.take k) (ns.take k)) ∧ Below w.heap.size w wr ∧ wr.cell? ⟨w.heap.size, 10, none⟩ = some (.slice (some ⟨b, o, none⟩) len cap)) (fun _ i _ => len - (intOf i).toNat)
    case atStart => exact ⟨0, by omega, rfl, by simp [tot_nil], (by repeat (first | exact Below.refl _ _ | (refine Below.alloc ?_ (by first | omega | (simp; omega) | simp) _) | (refine Below.setCell ?_ (by first | omega | (simp; omega) | simp) _) | refine Below.drew ?_)), by simp⟩
    case round =>
      obtain ⟨k, hk, rfl, rfl, hB, hbox⟩ := hrel
      have hz := hB.size
      by_cases hlt : k < len
      · have hk2 : k < s.pigs.length := by rw [HL.out]; exact hlt
        have hk3 : k < ns.length := by rw [HX.out]; exact hlt
        obtain ⟨c0, c1, c2, c3, c4⟩ := Pig.at_below hB hbB (hcell k hk2)
        have cx := (hB.cell (p := ⟨xb, _, none⟩) hxB).trans (hxcell k hk3)
        obtain ⟨f1, f2, f3⟩ := hf k hk2 hk3
        have f4 := Pig.ok_bd f1
        have f5 := mul_bd (f := (s.pigs[k]).a) ⟨f2, by omega⟩ (bd_antimony _ f1)
        obtain ⟨g1, g2⟩ := HB.out k (by omega) (by omega)
        have HT := Lib.hid (tot_snoc Pig.a s.pigs ns k hk2 hk3)
        have hq : k < 4 := by omega
        clear f1 f4
        generalize s.pigs[k] = p at *
        generalize ns[k] = n at *
        generalize tot Pig.a (s.pigs.take k) (ns.take k) = t at *
        obtain ⟨f5, f6⟩ := f5
        go_wp2_with (go_at_call 97; with_reducible refine (antimonyOf_any _ _ _ _ _ _).mono ?_; rintro e w4 ⟨rfl, rfl⟩)
        go_roundw
        case rel => exact ⟨k + 1, by omega, by go_num, by rw [HT.out], hB.trans (by repeat (first | exact Below.refl _ _ | (refine Below.alloc ?_ (by first | omega | (simp; omega) | simp) _) | (refine Below.setCell ?_ (by first | omega | (simp; omega) | simp) _) | refine Below.drew ?_)), cell_more _ hbox⟩
        case measure => simp [intOf]; omega
      · have hk' : k = len := by omega
        subst hk'
        go_wp2
        go_ret
        exact ⟨ret_i64 (by rw [List.take_of_length_le (by rw [HL.out]; omega), List.take_of_length_le (by rw [HX.out]; omega)]), hB⟩
theorem bd_pence (p : Pig) (h : p.ok = true) : 0 ≤ p.c ∧ p.c ≤ 99 := by have := Pig.ok_bd h; omega
set_option maxHeartbeats 400000 in
theorem total_pence (s : Shop) (a : Option Addr) (cap : Nat) (x : Option Addr) (len xcap : Nat) (ns : List Int) (w : World) (hp : PigsAt w a len s.pigs) (hx : IntsAt w x len ns) (hl4 : len ≤ 4) (hf : Few s.pigs ns) :
    Calls Try.prog 84 #[.agg #[.int .i64 s.P, .int .i64 s.tl, .int .i64 s.th, .int .i64 s.al, .int .i64 s.ah, .int .i64 s.room, .int .i64 s.xl, .int .i64 s.xh, .int .i64 s.yl, .int .i64 s.yh, .slice a len cap], .slice x len xcap, .func (.func 85) #[] #[]] w fun e w' => e = .returned (.int .i64 (tot Pig.c s.pigs ns)) ∧ Below w.heap.size w w' := by
  obtain ⟨hl, hm, hc⟩ := hp
  obtain ⟨hxl, _, hxc⟩ := hx
  have hbd := tot_bd Pig.c bd_pence s.pigs ns hf
  rcases Nat.eq_zero_or_pos len with h0 | h0
  · subst h0
    have hs : s.pigs = [] := List.length_eq_zero_iff.1 hl
    have HS := Lib.hid (show tot Pig.c s.pigs ns = 0 by simp [hs, tot_nil]); clear hs hl hc hxl hxc hbd
    go_enter Try.func84, Try.ntmps84
    go_wp2
    go_loopw [7, 12] (fun n i wr => n = .int .i64 0 ∧ i = .int .i64 0 ∧ Below w.heap.size w wr) (fun _ _ _ => 0)
    case atStart => exact ⟨rfl, rfl, (by repeat (first | exact Below.refl _ _ | (refine Below.alloc ?_ (by first | omega | (simp; omega) | simp) _) | (refine Below.setCell ?_ (by first | omega | (simp; omega) | simp) _) | refine Below.drew ?_))⟩
    case round =>
      obtain ⟨rfl, rfl, hB⟩ := hrel
      go_wp2
      go_ret
      exact ⟨ret_i64 HS.out.symm, hB⟩
  · obtain ⟨b, o, rfl, hbB, hcell⟩ := hc h0
    obtain ⟨xb, xo, rfl, hxB, hxcell⟩ := hxc h0
    have HL := Lib.hid hl; clear hl hc
    have HX := Lib.hid hxl; clear hxl hxc
    have HB := Lib.hid hbd; clear hbd
    go_enter Try.func84, Try.ntmps84
    go_wp2
    go_loopw [7, 12] (fun n i wr => ∃ k : Nat, k ≤ len ∧ i = .int .i64 k ∧ n = .int .i64 (tot Pig.c (s.pigs.take k) (ns.take k)) ∧ Below w.heap.size w wr ∧ wr.cell? ⟨w.heap.size, 10, none⟩ = some (.slice (some ⟨b, o, none⟩) len cap)) (fun _ i _ => len - (intOf i).toNat)
    case atStart => exact ⟨0, by omega, rfl, by simp [tot_nil], (by repeat (first | exact Below.refl _ _ | (refine Below.alloc ?_ (by first | omega | (simp; omega) | simp) _) | (refine Below.setCell ?_ (by first | omega | (simp; omega) | simp) _) | refine Below.drew ?_)), by simp⟩
    case round =>
      obtain ⟨k, hk, rfl, rfl, hB, hbox⟩ := hrel
      have hz := hB.size
      by_cases hlt : k < len
      · have hk2 : k < s.pigs.length := by rw [HL.out]; exact hlt
        have hk3 : k < ns.length := by rw [HX.out]; exact hlt
        obtain ⟨c0, c1, c2, c3, c4⟩ := Pig.at_below hB hbB (hcell k hk2)
        have cx := (hB.cell (p := ⟨xb, _, none⟩) hxB).trans (hxcell k hk3)
        obtain ⟨f1, f2, f3⟩ := hf k hk2 hk3
        have f4 := Pig.ok_bd f1
        have f5 := mul_bd (f := (s.pigs[k]).c) ⟨f2, by omega⟩ (bd_pence _ f1)
        obtain ⟨g1, g2⟩ := HB.out k (by omega) (by omega)
        have HT := Lib.hid (tot_snoc Pig.c s.pigs ns k hk2 hk3)
        have hq : k < 4 := by omega
        clear f1 f4
        generalize s.pigs[k] = p at *
        generalize ns[k] = n at *
        generalize tot Pig.c (s.pigs.take k) (ns.take k) = t at *
        obtain ⟨f5, f6⟩ := f5
        go_wp2_with (go_at_call 85; with_reducible refine (penceOf_any _ _ _ _ _ _).mono ?_; rintro e w4 ⟨rfl, rfl⟩)
        go_roundw
        case rel => exact ⟨k + 1, by omega, by go_num, by rw [HT.out], hB.trans (by repeat (first | exact Below.refl _ _ | (refine Below.alloc ?_ (by first | omega | (simp; omega) | simp) _) | (refine Below.setCell ?_ (by first | omega | (simp; omega) | simp) _) | refine Below.drew ?_)), cell_more _ hbox⟩
        case measure => simp [intOf]; omega
      · have hk' : k = len := by omega
        subst hk'
        go_wp2
        go_ret
        exact ⟨ret_i64 (by rw [List.take_of_length_le (by rw [HL.out]; omega), List.take_of_length_le (by rw [HX.out]; omega)]), hB⟩
end Go.Proofs.Ytojmimfjnnibdaa
