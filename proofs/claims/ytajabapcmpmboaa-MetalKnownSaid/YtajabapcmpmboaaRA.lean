/- RA RB RC, joined. -/
import Derived.Test.YtajabapcmpmboaaA
import Derived.Lib.SmallJoins
/- The leaves of the reference. -/
namespace Go.Proofs.Ytajabapcmpmboaa
set_option linter.unusedVariables false
set_option linter.unusedSimpArgs false
open Go.RowKit

set_option maxHeartbeats 400000 in
theorem Within_any (n lo hi : Int) (w : World) :
    Calls Try.prog 53 #[.int .i64 n, .int .i64 lo, .int .i64 hi] w fun e w' => e = .returned (.bool (btw n lo hi)) ∧ w = w' := by
  go_enter Try.func53, Try.ntmps53
  go_wp2
  all_goals (go_ret; refine ⟨ret_bool ?_, rfl⟩; rw [Bool.eq_iff_iff]; simp [btw]; omega)
theorem Within_is (n lo hi : Int) (b : Bool) (h : btw n lo hi = b) (w : World) :
    Calls Try.prog 53 #[.int .i64 n, .int .i64 lo, .int .i64 hi] w fun e w' => e = .returned (.bool b) ∧ w = w' := h ▸ Within_any n lo hi w

set_option maxHeartbeats 400000 in
theorem IsSpan_any (lo hi m : Int) (w : World) :
    Calls Try.prog 72 #[.agg #[.int .i64 lo, .int .i64 hi], .int .i64 m] w fun e w' => e = .returned (.bool (spanB lo hi m)) ∧ w.alloc (.cells #[.int .i64 lo, .int .i64 hi] 23) = w' := by
  rcases h1 : btw hi 0 m with - | -
  · go_enter Try.func72, Try.ntmps72
    go_wp2_with (go_at_call 53; with_reducible refine (Within_is _ _ _ _ h1 _).mono ?_; rintro e w' ⟨rfl, rfl⟩)
    go_ret
    refine ⟨ret_bool ?_, rfl⟩
    simp [btw] at h1; simp [spanB]; omega
  rcases h2 : btw lo 0 hi with - | -
  all_goals go_enter Try.func72, Try.ntmps72
  all_goals go_wp2_with (first | (go_at_call 53; with_reducible refine (Within_is _ _ _ _ h1 _).mono ?_; rintro e w' ⟨rfl, rfl⟩) | (go_at_call 53; with_reducible refine (Within_is _ _ _ _ h2 _).mono ?_; rintro e w' ⟨rfl, rfl⟩))
  all_goals go_ret
  all_goals refine ⟨ret_bool ?_, rfl⟩
  all_goals (simp [btw] at h1 h2; simp [spanB]; omega)
theorem IsSpan_is (lo hi m : Int) (b : Bool) (h : spanB lo hi m = b) (w : World) :
    Calls Try.prog 72 #[.agg #[.int .i64 lo, .int .i64 hi], .int .i64 m] w fun e w' => e = .returned (.bool b) ∧ w.alloc (.cells #[.int .i64 lo, .int .i64 hi] 23) = w' := h ▸ IsSpan_any lo hi m w

set_option maxHeartbeats 400000 in
theorem IsPot_any (P tl th al ah : Int) (w : World) :
    Calls Try.prog 65 #[.agg #[.int .i64 P, .int .i64 tl, .int .i64 th, .int .i64 al, .int .i64 ah]] w fun e w' => e = .returned (.bool (potB P tl th al ah)) ∧ Below w.heap.size w w' := by
  rcases h1 : btw P 0 400 with - | -
  · go_enter Try.func65, Try.ntmps65
    go_wp2_with (go_at_call 53; with_reducible refine (Within_is _ _ _ _ h1 _).mono ?_; rintro e w' ⟨rfl, rfl⟩)
    go_ret
    exact ⟨ret_bool (by simp [potB, h1]), (by repeat (first | exact Below.refl _ _ | (refine Below.alloc ?_ (by first | omega | (simp; omega) | simp) _) | (refine Below.setCell ?_ (by first | omega | (simp; omega) | simp) _) | refine Below.drew ?_))⟩
  rcases h2 : spanB tl th P with - | -
  · go_enter Try.func65, Try.ntmps65
    go_wp2_with (first | (go_at_call 53; with_reducible refine (Within_is _ _ _ _ h1 _).mono ?_; rintro e w' ⟨rfl, rfl⟩) | (go_at_call 72; with_reducible refine (IsSpan_is _ _ _ _ h2 _).mono ?_; rintro e w' ⟨rfl, rfl⟩))
    go_ret
    exact ⟨ret_bool (by simp [potB, h2]), (by repeat (first | exact Below.refl _ _ | (refine Below.alloc ?_ (by first | omega | (simp; omega) | simp) _) | (refine Below.setCell ?_ (by first | omega | (simp; omega) | simp) _) | refine Below.drew ?_))⟩
  rcases h3 : spanB al ah P with - | -
  · go_enter Try.func65, Try.ntmps65
    go_wp2_with (first | (go_at_call 53; with_reducible refine (Within_is _ _ _ _ h1 _).mono ?_; rintro e w' ⟨rfl, rfl⟩) | (go_at_call 72; with_reducible refine (IsSpan_is _ _ _ _ h2 _).mono ?_; rintro e w' ⟨rfl, rfl⟩) | (go_at_call 72; with_reducible refine (IsSpan_is _ _ _ _ h3 _).mono ?_; rintro e w' ⟨rfl, rfl⟩))
    go_ret
    exact ⟨ret_bool (by simp [potB, h3]), (by repeat (first | exact Below.refl _ _ | (refine Below.alloc ?_ (by first | omega | (simp; omega) | simp) _) | (refine Below.setCell ?_ (by first | omega | (simp; omega) | simp) _) | refine Below.drew ?_))⟩
  · have b1 : 0 ≤ th ∧ th ≤ 400 ∧ 0 ≤ ah ∧ ah ≤ 400 := by simp [btw, spanB] at h1 h2 h3; omega
    obtain ⟨b1, b2, b3, b4⟩ := b1
    go_enter Try.func65, Try.ntmps65
    go_wp2_with (first | (go_at_call 53; with_reducible refine (Within_is _ _ _ _ h1 _).mono ?_; rintro e w' ⟨rfl, rfl⟩) | (go_at_call 72; with_reducible refine (IsSpan_is _ _ _ _ h2 _).mono ?_; rintro e w' ⟨rfl, rfl⟩) | (go_at_call 72; with_reducible refine (IsSpan_is _ _ _ _ h3 _).mono ?_; rintro e w' ⟨rfl, rfl⟩))
    go_ret
    exact ⟨ret_bool (by simp [potB, h1, h2, h3]), (by repeat (first | exact Below.refl _ _ | (refine Below.alloc ?_ (by first | omega | (simp; omega) | simp) _) | (refine Below.setCell ?_ (by first | omega | (simp; omega) | simp) _) | refine Below.drew ?_))⟩

theorem more_any (lo hi by' : Int) (w : World) (h1 : Fair lo) (h2 : Fair hi) (h3 : Fair by') :
    Calls Try.prog 94 #[.agg #[.int .i64 lo, .int .i64 hi], .int .i64 by'] w fun e w' => e = .returned (.agg #[.int .i64 (lo + by'), .int .i64 (hi + by')]) ∧ (w.alloc (.cells #[.int .i64 lo, .int .i64 hi] 23)).alloc (.cells #[.int .i64 (lo + by'), .int .i64 (hi + by')] 23) = w' := by
  obtain ⟨a1, a2⟩ := h1; obtain ⟨a3, a4⟩ := h2; obtain ⟨a5, a6⟩ := h3
  go_enter Try.func94, Try.ntmps94
  go_wp2
  exact bodyPost_ret (v := .agg #[.int .i64 (lo + by'), .int .i64 (hi + by')]) (by simp [results, Try.results94, go_sem]) rfl ⟨rfl, rfl⟩
end Go.Proofs.Ytajabapcmpmboaa

/- The sums of the reference. -/
namespace Go.Proofs.Ytajabapcmpmboaa
set_option linter.unusedVariables false
set_option linter.unusedSimpArgs false
open Go.RowKit

set_option maxHeartbeats 1000000 in
theorem ref_PoundsOf (s : Shop) (a : Option Addr) (cap : Nat) (x : Option Addr) (len xcap : Nat) (ns : List Int) (w : World) (hp : PigsAt w a len s.pigs) (hx : IntsAt w x len ns) (hl4 : len ≤ 4) (hf : Few s.pigs ns) :
    Calls Try.prog 50 #[.agg #[.int .i64 s.P, .int .i64 s.tl, .int .i64 s.th, .int .i64 s.al, .int .i64 s.ah, .int .i64 s.room, .int .i64 s.xl, .int .i64 s.xh, .int .i64 s.yl, .int .i64 s.yh, .slice a len cap], .slice x len xcap] w fun e w' => e = .returned (.int .i64 (tot Pig.P s.pigs ns)) ∧ Below w.heap.size w w' := by
  obtain ⟨hl, hm, hc⟩ := hp
  obtain ⟨hxl, _, hxc⟩ := hx
  have hbd := tot_bd Pig.P bd_pounds s.pigs ns hf
  rcases Nat.eq_zero_or_pos len with h0 | h0
  · subst h0
    have hs : s.pigs = [] := List.length_eq_zero_iff.1 hl
    have HS := Lib.hid (show tot Pig.P s.pigs ns = 0 by simp [hs, tot_nil]); clear hs hl hc hxl hxc hbd
    go_enter Try.func50, Try.ntmps50
    go_wp2
    go_loopw [5, 6] (fun n i wr => n = .int .i64 0 ∧ i = .int .i64 0 ∧ Below w.heap.size w wr) (fun _ _ _ => 0)
    case atStart => exact ⟨rfl, rfl, (by repeat (first | exact Below.refl _ _ | (refine Below.alloc ?_ (by first | omega | (simp; omega) | simp) _) | (refine Below.setCell ?_ (by first | omega | (simp; omega) | simp) _) | refine Below.drew ?_))⟩
    case round =>
      obtain ⟨rfl, rfl, hB⟩ := hrel
      go_wp2
      go_ret
      exact ⟨ret_i64 HS.out.symm, hB⟩
  · obtain ⟨b, o, rfl, hbB, hcell⟩ := hc h0
    obtain ⟨xb, xo, rfl, hxB, hxcell⟩ := hxc h0
    have HL := Lib.hid hl; clear hl hc
    have HX := Lib.hid hxl; clear hxl hxc
    have HB := Lib.hid hbd; clear hbd
    go_enter Try.func50, Try.ntmps50
    go_wp2
    go_loopw [5, 6] (fun n i wr => ∃ k : Nat, k ≤ len ∧ i = .int .i64 k ∧ n = .int .i64 (tot Pig.P (s.pigs.take k) (ns.take k)) ∧ Below w.heap.size w wr ∧ wr.cell? ⟨w.heap.size, 10, none⟩ = some (.slice (some ⟨b, o, none⟩) len cap)) (fun _ i _ => len - (intOf i).toNat)
    case atStart => exact ⟨0, by omega, rfl, by simp [tot_nil], (by repeat (first | exact Below.refl _ _ | (refine Below.alloc ?_ (by first | omega | (simp; omega) | simp) _) | (refine Below.setCell ?_ (by first | omega | (simp; omega) | simp) _) | refine Below.drew ?_)), by simp⟩
    case round =>
      obtain ⟨k, hk, rfl, rfl, hB, hbox⟩ := hrel
      have hz := hB.size
      by_cases hlt : k < len
      · have hk2 : k < s.pigs.length := by rw [HL.out]; exact hlt
        have hk3 : k < ns.length := by rw [HX.out]; exact hlt
        obtain ⟨c0, c1, c2, c3, c4⟩ := Pig.at_below hB hbB (hcell k hk2)
        have cx := (hB.cell (p := ⟨xb, _, none⟩) hxB).trans (hxcell k hk3)
        obtain ⟨f1, f2, f3⟩ := hf k hk2 hk3
        have f4 := Pig.ok_bd f1
        have f5 := mul_bd (f := (s.pigs[k]).P) ⟨f2, by omega⟩ (bd_pounds _ f1)
        obtain ⟨g1, g2⟩ := HB.out k (by omega) (by omega)
        have HT := Lib.hid (tot_snoc Pig.P s.pigs ns k hk2 hk3)
        have hkl : (k : Int) < (len : Int) := by omega
        clear f1 f4
        generalize s.pigs[k] = p at *
        generalize ns[k] = n at *
        generalize tot Pig.P (s.pigs.take k) (ns.take k) = t at *
        obtain ⟨f5, f6⟩ := f5
        have hw1 : IntKind.i64.wrap (n * p.P) = n * p.P := IntWalk.i64_in _ ⟨by omega, by omega⟩
        have hw2 : IntKind.i64.wrap (t + n * p.P) = t + n * p.P := IntWalk.i64_in _ ⟨by omega, by omega⟩
        go_wp2_with fail
        go_quiet (fail)
        clear hw1 hw2
        go_wp2_with fail
        go_roundw
        case rel => exact ⟨k + 1, by omega, by go_num, by rw [HT.out], hB.trans (Go.Joins.below_draws _ _ _), hbox⟩
        case measure => simp [intOf]; omega
      · have hk' : k = len := by omega
        subst hk'
        go_wp2
        go_ret
        exact ⟨ret_i64 (by rw [List.take_of_length_le (by rw [HL.out]; omega), List.take_of_length_le (by rw [HX.out]; omega)]), hB⟩
set_option maxHeartbeats 1000000 in
theorem ref_TinOf (s : Shop) (a : Option Addr) (cap : Nat) (x : Option Addr) (len xcap : Nat) (ns : List Int) (w : World) (hp : PigsAt w a len s.pigs) (hx : IntsAt w x len ns) (hl4 : len ≤ 4) (hf : Few s.pigs ns) :
    Calls Try.prog 51 #[.agg #[.int .i64 s.P, .int .i64 s.tl, .int .i64 s.th, .int .i64 s.al, .int .i64 s.ah, .int .i64 s.room, .int .i64 s.xl, .int .i64 s.xh, .int .i64 s.yl, .int .i64 s.yh, .slice a len cap], .slice x len xcap] w fun e w' => e = .returned (.int .i64 (tot Pig.t s.pigs ns)) ∧ Below w.heap.size w w' := by
  obtain ⟨hl, hm, hc⟩ := hp
  obtain ⟨hxl, _, hxc⟩ := hx
  have hbd := tot_bd Pig.t bd_tin s.pigs ns hf
  rcases Nat.eq_zero_or_pos len with h0 | h0
  · subst h0
    have hs : s.pigs = [] := List.length_eq_zero_iff.1 hl
    have HS := Lib.hid (show tot Pig.t s.pigs ns = 0 by simp [hs, tot_nil]); clear hs hl hc hxl hxc hbd
    go_enter Try.func51, Try.ntmps51
    go_wp2
    go_loopw [5, 6] (fun n i wr => n = .int .i64 0 ∧ i = .int .i64 0 ∧ Below w.heap.size w wr) (fun _ _ _ => 0)
    case atStart => exact ⟨rfl, rfl, (by repeat (first | exact Below.refl _ _ | (refine Below.alloc ?_ (by first | omega | (simp; omega) | simp) _) | (refine Below.setCell ?_ (by first | omega | (simp; omega) | simp) _) | refine Below.drew ?_))⟩
    case round =>
      obtain ⟨rfl, rfl, hB⟩ := hrel
      go_wp2
      go_ret
      exact ⟨ret_i64 HS.out.symm, hB⟩
  · obtain ⟨b, o, rfl, hbB, hcell⟩ := hc h0
    obtain ⟨xb, xo, rfl, hxB, hxcell⟩ := hxc h0
    have HL := Lib.hid hl; clear hl hc
    have HX := Lib.hid hxl; clear hxl hxc
    have HB := Lib.hid hbd; clear hbd
    go_enter Try.func51, Try.ntmps51
    go_wp2
    go_loopw [5, 6] (fun n i wr => ∃ k : Nat, k ≤ len ∧ i = .int .i64 k ∧ n = .int .i64 (tot Pig.t (s.pigs.take k) (ns.take k)) ∧ Below w.heap.size w wr ∧ wr.cell? ⟨w.heap.size, 10, none⟩ = some (.slice (some ⟨b, o, none⟩) len cap)) (fun _ i _ => len - (intOf i).toNat)
    case atStart => exact ⟨0, by omega, rfl, by simp [tot_nil], (by repeat (first | exact Below.refl _ _ | (refine Below.alloc ?_ (by first | omega | (simp; omega) | simp) _) | (refine Below.setCell ?_ (by first | omega | (simp; omega) | simp) _) | refine Below.drew ?_)), by simp⟩
    case round =>
      obtain ⟨k, hk, rfl, rfl, hB, hbox⟩ := hrel
      have hz := hB.size
      by_cases hlt : k < len
      · have hk2 : k < s.pigs.length := by rw [HL.out]; exact hlt
        have hk3 : k < ns.length := by rw [HX.out]; exact hlt
        obtain ⟨c0, c1, c2, c3, c4⟩ := Pig.at_below hB hbB (hcell k hk2)
        have cx := (hB.cell (p := ⟨xb, _, none⟩) hxB).trans (hxcell k hk3)
        obtain ⟨f1, f2, f3⟩ := hf k hk2 hk3
        have f4 := Pig.ok_bd f1
        have f5 := mul_bd (f := (s.pigs[k]).t) ⟨f2, by omega⟩ (bd_tin _ f1)
        obtain ⟨g1, g2⟩ := HB.out k (by omega) (by omega)
        have HT := Lib.hid (tot_snoc Pig.t s.pigs ns k hk2 hk3)
        have hkl : (k : Int) < (len : Int) := by omega
        clear f1 f4
        generalize s.pigs[k] = p at *
        generalize ns[k] = n at *
        generalize tot Pig.t (s.pigs.take k) (ns.take k) = t at *
        obtain ⟨f5, f6⟩ := f5
        have hw1 : IntKind.i64.wrap (n * p.t) = n * p.t := IntWalk.i64_in _ ⟨by omega, by omega⟩
        have hw2 : IntKind.i64.wrap (t + n * p.t) = t + n * p.t := IntWalk.i64_in _ ⟨by omega, by omega⟩
        go_wp2_with fail
        go_quiet (fail)
        clear hw1 hw2
        go_wp2_with fail
        go_roundw
        case rel => exact ⟨k + 1, by omega, by go_num, by rw [HT.out], hB.trans (Go.Joins.below_draws _ _ _), hbox⟩
        case measure => simp [intOf]; omega
      · have hk' : k = len := by omega
        subst hk'
        go_wp2
        go_ret
        exact ⟨ret_i64 (by rw [List.take_of_length_le (by rw [HL.out]; omega), List.take_of_length_le (by rw [HX.out]; omega)]), hB⟩
set_option maxHeartbeats 1000000 in
theorem ref_AntimonyOf (s : Shop) (a : Option Addr) (cap : Nat) (x : Option Addr) (len xcap : Nat) (ns : List Int) (w : World) (hp : PigsAt w a len s.pigs) (hx : IntsAt w x len ns) (hl4 : len ≤ 4) (hf : Few s.pigs ns) :
    Calls Try.prog 52 #[.agg #[.int .i64 s.P, .int .i64 s.tl, .int .i64 s.th, .int .i64 s.al, .int .i64 s.ah, .int .i64 s.room, .int .i64 s.xl, .int .i64 s.xh, .int .i64 s.yl, .int .i64 s.yh, .slice a len cap], .slice x len xcap] w fun e w' => e = .returned (.int .i64 (tot Pig.a s.pigs ns)) ∧ Below w.heap.size w w' := by
  obtain ⟨hl, hm, hc⟩ := hp
  obtain ⟨hxl, _, hxc⟩ := hx
  have hbd := tot_bd Pig.a bd_antimony s.pigs ns hf
  rcases Nat.eq_zero_or_pos len with h0 | h0
  · subst h0
    have hs : s.pigs = [] := List.length_eq_zero_iff.1 hl
    have HS := Lib.hid (show tot Pig.a s.pigs ns = 0 by simp [hs, tot_nil]); clear hs hl hc hxl hxc hbd
    go_enter Try.func52, Try.ntmps52
    go_wp2
    go_loopw [5, 6] (fun n i wr => n = .int .i64 0 ∧ i = .int .i64 0 ∧ Below w.heap.size w wr) (fun _ _ _ => 0)
    case atStart => exact ⟨rfl, rfl, (by repeat (first | exact Below.refl _ _ | (refine Below.alloc ?_ (by first | omega | (simp; omega) | simp) _) | (refine Below.setCell ?_ (by first | omega | (simp; omega) | simp) _) | refine Below.drew ?_))⟩
    case round =>
      obtain ⟨rfl, rfl, hB⟩ := hrel
      go_wp2
      go_ret
      exact ⟨ret_i64 HS.out.symm, hB⟩
  · obtain ⟨b, o, rfl, hbB, hcell⟩ := hc h0
    obtain ⟨xb, xo, rfl, hxB, hxcell⟩ := hxc h0
    have HL := Lib.hid hl; clear hl hc
    have HX := Lib.hid hxl; clear hxl hxc
    have HB := Lib.hid hbd; clear hbd
    go_enter Try.func52, Try.ntmps52
    go_wp2
    go_loopw [5, 6] (fun n i wr => ∃ k : Nat, k ≤ len ∧ i = .int .i64 k ∧ n = .int .i64 (tot Pig.a (s.pigs.take k) (ns.take k)) ∧ Below w.heap.size w wr ∧ wr.cell? ⟨w.heap.size, 10, none⟩ = some (.slice (some ⟨b, o, none⟩) len cap)) (fun _ i _ => len - (intOf i).toNat)
    case atStart => exact ⟨0, by omega, rfl, by simp [tot_nil], (by repeat (first | exact Below.refl _ _ | (refine Below.alloc ?_ (by first | omega | (simp; omega) | simp) _) | (refine Below.setCell ?_ (by first | omega | (simp; omega) | simp) _) | refine Below.drew ?_)), by simp⟩
    case round =>
      obtain ⟨k, hk, rfl, rfl, hB, hbox⟩ := hrel
      have hz := hB.size
      by_cases hlt : k < len
      · have hk2 : k < s.pigs.length := by rw [HL.out]; exact hlt
        have hk3 : k < ns.length := by rw [HX.out]; exact hlt
        obtain ⟨c0, c1, c2, c3, c4⟩ := Pig.at_below hB hbB (hcell k hk2)
        have cx := (hB.cell (p := ⟨xb, _, none⟩) hxB).trans (hxcell k hk3)
        obtain ⟨f1, f2, f3⟩ := hf k hk2 hk3
        have f4 := Pig.ok_bd f1
        have f5 := mul_bd (f := (s.pigs[k]).a) ⟨f2, by omega⟩ (bd_antimony _ f1)
        obtain ⟨g1, g2⟩ := HB.out k (by omega) (by omega)
        have HT := Lib.hid (tot_snoc Pig.a s.pigs ns k hk2 hk3)
        have hkl : (k : Int) < (len : Int) := by omega
        clear f1 f4
        generalize s.pigs[k] = p at *
        generalize ns[k] = n at *
        generalize tot Pig.a (s.pigs.take k) (ns.take k) = t at *
        obtain ⟨f5, f6⟩ := f5
        have hw1 : IntKind.i64.wrap (n * p.a) = n * p.a := IntWalk.i64_in _ ⟨by omega, by omega⟩
        have hw2 : IntKind.i64.wrap (t + n * p.a) = t + n * p.a := IntWalk.i64_in _ ⟨by omega, by omega⟩
        go_wp2_with fail
        go_quiet (fail)
        clear hw1 hw2
        go_wp2_with fail
        go_roundw
        case rel => exact ⟨k + 1, by omega, by go_num, by rw [HT.out], hB.trans (Go.Joins.below_draws _ _ _), hbox⟩
        case measure => simp [intOf]; omega
      · have hk' : k = len := by omega
        subst hk'
        go_wp2
        go_ret
        exact ⟨ret_i64 (by rw [List.take_of_length_le (by rw [HL.out]; omega), List.take_of_length_le (by rw [HX.out]; omega)]), hB⟩
set_option maxHeartbeats 1000000 in
theorem ref_PenceOf (s : Shop) (a : Option Addr) (cap : Nat) (x : Option Addr) (len xcap : Nat) (ns : List Int) (w : World) (hp : PigsAt w a len s.pigs) (hx : IntsAt w x len ns) (hl4 : len ≤ 4) (hf : Few s.pigs ns) :
    Calls Try.prog 58 #[.agg #[.int .i64 s.P, .int .i64 s.tl, .int .i64 s.th, .int .i64 s.al, .int .i64 s.ah, .int .i64 s.room, .int .i64 s.xl, .int .i64 s.xh, .int .i64 s.yl, .int .i64 s.yh, .slice a len cap], .slice x len xcap] w fun e w' => e = .returned (.int .i64 (tot Pig.c s.pigs ns)) ∧ Below w.heap.size w w' := by
  obtain ⟨hl, hm, hc⟩ := hp
  obtain ⟨hxl, _, hxc⟩ := hx
  have hbd := tot_bd Pig.c bd_pence s.pigs ns hf
  rcases Nat.eq_zero_or_pos len with h0 | h0
  · subst h0
    have hs : s.pigs = [] := List.length_eq_zero_iff.1 hl
    have HS := Lib.hid (show tot Pig.c s.pigs ns = 0 by simp [hs, tot_nil]); clear hs hl hc hxl hxc hbd
    go_enter Try.func58, Try.ntmps58
    go_wp2
    go_loopw [5, 6] (fun n i wr => n = .int .i64 0 ∧ i = .int .i64 0 ∧ Below w.heap.size w wr) (fun _ _ _ => 0)
    case atStart => exact ⟨rfl, rfl, (by repeat (first | exact Below.refl _ _ | (refine Below.alloc ?_ (by first | omega | (simp; omega) | simp) _) | (refine Below.setCell ?_ (by first | omega | (simp; omega) | simp) _) | refine Below.drew ?_))⟩
    case round =>
      obtain ⟨rfl, rfl, hB⟩ := hrel
      go_wp2
      go_ret
      exact ⟨ret_i64 HS.out.symm, hB⟩
  · obtain ⟨b, o, rfl, hbB, hcell⟩ := hc h0
    obtain ⟨xb, xo, rfl, hxB, hxcell⟩ := hxc h0
    have HL := Lib.hid hl; clear hl hc
    have HX := Lib.hid hxl; clear hxl hxc
    have HB := Lib.hid hbd; clear hbd
    go_enter Try.func58, Try.ntmps58
    go_wp2
    go_loopw [5, 6] (fun n i wr => ∃ k : Nat, k ≤ len ∧ i = .int .i64 k ∧ n = .int .i64 (tot Pig.c (s.pigs.take k) (ns.take k)) ∧ Below w.heap.size w wr ∧ wr.cell? ⟨w.heap.size, 10, none⟩ = some (.slice (some ⟨b, o, none⟩) len cap)) (fun _ i _ => len - (intOf i).toNat)
    case atStart => exact ⟨0, by omega, rfl, by simp [tot_nil], (by repeat (first | exact Below.refl _ _ | (refine Below.alloc ?_ (by first | omega | (simp; omega) | simp) _) | (refine Below.setCell ?_ (by first | omega | (simp; omega) | simp) _) | refine Below.drew ?_)), by simp⟩
    case round =>
      obtain ⟨k, hk, rfl, rfl, hB, hbox⟩ := hrel
      have hz := hB.size
      by_cases hlt : k < len
      · have hk2 : k < s.pigs.length := by rw [HL.out]; exact hlt
        have hk3 : k < ns.length := by rw [HX.out]; exact hlt
        obtain ⟨c0, c1, c2, c3, c4⟩ := Pig.at_below hB hbB (hcell k hk2)
        have cx := (hB.cell (p := ⟨xb, _, none⟩) hxB).trans (hxcell k hk3)
        obtain ⟨f1, f2, f3⟩ := hf k hk2 hk3
        have f4 := Pig.ok_bd f1
        have f5 := mul_bd (f := (s.pigs[k]).c) ⟨f2, by omega⟩ (bd_pence _ f1)
        obtain ⟨g1, g2⟩ := HB.out k (by omega) (by omega)
        have HT := Lib.hid (tot_snoc Pig.c s.pigs ns k hk2 hk3)
        have hkl : (k : Int) < (len : Int) := by omega
        clear f1 f4
        generalize s.pigs[k] = p at *
        generalize ns[k] = n at *
        generalize tot Pig.c (s.pigs.take k) (ns.take k) = t at *
        obtain ⟨f5, f6⟩ := f5
        have hw1 : IntKind.i64.wrap (n * p.c) = n * p.c := IntWalk.i64_in _ ⟨by omega, by omega⟩
        have hw2 : IntKind.i64.wrap (t + n * p.c) = t + n * p.c := IntWalk.i64_in _ ⟨by omega, by omega⟩
        go_wp2_with fail
        go_quiet (fail)
        clear hw1 hw2
        go_wp2_with fail
        go_roundw
        case rel => exact ⟨k + 1, by omega, by go_num, by rw [HT.out], hB.trans (Go.Joins.below_draws _ _ _), hbox⟩
        case measure => simp [intOf]; omega
      · have hk' : k = len := by omega
        subst hk'
        go_wp2
        go_ret
        exact ⟨ret_i64 (by rw [List.take_of_length_le (by rw [HL.out]; omega), List.take_of_length_le (by rw [HX.out]; omega)]), hB⟩
end Go.Proofs.Ytajabapcmpmboaa

/- Whether a shop is valid, as the reference says it. -/
namespace Go.Proofs.Ytajabapcmpmboaa
set_option linter.unusedVariables false
set_option linter.unusedSimpArgs false
open Go.RowKit

set_option maxHeartbeats 800000 in
theorem isPig_any (P t a c m : Int) (w : World) :
    Calls Try.prog 73 #[.agg #[.int .i64 P, .int .i64 t, .int .i64 a, .int .i64 c, .int .i64 m]] w fun e w' => e = .returned (.bool (pigB P t a c m)) ∧ w.alloc (.cells #[.int .i64 P, .int .i64 t, .int .i64 a, .int .i64 c, .int .i64 m] 70) = w' := by
  rcases h1 : btw P 1 40 with - | -
  · go_enter Try.func73, Try.ntmps73
    go_wp2_with (first | (go_at_call 53; with_reducible refine (Within_is _ _ _ _ h1 _).mono ?_; rintro e w' ⟨rfl, rfl⟩))
    go_ret
    exact ⟨ret_bool (by simp [pigB, btw] at *; omega), rfl⟩
  rcases h2 : btw t 0 P with - | -
  · go_enter Try.func73, Try.ntmps73
    go_wp2_with (first | (go_at_call 53; with_reducible refine (Within_is _ _ _ _ h1 _).mono ?_; rintro e w' ⟨rfl, rfl⟩) | (go_at_call 53; with_reducible refine (Within_is _ _ _ _ h2 _).mono ?_; rintro e w' ⟨rfl, rfl⟩))
    go_ret
    exact ⟨ret_bool (by simp [pigB, btw] at *; omega), rfl⟩
  rcases h3 : btw a 0 (P - t) with - | -
  · have k1 : 0 ≤ t ∧ t ≤ P ∧ 1 ≤ P ∧ P ≤ 40 := by simp [btw] at h1 h2; omega
    obtain ⟨k1, k2, k3, k4⟩ := k1
    go_enter Try.func73, Try.ntmps73
    go_wp2_with (first | (go_at_call 53; with_reducible refine (Within_is _ _ _ _ h1 _).mono ?_; rintro e w' ⟨rfl, rfl⟩) | (go_at_call 53; with_reducible refine (Within_is _ _ _ _ h2 _).mono ?_; rintro e w' ⟨rfl, rfl⟩) | (go_at_call 53; with_reducible refine (Within_is _ _ _ _ h3 _).mono ?_; rintro e w' ⟨rfl, rfl⟩))
    go_ret
    exact ⟨ret_bool (by simp [pigB, btw] at *; omega), rfl⟩
  rcases h5 : btw c 0 99 with - | -
  · have k1 : 0 ≤ t ∧ t ≤ P ∧ 1 ≤ P ∧ P ≤ 40 := by simp [btw] at h1 h2; omega
    obtain ⟨k1, k2, k3, k4⟩ := k1
    go_enter Try.func73, Try.ntmps73
    go_wp2_with (first | (go_at_call 53; with_reducible refine (Within_is _ _ _ _ h1 _).mono ?_; rintro e w' ⟨rfl, rfl⟩) | (go_at_call 53; with_reducible refine (Within_is _ _ _ _ h2 _).mono ?_; rintro e w' ⟨rfl, rfl⟩) | (go_at_call 53; with_reducible refine (Within_is _ _ _ _ h3 _).mono ?_; rintro e w' ⟨rfl, rfl⟩) | (go_at_call 53; with_reducible refine (Within_is _ _ _ _ h5 _).mono ?_; rintro e w' ⟨rfl, rfl⟩))
    go_ret
    exact ⟨ret_bool (by simp [pigB, btw] at *; omega), rfl⟩
  rcases h6 : btw m 0 5 with - | -
  · have k1 : 0 ≤ t ∧ t ≤ P ∧ 1 ≤ P ∧ P ≤ 40 := by simp [btw] at h1 h2; omega
    obtain ⟨k1, k2, k3, k4⟩ := k1
    go_enter Try.func73, Try.ntmps73
    go_wp2_with (first | (go_at_call 53; with_reducible refine (Within_is _ _ _ _ h1 _).mono ?_; rintro e w' ⟨rfl, rfl⟩) | (go_at_call 53; with_reducible refine (Within_is _ _ _ _ h2 _).mono ?_; rintro e w' ⟨rfl, rfl⟩) | (go_at_call 53; with_reducible refine (Within_is _ _ _ _ h3 _).mono ?_; rintro e w' ⟨rfl, rfl⟩) | (go_at_call 53; with_reducible refine (Within_is _ _ _ _ h5 _).mono ?_; rintro e w' ⟨rfl, rfl⟩) | (go_at_call 53; with_reducible refine (Within_is _ _ _ _ h6 _).mono ?_; rintro e w' ⟨rfl, rfl⟩))
    go_ret
    exact ⟨ret_bool (by simp [pigB, btw] at *; omega), rfl⟩
  have k1 : 0 ≤ t ∧ t ≤ P ∧ 1 ≤ P ∧ P ≤ 40 := by simp [btw] at h1 h2; omega
  obtain ⟨k1, k2, k3, k4⟩ := k1
  go_enter Try.func73, Try.ntmps73
  go_wp2_with (first | (go_at_call 53; with_reducible refine (Within_is _ _ _ _ h1 _).mono ?_; rintro e w' ⟨rfl, rfl⟩) | (go_at_call 53; with_reducible refine (Within_is _ _ _ _ h2 _).mono ?_; rintro e w' ⟨rfl, rfl⟩) | (go_at_call 53; with_reducible refine (Within_is _ _ _ _ h3 _).mono ?_; rintro e w' ⟨rfl, rfl⟩) | (go_at_call 53; with_reducible refine (Within_is _ _ _ _ h5 _).mono ?_; rintro e w' ⟨rfl, rfl⟩) | (go_at_call 53; with_reducible refine (Within_is _ _ _ _ h6 _).mono ?_; rintro e w' ⟨rfl, rfl⟩))
  go_ret
  exact ⟨ret_bool (by simp [pigB, btw] at *; omega), rfl⟩

end Go.Proofs.Ytajabapcmpmboaa
