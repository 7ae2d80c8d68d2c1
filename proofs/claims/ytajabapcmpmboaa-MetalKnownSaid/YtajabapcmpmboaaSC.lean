/- Same of two shops that read alike. -/
import Derived.Test.YtajabapcmpmboaaRJ
namespace Go.Proofs.Ytajabapcmpmboaa
set_option linter.unusedVariables false
set_option linter.unusedSimpArgs false
open Go.RowKit

set_option maxRecDepth 100000 in
set_option maxHeartbeats 1000000 in
theorem Same_yes (s : Shop) (a b : Option Addr) (len capa capb : Nat) (w : World) (hp : PigsAt w a len s.pigs) (hq : PigsAt w b len s.pigs) :
    Calls Try.prog 29 #[.agg #[.int .i64 s.P, .int .i64 s.tl, .int .i64 s.th, .int .i64 s.al, .int .i64 s.ah, .int .i64 s.room, .int .i64 s.xl, .int .i64 s.xh, .int .i64 s.yl, .int .i64 s.yh, .slice a len capa], .agg #[.int .i64 s.P, .int .i64 s.tl, .int .i64 s.th, .int .i64 s.al, .int .i64 s.ah, .int .i64 s.room, .int .i64 s.xl, .int .i64 s.xh, .int .i64 s.yl, .int .i64 s.yh, .slice b len capb]] w fun e w' => e = .returned (.bool true) ∧ Below w.heap.size w w' := by
  obtain ⟨hl, hm, hc⟩ := hp
  obtain ⟨_, _, hd⟩ := hq
  unfold maxLen at hm
  rcases Nat.eq_zero_or_pos len with h0 | h0
  · subst h0
    clear hl hm hc hd
    go_enter Try.func29, Try.ntmps29
    go_wp2_with fail
    go_loopw [5] (fun i wr => i = .int .i64 0 ∧ Below w.heap.size w wr ∧ wr.cell? ⟨w.heap.size, 10, none⟩ = some (.slice a 0 capa)) (fun _ _ => 0)
    case atStart => exact ⟨rfl, (by repeat (first | exact Below.refl _ _ | (refine Below.alloc ?_ (by first | omega | (simp; omega) | simp) _) | (refine Below.setCell ?_ (by first | omega | (simp; omega) | simp) _) | refine Below.drew ?_)), by go_simp⟩
    case round =>
      obtain ⟨rfl, hB, hbox⟩ := hrel
      go_wp2
      go_ret
      exact ⟨rfl, hB⟩
  · obtain ⟨b1, o1, rfl, hB1, hcell⟩ := hc h0
    obtain ⟨b2, o2, rfl, hB2, hdell⟩ := hd h0
    have HL := Lib.hid hl; clear hl hc hd
    go_enter Try.func29, Try.ntmps29
    go_wp2_with fail
    go_loopw [5] (fun i wr => ∃ k : Nat, k ≤ len ∧ i = .int .i64 k ∧ Below w.heap.size w wr ∧ wr.cell? ⟨w.heap.size, 10, none⟩ = some (.slice (some ⟨b1, o1, none⟩) len capa) ∧ wr.cell? ⟨w.heap.size + 1, 10, none⟩ = some (.slice (some ⟨b2, o2, none⟩) len capb)) (fun i _ => len - (intOf i).toNat)
    case atStart => exact ⟨0, by omega, rfl, (by repeat (first | exact Below.refl _ _ | (refine Below.alloc ?_ (by first | omega | (simp; omega) | simp) _) | (refine Below.setCell ?_ (by first | omega | (simp; omega) | simp) _) | refine Below.drew ?_)), by go_simp, by go_simp⟩
    case round =>
      obtain ⟨k, hk, rfl, hB, hbox, hbox2⟩ := hrel
      by_cases hlt : k < len
      · have hk2 : k < s.pigs.length := by rw [HL.out]; exact hlt
        obtain ⟨c0, c1, c2, c3, c4⟩ := Pig.at_below hB hB1 (hcell k hk2)
        obtain ⟨d0, d1, d2, d3, d4⟩ := Pig.at_below hB hB2 (hdell k hk2)
        generalize s.pigs[k] = p at c0 c1 c2 c3 c4 d0 d1 d2 d3 d4
        have hz := hB.size
        have hkl : (k : Int) < (len : Int) := by omega
        go_wp2_with fail
        go_quiet (fail)
        go_wp2_with fail
        go_roundw
        case rel => exact ⟨k + 1, by omega, by go_num, hB.trans (Go.Joins.below_draws _ _ _), hbox, hbox2⟩
        case measure => simp [intOf]; omega
      · have hk' : k = len := by omega
        subst hk'
        go_wp2_with fail
        go_ret
        exact ⟨rfl, hB⟩
end Go.Proofs.Ytajabapcmpmboaa
