/- Check of the reference. -/
import Derived.Test.YtajabapcmpmboaaRA
namespace Go.Proofs.Ytajabapcmpmboaa
set_option linter.unusedVariables false
set_option linter.unusedSimpArgs false
open Go.RowKit

/-- The error of a shop, if it is not valid. -/
def Shop.chk (s : Shop) : Int := if s.ok then 0 else 10
theorem IsPot_is (P tl th al ah : Int) (b : Bool) (h : potB P tl th al ah = b) (w : World) :
    Calls Try.prog 65 #[.agg #[.int .i64 P, .int .i64 tl, .int .i64 th, .int .i64 al, .int .i64 ah]] w fun e w' => e = .returned (.bool b) ∧ Below w.heap.size w w' := h ▸ IsPot_any P tl th al ah w
theorem isPig_is (P t a c m : Int) (b : Bool) (h : pigB P t a c m = b) (w : World) :
    Calls Try.prog 73 #[.agg #[.int .i64 P, .int .i64 t, .int .i64 a, .int .i64 c, .int .i64 m]] w fun e w' => e = .returned (.bool b) ∧ w.alloc (.cells #[.int .i64 P, .int .i64 t, .int .i64 a, .int .i64 c, .int .i64 m] 70) = w' := h ▸ isPig_any P t a c m w

set_option maxHeartbeats 800000 in
theorem refCheck_no (s : Shop) (a : Option Addr) (len cap : Nat) (w : World) (hl : s.pigs.length = len) (hno : s.okH = false) :
    Calls Try.prog 21 #[.agg #[.int .i64 s.P, .int .i64 s.tl, .int .i64 s.th, .int .i64 s.al, .int .i64 s.ah, .int .i64 s.room, .int .i64 s.xl, .int .i64 s.xh, .int .i64 s.yl, .int .i64 s.yh, .slice a len cap]] w fun e w' => e = .returned (.int .i64 s.chk) ∧ Below w.heap.size w w' := by
  have HS := Lib.hid (show s.chk = 10 by simp [Shop.chk, Shop.ok, hno])
  rcases h1 : potB s.P s.tl s.th s.al s.ah with - | -
  · go_enter Try.func21, Try.ntmps21
    go_wp2_with (first | (go_at_call 65; with_reducible refine (IsPot_is _ _ _ _ _ _ h1 _).mono ?_; rintro e w1 ⟨rfl, hb1⟩; obtain ⟨hc1, hf1⟩ := bcell hb1; have hz1 : w.heap.size < w1.heap.size := (by have := hb1.size; simp at this; omega); have q1 : w.heap.size < w1.heap.size + 1 := (by omega); have q2 : w.heap.size < w1.heap.size + 1 + 1 := (by omega)))
    go_ret
    exact ⟨ret_i64 HS.out.symm, below_pot hb1 (by repeat (first | exact Below.refl _ _ | (refine Below.alloc ?_ (by first | omega | (simp; omega) | simp) _) | (refine Below.setCell ?_ (by first | omega | (simp; omega) | simp) _) | refine Below.drew ?_))⟩
  rcases h2 : btw s.room s.P 999 with - | -
  · go_enter Try.func21, Try.ntmps21
    go_wp2_with (first | (go_at_call 65; with_reducible refine (IsPot_is _ _ _ _ _ _ h1 _).mono ?_; rintro e w1 ⟨rfl, hb1⟩; obtain ⟨hc1, hf1⟩ := bcell hb1; have hz1 : w.heap.size < w1.heap.size := (by have := hb1.size; simp at this; omega); have q1 : w.heap.size < w1.heap.size + 1 := (by omega); have q2 : w.heap.size < w1.heap.size + 1 + 1 := (by omega)) | (go_at_call 53; with_reducible refine (Within_is _ _ _ _ h2 _).mono ?_; rintro e w2 ⟨rfl, rfl⟩))
    go_ret
    exact ⟨ret_i64 HS.out.symm, below_pot hb1 (by repeat (first | exact Below.refl _ _ | (refine Below.alloc ?_ (by first | omega | (simp; omega) | simp) _) | (refine Below.setCell ?_ (by first | omega | (simp; omega) | simp) _) | refine Below.drew ?_))⟩
  rcases h4 : spanB s.xl s.xh 1000 with - | -
  · go_enter Try.func21, Try.ntmps21
    go_wp2_with (first | (go_at_call 65; with_reducible refine (IsPot_is _ _ _ _ _ _ h1 _).mono ?_; rintro e w1 ⟨rfl, hb1⟩; obtain ⟨hc1, hf1⟩ := bcell hb1; have hz1 : w.heap.size < w1.heap.size := (by have := hb1.size; simp at this; omega); have q1 : w.heap.size < w1.heap.size + 1 := (by omega); have q2 : w.heap.size < w1.heap.size + 1 + 1 := (by omega)) | (go_at_call 53; with_reducible refine (Within_is _ _ _ _ h2 _).mono ?_; rintro e w2 ⟨rfl, rfl⟩) | (go_at_call 72; with_reducible refine (IsSpan_is _ _ _ _ h4 _).mono ?_; rintro e w2 ⟨rfl, rfl⟩))
    go_ret
    exact ⟨ret_i64 HS.out.symm, below_pot hb1 (by repeat (first | exact Below.refl _ _ | (refine Below.alloc ?_ (by first | omega | (simp; omega) | simp) _) | (refine Below.setCell ?_ (by first | omega | (simp; omega) | simp) _) | refine Below.drew ?_))⟩
  rcases h5 : spanB s.yl s.yh 1000 with - | -
  · go_enter Try.func21, Try.ntmps21
    go_wp2_with (first | (go_at_call 65; with_reducible refine (IsPot_is _ _ _ _ _ _ h1 _).mono ?_; rintro e w1 ⟨rfl, hb1⟩; obtain ⟨hc1, hf1⟩ := bcell hb1; have hz1 : w.heap.size < w1.heap.size := (by have := hb1.size; simp at this; omega); have q1 : w.heap.size < w1.heap.size + 1 := (by omega); have q2 : w.heap.size < w1.heap.size + 1 + 1 := (by omega)) | (go_at_call 53; with_reducible refine (Within_is _ _ _ _ h2 _).mono ?_; rintro e w2 ⟨rfl, rfl⟩) | (go_at_call 72; with_reducible refine (IsSpan_is _ _ _ _ h4 _).mono ?_; rintro e w2 ⟨rfl, rfl⟩) | (go_at_call 72; with_reducible refine (IsSpan_is _ _ _ _ h5 _).mono ?_; rintro e w3 ⟨rfl, rfl⟩))
    go_ret
    exact ⟨ret_i64 HS.out.symm, below_pot hb1 (by repeat (first | exact Below.refl _ _ | (refine Below.alloc ?_ (by first | omega | (simp; omega) | simp) _) | (refine Below.setCell ?_ (by first | omega | (simp; omega) | simp) _) | refine Below.drew ?_))⟩
  rcases Nat.lt_or_ge 4 len with k6 | k6
  · go_enter Try.func21, Try.ntmps21
    go_wp2_with (first | (go_at_call 65; with_reducible refine (IsPot_is _ _ _ _ _ _ h1 _).mono ?_; rintro e w1 ⟨rfl, hb1⟩; obtain ⟨hc1, hf1⟩ := bcell hb1; have hz1 : w.heap.size < w1.heap.size := (by have := hb1.size; simp at this; omega); have q1 : w.heap.size < w1.heap.size + 1 := (by omega); have q2 : w.heap.size < w1.heap.size + 1 + 1 := (by omega)) | (go_at_call 53; with_reducible refine (Within_is _ _ _ _ h2 _).mono ?_; rintro e w2 ⟨rfl, rfl⟩) | (go_at_call 72; with_reducible refine (IsSpan_is _ _ _ _ h4 _).mono ?_; rintro e w2 ⟨rfl, rfl⟩) | (go_at_call 72; with_reducible refine (IsSpan_is _ _ _ _ h5 _).mono ?_; rintro e w3 ⟨rfl, rfl⟩))
    go_ret
    exact ⟨ret_i64 HS.out.symm, below_pot hb1 (by repeat (first | exact Below.refl _ _ | (refine Below.alloc ?_ (by first | omega | (simp; omega) | simp) _) | (refine Below.setCell ?_ (by first | omega | (simp; omega) | simp) _) | refine Below.drew ?_))⟩
  · exfalso; have j6 : s.pigs.length ≤ 4 := by omega
    simp [Shop.okH, h1, h4, h5, j6] at hno; simp [btw] at h2; omega

set_option maxHeartbeats 1000000 in
theorem refCheck_yes (s : Shop) (a : Option Addr) (len cap : Nat) (w : World) (hp : PigsAt w a len s.pigs) (hyes : s.okH = true) :
    Calls Try.prog 21 #[.agg #[.int .i64 s.P, .int .i64 s.tl, .int .i64 s.th, .int .i64 s.al, .int .i64 s.ah, .int .i64 s.room, .int .i64 s.xl, .int .i64 s.xh, .int .i64 s.yl, .int .i64 s.yh, .slice a len cap]] w fun e w' => e = .returned (.int .i64 s.chk) ∧ Below w.heap.size w w' := by
  have hh := hyes
  simp only [Shop.okH, Bool.and_eq_true, decide_eq_true_eq] at hh
  obtain ⟨⟨⟨⟨⟨h1, k2⟩, k3⟩, h4⟩, h5⟩, k6⟩ := hh
  have h2 : btw s.room s.P 999 = true := by simp [btw, k2, k3]
  obtain ⟨hl, hm, hc⟩ := hp
  rw [hl] at k6
  have HO := Lib.hid hyes; clear hyes
  rcases Nat.eq_zero_or_pos len with h0 | h0
  · subst h0
    have hs : s.pigs = [] := List.length_eq_zero_iff.1 hl
    have HS := Lib.hid (show s.chk = 0 by simp [Shop.chk, Shop.ok, HO.out, hs]); clear hs hl hc
    go_enter Try.func21, Try.ntmps21
    go_wp2_with (first | (go_at_call 65; with_reducible refine (IsPot_is _ _ _ _ _ _ h1 _).mono ?_; rintro e w1 ⟨rfl, hb1⟩; obtain ⟨hc1, hf1⟩ := bcell hb1; have hz1 : w.heap.size < w1.heap.size := (by have := hb1.size; simp at this; omega); have q1 : w.heap.size < w1.heap.size + 1 := (by omega); have q2 : w.heap.size < w1.heap.size + 1 + 1 := (by omega)) | (go_at_call 53; with_reducible refine (Within_is _ _ _ _ h2 _).mono ?_; rintro e w2 ⟨rfl, rfl⟩) | (go_at_call 72; with_reducible refine (IsSpan_is _ _ _ _ h4 _).mono ?_; rintro e w2 ⟨rfl, rfl⟩) | (go_at_call 72; with_reducible refine (IsSpan_is _ _ _ _ h5 _).mono ?_; rintro e w3 ⟨rfl, rfl⟩))
    have e10 : ∀ wr, Below w.heap.size w wr → wr.cell? ⟨w.heap.size, 10, none⟩ = some (.slice a 0 cap) → True := fun _ _ _ => trivial
    clear e10
    have hx10 := (hc1 w.heap.size 10 (by simp)).trans (by go_simp : _ = some (.slice a 0 cap))
    go_loopw [3] (fun i wr => i = .int .i64 0 ∧ Below w.heap.size w wr ∧ wr.cell? ⟨w.heap.size, 10, none⟩ = some (.slice a 0 cap)) (fun _ _ => 0)
    case atStart => exact ⟨rfl, below_pot hb1 (by repeat (first | exact Below.refl _ _ | (refine Below.alloc ?_ (by first | omega | (simp; omega) | simp) _) | (refine Below.setCell ?_ (by first | omega | (simp; omega) | simp) _) | refine Below.drew ?_)), by go_simp⟩
    case round =>
      obtain ⟨rfl, hB, hbox⟩ := hrel
      go_wp2
      go_ret
      exact ⟨ret_i64 HS.out.symm, hB⟩
  · obtain ⟨b, o, rfl, hbB, hcell⟩ := hc h0
    have HL := Lib.hid hl; clear hl hc
    go_enter Try.func21, Try.ntmps21
    go_wp2_with (first | (go_at_call 65; with_reducible refine (IsPot_is _ _ _ _ _ _ h1 _).mono ?_; rintro e w1 ⟨rfl, hb1⟩; obtain ⟨hc1, hf1⟩ := bcell hb1; have hz1 : w.heap.size < w1.heap.size := (by have := hb1.size; simp at this; omega); have q1 : w.heap.size < w1.heap.size + 1 := (by omega); have q2 : w.heap.size < w1.heap.size + 1 + 1 := (by omega)) | (go_at_call 53; with_reducible refine (Within_is _ _ _ _ h2 _).mono ?_; rintro e w2 ⟨rfl, rfl⟩) | (go_at_call 72; with_reducible refine (IsSpan_is _ _ _ _ h4 _).mono ?_; rintro e w2 ⟨rfl, rfl⟩) | (go_at_call 72; with_reducible refine (IsSpan_is _ _ _ _ h5 _).mono ?_; rintro e w3 ⟨rfl, rfl⟩))
    have hx10 := (hc1 w.heap.size 10 (by simp)).trans (by go_simp : _ = some (.slice (some ⟨b, o, none⟩) len cap))
    go_loopw [3] (fun i wr => ∃ k : Nat, k ≤ len ∧ i = .int .i64 k ∧ (s.pigs.take k).all Pig.ok = true ∧ Below w.heap.size w wr ∧ wr.cell? ⟨w.heap.size, 10, none⟩ = some (.slice (some ⟨b, o, none⟩) len cap)) (fun i _ => len - (intOf i).toNat)
    case atStart => exact ⟨0, by omega, rfl, by simp, below_pot hb1 (by repeat (first | exact Below.refl _ _ | (refine Below.alloc ?_ (by first | omega | (simp; omega) | simp) _) | (refine Below.setCell ?_ (by first | omega | (simp; omega) | simp) _) | refine Below.drew ?_)), by go_simp⟩
    case round =>
      obtain ⟨k, hk, rfl, hall, hB, hbox⟩ := hrel
      have HA := Lib.hid hall; clear hall
      by_cases hlt : k < len
      · have hk2 : k < s.pigs.length := by rw [HL.out]; exact hlt
        obtain ⟨c0, c1, c2, c3, c4⟩ := Pig.at_below hB hbB (hcell k hk2)
        have HT := Lib.hid (List.take_succ_eq_append_getElem hk2)
        have HG := Lib.hid (show s.pigs[k] ∈ s.pigs from List.getElem_mem hk2)
        generalize s.pigs[k] = p at c0 c1 c2 c3 c4 HT HG
        have hz := hB.size
        rcases hpig : pigB p.P p.t p.a p.c p.m with - | -
        · go_wp2_with (go_at_call 73; with_reducible refine (isPig_is _ _ _ _ _ _ hpig _).mono ?_; rintro e w4 ⟨rfl, rfl⟩)
          go_ret
          have hno : s.ok = false := by
            rw [Shop.ok, HO.out, Bool.true_and, List.all_eq_false]
            exact ⟨p, HG.out, by simp [Pig.ok, hpig]⟩
          exact ⟨ret_i64 (by simp [Shop.chk, hno]), hB.trans (by repeat (first | exact Below.refl _ _ | (refine Below.alloc ?_ (by first | omega | (simp; omega) | simp) _) | (refine Below.setCell ?_ (by first | omega | (simp; omega) | simp) _) | refine Below.drew ?_))⟩
        · go_wp2_with (go_at_call 73; with_reducible refine (isPig_is _ _ _ _ _ _ hpig _).mono ?_; rintro e w4 ⟨rfl, rfl⟩)
          go_roundw
          case rel => exact ⟨k + 1, by omega, by go_num, by rw [HT.out, List.all_append, HA.out]; simp [Pig.ok, hpig], hB.trans (by repeat (first | exact Below.refl _ _ | (refine Below.alloc ?_ (by first | omega | (simp; omega) | simp) _) | (refine Below.setCell ?_ (by first | omega | (simp; omega) | simp) _) | refine Below.drew ?_)), cell_more _ hbox⟩
          case measure => simp [intOf]; omega
      · have hk' : k = len := by omega
        subst hk'
        go_wp2
        go_ret
        exact ⟨ret_i64 (by rw [List.take_of_length_le (by rw [HL.out]; omega)] at HA; simp [Shop.chk, Shop.ok, HO.out, HA.out]), hB⟩
theorem refCheck_any (s : Shop) (a : Option Addr) (len cap : Nat) (w : World) (hp : PigsAt w a len s.pigs) :
    Calls Try.prog 21 #[.agg #[.int .i64 s.P, .int .i64 s.tl, .int .i64 s.th, .int .i64 s.al, .int .i64 s.ah, .int .i64 s.room, .int .i64 s.xl, .int .i64 s.xh, .int .i64 s.yl, .int .i64 s.yh, .slice a len cap]] w fun e w' => e = .returned (.int .i64 s.chk) ∧ Below w.heap.size w w' := by
  rcases h : s.okH with - | -
  · exact refCheck_no s a len cap w hp.1 h
  · exact refCheck_yes s a len cap w hp h
end Go.Proofs.Ytajabapcmpmboaa
