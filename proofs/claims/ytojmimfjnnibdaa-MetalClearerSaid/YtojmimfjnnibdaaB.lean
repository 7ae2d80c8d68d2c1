/- A shop of package metal is valid, or is not. -/
import Derived.Test.YtojmimfjnnibdaaA
namespace Go.Proofs.Ytojmimfjnnibdaa
set_option linter.unusedVariables false
set_option linter.unusedSimpArgs false
open Go.RowKit

structure Pig where
  P : Int
  t : Int
  a : Int
  c : Int
  m : Int
structure Shop where
  P : Int
  tl : Int
  th : Int
  al : Int
  ah : Int
  room : Int
  xl : Int
  xh : Int
  yl : Int
  yh : Int
  pigs : List Pig

def Pig.ok (p : Pig) : Bool := pigB p.P p.t p.a p.c p.m
def Pig.at (w : World) (b o : Nat) (p : Pig) : Prop :=
  w.cell? ⟨b, o, none⟩ = some (.int .i64 p.P) ∧ w.cell? ⟨b, o + 1, none⟩ = some (.int .i64 p.t) ∧ w.cell? ⟨b, o + 2, none⟩ = some (.int .i64 p.a) ∧ w.cell? ⟨b, o + 3, none⟩ = some (.int .i64 p.c) ∧ w.cell? ⟨b, o + 4, none⟩ = some (.int .i64 p.m)
/-- A slice of pigs reads as a list. -/
def PigsAt (w : World) (a : Option Addr) (len : Nat) (ps : List Pig) : Prop :=
  ps.length = len ∧ len ≤ maxLen ∧ (0 < len → ∃ b o, a = some ⟨b, o, none⟩ ∧ b < w.heap.size ∧ ∀ i (h : i < ps.length), (ps[i]).at w b (o + i * 5))
def Shop.okH (s : Shop) : Bool := potB s.P s.tl s.th s.al s.ah && decide (s.P ≤ s.room) && decide (s.room ≤ 999) && spanB s.xl s.xh 1000 && spanB s.yl s.yh 1000 && decide (s.pigs.length ≤ 4)
def Shop.ok (s : Shop) : Bool := s.okH && s.pigs.all Pig.ok

theorem Pig.at_below {w w1 : World} {b o : Nat} {p : Pig} {B : Nat} (hb : Below B w w1) (hB : b < B) (h : p.at w b o) : p.at w1 b o := by
  obtain ⟨h0, h1, h2, h3, h4⟩ := h
  exact ⟨(hb.cell (p := ⟨b, _, none⟩) hB).trans h0, (hb.cell (p := ⟨b, _, none⟩) hB).trans h1, (hb.cell (p := ⟨b, _, none⟩) hB).trans h2, (hb.cell (p := ⟨b, _, none⟩) hB).trans h3, (hb.cell (p := ⟨b, _, none⟩) hB).trans h4⟩
theorem PigsAt.below {w w1 : World} {a : Option Addr} {len : Nat} {ps : List Pig} (hb : Below w.heap.size w w1) (h : PigsAt w a len ps) : PigsAt w1 a len ps := by
  obtain ⟨h1, h2, h3⟩ := h
  refine ⟨h1, h2, fun hl => ?_⟩
  obtain ⟨b, o, ha, hB, hc⟩ := h3 hl
  exact ⟨b, o, ha, Nat.lt_of_lt_of_le hB hb.size, fun i hi => Pig.at_below hb hB (hc i hi)⟩

/-- A pot that has been looked at, and blocks behind it. -/
theorem below_pot {w w1 w2 : World} {o : Obj} (hb : Below (w.alloc o).heap.size (w.alloc o) w1) (h : Below w.heap.size w1 w2) : Below w.heap.size w w2 :=
  (((Below.refl _ w).alloc (Nat.le_refl _) o).trans (hb.mono (by simp))).trans h

set_option maxHeartbeats 400000 in
theorem valid_no (s : Shop) (a : Option Addr) (len cap : Nat) (w : World) (hl : s.pigs.length = len) (hno : s.okH = false) :
    Calls Try.prog 71 #[.agg #[.int .i64 s.P, .int .i64 s.tl, .int .i64 s.th, .int .i64 s.al, .int .i64 s.ah, .int .i64 s.room, .int .i64 s.xl, .int .i64 s.xh, .int .i64 s.yl, .int .i64 s.yh, .slice a len cap]] w fun e w' => e = .returned (.bool s.ok) ∧ Below w.heap.size w w' := by
  have HS := Lib.hid (show s.ok = false by simp [Shop.ok, hno])
  rcases h1 : potB s.P s.tl s.th s.al s.ah with - | -
  · go_enter Try.func71, Try.ntmps71
    go_wp2_with (first | (go_at_call 92; with_reducible refine (validPot_is _ _ _ _ _ _ h1 _).mono ?_; rintro e w1 ⟨rfl, hb1⟩; obtain ⟨hc1, hf1⟩ := bcell hb1; have hz1 : w.heap.size < w1.heap.size := (by have := hb1.size; simp at this; omega)))
    go_ret
    exact ⟨ret_bool HS.out.symm, below_pot hb1 (by repeat (first | exact Below.refl _ _ | (refine Below.alloc ?_ (by first | omega | (simp; omega) | simp) _)))⟩
  rcases Int.lt_or_le s.room s.P with k2 | k2
  · have j2 : ¬ s.P ≤ s.room := by omega
    go_enter Try.func71, Try.ntmps71
    go_wp2_with (first | (go_at_call 92; with_reducible refine (validPot_is _ _ _ _ _ _ h1 _).mono ?_; rintro e w1 ⟨rfl, hb1⟩; obtain ⟨hc1, hf1⟩ := bcell hb1; have hz1 : w.heap.size < w1.heap.size := (by have := hb1.size; simp at this; omega)))
    go_ret
    exact ⟨ret_bool HS.out.symm, below_pot hb1 (by repeat (first | exact Below.refl _ _ | (refine Below.alloc ?_ (by first | omega | (simp; omega) | simp) _)))⟩
  rcases Int.lt_or_le 999 s.room with k3 | k3
  · have j3 : ¬ s.room ≤ 999 := by omega
    go_enter Try.func71, Try.ntmps71
    go_wp2_with (first | (go_at_call 92; with_reducible refine (validPot_is _ _ _ _ _ _ h1 _).mono ?_; rintro e w1 ⟨rfl, hb1⟩; obtain ⟨hc1, hf1⟩ := bcell hb1; have hz1 : w.heap.size < w1.heap.size := (by have := hb1.size; simp at this; omega)))
    go_ret
    exact ⟨ret_bool HS.out.symm, below_pot hb1 (by repeat (first | exact Below.refl _ _ | (refine Below.alloc ?_ (by first | omega | (simp; omega) | simp) _)))⟩
  rcases h4 : spanB s.xl s.xh 1000 with - | -
  · go_enter Try.func71, Try.ntmps71
    go_wp2_with (first | (go_at_call 92; with_reducible refine (validPot_is _ _ _ _ _ _ h1 _).mono ?_; rintro e w1 ⟨rfl, hb1⟩; obtain ⟨hc1, hf1⟩ := bcell hb1; have hz1 : w.heap.size < w1.heap.size := (by have := hb1.size; simp at this; omega)) | (go_at_call 99; with_reducible refine (validSpan_is _ _ _ _ h4 _).mono ?_; rintro e w2 ⟨rfl, rfl⟩))
    go_ret
    exact ⟨ret_bool HS.out.symm, below_pot hb1 (by repeat (first | exact Below.refl _ _ | (refine Below.alloc ?_ (by first | omega | (simp; omega) | simp) _)))⟩
  rcases h5 : spanB s.yl s.yh 1000 with - | -
  · go_enter Try.func71, Try.ntmps71
    go_wp2_with (first | (go_at_call 92; with_reducible refine (validPot_is _ _ _ _ _ _ h1 _).mono ?_; rintro e w1 ⟨rfl, hb1⟩; obtain ⟨hc1, hf1⟩ := bcell hb1; have hz1 : w.heap.size < w1.heap.size := (by have := hb1.size; simp at this; omega)) | (go_at_call 99; with_reducible refine (validSpan_is _ _ _ _ h4 _).mono ?_; rintro e w2 ⟨rfl, rfl⟩) | (go_at_call 99; with_reducible refine (validSpan_is _ _ _ _ h5 _).mono ?_; rintro e w3 ⟨rfl, rfl⟩))
    go_ret
    exact ⟨ret_bool HS.out.symm, below_pot hb1 (by repeat (first | exact Below.refl _ _ | (refine Below.alloc ?_ (by first | omega | (simp; omega) | simp) _)))⟩
  rcases Nat.lt_or_ge 4 len with k6 | k6
  · have j6 : ¬ s.pigs.length ≤ 4 := by omega
    go_enter Try.func71, Try.ntmps71
    go_wp2_with (first | (go_at_call 92; with_reducible refine (validPot_is _ _ _ _ _ _ h1 _).mono ?_; rintro e w1 ⟨rfl, hb1⟩; obtain ⟨hc1, hf1⟩ := bcell hb1; have hz1 : w.heap.size < w1.heap.size := (by have := hb1.size; simp at this; omega)) | (go_at_call 99; with_reducible refine (validSpan_is _ _ _ _ h4 _).mono ?_; rintro e w2 ⟨rfl, rfl⟩) | (go_at_call 99; with_reducible refine (validSpan_is _ _ _ _ h5 _).mono ?_; rintro e w3 ⟨rfl, rfl⟩))
    go_ret
    exact ⟨ret_bool HS.out.symm, below_pot hb1 (by repeat (first | exact Below.refl _ _ | (refine Below.alloc ?_ (by first | omega | (simp; omega) | simp) _)))⟩
  · exfalso; have j6 : s.pigs.length ≤ 4 := by omega
    simp [Shop.okH, h1, h4, h5, j6] at hno; omega

set_option maxHeartbeats 400000 in
theorem valid_yes (s : Shop) (a : Option Addr) (len cap : Nat) (w : World) (hp : PigsAt w a len s.pigs) (hyes : s.okH = true) :
    Calls Try.prog 71 #[.agg #[.int .i64 s.P, .int .i64 s.tl, .int .i64 s.th, .int .i64 s.al, .int .i64 s.ah, .int .i64 s.room, .int .i64 s.xl, .int .i64 s.xh, .int .i64 s.yl, .int .i64 s.yh, .slice a len cap]] w fun e w' => e = .returned (.bool s.ok) ∧ Below w.heap.size w w' := by
  have hh := hyes
  simp only [Shop.okH, Bool.and_eq_true, decide_eq_true_eq] at hh
  obtain ⟨⟨⟨⟨⟨h1, k2⟩, k3⟩, h4⟩, h5⟩, k6⟩ := hh
  obtain ⟨hl, hm, hc⟩ := hp
  rw [hl] at k6
  have HO := Lib.hid hyes; clear hyes
  rcases Nat.eq_zero_or_pos len with h0 | h0
  · subst h0
    have hs : s.pigs = [] := List.length_eq_zero_iff.1 hl
    have HS := Lib.hid (show s.ok = true by simp [Shop.ok, HO.out, hs]); clear hs hl hc
    go_enter Try.func71, Try.ntmps71
    go_wp2_with (first | (go_at_call 92; with_reducible refine (validPot_is _ _ _ _ _ _ h1 _).mono ?_; rintro e w1 ⟨rfl, hb1⟩; obtain ⟨hc1, hf1⟩ := bcell hb1; have hz1 : w.heap.size < w1.heap.size := (by have := hb1.size; simp at this; omega)) | (go_at_call 99; with_reducible refine (validSpan_is _ _ _ _ h4 _).mono ?_; rintro e w2 ⟨rfl, rfl⟩) | (go_at_call 99; with_reducible refine (validSpan_is _ _ _ _ h5 _).mono ?_; rintro e w3 ⟨rfl, rfl⟩))
    go_loopw [47] (fun i wr => i = .int .i64 0 ∧ Below w.heap.size w wr) (fun _ _ => 0)
    case atStart => exact ⟨rfl, below_pot hb1 (by repeat (first | exact Below.refl _ _ | (refine Below.alloc ?_ (by first | omega | (simp; omega) | simp) _) | (refine Below.setCell ?_ (by first | omega | (simp; omega) | simp) _) | refine Below.drew ?_))⟩
    case round =>
      obtain ⟨rfl, hB⟩ := hrel
      go_wp2
      go_ret
      exact ⟨ret_bool HS.out.symm, hB⟩
  · obtain ⟨b, o, rfl, hbB, hcell⟩ := hc h0
    have HL := Lib.hid hl; clear hl hc
    go_enter Try.func71, Try.ntmps71
    go_wp2_with (first | (go_at_call 92; with_reducible refine (validPot_is _ _ _ _ _ _ h1 _).mono ?_; rintro e w1 ⟨rfl, hb1⟩; obtain ⟨hc1, hf1⟩ := bcell hb1; have hz1 : w.heap.size < w1.heap.size := (by have := hb1.size; simp at this; omega)) | (go_at_call 99; with_reducible refine (validSpan_is _ _ _ _ h4 _).mono ?_; rintro e w2 ⟨rfl, rfl⟩) | (go_at_call 99; with_reducible refine (validSpan_is _ _ _ _ h5 _).mono ?_; rintro e w3 ⟨rfl, rfl⟩))
    go_loopw [47] (fun i wr => ∃ k : Nat, k ≤ len ∧ i = .int .i64 k ∧ (s.pigs.take k).all Pig.ok = true ∧ Below w.heap.size w wr) (fun i _ => len - (intOf i).toNat)
    case atStart => exact ⟨0, by omega, rfl, by simp, below_pot hb1 (by repeat (first | exact Below.refl _ _ | (refine Below.alloc ?_ (by first | omega | (simp; omega) | simp) _) | (refine Below.setCell ?_ (by first | omega | (simp; omega) | simp) _) | refine Below.drew ?_))⟩
    case round =>
      obtain ⟨k, hk, rfl, hall, hB⟩ := hrel
      have HA := Lib.hid hall; clear hall
      by_cases hlt : k < len
      · have hk2 : k < s.pigs.length := by rw [HL.out]; exact hlt
        obtain ⟨c0, c1, c2, c3, c4⟩ := Pig.at_below hB hbB (hcell k hk2)
        have HT := Lib.hid (List.take_succ_eq_append_getElem hk2)
        have HG := Lib.hid (show s.pigs[k] ∈ s.pigs from List.getElem_mem hk2)
        generalize s.pigs[k] = p at c0 c1 c2 c3 c4 HT HG
        have hz := hB.size
        rcases hpig : pigB p.P p.t p.a p.c p.m with - | -
        · go_wp2_with (go_at_call 100; with_reducible refine (validPig_is _ _ _ _ _ _ hpig _).mono ?_; rintro e w4 ⟨rfl, rfl⟩)
          go_ret
          refine ⟨ret_bool ?_, hB.trans (by repeat (first | exact Below.refl _ _ | (refine Below.alloc ?_ (by first | omega | (simp; omega) | simp) _) | (refine Below.setCell ?_ (by first | omega | (simp; omega) | simp) _) | refine Below.drew ?_))⟩
          rw [Shop.ok, HO.out, Bool.true_and, eq_comm, List.all_eq_false]
          exact ⟨p, HG.out, by simp [Pig.ok, hpig]⟩
        · go_wp2_with (go_at_call 100; with_reducible refine (validPig_is _ _ _ _ _ _ hpig _).mono ?_; rintro e w4 ⟨rfl, rfl⟩)
          go_roundw
          case rel => exact ⟨k + 1, by omega, by go_num, by rw [HT.out, List.all_append, HA.out]; simp [Pig.ok, hpig], hB.trans (by repeat (first | exact Below.refl _ _ | (refine Below.alloc ?_ (by first | omega | (simp; omega) | simp) _) | (refine Below.setCell ?_ (by first | omega | (simp; omega) | simp) _) | refine Below.drew ?_))⟩
          case measure => simp [intOf]; omega
      · have hk' : k = len := by omega
        subst hk'
        go_wp2
        go_ret
        exact ⟨ret_bool (by rw [List.take_of_length_le (by rw [HL.out]; omega)] at HA; simp [Shop.ok, HO.out, HA.out]), hB⟩
theorem valid_any (s : Shop) (a : Option Addr) (len cap : Nat) (w : World) (hp : PigsAt w a len s.pigs) :
    Calls Try.prog 71 #[.agg #[.int .i64 s.P, .int .i64 s.tl, .int .i64 s.th, .int .i64 s.al, .int .i64 s.ah, .int .i64 s.room, .int .i64 s.xl, .int .i64 s.xh, .int .i64 s.yl, .int .i64 s.yh, .slice a len cap]] w fun e w' => e = .returned (.bool s.ok) ∧ Below w.heap.size w w' := by
  rcases h : s.okH with - | -
  · exact valid_no s a len cap w hp.1 h
  · exact valid_yes s a len cap w hp h
theorem valid_is (s : Shop) (a : Option Addr) (len cap : Nat) (b : Bool) (h : s.ok = b) (w : World) (hp : PigsAt w a len s.pigs) :
    Calls Try.prog 71 #[.agg #[.int .i64 s.P, .int .i64 s.tl, .int .i64 s.th, .int .i64 s.al, .int .i64 s.ah, .int .i64 s.room, .int .i64 s.xl, .int .i64 s.xh, .int .i64 s.yl, .int .i64 s.yh, .slice a len cap]] w fun e w' => e = .returned (.bool b) ∧ Below w.heap.size w w' := h ▸ valid_any s a len cap w hp

theorem ret_i64 {a b : Int} (h : a = b) : Ending.returned (.int .i64 a) = .returned (.int .i64 b) := by rw [h]
theorem below_one {w w1 : World} {o : Obj} (hb : Below (w.alloc o).heap.size (w.alloc o) w1) : Below w.heap.size w w1 := below_pot hb (Below.refl _ _)
/-- Check: OK or ErrMetal. -/
theorem Check_any (s : Shop) (a : Option Addr) (len cap : Nat) (w : World) (hp : PigsAt w a len s.pigs) :
    Calls Try.prog 20 #[.agg #[.int .i64 s.P, .int .i64 s.tl, .int .i64 s.th, .int .i64 s.al, .int .i64 s.ah, .int .i64 s.room, .int .i64 s.xl, .int .i64 s.xh, .int .i64 s.yl, .int .i64 s.yh, .slice a len cap]] w fun e w' => e = .returned (.int .i64 (if s.ok then 0 else 10)) ∧ Below w.heap.size w w' := by
  rcases h : s.ok with - | -
  · go_enter Try.func20, Try.ntmps20
    go_wp2_with (go_at_call 71; with_reducible refine (valid_is _ _ _ _ _ h _ (hp.below (by repeat (first | exact Below.refl _ _ | (refine Below.alloc ?_ (by first | omega | (simp; omega) | simp) _) | (refine Below.setCell ?_ (by first | omega | (simp; omega) | simp) _) | refine Below.drew ?_)))).mono ?_; rintro e w1 ⟨rfl, hb1⟩)
    go_ret
    exact ⟨ret_i64 (by simp), below_one hb1⟩
  · go_enter Try.func20, Try.ntmps20
    go_wp2_with (go_at_call 71; with_reducible refine (valid_is _ _ _ _ _ h _ (hp.below (by repeat (first | exact Below.refl _ _ | (refine Below.alloc ?_ (by first | omega | (simp; omega) | simp) _) | (refine Below.setCell ?_ (by first | omega | (simp; omega) | simp) _) | refine Below.drew ?_)))).mono ?_; rintro e w1 ⟨rfl, hb1⟩)
    go_ret
    exact ⟨ret_i64 (by simp), below_one hb1⟩
end Go.Proofs.Ytojmimfjnnibdaa
