/- Package flongs: leaves, and whether a shop is valid. -/
import Derived.Test.YtigeiaiohdemiaaRows
import Derived.WalkKit
import Derived.WalkSpells
import Derived.WalkLawsBesides
import Derived.Lib.Hide
import Derived.Deep.QuietTactic
import Derived.BigQuiet
import Derived.Deep.RegionHeld3
namespace Go.Proofs.Ytigeiaiohdemiaa
set_option linter.unusedVariables false
set_option linter.unusedSimpArgs false
open Go.RowKit

theorem bcell {W w1 : World} (hb : Below W.heap.size W w1) : (∀ b o, b < W.heap.size → w1.cell? ⟨b, o, none⟩ = W.cell? ⟨b, o, none⟩) ∧ (∀ b o, b < W.heap.size → w1.frozen? ⟨b, o, none⟩ = W.frozen? ⟨b, o, none⟩) :=
  ⟨fun b o h => hb.cell (p := ⟨b, o, none⟩) h, fun b o h => hb.frozen (p := ⟨b, o, none⟩) h⟩
theorem ret_bool {a b : Bool} (h : a = b) : Ending.returned (.bool a) = .returned (.bool b) := by rw [h]
theorem below_via {B B0 : Nat} {a b c : World} (h : Hid (Below B0 b c)) (hb : B ≤ B0) (k : Below B a b) : Below B a c := k.trans (h.out.mono hb)
def btw (n lo hi : Int) : Bool := decide (lo ≤ n ∧ n ≤ hi)

structure Mould where
  p : Int
  u : Int
  b : Int
structure FShop where
  moulds : List Mould
  worlds : List (List Int)
  wants : List Int
  fresh : Int
def Mould.at (w : World) (b o : Nat) (m : Mould) : Prop :=
  w.cell? ⟨b, o, none⟩ = some (.int .i64 m.p) ∧ w.cell? ⟨b, o + 1, none⟩ = some (.int .i64 m.u) ∧ w.cell? ⟨b, o + 2, none⟩ = some (.int .i64 m.b)
/-- A slice of moulds reads as a list. -/
def MouldsAt (w : World) (a : Option Addr) (len : Nat) (ps : List Mould) : Prop :=
  ps.length = len ∧ len ≤ maxLen ∧ (0 < len → ∃ b o, a = some ⟨b, o, none⟩ ∧ b < w.heap.size ∧ ∀ i (h : i < ps.length), (ps[i]).at w b (o + i * 3))
def IntsAt (w : World) (a : Option Addr) (len : Nat) (xs : List Int) : Prop :=
  xs.length = len ∧ len ≤ maxLen ∧ (0 < len → ∃ b o, a = some ⟨b, o, none⟩ ∧ b < w.heap.size ∧ ∀ i (h : i < xs.length), w.cell? ⟨b, o + i, none⟩ = some (.int .i64 xs[i]))
/-- A slice of lists of numbers reads as one. -/
def ListsAt (w : World) (a : Option Addr) (len : Nat) (xs : List (List Int)) : Prop :=
  xs.length = len ∧ len ≤ maxLen ∧ (0 < len → ∃ b o, a = some ⟨b, o, none⟩ ∧ b < w.heap.size ∧ ∀ i (h : i < xs.length), ∃ ra rl rc, w.cell? ⟨b, o + i, none⟩ = some (.slice ra rl rc) ∧ IntsAt w ra rl xs[i])
theorem Mould.at_below {w w1 : World} {b o : Nat} {p : Mould} {B : Nat} (hb : Below B w w1) (hB : b < B) (h : p.at w b o) : p.at w1 b o := by
  obtain ⟨h0, h1, h2⟩ := h
  exact ⟨(hb.cell (p := ⟨b, _, none⟩) hB).trans h0, (hb.cell (p := ⟨b, _, none⟩) hB).trans h1, (hb.cell (p := ⟨b, _, none⟩) hB).trans h2⟩
theorem MouldsAt.below {w w1 : World} {a : Option Addr} {len : Nat} {ps : List Mould} (hb : Below w.heap.size w w1) (h : MouldsAt w a len ps) : MouldsAt w1 a len ps := by
  obtain ⟨h1, h2, h3⟩ := h
  refine ⟨h1, h2, fun hl => ?_⟩
  obtain ⟨b, o, ha, hB, hc⟩ := h3 hl
  exact ⟨b, o, ha, Nat.lt_of_lt_of_le hB hb.size, fun i hi => Mould.at_below hb hB (hc i hi)⟩
theorem IntsAt.below {w w1 : World} {a : Option Addr} {len : Nat} {xs : List Int} (hb : Below w.heap.size w w1) (h : IntsAt w a len xs) : IntsAt w1 a len xs := by
  obtain ⟨h1, h2, h3⟩ := h
  refine ⟨h1, h2, fun hl => ?_⟩
  obtain ⟨b, o, ha, hB, hc⟩ := h3 hl
  exact ⟨b, o, ha, Nat.lt_of_lt_of_le hB hb.size, fun i hi => (hb.cell (p := ⟨b, _, none⟩) hB).trans (hc i hi)⟩
theorem ListsAt.below {w w1 : World} {a : Option Addr} {len : Nat} {xs : List (List Int)} (hb : Below w.heap.size w w1) (h : ListsAt w a len xs) : ListsAt w1 a len xs := by
  obtain ⟨h1, h2, h3⟩ := h
  refine ⟨h1, h2, fun hl => ?_⟩
  obtain ⟨b, o, ha, hB, hc⟩ := h3 hl
  refine ⟨b, o, ha, Nat.lt_of_lt_of_le hB hb.size, fun i hi => ?_⟩
  obtain ⟨ra, rl, rc, h4, h5⟩ := hc i hi
  exact ⟨ra, rl, rc, (hb.cell (p := ⟨b, _, none⟩) hB).trans h4, h5.below hb⟩
/-- What a shop's three slices read. -/
def FAt (w : World) (ma : Option Addr) (ml mc : Nat) (wa : Option Addr) (wl wc : Nat) (na : Option Addr) (nl nc : Nat) (s : FShop) : Prop := MouldsAt w ma ml s.moulds ∧ ListsAt w wa wl s.worlds ∧ IntsAt w na nl s.wants
theorem FAt.below {w w1 : World} {ma : Option Addr} {ml mc : Nat} {wa : Option Addr} {wl wc : Nat} {na : Option Addr} {nl nc : Nat} {s : FShop} (hb : Below w.heap.size w w1) (h : FAt w ma ml mc wa wl wc na nl nc s) : FAt w1 ma ml mc wa wl wc na nl nc s :=
  ⟨h.1.below hb, h.2.1.below hb, h.2.2.below hb⟩

def mouldB (pages : Nat) (m : Mould) : Bool := btw m.p 0 (pages - 1) && btw m.u 0 12 && btw m.b 0 1
def worldB (n : Nat) (x : List Int) : Bool := decide (x.length = n) && x.all fun v => btw v 0 12
def FShop.few (s : FShop) : Bool := decide (s.wants.length ≤ 3) && decide (s.moulds.length ≤ 5) && decide (s.worlds.length ≤ 6)
def FShop.ok (s : FShop) : Bool := s.few && s.wants.all (fun v => btw v 0 12) && s.moulds.all (mouldB s.wants.length) && s.worlds.all (worldB s.moulds.length) && btw s.fresh 1 12

set_option maxHeartbeats 400000 in
theorem between_any (n lo hi : Int) (w : World) :
    Calls Try.prog 100 #[.int .i64 n, .int .i64 lo, .int .i64 hi] w fun e w' => e = .returned (.bool (btw n lo hi)) ∧ w = w' := by
  go_enter Try.func100, Try.ntmps100
  go_wp2
  all_goals (go_ret; refine ⟨ret_bool ?_, rfl⟩; rw [Bool.eq_iff_iff]; simp [btw]; omega)
theorem between_is (n lo hi : Int) (b : Bool) (h : btw n lo hi = b) (w : World) :
    Calls Try.prog 100 #[.int .i64 n, .int .i64 lo, .int .i64 hi] w fun e w' => e = .returned (.bool b) ∧ w = w' := h ▸ between_any n lo hi w

set_option maxHeartbeats 400000 in
theorem hasPage_any (s : FShop) (ma : Option Addr) (ml mc : Nat) (wa : Option Addr) (wl wc : Nat) (na : Option Addr) (nl nc : Nat) (n : Int) (w : World) (hl : nl ≤ maxLen) :
    Calls Try.prog 91 #[.agg #[.slice ma ml mc, .slice wa wl wc, .slice na nl nc, .int .i64 s.fresh], .int .i64 n] w fun e w' => e = .returned (.bool (btw n 0 (nl - 1))) ∧ Below w.heap.size w w' := by
  unfold maxLen at hl
  have HB := Lib.hid (fun w1 => between_any n 0 ((nl : Int) - 1) w1)
  go_enter Try.func91, Try.ntmps91
  go_wp2_with fail
  refine (HB.out _).mono ?_
  rintro e w1 ⟨rfl, rfl⟩
  go_wp2_with fail
  go_ret
  exact ⟨rfl, (by repeat (first | exact Below.refl _ _ | (refine Below.alloc ?_ (by first | omega | (simp; omega) | simp) _) | (refine Below.setCell ?_ (by first | omega | (simp; omega) | simp) _) | refine Below.drew ?_))⟩
theorem hasPage_is (s : FShop) (ma : Option Addr) (ml mc : Nat) (wa : Option Addr) (wl wc : Nat) (na : Option Addr) (nl nc : Nat) (n : Int) (w : World) (hl : nl ≤ maxLen) (b : Bool) (h : btw n 0 (nl - 1) = b) :
    Calls Try.prog 91 #[.agg #[.slice ma ml mc, .slice wa wl wc, .slice na nl nc, .int .i64 s.fresh], .int .i64 n] w fun e w' => e = .returned (.bool b) ∧ Below w.heap.size w w' := h ▸ hasPage_any s ma ml mc wa wl wc na nl nc n w hl
set_option maxHeartbeats 400000 in
theorem hasMould_any (s : FShop) (ma : Option Addr) (ml mc : Nat) (wa : Option Addr) (wl wc : Nat) (na : Option Addr) (nl nc : Nat) (n : Int) (w : World) (hl : ml ≤ maxLen) :
    Calls Try.prog 80 #[.agg #[.slice ma ml mc, .slice wa wl wc, .slice na nl nc, .int .i64 s.fresh], .int .i64 n] w fun e w' => e = .returned (.bool (btw n 0 (ml - 1))) ∧ Below w.heap.size w w' := by
  unfold maxLen at hl
  have HB := Lib.hid (fun w1 => between_any n 0 ((ml : Int) - 1) w1)
  go_enter Try.func80, Try.ntmps80
  go_wp2_with fail
  refine (HB.out _).mono ?_
  rintro e w1 ⟨rfl, rfl⟩
  go_wp2_with fail
  go_ret
  exact ⟨rfl, (by repeat (first | exact Below.refl _ _ | (refine Below.alloc ?_ (by first | omega | (simp; omega) | simp) _) | (refine Below.setCell ?_ (by first | omega | (simp; omega) | simp) _) | refine Below.drew ?_))⟩
theorem hasMould_is (s : FShop) (ma : Option Addr) (ml mc : Nat) (wa : Option Addr) (wl wc : Nat) (na : Option Addr) (nl nc : Nat) (n : Int) (w : World) (hl : ml ≤ maxLen) (b : Bool) (h : btw n 0 (ml - 1) = b) :
    Calls Try.prog 80 #[.agg #[.slice ma ml mc, .slice wa wl wc, .slice na nl nc, .int .i64 s.fresh], .int .i64 n] w fun e w' => e = .returned (.bool b) ∧ Below w.heap.size w w' := h ▸ hasMould_any s ma ml mc wa wl wc na nl nc n w hl
set_option maxHeartbeats 400000 in
theorem hasWorld_any (s : FShop) (ma : Option Addr) (ml mc : Nat) (wa : Option Addr) (wl wc : Nat) (na : Option Addr) (nl nc : Nat) (n : Int) (w : World) (hl : wl ≤ maxLen) :
    Calls Try.prog 88 #[.agg #[.slice ma ml mc, .slice wa wl wc, .slice na nl nc, .int .i64 s.fresh], .int .i64 n] w fun e w' => e = .returned (.bool (btw n 0 (wl - 1))) ∧ Below w.heap.size w w' := by
  unfold maxLen at hl
  have HB := Lib.hid (fun w1 => between_any n 0 ((wl : Int) - 1) w1)
  go_enter Try.func88, Try.ntmps88
  go_wp2_with fail
  refine (HB.out _).mono ?_
  rintro e w1 ⟨rfl, rfl⟩
  go_wp2_with fail
  go_ret
  exact ⟨rfl, (by repeat (first | exact Below.refl _ _ | (refine Below.alloc ?_ (by first | omega | (simp; omega) | simp) _) | (refine Below.setCell ?_ (by first | omega | (simp; omega) | simp) _) | refine Below.drew ?_))⟩
theorem hasWorld_is (s : FShop) (ma : Option Addr) (ml mc : Nat) (wa : Option Addr) (wl wc : Nat) (na : Option Addr) (nl nc : Nat) (n : Int) (w : World) (hl : wl ≤ maxLen) (b : Bool) (h : btw n 0 (wl - 1) = b) :
    Calls Try.prog 88 #[.agg #[.slice ma ml mc, .slice wa wl wc, .slice na nl nc, .int .i64 s.fresh], .int .i64 n] w fun e w' => e = .returned (.bool b) ∧ Below w.heap.size w w' := h ▸ hasWorld_any s ma ml mc wa wl wc na nl nc n w hl

set_option maxHeartbeats 1000000 in
theorem validMould_any (s : FShop) (ma : Option Addr) (ml mc : Nat) (wa : Option Addr) (wl wc : Nat) (na : Option Addr) (nl nc : Nat) (m : Mould) (w : World) (hl : nl ≤ maxLen) :
    Calls Try.prog 106 #[.agg #[.slice ma ml mc, .slice wa wl wc, .slice na nl nc, .int .i64 s.fresh], .agg #[.int .i64 m.p, .int .i64 m.u, .int .i64 m.b]] w fun e w' => e = .returned (.bool (mouldB nl m)) ∧ Below w.heap.size w w' := by
  have HP := Lib.hid (fun b (h : btw m.p 0 ((nl : Int) - 1) = b) w1 => hasPage_is s ma ml mc wa wl wc na nl nc m.p w1 hl b h)
  rcases h1 : btw m.p 0 ((nl : Int) - 1) with - | -
  · have HP1 := Lib.hid (HP.out false h1)
    go_enter Try.func106, Try.ntmps106
    go_wp2_with fail
    refine (HP1.out _).mono ?_
    rintro e w1 ⟨rfl, hb1⟩
    have HB := Lib.hid hb1; clear hb1
    go_wp2_with fail
    go_ret
    exact ⟨ret_bool (by simp [mouldB, h1]), (by repeat (first | exact Below.refl _ _ | (refine Below.alloc ?_ (by first | omega | (simp; omega) | simp) _) | (refine Below.setCell ?_ (by first | omega | (simp; omega) | simp) _) | refine Below.drew ?_ | (refine below_via (by assumption) (by first | omega | (simp; omega) | simp) ?_)))⟩
  · have HP1 := Lib.hid (HP.out true h1)
    rcases h2 : btw m.u 0 12 with - | -
    · go_enter Try.func106, Try.ntmps106
      go_wp2_with fail
      refine (HP1.out _).mono ?_
      rintro e w1 ⟨rfl, hb1⟩
      obtain ⟨hc1, hf1⟩ := bcell hb1
      have hz1 := hb1.size
      simp at hz1
      have HB := Lib.hid hb1; clear hb1
      have q1 : w.heap.size + 1 < w1.heap.size := by omega
      go_wp2_with fail
      refine (between_is _ _ _ _ h2 _).mono ?_
      rintro e w2 ⟨rfl, rfl⟩
      go_wp2_with fail
      go_ret
      exact ⟨ret_bool (by simp [mouldB, h1, h2]), (by repeat (first | exact Below.refl _ _ | (refine Below.alloc ?_ (by first | omega | (simp; omega) | simp) _) | (refine Below.setCell ?_ (by first | omega | (simp; omega) | simp) _) | refine Below.drew ?_ | (refine below_via (by assumption) (by first | omega | (simp; omega) | simp) ?_)))⟩
    · go_enter Try.func106, Try.ntmps106
      go_wp2_with fail
      refine (HP1.out _).mono ?_
      rintro e w1 ⟨rfl, hb1⟩
      obtain ⟨hc1, hf1⟩ := bcell hb1
      have hz1 := hb1.size
      simp at hz1
      have HB := Lib.hid hb1; clear hb1
      have q1 : w.heap.size + 1 < w1.heap.size := by omega
      go_wp2_with fail
      refine (between_is _ _ _ _ h2 _).mono ?_
      rintro e w2 ⟨rfl, rfl⟩
      go_wp2_with fail
      refine (between_any _ _ _ _).mono ?_
      rintro e w2 ⟨rfl, rfl⟩
      go_wp2_with fail
      go_ret
      exact ⟨ret_bool (by simp [mouldB, h1, h2]), (by repeat (first | exact Below.refl _ _ | (refine Below.alloc ?_ (by first | omega | (simp; omega) | simp) _) | (refine Below.setCell ?_ (by first | omega | (simp; omega) | simp) _) | refine Below.drew ?_ | (refine below_via (by assumption) (by first | omega | (simp; omega) | simp) ?_)))⟩
theorem validMould_is (s : FShop) (ma : Option Addr) (ml mc : Nat) (wa : Option Addr) (wl wc : Nat) (na : Option Addr) (nl nc : Nat) (m : Mould) (w : World) (hl : nl ≤ maxLen) (b : Bool) (h : mouldB nl m = b) :
    Calls Try.prog 106 #[.agg #[.slice ma ml mc, .slice wa wl wc, .slice na nl nc, .int .i64 s.fresh], .agg #[.int .i64 m.p, .int .i64 m.u, .int .i64 m.b]] w fun e w' => e = .returned (.bool b) ∧ Below w.heap.size w w' := h ▸ validMould_any s ma ml mc wa wl wc na nl nc m w hl

set_option maxRecDepth 100000 in
set_option maxHeartbeats 1000000 in
theorem validWorld_any (s : FShop) (ma : Option Addr) (ml mc : Nat) (wa : Option Addr) (wl wc : Nat) (na : Option Addr) (nl nc : Nat) (xa : Option Addr) (xl xc : Nat) (x : List Int) (w : World) (hx : IntsAt w xa xl x) :
    Calls Try.prog 107 #[.agg #[.slice ma ml mc, .slice wa wl wc, .slice na nl nc, .int .i64 s.fresh], .slice xa xl xc] w fun e w' => e = .returned (.bool (worldB ml x)) ∧ Below w.heap.size w w' := by
  obtain ⟨hl, hm, hc⟩ := hx
  unfold maxLen at hm
  by_cases hne : xl = ml
  · subst hne
    rcases Nat.eq_zero_or_pos xl with h0 | h0
    · subst h0
      obtain rfl := List.length_eq_zero_iff.1 hl
      clear hl hm hc
      go_enter Try.func107, Try.ntmps107
      go_wp2_with fail
      go_loopw [16] (fun i wr => i = .int .i64 0 ∧ Below w.heap.size w wr) (fun _ _ => 0)
      case atStart => exact ⟨rfl, (by repeat (first | exact Below.refl _ _ | (refine Below.alloc ?_ (by first | omega | (simp; omega) | simp) _) | (refine Below.setCell ?_ (by first | omega | (simp; omega) | simp) _) | refine Below.drew ?_))⟩
      case round =>
        obtain ⟨rfl, hB⟩ := hrel
        go_wp2_with fail
        go_ret
        exact ⟨ret_bool (by simp [worldB]), hB⟩
    · obtain ⟨b, o, rfl, hbB, hcell⟩ := hc h0
      have HL := Lib.hid hl
      have HC := Lib.hid hcell
      clear hl hc hcell
      go_enter Try.func107, Try.ntmps107
      go_wp2_with fail
      go_loopw [16] (fun i wr => ∃ k : Nat, k ≤ xl ∧ i = .int .i64 k ∧ ((x.take k).all fun v => btw v 0 12) = true ∧ Below w.heap.size w wr) (fun i _ => xl - (intOf i).toNat)
      case atStart => exact ⟨0, by omega, rfl, by simp, (by repeat (first | exact Below.refl _ _ | (refine Below.alloc ?_ (by first | omega | (simp; omega) | simp) _) | (refine Below.setCell ?_ (by first | omega | (simp; omega) | simp) _) | refine Below.drew ?_))⟩
      case round =>
        obtain ⟨k, hk, rfl, hall, hB⟩ := hrel
        have HALL := Lib.hid hall
        clear hall
        by_cases hlt : k < xl
        · have hk2 : k < x.length := by rw [HL.out]; exact hlt
          have hcx := (hB.cell (p := ⟨b, o + k, none⟩) hbB).trans (HC.out k hk2)
          have hkl : (k : Int) < (xl : Int) := by omega
          have hk0 : (0 : Int) ≤ (k : Int) := by omega
          have HN := Lib.hid (show ((x.take (k + 1)).all fun v => btw v 0 12) = btw x[k] 0 12 by rw [List.take_succ_eq_append_getElem hk2, List.all_append, HALL.out]; simp)
          have HX := Lib.hid (show btw x[k] 0 12 = false → worldB xl x = false by
            intro h
            have : (x.all fun v => btw v 0 12) = false := List.all_eq_false.2 ⟨x[k], List.getElem_mem hk2, by simp [h]⟩
            simp [worldB, this])
          rcases hb : btw x[k] 0 12 with - | -
          · replace HX := Lib.hid (HX.out hb)
            have HBT := Lib.hid (between_is _ _ _ _ hb)
            clear hb HN
            generalize x[k] = n at *
            go_wp2_with fail
            refine (HBT.out _).mono ?_
            rintro e w1 ⟨rfl, rfl⟩
            go_wp2_with fail
            go_ret
            exact ⟨ret_bool HX.out.symm, hB⟩
          · rw [hb] at HN
            have HBT := Lib.hid (between_is _ _ _ _ hb)
            clear hb HX
            generalize x[k] = n at *
            go_wp2_with fail
            refine (HBT.out _).mono ?_
            rintro e w1 ⟨rfl, rfl⟩
            go_wp2_with fail
            go_roundw
            case rel => exact ⟨k + 1, by omega, by go_num, HN.out, hB⟩
            case measure => simp [intOf]; omega
        · obtain rfl : k = xl := by omega
          have HR := Lib.hid (show worldB k x = true by
            have h := HALL.out
            rw [List.take_of_length_le (by rw [HL.out]; exact Nat.le_refl _)] at h
            simp only [worldB, h, HL.out, decide_true, Bool.and_self])
          go_wp2_with fail
          go_ret
          exact ⟨ret_bool HR.out.symm, hB⟩
  · have hne' : ¬ (xl : Int) = (ml : Int) := by omega
    clear hc
    go_enter Try.func107, Try.ntmps107
    go_wp2_with fail
    go_ret
    exact ⟨ret_bool (by simp [worldB]; omega), (by repeat (first | exact Below.refl _ _ | (refine Below.alloc ?_ (by first | omega | (simp; omega) | simp) _) | (refine Below.setCell ?_ (by first | omega | (simp; omega) | simp) _) | refine Below.drew ?_))⟩
theorem validWorld_is (s : FShop) (ma : Option Addr) (ml mc : Nat) (wa : Option Addr) (wl wc : Nat) (na : Option Addr) (nl nc : Nat) (xa : Option Addr) (xl xc : Nat) (x : List Int) (w : World) (hx : IntsAt w xa xl x) (b : Bool) (h : worldB ml x = b) :
    Calls Try.prog 107 #[.agg #[.slice ma ml mc, .slice wa wl wc, .slice na nl nc, .int .i64 s.fresh], .slice xa xl xc] w fun e w' => e = .returned (.bool b) ∧ Below w.heap.size w w' := h ▸ validWorld_any s ma ml mc wa wl wc na nl nc xa xl xc x w hx
end Go.Proofs.Ytigeiaiohdemiaa
