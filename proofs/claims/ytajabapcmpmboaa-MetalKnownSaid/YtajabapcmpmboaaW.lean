/- Cheap, Tin and Mend. -/
import Derived.Test.YtajabapcmpmboaaVC
import Derived.Test.YtajabapcmpmboaaVT
import Derived.Test.YtajabapcmpmboaaVM
namespace Go.Proofs.Ytajabapcmpmboaa
set_option linter.unusedVariables false
set_option linter.unusedSimpArgs false
open Go.RowKit Go.Shelf

/-- All additions of a shop, the least list first. -/
def Shop.adds (s : Shop) : List (List Int) := (allL s.most).filter s.room?
def Shop.best (s : Shop) (f : Nat) : Option (List Int × Int) := bestOf s (askF f s) s.adds
def Shop.least (s : Shop) (f : Nat) : Int × Int := if s.ok then (match s.best f with | none => (0, 3) | some (_, m) => (m, 0)) else (0, 10)

set_option maxHeartbeats 400000 in
theorem bad_Cheap (s : Shop) (a : Option Addr) (len cap Wb : Nat) (w : World) (hp : PigsAt w a len s.pigs) (ho : s.ok = false) :
    Calls Try.prog 82 #[.agg #[.int .i64 s.P, .int .i64 s.tl, .int .i64 s.th, .int .i64 s.al, .int .i64 s.ah, .int .i64 s.room, .int .i64 s.xl, .int .i64 s.xh, .int .i64 s.yl, .int .i64 s.yh, .slice a len cap], .func (.func 83) #[] #[.pointer (some ⟨Wb, 0, none⟩)]] w fun e w' => e = .returned (.tuple #[.slice none 0 0, .int .i64 0, .int .i64 10]) ∧ Below w.heap.size w w' := by
  have HV := Lib.hid (fun w1 (hb : Below w.heap.size w w1) => valid_is s a len cap false ho w1 (hp.below hb))
  clear hp
  go_enter Try.func82, Try.ntmps82
  go_wp2_with fail
  refine (HV.out _ (by repeat (first | exact Below.refl _ _ | (refine Below.alloc ?_ (by first | omega | (simp; omega) | simp) _) | (refine Below.setCell ?_ (by first | omega | (simp; omega) | simp) _) | refine Below.drew ?_))).mono ?_
  rintro e w1 ⟨rfl, hb1⟩
  have HB := Lib.hid hb1
  clear hb1
  go_wp2_with fail
  go_ret3
  exact ⟨rfl, (by repeat (first | exact Below.refl _ _ | (refine Below.alloc ?_ (by first | omega | (simp; omega) | simp) _) | (refine Below.setCell ?_ (by first | omega | (simp; omega) | simp) _) | refine Below.drew ?_ | (refine below_via (by assumption) (by first | omega | (simp; omega) | simp) ?_)))⟩
set_option maxHeartbeats 400000 in
theorem bad_Tin (s : Shop) (a : Option Addr) (len cap Wb : Nat) (w : World) (hp : PigsAt w a len s.pigs) (ho : s.ok = false) :
    Calls Try.prog 82 #[.agg #[.int .i64 s.P, .int .i64 s.tl, .int .i64 s.th, .int .i64 s.al, .int .i64 s.ah, .int .i64 s.room, .int .i64 s.xl, .int .i64 s.xh, .int .i64 s.yl, .int .i64 s.yh, .slice a len cap], .func (.func 89) #[] #[.pointer (some ⟨Wb, 0, none⟩)]] w fun e w' => e = .returned (.tuple #[.slice none 0 0, .int .i64 0, .int .i64 10]) ∧ Below w.heap.size w w' := by
  have HV := Lib.hid (fun w1 (hb : Below w.heap.size w w1) => valid_is s a len cap false ho w1 (hp.below hb))
  clear hp
  go_enter Try.func82, Try.ntmps82
  go_wp2_with fail
  refine (HV.out _ (by repeat (first | exact Below.refl _ _ | (refine Below.alloc ?_ (by first | omega | (simp; omega) | simp) _) | (refine Below.setCell ?_ (by first | omega | (simp; omega) | simp) _) | refine Below.drew ?_))).mono ?_
  rintro e w1 ⟨rfl, hb1⟩
  have HB := Lib.hid hb1
  clear hb1
  go_wp2_with fail
  go_ret3
  exact ⟨rfl, (by repeat (first | exact Below.refl _ _ | (refine Below.alloc ?_ (by first | omega | (simp; omega) | simp) _) | (refine Below.setCell ?_ (by first | omega | (simp; omega) | simp) _) | refine Below.drew ?_ | (refine below_via (by assumption) (by first | omega | (simp; omega) | simp) ?_)))⟩
set_option maxHeartbeats 400000 in
theorem bad_Mend (s : Shop) (a : Option Addr) (len cap Wb : Nat) (w : World) (hp : PigsAt w a len s.pigs) (ho : s.ok = false) :
    Calls Try.prog 82 #[.agg #[.int .i64 s.P, .int .i64 s.tl, .int .i64 s.th, .int .i64 s.al, .int .i64 s.ah, .int .i64 s.room, .int .i64 s.xl, .int .i64 s.xh, .int .i64 s.yl, .int .i64 s.yh, .slice a len cap], .func (.func 86) #[] #[.pointer (some ⟨Wb, 0, none⟩)]] w fun e w' => e = .returned (.tuple #[.slice none 0 0, .int .i64 0, .int .i64 10]) ∧ Below w.heap.size w w' := by
  have HV := Lib.hid (fun w1 (hb : Below w.heap.size w w1) => valid_is s a len cap false ho w1 (hp.below hb))
  clear hp
  go_enter Try.func82, Try.ntmps82
  go_wp2_with fail
  refine (HV.out _ (by repeat (first | exact Below.refl _ _ | (refine Below.alloc ?_ (by first | omega | (simp; omega) | simp) _) | (refine Below.setCell ?_ (by first | omega | (simp; omega) | simp) _) | refine Below.drew ?_))).mono ?_
  rintro e w1 ⟨rfl, hb1⟩
  have HB := Lib.hid hb1
  clear hb1
  go_wp2_with fail
  go_ret3
  exact ⟨rfl, (by repeat (first | exact Below.refl _ _ | (refine Below.alloc ?_ (by first | omega | (simp; omega) | simp) _) | (refine Below.setCell ?_ (by first | omega | (simp; omega) | simp) _) | refine Below.drew ?_ | (refine below_via (by assumption) (by first | omega | (simp; omega) | simp) ?_)))⟩

set_option maxHeartbeats 1000000 in
theorem Cheap_any (s : Shop) (a : Option Addr) (len cap : Nat) (w : World) (hp : PigsAt w a len s.pigs) :
    Calls Try.prog 32 #[.agg #[.int .i64 s.P, .int .i64 s.tl, .int .i64 s.th, .int .i64 s.al, .int .i64 s.ah, .int .i64 s.room, .int .i64 s.xl, .int .i64 s.xh, .int .i64 s.yl, .int .i64 s.yh, .slice a len cap]] w fun e w' => e = .returned (.tuple #[.int .i64 (s.least 0).1, .int .i64 (s.least 0).2]) ∧ Below w.heap.size w w' := by
  rcases ho : s.ok with - | -
  · have HL := Lib.hid (show s.least 0 = (0, 10) by simp [Shop.least, ho])
    have HS := Lib.hid (fun Wb w1 (hb : Below w.heap.size w w1) => bad_Cheap s a len cap Wb w1 (hp.below hb) ho)
    clear hp
    go_enter Try.func32, Try.ntmps32
    go_wp2_with fail
    refine (HS.out _ _ (by repeat (first | exact Below.refl _ _ | (refine Below.alloc ?_ (by first | omega | (simp; omega) | simp) _) | (refine Below.setCell ?_ (by first | omega | (simp; omega) | simp) _) | refine Below.drew ?_))).mono ?_
    rintro e w1 ⟨rfl, hb1⟩
    have HB := Lib.hid hb1
    clear hb1
    go_wp2_with fail
    go_ret2
    exact ⟨by rw [HL.out]; rfl, (by repeat (first | exact Below.refl _ _ | (refine Below.alloc ?_ (by first | omega | (simp; omega) | simp) _) | (refine Below.setCell ?_ (by first | omega | (simp; omega) | simp) _) | refine Below.drew ?_ | (refine below_via (by assumption) (by first | omega | (simp; omega) | simp) ?_)))⟩
  · have HS := Lib.hid (fun Wb w1 (hb : Below w.heap.size w w1) (hbx : ∀ i, w1.cell? ⟨Wb, i, none⟩ = (#[.int .i64 s.P, .int .i64 s.tl, .int .i64 s.th, .int .i64 s.al, .int .i64 s.ah, .int .i64 s.room, .int .i64 s.xl, .int .i64 s.xh, .int .i64 s.yl, .int .i64 s.yh, .slice a len cap] : Array Value)[i]?) => safest_Cheap s a len cap Wb w1 hbx (hp.below hb) ho)
    have HO := Lib.hid ho
    clear hp
    go_enter Try.func32, Try.ntmps32
    go_wp2_with fail
    refine (HS.out _ _ (by repeat (first | exact Below.refl _ _ | (refine Below.alloc ?_ (by first | omega | (simp; omega) | simp) _) | (refine Below.setCell ?_ (by first | omega | (simp; omega) | simp) _) | refine Below.drew ?_)) (fun i => by go_simp)).mono ?_
    rintro e w1 ⟨hb1, hpost⟩
    have HB := Lib.hid hb1
    clear hb1
    rcases hpost with ⟨hn, rfl⟩ | ⟨y, m, v, hs, rfl, -⟩
    · have HL := Lib.hid (show s.least 0 = (0, 3) by simp [Shop.least, HO.out, Shop.best, Shop.adds, hn])
      clear hn
      go_wp2_with fail
      go_ret2
      exact ⟨by rw [HL.out]; rfl, (by repeat (first | exact Below.refl _ _ | (refine Below.alloc ?_ (by first | omega | (simp; omega) | simp) _) | (refine Below.setCell ?_ (by first | omega | (simp; omega) | simp) _) | refine Below.drew ?_ | (refine below_via (by assumption) (by first | omega | (simp; omega) | simp) ?_)))⟩
    · have HL := Lib.hid (show s.least 0 = (m, 0) by simp [Shop.least, HO.out, Shop.best, Shop.adds, hs])
      clear hs
      go_wp2_with fail
      go_ret2
      exact ⟨by rw [HL.out]; rfl, (by repeat (first | exact Below.refl _ _ | (refine Below.alloc ?_ (by first | omega | (simp; omega) | simp) _) | (refine Below.setCell ?_ (by first | omega | (simp; omega) | simp) _) | refine Below.drew ?_ | (refine below_via (by assumption) (by first | omega | (simp; omega) | simp) ?_)))⟩
set_option maxHeartbeats 1000000 in
theorem Tin_any (s : Shop) (a : Option Addr) (len cap : Nat) (w : World) (hp : PigsAt w a len s.pigs) :
    Calls Try.prog 36 #[.agg #[.int .i64 s.P, .int .i64 s.tl, .int .i64 s.th, .int .i64 s.al, .int .i64 s.ah, .int .i64 s.room, .int .i64 s.xl, .int .i64 s.xh, .int .i64 s.yl, .int .i64 s.yh, .slice a len cap]] w fun e w' => e = .returned (.tuple #[.int .i64 (s.least 1).1, .int .i64 (s.least 1).2]) ∧ Below w.heap.size w w' := by
  rcases ho : s.ok with - | -
  · have HL := Lib.hid (show s.least 1 = (0, 10) by simp [Shop.least, ho])
    have HS := Lib.hid (fun Wb w1 (hb : Below w.heap.size w w1) => bad_Tin s a len cap Wb w1 (hp.below hb) ho)
    clear hp
    go_enter Try.func36, Try.ntmps36
    go_wp2_with fail
    refine (HS.out _ _ (by repeat (first | exact Below.refl _ _ | (refine Below.alloc ?_ (by first | omega | (simp; omega) | simp) _) | (refine Below.setCell ?_ (by first | omega | (simp; omega) | simp) _) | refine Below.drew ?_))).mono ?_
    rintro e w1 ⟨rfl, hb1⟩
    have HB := Lib.hid hb1
    clear hb1
    go_wp2_with fail
    go_ret2
    exact ⟨by rw [HL.out]; rfl, (by repeat (first | exact Below.refl _ _ | (refine Below.alloc ?_ (by first | omega | (simp; omega) | simp) _) | (refine Below.setCell ?_ (by first | omega | (simp; omega) | simp) _) | refine Below.drew ?_ | (refine below_via (by assumption) (by first | omega | (simp; omega) | simp) ?_)))⟩
  · have HS := Lib.hid (fun Wb w1 (hb : Below w.heap.size w w1) (hbx : ∀ i, w1.cell? ⟨Wb, i, none⟩ = (#[.int .i64 s.P, .int .i64 s.tl, .int .i64 s.th, .int .i64 s.al, .int .i64 s.ah, .int .i64 s.room, .int .i64 s.xl, .int .i64 s.xh, .int .i64 s.yl, .int .i64 s.yh, .slice a len cap] : Array Value)[i]?) => safest_Tin s a len cap Wb w1 hbx (hp.below hb) ho)
    have HO := Lib.hid ho
    clear hp
    go_enter Try.func36, Try.ntmps36
    go_wp2_with fail
    refine (HS.out _ _ (by repeat (first | exact Below.refl _ _ | (refine Below.alloc ?_ (by first | omega | (simp; omega) | simp) _) | (refine Below.setCell ?_ (by first | omega | (simp; omega) | simp) _) | refine Below.drew ?_)) (fun i => by go_simp)).mono ?_
    rintro e w1 ⟨hb1, hpost⟩
    have HB := Lib.hid hb1
    clear hb1
    rcases hpost with ⟨hn, rfl⟩ | ⟨y, m, v, hs, rfl, -⟩
    · have HL := Lib.hid (show s.least 1 = (0, 3) by simp [Shop.least, HO.out, Shop.best, Shop.adds, hn])
      clear hn
      go_wp2_with fail
      go_ret2
      exact ⟨by rw [HL.out]; rfl, (by repeat (first | exact Below.refl _ _ | (refine Below.alloc ?_ (by first | omega | (simp; omega) | simp) _) | (refine Below.setCell ?_ (by first | omega | (simp; omega) | simp) _) | refine Below.drew ?_ | (refine below_via (by assumption) (by first | omega | (simp; omega) | simp) ?_)))⟩
    · have HL := Lib.hid (show s.least 1 = (m, 0) by simp [Shop.least, HO.out, Shop.best, Shop.adds, hs])
      clear hs
      go_wp2_with fail
      go_ret2
      exact ⟨by rw [HL.out]; rfl, (by repeat (first | exact Below.refl _ _ | (refine Below.alloc ?_ (by first | omega | (simp; omega) | simp) _) | (refine Below.setCell ?_ (by first | omega | (simp; omega) | simp) _) | refine Below.drew ?_ | (refine below_via (by assumption) (by first | omega | (simp; omega) | simp) ?_)))⟩
end Go.Proofs.Ytajabapcmpmboaa
