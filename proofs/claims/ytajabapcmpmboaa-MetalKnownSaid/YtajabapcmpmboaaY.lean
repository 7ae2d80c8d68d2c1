/- Mend. -/
import Derived.Test.YtajabapcmpmboaaW
namespace Go.Proofs.Ytajabapcmpmboaa
set_option linter.unusedVariables false
set_option linter.unusedSimpArgs false
open Go.RowKit Go.Shelf

/-- What Mend ends with: an error and no list, or the list in memory of its own. -/
def MendPost (s : Shop) (len : Nat) (w : World) (e : Ending) (w' : World) : Prop :=
  Below w.heap.size w w' ∧ ((s.ok = false ∧ e = .returned (.tuple #[.slice none 0 0, .int .i64 10])) ∨
    (s.ok = true ∧ s.best 2 = none ∧ e = .returned (.tuple #[.slice none 0 0, .int .i64 3])) ∨
    (s.ok = true ∧ ∃ y m v, s.best 2 = some (y, m) ∧ e = .returned (.tuple #[v, .int .i64 0]) ∧ w'.ownsRow w.heap.size 3 1 v len (y.map (Value.int .i64))))

set_option maxHeartbeats 1000000 in
theorem Mend_any (s : Shop) (a : Option Addr) (len cap : Nat) (w : World) (hp : PigsAt w a len s.pigs) :
    Calls Try.prog 34 #[.agg #[.int .i64 s.P, .int .i64 s.tl, .int .i64 s.th, .int .i64 s.al, .int .i64 s.ah, .int .i64 s.room, .int .i64 s.xl, .int .i64 s.xh, .int .i64 s.yl, .int .i64 s.yh, .slice a len cap]] w fun e w' => MendPost s len w e w' := by
  rcases ho : s.ok with - | -
  · have HS := Lib.hid (fun Wb w1 (hb : Below w.heap.size w w1) => bad_Mend s a len cap Wb w1 (hp.below hb) ho)
    have HO := Lib.hid ho
    clear hp ho
    go_enter Try.func34, Try.ntmps34
    go_wp2_with fail
    refine (HS.out _ _ (by repeat (first | exact Below.refl _ _ | (refine Below.alloc ?_ (by first | omega | (simp; omega) | simp) _) | (refine Below.setCell ?_ (by first | omega | (simp; omega) | simp) _) | refine Below.drew ?_))).mono ?_
    rintro e w1 ⟨rfl, hb1⟩
    have HB := Lib.hid hb1
    clear hb1
    go_wp2_with fail
    go_ret2
    exact ⟨(by repeat (first | exact Below.refl _ _ | (refine Below.alloc ?_ (by first | omega | (simp; omega) | simp) _) | (refine Below.setCell ?_ (by first | omega | (simp; omega) | simp) _) | refine Below.drew ?_ | (refine below_via (by assumption) (by first | omega | (simp; omega) | simp) ?_))), .inl ⟨HO.out, rfl⟩⟩
  · have HS := Lib.hid (fun Wb w1 (hb : Below w.heap.size w w1) (hbx : ∀ i, w1.cell? ⟨Wb, i, none⟩ = (#[.int .i64 s.P, .int .i64 s.tl, .int .i64 s.th, .int .i64 s.al, .int .i64 s.ah, .int .i64 s.room, .int .i64 s.xl, .int .i64 s.xh, .int .i64 s.yl, .int .i64 s.yh, .slice a len cap] : Array Value)[i]?) => safest_Mend s a len cap Wb w1 hbx (hp.below hb) ho)
    have HO := Lib.hid ho
    clear hp ho
    go_enter Try.func34, Try.ntmps34
    go_wp2_with fail
    refine (HS.out _ _ (by repeat (first | exact Below.refl _ _ | (refine Below.alloc ?_ (by first | omega | (simp; omega) | simp) _) | (refine Below.setCell ?_ (by first | omega | (simp; omega) | simp) _) | refine Below.drew ?_)) (fun i => by go_simp)).mono ?_
    rintro e w1 ⟨hb1, hpost⟩
    have HB := Lib.hid hb1
    clear hb1
    rcases hpost with ⟨hn, rfl⟩ | ⟨y, m, v, hs, rfl, hown⟩
    · have HN := Lib.hid hn
      clear hn
      go_wp2_with fail
      go_ret2
      exact ⟨(by repeat (first | exact Below.refl _ _ | (refine Below.alloc ?_ (by first | omega | (simp; omega) | simp) _) | (refine Below.setCell ?_ (by first | omega | (simp; omega) | simp) _) | refine Below.drew ?_ | (refine below_via (by assumption) (by first | omega | (simp; omega) | simp) ?_))), .inr (.inl ⟨HO.out, HN.out, rfl⟩)⟩
    · have HN := Lib.hid hs
      have HW := Lib.hid hown
      clear hs hown
      go_wp2_with fail
      go_ret2
      exact ⟨(by repeat (first | exact Below.refl _ _ | (refine Below.alloc ?_ (by first | omega | (simp; omega) | simp) _) | (refine Below.setCell ?_ (by first | omega | (simp; omega) | simp) _) | refine Below.drew ?_ | (refine below_via (by assumption) (by first | omega | (simp; omega) | simp) ?_))), .inr (.inr ⟨HO.out, y, m, v, HN.out, rfl, Go.Joins.ownsRow_le HW.out (by simp; omega)⟩)⟩
end Go.Proofs.Ytajabapcmpmboaa
