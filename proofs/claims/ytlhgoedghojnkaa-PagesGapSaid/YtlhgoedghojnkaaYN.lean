/- Package pages: Meets. -/
import Derived.Test.YtlhgoedghojnkaaYJ
namespace Go.Proofs.Ytlhgoedghojnkaa
set_option linter.unusedVariables false
set_option linter.unusedSimpArgs false
open Go.RowKit

def meetR (lo hi : Int) : Int := if lo = 0 ∧ hi = 0 then 1 else if lo ≤ 0 ∧ 0 ≤ hi then 3 else 2
def MeetsPost (f : PFrame) (one other : Int) (e : Ending) : Prop :=
  ∃ ci a di b, f.at one ci a ∧ f.at other di b ∧ e = .returned (.tuple #[.int .i64 (meetR (f.gapLo (f.ahead ci a) (f.ahead di b)) (f.gapHi (f.ahead ci a) (f.ahead di b))), .int .i64 0])
set_option maxRecDepth 100000 in
set_option maxHeartbeats 4000000 in
theorem Meets_no (f : PFrame) (sa : Option Addr) (sl sc : Nat) (pa : Option Addr) (pl pc : Nat) (ca : Option Addr) (cl cc : Nat) (one other v : Int) (hv : f.gapE one other = v) (h0 : v ≠ 0) (w : World) (hp : PAt w sa sl sc pa pl pc ca cl cc f) :
    Calls Try.prog 46 #[.agg #[.int .i64 f.len, .int .i64 f.slack, .slice sa sl sc, .slice pa pl pc, .slice ca cl cc], .int .i64 one, .int .i64 other] w fun e w' => e = .returned (.tuple #[.int .i64 0, .int .i64 v]) ∧ Below w.heap.size w w' := by
  have HG := Lib.hid (fun W (hb : Below w.heap.size w W) => Gap_no f sa sl sc pa pl pc ca cl cc one other v hv h0 W (hp.below hb))
  have e1 : (v == 0) = false := by simpa using h0
  have e2 : (v != 0) = true := by simpa using h0
  clear hp hv
  go_enter Try.func46, Try.ntmps46
  go_wp2_with fail
  refine (HG.out _ (by repeat (first | exact Below.refl _ _ | (refine Below.alloc ?_ (by first | omega | (simp; omega) | simp) _) | (refine Below.setCell ?_ (by first | omega | (simp; omega) | simp) _) | refine Below.drew ?_))).mono ?_
  rintro e w1 ⟨rfl, hb1⟩
  have hw1 := ((by repeat (first | exact Below.refl _ _ | (refine Below.alloc ?_ (by first | omega | (simp; omega) | simp) _) | (refine Below.setCell ?_ (by first | omega | (simp; omega) | simp) _) | refine Below.drew ?_)) : Below w.heap.size w _).trans (hb1.mono (by first | (simp; done) | (simp; omega) | omega))
  have hz1 := hw1.size
  clear hb1
  go_wp2_with fail
  go_ret2
  exact ⟨rfl, (by repeat (first | assumption | exact Below.refl _ _ | (refine Below.alloc ?_ (by first | omega | (simp; omega) | simp) _) | (refine Below.setCell ?_ (by first | omega | (simp; omega) | simp) _) | refine Below.drew ?_))⟩
set_option maxRecDepth 100000 in
set_option maxHeartbeats 4000000 in
theorem Meets_yes (f : PFrame) (sa : Option Addr) (sl sc : Nat) (pa : Option Addr) (pl pc : Nat) (ca : Option Addr) (cl cc : Nat) (one other : Int) (ho : f.ok = true) (h0 : 0 ≤ one) (hn : one < (f.pieces.length : Int)) (h1 : 0 ≤ other) (hn1 : other < (f.pieces.length : Int)) (w : World) (hp : PAt w sa sl sc pa pl pc ca cl cc f) :
    Calls Try.prog 46 #[.agg #[.int .i64 f.len, .int .i64 f.slack, .slice sa sl sc, .slice pa pl pc, .slice ca cl cc], .int .i64 one, .int .i64 other] w fun e w' => MeetsPost f one other e ∧ Below w.heap.size w w' := by
  have HG := Lib.hid (fun W (hb : Below w.heap.size w W) => Gap_yes f sa sl sc pa pl pc ca cl cc one other ho h0 hn h1 hn1 W (hp.below hb))
  have HB := Lib.hid (fun lo hi b (h : btw 0 lo hi = b) W => between_is 0 lo hi b h W)
  clear hp ho h0 hn h1 hn1
  go_enter Try.func46, Try.ntmps46
  go_wp2_with fail
  refine (HG.out _ (by repeat (first | exact Below.refl _ _ | (refine Below.alloc ?_ (by first | omega | (simp; omega) | simp) _) | (refine Below.setCell ?_ (by first | omega | (simp; omega) | simp) _) | refine Below.drew ?_))).mono ?_
  rintro e w1 ⟨⟨ci, a, di, b, hat, hbt, rfl⟩, hb1⟩
  have hw1 := ((by repeat (first | exact Below.refl _ _ | (refine Below.alloc ?_ (by first | omega | (simp; omega) | simp) _) | (refine Below.setCell ?_ (by first | omega | (simp; omega) | simp) _) | refine Below.drew ?_)) : Below w.heap.size w _).trans (hb1.mono (by first | (simp; done) | (simp; omega) | omega))
  have hz1 := hw1.size
  have HP := Lib.hid (fun v (h : meetR (f.gapLo (f.ahead ci a) (f.ahead di b)) (f.gapHi (f.ahead ci a) (f.ahead di b)) = v) => show MeetsPost f one other (.returned (.tuple #[.int .i64 v, .int .i64 0])) from ⟨ci, a, di, b, hat, hbt, by rw [h]⟩)
  clear hb1 hat hbt
  generalize f.gapLo (f.ahead ci a) (f.ahead di b) = lo at *
  generalize f.gapHi (f.ahead ci a) (f.ahead di b) = hi at *
  by_cases hz : lo = 0 ∧ hi = 0
  · obtain ⟨rfl, rfl⟩ := hz
    have HP1 := Lib.hid (HP.out 1 rfl)
    clear HP
    go_wp2_with fail
    go_ret2
    exact ⟨HP1.out, (by repeat (first | assumption | exact Below.refl _ _ | (refine Below.alloc ?_ (by first | omega | (simp; omega) | simp) _) | (refine Below.setCell ?_ (by first | omega | (simp; omega) | simp) _) | refine Below.drew ?_))⟩
  · by_cases hl : lo = 0
    · subst hl
      have hh : ¬ hi = 0 := fun h => hz ⟨rfl, h⟩
      clear hz
      by_cases hm : 0 ≤ hi
      · have HP1 := Lib.hid (HP.out 3 (by unfold meetR; rw [if_neg (fun h => hh h.2), if_pos ⟨Int.le_refl _, hm⟩]))
        have HB1 := Lib.hid (HB.out 0 hi true (by unfold btw; simpa using hm))
        clear HP hm HB
        go_wp2_with fail
        refine (HB1.out _).mono ?_
        rintro e w2 ⟨rfl, rfl⟩
        go_wp2_with fail
        go_ret2
        exact ⟨HP1.out, (by repeat (first | assumption | exact Below.refl _ _ | (refine Below.alloc ?_ (by first | omega | (simp; omega) | simp) _) | (refine Below.setCell ?_ (by first | omega | (simp; omega) | simp) _) | refine Below.drew ?_))⟩
      · have HP1 := Lib.hid (HP.out 2 (by unfold meetR; rw [if_neg (fun h => hh h.2), if_neg (fun h => hm h.2)]))
        have HB1 := Lib.hid (HB.out 0 hi false (by unfold btw; simpa using hm))
        clear HP hm HB
        go_wp2_with fail
        refine (HB1.out _).mono ?_
        rintro e w2 ⟨rfl, rfl⟩
        go_wp2_with fail
        go_ret2
        exact ⟨HP1.out, (by repeat (first | assumption | exact Below.refl _ _ | (refine Below.alloc ?_ (by first | omega | (simp; omega) | simp) _) | (refine Below.setCell ?_ (by first | omega | (simp; omega) | simp) _) | refine Below.drew ?_))⟩
    · have hz2 := hz
      clear hz
      by_cases hm : lo ≤ 0 ∧ 0 ≤ hi
      · have HP1 := Lib.hid (HP.out 3 (by unfold meetR; rw [if_neg hz2, if_pos hm]))
        have HB1 := Lib.hid (HB.out lo hi true (by unfold btw; simpa using hm))
        clear hz2
        clear HP hm HB
        go_wp2_with fail
        refine (HB1.out _).mono ?_
        rintro e w2 ⟨rfl, rfl⟩
        go_wp2_with fail
        go_ret2
        exact ⟨HP1.out, (by repeat (first | assumption | exact Below.refl _ _ | (refine Below.alloc ?_ (by first | omega | (simp; omega) | simp) _) | (refine Below.setCell ?_ (by first | omega | (simp; omega) | simp) _) | refine Below.drew ?_))⟩
      · have HP1 := Lib.hid (HP.out 2 (by unfold meetR; rw [if_neg hz2, if_neg hm]))
        have HB1 := Lib.hid (HB.out lo hi false (by unfold btw; exact decide_eq_false hm))
        clear hz2
        clear HP hm HB
        go_wp2_with fail
        refine (HB1.out _).mono ?_
        rintro e w2 ⟨rfl, rfl⟩
        go_wp2_with fail
        go_ret2
        exact ⟨HP1.out, (by repeat (first | assumption | exact Below.refl _ _ | (refine Below.alloc ?_ (by first | omega | (simp; omega) | simp) _) | (refine Below.setCell ?_ (by first | omega | (simp; omega) | simp) _) | refine Below.drew ?_))⟩
end Go.Proofs.Ytlhgoedghojnkaa
