/- The laws' isSet and isKnown. -/
import Derived.Test.YtgpmnelkjfoplaaZY
import Derived.Test.YtgpmnelkjfoplaaYG
namespace Go.Proofs.Ytgpmnelkjfoplaa
set_option linter.unusedVariables false
set_option linter.unusedSimpArgs false
open Go.RowKit

def PFrame.placeB (f : PFrame) (c : Int) (x : List Int) : Bool := btw c 0 ((f.cols.length : Int) - 1) && decide (x.length ≤ 40) && f.setB x
set_option maxRecDepth 100000 in
set_option maxHeartbeats 4000000 in
theorem placeSet_is (f : PFrame) (sa : Option Addr) (sl sc : Nat) (pa : Option Addr) (pl pc : Nat) (ca : Option Addr) (cl cc : Nat) (c : Int) (xa : Option Addr) (xl xc : Nat) (x : List Int) (on ot : Int) (b : Bool) (h : f.placeB c x = b) (w : World) (hp : PAt w sa sl sc pa pl pc ca cl cc f) (hx : IntsAt w xa xl x) :
    Calls Try.prog 50 #[.agg #[.int .i64 f.len, .int .i64 f.slack, .slice sa sl sc, .slice pa pl pc, .slice ca cl cc], .agg #[.int .i64 c, .slice xa xl xc, .int .i64 on, .int .i64 ot]] w fun e w' => e = .returned (.bool b) ∧ Below w.heap.size w w' := by
  have hcm := hp.2.2.2.1
  have hcl := hp.2.2.1
  have hxl := hx.1
  have hxm := hx.2.1
  have HC := Lib.hid (fun b (h : btw c 0 ((cl : Int) - 1) = b) W => IsColumn_is f sa sl sc pa pl pc ca cl cc c W hcm b h)
  have HS := Lib.hid (fun b (h : f.setB x = b) W (hb : Below w.heap.size w W) => refIsSet_is f sa sl sc pa pl pc ca cl cc xa xl xc x b h W (hp.below hb) (hx.below hb))
  unfold PFrame.placeB at h
  rw [hcl, hxl] at h
  unfold maxLen at hxm
  clear hp hx hcm hcl
  rcases h1 : btw c 0 ((cl : Int) - 1) with - | -
  · have HC1 := Lib.hid (HC.out _ h1)
    have HB := Lib.hid (show b = false by rw [← h, h1]; rfl)
    clear HC HS h1 h
    go_enter Try.func50, Try.ntmps50
    go_wp2_with fail
    obtain ⟨W0, hW0, hB0, hs0, ht0, hz0⟩ := name2c w #[.int .i64 f.len, .int .i64 f.slack, .slice sa sl sc, .slice pa pl pc, .slice ca cl cc] 26 #[.int .i64 c, .slice xa xl xc, .int .i64 on, .int .i64 ot] 58
    rw [hW0]
    clear hW0
    refine (HC1.out _).mono ?_
    rintro e v1 ⟨rfl, hb1⟩
    have HB1 := Lib.hid (hB0.trans ((below_via (Lib.hid hb1) (by simp) (by repeat (first | exact Below.refl _ _ | (refine Below.alloc ?_ (by first | omega | (simp; omega) | simp) _) | (refine Below.setCell ?_ (by first | omega | (simp; omega) | simp) _) | refine Below.drew ?_)) : Below W0.heap.size W0 v1).mono hB0.size))
    clear hb1
    go_wp2_with fail
    go_ret
    exact ⟨ret_bool HB.out.symm, HB1.out⟩
  · have HC1 := Lib.hid (HC.out _ h1)
    rw [h1] at h
    by_cases h40 : xl ≤ 40
    · have HB := Lib.hid (show b = f.setB x by rw [← h]; simp [h40])
      have HS1 := Lib.hid (HS.out b HB.out.symm)
      have j40 : (xl : Int) ≤ 40 := by omega
      clear HC HS h1 h HB
      go_enter Try.func50, Try.ntmps50
      go_wp2_with fail
      obtain ⟨W0, hW0, hB0, hs0, ht0, hz0⟩ := name2c w #[.int .i64 f.len, .int .i64 f.slack, .slice sa sl sc, .slice pa pl pc, .slice ca cl cc] 26 #[.int .i64 c, .slice xa xl xc, .int .i64 on, .int .i64 ot] 58
      rw [hW0]
      clear hW0
      refine (HC1.out _).mono ?_
      rintro e v1 ⟨rfl, hb1⟩
      have hb1' : Below W0.heap.size W0 v1 := below_via (Lib.hid hb1) (by simp) (by repeat (first | exact Below.refl _ _ | (refine Below.alloc ?_ (by first | omega | (simp; omega) | simp) _) | (refine Below.setCell ?_ (by first | omega | (simp; omega) | simp) _) | refine Below.drew ?_))
      have c1 : ∀ b o, b < W0.heap.size → v1.cell? ⟨b, o, none⟩ = W0.cell? ⟨b, o, none⟩ := fun b o h => hb1'.cell (p := ⟨b, o, none⟩) h
      have z0 : w.heap.size < W0.heap.size := by omega
      have z1 : w.heap.size + 1 < W0.heap.size := by omega
      obtain ⟨x0, x1, x2, x3, x4⟩ : v1.cell? ⟨w.heap.size, 0, none⟩ = some (.int .i64 f.len) ∧ v1.cell? ⟨w.heap.size, 1, none⟩ = some (.int .i64 f.slack) ∧ v1.cell? ⟨w.heap.size, 2, none⟩ = some (.slice sa sl sc) ∧ v1.cell? ⟨w.heap.size, 3, none⟩ = some (.slice pa pl pc) ∧ v1.cell? ⟨w.heap.size, 4, none⟩ = some (.slice ca cl cc) := ⟨(c1 _ 0 z0).trans (hs0 0), (c1 _ 1 z0).trans (hs0 1), (c1 _ 2 z0).trans (hs0 2), (c1 _ 3 z0).trans (hs0 3), (c1 _ 4 z0).trans (hs0 4)⟩
      have y1 : v1.cell? ⟨w.heap.size + 1, 1, none⟩ = some (.slice xa xl xc) := (c1 _ 1 z1).trans (ht0 1)
      have HB1 := Lib.hid (hB0.trans (hb1'.mono hB0.size))
      clear hb1 hb1' c1 hs0 ht0 hB0 HC1
      go_wp2_with fail
      refine (HS1.out _ (by have := HB1.out; first | exact this | exact this.drew)).mono ?_
      rintro e v2 ⟨rfl, hb2⟩
      have HB2 := Lib.hid (HB1.out.trans (hb2.mono HB1.out.size))
      clear hb2
      go_wp2_with fail
      go_ret
      exact ⟨rfl, HB2.out⟩
    · have HB := Lib.hid (show b = false by rw [← h]; simp [h40])
      have j40 : ¬ (xl : Int) ≤ 40 := by omega
      clear HC HS h1 h
      go_enter Try.func50, Try.ntmps50
      go_wp2_with fail
      obtain ⟨W0, hW0, hB0, hs0, ht0, hz0⟩ := name2c w #[.int .i64 f.len, .int .i64 f.slack, .slice sa sl sc, .slice pa pl pc, .slice ca cl cc] 26 #[.int .i64 c, .slice xa xl xc, .int .i64 on, .int .i64 ot] 58
      rw [hW0]
      clear hW0
      refine (HC1.out _).mono ?_
      rintro e v1 ⟨rfl, hb1⟩
      have hb1' : Below W0.heap.size W0 v1 := below_via (Lib.hid hb1) (by simp) (by repeat (first | exact Below.refl _ _ | (refine Below.alloc ?_ (by first | omega | (simp; omega) | simp) _) | (refine Below.setCell ?_ (by first | omega | (simp; omega) | simp) _) | refine Below.drew ?_))
      have c1 : ∀ b o, b < W0.heap.size → v1.cell? ⟨b, o, none⟩ = W0.cell? ⟨b, o, none⟩ := fun b o h => hb1'.cell (p := ⟨b, o, none⟩) h
      have z1 : w.heap.size + 1 < W0.heap.size := by omega
      have y1 : v1.cell? ⟨w.heap.size + 1, 1, none⟩ = some (.slice xa xl xc) := (c1 _ 1 z1).trans (ht0 1)
      have HB1 := Lib.hid (hB0.trans (hb1'.mono hB0.size))
      clear hb1 hb1' c1 hs0 ht0 hB0 HC1
      go_wp2_with fail
      go_ret
      exact ⟨ret_bool HB.out.symm, HB1.out⟩
theorem isKnown_is (n : Int) (b : Bool) (h : decide (n = 0 ∨ n = 3) = b) (w : World) :
    Calls Try.prog 58 #[.int .i64 n] w fun e w' => e = .returned (.bool b) ∧ w = w' := by
  subst h
  by_cases h0 : n = 0
  · subst h0
    go_enter Try.func58, Try.ntmps58
    go_wp2
    go_ret
    exact ⟨rfl, rfl⟩
  · have e0 : (n == 0) = false := by simpa using h0
    by_cases h3 : n = 3
    · subst h3
      go_enter Try.func58, Try.ntmps58
      go_wp2
      go_ret
      exact ⟨rfl, rfl⟩
    · have e3 : (n == 3) = false := by simpa using h3
      go_enter Try.func58, Try.ntmps58
      go_wp2
      go_ret
      exact ⟨ret_bool (by simp [h0, h3]), rfl⟩
end Go.Proofs.Ytgpmnelkjfoplaa
