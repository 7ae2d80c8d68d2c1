/- The laws' Far and ready. -/
import Derived.Test.YtgpmnelkjfoplaaZX
namespace Go.Proofs.Ytgpmnelkjfoplaa
set_option linter.unusedVariables false
set_option linter.unusedSimpArgs false
open Go.RowKit

def PFrame.prods (f : PFrame) : Nat → Int
  | 0 => 1
  | k + 1 => f.prods k * ((f.strips[k]?.map (·.m)).getD 0 + 1)
theorem prods_next {f : PFrame} {k : Nat} (h : k < f.strips.length) : f.prods (k + 1) = f.prods k * (f.strips[k].m + 1) := by
  rw [PFrame.prods, List.getElem?_eq_getElem h]; rfl
theorem strip_m {f : PFrame} (ho : f.ok = true) (k : Nat) (h : k < f.strips.length) : 0 ≤ f.strips[k].m ∧ f.strips[k].m ≤ 4 := by
  unfold PFrame.ok at ho
  simp only [Bool.and_eq_true] at ho
  have := List.all_eq_true.1 ho.1.1.2 _ (List.getElem_mem h)
  unfold stripB btw at this
  simp at this; omega
theorem prods_bd {f : PFrame} (ho : f.ok = true) : ∀ k, k ≤ f.strips.length → 1 ≤ f.prods k ∧ f.prods k ≤ 5 ^ k
  | 0, _ => by simp [PFrame.prods]
  | k + 1, h => by
    obtain ⟨h1, h2⟩ := prods_bd ho k (by omega)
    obtain ⟨h3, h4⟩ := strip_m ho k (by omega)
    rw [prods_next (by omega)]
    generalize f.prods k = a at *
    generalize f.strips[k].m = b at *
    refine ⟨?_, ?_⟩
    · have := Int.mul_le_mul h1 (show (1 : Int) ≤ b + 1 by omega) (by omega) (by omega); omega
    · rw [Int.pow_succ]
      exact Int.mul_le_mul h2 (by omega) (by omega) (by omega)
theorem ok_few {f : PFrame} (ho : f.ok = true) : f.strips.length ≤ 3 := by
  unfold PFrame.ok PFrame.few at ho
  simp at ho; omega
theorem prods_125 {f : PFrame} (ho : f.ok = true) (k : Nat) (h : k ≤ f.strips.length) : 1 ≤ f.prods k ∧ f.prods k ≤ 125 := by
  obtain ⟨h1, h2⟩ := prods_bd ho k h
  have h3 := ok_few ho
  have : k = 0 ∨ k = 1 ∨ k = 2 ∨ k = 3 := by omega
  rcases this with rfl | rfl | rfl | rfl <;> (simp at h2; omega)
def PFrame.far (f : PFrame) : Bool := f.huge || (f.ok && decide (30 < f.prods f.strips.length))
set_option maxRecDepth 100000 in
set_option maxHeartbeats 4000000 in
theorem Far_is (f : PFrame) (sa : Option Addr) (sl sc : Nat) (pa : Option Addr) (pl pc : Nat) (ca : Option Addr) (cl cc : Nat) (b : Bool) (h : f.far = b) (w : World) (hp : PAt w sa sl sc pa pl pc ca cl cc f) :
    Calls Try.prog 30 #[.agg #[.int .i64 f.len, .int .i64 f.slack, .slice sa sl sc, .slice pa pl pc, .slice ca cl cc]] w fun e w' => e = .returned (.bool b) ∧ Below w.heap.size w w' := by
  have HP := Lib.hid (fun W (hb : Below w.heap.size w W) => hp.below hb)
  have HH := Lib.hid (fun hb (hh : f.huge = hb) W (h : Below w.heap.size w W) => Huge_is f sa sl sc pa pl pc ca cl cc hb hh W (HP.out W h))
  obtain ⟨hsl, hsm, hsc⟩ := hp.1
  clear hp
  unfold PFrame.far at h
  rcases hu : f.huge with - | -
  · have HH1 := Lib.hid (HH.out _ hu)
    have hcols := huge_cols hu
    rw [hu] at h
    rcases ho : f.ok with - | -
    · have HB := Lib.hid (show b = false by rw [← h, ho]; rfl)
      have HC := Lib.hid (fun W (h : Below w.heap.size w W) => refCheck_is f sa sl sc pa pl pc ca cl cc 30 (by unfold PFrame.chk; rw [ho]; rfl) hcols W (HP.out W h))
      clear h hu HH HP hcols ho hsl hsm hsc
      go_enter Try.func30, Try.ntmps30
      go_wp2_with fail
      refine (HH1.out _ (by repeat (first | exact Below.refl _ _ | (refine Below.alloc ?_ (by first | omega | (simp; omega) | simp) _) | (refine Below.setCell ?_ (by first | omega | (simp; omega) | simp) _) | refine Below.drew ?_))).mono ?_
      rintro e w1 ⟨rfl, hb1⟩
      have hb1' : Below w.heap.size w w1 := below_via (Lib.hid hb1) (by simp) (by repeat (first | exact Below.refl _ _ | (refine Below.alloc ?_ (by first | omega | (simp; omega) | simp) _) | (refine Below.setCell ?_ (by first | omega | (simp; omega) | simp) _) | refine Below.drew ?_))
      have x0 : w1.cell? ⟨w.heap.size, 0, none⟩ = some (.int .i64 f.len) ∧ w1.cell? ⟨w.heap.size, 1, none⟩ = some (.int .i64 f.slack) ∧ w1.cell? ⟨w.heap.size, 2, none⟩ = some (.slice sa sl sc) ∧ w1.cell? ⟨w.heap.size, 3, none⟩ = some (.slice pa pl pc) ∧ w1.cell? ⟨w.heap.size, 4, none⟩ = some (.slice ca cl cc) := ⟨(hb1.cell (p := ⟨w.heap.size, 0, none⟩) (by simp)).trans (by go_simp), (hb1.cell (p := ⟨w.heap.size, 1, none⟩) (by simp)).trans (by go_simp), (hb1.cell (p := ⟨w.heap.size, 2, none⟩) (by simp)).trans (by go_simp), (hb1.cell (p := ⟨w.heap.size, 3, none⟩) (by simp)).trans (by go_simp), (hb1.cell (p := ⟨w.heap.size, 4, none⟩) (by simp)).trans (by go_simp)⟩
      obtain ⟨x0, x1, x2, x3, x4⟩ := x0
      have HB1 := Lib.hid hb1'
      clear hb1 hb1'
      go_wp2_with fail
      refine (HC.out _ (by have := HB1.out; first | exact this | exact this.drew)).mono ?_
      rintro e w2 ⟨rfl, hb2⟩
      have HB2 := Lib.hid (HB1.out.trans (hb2.mono HB1.out.size))
      clear hb2
      go_wp2_with fail
      go_ret
      exact ⟨ret_bool HB.out.symm, HB2.out⟩
    · have HB := Lib.hid (show b = decide (30 < f.prods f.strips.length) by rw [← h, ho]; simp)
      have HC := Lib.hid (fun W (h : Below w.heap.size w W) => refCheck_is f sa sl sc pa pl pc ca cl cc 0 (by unfold PFrame.chk; rw [ho]; rfl) hcols W (HP.out W h))
      have HBD := Lib.hid (fun k (h : k ≤ f.strips.length) => prods_125 ho k h)
      have HSM := Lib.hid (fun k (h : k < f.strips.length) => strip_m ho k h)
      have HSL := Lib.hid hsl
      have HSC := Lib.hid hsc
      have HNX := Lib.hid (fun k (h : k < f.strips.length) => prods_next (f := f) h)
      have h3 : sl ≤ 3 := by have := ok_few ho; omega
      clear h hu HH HP hcols ho hsl hsm hsc
      go_enter Try.func30, Try.ntmps30
      go_wp2_with fail
      refine (HH1.out _ (by repeat (first | exact Below.refl _ _ | (refine Below.alloc ?_ (by first | omega | (simp; omega) | simp) _) | (refine Below.setCell ?_ (by first | omega | (simp; omega) | simp) _) | refine Below.drew ?_))).mono ?_
      rintro e w1 ⟨rfl, hb1⟩
      have hb1' : Below w.heap.size w w1 := below_via (Lib.hid hb1) (by simp) (by repeat (first | exact Below.refl _ _ | (refine Below.alloc ?_ (by first | omega | (simp; omega) | simp) _) | (refine Below.setCell ?_ (by first | omega | (simp; omega) | simp) _) | refine Below.drew ?_))
      have x0 : w1.cell? ⟨w.heap.size, 0, none⟩ = some (.int .i64 f.len) ∧ w1.cell? ⟨w.heap.size, 1, none⟩ = some (.int .i64 f.slack) ∧ w1.cell? ⟨w.heap.size, 2, none⟩ = some (.slice sa sl sc) ∧ w1.cell? ⟨w.heap.size, 3, none⟩ = some (.slice pa pl pc) ∧ w1.cell? ⟨w.heap.size, 4, none⟩ = some (.slice ca cl cc) := ⟨(hb1.cell (p := ⟨w.heap.size, 0, none⟩) (by simp)).trans (by go_simp), (hb1.cell (p := ⟨w.heap.size, 1, none⟩) (by simp)).trans (by go_simp), (hb1.cell (p := ⟨w.heap.size, 2, none⟩) (by simp)).trans (by go_simp), (hb1.cell (p := ⟨w.heap.size, 3, none⟩) (by simp)).trans (by go_simp), (hb1.cell (p := ⟨w.heap.size, 4, none⟩) (by simp)).trans (by go_simp)⟩
      obtain ⟨x0, x1, x2, x3, x4⟩ := x0
      have z1 : w.heap.size < w1.heap.size := by have := hb1.size; simp at this; omega
      have HB1 := Lib.hid hb1'
      clear hb1 hb1'
      go_wp2_with fail
      refine (HC.out _ (by have := HB1.out; first | exact this | exact this.drew)).mono ?_
      rintro e w2 ⟨rfl, hb2⟩
      have y2 : w2.cell? ⟨w.heap.size, 2, none⟩ = some (.slice sa sl sc) := (hb2.cell (p := ⟨w.heap.size, 2, none⟩) (by first | omega | (simp; omega))).trans (by go_simp)
      have HB2 := Lib.hid (HB1.out.trans (hb2.mono HB1.out.size))
      clear hb2 x0 x1 x2 x3 x4 HB1
      go_wp2_with fail
      go_loopw [3, 4] (fun v3 v4 wr => ∃ k : Nat, k ≤ sl ∧ v4 = .int .i64 k ∧ v3 = .int .i64 (f.prods k) ∧ Below w2.heap.size w2 wr) (fun _ v4 _ => sl - (intOf v4).toNat)
      case atStart => exact ⟨0, by omega, rfl, rfl, (by repeat (first | exact Below.refl _ _ | (refine Below.alloc ?_ (by first | omega | (simp; omega) | simp) _) | (refine Below.setCell ?_ (by first | omega | (simp; omega) | simp) _) | refine Below.drew ?_))⟩
      case round =>
        obtain ⟨k, hk, rfl, rfl, hbr⟩ := hrel
        have y2q := (hbr.cell (p := ⟨w.heap.size, 2, none⟩) (World.block_lt_of_cell? _ _ y2)).trans y2
        by_cases hlt : k < sl
        · have hk2 : k < f.strips.length := by rw [HSL.out]; exact hlt
          obtain ⟨sb, so, rfl, hsB, hscell⟩ := HSC.out (by omega)
          have c1 := (hbr.cell (p := ⟨sb, so + k * 2 + 1, none⟩) (Nat.lt_of_lt_of_le hsB HB2.out.size)).trans ((HB2.out.cell (p := ⟨sb, so + k * 2 + 1, none⟩) hsB).trans (hscell k hk2).2)
          have HN := Lib.hid (HNX.out k hk2)
          have hbd := HBD.out k (by omega)
          have hbd2 := HBD.out (k + 1) (by omega)
          rw [HN.out] at hbd2
          have hm := HSM.out k hk2
          have hkl : (k : Int) < (sl : Int) := by omega
          have hk0 : (0 : Int) ≤ (k : Int) := by omega
          have HBR := Lib.hid hbr
          clear hscell hbr
          generalize f.prods k = p at *
          generalize f.strips[k].m = x at *
          go_wp2_with fail
          go_roundw
          case rel => exact ⟨k + 1, by omega, by go_num, by rw [HN.out], HBR.out⟩
          case measure => simp [intOf]; omega
        · obtain rfl : sl = k := by omega
          have HR := Lib.hid (show b = decide (30 < f.prods sl) by rw [HB.out, HSL.out])
          have HBW := Lib.hid (HB2.out.trans (hbr.mono HB2.out.size))
          clear hbr
          generalize f.prods sl = p at *
          by_cases hp : 30 < p
          · have HR2 := Lib.hid (show b = true by rw [HR.out]; simpa using hp)
            go_wp2_with fail
            go_ret
            exact ⟨ret_bool HR2.out.symm, HBW.out⟩
          · have HR2 := Lib.hid (show b = false by rw [HR.out]; simpa using hp)
            go_wp2_with fail
            go_ret
            exact ⟨ret_bool HR2.out.symm, HBW.out⟩
  · have HB := Lib.hid (show b = true by rw [← h, hu]; rfl)
    have HH1 := Lib.hid (HH.out _ hu)
    clear h hu HH HP hsl hsm hsc
    go_enter Try.func30, Try.ntmps30
    go_wp2_with fail
    refine (HH1.out _ (by repeat (first | exact Below.refl _ _ | (refine Below.alloc ?_ (by first | omega | (simp; omega) | simp) _) | (refine Below.setCell ?_ (by first | omega | (simp; omega) | simp) _) | refine Below.drew ?_))).mono ?_
    rintro e w1 ⟨rfl, hb1⟩
    have hb1' : Below w.heap.size w w1 := below_via (Lib.hid hb1) (by simp) (by repeat (first | exact Below.refl _ _ | (refine Below.alloc ?_ (by first | omega | (simp; omega) | simp) _) | (refine Below.setCell ?_ (by first | omega | (simp; omega) | simp) _) | refine Below.drew ?_))
    have HB1 := Lib.hid hb1'
    clear hb1 hb1'
    go_wp2_with fail
    go_ret
    exact ⟨ret_bool HB.out.symm, HB1.out⟩
def PFrame.ready (f : PFrame) : Bool := !f.far && f.ok
theorem Huge_of_far {f : PFrame} (h : f.far = false) : f.huge = false := by
  unfold PFrame.far at h; simp only [Bool.or_eq_false_iff] at h; exact h.1
set_option maxRecDepth 100000 in
set_option maxHeartbeats 4000000 in
theorem ready_is (f : PFrame) (sa : Option Addr) (sl sc : Nat) (pa : Option Addr) (pl pc : Nat) (ca : Option Addr) (cl cc : Nat) (b : Bool) (h : f.ready = b) (w : World) (hp : PAt w sa sl sc pa pl pc ca cl cc f) :
    Calls Try.prog 48 #[.agg #[.int .i64 f.len, .int .i64 f.slack, .slice sa sl sc, .slice pa pl pc, .slice ca cl cc]] w fun e w' => e = .returned (.bool b) ∧ Below w.heap.size w w' := by
  have HP := Lib.hid (fun W (hb : Below w.heap.size w W) => hp.below hb)
  have HF := Lib.hid (fun hb (hh : f.far = hb) W (h : Below w.heap.size w W) => Far_is f sa sl sc pa pl pc ca cl cc hb hh W (HP.out W h))
  clear hp
  unfold PFrame.ready at h
  rcases hu : f.far with - | -
  · have HF1 := Lib.hid (HF.out _ hu)
    have HC := Lib.hid (fun c (h : f.chk = c) W (hb : Below w.heap.size w W) => refCheck_is f sa sl sc pa pl pc ca cl cc c h (huge_cols (Huge_of_far hu)) W (HP.out W hb))
    rw [hu] at h
    have hk : ∃ c : Int, f.chk = c ∧ (c = 0 ∧ b = true ∨ c = 30 ∧ b = false) := by
      refine ⟨_, rfl, ?_⟩
      unfold PFrame.chk
      rw [← h]
      rcases f.ok with - | - <;> simp
    clear h hu HF HP
    obtain ⟨c, hc, hk⟩ := hk
    have HC1 := Lib.hid (HC.out c hc)
    clear HC hc
    rcases hk with ⟨rfl, rfl⟩ | ⟨rfl, rfl⟩
    all_goals (
      go_enter Try.func48, Try.ntmps48
      go_wp2_with fail
      refine (HF1.out _ (by repeat (first | exact Below.refl _ _ | (refine Below.alloc ?_ (by first | omega | (simp; omega) | simp) _) | (refine Below.setCell ?_ (by first | omega | (simp; omega) | simp) _) | refine Below.drew ?_))).mono ?_
      rintro e w1 ⟨rfl, hb1⟩
      have hb1' : Below w.heap.size w w1 := below_via (Lib.hid hb1) (by simp) (by repeat (first | exact Below.refl _ _ | (refine Below.alloc ?_ (by first | omega | (simp; omega) | simp) _) | (refine Below.setCell ?_ (by first | omega | (simp; omega) | simp) _) | refine Below.drew ?_))
      have x0 : w1.cell? ⟨w.heap.size, 0, none⟩ = some (.int .i64 f.len) ∧ w1.cell? ⟨w.heap.size, 1, none⟩ = some (.int .i64 f.slack) ∧ w1.cell? ⟨w.heap.size, 2, none⟩ = some (.slice sa sl sc) ∧ w1.cell? ⟨w.heap.size, 3, none⟩ = some (.slice pa pl pc) ∧ w1.cell? ⟨w.heap.size, 4, none⟩ = some (.slice ca cl cc) := ⟨(hb1.cell (p := ⟨w.heap.size, 0, none⟩) (by simp)).trans (by go_simp), (hb1.cell (p := ⟨w.heap.size, 1, none⟩) (by simp)).trans (by go_simp), (hb1.cell (p := ⟨w.heap.size, 2, none⟩) (by simp)).trans (by go_simp), (hb1.cell (p := ⟨w.heap.size, 3, none⟩) (by simp)).trans (by go_simp), (hb1.cell (p := ⟨w.heap.size, 4, none⟩) (by simp)).trans (by go_simp)⟩
      obtain ⟨x0, x1, x2, x3, x4⟩ := x0
      have HB1 := Lib.hid hb1'
      clear hb1 hb1'
      go_wp2_with fail
      refine (HC1.out _ (by have := HB1.out; first | exact this | exact this.drew)).mono ?_
      rintro e w2 ⟨rfl, hb2⟩
      have HB2 := Lib.hid (HB1.out.trans (hb2.mono HB1.out.size))
      clear hb2
      go_wp2_with fail
      go_ret
      exact ⟨rfl, HB2.out⟩)
  · have HF1 := Lib.hid (HF.out _ hu)
    have HB := Lib.hid (show b = false by rw [← h, hu]; rfl)
    clear h hu HF HP
    go_enter Try.func48, Try.ntmps48
    go_wp2_with fail
    refine (HF1.out _ (by repeat (first | exact Below.refl _ _ | (refine Below.alloc ?_ (by first | omega | (simp; omega) | simp) _) | (refine Below.setCell ?_ (by first | omega | (simp; omega) | simp) _) | refine Below.drew ?_))).mono ?_
    rintro e w1 ⟨rfl, hb1⟩
    have hb1' : Below w.heap.size w w1 := below_via (Lib.hid hb1) (by simp) (by repeat (first | exact Below.refl _ _ | (refine Below.alloc ?_ (by first | omega | (simp; omega) | simp) _) | (refine Below.setCell ?_ (by first | omega | (simp; omega) | simp) _) | refine Below.drew ?_))
    have HB1 := Lib.hid hb1'
    clear hb1 hb1'
    go_wp2_with fail
    go_ret
    exact ⟨ret_bool HB.out.symm, HB1.out⟩
end Go.Proofs.Ytgpmnelkjfoplaa
