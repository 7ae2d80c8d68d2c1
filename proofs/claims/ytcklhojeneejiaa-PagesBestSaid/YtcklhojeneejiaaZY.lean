/- ZX ZY, joined. -/
import Derived.Test.YtcklhojeneejiaaZW
import Derived.Test.YtcklhojeneejiaaYX
import Derived.Test.YtcklhojeneejiaaYU
/- The laws' Huge, Far and ready. -/
namespace Go.Proofs.Ytcklhojeneejiaa
set_option linter.unusedVariables false
set_option linter.unusedSimpArgs false
open Go.RowKit

def PFrame.huge (f : PFrame) : Bool := decide (40 < f.strips.length) || decide (40 < f.pieces.length) || decide (40 < f.cols.length) || f.cols.any fun c => decide (40 < c.length)
theorem huge_cols {f : PFrame} (h : f.huge = false) : ∀ c ∈ f.cols, c.length ≤ 1000 := by
  intro c hc
  unfold PFrame.huge at h
  simp only [Bool.or_eq_false_iff] at h
  have := List.any_eq_false.1 h.2 c hc
  simp at this; omega
set_option maxRecDepth 100000 in
set_option maxHeartbeats 4000000 in
theorem Huge_is (f : PFrame) (sa : Option Addr) (sl sc : Nat) (pa : Option Addr) (pl pc : Nat) (ca : Option Addr) (cl cc : Nat) (b : Bool) (h : f.huge = b) (w : World) (hp : PAt w sa sl sc pa pl pc ca cl cc f) :
    Calls Try.prog 17 #[.agg #[.int .i64 f.len, .int .i64 f.slack, .slice sa sl sc, .slice pa pl pc, .slice ca cl cc]] w fun e w' => e = .returned (.bool b) ∧ Below w.heap.size w w' := by
  obtain ⟨⟨k1, m1, -⟩, ⟨k2, m2, -⟩, ⟨k3, m3, hcc⟩⟩ := hp
  unfold maxLen at m1 m2 m3
  have hd : (40 < sl ∧ b = true) ∨ (sl ≤ 40 ∧ 40 < pl ∧ b = true) ∨ (sl ≤ 40 ∧ pl ≤ 40 ∧ 40 < cl ∧ b = true) ∨ (sl ≤ 40 ∧ pl ≤ 40 ∧ cl ≤ 40 ∧ b = f.cols.any fun c => decide (40 < c.length)) := by
    unfold PFrame.huge at h
    rw [k1, k2, k3] at h
    by_cases c1 : 40 < sl
    · exact .inl ⟨c1, by rw [← h]; simp [c1]⟩
    by_cases c2 : 40 < pl
    · exact .inr (.inl ⟨by omega, c2, by rw [← h]; simp [c2]⟩)
    by_cases c3 : 40 < cl
    · exact .inr (.inr (.inl ⟨by omega, by omega, c3, by rw [← h]; simp [c3]⟩))
    · exact .inr (.inr (.inr ⟨by omega, by omega, by omega, by rw [← h]; simp [c1, c2, c3]⟩))
  clear h
  rcases hd with ⟨d, rfl⟩ | ⟨d1, d, rfl⟩ | ⟨d1, d2, d, rfl⟩ | ⟨d1, d2, d3, hb⟩
  · have j1 : (40 : Int) < (sl : Int) := by omega
    clear k1 k2 k3 hcc
    go_enter Try.func17, Try.ntmps17
    go_wp2_with fail
    go_ret
    exact ⟨rfl, (by repeat (first | exact Below.refl _ _ | (refine Below.alloc ?_ (by first | omega | (simp; omega) | simp) _) | (refine Below.setCell ?_ (by first | omega | (simp; omega) | simp) _) | refine Below.drew ?_))⟩
  · have j1 : ¬ (40 : Int) < (sl : Int) := by omega
    have j2 : (40 : Int) < (pl : Int) := by omega
    clear k1 k2 k3 hcc
    go_enter Try.func17, Try.ntmps17
    go_wp2_with fail
    go_ret
    exact ⟨rfl, (by repeat (first | exact Below.refl _ _ | (refine Below.alloc ?_ (by first | omega | (simp; omega) | simp) _) | (refine Below.setCell ?_ (by first | omega | (simp; omega) | simp) _) | refine Below.drew ?_))⟩
  · have j1 : ¬ (40 : Int) < (sl : Int) := by omega
    have j2 : ¬ (40 : Int) < (pl : Int) := by omega
    have j3 : (40 : Int) < (cl : Int) := by omega
    clear k1 k2 k3 hcc
    go_enter Try.func17, Try.ntmps17
    go_wp2_with fail
    go_ret
    exact ⟨rfl, (by repeat (first | exact Below.refl _ _ | (refine Below.alloc ?_ (by first | omega | (simp; omega) | simp) _) | (refine Below.setCell ?_ (by first | omega | (simp; omega) | simp) _) | refine Below.drew ?_))⟩
  · have j1 : ¬ (40 : Int) < (sl : Int) := by omega
    have j2 : ¬ (40 : Int) < (pl : Int) := by omega
    have j3 : ¬ (40 : Int) < (cl : Int) := by omega
    have HCL := Lib.hid k3
    have HCC := Lib.hid hcc
    have HB := Lib.hid hb
    have HNO := Lib.hid (fun (k : Nat) (hk : k < f.cols.length) (h : 40 < f.cols[k].length) => show b = true from by
      rw [hb]; exact List.any_eq_true.2 ⟨_, List.getElem_mem hk, by simpa using h⟩)
    have HYE := Lib.hid (fun (h : ∀ k (hk : k < f.cols.length), f.cols[k].length ≤ 40) => show b = false from by
      rw [hb]; refine List.any_eq_false.2 fun c hc => ?_
      obtain ⟨k, hk, rfl⟩ := List.mem_iff_getElem.1 hc
      have := h k hk
      simp; omega)
    clear k1 k2 k3 hcc hb
    go_enter Try.func17, Try.ntmps17
    go_wp2_with fail
    obtain ⟨W0, hW0, hB0, hs0, hz0⟩ := name1k w #[.int .i64 f.len, .int .i64 f.slack, .slice sa sl sc, .slice pa pl pc, .slice ca cl cc] 26
    rw [hW0]
    clear hW0
    have HB0 := Lib.hid hB0
    have x2 : W0.cell? ⟨w.heap.size, 2, none⟩ = some (.slice sa sl sc) := hs0 2
    have x3 : W0.cell? ⟨w.heap.size, 3, none⟩ = some (.slice pa pl pc) := hs0 3
    have x4 : W0.cell? ⟨w.heap.size, 4, none⟩ = some (.slice ca cl cc) := hs0 4
    clear hB0 hs0
    go_wp2_with fail
    go_loopw [3] (fun v3 wr => ∃ k : Nat, k ≤ cl ∧ v3 = .int .i64 k ∧ Hid (∀ i (hi : i < f.cols.length), i < k → f.cols[i].length ≤ 40) ∧ W0 = wr) (fun v3 _ => cl - (intOf v3).toNat)
    case atStart => exact ⟨0, by omega, rfl, Lib.hid (fun i hi h => by omega), rfl⟩
    case round =>
      obtain ⟨k, hk, rfl, HA, rfl⟩ := hrel
      by_cases hlt : k < cl
      · have hci2 : k < f.cols.length := by rw [HCL.out]; exact hlt
        obtain ⟨cb, co, rfl, hcB, hccell⟩ := HCC.out (by omega)
        obtain ⟨ra, rl, rc, hcell, -, hri⟩ := hccell k hci2
        have c0 := (HB0.out.cell (p := ⟨cb, co + k, none⟩) hcB).trans hcell
        have hkl : (k : Int) < (cl : Int) := by omega
        have hk0 : (0 : Int) ≤ (k : Int) := by omega
        obtain ⟨hrl, hrm, -⟩ := hri
        unfold maxLen at hrm
        have HRL := Lib.hid hrl
        clear hccell hcell hrl
        by_cases hbig : 40 < rl
        · have HR := Lib.hid (HNO.out k hci2 (by rw [HRL.out]; exact hbig))
          have jb : (40 : Int) < (rl : Int) := by omega
          go_wp2_with fail
          go_ret
          exact ⟨ret_bool HR.out.symm, HB0.out⟩
        · have HA2 := Lib.hid (show ∀ i (hi : i < f.cols.length), i < k + 1 → f.cols[i].length ≤ 40 from fun i hi h => by
            by_cases e : i = k
            · subst e; rw [HRL.out]; omega
            · exact HA.out i hi (by omega))
          have jb : ¬ (40 : Int) < (rl : Int) := by omega
          clear HA
          go_wp2_with fail
          go_roundw
          case rel => exact ⟨k + 1, by omega, by go_num, HA2, trivial⟩
          case measure => simp [intOf]; omega
      · obtain rfl : cl = k := by omega
        have HR := Lib.hid (HYE.out (fun i hi => HA.out i hi (by have := HCL.out; omega)))
        go_wp2_with fail
        go_ret
        exact ⟨ret_bool HR.out.symm, HB0.out⟩
end Go.Proofs.Ytcklhojeneejiaa

/- The laws' Far and ready. -/
namespace Go.Proofs.Ytcklhojeneejiaa
set_option linter.unusedVariables false
set_option linter.unusedSimpArgs false
open Go.RowKit

def PFrame.prods (f : PFrame) : Nat → Int
  | 0 => 1
  | k + 1 => f.prods k * ((f.strips[k]?.map (·.m)).getD 0 + 1)
theorem prods_next {f : PFrame} {k : Nat} (h : k < f.strips.length) : f.prods (k + 1) = f.prods k * (f.strips[k].m + 1) := by
  rw [PFrame.prods, List.getElem?_eq_getElem h]; rfl
theorem strip_m {f : PFrame} (ho : f.ok = true) (k : Nat) (h : k < f.strips.length) : 0 ≤ f.strips[k].m ∧ f.strips[k].m ≤ 4 := by
  unfold PFrame.ok at ho
  simp only [Bool.and_eq_true] at ho
  have := List.all_eq_true.1 ho.1.1.2 _ (List.getElem_mem h)
  unfold stripB btw at this
  simp at this; omega
theorem prods_bd {f : PFrame} (ho : f.ok = true) : ∀ k, k ≤ f.strips.length → 1 ≤ f.prods k ∧ f.prods k ≤ 5 ^ k
  | 0, _ => by simp [PFrame.prods]
  | k + 1, h => by
    obtain ⟨h1, h2⟩ := prods_bd ho k (by omega)
    obtain ⟨h3, h4⟩ := strip_m ho k (by omega)
    rw [prods_next (by omega)]
    generalize f.prods k = a at *
    generalize f.strips[k].m = b at *
    refine ⟨?_, ?_⟩
    · have := Int.mul_le_mul h1 (show (1 : Int) ≤ b + 1 by omega) (by omega) (by omega); omega
    · rw [Int.pow_succ]
      exact Int.mul_le_mul h2 (by omega) (by omega) (by omega)
theorem ok_few {f : PFrame} (ho : f.ok = true) : f.strips.length ≤ 3 := by
  unfold PFrame.ok PFrame.few at ho
  simp at ho; omega
theorem prods_125 {f : PFrame} (ho : f.ok = true) (k : Nat) (h : k ≤ f.strips.length) : 1 ≤ f.prods k ∧ f.prods k ≤ 125 := by
  obtain ⟨h1, h2⟩ := prods_bd ho k h
  have h3 := ok_few ho
  have : k = 0 ∨ k = 1 ∨ k = 2 ∨ k = 3 := by omega
  rcases this with rfl | rfl | rfl | rfl <;> (simp at h2; omega)
def PFrame.far (f : PFrame) : Bool := f.huge || (f.ok && decide (30 < f.prods f.strips.length))
set_option maxRecDepth 100000 in
set_option maxHeartbeats 4000000 in
theorem Far_is (f : PFrame) (sa : Option Addr) (sl sc : Nat) (pa : Option Addr) (pl pc : Nat) (ca : Option Addr) (cl cc : Nat) (b : Bool) (h : f.far = b) (w : World) (hp : PAt w sa sl sc pa pl pc ca cl cc f) :
    Calls Try.prog 30 #[.agg #[.int .i64 f.len, .int .i64 f.slack, .slice sa sl sc, .slice pa pl pc, .slice ca cl cc]] w fun e w' => e = .returned (.bool b) ∧ Below w.heap.size w w' := by
  have HP := Lib.hid (fun W (hb : Below w.heap.size w W) => hp.below hb)
  have HH := Lib.hid (fun hb (hh : f.huge = hb) W (h : Below w.heap.size w W) => Huge_is f sa sl sc pa pl pc ca cl cc hb hh W (HP.out W h))
  obtain ⟨hsl, hsm, hsc⟩ := hp.1
  clear hp
  unfold PFrame.far at h
  rcases hu : f.huge with - | -
  · have HH1 := Lib.hid (HH.out _ hu)
    have hcols := huge_cols hu
    rw [hu] at h
    rcases ho : f.ok with - | -
    · have HB := Lib.hid (show b = false by rw [← h, ho]; rfl)
      have HC := Lib.hid (fun W (h : Below w.heap.size w W) => refCheck_is f sa sl sc pa pl pc ca cl cc 30 (by unfold PFrame.chk; rw [ho]; rfl) hcols W (HP.out W h))
      clear h hu HH HP hcols ho hsl hsm hsc
      go_enter Try.func30, Try.ntmps30
      go_wp2_with fail
      refine (HH1.out _ (by repeat (first | exact Below.refl _ _ | (refine Below.alloc ?_ (by first | omega | (simp; omega) | simp) _) | (refine Below.setCell ?_ (by first | omega | (simp; omega) | simp) _) | refine Below.drew ?_))).mono ?_
      rintro e w1 ⟨rfl, hb1⟩
      have hb1' : Below w.heap.size w w1 := below_via (Lib.hid hb1) (by simp) (by repeat (first | exact Below.refl _ _ | (refine Below.alloc ?_ (by first | omega | (simp; omega) | simp) _) | (refine Below.setCell ?_ (by first | omega | (simp; omega) | simp) _) | refine Below.drew ?_))
      have x0 : w1.cell? ⟨w.heap.size, 0, none⟩ = some (.int .i64 f.len) ∧ w1.cell? ⟨w.heap.size, 1, none⟩ = some (.int .i64 f.slack) ∧ w1.cell? ⟨w.heap.size, 2, none⟩ = some (.slice sa sl sc) ∧ w1.cell? ⟨w.heap.size, 3, none⟩ = some (.slice pa pl pc) ∧ w1.cell? ⟨w.heap.size, 4, none⟩ = some (.slice ca cl cc) := ⟨(hb1.cell (p := ⟨w.heap.size, 0, none⟩) (by simp)).trans (by go_simp), (hb1.cell (p := ⟨w.heap.size, 1, none⟩) (by simp)).trans (by go_simp), (hb1.cell (p := ⟨w.heap.size, 2, none⟩) (by simp)).trans (by go_simp), (hb1.cell (p := ⟨w.heap.size, 3, none⟩) (by simp)).trans (by go_simp), (hb1.cell (p := ⟨w.heap.size, 4, none⟩) (by simp)).trans (by go_simp)⟩
      obtain ⟨x0, x1, x2, x3, x4⟩ := x0
      have HB1 := Lib.hid hb1'
      clear hb1 hb1'
      go_wp2_with fail
      refine (HC.out _ (by have := HB1.out; first | exact this | exact this.drew)).mono ?_
      rintro e w2 ⟨rfl, hb2⟩
      have HB2 := Lib.hid (HB1.out.trans (hb2.mono HB1.out.size))
      clear hb2
      go_wp2_with fail
      go_ret
      exact ⟨ret_bool HB.out.symm, HB2.out⟩
    · have HB := Lib.hid (show b = decide (30 < f.prods f.strips.length) by rw [← h, ho]; simp)
      have HC := Lib.hid (fun W (h : Below w.heap.size w W) => refCheck_is f sa sl sc pa pl pc ca cl cc 0 (by unfold PFrame.chk; rw [ho]; rfl) hcols W (HP.out W h))
      have HBD := Lib.hid (fun k (h : k ≤ f.strips.length) => prods_125 ho k h)
      have HSM := Lib.hid (fun k (h : k < f.strips.length) => strip_m ho k h)
      have HSL := Lib.hid hsl
      have HSC := Lib.hid hsc
      have HNX := Lib.hid (fun k (h : k < f.strips.length) => prods_next (f := f) h)
      have h3 : sl ≤ 3 := by have := ok_few ho; omega
      clear h hu HH HP hcols ho hsl hsm hsc
      go_enter Try.func30, Try.ntmps30
      go_wp2_with fail
      refine (HH1.out _ (by repeat (first | exact Below.refl _ _ | (refine Below.alloc ?_ (by first | omega | (simp; omega) | simp) _) | (refine Below.setCell ?_ (by first | omega | (simp; omega) | simp) _) | refine Below.drew ?_))).mono ?_
      rintro e w1 ⟨rfl, hb1⟩
      have hb1' : Below w.heap.size w w1 := below_via (Lib.hid hb1) (by simp) (by repeat (first | exact Below.refl _ _ | (refine Below.alloc ?_ (by first | omega | (simp; omega) | simp) _) | (refine Below.setCell ?_ (by first | omega | (simp; omega) | simp) _) | refine Below.drew ?_))
      have x0 : w1.cell? ⟨w.heap.size, 0, none⟩ = some (.int .i64 f.len) ∧ w1.cell? ⟨w.heap.size, 1, none⟩ = some (.int .i64 f.slack) ∧ w1.cell? ⟨w.heap.size, 2, none⟩ = some (.slice sa sl sc) ∧ w1.cell? ⟨w.heap.size, 3, none⟩ = some (.slice pa pl pc) ∧ w1.cell? ⟨w.heap.size, 4, none⟩ = some (.slice ca cl cc) := ⟨(hb1.cell (p := ⟨w.heap.size, 0, none⟩) (by simp)).trans (by go_simp), (hb1.cell (p := ⟨w.heap.size, 1, none⟩) (by simp)).trans (by go_simp), (hb1.cell (p := ⟨w.heap.size, 2, none⟩) (by simp)).trans (by go_simp), (hb1.cell (p := ⟨w.heap.size, 3, none⟩) (by simp)).trans (by go_simp), (hb1.cell (p := ⟨w.heap.size, 4, none⟩) (by simp)).trans (by go_simp)⟩
      obtain ⟨x0, x1, x2, x3, x4⟩ := x0
      have z1 : w.heap.size < w1.heap.size := by have := hb1.size; simp at this; omega
      have HB1 := Lib.hid hb1'
      clear hb1 hb1'
      go_wp2_with fail
      refine (HC.out _ (by have := HB1.out; first | exact this | exact this.drew)).mono ?_
      rintro e w2 ⟨rfl, hb2⟩
      have y2 : w2.cell? ⟨w.heap.size, 2, none⟩ = some (.slice sa sl sc) := (hb2.cell (p := ⟨w.heap.size, 2, none⟩) (by first | omega | (simp; omega))).trans (by go_simp)
      have HB2 := Lib.hid (HB1.out.trans (hb2.mono HB1.out.size))
      clear hb2 x0 x1 x2 x3 x4 HB1
      go_wp2_with fail
      go_loopw [3, 4] (fun v3 v4 wr => ∃ k : Nat, k ≤ sl ∧ v4 = .int .i64 k ∧ v3 = .int .i64 (f.prods k) ∧ Below w2.heap.size w2 wr) (fun _ v4 _ => sl - (intOf v4).toNat)
      case atStart => exact ⟨0, by omega, rfl, rfl, (by repeat (first | exact Below.refl _ _ | (refine Below.alloc ?_ (by first | omega | (simp; omega) | simp) _) | (refine Below.setCell ?_ (by first | omega | (simp; omega) | simp) _) | refine Below.drew ?_))⟩
      case round =>
        obtain ⟨k, hk, rfl, rfl, hbr⟩ := hrel
        have y2q := (hbr.cell (p := ⟨w.heap.size, 2, none⟩) (World.block_lt_of_cell? _ _ y2)).trans y2
        by_cases hlt : k < sl
        · have hk2 : k < f.strips.length := by rw [HSL.out]; exact hlt
          obtain ⟨sb, so, rfl, hsB, hscell⟩ := HSC.out (by omega)
          have c1 := (hbr.cell (p := ⟨sb, so + k * 2 + 1, none⟩) (Nat.lt_of_lt_of_le hsB HB2.out.size)).trans ((HB2.out.cell (p := ⟨sb, so + k * 2 + 1, none⟩) hsB).trans (hscell k hk2).2)
          have HN := Lib.hid (HNX.out k hk2)
          have hbd := HBD.out k (by omega)
          have hbd2 := HBD.out (k + 1) (by omega)
          rw [HN.out] at hbd2
          have hm := HSM.out k hk2
          have hkl : (k : Int) < (sl : Int) := by omega
          have hk0 : (0 : Int) ≤ (k : Int) := by omega
          have HBR := Lib.hid hbr
          clear hscell hbr
          generalize f.prods k = p at *
          generalize f.strips[k].m = x at *
          go_wp2_with fail
          go_roundw
          case rel => exact ⟨k + 1, by omega, by go_num, by rw [HN.out], HBR.out⟩
          case measure => simp [intOf]; omega
        · obtain rfl : sl = k := by omega
          have HR := Lib.hid (show b = decide (30 < f.prods sl) by rw [HB.out, HSL.out])
          have HBW := Lib.hid (HB2.out.trans (hbr.mono HB2.out.size))
          clear hbr
          generalize f.prods sl = p at *
          by_cases hp : 30 < p
          · have HR2 := Lib.hid (show b = true by rw [HR.out]; simpa using hp)
            go_wp2_with fail
            go_ret
            exact ⟨ret_bool HR2.out.symm, HBW.out⟩
          · have HR2 := Lib.hid (show b = false by rw [HR.out]; simpa using hp)
            go_wp2_with fail
            go_ret
            exact ⟨ret_bool HR2.out.symm, HBW.out⟩
  · have HB := Lib.hid (show b = true by rw [← h, hu]; rfl)
    have HH1 := Lib.hid (HH.out _ hu)
    clear h hu HH HP hsl hsm hsc
    go_enter Try.func30, Try.ntmps30
    go_wp2_with fail
    refine (HH1.out _ (by repeat (first | exact Below.refl _ _ | (refine Below.alloc ?_ (by first | omega | (simp; omega) | simp) _) | (refine Below.setCell ?_ (by first | omega | (simp; omega) | simp) _) | refine Below.drew ?_))).mono ?_
    rintro e w1 ⟨rfl, hb1⟩
    have hb1' : Below w.heap.size w w1 := below_via (Lib.hid hb1) (by simp) (by repeat (first | exact Below.refl _ _ | (refine Below.alloc ?_ (by first | omega | (simp; omega) | simp) _) | (refine Below.setCell ?_ (by first | omega | (simp; omega) | simp) _) | refine Below.drew ?_))
    have HB1 := Lib.hid hb1'
    clear hb1 hb1'
    go_wp2_with fail
    go_ret
    exact ⟨ret_bool HB.out.symm, HB1.out⟩
def PFrame.ready (f : PFrame) : Bool := !f.far && f.ok
theorem Huge_of_far {f : PFrame} (h : f.far = false) : f.huge = false := by
  unfold PFrame.far at h; simp only [Bool.or_eq_false_iff] at h; exact h.1
set_option maxRecDepth 100000 in
set_option maxHeartbeats 4000000 in
theorem ready_is (f : PFrame) (sa : Option Addr) (sl sc : Nat) (pa : Option Addr) (pl pc : Nat) (ca : Option Addr) (cl cc : Nat) (b : Bool) (h : f.ready = b) (w : World) (hp : PAt w sa sl sc pa pl pc ca cl cc f) :
    Calls Try.prog 48 #[.agg #[.int .i64 f.len, .int .i64 f.slack, .slice sa sl sc, .slice pa pl pc, .slice ca cl cc]] w fun e w' => e = .returned (.bool b) ∧ Below w.heap.size w w' := by
  have HP := Lib.hid (fun W (hb : Below w.heap.size w W) => hp.below hb)
  have HF := Lib.hid (fun hb (hh : f.far = hb) W (h : Below w.heap.size w W) => Far_is f sa sl sc pa pl pc ca cl cc hb hh W (HP.out W h))
  clear hp
  unfold PFrame.ready at h
  rcases hu : f.far with - | -
  · have HF1 := Lib.hid (HF.out _ hu)
    have HC := Lib.hid (fun c (h : f.chk = c) W (hb : Below w.heap.size w W) => refCheck_is f sa sl sc pa pl pc ca cl cc c h (huge_cols (Huge_of_far hu)) W (HP.out W hb))
    rw [hu] at h
    have hk : ∃ c : Int, f.chk = c ∧ (c = 0 ∧ b = true ∨ c = 30 ∧ b = false) := by
      refine ⟨_, rfl, ?_⟩
      unfold PFrame.chk
      rw [← h]
      rcases f.ok with - | - <;> simp
    clear h hu HF HP
    obtain ⟨c, hc, hk⟩ := hk
    have HC1 := Lib.hid (HC.out c hc)
    clear HC hc
    rcases hk with ⟨rfl, rfl⟩ | ⟨rfl, rfl⟩
    all_goals (
      go_enter Try.func48, Try.ntmps48
      go_wp2_with fail
      refine (HF1.out _ (by repeat (first | exact Below.refl _ _ | (refine Below.alloc ?_ (by first | omega | (simp; omega) | simp) _) | (refine Below.setCell ?_ (by first | omega | (simp; omega) | simp) _) | refine Below.drew ?_))).mono ?_
      rintro e w1 ⟨rfl, hb1⟩
      have hb1' : Below w.heap.size w w1 := below_via (Lib.hid hb1) (by simp) (by repeat (first | exact Below.refl _ _ | (refine Below.alloc ?_ (by first | omega | (simp; omega) | simp) _) | (refine Below.setCell ?_ (by first | omega | (simp; omega) | simp) _) | refine Below.drew ?_))
      have x0 : w1.cell? ⟨w.heap.size, 0, none⟩ = some (.int .i64 f.len) ∧ w1.cell? ⟨w.heap.size, 1, none⟩ = some (.int .i64 f.slack) ∧ w1.cell? ⟨w.heap.size, 2, none⟩ = some (.slice sa sl sc) ∧ w1.cell? ⟨w.heap.size, 3, none⟩ = some (.slice pa pl pc) ∧ w1.cell? ⟨w.heap.size, 4, none⟩ = some (.slice ca cl cc) := ⟨(hb1.cell (p := ⟨w.heap.size, 0, none⟩) (by simp)).trans (by go_simp), (hb1.cell (p := ⟨w.heap.size, 1, none⟩) (by simp)).trans (by go_simp), (hb1.cell (p := ⟨w.heap.size, 2, none⟩) (by simp)).trans (by go_simp), (hb1.cell (p := ⟨w.heap.size, 3, none⟩) (by simp)).trans (by go_simp), (hb1.cell (p := ⟨w.heap.size, 4, none⟩) (by simp)).trans (by go_simp)⟩
      obtain ⟨x0, x1, x2, x3, x4⟩ := x0
      have HB1 := Lib.hid hb1'
      clear hb1 hb1'
      go_wp2_with fail
      refine (HC1.out _ (by have := HB1.out; first | exact this | exact this.drew)).mono ?_
      rintro e w2 ⟨rfl, hb2⟩
      have HB2 := Lib.hid (HB1.out.trans (hb2.mono HB1.out.size))
      clear hb2
      go_wp2_with fail
      go_ret
      exact ⟨rfl, HB2.out⟩)
  · have HF1 := Lib.hid (HF.out _ hu)
    have HB := Lib.hid (show b = false by rw [← h, hu]; rfl)
    clear h hu HF HP
    go_enter Try.func48, Try.ntmps48
    go_wp2_with fail
    refine (HF1.out _ (by repeat (first | exact Below.refl _ _ | (refine Below.alloc ?_ (by first | omega | (simp; omega) | simp) _) | (refine Below.setCell ?_ (by first | omega | (simp; omega) | simp) _) | refine Below.drew ?_))).mono ?_
    rintro e w1 ⟨rfl, hb1⟩
    have hb1' : Below w.heap.size w w1 := below_via (Lib.hid hb1) (by simp) (by repeat (first | exact Below.refl _ _ | (refine Below.alloc ?_ (by first | omega | (simp; omega) | simp) _) | (refine Below.setCell ?_ (by first | omega | (simp; omega) | simp) _) | refine Below.drew ?_))
    have HB1 := Lib.hid hb1'
    clear hb1 hb1'
    go_wp2_with fail
    go_ret
    exact ⟨ret_bool HB.out.symm, HB1.out⟩
end Go.Proofs.Ytcklhojeneejiaa
