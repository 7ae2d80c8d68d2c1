/- Package flongs: New. -/
import Derived.Test.YtigeiaiohdemiaaFH
namespace Go.Proofs.Ytigeiaiohdemiaa
set_option linter.unusedVariables false
set_option linter.unusedSimpArgs false
open Go.RowKit

/-- New moulds for a page. -/
def newFor (s : FShop) (want : Int) (p : Nat) : Int := (max 0 (want - sumOf s.moulds (loOf s.left) p) + s.fresh - 1) / s.fresh
def newTo (s : FShop) (k : Nat) : Int := (s.wants.zipIdx.take k).foldl (fun a q => a + newFor s q.1 q.2) 0
def FShop.newAll (s : FShop) : Int := newTo s s.wants.length
theorem newTo_next {s : FShop} {k : Nat} (h : k < s.wants.length) : newTo s (k + 1) = newTo s k + newFor s s.wants[k] k := by
  unfold newTo
  rw [List.take_succ_eq_append_getElem (by simpa using h), List.foldl_append, List.getElem_zipIdx, Nat.zero_add]; rfl
theorem FShop.ok_fresh {s : FShop} (h : s.ok = true) : 1 ≤ s.fresh ∧ s.fresh ≤ 12 := by
  simp only [FShop.ok, Bool.and_eq_true] at h
  simpa [btw] using h.2
theorem ceil_bd {n f : Int} (hn : 0 ≤ n ∧ n ≤ 12) (hf : 1 ≤ f ∧ f ≤ 12) : 0 ≤ (n + f - 1) / f ∧ (n + f - 1) / f ≤ 12 := by
  refine ⟨Int.ediv_nonneg (by omega) (by omega), ?_⟩
  have h1 : (n + f - 1) / f < 12 + 1 := Int.ediv_lt_of_lt_mul (by omega) (by
    have : (12 + 1) * f = 12 * f + f := by rw [Int.add_mul]; omega
    have : 12 * 1 ≤ 12 * f := Int.mul_le_mul_of_nonneg_left hf.1 (by omega)
    omega)
  omega
theorem sure_bd {s : FShop} (ho : s.ok = true) (p : Int) : 0 ≤ sumOf s.moulds (loOf s.left) p ∧ sumOf s.moulds (loOf s.left) p ≤ 60 := by
  have h := sumTo_bd (ms := s.moulds) (c := loOf s.left) (lo_bd ho) p s.moulds.length (Nat.le_refl _)
  have := (FShop.ok_few ho).2.1
  unfold sumOf
  omega
theorem newTo_bd {s : FShop} (ho : s.ok = true) : ∀ k, k ≤ s.wants.length → 0 ≤ newTo s k ∧ newTo s k ≤ 12 * k
  | 0, _ => by simp [newTo]
  | k + 1, h => by
    have h1 := newTo_bd ho k (by omega)
    have h2 := FShop.ok_want ho k (by omega)
    have h3 := sure_bd ho k
    have h4 : 0 ≤ newFor s s.wants[k] k ∧ newFor s s.wants[k] k ≤ 12 := ceil_bd (by omega) (FShop.ok_fresh ho)
    rw [newTo_next (by omega)]
    omega

set_option maxRecDepth 100000 in
set_option maxHeartbeats 4000000 in
theorem New_no (s : FShop) (ma : Option Addr) (ml mc : Nat) (wa : Option Addr) (wl wc : Nat) (na : Option Addr) (nl nc : Nat) (v : Int) (hv : s.ask true = v) (h0 : v ≠ 0) (w : World) (hp : FAt w ma ml mc wa wl wc na nl nc s) :
    Calls Try.prog 49 #[.agg #[.slice ma ml mc, .slice wa wl wc, .slice na nl nc, .int .i64 s.fresh]] w fun e w' => e = .returned (.tuple #[.int .i64 0, .int .i64 v]) ∧ Below w.heap.size w w' := by
  have HA := Lib.hid (fun W (hb : Below w.heap.size w W) => asked_no s ma ml mc wa wl wc na nl nc _ v hv h0 W (hp.below hb))
  have e1 : (v == 0) = false := by simpa using h0
  have e2 : (v != 0) = true := by simpa using h0
  clear hp hv
  go_enter Try.func49, Try.ntmps49
  go_wp2_with fail
  refine (HA.out _ (by repeat (first | exact Below.refl _ _ | (refine Below.alloc ?_ (by first | omega | (simp; omega) | simp) _) | (refine Below.setCell ?_ (by first | omega | (simp; omega) | simp) _) | refine Below.drew ?_))).mono ?_
  rintro e w1 ⟨rfl, hb1⟩
  have HB := Lib.hid hb1
  clear hb1
  go_wp2_with fail
  go_ret2
  exact ⟨rfl, (by repeat (first | exact Below.refl _ _ | (refine Below.alloc ?_ (by first | omega | (simp; omega) | simp) _) | (refine Below.setCell ?_ (by first | omega | (simp; omega) | simp) _) | refine Below.drew ?_ | (refine below_via (by assumption) (by first | omega | (simp; omega) | simp) ?_)))⟩

set_option maxRecDepth 100000 in
set_option maxHeartbeats 4000000 in
theorem New_yes (s : FShop) (ma : Option Addr) (ml mc : Nat) (wa : Option Addr) (wl wc : Nat) (na : Option Addr) (nl nc : Nat) (w : World) (hp : FAt w ma ml mc wa wl wc na nl nc s) (ho : s.ok = true) (hl0 : 0 < s.left.length) :
    Calls Try.prog 49 #[.agg #[.slice ma ml mc, .slice wa wl wc, .slice na nl nc, .int .i64 s.fresh]] w fun e w' => e = .returned (.tuple #[.int .i64 s.newAll, .int .i64 0]) ∧ Below w.heap.size w w' := by
  have hm5 : ml ≤ 5 := by have := (FShop.ok_few ho).2.1; have := hp.1.1; omega
  have HA := Lib.hid (fun W (hb : Below w.heap.size w W) => asked_read s ma ml mc wa wl wc na nl nc W (hp.below hb) ho hl0)
  have HCO := Lib.hid (fun W (n : Nat) (hb : Below w.heap.size w W) => castsOf_any s ma ml mc wa wl wc na nl nc n (loOf s.left) (lo_bd ho) W (hp.below hb).1 hm5)
  have HWT := Lib.hid (fun k hk => FShop.ok_want ho k hk)
  have HSB := Lib.hid (fun (p : Nat) => sure_bd ho (p : Int))
  have HNB := Lib.hid (fun k hk => newTo_bd ho k hk)
  obtain ⟨hf1, hf2⟩ := FShop.ok_fresh ho
  obtain ⟨-, -, hnl, hnm, hnc⟩ := hp
  have hn3 : nl ≤ 3 := by have := (FShop.ok_few ho).1; omega
  have HNL := Lib.hid hnl
  have HNC := Lib.hid hnc
  clear hnl hnc hnm ho
  go_enter Try.func49, Try.ntmps49
  go_wp2_with fail
  refine (HA.out _ (by repeat (first | exact Below.refl _ _ | (refine Below.alloc ?_ (by first | omega | (simp; omega) | simp) _) | (refine Below.setCell ?_ (by first | omega | (simp; omega) | simp) _) | refine Below.drew ?_))).mono ?_
  rintro e w1 ⟨⟨la, lc, rfl, hC1⟩, hb1⟩
  obtain ⟨hc1, hf1'⟩ := bcell hb1
  have hz1 := hb1.size
  simp at hz1
  have hw1 := ((by repeat (first | exact Below.refl _ _ | (refine Below.alloc ?_ (by first | omega | (simp; omega) | simp) _) | (refine Below.setCell ?_ (by first | omega | (simp; omega) | simp) _) | refine Below.drew ?_)) : Below w.heap.size w _).trans (hb1.mono (by first | (simp; done) | (simp; omega) | omega))
  have q1 : w.heap.size < w1.heap.size := by omega
  have q2 : w.heap.size + 1 < w1.heap.size := by omega
  have HS := Lib.hid (surely_is s.left la s.left.length lc w1 hC1 hl0)
  clear hb1 hC1
  go_wp2_with fail
  refine HS.out.mono ?_
  rintro e w2 ⟨rfl, hb2⟩
  have hz2 := hb2.size
  have hS : ∀ i, w2.cell? ⟨w.heap.size, i, none⟩ = (#[.slice ma ml mc, .slice wa wl wc, .slice na nl nc, .int .i64 s.fresh] : Array Value)[i]? := fun i => (hb2.cell (p := ⟨w.heap.size, i, none⟩) q1).trans ((hc1 _ _ (by simp; omega)).trans (by go_simp))
  have hT : ∀ i, w2.cell? ⟨w.heap.size + 1, i, none⟩ = (#[.slice ma ml mc, .slice wa wl wc, .slice na nl nc, .int .i64 s.fresh] : Array Value)[i]? := fun i => (hb2.cell (p := ⟨w.heap.size + 1, i, none⟩) q2).trans ((hc1 _ _ (by simp)).trans (by go_simp))
  have hw2 := hw1.trans (hb2.mono hw1.size)
  have HW2 := Lib.hid hw2
  have HSS := Lib.hid hS
  have HTT := Lib.hid hT
  obtain ⟨x0, x1, x2, x3⟩ : w2.cell? ⟨w.heap.size, 0, none⟩ = some (.slice ma ml mc) ∧ w2.cell? ⟨w.heap.size, 1, none⟩ = some (.slice wa wl wc) ∧ w2.cell? ⟨w.heap.size, 2, none⟩ = some (.slice na nl nc) ∧ w2.cell? ⟨w.heap.size, 3, none⟩ = some (.int .i64 s.fresh) := ⟨hS 0, hS 1, hS 2, hS 3⟩
  have s1 : w.heap.size < w2.heap.size := by omega
  have s2 : w.heap.size + 1 < w2.heap.size := by omega
  clear hb2 hw2 hS hT hc1 hf1' hw1 hz1 q1 q2 hz2
  go_wp2_with fail
  obtain ⟨W3, hW3, hB3, hg3, hz3⟩ := name1k w2 #[.int .i64 (loOf s.left 0), .int .i64 (loOf s.left 1), .int .i64 (loOf s.left 2), .int .i64 (loOf s.left 3), .int .i64 (loOf s.left 4)] 85
  rw [hW3]
  clear hW3
  obtain ⟨g, hg⟩ : ∃ g, g = w2.heap.size := ⟨_, rfl⟩
  rw [← hg]
  rw [← hg] at hg3 hz3
  have hB3' : Below g w2 W3 := by rw [hg]; exact hB3
  have HB3 := Lib.hid hB3'
  have HG3 := Lib.hid hg3
  have HBW := Lib.hid (HW2.out.trans (hB3.mono HW2.out.size))
  have s1' : w.heap.size < g := by omega
  have s2' : w.heap.size + 1 < g := by omega
  clear hB3 hB3' hg3 hg x0 x1 x2 x3 s1 s2
  go_loopw [8, 27] (fun v i wr => ∃ k : Nat, k ≤ nl ∧ i = .int .i64 k ∧ v = .int .i64 (newTo s k) ∧ Below W3.heap.size W3 wr) (fun _ i _ => nl - (intOf i).toNat)
  case atStart => exact ⟨0, by omega, rfl, rfl, Below.refl _ _⟩
  case round =>
    obtain ⟨k, hk, rfl, rfl, hB⟩ := hrel
    have HB := Lib.hid hB
    by_cases hlt : k < nl
    · have hk2 : k < s.wants.length := by rw [HNL.out]; exact hlt
      obtain ⟨b, o, rfl, hbB, hcell⟩ := HNC.out (by omega)
      have hBw := HBW.out.trans (hB.mono HBW.out.size)
      have hcx := (hBw.cell (p := ⟨b, o + k, none⟩) hbB).trans (hcell k hk2)
      have hs : ∀ {i v}, w2.cell? ⟨w.heap.size, i, none⟩ = some v → wr.cell? ⟨w.heap.size, i, none⟩ = some v := fun {i v} h => (hB.cell (p := ⟨w.heap.size, i, none⟩) (show w.heap.size < W3.heap.size by omega)).trans ((HB3.out.cell (p := ⟨w.heap.size, i, none⟩) s1').trans h)
      have ht : ∀ {i v}, w2.cell? ⟨w.heap.size + 1, i, none⟩ = some v → wr.cell? ⟨w.heap.size + 1, i, none⟩ = some v := fun {i v} h => (hB.cell (p := ⟨w.heap.size + 1, i, none⟩) (show w.heap.size + 1 < W3.heap.size by omega)).trans ((HB3.out.cell (p := ⟨w.heap.size + 1, i, none⟩) s2').trans h)
      have x3 := hs (HSS.out 3)
      obtain ⟨y0, y1, y2, y3⟩ : wr.cell? ⟨w.heap.size + 1, 0, none⟩ = some (.slice ma ml mc) ∧ wr.cell? ⟨w.heap.size + 1, 1, none⟩ = some (.slice wa wl wc) ∧ wr.cell? ⟨w.heap.size + 1, 2, none⟩ = some (.slice (some ⟨b, o, none⟩) nl nc) ∧ wr.cell? ⟨w.heap.size + 1, 3, none⟩ = some (.int .i64 s.fresh) := ⟨ht (HTT.out 0), ht (HTT.out 1), ht (HTT.out 2), ht (HTT.out 3)⟩
      have hgz : ∀ t, wr.cell? ⟨g, t, none⟩ = _ := fun t => (hB.cell (p := ⟨g, t, none⟩) hz3).trans (HG3.out t)
      have d0 : wr.cell? ⟨g, 0, none⟩ = some (.int .i64 (loOf s.left 0)) := hgz 0
      have d1 : wr.cell? ⟨g, 1, none⟩ = some (.int .i64 (loOf s.left 1)) := hgz 1
      have d2 : wr.cell? ⟨g, 2, none⟩ = some (.int .i64 (loOf s.left 2)) := hgz 2
      have d3 : wr.cell? ⟨g, 3, none⟩ = some (.int .i64 (loOf s.left 3)) := hgz 3
      have d4 : wr.cell? ⟨g, 4, none⟩ = some (.int .i64 (loOf s.left 4)) := hgz 4
      have hzr := hB.size
      have g1 : g < wr.heap.size := by omega
      have g2 : w.heap.size + 1 < wr.heap.size := by omega
      have hkl : (k : Int) < (nl : Int) := by omega
      have hk0 : (0 : Int) ≤ (k : Int) := by omega
      have HCS := Lib.hid (HCO.out wr k hBw)
      obtain ⟨e1, e2⟩ := HWT.out k hk2
      obtain ⟨e3, e4⟩ := HSB.out k
      obtain ⟨e5, e6⟩ := HNB.out k (by omega)
      have HN := Lib.hid (show newTo s (k + 1) = newTo s k + (max 0 (s.wants[k] - sumOf s.moulds (loOf s.left) k) + s.fresh - 1) / s.fresh from newTo_next hk2)
      clear hB hBw hcell hs ht hgz
      generalize hwt : s.wants[k] = wt at *
      generalize hsm : sumOf s.moulds (loOf s.left) k = sm at *
      generalize hnt : newTo s k = nt at *
      go_upto_region 9 with fail
      go_cut [11] (fun v11 wx => v11 = .int .i64 (max 0 (wt - sm)) ∧ Below wr.heap.size wr wx)
      case first =>
        go_wp2_with fail
        refine HCS.out.mono ?_
        rintro e w4 ⟨rfl, hb4⟩
        go_wp2_with fail
        all_goals (go_meet; exact ⟨by first | rfl | (congr 1; omega) | (simp; omega), hb4⟩)
      case rest =>
      obtain ⟨rfl, hB4⟩ := hcut
      obtain ⟨w4, rfl⟩ : ∃ w4 : World, w4 = wc := ⟨_, rfl⟩
      have x3' := (hB4.cell (p := ⟨w.heap.size, 3, none⟩) (show w.heap.size < wr.heap.size by omega)).trans x3
      have HB4 := Lib.hid (HB.out.trans (hB4.mono HB.out.size))
      obtain ⟨ms, hms⟩ : ∃ ms, max 0 (wt - sm) = ms := ⟨_, rfl⟩
      rw [hms] at HN
      rw [hms]
      have f1 : 0 ≤ ms := by omega
      have f2 : ms ≤ 12 := by omega
      obtain ⟨f3, f4⟩ := ceil_bd ⟨f1, f2⟩ ⟨hf1, hf2⟩
      have f5 : ¬ s.fresh = 0 := by omega
      clear hB4 x3 y0 y1 y2 y3 d0 d1 d2 d3 d4 hms hcx
      go_wp2_with fail
      go_roundw
      case rel => exact ⟨k + 1, by omega, by go_num, by rw [HN.out], HB4.out⟩
      case measure => simp [intOf]; omega
    · obtain rfl : nl = k := by omega
      have HR := Lib.hid (show s.newAll = newTo s nl by rw [FShop.newAll, HNL.out])
      go_wp2_with fail
      go_ret2
      exact ⟨by rw [HR.out]; rfl, HBW.out.trans (HB.out.mono HBW.out.size)⟩
end Go.Proofs.Ytigeiaiohdemiaa
