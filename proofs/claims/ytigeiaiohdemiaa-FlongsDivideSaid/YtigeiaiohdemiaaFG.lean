/- Package flongs: surely, hold, holding, castsOf, lowest. -/
import Derived.Test.YtigeiaiohdemiaaFF
namespace Go.Proofs.Ytigeiaiohdemiaa
set_option linter.unusedVariables false
set_option linter.unusedSimpArgs false
open Go.RowKit

/-- The five lows. -/
def loArr (L : List (Nat → Int)) : Array Value := #[.int .i64 (loOf L 0), .int .i64 (loOf L 1), .int .i64 (loOf L 2), .int .i64 (loOf L 3), .int .i64 (loOf L 4)]
@[local go_sem] theorem field_span (a b : Int) (w : World) : Sem.run Try.prog (Instr.field 39 (.agg #[.int .i64 a, .int .i64 b]) 0) w = .ok (.int .i64 a) w := by simp [Instr.field, asAgg, go_sem]
theorem five_set {wr : World} {g j : Nat} {v0 x : Int} (f : Nat → Int) (hc : wr.cell? ⟨g, j, none⟩ = some (.int .i64 v0)) (hx : x = f j)
    (h : ∀ t, t < 5 → wr.cell? ⟨g, t, none⟩ = some (.int .i64 (if t < j then f t else 0))) (t : Nat) (ht : t < 5) : (wr.setCell ⟨g, j, none⟩ (.int .i64 x)).cell? ⟨g, t, none⟩ = some (.int .i64 (if t < j + 1 then f t else 0)) := by
  by_cases e : t = j
  · subst e
    rw [set_same hc, hx, if_pos (by omega)]
  · rw [set_other (by intro h; injection h with _ h2; exact e h2.symm), h t ht]
    by_cases h1 : t < j
    · rw [if_pos h1, if_pos (by omega)]
    · rw [if_neg h1, if_neg (by omega)]
theorem name2 (w : World) (cs : Array Value) (T : TypeId) (ds : Array Value) (U : TypeId) :
    ∃ W0, (w.alloc (.cells cs T)).alloc (.cells ds U) = W0 ∧ Below w.heap.size w W0 ∧ (∀ i, W0.cell? ⟨w.heap.size, i, none⟩ = cs[i]?) ∧ (∀ i, W0.cell? ⟨w.heap.size + 1, i, none⟩ = ds[i]?) ∧
      (∀ i, W0.frozen? ⟨w.heap.size, i, none⟩ = false) ∧ (∀ i, W0.frozen? ⟨w.heap.size + 1, i, none⟩ = false) ∧ W0.heap.size = w.heap.size + 1 + 1 :=
  ⟨_, rfl, (by repeat (first | exact Below.refl _ _ | (refine Below.alloc ?_ (by first | omega | (simp; omega) | simp) _) | (refine Below.setCell ?_ (by first | omega | (simp; omega) | simp) _) | refine Below.drew ?_)), fun i => by go_simp, fun i => by go_simp, fun i => by go_simp, fun i => by go_simp, by simp⟩

theorem name2c (w : World) (cs : Array Value) (T : TypeId) (ds : Array Value) (U : TypeId) :
    ∃ W0, (w.alloc (.cells cs T)).alloc (.cells ds U) = W0 ∧ Below w.heap.size w W0 ∧ (∀ i, W0.cell? ⟨w.heap.size, i, none⟩ = cs[i]?) ∧ (∀ i, W0.cell? ⟨w.heap.size + 1, i, none⟩ = ds[i]?) ∧ W0.heap.size = w.heap.size + 1 + 1 :=
  ⟨_, rfl, (by repeat (first | exact Below.refl _ _ | (refine Below.alloc ?_ (by first | omega | (simp; omega) | simp) _) | (refine Below.setCell ?_ (by first | omega | (simp; omega) | simp) _) | refine Below.drew ?_)), fun i => by go_simp, fun i => by go_simp, by simp⟩

set_option maxRecDepth 100000 in
set_option maxHeartbeats 4000000 in
theorem surely_any (L : List (Nat → Int)) (xa : Option Addr) (xl xc : Nat) (w : World) (hx : CastsAt w xa xl L) (h0 : 0 < xl) :
    Calls Try.prog 75 #[.slice xa xl xc] w fun e w' => e = .returned (.agg (loArr L)) ∧ Below w.heap.size w w' := by
  have HSP := Lib.hid (fun W (hb : Below w.heap.size w W) m (hm : m < 5) => span_any L xa xl xc m hm W (hx.below hb) h0)
  clear hx
  go_enter Try.func75, Try.ntmps75
  go_wp2_with fail
  obtain ⟨W0, hW0, hB0, hr0, hg0, hrf, hgf, hz0⟩ := name2 w #[.int .i64 0, .int .i64 0, .int .i64 0, .int .i64 0, .int .i64 0] 85 #[.int .i64 0, .int .i64 0, .int .i64 0, .int .i64 0, .int .i64 0] 85
  rw [hW0]
  clear hW0
  obtain ⟨g, hg⟩ : ∃ g, g = w.heap.size + 1 := ⟨_, rfl⟩
  rw [← hg]
  rw [← hg] at hg0 hgf hz0
  have hgr : w.heap.size < g := by omega
  have hgz : g < W0.heap.size := by omega
  have HB0 := Lib.hid hB0
  have HR0 := Lib.hid hr0
  have HRF := Lib.hid hrf
  clear hB0 hr0 hrf hg hz0
  go_loopw [5] (fun i wr => ∃ k : Nat, k ≤ 5 ∧ i = .int .i64 k ∧ (∀ t, t < 5 → wr.cell? ⟨g, t, none⟩ = some (.int .i64 (if t < k then loOf L t else 0))) ∧ (∀ t, wr.frozen? ⟨g, t, none⟩ = false) ∧ g < wr.heap.size ∧ Below g W0 wr) (fun i _ => 5 - (intOf i).toNat)
  case atStart =>
    refine ⟨0, by omega, rfl, fun t ht => ?_, hgf, hgz, Below.refl _ _⟩
    rw [hg0 t]
    have : t = 0 ∨ t = 1 ∨ t = 2 ∨ t = 3 ∨ t = 4 := by omega
    rcases this with rfl | rfl | rfl | rfl | rfl <;> simp
  case round =>
    clear hg0 hgf
    obtain ⟨k, hk, rfl, hcel, hfz, hzr, hB⟩ := hrel
    have HCEL := Lib.hid hcel
    have HFZ := Lib.hid hfz
    have HB := Lib.hid hB
    clear hcel hfz
    by_cases hlt : k < 5
    · have HS := Lib.hid (HSP.out wr (HB0.out.trans (hB.mono (Nat.le_of_lt hgr))) k hlt)
      have hkl : (k : Int) < 5 := by omega
      have hk0 : (0 : Int) ≤ (k : Int) := by omega
      clear hB
      go_wp2_with fail
      refine HS.out.mono ?_
      rintro e w1 ⟨rfl, hb1⟩
      have hg1 := hb1.size
      have hgw : g < w1.heap.size := by omega
      have hc1 := fun t ht => (hb1.cell (p := ⟨g, t, none⟩) hzr).trans (HCEL.out t ht)
      have hf1 := fun t => (hb1.frozen (p := ⟨g, t, none⟩) hzr).trans (HFZ.out t)
      obtain ⟨v0, hck⟩ : ∃ v0, w1.cell? ⟨g, k, none⟩ = some (.int .i64 v0) := ⟨_, hc1 k hlt⟩
      have hfk := hf1 k
      have HC1 := Lib.hid hc1
      have HF1 := Lib.hid hf1
      have HB1 := Lib.hid (HB.out.trans (hb1.mono (Nat.le_of_lt hzr)))
      clear hb1 hc1 hf1
      generalize hlo : loOf L k = lo at *
      go_wp2_with fail
      go_roundw
      case rel => exact ⟨k + 1, by omega, by go_num, five_set (loOf L) hck hlo.symm HC1.out, (fun t => by go_simp; exact HF1.out t), by simp; omega, Below.setCell HB1.out (by exact Nat.le_refl _) _⟩
      case measure => simp [intOf]; omega
    · obtain rfl : k = 5 := by omega
      have hd : ∀ t, t < 5 → wr.cell? ⟨g, t, none⟩ = some (.int .i64 (loOf L t)) := fun t ht => by rw [HCEL.out t ht, if_pos ht]
      have d0 := hd 0 (by omega)
      have d1 := hd 1 (by omega)
      have d2 := hd 2 (by omega)
      have d3 := hd 3 (by omega)
      have d4 := hd 4 (by omega)
      have hr : ∀ i, wr.cell? ⟨w.heap.size, i, none⟩ = (#[.int .i64 0, .int .i64 0, .int .i64 0, .int .i64 0, .int .i64 0] : Array Value)[i]? := fun i => (hB.cell (p := ⟨w.heap.size, i, none⟩) hgr).trans (HR0.out i)
      have r0 := hr 0
      have r1 := hr 1
      have r2 := hr 2
      have r3 := hr 3
      have r4 := hr 4
      have hq : ∀ i, wr.frozen? ⟨w.heap.size, i, none⟩ = false := fun i => (hB.frozen (p := ⟨w.heap.size, i, none⟩) hgr).trans (HRF.out i)
      have q0 := hq 0
      have q1 := hq 1
      have q2 := hq 2
      have q3 := hq 3
      have q4 := hq 4
      have HBW := Lib.hid (HB0.out.trans (hB.mono (Nat.le_of_lt hgr)))
      clear hB hd hr hq
      go_wp2_with fail
      refine bodyPost_ret (v := .agg #[.int .i64 (loOf L 0), .int .i64 (loOf L 1), .int .i64 (loOf L 2), .int .i64 (loOf L 3), .int .i64 (loOf L 4)]) (by simp [results, Try.results75, go_sem, *]) rfl ⟨rfl, ?_⟩
      have hBB := HBW.out
      exact (by repeat (first | assumption | exact Below.refl _ _ | (refine Below.alloc ?_ (by first | omega | (simp; omega) | simp) _) | (refine Below.setCell ?_ (by first | omega | (simp; omega) | simp) _) | refine Below.drew ?_))

/-- Whether shares hold by so many casts. -/
def holdB (c : Nat → Int) (x : List Int) : Bool := x.zipIdx.all fun q => decide (q.1 ≤ c q.2)
theorem zidx_next {f : Int × Nat → Bool} {x : List Int} {k : Nat} (h : (x.zipIdx.take k).all f = true) (h2 : k < x.length) : (x.zipIdx.take (k + 1)).all f = f (x[k], k) := by
  rw [all_next h (by simpa using h2), List.getElem_zipIdx, Nat.zero_add]
theorem zidx_no {f : Int × Nat → Bool} {x : List Int} {k : Nat} (h2 : k < x.length) (h : f (x[k], k) = false) : x.zipIdx.all f = false :=
  all_no (k := k) (by simpa using h2) (by rw [List.getElem_zipIdx, Nat.zero_add]; exact h)
theorem zidx_done {f : Int × Nat → Bool} {x : List Int} {n : Nat} (h : (x.zipIdx.take n).all f = true) (h1 : x.length = n) : x.zipIdx.all f = true := by
  rwa [List.take_of_length_le (by simp; omega)] at h

set_option maxRecDepth 100000 in
set_option maxHeartbeats 2000000 in
theorem hold_any (c : Nat → Int) (xa : Option Addr) (xl xc : Nat) (x : List Int) (w : World) (hx : IntsAt w xa xl x) (h5 : xl ≤ 5) :
    Calls Try.prog 102 #[.agg #[.int .i64 (c 0), .int .i64 (c 1), .int .i64 (c 2), .int .i64 (c 3), .int .i64 (c 4)], .slice xa xl xc] w fun e w' => e = .returned (.bool (holdB c x)) ∧ Below w.heap.size w w' := by
  obtain ⟨hxl, -, hxc⟩ := hx
  have HXL := Lib.hid hxl
  have HXC := Lib.hid hxc
  clear hxl hxc
  go_enter Try.func102, Try.ntmps102
  go_wp2_with fail
  obtain ⟨W0, hW0, hB0, hs0, hz0⟩ := name1k w #[.int .i64 (c 0), .int .i64 (c 1), .int .i64 (c 2), .int .i64 (c 3), .int .i64 (c 4)] 85
  rw [hW0]
  clear hW0
  have HB0 := Lib.hid hB0
  have HS0 := Lib.hid hs0
  clear hB0 hs0
  go_loopw [9] (fun i wr => ∃ k : Nat, k ≤ xl ∧ i = .int .i64 k ∧ (x.zipIdx.take k).all (fun q => decide (q.1 ≤ c q.2)) = true ∧ Below W0.heap.size W0 wr) (fun i _ => xl - (intOf i).toNat)
  case atStart => exact ⟨0, by omega, rfl, by simp, Below.refl _ _⟩
  case round =>
    obtain ⟨k, hk, rfl, hall, hB⟩ := hrel
    have HALL := Lib.hid hall
    clear hall
    have HB := Lib.hid hB
    by_cases hlt : k < xl
    · have hk3 : k < x.length := by rw [HXL.out]; exact hlt
      obtain ⟨b', o', rfl, hbB', hcell'⟩ := HXC.out (by omega)
      have hcx := (hB.cell (p := ⟨b', o' + k, none⟩) (show b' < W0.heap.size by omega)).trans ((HB0.out.cell (p := ⟨b', o' + k, none⟩) hbB').trans (hcell' k hk3))
      have hck : wr.cell? ⟨w.heap.size, k, none⟩ = some (.int .i64 (c k)) := ((hB.cell (p := ⟨w.heap.size, k, none⟩) hz0).trans (HS0.out k)).trans (five_arr c k (by omega))
      have hkl : (k : Int) < (xl : Int) := by omega
      have hk5 : (k : Int) < 5 := by omega
      have hk0 : (0 : Int) ≤ (k : Int) := by omega
      have HN := Lib.hid (zidx_next HALL.out hk3)
      have HX := Lib.hid (fun (h : decide (x[k] ≤ c k) = false) => show holdB c x = false from zidx_no (f := fun q => decide (q.1 ≤ c q.2)) hk3 h)
      clear hB hcell'
      generalize x[k] = n at *
      generalize c k = ck at *
      rcases Int.lt_or_le ck n with h1 | h1
      · have HR := Lib.hid (HX.out (by simp; omega))
        clear HN HX
        go_wp2_with fail
        go_ret
        exact ⟨ret_bool HR.out.symm, HB0.out.trans (HB.out.mono HB0.out.size)⟩
      · have HR := Lib.hid (HN.out.trans (show decide (n ≤ ck) = true by simp; omega))
        have h1' : ¬ ck < n := by omega
        clear HN HX
        go_wp2_with fail
        go_roundw
        case rel => exact ⟨k + 1, by omega, by go_num, HR.out, HB.out⟩
        case measure => simp [intOf]; omega
    · obtain rfl : xl = k := by omega
      have HR := Lib.hid (show holdB c x = true from zidx_done HALL.out HXL.out)
      go_wp2_with fail
      go_ret
      exact ⟨ret_bool HR.out.symm, HB0.out.trans (HB.out.mono HB0.out.size)⟩
theorem hold_is (c : Nat → Int) (xa : Option Addr) (xl xc : Nat) (x : List Int) (b : Bool) (h : holdB c x = b) (w : World) (hx : IntsAt w xa xl x) (h5 : xl ≤ 5) :
    Calls Try.prog 102 #[.agg #[.int .i64 (c 0), .int .i64 (c 1), .int .i64 (c 2), .int .i64 (c 3), .int .i64 (c 4)], .slice xa xl xc] w fun e w' => e = .returned (.bool b) ∧ Below w.heap.size w w' := h ▸ hold_any c xa xl xc x w hx h5

/-- In how many worlds shares hold. -/
def holdN (L : List (Nat → Int)) (x : List Int) : Nat := L.countP fun c => holdB c x
def holdTo (L : List (Nat → Int)) (x : List Int) (k : Nat) : Nat := (L.take k).countP fun c => holdB c x
theorem holdTo_next {L : List (Nat → Int)} {x : List Int} {k : Nat} (h : k < L.length) : holdTo L x (k + 1) = holdTo L x k + (if holdB L[k] x then 1 else 0) := by
  unfold holdTo; rw [List.take_succ_eq_append_getElem h, List.countP_append]; simp
theorem holdTo_few (L : List (Nat → Int)) (x : List Int) (k : Nat) : holdTo L x k ≤ L.length :=
  Nat.le_trans List.countP_le_length (by simp; omega)

set_option maxRecDepth 100000 in
set_option maxHeartbeats 2000000 in
theorem holding_any (L : List (Nat → Int)) (la : Option Addr) (ll lc : Nat) (xa : Option Addr) (xl xc : Nat) (x : List Int) (w : World) (hL : CastsAt w la ll L) (hl6 : ll ≤ 6) (hx : IntsAt w xa xl x) (h5 : xl ≤ 5) :
    Calls Try.prog 74 #[.slice la ll lc, .slice xa xl xc] w fun e w' => e = .returned (.int .i64 (holdN L x)) ∧ Below w.heap.size w w' := by
  have HHO := Lib.hid (fun c b (h : holdB c x = b) W (hb : Below w.heap.size w W) => hold_is c xa xl xc x b h W (hx.below hb) h5)
  obtain ⟨hll, -, hlc⟩ := hL
  have HLL := Lib.hid hll
  have HLC := Lib.hid hlc
  have HFW := Lib.hid (fun k => show holdTo L x k ≤ 6 from Nat.le_trans (holdTo_few L x k) (by omega))
  clear hll hlc hx
  go_enter Try.func74, Try.ntmps74
  go_wp2_with fail
  go_loopw [5, 10] (fun v i wr => ∃ k : Nat, k ≤ ll ∧ i = .int .i64 k ∧ v = .int .i64 (holdTo L x k) ∧ Below w.heap.size w wr) (fun _ i _ => ll - (intOf i).toNat)
  case atStart => exact ⟨0, by omega, rfl, rfl, (by repeat (first | exact Below.refl _ _ | (refine Below.alloc ?_ (by first | omega | (simp; omega) | simp) _) | (refine Below.setCell ?_ (by first | omega | (simp; omega) | simp) _) | refine Below.drew ?_))⟩
  case round =>
    obtain ⟨k, hk, rfl, rfl, hB⟩ := hrel
    have HB := Lib.hid hB
    have hfw := HFW.out k
    by_cases hlt : k < ll
    · have hk2 : k < L.length := by rw [HLL.out]; exact hlt
      obtain ⟨b, o, rfl, hbB, hcell⟩ := HLC.out (by omega)
      have hcl : ∀ t, t < 5 → wr.cell? ⟨b, o + k * 5 + t, none⟩ = some (.int .i64 (L[k] t)) := fun t ht => (hB.cell (p := ⟨b, _, none⟩) hbB).trans (hcell k hk2 t ht)
      have d0 : wr.cell? ⟨b, o + k * 5, none⟩ = some (.int .i64 (L[k] 0)) := hcl 0 (by omega)
      have d1 := hcl 1 (by omega)
      have d2 := hcl 2 (by omega)
      have d3 := hcl 3 (by omega)
      have d4 := hcl 4 (by omega)
      have hkl : (k : Int) < (ll : Int) := by omega
      have hk0 : (0 : Int) ≤ (k : Int) := by omega
      have HN := Lib.hid (holdTo_next (x := x) hk2)
      have HHC := Lib.hid (fun b (h : holdB L[k] x = b) W hb => HHO.out L[k] b h W hb)
      have HBA := Lib.hid (fun m => HB.out.alloc HB.out.size m)
      generalize L[k] = c at *
      clear hB hcl hk2 hcell
      rcases hb : holdB c x with - | -
      · have HR := Lib.hid (HN.out.trans (show _ = holdTo L x k by rw [hb]; simp))
        have HH := Lib.hid (HHC.out _ hb)
        clear hb HN HHC
        go_wp2_with fail
        refine (HH.out _ (HBA.out _)).mono ?_
        rintro e w1 ⟨rfl, hb1⟩
        have HB1 := Lib.hid ((HBA.out _).trans (hb1.mono (HBA.out _).size))
        clear hb1
        go_wp2_with fail
        go_roundw
        case rel => exact ⟨k + 1, by omega, by go_num, by rw [HR.out], HB1.out⟩
        case measure => simp [intOf]; omega
      · have HR := Lib.hid (HN.out.trans (show _ = holdTo L x k + 1 by rw [hb]; simp))
        have HH := Lib.hid (HHC.out _ hb)
        clear hb HN HHC
        go_wp2_with fail
        refine (HH.out _ (HBA.out _)).mono ?_
        rintro e w1 ⟨rfl, hb1⟩
        have HB1 := Lib.hid ((HBA.out _).trans (hb1.mono (HBA.out _).size))
        clear hb1
        go_wp2_with fail
        go_roundw
        case rel => exact ⟨k + 1, by omega, by go_num, by rw [HR.out]; go_num, HB1.out⟩
        case measure => simp [intOf]; omega
    · obtain rfl : ll = k := by omega
      have HR := Lib.hid (show holdN L x = holdTo L x ll by rw [holdTo, List.take_of_length_le (by rw [HLL.out]; exact Nat.le_refl _)]; rfl)
      go_wp2_with fail
      go_ret
      exact ⟨ret_i64 (by rw [HR.out]), HB.out⟩

/-- How many casts the moulds of a page have together, of the first so many moulds. -/
def sumTo (ms : List Mould) (c : Nat → Int) (p : Int) (k : Nat) : Int := ((ms.zipIdx).take k).foldl (fun a q => if q.1.p = p then a + c q.2 else a) 0
def sumOf (ms : List Mould) (c : Nat → Int) (p : Int) : Int := sumTo ms c p ms.length
theorem sumTo_next {ms : List Mould} {c : Nat → Int} {p : Int} {k : Nat} (h : k < ms.length) : sumTo ms c p (k + 1) = if ms[k].p = p then sumTo ms c p k + c k else sumTo ms c p k := by
  unfold sumTo
  rw [List.take_succ_eq_append_getElem (by simpa using h), List.foldl_append, List.getElem_zipIdx, Nat.zero_add]; rfl
theorem sumTo_bd {ms : List Mould} {c : Nat → Int} (hc : ∀ t, 0 ≤ c t ∧ c t ≤ 12) (p : Int) : ∀ k, k ≤ ms.length → 0 ≤ sumTo ms c p k ∧ sumTo ms c p k ≤ 12 * k
  | 0, _ => by simp [sumTo]
  | k + 1, h => by
    have h1 := sumTo_bd (ms := ms) hc p k (by omega)
    have h2 := hc k
    rw [sumTo_next (ms := ms) (k := k) (by omega)]
    split <;> omega

set_option maxRecDepth 100000 in
set_option maxHeartbeats 2000000 in
theorem castsOf_any (s : FShop) (ma : Option Addr) (ml mc : Nat) (wa : Option Addr) (wl wc : Nat) (na : Option Addr) (nl nc : Nat) (p : Int) (c : Nat → Int) (hcb : ∀ t, 0 ≤ c t ∧ c t ≤ 12) (w : World) (hp : MouldsAt w ma ml s.moulds) (hm5 : ml ≤ 5) :
    Calls Try.prog 85 #[.agg #[.slice ma ml mc, .slice wa wl wc, .slice na nl nc, .int .i64 s.fresh], .int .i64 p, .agg #[.int .i64 (c 0), .int .i64 (c 1), .int .i64 (c 2), .int .i64 (c 3), .int .i64 (c 4)]] w fun e w' => e = .returned (.int .i64 (sumOf s.moulds c p)) ∧ Below w.heap.size w w' := by
  obtain ⟨hml, -, hmc⟩ := hp
  have HML := Lib.hid hml
  have HMC := Lib.hid hmc
  have HBD := Lib.hid (fun k hk => sumTo_bd (ms := s.moulds) hcb p k hk)
  have HCB := Lib.hid hcb
  clear hml hmc hcb
  go_enter Try.func85, Try.ntmps85
  go_wp2_with fail
  obtain ⟨W0, hW0, hB0, hs0, hg0, hz0⟩ := name2c w #[.slice ma ml mc, .slice wa wl wc, .slice na nl nc, .int .i64 s.fresh] 77 #[.int .i64 (c 0), .int .i64 (c 1), .int .i64 (c 2), .int .i64 (c 3), .int .i64 (c 4)] 85
  rw [hW0]
  clear hW0
  have hz1 : w.heap.size + 1 < W0.heap.size := by omega
  have HB0 := Lib.hid hB0
  have HG0 := Lib.hid hg0
  clear hB0 hs0 hg0
  go_loopw [7, 14] (fun v i wr => ∃ k : Nat, k ≤ ml ∧ i = .int .i64 k ∧ v = .int .i64 (sumTo s.moulds c p k) ∧ Below W0.heap.size W0 wr) (fun _ i _ => ml - (intOf i).toNat)
  case atStart => exact ⟨0, by omega, rfl, rfl, Below.refl _ _⟩
  case round =>
    obtain ⟨k, hk, rfl, rfl, hB⟩ := hrel
    have HB := Lib.hid hB
    by_cases hlt : k < ml
    · have hk2 : k < s.moulds.length := by rw [HML.out]; exact hlt
      obtain ⟨b, o, rfl, hbB, hcell⟩ := HMC.out (by omega)
      obtain ⟨c0, c1, c2⟩ := Mould.at_below hB (show b < W0.heap.size by omega) (Mould.at_below HB0.out hbB (hcell k hk2))
      have hck : wr.cell? ⟨w.heap.size + 1, k, none⟩ = some (.int .i64 (c k)) := ((hB.cell (p := ⟨w.heap.size + 1, k, none⟩) hz1).trans (HG0.out k)).trans (five_arr c k (by omega))
      have hzr := hB.size
      have hz2 : w.heap.size + 1 < wr.heap.size := by omega
      have hkl : (k : Int) < (ml : Int) := by omega
      have hk5 : (k : Int) < 5 := by omega
      have hk0 : (0 : Int) ≤ (k : Int) := by omega
      obtain ⟨hb1, hb2⟩ := HBD.out k (by omega)
      obtain ⟨hb3, hb4⟩ := HCB.out k
      have HN := Lib.hid (sumTo_next (c := c) (p := p) hk2)
      have HBA := Lib.hid (fun m => HB.out.alloc HB.out.size m)
      clear hB hcell
      generalize s.moulds[k] = m at *
      generalize c k = ck at *
      by_cases h1 : m.p = p
      · have HR := Lib.hid (HN.out.trans (if_pos h1))
        clear HN
        go_wp2_with fail
        go_roundw
        case rel => exact ⟨k + 1, by omega, by go_num, by rw [HR.out], HBA.out _⟩
        case measure => simp [intOf]; omega
      · have HR := Lib.hid (HN.out.trans (if_neg h1))
        clear HN
        go_wp2_with fail
        go_roundw
        case rel => exact ⟨k + 1, by omega, by go_num, by rw [HR.out], HBA.out _⟩
        case measure => simp [intOf]; omega
    · obtain rfl : ml = k := by omega
      have HR := Lib.hid (show sumOf s.moulds c p = sumTo s.moulds c p ml by rw [sumOf, HML.out])
      go_wp2_with fail
      go_ret
      exact ⟨ret_i64 (by rw [HR.out]), HB0.out.trans (HB.out.mono HB0.out.size)⟩

/-- A part in lowest terms. -/
theorem lowest_any (a b : Nat) (hab : a ≤ b) (hb0 : 0 < b) (hb6 : b ≤ 6) (w : World) :
    Calls Try.prog 82 #[.int .i64 a, .int .i64 b] w fun e w' => e = .returned (.agg #[.int .i64 ((a / Nat.gcd a b : Nat) : Int), .int .i64 ((b / Nat.gcd a b : Nat) : Int)]) ∧ Below w.heap.size w w' := by
  have ha6 : a ≤ 6 := by omega
  go_enter Try.func82, Try.ntmps82
  go_wp2_with fail
  go_loopw [5, 6] (fun v5 v6 wr => ∃ u v : Nat, v5 = .int .i64 u ∧ v6 = .int .i64 v ∧ Nat.gcd u v = Nat.gcd a b ∧ u ≤ 6 ∧ v ≤ 6 ∧ 0 < u ∧ wr.cell? ⟨w.heap.size, 0, none⟩ = some (.int .i64 0) ∧ wr.cell? ⟨w.heap.size, 1, none⟩ = some (.int .i64 0) ∧ wr.frozen? ⟨w.heap.size, 0, none⟩ = false ∧ wr.frozen? ⟨w.heap.size, 1, none⟩ = false ∧ w.heap.size < wr.heap.size ∧ Below w.heap.size w wr) (fun _ i _ => (intOf i).toNat)
  case atStart => exact ⟨b, a, rfl, rfl, Nat.gcd_comm _ _, hb6, ha6, hb0, by go_simp, by go_simp, by go_simp, by go_simp, by simp, (by repeat (first | exact Below.refl _ _ | (refine Below.alloc ?_ (by first | omega | (simp; omega) | simp) _) | (refine Below.setCell ?_ (by first | omega | (simp; omega) | simp) _) | refine Below.drew ?_))⟩
  case round =>
    obtain ⟨u, v, rfl, rfl, hgcd, hu6, hv6, hu0, r0, r1, r2, r3, hzr, hB⟩ := hrel
    have HB := Lib.hid hB
    have HGC := Lib.hid hgcd
    clear hB hgcd
    by_cases hv : 0 < v
    · have hv' : (0 : Int) < (v : Int) := by omega
      have hvn : ¬ (v : Int) = 0 := by omega
      have hmod : ((u : Int) % (v : Int)) = ((u % v : Nat) : Int) := by simp
      have hlt := Nat.mod_lt u hv
      go_wp2_with fail
      go_region
      go_wp2_with fail
      go_roundw
      case rel => exact ⟨v, u % v, rfl, by rw [hmod], by rw [Nat.gcd_comm, ← Nat.gcd_rec, Nat.gcd_comm]; exact HGC.out, hv6, by omega, hv, r0, r1, r2, r3, hzr, HB.out.drew⟩
      case measure => rw [hmod]; simp [intOf]; omega
    · obtain rfl : v = 0 := by omega
      have HU := Lib.hid (show u = Nat.gcd a b by rw [← HGC.out, Nat.gcd_zero_right])
      have hun : ¬ (u : Int) = 0 := by omega
      have hu1 : (1 : Int) ≤ (u : Int) := by omega
      have e1 : 0 ≤ (a : Int) / (u : Int) := Int.ediv_nonneg (by omega) (by omega)
      have e2 : (a : Int) / (u : Int) ≤ 6 := Int.le_trans (Int.ediv_le_self _ (by omega)) (by omega)
      have e3 : 0 ≤ (b : Int) / (u : Int) := Int.ediv_nonneg (by omega) (by omega)
      have e4 : (b : Int) / (u : Int) ≤ 6 := Int.le_trans (Int.ediv_le_self _ (by omega)) (by omega)
      go_wp2_with fail
      go_region
      go_wp2_with fail
      refine bodyPost_ret (v := .agg #[.int .i64 ((a : Int) / (u : Int)), .int .i64 ((b : Int) / (u : Int))]) (by simp [results, Try.results82, go_sem, *]) rfl ⟨by rw [← HU.out]; simp, ?_⟩
      have hBB := HB.out
      exact (by repeat (first | assumption | exact Below.refl _ _ | (refine Below.alloc ?_ (by first | omega | (simp; omega) | simp) _) | (refine Below.setCell ?_ (by first | omega | (simp; omega) | simp) _) | refine Below.drew ?_))
end Go.Proofs.Ytigeiaiohdemiaa
