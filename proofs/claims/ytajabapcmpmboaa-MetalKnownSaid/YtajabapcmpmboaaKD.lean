/- KD KE KF KG, joined. -/
import Derived.Test.YtajabapcmpmboaaKB
import Derived.Test.YtajabapcmpmboaaW
/- In how many truths with so much tin an offer does: the plain part. -/
namespace Go.Proofs.Ytajabapcmpmboaa
set_option linter.unusedVariables false
set_option linter.unusedSimpArgs false
open Go.RowKit

/-- Some offer of a list does in a truth. -/
def cover (tin : Int) (l : List Offer) (a : Int) : Bool := l.any fun o => btw tin o.tl o.th && btw a o.al o.ah
/-- The marks of the truths with so much tin, n of them from al on, behind a list of offers, and a part of one more. -/
def marks (tin al : Int) (n : Nat) (l : List Offer) (lo x : Int) : List Bool := (List.range n).map fun (i : Nat) => cover tin l (al + i) || decide (lo ≤ al + i ∧ al + i < x)
def unmet (bs : List Bool) : Nat := bs.countP (!·)
theorem marks_len (tin al : Int) (n : Nat) (l : List Offer) (lo x : Int) : (marks tin al n l lo x).length = n := by simp [marks]
theorem marks_get (tin al : Int) (n : Nat) (l : List Offer) (lo x : Int) (i : Nat) (h : i < n) : (marks tin al n l lo x)[i]? = some (cover tin l (al + i) || decide (lo ≤ al + i ∧ al + i < x)) := by simp [marks, h]
/-- None begun. -/
theorem marks_none (tin al : Int) (n : Nat) (l : List Offer) (lo lo' : Int) : marks tin al n l lo lo = marks tin al n l lo' lo' := by
  unfold marks; refine List.map_congr_left fun i _ => ?_
  rw [show decide (lo ≤ al + i ∧ al + i < lo) = false by simp, show decide (lo' ≤ al + i ∧ al + i < lo') = false by simp]
/-- The next one. -/
theorem marks_set (tin al : Int) (n : Nat) (l : List Offer) (lo x : Int) (j : Nat) (hj : j < n) (hx : x = al + j) (hlo : lo ≤ x) : (marks tin al n l lo x).set j true = marks tin al n l lo (x + 1) := by
  apply List.ext_getElem?
  intro i
  by_cases hi : i < n
  · rw [marks_get _ _ _ _ _ _ _ hi]
    by_cases e : j = i
    · subst e
      rw [List.getElem?_set_self (by rw [marks_len]; exact hj)]
      rw [show decide (lo ≤ al + (j : Int) ∧ al + (j : Int) < x + 1) = true by simp; omega]; simp
    · rw [List.getElem?_set_ne e, marks_get _ _ _ _ _ _ _ hi]
      rw [show decide (lo ≤ al + (i : Int) ∧ al + (i : Int) < x + 1) = decide (lo ≤ al + (i : Int) ∧ al + (i : Int) < x) by rw [decide_eq_decide]; omega]
  · rw [List.getElem?_eq_none (by simp [marks_len]; omega), List.getElem?_eq_none (by simp [marks_len]; omega)]
/-- One that is marked already. -/
theorem marks_same (tin al : Int) (n : Nat) (l : List Offer) (lo x : Int) (j : Nat) (hx : x = al + j) (h : (marks tin al n l lo x)[j]? = some true) : marks tin al n l lo (x + 1) = marks tin al n l lo x := by
  unfold marks at *
  refine List.map_congr_left fun i hi => ?_
  by_cases e : i = j
  · subst e
    have hi' : i < n := List.mem_range.1 hi
    simp [hi'] at h
    rcases h with h | h
    · simp [h]
    · omega
  · rw [show decide (lo ≤ al + (i : Int) ∧ al + (i : Int) < x + 1) = decide (lo ≤ al + (i : Int) ∧ al + (i : Int) < x) by rw [decide_eq_decide]; omega]
/-- A whole offer. -/
theorem marks_done (tin al : Int) (n : Nat) (l : List Offer) (o : Offer) (x lo' : Int) (ht : btw tin o.tl o.th = true) (hx : x = o.ah + 1) : marks tin al n l o.al x = marks tin al n (l ++ [o]) lo' lo' := by
  unfold marks; refine List.map_congr_left fun i _ => ?_
  rw [show decide (lo' ≤ al + (i : Int) ∧ al + (i : Int) < lo') = false by simp]
  simp only [cover, List.any_append, List.any_cons, List.any_nil, ht, Bool.or_false, Bool.true_and]
  congr 1
  unfold btw; rw [decide_eq_decide]; omega
theorem marks_past (tin al : Int) (n : Nat) (l : List Offer) (o : Offer) (lo : Int) (ht : btw tin o.tl o.th = false) : marks tin al n (l ++ [o]) lo lo = marks tin al n l lo lo := by
  unfold marks; refine List.map_congr_left fun i _ => ?_
  simp [cover, ht]
theorem unmet_set : ∀ (bs : List Bool) (j : Nat), bs[j]? = some false → unmet (bs.set j true) + 1 = unmet bs
  | [], j, h => by simp at h
  | b :: bs, 0, h => by
    have : b = false := by simpa using h
    subst this; simp [unmet]
  | b :: bs, j + 1, h => by
    have := unmet_set bs j (by simpa using h)
    unfold unmet at *
    rw [List.set_cons_succ, List.countP_cons, List.countP_cons]; omega
theorem unmet_le (bs : List Bool) : unmet bs ≤ bs.length := List.countP_le_length
/-- What the offer costs by which the last of these truths gets one. -/
def dearOf (tin al : Int) (n : Nat) : List Offer → List Offer → Option Int
  | _, [] => none
  | pre, o :: r => if unmet (marks tin al n (pre ++ [o]) 0 0) = 0 then some o.c else dearOf tin al n (pre ++ [o]) r
def dearTwo : Option Int → Int × Bool
  | none => (0, false)
  | some c => (c, true)
theorem dearOf_drop (tin al : Int) (n : Nat) (l : List Offer) (k : Nat) (h : k < l.length) : dearOf tin al n (l.take k) (l.drop k) = if unmet (marks tin al n (l.take (k + 1)) 0 0) = 0 then some l[k].c else dearOf tin al n (l.take (k + 1)) (l.drop (k + 1)) := by
  rw [List.drop_eq_getElem_cons h, dearOf, List.take_succ_eq_append_getElem h]
theorem marks_start (tin al : Int) (n : Nat) (lo : Int) : marks tin al n [] lo lo = List.replicate n false := by
  apply List.ext_getElem (by simp [marks])
  intro i h1 h2
  simp [marks, cover]
/-- What holds of each offer of a shop. -/
def Offer.in_ (o : Offer) (al ah : Int) : Prop := al ≤ o.al ∧ o.al ≤ o.ah ∧ o.ah ≤ ah
theorem offers_in {s : Shop} {l : List Offer} (h : OffersOf s l) : ∀ o ∈ l, o.in_ s.al s.ah ∧ s.tl ≤ o.tl ∧ o.tl ≤ o.th ∧ o.th ≤ s.th := by
  intro o ho
  have h1 := h.1.mem_iff.1 ho
  simp only [Shop.offersOf, List.mem_filter, List.mem_map] at h1
  obtain ⟨⟨x, hx, rfl⟩, hg⟩ := h1
  simp only [Offer.good, emptyB, Bool.and_eq_true, Bool.not_eq_true', decide_eq_false_iff_not] at hg
  obtain ⟨g1, g2⟩ := hg
  have m1 : ∀ a b : Int, a ≤ maxI a b := fun a b => by unfold maxI; split <;> omega
  have m2 : ∀ a b : Int, minI a b ≤ a := fun a b => by unfold minI; split <;> omega
  refine ⟨⟨m1 _ _, by omega, m2 _ _⟩, m1 _ _, by omega, m2 _ _⟩
end Go.Proofs.Ytajabapcmpmboaa

/- What the offer costs by which the last of the truths with so much tin gets one: the walk. -/
namespace Go.Proofs.Ytajabapcmpmboaa
set_option linter.unusedVariables false
set_option linter.unusedSimpArgs false
open Go.RowKit

def Met (w : World) (M : Nat) (bs : List Bool) : Prop := w.heap[M]? = some (.cells (bs.map Value.bool).toArray 4 (0, 0))
theorem Met.cell {w : World} {M : Nat} {bs : List Bool} (h : Met w M bs) (j : Nat) (b : Bool) (hb : bs[j]? = some b) : w.cell? ⟨M, j, none⟩ = some (.bool b) ∧ w.frozen? ⟨M, j, none⟩ = false := by
  unfold Met at h; simp [World.cell?, World.frozen?, h, hb]
theorem Met.below {w w' : World} {M B : Nat} {bs : List Bool} (h : Met w M bs) (hb : Below B w w') (hM : M < B) : Met w' M bs := (hb.block _ hM).trans h
theorem Met.set {w : World} {M : Nat} {bs : List Bool} (h : Met w M bs) (j : Nat) : Met (w.setCell ⟨M, j, none⟩ (.bool true)) M (bs.set j true) := by
  have := set_one j (.bool true) h
  unfold Met; rw [this]; simp [List.map_set]
theorem met_made (w : World) (n : Nat) : Met (w.alloc (.cells (madeCells #[.bool false] n) 4)) w.heap.size (List.replicate n false) := by
  unfold Met
  rw [World.alloc_heap_new]
  congr 2
  refine Array.ext (by simp [size_madeCells]) fun i h1 h2 => ?_
  simp [madeCells, Nat.mod_one]
theorem unmet_rep (n : Nat) : unmet (List.replicate n false) = n := by simp [unmet, List.countP_replicate]
theorem ret_dear {c : Int} {b : Bool} {x : Option Int} (h : dearTwo x = (c, b)) : Ending.returned (.tuple #[.int .i64 c, .bool b]) = .returned (.tuple #[.int .i64 (dearTwo x).1, .bool (dearTwo x).2]) := by rw [h]

set_option maxHeartbeats 2000000 in
theorem dearest_any (s : Shop) (a : Option Addr) (len cap : Nat) (g ocap : Nat) (l : List Offer) (tin : Int) (n : Nat) (w : World) (hn : s.ah = s.al + n - 1) (h0 : 0 ≤ s.al ∧ s.al ≤ 400) (hn1 : 1 ≤ n ∧ n ≤ 1000)
    (hl : l.length ≤ 100000) (hin : ∀ o ∈ l, o.in_ s.al s.ah) (hg : g < w.heap.size) (hc : ∀ j u, (l.flatMap Offer.cells)[j]? = some u → w.cell? ⟨g, j, none⟩ = some u) :
    Calls Try.prog 109 #[.agg #[.int .i64 s.P, .int .i64 s.tl, .int .i64 s.th, .int .i64 s.al, .int .i64 s.ah, .int .i64 s.room, .int .i64 s.xl, .int .i64 s.xh, .int .i64 s.yl, .int .i64 s.yh, .slice a len cap], .slice (some ⟨g, 0, none⟩) l.length ocap, .int .i64 tin] w fun e w' => e = .returned (.tuple #[.int .i64 (dearTwo (dearOf tin s.al n [] l)).1, .bool (dearTwo (dearOf tin s.al n [] l)).2]) ∧ Below w.heap.size w w' := by
  have hmk := fun W1 => run_make_row' (P := Try.prog) 122 4 (.bool false) 1 Try.underlying122 (by kernel_rfl) rfl .i64 .i64 n (by omega) (by omega) W1
  rw [show (n : Int) = s.ah - s.al + 1 by omega] at hmk
  generalize hR : dearOf tin s.al n [] l = R at *
  have HR := Lib.hid hR
  clear hR
  obtain ⟨h01, h02⟩ := h0
  have hah : s.ah ≤ 1400 := by omega
  have hah2 : s.al ≤ s.ah := by omega
  have HN := Lib.hid hn
  clear hn
  go_enter Try.func109, Try.ntmps109
  go_wp2
  obtain ⟨W0, hW0⟩ : ∃ W0, (w.alloc (.cells #[.int .i64 s.P, .int .i64 s.tl, .int .i64 s.th, .int .i64 s.al, .int .i64 s.ah, .int .i64 s.room, .int .i64 s.xl, .int .i64 s.xh, .int .i64 s.yl, .int .i64 s.yh, .slice a len cap] 78)).alloc (.cells (madeCells #[.bool false] n) 4) = W0 := ⟨_, rfl⟩
  have hz0 : W0.heap.size = w.heap.size + 2 := by rw [← hW0]; simp
  have hB0 : Below w.heap.size w W0 := by rw [← hW0]; exact (by repeat (first | exact Below.refl _ _ | (refine Below.alloc ?_ (by first | omega | (simp; omega) | simp) _) | (refine Below.setCell ?_ (by first | omega | (simp; omega) | simp) _) | refine Below.drew ?_))
  have hM0 : Met W0 (w.heap.size + 1) (List.replicate n false) := by
    rw [← hW0]; have h := met_made (w.alloc (.cells #[.int .i64 s.P, .int .i64 s.tl, .int .i64 s.th, .int .i64 s.al, .int .i64 s.ah, .int .i64 s.room, .int .i64 s.xl, .int .i64 s.xh, .int .i64 s.yl, .int .i64 s.yh, .slice a len cap] 78)) n; rwa [World.size_alloc] at h
  rw [hW0]
  clear hW0 hmk
  go_loopw [10, 32] (fun v i wr => ∃ k : Nat, k ≤ l.length ∧ i = .int .i64 k ∧ v = .int .i64 (unmet (marks tin s.al n (l.take k) 0 0) : Nat) ∧ Met wr (w.heap.size + 1) (marks tin s.al n (l.take k) 0 0) ∧ Below w.heap.size w wr ∧ W0.heap.size ≤ wr.heap.size ∧ 0 < unmet (marks tin s.al n (l.take k) 0 0) ∧ Hid (dearOf tin s.al n (l.take k) (l.drop k) = R)) (fun _ i _ => l.length - (intOf i).toNat)
  case atStart => exact ⟨0, Nat.zero_le _, rfl, by rw [List.take_zero, marks_start, unmet_rep], by rw [List.take_zero, marks_start]; exact hM0, hB0, Nat.le_refl _, by rw [List.take_zero, marks_start, unmet_rep]; omega, HR⟩
  case round =>
    obtain ⟨k, hk, rfl, rfl, hM, hB, hz, hnz, HD⟩ := hrel
    clear hM0
    by_cases hlt : k < l.length
    · have hcx : ∀ j u, (l[k].cells)[j]? = some u → wr.cell? ⟨g, k * 5 + j, none⟩ = some u := fun j u hj => (hB.cell (p := ⟨g, k * 5 + j, none⟩) hg).trans (hc _ _ (by
        have hj5 : j < 5 := by have := (List.getElem?_eq_some_iff.1 hj).1; simpa [Offer.cells] using this
        rw [flat_get l (k * 5 + j) (by omega)]
        have e1 : (k * 5 + j) / 5 = k := by omega
        have e2 : (k * 5 + j) % 5 = j := by omega
        rw [e1, e2, ← hj, List.getElem?_eq_getElem hlt]
        have hj6 : j < l[k].cells.length := by simp [Offer.cells]; exact hj5
        simp [hj6]))
      have ho := hin l[k] (List.getElem_mem hlt)
      have HDROP := Lib.hid (dearOf_drop tin s.al n l k hlt)
      have HT := Lib.hid (List.take_succ_eq_append_getElem hlt)
      generalize l[k] = o at *
      have c0 : wr.cell? ⟨g, k * 5, none⟩ = some (.int .i64 o.c) := hcx 0 _ rfl
      have c1 : wr.cell? ⟨g, k * 5 + 1, none⟩ = some (.int .i64 o.tl) := hcx 1 _ rfl
      have c2 : wr.cell? ⟨g, k * 5 + 2, none⟩ = some (.int .i64 o.th) := hcx 2 _ rfl
      have c3 : wr.cell? ⟨g, k * 5 + 3, none⟩ = some (.int .i64 o.al) := hcx 3 _ rfl
      have c4 : wr.cell? ⟨g, k * 5 + 4, none⟩ = some (.int .i64 o.ah) := hcx 4 _ rfl
      obtain ⟨o1, o2, o3⟩ := ho
      clear hcx
      have hul := unmet_le (marks tin s.al n (l.take k) 0 0)
      rw [marks_len] at hul
      rcases ht : btw tin o.tl o.th with - | -
      · have HB := Lib.hid (between_is tin o.tl o.th false ht)
        have HMK := Lib.hid (show marks tin s.al n (l.take (k + 1)) 0 0 = marks tin s.al n (l.take k) 0 0 by rw [HT.out]; exact marks_past _ _ _ _ _ _ ht)
        clear ht
        go_wp2_with (go_at_call 110; refine (HB.out _).mono ?_; rintro e w4 ⟨rfl, rfl⟩)
        go_roundw
        case rel => exact ⟨k + 1, by omega, by go_num, by rw [HMK.out], by rw [HMK.out]; exact hM.below (Below.refl _ wr |>.alloc (Nat.le_refl _) _) (by omega), hB.trans (by repeat (first | exact Below.refl _ _ | (refine Below.alloc ?_ (by first | omega | (simp; omega) | simp) _) | (refine Below.setCell ?_ (by first | omega | (simp; omega) | simp) _) | refine Below.drew ?_)), by simp; omega, by rw [HMK.out]; exact hnz, Lib.hid (by rw [← HD.out, HDROP.out, if_neg (by rw [HMK.out]; omega)])⟩
        case measure => simp [intOf]; omega
      · have HB := Lib.hid (between_is tin o.tl o.th true ht)
        have HMK := Lib.hid (fun x (hx : x = o.ah + 1) => show marks tin s.al n (l.take k) o.al x = marks tin s.al n (l.take (k + 1)) 0 0 by rw [HT.out]; exact marks_done _ _ _ _ _ _ _ ht hx)
        have HM0 := Lib.hid (marks_none tin s.al n (l.take k) 0 o.al)
        clear ht
        go_wp2_with (go_at_call 110; refine (HB.out _).mono ?_; rintro e w4 ⟨rfl, rfl⟩)
        obtain ⟨wo, hwo⟩ : ∃ wo, wr.alloc (.cells #[.int .i64 o.c, .int .i64 o.tl, .int .i64 o.th, .int .i64 o.al, .int .i64 o.ah] 118) = wo := ⟨_, rfl⟩
        have hzo : wo.heap.size = wr.heap.size + 1 := by rw [← hwo]; simp
        have hBo : Below w.heap.size w wo := by rw [← hwo]; exact hB.alloc hB.size _
        have hMo : Met wo (w.heap.size + 1) (marks tin s.al n (l.take k) o.al o.al) := by rw [← HM0.out, ← hwo]; exact hM.below ((Below.refl _ wr).alloc (Nat.le_refl _) _) (by omega)
        have hco : ∀ j u, (#[.int .i64 o.c, .int .i64 o.tl, .int .i64 o.th, .int .i64 o.al, .int .i64 o.ah] : Array Value)[j]? = some u → wo.cell? ⟨wr.heap.size, j, none⟩ = some u := fun j u h => by rw [← hwo, World.cell?_alloc_new]; exact h
        have hco0 : wo.cell? ⟨wr.heap.size, 0, none⟩ = some (.int .i64 o.c) := hco 0 _ rfl
        have hco4 : wo.cell? ⟨wr.heap.size, 4, none⟩ = some (.int .i64 o.ah) := hco 4 _ rfl
        rw [hwo]
        clear hwo hco c0 c1 c2 c3 c4
        go_loopw [10, 13] (fun v i wq => ∃ x : Int, o.al ≤ x ∧ x ≤ o.ah + 1 ∧ i = .int .i64 x ∧ v = .int .i64 (unmet (marks tin s.al n (l.take k) o.al x) : Nat) ∧ Met wq (w.heap.size + 1) (marks tin s.al n (l.take k) o.al x) ∧ Below w.heap.size w wq ∧ wo.heap.size ≤ wq.heap.size ∧ wq.cell? ⟨wr.heap.size, 0, none⟩ = some (.int .i64 o.c) ∧ wq.cell? ⟨wr.heap.size, 4, none⟩ = some (.int .i64 o.ah)) (fun _ i _ => (o.ah + 1 - intOf i).toNat)
        case atStart => exact ⟨o.al, by omega, by omega, rfl, by rw [HM0.out], hMo, hBo, Nat.le_refl _, hco0, hco4⟩
        case round =>
          obtain ⟨x, hx1, hx2, rfl, rfl, hMq, hBq, hzq, q0, q4⟩ := hrel
          clear hMo hBo hco0 hco4 hM
          have hul2 := unmet_le (marks tin s.al n (l.take k) o.al x)
          rw [marks_len] at hul2
          by_cases hxl : x ≤ o.ah
          · obtain ⟨j, hj⟩ : ∃ j : Nat, x = s.al + j := ⟨(x - s.al).toNat, by omega⟩
            have hjn : j < n := by have := HN.out; omega
            have HJ := Lib.hid hj
            have hjx : x - s.al = (j : Int) := by omega
            have hj1 : (0 : Int) ≤ x - s.al := by omega
            rcases hb : (marks tin s.al n (l.take k) o.al x)[j]? with - | b
            · rw [List.getElem?_eq_none_iff, marks_len] at hb; omega
            · have hjt : (x - s.al).toNat = j := by omega
              obtain ⟨hcell, hfz⟩ := hMq.cell j b hb
              rw [← hjt] at hcell hfz
              have hjl : x - s.al < (n : Int) := by omega
              cases b with
              | true =>
                have HX := Lib.hid (marks_same tin s.al n (l.take k) o.al x j hj hb)
                clear hjx hj hb hjt
                go_wp2
                go_roundw
                case rel => exact ⟨x + 1, by omega, by omega, rfl, by rw [HX.out], by rw [HX.out]; exact hMq, hBq, hzq, q0, q4⟩
                case measure => simp [intOf]; omega
              | false =>
                have HX := Lib.hid (marks_set tin s.al n (l.take k) o.al x j hjn hj hx1)
                have HU := Lib.hid (unmet_set _ j hb)
                have hS := hMq.set j
                rw [← hjt] at hS
                have HS := Lib.hid hS
                have HJT := Lib.hid hjt
                clear hjx hj hb hjt hS
                go_wp2
                go_roundw
                case rel =>
                  have e2 := HU.out
                  refine ⟨x + 1, by omega, by omega, rfl, ?_, ?_, hBq.trans (by repeat (first | exact Below.refl _ _ | (refine Below.alloc ?_ (by first | omega | (simp; omega) | simp) _) | (refine Below.setCell ?_ (by first | omega | (simp; omega) | simp) _) | refine Below.drew ?_)), by simpa using hzq, ?_, ?_⟩
                  · rw [HX.out] at e2
                    rw [← e2]; simp
                  · rw [← HX.out, ← HJT.out]; have := HS.out; rwa [HJT.out] at this ⊢
                  · exact (World.cell?_of_block (Below.heap_setCell _ _ _ _ (by simp; omega))).trans q0
                  · exact (World.cell?_of_block (Below.heap_setCell _ _ _ _ (by simp; omega))).trans q4
                case measure => simp [intOf]; omega
          · have hxe : x = o.ah + 1 := by omega
            have HU := HMK.out x hxe
            rw [HU]
            rw [HU] at hMq
            clear HU hul2
            by_cases hu : unmet (marks tin s.al n (l.take (k + 1)) 0 0) = 0
            · have HE := Lib.hid (show R = some o.c by rw [← HD.out, HDROP.out, if_pos hu])
              rw [hu]
              clear hu
              go_wp2
              go_ret2
              exact ⟨by rw [HE.out]; rfl, hBq⟩
            · have HE := Lib.hid (show dearOf tin s.al n (l.take (k + 1)) (l.drop (k + 1)) = R by rw [← HD.out, HDROP.out, if_neg hu])
              have e1 : (((unmet (marks tin s.al n (l.take (k + 1)) 0 0) : Nat) : Int) == 0) = false := by simpa using hu
              go_wp2
              go_roundw
              case rel => exact ⟨k + 1, by omega, by go_num, rfl, hMq, hBq, by omega, by omega, HE⟩
              case measure => simp [intOf]; omega
    · have hk' : k = l.length := by omega
      subst hk'
      have HE := Lib.hid (show R = none by rw [← HD.out, List.drop_length]; rfl)
      go_wp2
      go_ret2
      exact ⟨by rw [HE.out]; rfl, hB⟩
end Go.Proofs.Ytajabapcmpmboaa

/- Known and Worth. -/
namespace Go.Proofs.Ytajabapcmpmboaa
set_option linter.unusedVariables false
set_option linter.unusedSimpArgs false
open Go.RowKit

/-- The most that the cheapest costs over the truths with a tin of m numbers from tl on; none: one of them has no offer. -/
def mostOf (al : Int) (n : Nat) (l : List Offer) : Nat → Int → Option Int
  | 0, _ => some 0
  | m + 1, tl => match mostOf al n l m tl with
    | none => none
    | some h => match dearOf (tl + m) al n [] l with
      | none => none
      | some c => some (maxI h c)
/-- Between what it would cost if the truth were known, out of the offers, the cheapest first. -/
def knownOf (s : Shop) (l : List Offer) : Option (Int × Int) :=
  match l with
  | [] => none
  | o :: _ => (mostOf s.al (s.ah - s.al + 1).toNat l (s.th - s.tl + 1).toNat s.tl).map fun h => (o.c, h)
def knownTwo : Option (Int × Int) → Array Value × Bool
  | none => (#[.int .i64 0, .int .i64 0], false)
  | some (a, b) => (#[.int .i64 a, .int .i64 b], true)

theorem mostOf_none (al : Int) (n : Nat) (l : List Offer) (tl : Int) (m : Nat) (h : mostOf al n l m tl = none) : ∀ d, mostOf al n l (m + d) tl = none
  | 0 => h
  | d + 1 => by rw [← Nat.add_assoc, mostOf, mostOf_none al n l tl m h d]
theorem mostOf_some (al : Int) (n : Nat) (l : List Offer) (tl h c : Int) (m : Nat) (h1 : mostOf al n l m tl = some h) (h2 : dearOf (tl + m) al n [] l = some c) : mostOf al n l (m + 1) tl = some (maxI h c) := by rw [mostOf, h1, h2]
theorem mostOf_stop (al : Int) (n : Nat) (l : List Offer) (tl : Int) (m : Nat) (h2 : dearOf (tl + m) al n [] l = none) : mostOf al n l (m + 1) tl = none := by
  rw [mostOf]; cases mostOf al n l m tl with
  | none => rfl
  | some h => simp only [h2]
theorem addr_add (g j : Nat) : (⟨g, 0, none⟩ : Addr).add j = ⟨g, j, none⟩ := by simp [Addr.add]; intro h; exact h.symm
theorem ret_known {R : Option (Int × Int)} {x y : Int} {b : Bool} (h : knownTwo R = (#[.int .i64 x, .int .i64 y], b)) : Ending.returned (.tuple #[.agg #[.int .i64 x, .int .i64 y], .bool b]) = .returned (.tuple #[.agg (knownTwo R).1, .bool (knownTwo R).2]) := by rw [h]

set_option maxHeartbeats 2000000 in
theorem known_any (s : Shop) (a : Option Addr) (len cap : Nat) (w : World) (hp : PigsAt w a len s.pigs) (ho : s.ok = true) :
    Calls Try.prog 91 #[.agg #[.int .i64 s.P, .int .i64 s.tl, .int .i64 s.th, .int .i64 s.al, .int .i64 s.ah, .int .i64 s.room, .int .i64 s.xl, .int .i64 s.xh, .int .i64 s.yl, .int .i64 s.yh, .slice a len cap]] w fun e w' => (∃ l, OffersOf s l ∧ e = .returned (.tuple #[.agg (knownTwo (knownOf s l)).1, .bool (knownTwo (knownOf s l)).2])) ∧ Below w.heap.size w w' := by
  have HOA := Lib.hid (fun w1 (hb : Below w.heap.size w w1) => offers_any s a len cap w1 (hp.below hb) ho)
  have hbd := Shop.ok_bd ho
  have hrows := rows_few ho
  have hpl := hp.1
  clear hp
  go_enter Try.func91, Try.ntmps91
  go_wp2_with fail
  refine (HOA.out _ (by repeat (first | exact Below.refl _ _ | (refine Below.alloc ?_ (by first | omega | (simp; omega) | simp) _) | (refine Below.setCell ?_ (by first | omega | (simp; omega) | simp) _) | refine Below.drew ?_))).mono ?_
  rintro e w1 ⟨hb1, v, l, rfl, hol, hrow⟩
  have hll : l.length ≤ 1296 := by
    have e1 := hol.1.length_eq
    have e2 : (s.offersOf ((allL s.most).filter s.room?)).length ≤ ((allL s.most).filter s.room?).length := by unfold Shop.offersOf; exact Nat.le_trans (List.length_filter_le _ _) (by simp)
    have e3 : ((allL s.most).filter s.room?).length ≤ (allL s.most).length := List.length_filter_le _ _
    omega
  obtain ⟨hc1, hf1⟩ := bcell hb1
  have hz1 := hb1.size
  simp at hz1
  have hbw : Below w.heap.size w w1 := ((by repeat (first | exact Below.refl _ _ | (refine Below.alloc ?_ (by first | omega | (simp; omega) | simp) _) | (refine Below.setCell ?_ (by first | omega | (simp; omega) | simp) _) | refine Below.drew ?_)) : Below w.heap.size w _).trans (hb1.mono (by simp; omega))
  have q2 : w.heap.size < w1.heap.size := by omega
  have q3 : w.heap.size + 1 < w1.heap.size := by omega
  have HOL := Lib.hid hol
  clear hol hb1
  rcases hrow.2 with ⟨rfl, h0⟩ | ⟨g, cap', cur, rfl, hgg, hg2, _⟩
  · have hL : l = [] := List.eq_nil_of_length_eq_zero h0
    subst hL
    have HK := Lib.hid (show knownTwo (knownOf s []) = (#[.int .i64 0, .int .i64 0], false) from rfl)
    go_wp2_with fail
    refine bodyPost_ret (v := .tuple #[.agg #[.int .i64 0, .int .i64 0], .bool false]) (by simp [results, Try.results91, go_sem, hc1, q2, q3]) rfl ⟨⟨[], HOL.out, by rw [HK.out]⟩, ?_⟩
    exact (hbw.setCell (by simp) _).setCell (by simp) _
  · have hbx : ∀ i, w1.cell? ⟨w.heap.size, i, none⟩ = (#[.int .i64 s.P, .int .i64 s.tl, .int .i64 s.th, .int .i64 s.al, .int .i64 s.ah, .int .i64 s.room, .int .i64 s.xl, .int .i64 s.xh, .int .i64 s.yl, .int .i64 s.yh, .slice a len cap] : Array Value)[i]? := fun i => by
      rw [hc1 _ _ (by simp; omega)]; go_simp
    have hr0 : w1.cell? ⟨w.heap.size + 1, 0, none⟩ = some (.int .i64 0) := by rw [hc1 _ _ (by simp)]; go_simp
    have hr1 : w1.cell? ⟨w.heap.size + 1, 1, none⟩ = some (.int .i64 0) := by rw [hc1 _ _ (by simp)]; go_simp
    have hrf : ∀ i, w1.frozen? ⟨w.heap.size + 1, i, none⟩ = false := fun i => by rw [hf1 _ _ (by simp)]; go_simp
    obtain ⟨x0, x1, x2, x3, x4, x5, x6, x7, x8, x9, x10⟩ := box11 hbx
    have hglt := (Array.getElem?_eq_some_iff.1 hg2).1
    have hcg : ∀ j u, (l.flatMap Offer.cells)[j]? = some u → w1.cell? ⟨g, j, none⟩ = some u := fun j u hj => by
      have := hrow.cells (g := g) rfl j u hj; rwa [addr_add] at this
    have hnm : ∃ n : Nat, (s.ah - s.al + 1).toNat = n ∧ s.ah = s.al + n - 1 ∧ 1 ≤ n ∧ n ≤ 1000 := ⟨_, rfl, by omega, by omega, by omega⟩
    obtain ⟨n, hn0, hn1, hn2, hn3⟩ := hnm
    have hin : ∀ o ∈ l, o.in_ s.al s.ah := fun o h => (offers_in HOL.out o h).1
    have HDE := Lib.hid (fun tin w2 (hb : Below w1.heap.size w1 w2) => dearest_any s a len cap g cap' l tin n w2 hn1 ⟨by omega, by omega⟩ ⟨hn2, hn3⟩ (by omega) hin (Nat.lt_of_lt_of_le hglt hb.size) (fun j u hj => (hb.cell (p := ⟨g, j, none⟩) hglt).trans (hcg j u hj)))
    have HN0 := Lib.hid hn0
    have HN1 := Lib.hid hn1
    clear hn0 hn1 hin hrow hc1 hf1 hbx
    cases l with
    | nil =>
      have HK := Lib.hid (show knownTwo (knownOf s []) = (#[.int .i64 0, .int .i64 0], false) from rfl)
      go_wp2_with fail
      refine bodyPost_ret (v := .tuple #[.agg #[.int .i64 0, .int .i64 0], .bool false]) (by simp [results, Try.results91, go_sem, q2, q3, hr0, hr1, hrf]) rfl ⟨⟨[], HOL.out, by rw [HK.out]⟩, ?_⟩
      exact (hbw.setCell (by simp) _).setCell (by simp) _
    | cons o r =>
      have hcost : w1.cell? ⟨g, 0, none⟩ = some (.int .i64 o.c) := hcg 0 _ rfl
      have HKN := Lib.hid (show knownOf s (o :: r) = (mostOf s.al (s.ah - s.al + 1).toNat (o :: r) (s.th - s.tl + 1).toNat s.tl).map fun h => (o.c, h) from rfl)
      generalize hl1 : (o :: r).length = L at *
      have hLp : 0 < L := by rw [← hl1]; simp
      have hl0 : ((L : Int) == 0) = false := by simp; omega
      clear hcg hl1
      generalize hlr : o :: r = l at *
      have HLR := Lib.hid hlr
      clear hlr
      go_wp2
      obtain ⟨W0, hW0⟩ : ∃ W0, w1.alloc (.cells #[.int .i64 o.c, .int .i64 0] 23) = W0 := ⟨_, rfl⟩
      have hz0 : W0.heap.size = w1.heap.size + 1 := by rw [← hW0]; simp
      have hB1 : Below w1.heap.size w1 W0 := by rw [← hW0]; exact (Below.refl _ w1).alloc (Nat.le_refl _) _
      have p0 : W0.cell? ⟨w1.heap.size, 0, none⟩ = some (.int .i64 o.c) := by rw [← hW0, World.cell?_alloc_new]; rfl
      have p1 : W0.cell? ⟨w1.heap.size, 1, none⟩ = some (.int .i64 0) := by rw [← hW0, World.cell?_alloc_new]; rfl
      have pf : W0.frozen? ⟨w1.heap.size, 1, none⟩ = false := by rw [← hW0]; simp
      rw [hW0]
      clear hW0
      go_loopw [6] (fun i wr => ∃ (m : Nat) (h : Int), (m : Int) ≤ s.th - s.tl + 1 ∧ i = .int .i64 (s.tl + m) ∧ Hid (mostOf s.al n l m s.tl = some h) ∧ Below w1.heap.size w1 wr ∧ W0.heap.size ≤ wr.heap.size ∧ wr.cell? ⟨w1.heap.size, 0, none⟩ = some (.int .i64 o.c) ∧ wr.cell? ⟨w1.heap.size, 1, none⟩ = some (.int .i64 h) ∧ wr.frozen? ⟨w1.heap.size, 1, none⟩ = false) (fun i _ => (s.th + 1 - intOf i).toNat)
      case atStart => exact ⟨0, 0, by omega, by simp, Lib.hid rfl, hB1, Nat.le_refl _, p0, p1, pf⟩
      case round =>
        obtain ⟨m, h, hm, rfl, HM, hB, hz, p0, p1, pf⟩ := hrel
        clear hB1
        have y0 := (hB.cell (p := ⟨w.heap.size, 0, none⟩) q2).trans x0; have y1 := (hB.cell (p := ⟨w.heap.size, 1, none⟩) q2).trans x1; have y2 := (hB.cell (p := ⟨w.heap.size, 2, none⟩) q2).trans x2; have y3 := (hB.cell (p := ⟨w.heap.size, 3, none⟩) q2).trans x3; have y4 := (hB.cell (p := ⟨w.heap.size, 4, none⟩) q2).trans x4; have y5 := (hB.cell (p := ⟨w.heap.size, 5, none⟩) q2).trans x5; have y6 := (hB.cell (p := ⟨w.heap.size, 6, none⟩) q2).trans x6; have y7 := (hB.cell (p := ⟨w.heap.size, 7, none⟩) q2).trans x7; have y8 := (hB.cell (p := ⟨w.heap.size, 8, none⟩) q2).trans x8; have y9 := (hB.cell (p := ⟨w.heap.size, 9, none⟩) q2).trans x9; have y10 := (hB.cell (p := ⟨w.heap.size, 10, none⟩) q2).trans x10
        have r0 := (hB.cell (p := ⟨w.heap.size + 1, 0, none⟩) q3).trans hr0
        have r1 := (hB.cell (p := ⟨w.heap.size + 1, 1, none⟩) q3).trans hr1
        have rf : ∀ i, wr.frozen? ⟨w.heap.size + 1, i, none⟩ = false := fun i => (hB.frozen (p := ⟨w.heap.size + 1, i, none⟩) q3).trans (hrf i)
        have hbr : Below w.heap.size w wr := hbw.trans (hB.mono hbw.size)
        by_cases hlt : s.tl + m ≤ s.th
        · rcases hd : dearOf (s.tl + m) s.al n [] l with - | c
          · have HD := Lib.hid hd
            have HK := Lib.hid (show knownTwo (knownOf s l) = (#[.int .i64 0, .int .i64 0], false) by
              have e1 := mostOf_none s.al n l s.tl (m + 1) (mostOf_stop s.al n l s.tl m hd) ((s.th - s.tl + 1).toNat - (m + 1))
              rw [show m + 1 + ((s.th - s.tl + 1).toNat - (m + 1)) = (s.th - s.tl + 1).toNat by omega] at e1
              rw [HKN.out, HN0.out, e1]; rfl)
            clear hd
            go_wp2_with (go_at_call 109; refine (HDE.out (s.tl + m) _ hB).mono ?_; rintro e w3 ⟨rfl, hb3⟩; rw [HD.out]; simp only [dearTwo]; have t0 := ((hb3.cell (p := ⟨w.heap.size + 1, 0, none⟩) (Nat.lt_of_lt_of_le q3 hB.size)).trans r0); have t1 := ((hb3.cell (p := ⟨w.heap.size + 1, 1, none⟩) (Nat.lt_of_lt_of_le q3 hB.size)).trans r1); have tf : ∀ i, w3.frozen? ⟨w.heap.size + 1, i, none⟩ = false := (fun i => (hb3.frozen (p := ⟨w.heap.size + 1, i, none⟩) (Nat.lt_of_lt_of_le q3 hB.size)).trans (rf i)); have hbx3 := hbr.trans (hb3.mono hbr.size); clear hb3)
            refine bodyPost_ret (v := .tuple #[.agg #[.int .i64 0, .int .i64 0], .bool false]) (by simp [results, Try.results91, go_sem, t0, t1, tf]) rfl ⟨⟨l, HOL.out, by rw [HK.out]⟩, ?_⟩
            exact (hbx3.setCell (by simp) _).setCell (by simp) _
          · have HD := Lib.hid hd
            have HM2 := Lib.hid (mostOf_some s.al n l s.tl h c m HM.out hd)
            clear hd
            have hq1 : w1.heap.size < wr.heap.size := by omega
            rcases Int.lt_or_le h c with hmx | hmx
            · have HMX := Lib.hid (show maxI h c = c by unfold maxI; split <;> omega)
              go_wp2_with (go_at_call 109; refine (HDE.out (s.tl + m) _ hB).mono ?_; rintro e w3 ⟨rfl, hb3⟩; rw [HD.out]; simp only [dearTwo]; have t0 := ((hb3.cell (p := ⟨w1.heap.size, 0, none⟩) hq1).trans p0); have t1 := ((hb3.cell (p := ⟨w1.heap.size, 1, none⟩) hq1).trans p1); have tf := ((hb3.frozen (p := ⟨w1.heap.size, 1, none⟩) hq1).trans pf); have hbx3 := hB.trans (hb3.mono hB.size); have hzx := hb3.size; clear hb3)
              go_roundw
              case rel => exact ⟨m + 1, c, by omega, by simp; omega, by rw [← HMX.out]; exact HM2, hbx3.setCell (Nat.le_refl _) _, by simp; omega, by go_simp, by go_simp; omega, by go_simp⟩
              case measure => simp [intOf]; omega
            · have HMX := Lib.hid (show maxI h c = h by unfold maxI; split <;> omega)
              go_wp2_with (go_at_call 109; refine (HDE.out (s.tl + m) _ hB).mono ?_; rintro e w3 ⟨rfl, hb3⟩; rw [HD.out]; simp only [dearTwo]; have t0 := ((hb3.cell (p := ⟨w1.heap.size, 0, none⟩) hq1).trans p0); have t1 := ((hb3.cell (p := ⟨w1.heap.size, 1, none⟩) hq1).trans p1); have tf := ((hb3.frozen (p := ⟨w1.heap.size, 1, none⟩) hq1).trans pf); have hbx3 := hB.trans (hb3.mono hB.size); have hzx := hb3.size; clear hb3)
              go_roundw
              case rel => exact ⟨m + 1, h, by omega, by simp; omega, by rw [← HMX.out]; exact HM2, hbx3.setCell (Nat.le_refl _) _, by simp; omega, by go_simp, by go_simp; omega, by go_simp⟩
              case measure => simp [intOf]; omega
        · have hme : (s.th - s.tl + 1).toNat = m := by omega
          have HK := Lib.hid (show knownTwo (knownOf s l) = (#[.int .i64 o.c, .int .i64 h], true) by rw [HKN.out, HN0.out, hme, HM.out]; rfl)
          clear hme
          go_wp2
          refine bodyPost_ret (v := .tuple #[.agg #[.int .i64 o.c, .int .i64 h], .bool true]) (by simp [results, Try.results91, go_sem, r0, r1, rf]) rfl ⟨⟨l, HOL.out, by rw [HK.out]⟩, ?_⟩
          exact (hbr.setCell (by simp) _).setCell (by simp) _
end Go.Proofs.Ytajabapcmpmboaa

/- The offers' order among those that cost as much doesn't matter. -/
namespace Go.Proofs.Ytajabapcmpmboaa
set_option linter.unusedVariables false
set_option linter.unusedSimpArgs false
open Go.RowKit

/-- Each truth with so much tin has an offer. -/
def Full (tin al : Int) (n : Nat) (l : List Offer) : Prop := ∀ i, i < n → cover tin l (al + i) = true
theorem full_iff (tin al : Int) (n : Nat) (l : List Offer) : unmet (marks tin al n l 0 0) = 0 ↔ Full tin al n l := by
  unfold unmet Full
  rw [List.countP_eq_zero]
  constructor
  · intro h i hi
    have := h (cover tin l (al + i)) (by
      refine List.mem_iff_getElem?.2 ⟨i, ?_⟩
      rw [marks_get _ _ _ _ _ _ _ hi]
      rw [show decide ((0 : Int) ≤ al + i ∧ al + (i : Int) < 0) = false by simp]; simp)
    simpa using this
  · intro h b hb
    obtain ⟨i, hi⟩ := List.mem_iff_getElem?.1 hb
    have hin : i < n := by have := (List.getElem?_eq_some_iff.1 hi).1; rwa [marks_len] at this
    rw [marks_get _ _ _ _ _ _ _ hin] at hi
    have : b = true := by rw [← Option.some.inj hi, h i hin]; rfl
    simp [this]
theorem Full.mono {tin al : Int} {n : Nat} {l l' : List Offer} (h : Full tin al n l) (hs : ∀ o ∈ l, o ∈ l') : Full tin al n l' := fun i hi => by
  have := h i hi
  unfold cover at *
  obtain ⟨o, ho, hp⟩ := List.any_eq_true.1 this
  exact List.any_eq_true.2 ⟨o, hs o ho, hp⟩
theorem dear_some {tin al : Int} {n : Nat} {c : Int} : ∀ (pre r : List Offer), dearOf tin al n pre r = some c → ∃ k, ∃ h : k < r.length, r[k].c = c ∧ Full tin al n (pre ++ r.take (k + 1)) ∧ ∀ j, 1 ≤ j → j ≤ k → ¬ Full tin al n (pre ++ r.take j)
  | _, [], h => by simp [dearOf] at h
  | pre, o :: r, h => by
    rw [dearOf] at h
    by_cases hf : unmet (marks tin al n (pre ++ [o]) 0 0) = 0
    · rw [if_pos hf] at h
      exact ⟨0, by simp, by simpa using h, by simpa using (full_iff _ _ _ _).1 hf, fun j h1 h2 => by omega⟩
    · rw [if_neg hf] at h
      obtain ⟨k, hk, h1, h2, h3⟩ := dear_some (pre ++ [o]) r h
      refine ⟨k + 1, by simp; omega, by simpa using h1, by simpa using h2, fun j h4 h5 => ?_⟩
      cases j with
      | zero => omega
      | succ j =>
        cases j with
        | zero => rw [full_iff] at hf; simpa using hf
        | succ j => have := h3 (j + 1) (by omega) (by omega); simpa using this
theorem dear_none {tin al : Int} {n : Nat} : ∀ (pre r : List Offer), dearOf tin al n pre r = none → ∀ j, 1 ≤ j → j ≤ r.length → ¬ Full tin al n (pre ++ r.take j)
  | _, [], _, j, h1, h2 => by simp at h2; omega
  | pre, o :: r, h, j, h1, h2 => by
    rw [dearOf] at h
    by_cases hf : unmet (marks tin al n (pre ++ [o]) 0 0) = 0
    · rw [if_pos hf] at h; cases h
    · rw [if_neg hf] at h
      cases j with
      | zero => omega
      | succ j =>
        cases j with
        | zero => rw [full_iff] at hf; simpa using hf
        | succ j => have := dear_none (pre ++ [o]) r h (j + 1) (by omega) (by simp at h2; omega); simpa using this
/-- What the cheapest offers that do in all these truths cost. -/
def lev (c : Int) (l : List Offer) : List Offer := l.filter fun o => decide (o.c ≤ c)
def DearIs (tin al : Int) (n : Nat) (l : List Offer) : Option Int → Prop
  | some c => Full tin al n (lev c l) ∧ ∀ c', c' < c → ¬ Full tin al n (lev c' l)
  | none => ¬ Full tin al n l
theorem dear_is {tin al : Int} {n : Nat} (hn : 1 ≤ n) {l : List Offer} (hs : l.Pairwise fun x y => x.c ≤ y.c) (R : Option Int) (h : dearOf tin al n [] l = R) : DearIs tin al n l R := by
  have hnil : ¬ Full tin al n [] := fun h => by have := h 0 (by omega); simp [cover] at this
  cases R with
  | none =>
    intro hf
    cases l with
    | nil => exact hnil hf
    | cons o r => exact dear_none [] (o :: r) h (o :: r).length (by simp) (Nat.le_refl _) (by simpa using hf)
  | some c =>
    obtain ⟨k, hk, h1, h2, h3⟩ := dear_some [] l h
    rw [List.pairwise_iff_getElem] at hs
    refine ⟨h2.mono fun o ho => ?_, fun c' hc hf => ?_⟩
    · simp only [List.nil_append] at ho
      obtain ⟨j, hj, rfl⟩ := List.getElem_of_mem ho
      have hj2 : j < l.length ∧ j < k + 1 := by simp at hj; omega
      rw [List.getElem_take]
      refine List.mem_filter.2 ⟨List.getElem_mem _, ?_⟩
      by_cases e : j = k
      · subst e; simp [h1]
      · have := hs j k hj2.1 hk (by omega); simp; omega
    · have hf2 : Full tin al n (l.take k) := hf.mono fun o ho => by
        obtain ⟨h4, h5⟩ := List.mem_filter.1 ho
        obtain ⟨j, hj, rfl⟩ := List.getElem_of_mem h4
        have hjk : j < k := by
          rcases Nat.lt_or_ge j k with h | h
          · exact h
          · rcases Nat.eq_or_lt_of_le h with e | h
            · subst e; simp at h5; omega
            · have := hs k j hk hj h; simp at h5; omega
        exact List.mem_take_iff_getElem.2 ⟨j, by omega, rfl⟩
      by_cases e : k = 0
      · subst e; exact hnil (by simpa using hf2)
      · exact h3 k (by omega) (Nat.le_refl _) (by simpa using hf2)
theorem lev_mem {c : Int} {l l' : List Offer} (h : ∀ o, o ∈ l ↔ o ∈ l') : ∀ o ∈ lev c l, o ∈ lev c l' := fun o ho => by
  obtain ⟨h1, h2⟩ := List.mem_filter.1 ho
  exact List.mem_filter.2 ⟨(h o).1 h1, h2⟩
theorem dear_perm {tin al : Int} {n : Nat} (hn : 1 ≤ n) {l l' : List Offer} (hs : l.Pairwise fun x y => x.c ≤ y.c) (hs' : l'.Pairwise fun x y => x.c ≤ y.c) (hp : ∀ o, o ∈ l ↔ o ∈ l') : dearOf tin al n [] l = dearOf tin al n [] l' := by
  have h1 := dear_is (tin := tin) (al := al) hn hs _ rfl
  have h2 := dear_is (tin := tin) (al := al) hn hs' _ rfl
  have lall : ∀ c (l : List Offer), Full tin al n (lev c l) → Full tin al n l := fun c l h => h.mono fun o ho => (List.mem_filter.1 ho).1
  cases e1 : dearOf tin al n [] l with
  | none =>
    rw [e1] at h1
    cases e2 : dearOf tin al n [] l' with
    | none => rfl
    | some c => rw [e2] at h2; exact absurd ((lall _ _ h2.1).mono fun o ho => (hp o).2 ho) h1
  | some c =>
    rw [e1] at h1
    cases e2 : dearOf tin al n [] l' with
    | none => rw [e2] at h2; exact absurd ((lall _ _ h1.1).mono fun o ho => (hp o).1 ho) h2
    | some c' =>
      rw [e2] at h2
      rcases Int.lt_trichotomy c c' with h | h | h
      · exact absurd (h1.1.mono (lev_mem hp)) (h2.2 c h)
      · rw [h]
      · exact absurd (h2.1.mono (lev_mem fun o => (hp o).symm)) (h1.2 c' h)
theorem most_perm {al : Int} {n : Nat} (hn : 1 ≤ n) {l l' : List Offer} (hs : l.Pairwise fun x y => x.c ≤ y.c) (hs' : l'.Pairwise fun x y => x.c ≤ y.c) (hp : ∀ o, o ∈ l ↔ o ∈ l') (tl : Int) : ∀ m, mostOf al n l m tl = mostOf al n l' m tl
  | 0 => rfl
  | m + 1 => by rw [mostOf, mostOf, most_perm hn hs hs' hp tl m, dear_perm hn hs hs' hp]
theorem known_perm {s : Shop} (ho : s.ok = true) {l l' : List Offer} (h : OffersOf s l) (h' : OffersOf s l') : knownOf s l = knownOf s l' := by
  have hp : ∀ o, o ∈ l ↔ o ∈ l' := fun o => h.1.mem_iff.trans h'.1.mem_iff.symm
  have hbd := Shop.ok_bd ho
  cases l with
  | nil =>
    cases l' with
    | nil => rfl
    | cons o r => exact absurd ((hp o).2 (List.mem_cons_self ..)) (by simp)
  | cons o r =>
    cases l' with
    | nil => exact absurd ((hp o).1 (List.mem_cons_self ..)) (by simp)
    | cons o' r' =>
      have e : o.c = o'.c := by
        have h1 := (List.pairwise_cons.1 h.2).1
        have h2 := (List.pairwise_cons.1 h'.2).1
        have h3 := (hp o).1 (List.mem_cons_self ..)
        have h4 := (hp o').2 (List.mem_cons_self ..)
        rcases List.mem_cons.1 h3 with rfl | h3
        · rfl
        · rcases List.mem_cons.1 h4 with rfl | h4
          · rfl
          · have := h2 _ h3; have := h1 _ h4; omega
      unfold knownOf
      simp only
      rw [most_perm (by omega) h.2 h'.2 hp, e]
def Shop.sorted (s : Shop) : List Offer := (s.offersOf ((allL s.most).filter s.room?)).mergeSort fun x y => decide (x.c ≤ y.c)
theorem sorted_is (s : Shop) : OffersOf s s.sorted := by
  refine ⟨List.mergeSort_perm _ _, ?_⟩
  have h := List.pairwise_mergeSort (le := fun x y : Offer => decide (x.c ≤ y.c)) (by intro a b c; simp; omega) (by intro a b; simp; omega) (s.offersOf ((allL s.most).filter s.room?))
  exact h.imp fun hh => by simpa using hh
def Shop.knownR (s : Shop) : Option (Int × Int) := knownOf s s.sorted
end Go.Proofs.Ytajabapcmpmboaa
