/- What the offer costs by which the last of the truths with so much tin gets one: the walk. -/
import Derived.Test.YtojmimfjnnibdaaKD
namespace Go.Proofs.Ytojmimfjnnibdaa
set_option linter.unusedVariables false
set_option linter.unusedSimpArgs false
open Go.RowKit

def Met (w : World) (M : Nat) (bs : List Bool) : Prop := w.heap[M]? = some (.cells (bs.map Value.bool).toArray 4 (0, 0))
theorem Met.cell {w : World} {M : Nat} {bs : List Bool} (h : Met w M bs) (j : Nat) (b : Bool) (hb : bs[j]? = some b) : w.cell? ⟨M, j, none⟩ = some (.bool b) ∧ w.frozen? ⟨M, j, none⟩ = false := by
  unfold Met at h; simp [World.cell?, World.frozen?, h, hb]
theorem Met.below {w w' : World} {M B : Nat} {bs : List Bool} (h : Met w M bs) (hb : Below B w w') (hM : M < B) : Met w' M bs := (hb.block _ hM).trans h
theorem Met.set {w : World} {M : Nat} {bs : List Bool} (h : Met w M bs) (j : Nat) : Met (w.setCell ⟨M, j, none⟩ (.bool true)) M (bs.set j true) := by
  have := set_one j (.bool true) h
  unfold Met; rw [this]; simp [List.map_set]
theorem met_made (w : World) (n : Nat) : Met (w.alloc (.cells (madeCells #[.bool false] n) 4)) w.heap.size (List.replicate n false) := by
  unfold Met
  rw [World.alloc_heap_new]
  congr 2
  refine Array.ext (by simp [size_madeCells]) fun i h1 h2 => ?_
  simp [madeCells, Nat.mod_one]
theorem unmet_rep (n : Nat) : unmet (List.replicate n false) = n := by simp [unmet, List.countP_replicate]
theorem ret_dear {c : Int} {b : Bool} {x : Option Int} (h : dearTwo x = (c, b)) : Ending.returned (.tuple #[.int .i64 c, .bool b]) = .returned (.tuple #[.int .i64 (dearTwo x).1, .bool (dearTwo x).2]) := by rw [h]

set_option maxHeartbeats 2000000 in
theorem dearest_any (s : Shop) (a : Option Addr) (len cap : Nat) (g ocap : Nat) (l : List Offer) (tin : Int) (n : Nat) (w : World) (hn : s.ah = s.al + n - 1) (h0 : 0 ≤ s.al ∧ s.al ≤ 400) (hn1 : 1 ≤ n ∧ n ≤ 1000)
    (hl : l.length ≤ 100000) (hin : ∀ o ∈ l, o.in_ s.al s.ah) (hg : g < w.heap.size) (hc : ∀ j u, (l.flatMap Offer.cells)[j]? = some u → w.cell? ⟨g, j, none⟩ = some u) :
    Calls Try.prog 109 #[.agg #[.int .i64 s.P, .int .i64 s.tl, .int .i64 s.th, .int .i64 s.al, .int .i64 s.ah, .int .i64 s.room, .int .i64 s.xl, .int .i64 s.xh, .int .i64 s.yl, .int .i64 s.yh, .slice a len cap], .slice (some ⟨g, 0, none⟩) l.length ocap, .int .i64 tin] w fun e w' => e = .returned (.tuple #[.int .i64 (dearTwo (dearOf tin s.al n [] l)).1, .bool (dearTwo (dearOf tin s.al n [] l)).2]) ∧ Below w.heap.size w w' := by
  have hmk := fun W1 => run_make_row' (P := Try.prog) 122 4 (.bool false) 1 Try.underlying122 (by kernel_rfl) rfl .i64 .i64 n (by omega) (by omega) W1
  rw [show (n : Int) = s.ah - s.al + 1 by omega] at hmk
  generalize hR : dearOf tin s.al n [] l = R at *
  have HR := Lib.hid hR
  clear hR
  obtain ⟨h01, h02⟩ := h0
  have hah : s.ah ≤ 1400 := by omega
  have hah2 : s.al ≤ s.ah := by omega
  have HN := Lib.hid hn
  clear hn
  go_enter Try.func109, Try.ntmps109
  go_wp2
  obtain ⟨W0, hW0⟩ : ∃ W0, (w.alloc (.cells #[.int .i64 s.P, .int .i64 s.tl, .int .i64 s.th, .int .i64 s.al, .int .i64 s.ah, .int .i64 s.room, .int .i64 s.xl, .int .i64 s.xh, .int .i64 s.yl, .int .i64 s.yh, .slice a len cap] 78)).alloc (.cells (madeCells #[.bool false] n) 4) = W0 := ⟨_, rfl⟩
  have hz0 : W0.heap.size = w.heap.size + 2 := by rw [← hW0]; simp
  have hB0 : Below w.heap.size w W0 := by rw [← hW0]; exact (by repeat (first | exact Below.refl _ _ | (refine Below.alloc ?_ (by first | omega | (simp; omega) | simp) _) | (refine Below.setCell ?_ (by first | omega | (simp; omega) | simp) _) | refine Below.drew ?_))
  have hM0 : Met W0 (w.heap.size + 1) (List.replicate n false) := by
    rw [← hW0]; have h := met_made (w.alloc (.cells #[.int .i64 s.P, .int .i64 s.tl, .int .i64 s.th, .int .i64 s.al, .int .i64 s.ah, .int .i64 s.room, .int .i64 s.xl, .int .i64 s.xh, .int .i64 s.yl, .int .i64 s.yh, .slice a len cap] 78)) n; rwa [World.size_alloc] at h
  rw [hW0]
  clear hW0 hmk
  go_loopw [10, 32] (fun v i wr => ∃ k : Nat, k ≤ l.length ∧ i = .int .i64 k ∧ v = .int .i64 (unmet (marks tin s.al n (l.take k) 0 0) : Nat) ∧ Met wr (w.heap.size + 1) (marks tin s.al n (l.take k) 0 0) ∧ Below w.heap.size w wr ∧ W0.heap.size ≤ wr.heap.size ∧ 0 < unmet (marks tin s.al n (l.take k) 0 0) ∧ Hid (dearOf tin s.al n (l.take k) (l.drop k) = R)) (fun _ i _ => l.length - (intOf i).toNat)
  case atStart => exact ⟨0, Nat.zero_le _, rfl, by rw [List.take_zero, marks_start, unmet_rep], by rw [List.take_zero, marks_start]; exact hM0, hB0, Nat.le_refl _, by rw [List.take_zero, marks_start, unmet_rep]; omega, HR⟩
  case round =>
    obtain ⟨k, hk, rfl, rfl, hM, hB, hz, hnz, HD⟩ := hrel
    clear hM0
    by_cases hlt : k < l.length
    · have hcx : ∀ j u, (l[k].cells)[j]? = some u → wr.cell? ⟨g, k * 5 + j, none⟩ = some u := fun j u hj => (hB.cell (p := ⟨g, k * 5 + j, none⟩) hg).trans (hc _ _ (by
        have hj5 : j < 5 := by have := (List.getElem?_eq_some_iff.1 hj).1; simpa [Offer.cells] using this
        rw [flat_get l (k * 5 + j) (by omega)]
        have e1 : (k * 5 + j) / 5 = k := by omega
        have e2 : (k * 5 + j) % 5 = j := by omega
        rw [e1, e2, ← hj, List.getElem?_eq_getElem hlt]
        have hj6 : j < l[k].cells.length := by simp [Offer.cells]; exact hj5
        simp [hj6]))
      have ho := hin l[k] (List.getElem_mem hlt)
      have HDROP := Lib.hid (dearOf_drop tin s.al n l k hlt)
      have HT := Lib.hid (List.take_succ_eq_append_getElem hlt)
      generalize l[k] = o at *
      have c0 : wr.cell? ⟨g, k * 5, none⟩ = some (.int .i64 o.c) := hcx 0 _ rfl
      have c1 : wr.cell? ⟨g, k * 5 + 1, none⟩ = some (.int .i64 o.tl) := hcx 1 _ rfl
      have c2 : wr.cell? ⟨g, k * 5 + 2, none⟩ = some (.int .i64 o.th) := hcx 2 _ rfl
      have c3 : wr.cell? ⟨g, k * 5 + 3, none⟩ = some (.int .i64 o.al) := hcx 3 _ rfl
      have c4 : wr.cell? ⟨g, k * 5 + 4, none⟩ = some (.int .i64 o.ah) := hcx 4 _ rfl
      obtain ⟨o1, o2, o3⟩ := ho
      clear hcx
      have hul := unmet_le (marks tin s.al n (l.take k) 0 0)
      rw [marks_len] at hul
      rcases ht : btw tin o.tl o.th with - | -
      · have HB := Lib.hid (between_is tin o.tl o.th false ht)
        have HMK := Lib.hid (show marks tin s.al n (l.take (k + 1)) 0 0 = marks tin s.al n (l.take k) 0 0 by rw [HT.out]; exact marks_past _ _ _ _ _ _ ht)
        clear ht
        go_wp2_with (go_at_call 110; refine (HB.out _).mono ?_; rintro e w4 ⟨rfl, rfl⟩)
        go_roundw
        case rel => exact ⟨k + 1, by omega, by go_num, by rw [HMK.out], by rw [HMK.out]; exact hM.below (Below.refl _ wr |>.alloc (Nat.le_refl _) _) (by omega), hB.trans (by repeat (first | exact Below.refl _ _ | (refine Below.alloc ?_ (by first | omega | (simp; omega) | simp) _) | (refine Below.setCell ?_ (by first | omega | (simp; omega) | simp) _) | refine Below.drew ?_)), by simp; omega, by rw [HMK.out]; exact hnz, Lib.hid (by rw [← HD.out, HDROP.out, if_neg (by rw [HMK.out]; omega)])⟩
        case measure => simp [intOf]; omega
      · have HB := Lib.hid (between_is tin o.tl o.th true ht)
        have HMK := Lib.hid (fun x (hx : x = o.ah + 1) => show marks tin s.al n (l.take k) o.al x = marks tin s.al n (l.take (k + 1)) 0 0 by rw [HT.out]; exact marks_done _ _ _ _ _ _ _ ht hx)
        have HM0 := Lib.hid (marks_none tin s.al n (l.take k) 0 o.al)
        clear ht
        go_wp2_with (go_at_call 110; refine (HB.out _).mono ?_; rintro e w4 ⟨rfl, rfl⟩)
        obtain ⟨wo, hwo⟩ : ∃ wo, wr.alloc (.cells #[.int .i64 o.c, .int .i64 o.tl, .int .i64 o.th, .int .i64 o.al, .int .i64 o.ah] 118) = wo := ⟨_, rfl⟩
        have hzo : wo.heap.size = wr.heap.size + 1 := by rw [← hwo]; simp
        have hBo : Below w.heap.size w wo := by rw [← hwo]; exact hB.alloc hB.size _
        have hMo : Met wo (w.heap.size + 1) (marks tin s.al n (l.take k) o.al o.al) := by rw [← HM0.out, ← hwo]; exact hM.below ((Below.refl _ wr).alloc (Nat.le_refl _) _) (by omega)
        have hco : ∀ j u, (#[.int .i64 o.c, .int .i64 o.tl, .int .i64 o.th, .int .i64 o.al, .int .i64 o.ah] : Array Value)[j]? = some u → wo.cell? ⟨wr.heap.size, j, none⟩ = some u := fun j u h => by rw [← hwo, World.cell?_alloc_new]; exact h
        have hco0 : wo.cell? ⟨wr.heap.size, 0, none⟩ = some (.int .i64 o.c) := hco 0 _ rfl
        have hco4 : wo.cell? ⟨wr.heap.size, 4, none⟩ = some (.int .i64 o.ah) := hco 4 _ rfl
        rw [hwo]
        clear hwo hco c0 c1 c2 c3 c4
        go_loopw [10, 13] (fun v i wq => ∃ x : Int, o.al ≤ x ∧ x ≤ o.ah + 1 ∧ i = .int .i64 x ∧ v = .int .i64 (unmet (marks tin s.al n (l.take k) o.al x) : Nat) ∧ Met wq (w.heap.size + 1) (marks tin s.al n (l.take k) o.al x) ∧ Below w.heap.size w wq ∧ wo.heap.size ≤ wq.heap.size ∧ wq.cell? ⟨wr.heap.size, 0, none⟩ = some (.int .i64 o.c) ∧ wq.cell? ⟨wr.heap.size, 4, none⟩ = some (.int .i64 o.ah)) (fun _ i _ => (o.ah + 1 - intOf i).toNat)
        case atStart => exact ⟨o.al, by omega, by omega, rfl, by rw [HM0.out], hMo, hBo, Nat.le_refl _, hco0, hco4⟩
        case round =>
          obtain ⟨x, hx1, hx2, rfl, rfl, hMq, hBq, hzq, q0, q4⟩ := hrel
          clear hMo hBo hco0 hco4 hM
          have hul2 := unmet_le (marks tin s.al n (l.take k) o.al x)
          rw [marks_len] at hul2
          by_cases hxl : x ≤ o.ah
          · obtain ⟨j, hj⟩ : ∃ j : Nat, x = s.al + j := ⟨(x - s.al).toNat, by omega⟩
            have hjn : j < n := by have := HN.out; omega
            have HJ := Lib.hid hj
            have hjx : x - s.al = (j : Int) := by omega
            have hj1 : (0 : Int) ≤ x - s.al := by omega
            rcases hb : (marks tin s.al n (l.take k) o.al x)[j]? with - | b
            · rw [List.getElem?_eq_none_iff, marks_len] at hb; omega
            · have hjt : (x - s.al).toNat = j := by omega
              obtain ⟨hcell, hfz⟩ := hMq.cell j b hb
              rw [← hjt] at hcell hfz
              have hjl : x - s.al < (n : Int) := by omega
              cases b with
              | true =>
                have HX := Lib.hid (marks_same tin s.al n (l.take k) o.al x j hj hb)
                clear hjx hj hb hjt
                go_wp2
                go_roundw
                case rel => exact ⟨x + 1, by omega, by omega, rfl, by rw [HX.out], by rw [HX.out]; exact hMq, hBq, hzq, q0, q4⟩
                case measure => simp [intOf]; omega
              | false =>
                have HX := Lib.hid (marks_set tin s.al n (l.take k) o.al x j hjn hj hx1)
                have HU := Lib.hid (unmet_set _ j hb)
                have hS := hMq.set j
                rw [← hjt] at hS
                have HS := Lib.hid hS
                have HJT := Lib.hid hjt
                clear hjx hj hb hjt hS
                go_wp2
                go_roundw
                case rel =>
                  have e2 := HU.out
                  refine ⟨x + 1, by omega, by omega, rfl, ?_, ?_, hBq.trans (by repeat (first | exact Below.refl _ _ | (refine Below.alloc ?_ (by first | omega | (simp; omega) | simp) _) | (refine Below.setCell ?_ (by first | omega | (simp; omega) | simp) _) | refine Below.drew ?_)), by simpa using hzq, ?_, ?_⟩
                  · rw [HX.out] at e2
                    rw [← e2]; simp
                  · rw [← HX.out, ← HJT.out]; have := HS.out; rwa [HJT.out] at this ⊢
                  · exact (World.cell?_of_block (Below.heap_setCell _ _ _ _ (by simp; omega))).trans q0
                  · exact (World.cell?_of_block (Below.heap_setCell _ _ _ _ (by simp; omega))).trans q4
                case measure => simp [intOf]; omega
          · have hxe : x = o.ah + 1 := by omega
            have HU := HMK.out x hxe
            rw [HU]
            rw [HU] at hMq
            clear HU hul2
            by_cases hu : unmet (marks tin s.al n (l.take (k + 1)) 0 0) = 0
            · have HE := Lib.hid (show R = some o.c by rw [← HD.out, HDROP.out, if_pos hu])
              rw [hu]
              clear hu
              go_wp2
              go_ret2
              exact ⟨by rw [HE.out]; rfl, hBq⟩
            · have HE := Lib.hid (show dearOf tin s.al n (l.take (k + 1)) (l.drop (k + 1)) = R by rw [← HD.out, HDROP.out, if_neg hu])
              have e1 : (((unmet (marks tin s.al n (l.take (k + 1)) 0 0) : Nat) : Int) == 0) = false := by simpa using hu
              go_wp2
              go_roundw
              case rel => exact ⟨k + 1, by omega, by go_num, rfl, hMq, hBq, by omega, by omega, HE⟩
              case measure => simp [intOf]; omega
    · have hk' : k = l.length := by omega
      subst hk'
      have HE := Lib.hid (show R = none by rw [← HD.out, List.drop_length]; rfl)
      go_wp2
      go_ret2
      exact ⟨by rw [HE.out]; rfl, hB⟩
end Go.Proofs.Ytojmimfjnnibdaa
