/- Package changes: slices.MinFunc of remedies; least. -/
import Derived.Test.YtedfdhpggghjeaaDE
import Derived.Test.YtedfdhpggghjeaaDB
namespace Go.Proofs.Ytedfdhpggghjeaa
set_option linter.unusedVariables false
set_option linter.unusedSimpArgs false
open Go.RowKit Go.Shelf

theorem minR_snoc (h : CHouse) (x : Nat) (l : List Nat) (y : Nat) : h.minR x (l ++ [y]) = if h.lessR y (h.minR x l) = true then y else h.minR x l := by
  unfold CHouse.minR; rw [List.foldl_append]; rfl
theorem take_snoc (h : CHouse) (x : Rem) (l : List Rem) (k : Nat) (hk : k < l.length) : h.minR x.x ((l.take (k + 1)).map Rem.x) = if h.lessR l[k].x (h.minR x.x ((l.take k).map Rem.x)) = true then l[k].x else h.minR x.x ((l.take k).map Rem.x) := by
  rw [List.take_succ_eq_append_getElem hk, List.map_append]
  exact minR_snoc h _ _ _

set_option maxRecDepth 100000 in
set_option maxHeartbeats 16000000 in
theorem MinFunc_any (h : CHouse) (h8 : h.things.length ≤ 8) (a : Option Addr) (cap : Nat) (x : Rem) (l : List Rem) (hl : l.length ≤ 300) (B : Nat) (w : World) (hR : RemsAt h B w a (l.length + 1) (x :: l)) :
    Calls Try.prog 94 #[.slice a (l.length + 1 : Nat) cap, .func (.func 97) #[] #[]] w fun e w' => (∃ r : Rem, r ∈ x :: l ∧ r.x = h.minR x.x (l.map Rem.x) ∧ e = .returned (.agg #[.slice r.a (h.pick r.x).length r.n, .int .i64 (h.cost r.x)])) ∧ Below w.heap.size w w' := by
  obtain ⟨-, -, hcell, hints⟩ := hR
  obtain ⟨b, rfl, hb, hcell⟩ := hcell (by omega)
  have HC := Lib.hid hcell
  have HI := Lib.hid hints
  have HPL := Lib.hid (fun (r : Rem) => show (h.pick r.x).length ≤ 100 from Nat.le_trans (Nat.le_trans (numsTo_len _ _) h8) (by omega))
  have HCMP := Lib.hid (fun (r s : Rem) (hr : r ∈ x :: l) (hs : s ∈ x :: l) W (hb : Below w.heap.size w W) => compare_any r.a s.a (h.pick r.x).length r.n (h.pick s.x).length s.n (h.pick r.x) (h.pick s.x) (h.cost r.x) (h.cost s.x) W ((hints r hr).1.below hb) ((hints s hs).1.below hb) (HPL.out r) (HPL.out s))
  have HST := Lib.hid (fun k (hk : k < l.length) => take_snoc h x l k hk)
  have HFU := Lib.hid (show h.minR x.x ((l.take l.length).map Rem.x) = h.minR x.x (l.map Rem.x) by rw [List.take_length])
  have c0 := (hcell 0 (by simp)).1
  have c1 := (hcell 0 (by simp)).2
  simp only [List.getElem_cons_zero, Nat.zero_mul, Nat.zero_add] at c0 c1
  clear hcell hints
  go_enter Try.func94, Try.ntmps94
  go_wp2_with fail
  obtain ⟨W0, hW0, hB0, ⟨q0, q1⟩, ⟨s0, s1⟩, ⟨t0, t1, t2, t3⟩, hz0⟩ : ∃ W0, (w.alloc (.cells #[.slice none 0 0, .int .i64 0] 89)).alloc (.cells #[.slice x.a (h.pick x.x).length x.n, .int .i64 (h.cost x.x)] 89) = W0 ∧ Below w.heap.size w W0 ∧ (W0.cell? ⟨w.heap.size, 0, none⟩ = some (.slice none 0 0) ∧ W0.cell? ⟨w.heap.size, 1, none⟩ = some (.int .i64 0)) ∧ (W0.frozen? ⟨w.heap.size, 0, none⟩ = false ∧ W0.frozen? ⟨w.heap.size, 1, none⟩ = false) ∧
      (W0.cell? ⟨w.heap.size + 1, 0, none⟩ = some (.slice x.a (h.pick x.x).length x.n) ∧ W0.cell? ⟨w.heap.size + 1, 1, none⟩ = some (.int .i64 (h.cost x.x)) ∧ W0.frozen? ⟨w.heap.size + 1, 0, none⟩ = false ∧ W0.frozen? ⟨w.heap.size + 1, 1, none⟩ = false) ∧ W0.heap.size = w.heap.size + 2 :=
    ⟨_, rfl, (by repeat (first | exact Below.refl _ _ | (refine Below.alloc ?_ (by first | omega | (simp; omega) | simp) _) | (refine Below.setCell ?_ (by first | omega | (simp; omega) | simp) _) | refine Below.drew ?_)), ⟨by go_simp, by go_simp⟩, ⟨by go_simp, by go_simp⟩, ⟨by go_simp, by go_simp, by go_simp, by go_simp⟩, by simp⟩
  rw [hW0]
  clear hW0
  have H0 := Lib.hid (And.intro q0 (And.intro q1 (And.intro s0 (And.intro s1 (And.intro t0 (And.intro t1 (And.intro t2 t3)))))))
  have HB0 := Lib.hid hB0
  clear q0 q1 s0 s1 t0 t1 t2 t3 hB0 c0 c1
  go_loopw [6] (fun i wr => ∃ (k : Nat) (r : Rem), k ≤ l.length ∧ i = .int .i64 ((k : Int) + 1) ∧ r ∈ x :: l ∧ r.x = h.minR x.x ((l.take k).map Rem.x) ∧ (wr.cell? ⟨w.heap.size, 0, none⟩ = some (.slice none 0 0) ∧ wr.cell? ⟨w.heap.size, 1, none⟩ = some (.int .i64 0) ∧ wr.frozen? ⟨w.heap.size, 0, none⟩ = false ∧ wr.frozen? ⟨w.heap.size, 1, none⟩ = false ∧
    wr.cell? ⟨w.heap.size + 1, 0, none⟩ = some (.slice r.a (h.pick r.x).length r.n) ∧ wr.cell? ⟨w.heap.size + 1, 1, none⟩ = some (.int .i64 (h.cost r.x)) ∧ wr.frozen? ⟨w.heap.size + 1, 0, none⟩ = false ∧ wr.frozen? ⟨w.heap.size + 1, 1, none⟩ = false) ∧ Below w.heap.size w wr ∧ w.heap.size + 2 ≤ wr.heap.size) (fun i _ => l.length + 1 - (intOf i).toNat)
  case atStart => exact ⟨0, x, by omega, rfl, List.mem_cons_self .., rfl, H0.out, HB0.out, by omega⟩
  case round =>
    obtain ⟨k, r, hk, rfl, hr, hmin, ⟨q0, q1, s0, s1, t0, t1, t2, t3⟩, hB, hz1⟩ := hrel
    obtain ⟨W1, rfl⟩ : ∃ W1 : World, W1 = wr := ⟨_, rfl⟩
    have HB := Lib.hid hB
    have HR := Lib.hid hr
    have HMIN := Lib.hid hmin
    have hg1 : w.heap.size < W1.heap.size := by omega
    have hg2 : w.heap.size + 1 < W1.heap.size := by omega
    have hbW : b < W1.heap.size := by have := hB.size; omega
    have hkk : (0 : Int) ≤ (k : Int) + 1 := by omega
    by_cases hlt : k < l.length
    · have hkl : (k : Int) + 1 < (l.length : Int) + 1 := by omega
      have d0 := (hB.cell (p := ⟨b, (k + 1) * 2, none⟩) hb).trans (HC.out (k + 1) (by simp; omega)).1
      have d1 := (hB.cell (p := ⟨b, (k + 1) * 2 + 1, none⟩) hb).trans (HC.out (k + 1) (by simp; omega)).2
      simp only [List.getElem_cons_succ] at d0 d1
      have HST := Lib.hid (HST.out k hlt)
      have hmem : l[k] ∈ x :: l := List.mem_cons_of_mem _ (List.getElem_mem hlt)
      have HMEM := Lib.hid hmem
      have HCC := Lib.hid (fun W hb => HCMP.out l[k] r hmem hr W hb)
      clear hB hr hmin hmem
      generalize l[k] = y at *
      have hS : ∀ V : World, Below W1.heap.size W1 V → (V.cell? ⟨w.heap.size, 0, none⟩ = some (.slice none 0 0) ∧ V.cell? ⟨w.heap.size, 1, none⟩ = some (.int .i64 0) ∧ V.frozen? ⟨w.heap.size, 0, none⟩ = false ∧ V.frozen? ⟨w.heap.size, 1, none⟩ = false ∧ V.cell? ⟨w.heap.size + 1, 0, none⟩ = some (.slice r.a (h.pick r.x).length r.n) ∧ V.cell? ⟨w.heap.size + 1, 1, none⟩ = some (.int .i64 (h.cost r.x)) ∧ V.frozen? ⟨w.heap.size + 1, 0, none⟩ = false ∧ V.frozen? ⟨w.heap.size + 1, 1, none⟩ = false) ∧ V.cell? ⟨b, (k + 1) * 2, none⟩ = some (.slice y.a (h.pick y.x).length y.n) ∧ V.cell? ⟨b, (k + 1) * 2 + 1, none⟩ = some (.int .i64 (h.cost y.x)) := fun V hb =>
        ⟨⟨(hb.cell (p := ⟨w.heap.size, 0, none⟩) hg1).trans q0, (hb.cell (p := ⟨w.heap.size, 1, none⟩) hg1).trans q1, (hb.frozen (p := ⟨w.heap.size, 0, none⟩) hg1).trans s0, (hb.frozen (p := ⟨w.heap.size, 1, none⟩) hg1).trans s1, (hb.cell (p := ⟨w.heap.size + 1, 0, none⟩) hg2).trans t0, (hb.cell (p := ⟨w.heap.size + 1, 1, none⟩) hg2).trans t1, (hb.frozen (p := ⟨w.heap.size + 1, 0, none⟩) hg2).trans t2, (hb.frozen (p := ⟨w.heap.size + 1, 1, none⟩) hg2).trans t3⟩, (hb.cell (p := ⟨b, (k + 1) * 2, none⟩) hbW).trans d0, (hb.cell (p := ⟨b, (k + 1) * 2 + 1, none⟩) hbW).trans d1⟩
      have HS := Lib.hid hS
      clear hS
      rcases hv : h.lessR y.x r.x with - | -
      · have hcz : ¬ cmpR (h.pick y.x) (h.cost y.x) (h.pick r.x) (h.cost r.x) < 0 := by unfold CHouse.lessR at hv; exact of_decide_eq_false hv
        have HNX := Lib.hid (show r.x = h.minR x.x ((l.take (k + 1)).map Rem.x) by rw [HST.out, ← HMIN.out, hv]; rfl)
        generalize cmpR (h.pick y.x) (h.cost y.x) (h.pick r.x) (h.cost r.x) = z at *
        clear hv
        go_upto_region 7 with fail
        go_cut [27] (fun v27 wx => v27 = .bool false ∧ Below W1.heap.size W1 wx)
        case first =>
          go_region_held3 (fun w' => (w'.cell? ⟨w.heap.size + 1, 0, none⟩ = some (.slice r.a (h.pick r.x).length r.n) ∧ w'.cell? ⟨w.heap.size + 1, 1, none⟩ = some (.int .i64 (h.cost r.x))) ∧ w'.cell? ⟨b, (k + 1) * 2, none⟩ = some (.slice y.a (h.pick y.x).length y.n) ∧ w'.cell? ⟨b, (k + 1) * 2 + 1, none⟩ = some (.int .i64 (h.cost y.x)))
            (first | with_reducible assumption | exact ⟨⟨t0, t1⟩, d0, d1⟩)
            (first | (go_at_call 97; with_reducible refine (HCC.out _ ?_).mono ?_; (· exact HB.out.trans (Below.mono (by repeat (first | exact Below.refl _ _ | (refine Below.alloc ?_ (by first | omega | (simp; omega) | simp) _) | (refine Below.setCell ?_ (by first | omega | (simp; omega) | simp) _) | refine Below.drew ?_)) HB.out.size)); rintro e w2 ⟨rfl, hb2⟩; have kB : Below W1.heap.size W1 w2 := ((by repeat (first | exact Below.refl _ _ | (refine Below.alloc ?_ (by first | omega | (simp; omega) | simp) _) | (refine Below.setCell ?_ (by first | omega | (simp; omega) | simp) _) | refine Below.drew ?_)) : Below W1.heap.size W1 _).trans (hb2.mono (Nat.le_refl _)); have kS := HS.out w2 kB; have kT := And.intro (And.intro kS.1.2.2.2.2.1 kS.1.2.2.2.2.2.1) kS.2; clear hb2 kS) | fail "no arm")
          all_goals (go_wp2_with fail; go_meet; exact ⟨by simp [hcz], kB⟩)
        case rest =>
          obtain ⟨rfl, hB1⟩ := hcut
          obtain ⟨W2, rfl⟩ : ∃ W2 : World, W2 = wc := ⟨_, rfl⟩
          have hz2 := hB1.size
          have HB2 := Lib.hid (HB.out.trans (hB1.mono HB.out.size))
          obtain ⟨⟨e0, e1, f0, f1, g0, g1, g2, g3⟩, k0, k1⟩ := HS.out W2 hB1
          clear q0 q1 s0 s1 t0 t1 t2 t3 d0 d1 hB1
          go_wp2_with fail
          go_roundw
          case rel => exact ⟨k + 1, r, by omega, by go_num, HR.out, HNX.out, ⟨by go_simp, by go_simp, by go_simp, by go_simp, by go_simp, by go_simp, by go_simp, by go_simp⟩, HB2.out, by omega⟩
          case measure => simp [intOf]; omega
      · have hcz : cmpR (h.pick y.x) (h.cost y.x) (h.pick r.x) (h.cost r.x) < 0 := by unfold CHouse.lessR at hv; exact of_decide_eq_true hv
        have HNX := Lib.hid (show y.x = h.minR x.x ((l.take (k + 1)).map Rem.x) by rw [HST.out, ← HMIN.out, hv]; rfl)
        generalize cmpR (h.pick y.x) (h.cost y.x) (h.pick r.x) (h.cost r.x) = z at *
        clear hv
        go_upto_region 7 with fail
        go_cut [27] (fun v27 wx => v27 = .bool true ∧ Below W1.heap.size W1 wx)
        case first =>
          go_region_held3 (fun w' => (w'.cell? ⟨w.heap.size + 1, 0, none⟩ = some (.slice r.a (h.pick r.x).length r.n) ∧ w'.cell? ⟨w.heap.size + 1, 1, none⟩ = some (.int .i64 (h.cost r.x))) ∧ w'.cell? ⟨b, (k + 1) * 2, none⟩ = some (.slice y.a (h.pick y.x).length y.n) ∧ w'.cell? ⟨b, (k + 1) * 2 + 1, none⟩ = some (.int .i64 (h.cost y.x)))
            (first | with_reducible assumption | exact ⟨⟨t0, t1⟩, d0, d1⟩)
            (first | (go_at_call 97; with_reducible refine (HCC.out _ ?_).mono ?_; (· exact HB.out.trans (Below.mono (by repeat (first | exact Below.refl _ _ | (refine Below.alloc ?_ (by first | omega | (simp; omega) | simp) _) | (refine Below.setCell ?_ (by first | omega | (simp; omega) | simp) _) | refine Below.drew ?_)) HB.out.size)); rintro e w2 ⟨rfl, hb2⟩; have kB : Below W1.heap.size W1 w2 := ((by repeat (first | exact Below.refl _ _ | (refine Below.alloc ?_ (by first | omega | (simp; omega) | simp) _) | (refine Below.setCell ?_ (by first | omega | (simp; omega) | simp) _) | refine Below.drew ?_)) : Below W1.heap.size W1 _).trans (hb2.mono (Nat.le_refl _)); have kS := HS.out w2 kB; have kT := And.intro (And.intro kS.1.2.2.2.2.1 kS.1.2.2.2.2.2.1) kS.2; clear hb2 kS) | fail "no arm")
          all_goals (go_wp2_with fail; go_meet; exact ⟨by simp [hcz], kB⟩)
        case rest =>
          obtain ⟨rfl, hB1⟩ := hcut
          obtain ⟨W2, rfl⟩ : ∃ W2 : World, W2 = wc := ⟨_, rfl⟩
          have hz2 := hB1.size
          have HB2 := Lib.hid (HB.out.trans (hB1.mono HB.out.size))
          obtain ⟨⟨e0, e1, f0, f1, g0, g1, g2, g3⟩, k0, k1⟩ := HS.out W2 hB1
          clear q0 q1 s0 s1 t0 t1 t2 t3 d0 d1 hB1
          go_wp2_with fail
          go_roundw
          case rel => exact ⟨k + 1, y, by omega, by go_num, HMEM.out, HNX.out, ⟨by go_simp, by go_simp, by go_simp, by go_simp, by go_simp, by go_simp, by go_simp, by go_simp⟩, by have hBB := HB2.out; exact (by repeat (first | assumption | exact Below.refl _ _ | (refine Below.alloc ?_ (by first | omega | (simp; omega) | simp) _) | (refine Below.setCell ?_ (by first | omega | (simp; omega) | simp) _) | refine Below.drew ?_)), by simp; omega⟩
          case measure => simp [intOf]; omega
    · obtain rfl : l.length = k := by omega
      have HX := Lib.hid (show r.x = h.minR x.x (l.map Rem.x) by rw [HMIN.out, HFU.out])
      clear hB hr hmin
      go_wp2_with fail
      refine bodyPost_ret (v := .agg #[.slice r.a (h.pick r.x).length r.n, .int .i64 (h.cost r.x)]) (by simp [results, Try.results94, go_sem, *]) rfl ⟨⟨r, HR.out, HX.out, rfl⟩, by have hBB := HB.out; exact (by repeat (first | assumption | exact Below.refl _ _ | (refine Below.alloc ?_ (by first | omega | (simp; omega) | simp) _) | (refine Below.setCell ?_ (by first | omega | (simp; omega) | simp) _) | refine Below.drew ?_))⟩
end Go.Proofs.Ytedfdhpggghjeaa
