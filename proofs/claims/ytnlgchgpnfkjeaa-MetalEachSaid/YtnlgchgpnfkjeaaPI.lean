/- MetalEach, where there is all. -/
import Derived.Test.YtnlgchgpnfkjeaaPE
namespace Go.Proofs.Ytnlgchgpnfkjeaa
set_option linter.unusedVariables false
set_option linter.unusedSimpArgs false
open Go.RowKit

set_option maxRecDepth 100000 in
set_option maxHeartbeats 16000000 in
theorem each_yes (s : Shop) (a : Option Addr) (len cap : Nat) (x : Option Addr) (xlen xcap : Nat) (ns : List Int) (ta tb : Int) (w : World) (hp : PigsAt w a len s.pigs) (hx : IntsAt w x xlen ns) (hr : s.ok = true) (hn : s.isAdd ns = true) (ht : truthB s ta tb = true) :
    Calls Try.prog 6 #[.agg #[.int .i64 s.P, .int .i64 s.tl, .int .i64 s.th, .int .i64 s.al, .int .i64 s.ah, .int .i64 s.room, .int .i64 s.xl, .int .i64 s.xh, .int .i64 s.yl, .int .i64 s.yh, .slice a len cap], .slice x xlen xcap, .agg #[.int .i64 ta, .int .i64 tb]] w fun e w' => e = .returned (.bool true) ∧ Below w.heap.size w w' := by
  have HR := Lib.hid (fun w1 (hb : Below w.heap.size w w1) => ready_is s a len cap true hr w1 (hp.below hb))
  have H1 := Lib.hid (fun w1 (hb : Below w.heap.size w w1) => hn ▸ isAddition_law s a len cap x xlen xcap ns w1 (hp.below hb) (hx.below hb) hr)
  have H2 := Lib.hid (fun w1 => isTruth_is s a len cap ta tb true ht w1)
  have HW := Lib.hid (fun w1 => works_any w1)
  have hxl : xlen ≤ 1000 := by have h := Shop.isAdd_len hn; have := hx.1; have := hp.1; have := Shop.ok_bd hr; omega
  have hcode : s.code ns = 0 := by simp [Shop.code, hr, hn]
  have HS := Lib.hid (fun w1 (hb : Below w.heap.size w w1) => safe_law s a len cap x xlen xcap ns w1 (hp.below hb) (hx.below hb) hcode hxl)
  have HF := Lib.hid (fun x xcap w1 (hb : Below w.heap.size w w1) (hx : IntsAt w1 x xlen ns) => (Fails_law s a len cap x xlen xcap ns w1 (hp.below hb) hx hcode).mono (R' := fun e w' => (∃ fa fc, e = .returned (.tuple #[.slice fa (s.bad ns [1, 2, 3, 4]).length fc, .int .i64 0]) ∧ IntsAt w' fa (s.bad ns [1, 2, 3, 4]).length (s.bad ns [1, 2, 3, 4])) ∧ Below w1.heap.size w1 w') fun e w' ⟨fa, fc, h1, h2, h3⟩ => ⟨⟨fa, fc, h1, h2⟩, h3⟩)
  have HD := fun x xcap w1 (hb : Below w.heap.size w w1) (hx : IntsAt w1 x xlen ns) => After_yes s a len cap x xlen xcap ns w1 (hp.below hb) hx hcode
  unfold potCells at HD
  replace HD := Lib.hid HD
  obtain ⟨hl, hfew⟩ := Shop.isAdd_len hn
  obtain rfl : len = xlen := by rw [← hp.1, ← hx.1, hl]
  have hl4 : len ≤ 4 := by have := Shop.ok_bd hr; have := hp.1; omega
  have hF := s.few ns hr hfew
  have HPo := Lib.hid (fun w1 (hb : Below w.heap.size w w1) => ref_PoundsOf s a cap x len xcap ns w1 (hp.below hb) (hx.below hb) hl4 hF)
  have HTi := Lib.hid (fun w1 (hb : Below w.heap.size w w1) => ref_TinOf s a cap x len xcap ns w1 (hp.below hb) (hx.below hb) hl4 hF)
  have HAn := Lib.hid (fun w1 (hb : Below w.heap.size w w1) => ref_AntimonyOf s a cap x len xcap ns w1 (hp.below hb) (hx.below hb) hl4 hF)
  have HX := Lib.hid (fun w1 (hb : Below w.heap.size w w1) => hx.below hb)
  obtain ⟨t1, t2, t3, t4⟩ : s.tl ≤ ta ∧ ta ≤ s.th ∧ s.al ≤ tb ∧ tb ≤ s.ah := by simp [truthB, btw] at ht; omega
  obtain ⟨hP0, hP1⟩ := Shop.tot_P hr hn
  have hbd := Shop.ok_bd hr
  obtain ⟨f1, f2, f3, f4⟩ := pot_fair hr hn
  have g1 := tot_all Pig.P bd_pounds s.pigs ns hF rfl hl
  have g2 := tot_all Pig.t bd_tin s.pigs ns hF rfl hl
  have g3 := tot_all Pig.a bd_antimony s.pigs ns hF rfl hl
  have hKA := each_all s ns (ta + tot Pig.t s.pigs ns) (tb + tot Pig.a s.pigs ns) ⟨by omega, by omega⟩ ⟨by omega, by omega⟩
  have hKB := each_bad s ns (ta + tot Pig.t s.pigs ns) (tb + tot Pig.a s.pigs ns) ⟨by omega, by omega⟩ ⟨by omega, by omega⟩
  have HK := Lib.hid (fun l (hl : 1 ≤ l ∧ l ≤ 4) b h w1 => refKeeps_is s a len cap l (s.P + tot Pig.P s.pigs ns) (ta + tot Pig.t s.pigs ns) (tb + tot Pig.a s.pigs ns) hl b h w1 ⟨hP0, hP1⟩ (Shop.lims hr) (by unfold Fair at *; omega) (by unfold Fair at *; omega))
  have hri := rising_4 (fun l => !keepsB s (s.P + tot Pig.P s.pigs ns) (s.tl + tot Pig.t s.pigs ns) (s.th + tot Pig.t s.pigs ns) (s.al + tot Pig.a s.pigs ns) (s.ah + tot Pig.a s.pigs ns) l)
  change risingB (s.bad ns [1, 2, 3, 4]) 1 4 = true at hri
  have hbn := bad_nil s ns
  have hb4 : (s.bad ns [1, 2, 3, 4]).length ≤ 4 := List.length_filter_le _ _
  have HRi := Lib.hid hri
  have HKB := Lib.hid hKB
  have HAT := Lib.hid (allTo_succ s (s.P + tot Pig.P s.pigs ns) (ta + tot Pig.t s.pigs ns) (tb + tot Pig.a s.pigs ns))
  have HA0 := Lib.hid (show allTo s (s.P + tot Pig.P s.pigs ns) (ta + tot Pig.t s.pigs ns) (tb + tot Pig.a s.pigs ns) 0 = true from rfl)
  obtain ⟨eb, he1, he2⟩ : ∃ eb, (((s.bad ns [1, 2, 3, 4]).length : Int) == 0) = eb ∧ (s.safeOf ns == 1) = eb := by
    refine ⟨_, rfl, ?_⟩
    rw [Bool.eq_iff_iff]; simp; simp at hbn; exact hbn.symm
  have HE1 := Lib.hid he1
  have HE2 := Lib.hid he2
  have HKA := Lib.hid hKA
  have b1 := hbd.1.1
  have b2 := hbd.1.2
  clear hp hr hx hn hcode hl hfew hF hri hbn hKA hKB he1 he2 ht
  generalize s.bad ns [1, 2, 3, 4] = ks at *
  generalize s.safeOf ns = sv at *
  have g1a := g1.1
  have g1b := g1.2
  have g2a := g2.1
  have g2b := g2.2
  have g3a := g3.1
  have g3b := g3.2
  have hpl : s.pigs.length ≤ 4 := by omega
  have c1 : 0 ≤ ta := by omega
  have c2 : ta ≤ 400 := by omega
  have c3 : 0 ≤ tb := by omega
  have c4 : tb ≤ 400 := by omega
  clear hbd f1 f2 f3 f4 g1 g2 g3
  generalize tot Pig.P s.pigs ns = tp at *
  generalize tot Pig.t s.pigs ns = tt at *
  generalize tot Pig.a s.pigs ns = tn at *
  go_enter Try.func6, Try.ntmps6
  go_wp2_with fail
  refine (HR.out _ (by repeat (first | exact Below.refl _ _ | (refine Below.alloc ?_ (by first | omega | (simp; omega) | simp) _) | (refine Below.setCell ?_ (by first | omega | (simp; omega) | simp) _) | refine Below.drew ?_))).mono ?_
  rintro e w0 ⟨rfl, hb0⟩
  obtain ⟨hc0, hf0⟩ := bcell hb0
  have hz0 := hb0.size
  simp at hz0
  have hw0 := ((by repeat (first | exact Below.refl _ _ | (refine Below.alloc ?_ (by first | omega | (simp; omega) | simp) _) | (refine Below.setCell ?_ (by first | omega | (simp; omega) | simp) _) | refine Below.drew ?_)) : Below w.heap.size w _).trans (hb0.mono (by first | (simp; done) | (simp; omega) | omega))
  clear hb0
  have p0 : w.heap.size < w0.heap.size := by omega
  have q0 : w.heap.size + 1 < w0.heap.size := by omega
  go_wp2_with fail
  refine (H1.out _ hw0).mono ?_
  rintro e w1 ⟨rfl, hb1⟩
  obtain ⟨hc1, hf1⟩ := bcell hb1
  have hz1 := hb1.size
  have hw1 := hw0.trans (hb1.mono hw0.size)
  have p1 : w.heap.size < w1.heap.size := by omega
  have q1 : w.heap.size + 1 < w1.heap.size := by omega
  clear hb1
  go_wp2_with fail
  refine (H2.out _).mono ?_
  rintro e w2 ⟨rfl, hb2⟩
  obtain ⟨hc2, hf2⟩ := bcell hb2
  have hz2 := hb2.size
  have hw2 := hw1.trans (hb2.mono hw1.size)
  have p2 : w.heap.size < w2.heap.size := by omega
  have q2 : w.heap.size + 1 < w2.heap.size := by omega
  clear hb2
  go_wp2_with fail
  refine (HS.out _ hw2).mono ?_
  rintro e w3 ⟨rfl, hb3⟩
  obtain ⟨hc3, hf3⟩ := bcell hb3
  have hz3 := hb3.size
  have hw3 := hw2.trans (hb3.mono hw2.size)
  have p3 : w.heap.size < w3.heap.size := by omega
  have q3 : w.heap.size + 1 < w3.heap.size := by omega
  clear hb3
  have hbox : ∀ i, w3.cell? ⟨w.heap.size, i, none⟩ = (#[.int .i64 s.P, .int .i64 s.tl, .int .i64 s.th, .int .i64 s.al, .int .i64 s.ah, .int .i64 s.room, .int .i64 s.xl, .int .i64 s.xh, .int .i64 s.yl, .int .i64 s.yh, .slice a len cap] : Array Value)[i]? := fun i => (hc3 _ _ p2).trans ((hc2 _ _ p1).trans ((hc1 _ _ p0).trans ((hc0 _ _ (by simp; omega)).trans (by go_simp))))
  have hbot : ∀ i, w3.cell? ⟨w.heap.size + 1, i, none⟩ = (#[.int .i64 ta, .int .i64 tb] : Array Value)[i]? := fun i => (hc3 _ _ q2).trans ((hc2 _ _ q1).trans ((hc1 _ _ q0).trans ((hc0 _ _ (by simp)).trans (by go_simp))))
  obtain ⟨x0, x1, x2, x3, x4, x5, x6, x7, x8, x9, x10⟩ : w3.cell? ⟨w.heap.size, 0, none⟩ = some (.int .i64 s.P) ∧ w3.cell? ⟨w.heap.size, 1, none⟩ = some (.int .i64 s.tl) ∧ w3.cell? ⟨w.heap.size, 2, none⟩ = some (.int .i64 s.th) ∧ w3.cell? ⟨w.heap.size, 3, none⟩ = some (.int .i64 s.al) ∧ w3.cell? ⟨w.heap.size, 4, none⟩ = some (.int .i64 s.ah) ∧ w3.cell? ⟨w.heap.size, 5, none⟩ = some (.int .i64 s.room) ∧ w3.cell? ⟨w.heap.size, 6, none⟩ = some (.int .i64 s.xl) ∧ w3.cell? ⟨w.heap.size, 7, none⟩ = some (.int .i64 s.xh) ∧ w3.cell? ⟨w.heap.size, 8, none⟩ = some (.int .i64 s.yl) ∧ w3.cell? ⟨w.heap.size, 9, none⟩ = some (.int .i64 s.yh) ∧ w3.cell? ⟨w.heap.size, 10, none⟩ = some (.slice a len cap) := ⟨hbox 0, hbox 1, hbox 2, hbox 3, hbox 4, hbox 5, hbox 6, hbox 7, hbox 8, hbox 9, hbox 10⟩
  have HBX3 := Lib.hid hbox
  have HBT3 := Lib.hid hbot
  have y0 : w3.cell? ⟨w.heap.size + 1, 0, none⟩ = some (.int .i64 ta) := hbot 0
  have y1 : w3.cell? ⟨w.heap.size + 1, 1, none⟩ = some (.int .i64 tb) := hbot 1
  clear hbox hbot hc0 hf0 hc1 hf1 hc2 hf2 hc3 hf3
  have HX3 := Lib.hid (fun W (hb : Below w3.heap.size w3 W) => HX.out W (hw3.trans (hb.mono hw3.size)))
  have HF3 := Lib.hid (fun x' xc' W (hb : Below w3.heap.size w3 W ∧ ∀ b o, b < w3.heap.size → W.cell? ⟨b, o, none⟩ = w3.cell? ⟨b, o, none⟩) (hx' : IntsAt W x' len ns) => bothS2 (W0 := w3) (HF.out x' xc' W (hw3.trans (hb.1.mono hw3.size)) hx') hb)
  go_upto_region 4 with fail
  go_cut [9, 10] (fun v9 v10 wx => ∃ fa fc, v9 = .slice fa ks.length fc ∧ v10 = .int .i64 0 ∧ IntsAt wx fa ks.length ks ∧ Below w3.heap.size w3 wx)
  case first =>
    go_region_held3 (fun w' => Below w3.heap.size w3 w' ∧ ∀ b o, b < w3.heap.size → w'.cell? ⟨b, o, none⟩ = w3.cell? ⟨b, o, none⟩) (first | with_reducible assumption | ((repeat (first | with_reducible refine bothS_drew ?_ | with_reducible refine bothS_alloc _ ?_ | with_reducible refine bothS_set _ _ (by first | omega | (simp; omega) | simp) ?_)); first | with_reducible assumption | with_reducible exact Hid.out (by assumption) | with_reducible exact ⟨Below.refl _ _, fun _ _ _ => rfl⟩))
      (first
        | ((with_reducible refine step_append_far _ w3.heap.size (w3.heap.size) len xcap x ns rfl _ _ rfl ?_ ?_ ?_ ?_ hxl ?_ ?_ ?_); (· rfl); (· rfl); (· first | exact (made_row (by simp) (by simp)).drew | exact ((made_row (by simp) (by simp)).alloc _).drew | exact made_row (by simp) (by simp) | exact (made_row (by simp) (by simp)).alloc _); (· exact HX3.out _ (And.left (by assumption))); (· first | exact Nat.le_refl _ | omega | (simp; done) | (simp; omega)); (· first | (simp; done) | (simp; omega) | omega); intro gA cA wA hxA hbA hcA hfA hsA; have kA := bothS_step (by assumption) hbA; have HXA := Lib.hid hxA; (try simp at hsA); have sA1 : w3.heap.size < wA.heap.size := (by omega); (try have sA2 : w3.heap.size + 1 < wA.heap.size := (by omega)); clear hxA hbA)
        | (go_at_call 24; (with_reducible refine (HF3.out _ _ _ ?_ ?_).mono ?_); (· with_reducible assumption); (· exact HXA.out); rintro e w' ⟨⟨fa, fc, rfl, hi⟩, k, k1, k2, k3⟩; have HI := Lib.hid hi; clear hi))
    all_goals (go_wp2_with fail; go_meet; exact ⟨_, _, rfl, rfl, HI.out, And.left (by assumption)⟩)
  case rest =>
    obtain ⟨fa, fc, rfl, rfl, hi4, hB4⟩ := hcut
    obtain ⟨w4, rfl⟩ : ∃ w4 : World, w4 = wc := ⟨_, rfl⟩
    obtain ⟨hc4, hf4⟩ := bcell hB4
    have hz4 := hB4.size
    have hw4 := hw3.trans (hB4.mono hw3.size)
    have p4 : w.heap.size < w4.heap.size := by omega
    have q4 : w.heap.size + 1 < w4.heap.size := by omega
    have HI4 := Lib.hid hi4
    have HBX := Lib.hid (fun i => (hB4.cell (p := ⟨w.heap.size, i, none⟩) p3).trans (HBX3.out i))
    have HBT := Lib.hid (fun i => (hB4.cell (p := ⟨w.heap.size + 1, i, none⟩) q3).trans (HBT3.out i))
    have HB4 := Lib.hid hB4
    have HX4 := Lib.hid (fun W (hb : Below w4.heap.size w4 W) => HX.out W (hw4.trans (hb.mono hw4.size)))
    have HD4 := Lib.hid (fun x' xc' W (hb : Below w4.heap.size w4 W ∧ ∀ b o, b < w4.heap.size → W.cell? ⟨b, o, none⟩ = w4.cell? ⟨b, o, none⟩) (hx' : IntsAt W x' len ns) => bothS1 (W0 := w4) (HD.out x' xc' W (hw4.trans (hb.1.mono hw4.size)) hx') hb)
    clear hi4 hB4
    go_upto_region 5 with fail
    go_cut [11, 12] (fun v11 v12 wx => ∃ g : Nat, v11 = .pointer (some ⟨g, 0, none⟩) ∧ v12 = .int .i64 0 ∧ wx.cell? ⟨g, 0, none⟩ = some (.int .i64 (s.P + tp)) ∧ wx.cell? ⟨g, 1, none⟩ = some (.int .i64 (s.tl + tt)) ∧ wx.cell? ⟨g, 2, none⟩ = some (.int .i64 (s.th + tt)) ∧ wx.cell? ⟨g, 3, none⟩ = some (.int .i64 (s.al + tn)) ∧ wx.cell? ⟨g, 4, none⟩ = some (.int .i64 (s.ah + tn)) ∧ w4.heap.size ≤ g ∧ g < wx.heap.size ∧ Below w4.heap.size w4 wx)
    case first =>
      go_region_held3 (fun w' => Below w4.heap.size w4 w' ∧ ∀ b o, b < w4.heap.size → w'.cell? ⟨b, o, none⟩ = w4.cell? ⟨b, o, none⟩) (first | with_reducible assumption | ((repeat (first | with_reducible refine bothS_drew ?_ | with_reducible refine bothS_alloc _ ?_ | with_reducible refine bothS_set _ _ (by first | omega | (simp; omega) | simp) ?_)); first | with_reducible assumption | with_reducible exact Hid.out (by assumption) | with_reducible exact ⟨Below.refl _ _, fun _ _ _ => rfl⟩))
        (first
          | ((with_reducible refine step_append_far _ w4.heap.size (w4.heap.size) len xcap x ns rfl _ _ rfl ?_ ?_ ?_ ?_ hxl ?_ ?_ ?_); (· rfl); (· rfl); (· first | exact (made_row (by simp) (by simp)).drew | exact ((made_row (by simp) (by simp)).alloc _).drew | exact made_row (by simp) (by simp) | exact (made_row (by simp) (by simp)).alloc _); (· exact HX4.out _ (And.left (by assumption))); (· first | exact Nat.le_refl _ | omega | (simp; done) | (simp; omega)); (· first | (simp; done) | (simp; omega) | omega); intro gA cA wA hxA hbA hcA hfA hsA; have kA := bothS_step (by assumption) hbA; have HXA := Lib.hid hxA; (try simp at hsA); have sA1 : w4.heap.size < wA.heap.size := (by omega); (try have sA2 : w4.heap.size + 1 < wA.heap.size := (by omega)); clear hxA hbA)
          | ((with_reducible refine step_append_far _ w4.heap.size (w4.heap.size + 1) len xcap x ns rfl _ _ rfl ?_ ?_ ?_ ?_ hxl ?_ ?_ ?_); (· rfl); (· rfl); (· first | exact (made_row (by simp) (by simp)).drew | exact ((made_row (by simp) (by simp)).alloc _).drew | exact made_row (by simp) (by simp) | exact (made_row (by simp) (by simp)).alloc _); (· exact HX4.out _ (And.left (by assumption))); (· first | exact Nat.le_refl _ | omega | (simp; done) | (simp; omega)); (· first | (simp; done) | (simp; omega) | omega); intro gA cA wA hxA hbA hcA hfA hsA; have kA := bothS_step (by assumption) hbA; have HXA := Lib.hid hxA; (try simp at hsA); have sA1 : w4.heap.size < wA.heap.size := (by omega); (try have sA2 : w4.heap.size + 1 < wA.heap.size := (by omega)); clear hxA hbA)
          | (go_at_call 18; (with_reducible refine (HD4.out _ _ _ ?_ ?_).mono ?_); (· with_reducible assumption); (· first | exact HXA.out | exact HXA.out.below (by repeat (first | exact Below.refl _ _ | (refine Below.alloc ?_ (by first | omega | (simp; omega) | simp) _) | (refine Below.setCell ?_ (by first | omega | (simp; omega) | simp) _) | refine Below.drew ?_))); rintro e w' ⟨rfl, k, k1, k2, k3⟩; have HK := Lib.hid k; (try simp at k3); have sB1 : w4.heap.size < w'.heap.size := (by omega); (try have sB2 : w4.heap.size + 1 < w'.heap.size := (by omega))))
      all_goals (go_wp2_with fail; go_meet; exact ⟨_, rfl, rfl, (by first | (go_simp; done) | (go_simp; exact set_same (u := .int .i64 0) (by go_simp; done)) | exact set_same (u := .int .i64 0) (by go_simp; done) | (go_simp; exact set_same (u := .slice none 0 0) (by go_simp; done)) | exact set_same (u := .slice none 0 0) (by go_simp; done)), (by first | (go_simp; done) | (go_simp; exact set_same (u := .int .i64 0) (by go_simp; done)) | exact set_same (u := .int .i64 0) (by go_simp; done) | (go_simp; exact set_same (u := .slice none 0 0) (by go_simp; done)) | exact set_same (u := .slice none 0 0) (by go_simp; done)), (by first | (go_simp; done) | (go_simp; exact set_same (u := .int .i64 0) (by go_simp; done)) | exact set_same (u := .int .i64 0) (by go_simp; done) | (go_simp; exact set_same (u := .slice none 0 0) (by go_simp; done)) | exact set_same (u := .slice none 0 0) (by go_simp; done)), (by first | (go_simp; done) | (go_simp; exact set_same (u := .int .i64 0) (by go_simp; done)) | exact set_same (u := .int .i64 0) (by go_simp; done) | (go_simp; exact set_same (u := .slice none 0 0) (by go_simp; done)) | exact set_same (u := .slice none 0 0) (by go_simp; done)), (by first | (go_simp; done) | (go_simp; exact set_same (u := .int .i64 0) (by go_simp; done)) | exact set_same (u := .int .i64 0) (by go_simp; done) | (go_simp; exact set_same (u := .slice none 0 0) (by go_simp; done)) | exact set_same (u := .slice none 0 0) (by go_simp; done)), (by first | with_reducible assumption | (simp; done) | (simp; omega) | omega), (by first | with_reducible assumption | (simp; done) | (simp; omega) | omega), And.left (by assumption)⟩)
    case rest =>
      obtain ⟨g, rfl, rfl, g0, g1, g2, g3, g4, hg1, hg2, hB5⟩ := hcut
      obtain ⟨w5, rfl⟩ : ∃ w5 : World, w5 = wc := ⟨_, rfl⟩
      have hz5 := hB5.size
      have hw5 := hw4.trans (hB5.mono hw4.size)
      have p5 : w.heap.size < w5.heap.size := by omega
      have q5 : w.heap.size + 1 < w5.heap.size := by omega
      have hb5 := fun i => (hB5.cell (p := ⟨w.heap.size, i, none⟩) p4).trans (HBX.out i)
      have ht5 := fun i => (hB5.cell (p := ⟨w.heap.size + 1, i, none⟩) q4).trans (HBT.out i)
      have HI5 := Lib.hid (HI4.out.below hB5)
      clear x0 x1 x2 x3 x4 x5 x6 x7 x8 x9 x10 y0 y1 hB5 hc4 hf4
      obtain ⟨x0, x1, x2, x3, x4, x5, x6, x7, x8, x9, x10⟩ : w5.cell? ⟨w.heap.size, 0, none⟩ = some (.int .i64 s.P) ∧ w5.cell? ⟨w.heap.size, 1, none⟩ = some (.int .i64 s.tl) ∧ w5.cell? ⟨w.heap.size, 2, none⟩ = some (.int .i64 s.th) ∧ w5.cell? ⟨w.heap.size, 3, none⟩ = some (.int .i64 s.al) ∧ w5.cell? ⟨w.heap.size, 4, none⟩ = some (.int .i64 s.ah) ∧ w5.cell? ⟨w.heap.size, 5, none⟩ = some (.int .i64 s.room) ∧ w5.cell? ⟨w.heap.size, 6, none⟩ = some (.int .i64 s.xl) ∧ w5.cell? ⟨w.heap.size, 7, none⟩ = some (.int .i64 s.xh) ∧ w5.cell? ⟨w.heap.size, 8, none⟩ = some (.int .i64 s.yl) ∧ w5.cell? ⟨w.heap.size, 9, none⟩ = some (.int .i64 s.yh) ∧ w5.cell? ⟨w.heap.size, 10, none⟩ = some (.slice a len cap) := ⟨hb5 0, hb5 1, hb5 2, hb5 3, hb5 4, hb5 5, hb5 6, hb5 7, hb5 8, hb5 9, hb5 10⟩
      have y0 : w5.cell? ⟨w.heap.size + 1, 0, none⟩ = some (.int .i64 ta) := ht5 0
      have y1 : w5.cell? ⟨w.heap.size + 1, 1, none⟩ = some (.int .i64 tb) := ht5 1
      have HBX5 := Lib.hid hb5
      have HBT5 := Lib.hid ht5
      clear hb5 ht5
      have HRi5 := Lib.hid (fun W (hb : Below w5.heap.size w5 W ∧ ∀ b o, b < w5.heap.size → W.cell? ⟨b, o, none⟩ = w5.cell? ⟨b, o, none⟩) => bothS1 (W0 := w5) (HRi.out ▸ Rising_any fa ks.length fc ks 1 4 W (HI5.out.below hb.1)) hb)
      have HPo5 := Lib.hid (fun W (hb : Below w5.heap.size w5 W ∧ ∀ b o, b < w5.heap.size → W.cell? ⟨b, o, none⟩ = w5.cell? ⟨b, o, none⟩) => bothS1 (W0 := w5) (HPo.out W (hw5.trans (hb.1.mono hw5.size))) hb)
      have he1 := HE1.out
      have he2 := HE2.out
      have hs1 : IntKind.i64.wrap (s.P + tp) = s.P + tp := IntWalk.i64_in _ ⟨by omega, by omega⟩
      go_upto_region 6 with fail
      go_cut [90] (fun v90 wx => v90 = .bool false ∧ Below w5.heap.size w5 wx)
      case first =>
        go_region_held3 (fun w' => Below w5.heap.size w5 w' ∧ ∀ b o, b < w5.heap.size → w'.cell? ⟨b, o, none⟩ = w5.cell? ⟨b, o, none⟩) (first | with_reducible assumption | ((repeat (first | with_reducible refine bothS_drew ?_ | with_reducible refine bothS_alloc _ ?_ | with_reducible refine bothS_set _ _ (by first | omega | (simp; omega) | simp) ?_)); first | with_reducible assumption | with_reducible exact Hid.out (by assumption) | with_reducible exact ⟨Below.refl _ _, fun _ _ _ => rfl⟩))
          (first
            | (go_at_call 49; (with_reducible refine (HRi5.out _ ?_).mono ?_); (· with_reducible assumption); rintro e w' ⟨rfl, k, k1, k2, k3⟩)
            | (go_at_call 50; (with_reducible refine (HPo5.out _ ?_).mono ?_); (· with_reducible assumption); rintro e w' ⟨rfl, k, k1, k2, k3⟩))
        all_goals (go_wp2_with fail; go_meet; exact ⟨by simp, And.left (by assumption)⟩)
      case rest =>
        obtain ⟨rfl, hB6⟩ := hcut
        obtain ⟨w6, rfl⟩ : ∃ w6 : World, w6 = wc := ⟨_, rfl⟩
        have hz6 := hB6.size
        have hw6 := hw5.trans (hB6.mono hw5.size)
        have p6 : w.heap.size < w6.heap.size := by omega
        have q6 : w.heap.size + 1 < w6.heap.size := by omega
        have hb6 := fun i => (hB6.cell (p := ⟨w.heap.size, i, none⟩) p5).trans (HBX5.out i)
        have ht6 := fun i => (hB6.cell (p := ⟨w.heap.size + 1, i, none⟩) q5).trans (HBT5.out i)
        have HI6 := Lib.hid (HI5.out.below hB6)
        have d0 := (hB6.cell (p := ⟨g, 0, none⟩) hg2).trans g0
        have d1 := (hB6.cell (p := ⟨g, 1, none⟩) hg2).trans g1
        have d2 := (hB6.cell (p := ⟨g, 2, none⟩) hg2).trans g2
        have d3 := (hB6.cell (p := ⟨g, 3, none⟩) hg2).trans g3
        have d4 := (hB6.cell (p := ⟨g, 4, none⟩) hg2).trans g4
        clear x0 x1 x2 x3 x4 x5 x6 x7 x8 x9 x10 y0 y1 hB6 g0 g1 g2 g3 g4 he1 he2 hs1
        obtain ⟨x0, x1, x2, x3, x4, x5, x6, x7, x8, x9, x10⟩ : w6.cell? ⟨w.heap.size, 0, none⟩ = some (.int .i64 s.P) ∧ w6.cell? ⟨w.heap.size, 1, none⟩ = some (.int .i64 s.tl) ∧ w6.cell? ⟨w.heap.size, 2, none⟩ = some (.int .i64 s.th) ∧ w6.cell? ⟨w.heap.size, 3, none⟩ = some (.int .i64 s.al) ∧ w6.cell? ⟨w.heap.size, 4, none⟩ = some (.int .i64 s.ah) ∧ w6.cell? ⟨w.heap.size, 5, none⟩ = some (.int .i64 s.room) ∧ w6.cell? ⟨w.heap.size, 6, none⟩ = some (.int .i64 s.xl) ∧ w6.cell? ⟨w.heap.size, 7, none⟩ = some (.int .i64 s.xh) ∧ w6.cell? ⟨w.heap.size, 8, none⟩ = some (.int .i64 s.yl) ∧ w6.cell? ⟨w.heap.size, 9, none⟩ = some (.int .i64 s.yh) ∧ w6.cell? ⟨w.heap.size, 10, none⟩ = some (.slice a len cap) := ⟨hb6 0, hb6 1, hb6 2, hb6 3, hb6 4, hb6 5, hb6 6, hb6 7, hb6 8, hb6 9, hb6 10⟩
        have y0 : w6.cell? ⟨w.heap.size + 1, 0, none⟩ = some (.int .i64 ta) := ht6 0
        have y1 : w6.cell? ⟨w.heap.size + 1, 1, none⟩ = some (.int .i64 tb) := ht6 1
        have HBX6 := Lib.hid hb6
        clear hb6 ht6
        have gx6 : g < w6.heap.size := by omega
        have HTi6 := Lib.hid (fun W (hb : Below w6.heap.size w6 W ∧ ∀ b o, b < w6.heap.size → W.cell? ⟨b, o, none⟩ = w6.cell? ⟨b, o, none⟩) => bothS1 (W0 := w6) (HTi.out W (hw6.trans (hb.1.mono hw6.size))) hb)
        have HAn6 := Lib.hid (fun W (hb : Below w6.heap.size w6 W ∧ ∀ b o, b < w6.heap.size → W.cell? ⟨b, o, none⟩ = w6.cell? ⟨b, o, none⟩) => bothS1 (W0 := w6) (HAn.out W (hw6.trans (hb.1.mono hw6.size))) hb)
        have hs2 : IntKind.i64.wrap (ta + tt) = ta + tt := IntWalk.i64_in _ ⟨by omega, by omega⟩
        have hs3 : IntKind.i64.wrap (tb + tn) = tb + tn := IntWalk.i64_in _ ⟨by omega, by omega⟩
        go_upto_region 8 with fail
        go_cut [13, 14] (fun v13 v14 wx => v13 = .int .i64 (ta + tt) ∧ v14 = .int .i64 (tb + tn) ∧ Below w6.heap.size w6 wx)
        case first =>
          go_region_held3 (fun w' => Below w6.heap.size w6 w' ∧ ∀ b o, b < w6.heap.size → w'.cell? ⟨b, o, none⟩ = w6.cell? ⟨b, o, none⟩) (first | with_reducible assumption | ((repeat (first | with_reducible refine bothS_drew ?_ | with_reducible refine bothS_alloc _ ?_ | with_reducible refine bothS_set _ _ (by first | omega | (simp; omega) | simp) ?_)); first | with_reducible assumption | with_reducible exact Hid.out (by assumption) | with_reducible exact ⟨Below.refl _ _, fun _ _ _ => rfl⟩))
            (first
              | (go_at_call 51; (with_reducible refine (HTi6.out _ ?_).mono ?_); (· with_reducible assumption); rintro e w' ⟨rfl, k, k1, k2, k3⟩)
              | (go_at_call 52; (with_reducible refine (HAn6.out _ ?_).mono ?_); (· with_reducible assumption); rintro e w' ⟨rfl, k, k1, k2, k3⟩))
          all_goals (go_wp2_with fail; go_meet; exact ⟨rfl, rfl, And.left (by assumption)⟩)
        case rest =>
          obtain ⟨rfl, rfl, hB7⟩ := hcut
          obtain ⟨w7, rfl⟩ : ∃ w7 : World, w7 = wc := ⟨_, rfl⟩
          have hz7 := hB7.size
          have hw7 := hw6.trans (hB7.mono hw6.size)
          have p7 : w.heap.size < w7.heap.size := by omega
          have hb7 := fun i => (hB7.cell (p := ⟨w.heap.size, i, none⟩) p6).trans (HBX6.out i)
          have HI7 := Lib.hid (HI6.out.below hB7)
          have m0 := (hB7.cell (p := ⟨g, 0, none⟩) gx6).trans d0
          have m1 := (hB7.cell (p := ⟨g, 1, none⟩) gx6).trans d1
          have m2 := (hB7.cell (p := ⟨g, 2, none⟩) gx6).trans d2
          have m3 := (hB7.cell (p := ⟨g, 3, none⟩) gx6).trans d3
          have m4 := (hB7.cell (p := ⟨g, 4, none⟩) gx6).trans d4
          have gx7 : g < w7.heap.size := by omega
          clear x0 x1 x2 x3 x4 x5 x6 x7 x8 x9 x10 y0 y1 hB7 d0 d1 d2 d3 d4 hs2 hs3
          have HBX7 := Lib.hid hb7
          clear hb7
          have HW1 := Lib.hid (fun w2 => Within_is (ta + tt) (s.tl + tt) (s.th + tt) true (by simp [btw]; omega) w2)
          have HW2 := Lib.hid (fun w2 => Within_is (tb + tn) (s.al + tn) (s.ah + tn) true (by simp [btw]; omega) w2)
          generalize ta + tt = A at *
          generalize tb + tn = B at *
          go_wp2_with fail
          refine (HW1.out _).mono ?_
          rintro e w2 ⟨rfl, rfl⟩
          go_wp2_with fail
          refine (HW2.out _).mono ?_
          rintro e w2 ⟨rfl, rfl⟩
          go_wp2_with fail
          have M0 := Lib.hid m0
          clear m0 m1 m2 m3 m4
          go_loopw [15, 16] (fun v15 v16 wr => ∃ j : Nat, j ≤ 4 ∧ v16 = .int .i64 ((j : Int) + 1) ∧ v15 = .bool (allTo s (s.P + tp) A B j) ∧ Below w7.heap.size w7 wr) (fun _ i _ => 5 - (intOf i).toNat)
          case atStart => exact ⟨0, Nat.zero_le _, rfl, by rw [HA0.out], Below.refl _ _⟩
          case round =>
            obtain ⟨j, hj, rfl, rfl, hBr⟩ := hrel
            have hzr := hBr.size
            have hwr := hw7.trans (hBr.mono hw7.size)
            by_cases hlt : j < 4
            · have hbr := fun i => (hBr.cell (p := ⟨w.heap.size, i, none⟩) p7).trans (HBX7.out i)
              obtain ⟨x0, x1, x2, x3, x4, x5, x6, x7, x8, x9, x10⟩ : wr.cell? ⟨w.heap.size, 0, none⟩ = some (.int .i64 s.P) ∧ wr.cell? ⟨w.heap.size, 1, none⟩ = some (.int .i64 s.tl) ∧ wr.cell? ⟨w.heap.size, 2, none⟩ = some (.int .i64 s.th) ∧ wr.cell? ⟨w.heap.size, 3, none⟩ = some (.int .i64 s.al) ∧ wr.cell? ⟨w.heap.size, 4, none⟩ = some (.int .i64 s.ah) ∧ wr.cell? ⟨w.heap.size, 5, none⟩ = some (.int .i64 s.room) ∧ wr.cell? ⟨w.heap.size, 6, none⟩ = some (.int .i64 s.xl) ∧ wr.cell? ⟨w.heap.size, 7, none⟩ = some (.int .i64 s.xh) ∧ wr.cell? ⟨w.heap.size, 8, none⟩ = some (.int .i64 s.yl) ∧ wr.cell? ⟨w.heap.size, 9, none⟩ = some (.int .i64 s.yh) ∧ wr.cell? ⟨w.heap.size, 10, none⟩ = some (.slice a len cap) := ⟨hbr 0, hbr 1, hbr 2, hbr 3, hbr 4, hbr 5, hbr 6, hbr 7, hbr 8, hbr 9, hbr 10⟩
              clear hbr
              have m0 := (hBr.cell (p := ⟨g, 0, none⟩) gx7).trans M0.out
              have hj4 : (j : Int) + 1 ≤ 4 := by omega
              have hsucc := HAT.out j
              obtain ⟨kb, hkb⟩ : ∃ kb, keepsR s ((j : Int) + 1) (s.P + tp) A B = kb := ⟨_, rfl⟩
              have HKj := Lib.hid (HK.out ((j : Int) + 1) ⟨by omega, by omega⟩ kb hkb)
              rw [hkb] at hsucc
              have HKBj := Lib.hid (fun (h : kb = false) => HKB.out ((j : Int) + 1) ⟨by omega, by omega⟩ (hkb.trans h))
              generalize allTo s (s.P + tp) A B j = al at *
              have HSU := Lib.hid hsucc
              clear hsucc hkb
              cases kb
              · have hin : decide (((j : Int) + 1) ∈ ks) = true := decide_eq_true (HKBj.out rfl)
                go_wp2_with fail
                refine (HKj.out _).mono ?_
                rintro e w8 ⟨rfl, hb8⟩
                have hz8 := hb8.size
                have hB8 := hBr.trans (hb8.mono hzr)
                have HIn := Lib.hid (In_is fa ks.length fc ks ((j : Int) + 1) true hin _ (HI7.out.below hB8))
                clear hb8 hin x0 x1 x2 x3 x4 x5 x6 x7 x8 x9 x10 m0
                go_wp2_with fail
                refine HIn.out.mono ?_
                rintro e w9 ⟨rfl, hb9⟩
                have hB9 := hB8.trans (hb9.mono hB8.size)
                clear hb9
                cases al
                all_goals
                  go_wp2_with fail
                  go_roundw
                  case rel => exact ⟨j + 1, by omega, by go_num, by rw [HSU.out]; rfl, hB9⟩
                  case measure => simp [intOf]; omega
              · go_wp2_with fail
                refine (HKj.out _).mono ?_
                rintro e w8 ⟨rfl, hb8⟩
                have hz8 := hb8.size
                have hB8 := hBr.trans (hb8.mono hzr)
                clear hb8 x0 x1 x2 x3 x4 x5 x6 x7 x8 x9 x10 m0
                cases al
                all_goals
                  go_wp2_with fail
                  go_roundw
                  case rel => exact ⟨j + 1, by omega, by go_num, by rw [HSU.out]; rfl, hB8⟩
                  case measure => simp [intOf]; omega
            · obtain rfl : j = 4 := by omega
              have hKA := HKA.out
              generalize allTo s (s.P + tp) A B 4 = al at *
              rcases hKA with ⟨rfl, rfl⟩ | ⟨rfl, rfl⟩ | rfl
              · go_wp2_with fail
                refine (HW.out _).mono ?_
                rintro e w10 ⟨rfl, hb10⟩
                have hw10 := hwr.trans (hb10.mono hwr.size)
                clear hb10
                go_wp2_with fail
                go_ret
                exact ⟨rfl, hw10⟩
              · go_wp2_with fail
                refine (HW.out _).mono ?_
                rintro e w10 ⟨rfl, hb10⟩
                have hw10 := hwr.trans (hb10.mono hwr.size)
                clear hb10
                go_wp2_with fail
                go_ret
                exact ⟨rfl, hw10⟩
              · go_wp2_with fail
                refine (HW.out _).mono ?_
                rintro e w10 ⟨rfl, hb10⟩
                have hw10 := hwr.trans (hb10.mono hwr.size)
                clear hb10
                go_wp2_with fail
                go_ret
                exact ⟨rfl, hw10⟩
end Go.Proofs.Ytnlgchgpnfkjeaa
