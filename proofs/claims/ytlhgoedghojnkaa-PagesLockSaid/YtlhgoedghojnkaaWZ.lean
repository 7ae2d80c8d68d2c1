/- The reference's Put, whole. -/
import Derived.Test.YtlhgoedghojnkaaWX
import Derived.Test.YtlhgoedghojnkaaWG
namespace Go.Proofs.Ytlhgoedghojnkaa
set_option linter.unusedVariables false
set_option linter.unusedSimpArgs false
open Go.RowKit Go.Shelf

theorem gb_up {W X Y : World} {R : Option Nat} (hb : Below W.heap.size W X) (h : X.grownBy Y R) : W.grownBy Y R :=
  ⟨h.os.trans hb.os, h.tape.trans hb.tape, h.output.trans hb.output, Nat.le_trans hb.size h.size, fun k hk hne => (h.block k (Nat.lt_of_lt_of_le hk hb.size) hne).trans (hb.block k hk)⟩
theorem below_alloc1 {n : Nat} {W : World} (hn : n ≤ W.heap.size) (o : Obj) : Below n W (W.alloc o) := (Below.refl n W).alloc hn o

set_option maxRecDepth 100000 in
set_option maxHeartbeats 16000000 in
theorem Put_any (f : PFrame) (sa : Option Addr) (sl sc : Nat) (pa : Option Addr) (pl pc : Nat) (ca : Option Addr) (cl cc : Nat) (c : Nat) (hc : c < f.cols.length) (p : Piece) (ho : f.ok = true) (w : World) (hp : PAt w sa sl sc pa pl pc ca cl cc f) :
    Calls Try.prog 71 #[.agg #[.int .i64 f.len, .int .i64 f.slack, .slice sa sl sc, .slice pa pl pc, .slice ca cl cc], .int .i64 c, .agg #[.int .i64 p.lo, .int .i64 p.hi, .int .i64 p.pe]] w fun e w' => NewOf (f.put c p) sl (pl + 1) cl w e w' ∧ Below w.heap.size w w' := by
  obtain ⟨s1, s2, s3, s4⟩ := ok_sizes sa sl sc pa pl pc ca cl cc ho hp
  have hpl := hp.2.1.1
  have hcl := hp.2.2.1
  have HCL := Lib.hid (fun w1 (hb : Below w.heap.size w w1) => Copy_ofC f sa sl sc pa pl pc ca cl cc w1 (hp.below hb) s1 s2 s3 s4)
  have hckl : (c : Int) < (cl : Int) := by omega
  have hck0 : (0 : Int) ≤ (c : Int) := by omega
  have hx6 := (PFrame.ok_col ho c hc).2
  have HO := Lib.hid ho
  have HX4 := Lib.hid s4
  have HPL := Lib.hid hpl
  clear hp ho s4
  obtain ⟨a, b, d⟩ := p
  simp only
  go_enter Try.func71, Try.ntmps71
  go_upto_region 1 with fail
  obtain ⟨W0, hW0, hB0, hs0, hp0, hr0, -, hfr2, hz0⟩ := name3 w #[.int .i64 f.len, .int .i64 f.slack, .slice sa sl sc, .slice pa pl pc, .slice ca cl cc] 26 #[.int .i64 a, .int .i64 b, .int .i64 d] 43 #[.int .i64 0, .int .i64 0, .slice none 0 0, .slice none 0 0, .slice none 0 0] 26
  have hi1 : IsC W0 (w.heap.size + 1) 43 := by
    rw [← hW0]
    refine IsC.alloc _ (IsC.new' ?_)
    simp
  have hi2 : IsC W0 (w.heap.size + 1 + 1) 26 := by
    rw [← hW0]
    refine IsC.new' ?_
    simp
  try rw [hW0]
  clear hW0
  obtain ⟨x0, x1, x2, x3, x4⟩ : W0.cell? ⟨w.heap.size, 0, none⟩ = some (.int .i64 f.len) ∧ W0.cell? ⟨w.heap.size, 1, none⟩ = some (.int .i64 f.slack) ∧ W0.cell? ⟨w.heap.size, 2, none⟩ = some (.slice sa sl sc) ∧ W0.cell? ⟨w.heap.size, 3, none⟩ = some (.slice pa pl pc) ∧ W0.cell? ⟨w.heap.size, 4, none⟩ = some (.slice ca cl cc) := ⟨hs0 0, hs0 1, hs0 2, hs0 3, hs0 4⟩
  obtain ⟨q0, q1, q2⟩ : W0.cell? ⟨w.heap.size + 1, 0, none⟩ = some (.int .i64 a) ∧ W0.cell? ⟨w.heap.size + 1, 1, none⟩ = some (.int .i64 b) ∧ W0.cell? ⟨w.heap.size + 1, 2, none⟩ = some (.int .i64 d) := ⟨hp0 0, hp0 1, hp0 2⟩
  obtain ⟨t0, t1, t2, t3, t4⟩ : W0.cell? ⟨w.heap.size + 1 + 1, 0, none⟩ = some (.int .i64 0) ∧ W0.cell? ⟨w.heap.size + 1 + 1, 1, none⟩ = some (.int .i64 0) ∧ W0.cell? ⟨w.heap.size + 1 + 1, 2, none⟩ = some (.slice none 0 0) ∧ W0.cell? ⟨w.heap.size + 1 + 1, 3, none⟩ = some (.slice none 0 0) ∧ W0.cell? ⟨w.heap.size + 1 + 1, 4, none⟩ = some (.slice none 0 0) := ⟨hr0 0, hr0 1, hr0 2, hr0 3, hr0 4⟩
  have hd0 : w.heap.size < W0.heap.size := by omega
  have hd1 : w.heap.size + 1 < W0.heap.size := by omega
  have hd2 : w.heap.size + 1 + 1 < W0.heap.size := by omega
  have HS0 := Lib.hid (show (∀ i, W0.cell? ⟨w.heap.size + 1, i, none⟩ = W0.cell? ⟨w.heap.size + 1, i, none⟩) from fun _ => rfl)
  have HI1 := Lib.hid hi1
  have HI2 := Lib.hid hi2
  have HB0 := Lib.hid hB0
  have HF2 := Lib.hid hfr2
  clear hi1 hi2 hs0 hp0 hr0 hfr2 HS0
  go_upto_region 2 with (go_at_call 19; refine (HCL.out _ hB0).mono ?_; rintro e w2 ⟨gs, gsc, gp, gpc, va, vc, vs, N1, rfl, hPR, hCP, hb2⟩; have HPR := Lib.hid hPR; have HCP := Lib.hid hCP; have HB2 := Lib.hid hb2; clear hPR hCP hb2)
  clear hB0
  obtain ⟨w3, hw3, hB3, ho3, hz3⟩ := name1k w2 #[.int .i64 f.len, .int .i64 f.slack, .slice (some gs) sl gsc, .slice (some gp) pl gpc, .slice va cl vc] 26
  have hIo : IsC w3 w2.heap.size 26 := by rw [← hw3]; exact IsC.new' rfl
  have hfo : ∀ i, w3.frozen? ⟨w2.heap.size, i, none⟩ = false := by subst hw3; intro i; go_simp
  rw [hw3]
  clear hw3
  have hz2 := HB2.out.size
  obtain ⟨p1, p2, p3, p4, p5⟩ := HPR.out
  obtain ⟨gv, vc', hge, hgn⟩ := ownsRow_pos p3 (by omega)
  injection hge with hge _ hvc
  subst hge hvc
  obtain ⟨ga, rc, hv, hcap, hF⟩ := p4.2 c hc
  have hv0 : w2.cell? ⟨gv, c, none⟩ = some (.slice (some ga) f.cols[c].length rc) := by
    have := p3.cells (g := gv) rfl c _ hv
    rw [Addr.add_lit] at this
    rwa [Nat.zero_add] at this
  obtain ⟨_, curv, hcurv⟩ := own_parts p3
  have hgl : gv < w2.heap.size := (Array.getElem?_eq_some_iff.1 hcurv).1
  have hvf : w2.frozen? ⟨gv, c, none⟩ = false := by simp [World.frozen?, hcurv]
  have hIv : IsC w3 gv 27 := ⟨curv, (hB3.block _ hgl).trans hcurv⟩
  have HP3 := Lib.hid (HPR.out.below hB3)
  have HF3 := Lib.hid (hF.kept (grown_none hB3) (fun r e => by cases e))
  have HCAP := Lib.hid hcap
  have HV := Lib.hid hv
  have HN1 := Lib.hid p5
  have v0 := (hB3.cell (p := ⟨gv, c, none⟩) hgl).trans hv0
  have vf := (hB3.frozen (p := ⟨gv, c, none⟩) hgl).trans hvf
  have NO := Lib.hid (HF3.out.ne hIo (by decide))
  have NV := Lib.hid (HF3.out.ne hIv (by decide))
  clear hv0 hvf hcurv hIv hcap hv hF p1 p2 p3 p4 hgn
  have HB03 := Lib.hid (show Below W0.heap.size W0 w3 from HB2.out.trans (hB3.mono hz2))
  obtain ⟨y0, y1, y2, y3, y4⟩ : w3.cell? ⟨w2.heap.size, 0, none⟩ = some (.int .i64 f.len) ∧ w3.cell? ⟨w2.heap.size, 1, none⟩ = some (.int .i64 f.slack) ∧ w3.cell? ⟨w2.heap.size, 2, none⟩ = some (.slice (some gs) sl gsc) ∧ w3.cell? ⟨w2.heap.size, 3, none⟩ = some (.slice (some gp) pl gpc) ∧ w3.cell? ⟨w2.heap.size, 4, none⟩ = some (.slice (some ⟨gv, 0, none⟩) cl vc) := ⟨ho3 0, ho3 1, ho3 2, ho3 3, ho3 4⟩
  have k3 := (HB03.out.cell (p := ⟨w.heap.size, 3, none⟩) hd0).trans x3
  have HY := Lib.hid (And.intro y0 (And.intro y1 (And.intro y2 y3)))
  have HY4 := Lib.hid y4
  have HFO := Lib.hid hfo
  have HIO := Lib.hid hIo
  have HIP := Lib.hid (show IsC w3 (w.heap.size + 1) 43 from HI1.out.below HB03.out)
  have HIF := Lib.hid (show IsC w3 (w.heap.size + 1 + 1) 26 from HI2.out.below HB03.out)
  have HQ := Lib.hid (And.intro ((HB03.out.cell (p := ⟨w.heap.size + 1, 0, none⟩) hd1).trans q0) (And.intro ((HB03.out.cell (p := ⟨w.heap.size + 1, 1, none⟩) hd1).trans q1) ((HB03.out.cell (p := ⟨w.heap.size + 1, 2, none⟩) hd1).trans q2)))
  have HT := Lib.hid (And.intro ((HB03.out.cell (p := ⟨w.heap.size + 1 + 1, 0, none⟩) hd2).trans t0) (And.intro ((HB03.out.cell (p := ⟨w.heap.size + 1 + 1, 1, none⟩) hd2).trans t1) (And.intro ((HB03.out.cell (p := ⟨w.heap.size + 1 + 1, 2, none⟩) hd2).trans t2) (And.intro ((HB03.out.cell (p := ⟨w.heap.size + 1 + 1, 3, none⟩) hd2).trans t3) ((HB03.out.cell (p := ⟨w.heap.size + 1 + 1, 4, none⟩) hd2).trans t4)))))
  have HTF := Lib.hid (fun i => (HB03.out.frozen (p := ⟨w.heap.size + 1 + 1, i, none⟩) hd2).trans (HF2.out i))
  have HB3 := Lib.hid hB3
  obtain ⟨rl, hrl⟩ : ∃ rl, f.cols[c].length = rl := ⟨_, rfl⟩
  rw [hrl] at HF3 HCAP HV v0 NO NV hx6
  have HRL := Lib.hid hrl
  have hnU : W0.heap.size ≤ w3.heap.size := by omega
  have hgl3 : gv < w3.heap.size := by omega
  have hdw : w.heap.size < w3.heap.size := by omega
  clear x0 x1 x2 x3 x4 q0 q1 q2 t0 t1 t2 t3 t4 y0 y1 y2 y3 hfo hIo hB3 hrl ho3 HI1 HI2
  go_cut [] (fun wx => PutMid f W0.heap.size sl pl cl c rl gs gsc gp gpc gv vc vs w3 wx)
  case first =>
    go_region_law (first
      | ((with_reducible refine step_append_col _ W0.heap.size rl rc ga f.cols[c] (pl : Int) HCAP.out ?_ ?_ rfl _ _ rfl ?_ ?_ ?_ ?_); (· exact (HF3.out.kept (grown_none (by repeat (first | exact Below.refl _ _ | (refine Below.alloc ?_ (by first | omega | (simp; omega) | simp) _) | (refine Below.setCell ?_ (by first | omega | (simp; omega) | simp) _) | refine Below.drew ?_))) (fun r e => by cases e)).low HN1.out); (· omega); (· rfl); (· refine ⟨_, rfl, ?_⟩; (go_simp; done)); (· first | omega | (simp; omega)); intro na nc wA row hownA hgA hrA hbA; have g4 : wA.cell? ⟨w2.heap.size, 4, none⟩ = some (.slice (some ⟨gv, 0, none⟩) cl vc) := (row_keeps hgA hrA (by first | omega | (simp; omega)) NO.out 4).1.trans (by go_simp); have g5 : wA.cell? ⟨gv, c, none⟩ = some (.slice (some ga) rl rc) := (row_keeps hgA hrA (by first | omega | (simp; omega)) NV.out c).1.trans (by go_simp); have g6 : wA.frozen? ⟨gv, c, none⟩ = false := (row_keeps hgA hrA (by first | omega | (simp; omega)) NV.out c).2.trans (by go_simp); have HOA := Lib.hid hownA; have HGA := Lib.hid hgA; have HRA := Lib.hid hrA; have HBA := Lib.hid hbA; have hzA := hgA.size; (try simp at hzA); clear hownA hgA hrA hbA)
      | fail "no arm")
    all_goals (
      go_wp2_with fail
      go_meet
      exact put_mid HO.out HP3.out hc HRL.out HV.out HF3.out hnU (by repeat (first | exact Below.refl _ _ | (refine Below.alloc ?_ (by first | omega | (simp; omega) | simp) _) | (refine Below.setCell ?_ (by first | omega | (simp; omega) | simp) _) | refine Below.drew ?_)) HOA.out HGA.out HRA.out HBA.out)
  case rest =>
  obtain ⟨na, nc, hS, hPc, hOc, hCR, hbU, hty⟩ := hcut
  obtain ⟨w4, rfl⟩ : ∃ w4 : World, w4 = wc := ⟨_, rfl⟩
  have hkeep : ∀ (b : Nat) (T : TypeId), IsC w3 b T → T ≠ 3 → T ≠ 27 → IsC w4 b T ∧ ∀ i, w4.cell? ⟨b, i, none⟩ = w3.cell? ⟨b, i, none⟩ ∧ w4.frozen? ⟨b, i, none⟩ = w3.frozen? ⟨b, i, none⟩ := fun b T ⟨cs, hb⟩ h1 h2 => by
    have hl := (Array.getElem?_eq_some_iff.1 hb).1
    have e := hty b hl ⟨cs, T, hb, h1, h2⟩
    exact ⟨⟨cs, e.trans hb⟩, fun i => ⟨World.cell?_of_block (w := w3) (a := ⟨b, i, none⟩) e, World.frozen?_of_block (w := w3) (a := ⟨b, i, none⟩) e⟩⟩
  obtain ⟨hIo, hko⟩ := hkeep _ _ HIO.out (by decide) (by decide)
  obtain ⟨hIp, hkp⟩ := hkeep _ _ HIP.out (by decide) (by decide)
  obtain ⟨hIf, hkf⟩ := hkeep _ _ HIF.out (by decide) (by decide)
  have hz4 := hbU.size
  have HBW4 := Lib.hid (show Below w.heap.size w w4 from HB0.out.trans ((HB03.out.mono (Nat.le_of_lt hd0)).trans (hbU.mono (Nat.le_of_lt hd0))))
  have hn4 : W0.heap.size ≤ w4.heap.size := by omega
  have ho4 : w2.heap.size < w4.heap.size := by omega
  have y3 := (hko 3).1.trans HY.out.2.2.2
  have y3f := (hko 3).2.trans (HFO.out 3)
  have q0 := (hkp 0).1.trans HQ.out.1
  have q1 := (hkp 1).1.trans HQ.out.2.1
  have q2 := (hkp 2).1.trans HQ.out.2.2
  have NP := Lib.hid (hPc.ne hIo (by decide))
  have HPC := Lib.hid hPc
  have HS4 := Lib.hid hS
  have HOC := Lib.hid hOc
  have HCR := Lib.hid hCR
  have HIO4 := Lib.hid hIo
  have HIF4 := Lib.hid hIf
  have HKO := Lib.hid hko
  have HKF := Lib.hid hkf
  clear hS hPc hOc hCR hty hkeep hIo hko hIp hkp hIf hkf y4 v0 vf k3 hbU
  go_upto_region 4 with (at_builtin; go_must (refine wpList_append_piece _ W0.heap.size pl gpc gp (f.pieces.flatMap Piece.cells) a b d HCP.out ?_ (by omega) rfl _ _ rfl rfl ⟨_, rfl, ?_, ?_, ?_⟩ ?_ ?_); go_must (· exact HPC.out.kept (grown_none (by repeat (first | exact Below.refl _ _ | (refine Below.alloc ?_ (by first | omega | (simp; omega) | simp) _) | (refine Below.setCell ?_ (by first | omega | (simp; omega) | simp) _) | refine Below.drew ?_))) (fun r e => by cases e)); go_must (focus (go_simp; done)); go_must (focus (go_simp; done)); go_must (focus (go_simp; done)); go_must (focus (simp; omega)); intro nb nbc w5 row hownB hgB hrB hbB; have g3 : w5.cell? ⟨w2.heap.size, 3, none⟩ = some (.slice (some gp) pl gpc) := (row_keeps hgB hrB (by simp; omega) NP.out 3).1.trans (by go_simp); have g3f : w5.frozen? ⟨w2.heap.size, 3, none⟩ = false := (row_keeps hgB hrB (by simp; omega) NP.out 3).2.trans (by go_simp); have HG5 := Lib.hid (gb_up (W := w4) (by repeat (first | exact Below.refl _ _ | (refine Below.alloc ?_ (by first | omega | (simp; omega) | simp) _) | (refine Below.setCell ?_ (by first | omega | (simp; omega) | simp) _) | refine Below.drew ?_)) hgB); have HR5 := Lib.hid hrB; have HO5 := Lib.hid hownB; have HB5 := Lib.hid (Below.trans (below_alloc1 (n := W0.heap.size) (W := w4) hn4 _) hbB); clear hownB hgB hrB hbB)
  obtain ⟨w6, hw6⟩ : ∃ w6, w5.setCell ⟨w2.heap.size, 3, none⟩ (.slice nb (pl + 1) nbc) = w6 := ⟨_, rfl⟩
  try rw [hw6]
  have hz5 := HG5.out.size
  have hg6 : w5.grownBy w6 (some w2.heap.size) := by rw [← hw6]; exact gbx_set (gbx_refl _ _) _ _
  have hz6 : w6.heap.size = w5.heap.size := by rw [← hw6]; simp [World.setCell]
  have hk5 : ∀ (b : Nat) (T : TypeId), IsC w4 b T → T ≠ 43 → IsC w5 b T ∧ ∀ i, w5.cell? ⟨b, i, none⟩ = w4.cell? ⟨b, i, none⟩ ∧ w5.frozen? ⟨b, i, none⟩ = w4.frozen? ⟨b, i, none⟩ := fun b T hI hT =>
    ⟨hI.grown HG5.out HR5.out (HPC.out.ne hI hT), fun i => row_keeps HG5.out HR5.out hI.lt (HPC.out.ne hI hT) i⟩
  obtain ⟨hIo5, hko5⟩ := hk5 _ _ HIO4.out (by decide)
  obtain ⟨hIf5, hkf5⟩ := hk5 _ _ HIF4.out (by decide)
  have hoF : ∀ i, w5.cell? ⟨w2.heap.size, i, none⟩ = w3.cell? ⟨w2.heap.size, i, none⟩ := fun i => (hko5 i).1.trans (HKO.out i).1
  have htF : ∀ i, w6.cell? ⟨w.heap.size + 1 + 1, i, none⟩ = w3.cell? ⟨w.heap.size + 1 + 1, i, none⟩ := fun i => (gbx_cell hg6 (by omega) (by omega) i).trans ((hkf5 i).1.trans (HKF.out i).1)
  have htf : ∀ i, w6.frozen? ⟨w.heap.size + 1 + 1, i, none⟩ = false := fun i => (gbx_frozen hg6 (by omega) (by omega) i).trans ((hkf5 i).2.trans ((HKF.out i).2.trans (HTF.out i)))
  have u0 : w6.cell? ⟨w2.heap.size, 0, none⟩ = some (.int .i64 f.len) := by rw [← hw6]; exact (set_cell' (by decide)).trans ((hoF 0).trans HY.out.1)
  have u1 : w6.cell? ⟨w2.heap.size, 1, none⟩ = some (.int .i64 f.slack) := by rw [← hw6]; exact (set_cell' (by decide)).trans ((hoF 1).trans HY.out.2.1)
  have u2 : w6.cell? ⟨w2.heap.size, 2, none⟩ = some (.slice (some gs) sl gsc) := by rw [← hw6]; exact (set_cell' (by decide)).trans ((hoF 2).trans HY.out.2.2.1)
  have u3 : w6.cell? ⟨w2.heap.size, 3, none⟩ = some (.slice nb (pl + 1) nbc) := by rw [← hw6]; exact set_cell g3
  have u4 : w6.cell? ⟨w2.heap.size, 4, none⟩ = some (.slice (some ⟨gv, 0, none⟩) cl vc) := by rw [← hw6]; exact (set_cell' (by decide)).trans ((hoF 4).trans HY4.out)
  have s0 := (htF 0).trans HT.out.1
  have s1' := (htF 1).trans HT.out.2.1
  have s2' := (htF 2).trans HT.out.2.2.1
  have s3' := (htF 3).trans HT.out.2.2.2.1
  have s4' := (htF 4).trans HT.out.2.2.2.2
  obtain ⟨m0, m1, m2, m3, m4⟩ : w6.frozen? ⟨w.heap.size + 1 + 1, 0, none⟩ = false ∧ w6.frozen? ⟨w.heap.size + 1 + 1, 1, none⟩ = false ∧ w6.frozen? ⟨w.heap.size + 1 + 1, 2, none⟩ = false ∧ w6.frozen? ⟨w.heap.size + 1 + 1, 3, none⟩ = false ∧ w6.frozen? ⟨w.heap.size + 1 + 1, 4, none⟩ = false := ⟨htf 0, htf 1, htf 2, htf 3, htf 4⟩
  obtain ⟨r0, r1, r2, r3, r4⟩ := set5 (.int .i64 f.len) (.int .i64 f.slack) (.slice (some gs) sl gsc) (.slice nb (pl + 1) nbc) (.slice (some ⟨gv, 0, none⟩) cl vc) s0 s1' s2' s3' s4'
  obtain ⟨wF, hwF⟩ : ∃ wF, (((((w6.setCell ⟨w.heap.size + 1 + 1, 0, none⟩ (.int .i64 f.len)).setCell ⟨w.heap.size + 1 + 1, 1, none⟩ (.int .i64 f.slack)).setCell ⟨w.heap.size + 1 + 1, 2, none⟩ (.slice (some gs) sl gsc)).setCell ⟨w.heap.size + 1 + 1, 3, none⟩ (.slice nb (pl + 1) nbc)).setCell ⟨w.heap.size + 1 + 1, 4, none⟩ (.slice (some ⟨gv, 0, none⟩) cl vc)) = wF := ⟨_, rfl⟩
  have hg7 : w6.grownBy wF (some (w.heap.size + 1 + 1)) := by rw [← hwF]; exact gbx_set (gbx_set (gbx_set (gbx_set (gbx_set (gbx_refl _ _) _ _) _ _) _ _) _ _) _ _
  have hnB := row_typed HPC.out HR5.out
  have hno : ∀ {e : TypeId}, 26 ≠ e → ∀ r, (some w2.heap.size : Option Nat) = some r → (∃ (c : Array Value) (e' : TypeId), w5.heap[r]? = some (.cells c e' (0, 0)) ∧ e' ≠ e) ∨ r < W0.heap.size ∨ w5.heap.size ≤ r := fun he r e => by
    injection e with e; subst e
    obtain ⟨cs, h⟩ := hIo5
    exact .inl ⟨cs, _, h, he⟩
  have hnF : ∀ {e : TypeId}, ∀ r, (some (w.heap.size + 1 + 1) : Option Nat) = some r → (∃ (c : Array Value) (e' : TypeId), w6.heap[r]? = some (.cells c e' (0, 0)) ∧ e' ≠ e) ∨ r < W0.heap.size ∨ w6.heap.size ≤ r := fun r e => by
    injection e with e; exact .inr (.inl (by omega))
  have hnR : ∀ {e : TypeId}, 43 ≠ e → ∀ r, row = some r → (∃ (c : Array Value) (e' : TypeId), w4.heap[r]? = some (.cells c e' (0, 0)) ∧ e' ≠ e) ∨ r < W0.heap.size ∨ w4.heap.size ≤ r := fun he r e => by
    obtain ⟨cs, h⟩ := hnB r e
    exact .inl ⟨cs, _, h, he⟩
  have hSF := ((HS4.out.kept HG5.out (hnR (by decide))).kept hg6 (hno (by decide))).kept hg7 hnF
  have hCF := ((HCR.out.kept HG5.out (hnR (by decide))).kept hg6 (hno (by decide))).kept hg7 hnF
  have hOpF := (HO5.out.kept hg6 (.inr fun e => own_ne HO5.out hIo5 (by decide) e.symm)).kept hg7 (.inr fun e => by have := own_low HO5.out _ e; omega)
  have hOc5 := HOC.out.kept HG5.out (.inr fun e => own_ne HOC.out (hnB gv (by rw [← e]; rfl)) (by decide) rfl)
  have hOcF := (hOc5.kept hg6 (.inr fun e => own_ne hOc5 hIo5 (by decide) e.symm)).kept hg7 (.inr fun e => by have := own_low HOC.out _ e; omega)
  have hBF : Below w.heap.size w wF := ((HBW4.out.trans (HB5.out.mono (Nat.le_of_lt hd0))).trans (low_grown (N := w.heap.size) hg6 (by omega) (by omega))).trans (low_grown (N := w.heap.size) hg7 (by omega) (by omega))
  have hpc : (f.put c ⟨a, b, d⟩).pieces.flatMap Piece.cells = f.pieces.flatMap Piece.cells ++ [.int .i64 a, .int .i64 b, .int .i64 d] := by unfold PFrame.put; simp [Piece.cells]
  have hcc : (f.put c ⟨a, b, d⟩).cols = f.cols.set c (f.cols[c]?.getD [] ++ [(pl : Int)]) := by unfold PFrame.put; rw [HPL.out]
  have hle : w.heap.size ≤ W0.heap.size := Nat.le_of_lt hd0
  have HNEW := Lib.hid (show ∀ W', KeepsUp w.heap.size wF W' → PAt W' (some gs) sl gsc nb (pl + 1) nbc (some ⟨gv, 0, none⟩) cl vc (f.put c ⟨a, b, d⟩) from fun W' hk =>
    ⟨FRow.strips (hSF.up hk hle) (by unfold maxLen; omega), FRow.pieces (by rw [hpc]; exact (own_frow hOpF).up hk hle) (by unfold maxLen; omega), by rw [hcc]; exact (hCF.up hk hle).vrow.lists (own_up hOcF hk hle) (by unfold maxLen; omega)⟩)
  have HBF := Lib.hid hBF
  rw [← hwF] at HNEW HBF
  clear hwF hg7 hnB hno hnF hnR hSF hCF hOpF hOc5 hOcF hBF hpc hcc hk5 hIo5 hko5 hIf5 hkf5 hoF htF htf hg6 hw6 g3 g3f y3 y3f q0 q1 q2
  go_wp2_with fail
  refine bodyPost_ret (v := .agg #[.int .i64 f.len, .int .i64 f.slack, .slice (some gs) sl gsc, .slice nb (pl + 1) nbc, .slice (some ⟨gv, 0, none⟩) cl vc]) ?_ rfl ⟨⟨_, _, _, _, _, _, rfl, HNEW.out⟩, HBF.out⟩
  simp [results, Try.results71, go_sem, r0, r1, r2, r3, r4]
end Go.Proofs.Ytlhgoedghojnkaa
