/- The reference's Cheap, Tin and Short. -/
import Derived.Test.YtajabapcmpmboaaSN
import Derived.Test.YtajabapcmpmboaaSJ
import Derived.Test.YtajabapcmpmboaaPE
namespace Go.Proofs.Ytajabapcmpmboaa
set_option linter.unusedVariables false
set_option linter.unusedSimpArgs false
open Go.RowKit

theorem least_bad {s : Shop} (ho : s.ok = false) (k : Nat) : s.least k = (0, 10) := by simp [Shop.least, ho]
theorem least_none {s : Shop} (ho : s.ok = true) (h : s.best 2 = none) (k : Nat) : s.least k = (0, 3) := by
  have hn := (cheapest_no h).2.2
  have h0 : s.best k = none := by
    rcases best_spec s (askF k s) s.adds with ⟨h1, -⟩ | ⟨y, m, -, h2, h3, -⟩
    · exact h1
    · exact absurd h3 (hn y h2)
  simp [Shop.least, ho, h0]
theorem least_cheap {s : Shop} (ho : s.ok = true) {y : List Int} {m : Int} (h : s.best 2 = some (y, m)) : s.least 0 = (tot Pig.c s.pigs y, 0) := by
  have hC := cheapest_yes ho h
  have h1 := hC.cost
  have h2 := hC.cost0.2
  unfold Shop.costN at h1 h2
  unfold Shop.least
  rw [if_pos ho]
  cases hb : s.best 0 with
  | none => rw [hb] at h2; simp at h2
  | some p => obtain ⟨y', m'⟩ := p; rw [hb] at h1; simpa using h1
theorem least_some {s : Shop} (ho : s.ok = true) {k : Nat} {y : List Int} {m : Int} (h : s.best k = some (y, m)) : s.least k = (m, 0) := by
  simp [Shop.least, ho, h]

set_option maxHeartbeats 2000000 in
theorem refCheap_any (s : Shop) (a : Option Addr) (len cap : Nat) (w : World) (hp : PigsAt w a len s.pigs) :
    Calls Try.prog 33 #[.agg #[.int .i64 s.P, .int .i64 s.tl, .int .i64 s.th, .int .i64 s.al, .int .i64 s.ah, .int .i64 s.room, .int .i64 s.xl, .int .i64 s.xh, .int .i64 s.yl, .int .i64 s.yh, .slice a len cap]] w fun e w' => e = .returned (.tuple #[.int .i64 (s.least 0).1, .int .i64 (s.least 0).2]) ∧ Below w.heap.size w w' := by
  rcases ho : s.ok with - | -
  · have HC := Lib.hid (fun w1 (hb : Below w.heap.size w w1) => refMend_bad s a len cap w1 (hp.below hb) ho)
    rw [least_bad ho]
    clear hp ho
    go_enter Try.func33, Try.ntmps33
    go_wp2_with fail
    refine (HC.out _ (by repeat (first | exact Below.refl _ _ | (refine Below.alloc ?_ (by first | omega | (simp; omega) | simp) _) | (refine Below.setCell ?_ (by first | omega | (simp; omega) | simp) _) | refine Below.drew ?_))).mono ?_
    rintro e w1 ⟨rfl, hb1⟩
    have HB := Lib.hid hb1
    clear hb1
    go_wp2_with fail
    go_ret2
    exact ⟨rfl, (by repeat (first | exact Below.refl _ _ | (refine Below.alloc ?_ (by first | omega | (simp; omega) | simp) _) | (refine Below.setCell ?_ (by first | omega | (simp; omega) | simp) _) | refine Below.drew ?_ | (refine below_via (by assumption) (by first | omega | (simp; omega) | simp) ?_)))⟩
  · have hl4 : len ≤ 4 := by have := Shop.ok_bd ho; have := hp.1; omega
    have HC := Lib.hid (fun w1 (hb : Below w.heap.size w w1) => refMend_ok s a len cap w1 (hp.below hb) ho)
    have HN := Lib.hid (fun (h : s.best 2 = none) => least_none ho h 0)
    have HY := Lib.hid (fun y m (h : s.best 2 = some (y, m)) => least_cheap ho h)
    have HF := Lib.hid (fun y m (h : s.best 2 = some (y, m)) w1 (hb : Below w.heap.size w w1) la lc (hi : IntsAt w1 la len y) => ref_PenceOf s a cap la len lc y w1 (hp.below hb) hi hl4 (s.few y ho (Shop.isAdd_len (cheapest_yes ho h).add).2))
    generalize s.least 0 = r at *
    clear hp ho
    go_enter Try.func33, Try.ntmps33
    go_wp2_with fail
    refine (HC.out _ (by repeat (first | exact Below.refl _ _ | (refine Below.alloc ?_ (by first | omega | (simp; omega) | simp) _) | (refine Below.setCell ?_ (by first | omega | (simp; omega) | simp) _) | refine Below.drew ?_))).mono ?_
    intro e w1 hsp
    unfold RefMend at hsp
    obtain ⟨hsp, hb1⟩ := hsp
    obtain ⟨hc1, hf1⟩ := bcell hb1
    have hz1 := hb1.size
    simp at hz1
    have hw1 := ((by repeat (first | exact Below.refl _ _ | (refine Below.alloc ?_ (by first | omega | (simp; omega) | simp) _) | (refine Below.setCell ?_ (by first | omega | (simp; omega) | simp) _) | refine Below.drew ?_)) : Below w.heap.size w _).trans (hb1.mono (by first | (simp; done) | (simp; omega) | omega))
    have q1 : w.heap.size < w1.heap.size := by omega
    clear hb1
    rcases hsp with ⟨hn, rfl⟩ | ⟨y, m, la, lc, hs, rfl, hi⟩
    · obtain rfl := HN.out hn
      clear hn
      go_wp2_with fail
      go_ret2
      exact ⟨rfl, hw1⟩
    · obtain rfl := HY.out y m hs
      have HF1 := Lib.hid (HF.out y m hs w1 hw1 la lc hi)
      clear hs hi
      go_wp2_with fail
      refine HF1.out.mono ?_
      rintro e w2 ⟨rfl, hb2⟩
      have hw2 := hw1.trans (hb2.mono hw1.size)
      clear hb2
      go_wp2_with fail
      go_ret2
      exact ⟨rfl, hw2⟩

set_option maxRecDepth 100000 in
set_option maxHeartbeats 4000000 in
theorem refTin_any (s : Shop) (a : Option Addr) (len cap : Nat) (w : World) (hp : PigsAt w a len s.pigs) :
    Calls Try.prog 37 #[.agg #[.int .i64 s.P, .int .i64 s.tl, .int .i64 s.th, .int .i64 s.al, .int .i64 s.ah, .int .i64 s.room, .int .i64 s.xl, .int .i64 s.xh, .int .i64 s.yl, .int .i64 s.yh, .slice a len cap]] w fun e w' => e = .returned (.tuple #[.int .i64 (s.least 1).1, .int .i64 (s.least 1).2]) ∧ Below w.heap.size w w' := by
  rcases ho : s.ok with - | -
  · have HC := Lib.hid (fun w1 (hb : Below w.heap.size w w1) => refCheck_is s a len cap 10 (by simp [Shop.chk, ho]) w1 (hp.below hb))
    rw [least_bad ho]
    clear hp ho
    go_enter Try.func37, Try.ntmps37
    go_wp2_with fail
    refine (HC.out _ (by repeat (first | exact Below.refl _ _ | (refine Below.alloc ?_ (by first | omega | (simp; omega) | simp) _) | (refine Below.setCell ?_ (by first | omega | (simp; omega) | simp) _) | refine Below.drew ?_))).mono ?_
    rintro e w1 ⟨rfl, hb1⟩
    have HB := Lib.hid hb1
    clear hb1
    go_wp2_with fail
    go_ret2
    exact ⟨rfl, (by repeat (first | exact Below.refl _ _ | (refine Below.alloc ?_ (by first | omega | (simp; omega) | simp) _) | (refine Below.setCell ?_ (by first | omega | (simp; omega) | simp) _) | refine Below.drew ?_ | (refine below_via (by assumption) (by first | omega | (simp; omega) | simp) ?_)))⟩
  · have hl4 : len ≤ 4 := by have := Shop.ok_bd ho; have := hp.1; omega
    have HC := Lib.hid (fun w1 (hb : Below w.heap.size w w1) => refCheck_is s a len cap 0 (by simp [Shop.chk, ho]) w1 (hp.below hb))
    have HL := Lib.hid (fun w1 (hb : Below w.heap.size w w1) => refsafe_any s a len cap w1 (hp.below hb) ho)
    have HTT := Lib.hid (fun w1 (hb : Below w.heap.size w w1) xa xc x (hi : IntsAt w1 xa len x) (hx : x ∈ s.adds) => ref_TinOf s a cap xa len xc x w1 (hp.below hb) hi hl4 (s.few x ho (Shop.isAdd_len (mem_isAdd ho hx)).2))
    have HN := Lib.hid (fun h => least_none ho (safeL_nil (s := s) h 2) 1)
    have HNX := Lib.hid (fun j y (h : BestInv s (askF 1 s) j y) (hj : j < s.safeL.length) => h.next hj)
    have HDN := Lib.hid (fun y (h : BestInv s (askF 1 s) s.safeL.length y) h0 => least_some ho (h.done h0))
    have HMEM := Lib.hid (fun j (h : j < s.safeL.length) => safeL_adds (List.getElem_mem h))
    have HST := Lib.hid (fun (h : 0 < s.safeL.length) => show BestInv s (askF 1 s) 0 s.safeL[0] from .inl ⟨rfl, h, rfl⟩)
    have hfew : s.safeL.length ≤ 1296 := Nat.le_trans (List.length_filter_le _ _) (adds_few ho)
    generalize s.least 1 = r at *
    clear hp ho
    go_enter Try.func37, Try.ntmps37
    go_wp2_with fail
    refine (HC.out _ (by repeat (first | exact Below.refl _ _ | (refine Below.alloc ?_ (by first | omega | (simp; omega) | simp) _) | (refine Below.setCell ?_ (by first | omega | (simp; omega) | simp) _) | refine Below.drew ?_))).mono ?_
    rintro e w1 ⟨rfl, hb1⟩
    obtain ⟨hc1, hf1⟩ := bcell hb1
    have hz1 := hb1.size
    simp at hz1
    have hw1 := ((by repeat (first | exact Below.refl _ _ | (refine Below.alloc ?_ (by first | omega | (simp; omega) | simp) _) | (refine Below.setCell ?_ (by first | omega | (simp; omega) | simp) _) | refine Below.drew ?_)) : Below w.heap.size w _).trans (hb1.mono (by first | (simp; done) | (simp; omega) | omega))
    clear hb1
    have q1 : w.heap.size < w1.heap.size := by omega
    go_wp2_with fail
    refine (HL.out _ hw1).mono ?_
    intro e w2 hsp
    unfold SafePost at hsp
    obtain ⟨v2, vs2, rfl, hown2, hrd2, hb2⟩ := hsp
    obtain ⟨la, lc, rfl⟩ := own_slice hown2
    have hw2 := hw1.trans (hb2.mono hw1.size)
    have HW2 := Lib.hid hw2
    have hz2 := hb2.size
    have t0 : w.heap.size < w2.heap.size := by omega
    have HSB := Lib.hid (fun i => show w2.cell? ⟨w.heap.size, i, none⟩ = (#[.int .i64 s.P, .int .i64 s.tl, .int .i64 s.th, .int .i64 s.al, .int .i64 s.ah, .int .i64 s.room, .int .i64 s.xl, .int .i64 s.xh, .int .i64 s.yl, .int .i64 s.yh, .slice a len cap] : Array Value)[i]? from (hb2.cell (p := ⟨w.heap.size, i, none⟩) q1).trans ((hc1 _ _ (by simp)).trans (World.cell?_alloc_new w _ _ i)))
    clear hb2 hc1 hf1 hz1 hz2 hw1 hw2
    rcases Nat.eq_zero_or_pos s.safeL.length with hn0 | hn0
    · obtain rfl := HN.out hn0
      have hn0' : (s.safeL.length : Int) = 0 := by omega
      clear hown2 hrd2
      go_wp2_with fail
      go_ret2
      exact ⟨rfl, HW2.out⟩
    · obtain ⟨g, capg, ela, _, hg, _, _, hc⟩ := own_cell hown2 hn0
      injection ela with ela _ _
      subst ela
      obtain ⟨xa0, xc0, hv0, hi0⟩ := hrd2.2 0 hn0
      have hcell0 := hc 0 _ hv0
      have HT0 := Lib.hid (fun W (h : Below w2.heap.size w2 W ∧ ∀ b o, b < w2.heap.size → W.cell? ⟨b, o, none⟩ = w2.cell? ⟨b, o, none⟩) => bothS1 (W0 := w2) (HTT.out W (HW2.out.trans (h.1.mono HW2.out.size)) xa0 xc0 _ (hi0.below h.1) (HMEM.out 0 hn0)) h)
      have HRD := Lib.hid hrd2
      have HCG := Lib.hid hc
      have e0 : ((s.safeL.length : Int) == 0) = false := by rw [beq_eq_false_iff_ne]; omega
      have hpos : (0 : Int) < (s.safeL.length : Int) := by omega
      obtain ⟨x0, x1, x2, x3, x4, x5, x6, x7, x8, x9, x10⟩ : w2.cell? ⟨w.heap.size, 0, none⟩ = some (.int .i64 s.P) ∧ w2.cell? ⟨w.heap.size, 1, none⟩ = some (.int .i64 s.tl) ∧ w2.cell? ⟨w.heap.size, 2, none⟩ = some (.int .i64 s.th) ∧ w2.cell? ⟨w.heap.size, 3, none⟩ = some (.int .i64 s.al) ∧ w2.cell? ⟨w.heap.size, 4, none⟩ = some (.int .i64 s.ah) ∧ w2.cell? ⟨w.heap.size, 5, none⟩ = some (.int .i64 s.room) ∧ w2.cell? ⟨w.heap.size, 6, none⟩ = some (.int .i64 s.xl) ∧ w2.cell? ⟨w.heap.size, 7, none⟩ = some (.int .i64 s.xh) ∧ w2.cell? ⟨w.heap.size, 8, none⟩ = some (.int .i64 s.yl) ∧ w2.cell? ⟨w.heap.size, 9, none⟩ = some (.int .i64 s.yh) ∧ w2.cell? ⟨w.heap.size, 10, none⟩ = some (.slice a len cap) := ⟨HSB.out 0, HSB.out 1, HSB.out 2, HSB.out 3, HSB.out 4, HSB.out 5, HSB.out 6, HSB.out 7, HSB.out 8, HSB.out 9, HSB.out 10⟩
      clear hown2 hrd2 hc hv0 hi0
      generalize htt0 : tot Pig.t s.pigs s.safeL[0] = tt0 at *
      go_upto_region 7 with fail
      go_cut [6] (fun v6 wx => v6 = .int .i64 tt0 ∧ Below w2.heap.size w2 wx)
      case first =>
        go_region_held3 (fun w' => Below w2.heap.size w2 w' ∧ ∀ b o, b < w2.heap.size → w'.cell? ⟨b, o, none⟩ = w2.cell? ⟨b, o, none⟩) (first | with_reducible assumption | ((repeat (first | with_reducible refine bothS_drew ?_ | with_reducible refine bothS_alloc _ ?_ | with_reducible refine bothS_set _ _ (by first | omega | (simp; omega) | simp) ?_)); first | with_reducible assumption | with_reducible exact Hid.out (by assumption) | with_reducible exact ⟨Below.refl _ _, fun _ _ _ => rfl⟩)) (first | (go_at_call 51; with_reducible refine (HT0.out _ ?_).mono ?_; (first | with_reducible assumption | ((repeat (first | with_reducible refine bothS_drew ?_ | with_reducible refine bothS_alloc _ ?_ | with_reducible refine bothS_set _ _ (by first | omega | (simp; omega) | simp) ?_)); first | with_reducible assumption | with_reducible exact Hid.out (by assumption) | with_reducible exact ⟨Below.refl _ _, fun _ _ _ => rfl⟩)); rintro e w' ⟨rfl, k, k1, k2, k3⟩; have HK := Lib.hid k; (try simp at k3); (try have k6 := Nat.lt_of_succ_le k3); (try have k7 := Nat.lt_of_succ_lt k6); (try have k8 := Nat.lt_of_succ_lt k3)) | fail "no arm")
        all_goals (go_wp2_with fail; go_meet; exact ⟨rfl, And.left (by assumption)⟩)
      case rest =>
      obtain ⟨rfl, hb3⟩ := hcut
      obtain ⟨w3, rfl⟩ : ∃ w3 : World, w3 = wc := ⟨_, rfl⟩
      have HB3 := Lib.hid hb3
      clear x0 x1 x2 x3 x4 x5 x6 x7 x8 x9 x10 hb3 hcell0
      go_wp2_with fail
      go_loopw [6, 7] (fun v6 v7 wr => ∃ (j : Nat) (y : List Int), j ≤ s.safeL.length ∧ v6 = .int .i64 (askF 1 s y) ∧ v7 = .int .i64 (j : Int) ∧ BestInv s (askF 1 s) j y ∧ Below w2.heap.size w2 wr) (fun _ i _ => s.safeL.length - (intOf i).toNat)
      case atStart => exact ⟨0, _, by omega, by rw [← htt0]; rfl, rfl, HST.out hn0, HB3.out⟩
      case round =>
        obtain ⟨j, y, hj, rfl, rfl, hinv, hB⟩ := hrel
        have HB := Lib.hid hB
        by_cases hlt : j < s.safeL.length
        · obtain ⟨xa, xc, hv, hi⟩ := HRD.out.2 j hlt
          have hcj := (hB.cell (p := ⟨g, j, none⟩) hg).trans (HCG.out j _ hv)
          have hbx := fun i => (hB.cell (p := ⟨w.heap.size, i, none⟩) t0).trans (HSB.out i)
          obtain ⟨x0, x1, x2, x3, x4, x5, x6, x7, x8, x9, x10⟩ : wr.cell? ⟨w.heap.size, 0, none⟩ = some (.int .i64 s.P) ∧ wr.cell? ⟨w.heap.size, 1, none⟩ = some (.int .i64 s.tl) ∧ wr.cell? ⟨w.heap.size, 2, none⟩ = some (.int .i64 s.th) ∧ wr.cell? ⟨w.heap.size, 3, none⟩ = some (.int .i64 s.al) ∧ wr.cell? ⟨w.heap.size, 4, none⟩ = some (.int .i64 s.ah) ∧ wr.cell? ⟨w.heap.size, 5, none⟩ = some (.int .i64 s.room) ∧ wr.cell? ⟨w.heap.size, 6, none⟩ = some (.int .i64 s.xl) ∧ wr.cell? ⟨w.heap.size, 7, none⟩ = some (.int .i64 s.xh) ∧ wr.cell? ⟨w.heap.size, 8, none⟩ = some (.int .i64 s.yl) ∧ wr.cell? ⟨w.heap.size, 9, none⟩ = some (.int .i64 s.yh) ∧ wr.cell? ⟨w.heap.size, 10, none⟩ = some (.slice a len cap) := ⟨hbx 0, hbx 1, hbx 2, hbx 3, hbx 4, hbx 5, hbx 6, hbx 7, hbx 8, hbx 9, hbx 10⟩
          have hBw := HW2.out.trans (hB.mono HW2.out.size)
          have HNEXT := Lib.hid (HNX.out j y hinv hlt)
          have HT : ∀ W, Below wr.heap.size wr W → Calls Try.prog 51 #[.agg #[.int .i64 s.P, .int .i64 s.tl, .int .i64 s.th, .int .i64 s.al, .int .i64 s.ah, .int .i64 s.room, .int .i64 s.xl, .int .i64 s.xh, .int .i64 s.yl, .int .i64 s.yh, .slice a len cap], .slice xa len xc] W fun e w' => e = .returned (.int .i64 (askF 1 s (s.safeL[j]'hlt))) ∧ Below W.heap.size W w' := fun W h => HTT.out W (hBw.trans (h.mono hBw.size)) xa xc _ ((hi.below hB).below h) (HMEM.out j hlt)
          replace HT := Lib.hid (fun W (h : Below wr.heap.size wr W ∧ ∀ b o, b < wr.heap.size → W.cell? ⟨b, o, none⟩ = wr.cell? ⟨b, o, none⟩) => bothS1 (W0 := wr) (HT W h.1) h)
          have g0 : w.heap.size < wr.heap.size := by have := hB.size; omega
          have g1 : g < wr.heap.size := by have := hB.size; omega
          have hx0 : (0 : Int) ≤ (j : Int) := by omega
          have hxn : (j : Int) < (s.safeL.length : Int) := by omega
          clear hbx hv hi hinv hB hBw
          generalize hX : s.safeL[j]'hlt = X at *
          clear hX
          generalize hfx : askF 1 s X = fx at *
          generalize hfy : askF 1 s y = fy at *
          have HMIN := Lib.hid (show askF 1 s (if fx < fy then X else y) = min fy fx by split <;> (first | rw [hfx] | rw [hfy]) <;> omega)
          go_wp2_with fail
          go_region_held3 (fun w' => Below wr.heap.size wr w' ∧ ∀ b o, b < wr.heap.size → w'.cell? ⟨b, o, none⟩ = wr.cell? ⟨b, o, none⟩) (first | with_reducible assumption | ((repeat (first | with_reducible refine bothS_drew ?_ | with_reducible refine bothS_alloc _ ?_ | with_reducible refine bothS_set _ _ (by first | omega | (simp; omega) | simp) ?_)); first | with_reducible assumption | with_reducible exact Hid.out (by assumption) | with_reducible exact ⟨Below.refl _ _, fun _ _ _ => rfl⟩)) (first | (go_at_call 51; with_reducible refine (HT.out _ ?_).mono ?_; (first | with_reducible assumption | ((repeat (first | with_reducible refine bothS_drew ?_ | with_reducible refine bothS_alloc _ ?_ | with_reducible refine bothS_set _ _ (by first | omega | (simp; omega) | simp) ?_)); first | with_reducible assumption | with_reducible exact Hid.out (by assumption) | with_reducible exact ⟨Below.refl _ _, fun _ _ _ => rfl⟩)); rintro e w' ⟨rfl, k, k1, k2, k3⟩; have HK := Lib.hid k; (try simp at k3); (try have k6 := Nat.lt_of_succ_le k3); (try have k7 := Nat.lt_of_succ_lt k6); (try have k8 := Nat.lt_of_succ_lt k3)) | fail "no arm")
          all_goals
            go_wp2_with fail
            go_roundw
            case rel => exact ⟨j + 1, _, by omega, by rw [HMIN.out], by go_num, HNEXT.out, HB.out.trans ((And.left (by assumption) : Below wr.heap.size wr _).mono HB.out.size)⟩
            case measure => simp [intOf]; omega
        · obtain rfl : j = s.safeL.length := by omega
          obtain rfl := HDN.out y hinv hn0
          have HBW := Lib.hid (HW2.out.trans (hB.mono HW2.out.size))
          clear hinv hB
          go_wp2_with fail
          go_ret2
          exact ⟨rfl, HBW.out⟩
end Go.Proofs.Ytajabapcmpmboaa
