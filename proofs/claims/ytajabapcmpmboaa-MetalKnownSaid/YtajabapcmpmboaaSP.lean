/- The reference's Short. -/
import Derived.Test.YtajabapcmpmboaaSM
import Derived.Test.YtajabapcmpmboaaSJ
import Derived.Test.YtajabapcmpmboaaPE
namespace Go.Proofs.Ytajabapcmpmboaa
set_option linter.unusedVariables false
set_option linter.unusedSimpArgs false
open Go.RowKit Go.Shelf

/-- Whether some of these keep a limit. -/
def Shop.anyK (s : Shop) (l : Int) (xs : List (List Int)) : Bool := xs.any fun x => keepsB s (s.P + tot Pig.P s.pigs x) (s.tl + tot Pig.t s.pigs x) (s.th + tot Pig.t s.pigs x) (s.al + tot Pig.a s.pigs x) (s.ah + tot Pig.a s.pigs x) l
theorem anyK_succ (s : Shop) (l : Int) (j : Nat) (h : j < s.adds.length) : s.anyK l (s.adds.take (j + 1)) = (s.anyK l (s.adds.take j) || keepsB s (s.P + tot Pig.P s.pigs s.adds[j]) (s.tl + tot Pig.t s.pigs s.adds[j]) (s.th + tot Pig.t s.pigs s.adds[j]) (s.al + tot Pig.a s.pigs s.adds[j]) (s.ah + tot Pig.a s.pigs s.adds[j]) l) := by
  unfold Shop.anyK
  rw [List.take_succ_eq_append_getElem h, List.any_append]
  simp
def shortTo (s : Shop) (k : Nat) : List Int := (([1, 2, 3, 4] : List Int).take k).filter fun l => !s.anyK l s.adds
theorem shortTo_snoc (s : Shop) (k : Nat) (h : k < 4) : shortTo s (k + 1) = shortTo s k ++ (if s.anyK ((k : Int) + 1) s.adds then [] else [(k : Int) + 1]) := by
  unfold shortTo
  have : k = 0 ∨ k = 1 ∨ k = 2 ∨ k = 3 := by omega
  rcases this with rfl | rfl | rfl | rfl
  all_goals
    rw [List.take_succ_eq_append_getElem (by simp), List.filter_append]
    congr 1
  · show List.filter _ [1] = if s.anyK 1 s.adds then [] else [1]
    cases hb : s.anyK 1 s.adds <;> simp [hb]
  · show List.filter _ [2] = if s.anyK 2 s.adds then [] else [2]
    cases hb : s.anyK 2 s.adds <;> simp [hb]
  · show List.filter _ [3] = if s.anyK 3 s.adds then [] else [3]
    cases hb : s.anyK 3 s.adds <;> simp [hb]
  · show List.filter _ [4] = if s.anyK 4 s.adds then [] else [4]
    cases hb : s.anyK 4 s.adds <;> simp [hb]
theorem anyK_keepN (s : Shop) (i : Fin 4) : (!s.anyK ((i.val : Int) + 1) s.adds) = (s.keepN s.adds i == 0) := by
  unfold Shop.keepN
  cases h : s.anyK ((i.val : Int) + 1) s.adds
  · have h' : s.adds.countP (fun x => s.keepsX x i) = 0 := by
      rw [List.countP_eq_zero]
      intro x hx hk
      have := List.any_eq_false.1 h x hx
      exact this hk
    rw [h']; rfl
  · have h' : 0 < s.adds.countP (fun x => s.keepsX x i) := by
      obtain ⟨x, hx, hk⟩ := List.any_eq_true.1 h
      exact List.countP_pos_iff.2 ⟨x, hx, hk⟩
    rw [Bool.not_true]
    symm
    rw [beq_eq_false_iff_ne]
    omega
theorem shortTo_all (s : Shop) : shortTo s 4 = s.shortL := by
  unfold shortTo Shop.shortL Shop.shortF
  rw [show (([1, 2, 3, 4] : List Int).take 4) = ([0, 1, 2, 3] : List (Fin 4)).map fun i => (i.val : Int) + 1 from rfl, List.filter_map]
  congr 1
  apply List.filter_congr
  intro i _
  exact anyK_keepN s i
theorem shortTo_few (s : Shop) (k : Nat) : (shortTo s k).length ≤ 4 :=
  Nat.le_trans (List.length_filter_le _ _) (by simp; omega)
theorem keeps_both (s : Shop) (l P tl th al ah : Int) (hl : 1 ≤ l ∧ l ≤ 4) (ht : tl ≤ th) (ha : al ≤ ah) : (keepsR s l P tl al && keepsR s l P th ah) = keepsB s P tl th al ah l := by
  have : l = 1 ∨ l = 2 ∨ l = 3 ∨ l = 4 := by omega
  rw [Bool.eq_iff_iff]
  rcases this with rfl | rfl | rfl | rfl <;> simp [keepsR, keepsB]
  · generalize P * s.xl = m; omega
  · generalize P * s.xh = m; omega
  · generalize P * s.yl = m; omega
  · generalize P * s.yh = m; omega

set_option maxHeartbeats 1000000 in
theorem refShort_bad (s : Shop) (a : Option Addr) (len cap : Nat) (w : World) (hp : PigsAt w a len s.pigs) (ho : s.ok = false) :
    Calls Try.prog 31 #[.agg #[.int .i64 s.P, .int .i64 s.tl, .int .i64 s.th, .int .i64 s.al, .int .i64 s.ah, .int .i64 s.room, .int .i64 s.xl, .int .i64 s.xh, .int .i64 s.yl, .int .i64 s.yh, .slice a len cap]] w fun e w' => e = .returned (.tuple #[.slice none 0 0, .int .i64 10]) ∧ Below w.heap.size w w' := by
  have HC := Lib.hid (fun w1 (hb : Below w.heap.size w w1) => refCheck_is s a len cap 10 (by simp [Shop.chk, ho]) w1 (hp.below hb))
  clear hp ho
  go_enter Try.func31, Try.ntmps31
  go_wp2_with fail
  refine (HC.out _ (by repeat (first | exact Below.refl _ _ | (refine Below.alloc ?_ (by first | omega | (simp; omega) | simp) _) | (refine Below.setCell ?_ (by first | omega | (simp; omega) | simp) _) | refine Below.drew ?_))).mono ?_
  rintro e w1 ⟨rfl, hb1⟩
  have HB := Lib.hid hb1
  clear hb1
  go_wp2_with fail
  go_ret2
  exact ⟨rfl, (by repeat (first | exact Below.refl _ _ | (refine Below.alloc ?_ (by first | omega | (simp; omega) | simp) _) | (refine Below.setCell ?_ (by first | omega | (simp; omega) | simp) _) | refine Below.drew ?_ | (refine below_via (by assumption) (by first | omega | (simp; omega) | simp) ?_)))⟩

set_option maxRecDepth 100000 in
set_option maxHeartbeats 8000000 in
theorem refShort_ok (s : Shop) (a : Option Addr) (len cap : Nat) (w : World) (hp : PigsAt w a len s.pigs) (ho : s.ok = true) :
    Calls Try.prog 31 #[.agg #[.int .i64 s.P, .int .i64 s.tl, .int .i64 s.th, .int .i64 s.al, .int .i64 s.ah, .int .i64 s.room, .int .i64 s.xl, .int .i64 s.xh, .int .i64 s.yl, .int .i64 s.yh, .slice a len cap]] w fun e w' => ∃ v, e = .returned (.tuple #[v, .int .i64 0]) ∧ w'.ownsRow w.heap.size 3 1 v s.shortL.length (s.shortL.map (Value.int .i64)) ∧ Below w.heap.size w w' := by
  obtain ⟨i0, hi0, hy0, hy1, hy2⟩ := info_parts Try.info3
  have HC := Lib.hid (fun w1 (hb : Below w.heap.size w w1) => refCheck_is s a len cap 0 (by simp [Shop.chk, ho]) w1 (hp.below hb))
  have HL := Lib.hid (fun w1 (hb : Below w.heap.size w w1) => refAdditions_all s a len cap w1 (hp.below hb) ho)
  have HP := Lib.hid (fun w1 (hb : Below w.heap.size w w1) => hp.below hb)
  have hl4 : len ≤ 4 := by have := Shop.ok_bd ho; have := hp.1; omega
  have hfew := adds_few ho
  have HMEM := Lib.hid (fun j (h : j < s.adds.length) => mem_isAdd ho (List.getElem_mem h))
  have hlims := Shop.lims ho
  have HAF := Lib.hid (fun w1 (hb : Below w.heap.size w w1) xa xc x (hi : IntsAt w1 xa len x) (hx : s.isAdd x = true) => by
    have := refAfterOf_any s a len cap xa xc x w1 (hp.below hb) hi ho (Shop.isAdd_len hx).2
    unfold potCells at this
    exact this)
  have HKP := Lib.hid (fun l (hl : 1 ≤ l ∧ l ≤ 4) P t x b (hP : 0 ≤ P ∧ P ≤ 2000) h w1 (g1 : Fair t) (g2 : Fair x) => refKeeps_is s a len cap l P t x hl b h w1 hP hlims g1 g2)
  have HFA := Lib.hid (fun x (hx : s.isAdd x = true) => pot_fair ho hx)
  have HTP := Lib.hid (fun x (hx : s.isAdd x = true) => Shop.tot_P ho hx)
  have HORD := Lib.hid (fun x => show s.tl + tot Pig.t s.pigs x ≤ s.th + tot Pig.t s.pigs x ∧ s.al + tot Pig.a s.pigs x ≤ s.ah + tot Pig.a s.pigs x by have := Shop.ok_bd ho; omega)
  have HS0 := Lib.hid (show shortTo s 0 = [] from rfl)
  have HSS := Lib.hid (shortTo_snoc s)
  have HSA := Lib.hid (shortTo_all s)
  have HSF := Lib.hid (shortTo_few s)
  have HK0 := Lib.hid (fun l => show s.anyK l (s.adds.take 0) = false from rfl)
  have HKS := Lib.hid (fun l => anyK_succ s l)
  have HKA := Lib.hid (fun l => show s.anyK l (s.adds.take s.adds.length) = s.anyK l s.adds by rw [List.take_length])
  clear hp ho hlims
  go_enter Try.func31, Try.ntmps31
  go_wp2_with fail
  refine (HC.out _ (by repeat (first | exact Below.refl _ _ | (refine Below.alloc ?_ (by first | omega | (simp; omega) | simp) _) | (refine Below.setCell ?_ (by first | omega | (simp; omega) | simp) _) | refine Below.drew ?_))).mono ?_
  rintro e w1 ⟨rfl, hb1⟩
  obtain ⟨hc1, hf1⟩ := bcell hb1
  have hz1 := hb1.size
  simp at hz1
  have hw1 := ((by repeat (first | exact Below.refl _ _ | (refine Below.alloc ?_ (by first | omega | (simp; omega) | simp) _) | (refine Below.setCell ?_ (by first | omega | (simp; omega) | simp) _) | refine Below.drew ?_)) : Below w.heap.size w _).trans (hb1.mono (by first | (simp; done) | (simp; omega) | omega))
  clear hb1
  have q1 : w.heap.size < w1.heap.size := by omega
  go_wp2_with fail
  refine (HL.out _ hw1).mono ?_
  rintro e w2 ⟨v2, vs2, rfl, hown2, hrd2, hb2⟩
  obtain ⟨la, lc, rfl⟩ := own_slice hown2
  have hw2 := hw1.trans (hb2.mono hw1.size)
  have HW2 := Lib.hid hw2
  have hz2 := hb2.size
  have t0 : w.heap.size < w2.heap.size := by omega
  have HSB := Lib.hid (fun i => show w2.cell? ⟨w.heap.size, i, none⟩ = (#[.int .i64 s.P, .int .i64 s.tl, .int .i64 s.th, .int .i64 s.al, .int .i64 s.ah, .int .i64 s.room, .int .i64 s.xl, .int .i64 s.xh, .int .i64 s.yl, .int .i64 s.yh, .slice a len cap] : Array Value)[i]? from (hb2.cell (p := ⟨w.heap.size, i, none⟩) q1).trans ((hc1 _ _ (by simp)).trans (World.cell?_alloc_new w _ _ i)))
  have hcell : 0 < s.adds.length → ∃ g, la = some ⟨g, 0, none⟩ ∧ g < w2.heap.size ∧ ∀ j u, vs2[j]? = some u → w2.cell? ⟨g, j, none⟩ = some u := fun h0 => by
    obtain ⟨g, cap, e, _, hg, _, _, hc⟩ := own_cell hown2 h0
    injection e with e1 _ _
    exact ⟨g, e1, hg, hc⟩
  have HCELL := Lib.hid hcell
  have HRD := Lib.hid hrd2
  clear hb2 hc1 hf1 hz1 hz2 hw1 hw2 hown2 hrd2 hcell
  go_wp2_with fail
  go_loopw [6, 7] (fun v5 v6 wr => ∃ k : Nat, k ≤ 4 ∧ v6 = .int .i64 ((k : Int) + 1) ∧ wr.ownsRow w2.heap.size 3 1 v5 (shortTo s k).length ((shortTo s k).map (Value.int .i64)) ∧ Below w2.heap.size w2 wr) (fun _ i _ => 5 - (intOf i).toNat)
  case atStart => exact ⟨0, Nat.zero_le _, rfl, by rw [HS0.out]; exact World.ownsRow_nil _ _ _ _, Below.refl _ _⟩
  case round =>
    obtain ⟨k, hk, rfl, hrow, hBr⟩ := hrel
    obtain ⟨wo, rfl⟩ : ∃ wo : World, wo = wr := ⟨_, rfl⟩
    have hzr := hBr.size
    have HBO := Lib.hid hBr
    have HROW := Lib.hid hrow
    clear hrow hBr
    by_cases hlt : k < 4
    · have hk4 : (k : Int) + 1 ≤ 4 := by omega
      go_wp2_with fail
      go_loopw [8, 9] (fun v8 v9 wi => ∃ (j : Nat) (f : Bool), j ≤ s.adds.length ∧ v8 = .bool f ∧ s.anyK ((k : Int) + 1) (s.adds.take j) = f ∧ v9 = .int .i64 (j : Int) ∧ Below wo.heap.size wo wi) (fun _ j _ => s.adds.length - (intOf j).toNat)
      case atStart => exact ⟨0, false, by omega, rfl, HK0.out _, rfl, Below.refl _ _⟩
      case round =>
        obtain ⟨j, f, hj, rfl, hf, rfl, hBi⟩ := hrel
        have hzi := hBi.size
        have HBI := Lib.hid (HBO.out.trans (hBi.mono HBO.out.size))
        have HBi := Lib.hid hBi
        have HFK := Lib.hid hf
        clear hf hBi
        by_cases hjl : j < s.adds.length
        · obtain ⟨g, hla, hg, hc⟩ := HCELL.out (by omega)
          subst hla
          obtain ⟨xa, xc, hv, hi⟩ := HRD.out.2 j hjl
          have hcj := (HBI.out.cell (p := ⟨g, j, none⟩) hg).trans (hc j _ hv)
          have hbx := fun i => (HBI.out.cell (p := ⟨w.heap.size, i, none⟩) t0).trans (HSB.out i)
          obtain ⟨x0, x1, x2, x3, x4, x5, x6, x7, x8, x9, x10⟩ : wr.cell? ⟨w.heap.size, 0, none⟩ = some (.int .i64 s.P) ∧ wr.cell? ⟨w.heap.size, 1, none⟩ = some (.int .i64 s.tl) ∧ wr.cell? ⟨w.heap.size, 2, none⟩ = some (.int .i64 s.th) ∧ wr.cell? ⟨w.heap.size, 3, none⟩ = some (.int .i64 s.al) ∧ wr.cell? ⟨w.heap.size, 4, none⟩ = some (.int .i64 s.ah) ∧ wr.cell? ⟨w.heap.size, 5, none⟩ = some (.int .i64 s.room) ∧ wr.cell? ⟨w.heap.size, 6, none⟩ = some (.int .i64 s.xl) ∧ wr.cell? ⟨w.heap.size, 7, none⟩ = some (.int .i64 s.xh) ∧ wr.cell? ⟨w.heap.size, 8, none⟩ = some (.int .i64 s.yl) ∧ wr.cell? ⟨w.heap.size, 9, none⟩ = some (.int .i64 s.yh) ∧ wr.cell? ⟨w.heap.size, 10, none⟩ = some (.slice a len cap) := ⟨hbx 0, hbx 1, hbx 2, hbx 3, hbx 4, hbx 5, hbx 6, hbx 7, hbx 8, hbx 9, hbx 10⟩
          have hBw := HW2.out.trans (HBI.out.mono HW2.out.size)
          have hadd := HMEM.out j hjl
          have HA := Lib.hid (fun W (h : Below wr.heap.size wr W) => HAF.out W (hBw.trans (h.mono hBw.size)) xa xc _ ((hi.below HBI.out).below h) hadd)
          have HNX := HKS.out ((k : Int) + 1) j hjl
          rw [HFK.out] at HNX
          obtain ⟨f1, f2, f3, f4⟩ := HFA.out _ hadd
          have hP := HTP.out _ hadd
          obtain ⟨o1, o2⟩ := HORD.out (s.adds[j]'hjl)
          have hx0 : (0 : Int) ≤ (j : Int) := by omega
          have hxn : (j : Int) < (s.adds.length : Int) := by omega
          clear hbx hv hi hBw hadd hc
          generalize s.P + tot Pig.P s.pigs (s.adds[j]'hjl) = n1 at *
          generalize s.tl + tot Pig.t s.pigs (s.adds[j]'hjl) = n2 at *
          generalize s.th + tot Pig.t s.pigs (s.adds[j]'hjl) = n3 at *
          generalize s.al + tot Pig.a s.pigs (s.adds[j]'hjl) = n4 at *
          generalize s.ah + tot Pig.a s.pigs (s.adds[j]'hjl) = n5 at *
          rw [← keeps_both s ((k : Int) + 1) n1 n2 n3 n4 n5 ⟨by omega, hk4⟩ o1 o2] at HNX
          obtain ⟨b1, hb1⟩ : ∃ b, keepsR s ((k : Int) + 1) n1 n2 n4 = b := ⟨_, rfl⟩
          obtain ⟨b2, hb2⟩ : ∃ b, keepsR s ((k : Int) + 1) n1 n3 n5 = b := ⟨_, rfl⟩
          have HR1 := Lib.hid (HKP.out ((k : Int) + 1) ⟨by omega, hk4⟩ n1 n2 n4 b1 hP hb1 · f1 f3)
          have HR2 := Lib.hid (HKP.out ((k : Int) + 1) ⟨by omega, hk4⟩ n1 n3 n5 b2 hP hb2 · f2 f4)
          rw [hb1, hb2] at HNX
          replace HNX := Lib.hid HNX
          clear hb1 hb2 f1 f2 f3 f4 hP o1 o2
          have HAB := Lib.hid (fun W (h : Below wr.heap.size wr W ∧ ∀ b o, b < wr.heap.size → W.cell? ⟨b, o, none⟩ = wr.cell? ⟨b, o, none⟩) => bothS1 (W0 := wr) (HA.out W h.1) h)
          have g0 : w.heap.size < wr.heap.size := by omega
          have g1 : g < wr.heap.size := by omega
          clear HA
          go_upto_region 13 with fail
          go_cut [10] (fun v10 wx => ∃ gq : Nat, v10 = .pointer (some ⟨gq, 0, none⟩) ∧ wx.cell? ⟨gq, 0, none⟩ = some (.int .i64 n1) ∧ wx.cell? ⟨gq, 1, none⟩ = some (.int .i64 n2) ∧ wx.cell? ⟨gq, 2, none⟩ = some (.int .i64 n3) ∧ wx.cell? ⟨gq, 3, none⟩ = some (.int .i64 n4) ∧ wx.cell? ⟨gq, 4, none⟩ = some (.int .i64 n5) ∧ wr.heap.size ≤ gq ∧ gq < wx.heap.size ∧ Below wr.heap.size wr wx)
          case first =>
            go_region_held3 (fun w' => Below wr.heap.size wr w' ∧ ∀ b o, b < wr.heap.size → w'.cell? ⟨b, o, none⟩ = wr.cell? ⟨b, o, none⟩) (first | with_reducible assumption | ((repeat (first | with_reducible refine bothS_drew ?_ | with_reducible refine bothS_alloc _ ?_ | with_reducible refine bothS_set _ _ (by first | omega | (simp; omega) | simp) ?_)); first | with_reducible assumption | with_reducible exact Hid.out (by assumption) | with_reducible exact ⟨Below.refl _ _, fun _ _ _ => rfl⟩)) (first | (go_at_call 63; with_reducible refine (HAB.out _ ?_).mono ?_; (first | with_reducible assumption | ((repeat (first | with_reducible refine bothS_drew ?_ | with_reducible refine bothS_alloc _ ?_ | with_reducible refine bothS_set _ _ (by first | omega | (simp; omega) | simp) ?_)); first | with_reducible assumption | with_reducible exact Hid.out (by assumption) | with_reducible exact ⟨Below.refl _ _, fun _ _ _ => rfl⟩)); rintro e w' ⟨rfl, k, k1, k2, k3⟩; have HK := Lib.hid k; (try simp at k3); (try have k6 := Nat.lt_of_succ_le k3); (try have k7 := Nat.lt_of_succ_lt k6); (try have k8 := Nat.lt_of_succ_lt k3)) | fail "no arm")
            all_goals (go_wp2_with fail; go_meet; exact ⟨_, rfl, (by first | (go_simp; done) | (go_simp; exact set_same (u := .int .i64 0) (by go_simp; done)) | exact set_same (u := .int .i64 0) (by go_simp; done) | (go_simp; exact set_same (u := .slice none 0 0) (by go_simp; done)) | exact set_same (u := .slice none 0 0) (by go_simp; done)), (by first | (go_simp; done) | (go_simp; exact set_same (u := .int .i64 0) (by go_simp; done)) | exact set_same (u := .int .i64 0) (by go_simp; done) | (go_simp; exact set_same (u := .slice none 0 0) (by go_simp; done)) | exact set_same (u := .slice none 0 0) (by go_simp; done)), (by first | (go_simp; done) | (go_simp; exact set_same (u := .int .i64 0) (by go_simp; done)) | exact set_same (u := .int .i64 0) (by go_simp; done) | (go_simp; exact set_same (u := .slice none 0 0) (by go_simp; done)) | exact set_same (u := .slice none 0 0) (by go_simp; done)), (by first | (go_simp; done) | (go_simp; exact set_same (u := .int .i64 0) (by go_simp; done)) | exact set_same (u := .int .i64 0) (by go_simp; done) | (go_simp; exact set_same (u := .slice none 0 0) (by go_simp; done)) | exact set_same (u := .slice none 0 0) (by go_simp; done)), (by first | (go_simp; done) | (go_simp; exact set_same (u := .int .i64 0) (by go_simp; done)) | exact set_same (u := .int .i64 0) (by go_simp; done) | (go_simp; exact set_same (u := .slice none 0 0) (by go_simp; done)) | exact set_same (u := .slice none 0 0) (by go_simp; done)), (by first | with_reducible assumption | (simp; done) | (simp; omega) | omega), (by first | with_reducible assumption | (simp; done) | (simp; omega) | omega), And.left (by assumption)⟩)
          case rest =>
          obtain ⟨gq, rfl, c0, c1, c2, c3, c4, hq1, hq2, hb4⟩ := hcut
          obtain ⟨w4, rfl⟩ : ∃ w4 : World, w4 = wc := ⟨_, rfl⟩
          have hz4 := hb4.size
          have g4 : w.heap.size < w4.heap.size := by omega
          have hbx4 := fun i => (hb4.cell (p := ⟨w.heap.size, i, none⟩) g0).trans ((HBI.out.cell (p := ⟨w.heap.size, i, none⟩) t0).trans (HSB.out i))
          have HBX4 := Lib.hid hbx4
          have HB4 := Lib.hid (HBi.out.trans (hb4.mono hzi))
          clear x0 x1 x2 x3 x4 x5 x6 x7 x8 x9 x10 hcj hb4 HAB
          cases f
          · obtain ⟨y0, y1, y2, y3, y4, y5, y6, y7, y8, y9, y10⟩ : w4.cell? ⟨w.heap.size, 0, none⟩ = some (.int .i64 s.P) ∧ w4.cell? ⟨w.heap.size, 1, none⟩ = some (.int .i64 s.tl) ∧ w4.cell? ⟨w.heap.size, 2, none⟩ = some (.int .i64 s.th) ∧ w4.cell? ⟨w.heap.size, 3, none⟩ = some (.int .i64 s.al) ∧ w4.cell? ⟨w.heap.size, 4, none⟩ = some (.int .i64 s.ah) ∧ w4.cell? ⟨w.heap.size, 5, none⟩ = some (.int .i64 s.room) ∧ w4.cell? ⟨w.heap.size, 6, none⟩ = some (.int .i64 s.xl) ∧ w4.cell? ⟨w.heap.size, 7, none⟩ = some (.int .i64 s.xh) ∧ w4.cell? ⟨w.heap.size, 8, none⟩ = some (.int .i64 s.yl) ∧ w4.cell? ⟨w.heap.size, 9, none⟩ = some (.int .i64 s.yh) ∧ w4.cell? ⟨w.heap.size, 10, none⟩ = some (.slice a len cap) := ⟨hbx4 0, hbx4 1, hbx4 2, hbx4 3, hbx4 4, hbx4 5, hbx4 6, hbx4 7, hbx4 8, hbx4 9, hbx4 10⟩
            clear hbx4
            go_wp2_with fail
            refine (HR1.out _).mono ?_
            rintro e w5 ⟨rfl, hb5⟩
            have hz5 := hb5.size
            have c0 := (hb5.cell (p := ⟨gq, 0, none⟩) hq2).trans c0
            have c1 := (hb5.cell (p := ⟨gq, 1, none⟩) hq2).trans c1
            have c2 := (hb5.cell (p := ⟨gq, 2, none⟩) hq2).trans c2
            have c3 := (hb5.cell (p := ⟨gq, 3, none⟩) hq2).trans c3
            have c4 := (hb5.cell (p := ⟨gq, 4, none⟩) hq2).trans c4
            have hbx5 := fun i => (hb5.cell (p := ⟨w.heap.size, i, none⟩) g4).trans (HBX4.out i)
            have HB5 := Lib.hid (HB4.out.trans (hb5.mono HB4.out.size))
            clear y0 y1 y2 y3 y4 y5 y6 y7 y8 y9 y10 hb5
            cases b1
            · clear hbx5
              go_wp2_with fail
              go_roundw
              case rel => exact ⟨j + 1, false, by omega, rfl, HNX.out.trans (by cases b2 <;> rfl), by go_num, HB5.out⟩
              case measure => simp [intOf]; omega
            · obtain ⟨y0, y1, y2, y3, y4, y5, y6, y7, y8, y9, y10⟩ : w5.cell? ⟨w.heap.size, 0, none⟩ = some (.int .i64 s.P) ∧ w5.cell? ⟨w.heap.size, 1, none⟩ = some (.int .i64 s.tl) ∧ w5.cell? ⟨w.heap.size, 2, none⟩ = some (.int .i64 s.th) ∧ w5.cell? ⟨w.heap.size, 3, none⟩ = some (.int .i64 s.al) ∧ w5.cell? ⟨w.heap.size, 4, none⟩ = some (.int .i64 s.ah) ∧ w5.cell? ⟨w.heap.size, 5, none⟩ = some (.int .i64 s.room) ∧ w5.cell? ⟨w.heap.size, 6, none⟩ = some (.int .i64 s.xl) ∧ w5.cell? ⟨w.heap.size, 7, none⟩ = some (.int .i64 s.xh) ∧ w5.cell? ⟨w.heap.size, 8, none⟩ = some (.int .i64 s.yl) ∧ w5.cell? ⟨w.heap.size, 9, none⟩ = some (.int .i64 s.yh) ∧ w5.cell? ⟨w.heap.size, 10, none⟩ = some (.slice a len cap) := ⟨hbx5 0, hbx5 1, hbx5 2, hbx5 3, hbx5 4, hbx5 5, hbx5 6, hbx5 7, hbx5 8, hbx5 9, hbx5 10⟩
              clear hbx5
              go_wp2_with fail
              refine (HR2.out _).mono ?_
              rintro e w6 ⟨rfl, hb6⟩
              have HB6 := Lib.hid (HB5.out.trans (hb6.mono HB5.out.size))
              clear y0 y1 y2 y3 y4 y5 y6 y7 y8 y9 y10 hb6 c0 c1 c2 c3 c4
              cases b2
              all_goals
                go_wp2_with fail
                go_roundw
                case rel => exact ⟨j + 1, _, by omega, rfl, HNX.out, by go_num, HB6.out⟩
                case measure => simp [intOf]; omega
          · clear hbx4
            go_wp2_with fail
            go_roundw
            case rel => exact ⟨j + 1, true, by omega, rfl, HNX.out, by go_num, HB4.out⟩
            case measure => simp [intOf]; omega
        · obtain rfl : j = s.adds.length := by omega
          have HFA := Lib.hid ((HKA.out ((k : Int) + 1)).symm.trans HFK.out)
          have HSN := Lib.hid (HSS.out k hlt)
          have hrm := HROW.out.kept (grown_none HBi.out) (Classical.em _)
          have hlen := HSF.out k
          have HROWM := Lib.hid hrm
          cases f
          · go_wp2_with (at_builtin; refine wpList_append_own _ rfl _ _ 29 rfl w2.heap.size 3 i0 (.int .i64 0) 1 8 Try.underlying29 hi0 hy0 hy1 hy2 rfl (by decide) _ _ _ rfl (hrm.alloc _) ⟨wr.heap.size, 0, none⟩ 1 1 [.int .i64 ((k : Int) + 1)] rfl rfl (cell_one_new _ _ _) (by simp [Value.oneCell']) (by unfold maxLen; omega) (by omega) (by simp; omega) ?_; intro v' w5 hown' hgrow _; have HO5 := Lib.hid hown'; have HG5 := Lib.hid hgrow; clear hown' hgrow)
            go_roundw
            case rel =>
              refine ⟨k + 1, by omega, by go_num, by rw [HSN.out, HFA.out]; simpa using HO5.out, ?_⟩
              refine Below.grown (HBI.out.alloc HBI.out.size _) HG5.out (by simp; omega) (fun r hr => ?_)
              rcases Nat.lt_or_ge r w2.heap.size with h | h
              · exact absurd hr (own_ge HROW.out h)
              · exact h
            case measure => simp [intOf]; omega
          · go_wp2_with fail
            go_roundw
            case rel => exact ⟨k + 1, by omega, by go_num, by rw [HSN.out, HFA.out]; simpa using HROWM.out, HBI.out⟩
            case measure => simp [intOf]; omega
    · have hk4 : ¬ (k : Int) + 1 ≤ 4 := by omega
      obtain rfl : k = 4 := by omega
      have hBw := HW2.out.trans (HBO.out.mono HW2.out.size)
      go_wp2_with fail
      go_ret2
      exact ⟨_, rfl, by rw [← HSA.out]; exact Go.Joins.ownsRow_le HROW.out HW2.out.size, hBw⟩
end Go.Proofs.Ytajabapcmpmboaa
