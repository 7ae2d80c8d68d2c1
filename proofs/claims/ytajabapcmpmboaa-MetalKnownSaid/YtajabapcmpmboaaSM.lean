/- The reference's safe additions. -/
import Derived.Test.YtajabapcmpmboaaSL
import Derived.Test.YtajabapcmpmboaaPB
namespace Go.Proofs.Ytajabapcmpmboaa
set_option linter.unusedVariables false
set_option linter.unusedSimpArgs false
open Go.RowKit

/-- All safe additions. -/
def Shop.safeL (s : Shop) : List (List Int) := s.adds.filter fun x => s.safeOf x == 1
def safeTo (s : Shop) (j : Nat) : List (List Int) := (s.adds.take j).filter fun x => s.safeOf x == 1
theorem safeTo_all (s : Shop) : safeTo s s.adds.length = s.safeL := by unfold safeTo Shop.safeL; rw [List.take_length]
theorem safeTo_succ (s : Shop) (j : Nat) (h : j < s.adds.length) : safeTo s (j + 1) = safeTo s j ++ (if s.safeOf (s.adds[j]) == 1 then [s.adds[j]] else []) := by
  unfold safeTo
  rw [List.take_succ_eq_append_getElem h, List.filter_append]
  cases hb : s.safeOf (s.adds[j]) == 1 <;> simp [hb]
theorem safeTo_le (s : Shop) (j : Nat) : (safeTo s j).length ≤ s.adds.length := by
  unfold safeTo
  exact Nat.le_trans (List.length_filter_le _ _) (by rw [List.length_take]; omega)
theorem adds_few {s : Shop} (ho : s.ok = true) : s.adds.length ≤ 1296 := by
  have := addsFrom_few ho []
  rwa [addsFrom_nil ho] at this
/-- The cells of a row. -/
theorem own_cell {w : World} {n0 n : Nat} {e : TypeId} {v : Value} {xs : List Value} (h : w.ownsRow n0 e 1 v n xs) (h0 : 0 < n) : ∃ g cap, v = .slice (some ⟨g, 0, none⟩) n cap ∧ n0 ≤ g ∧ g < w.heap.size ∧ n ≤ cap ∧ cap ≤ maxLen ∧ ∀ j u, xs[j]? = some u → w.cell? ⟨g, j, none⟩ = some u := by
  rcases h.2 with ⟨_, rfl⟩ | ⟨g, cap, cur, rfl, hg, hh, hle, hcap, hsz, htk⟩
  · omega
  · refine ⟨g, cap, rfl, hg, (Array.getElem?_eq_some_iff.1 hh).1, hle, hcap, fun j u hj => ?_⟩
    rw [← htk, List.getElem?_take] at hj
    split at hj
    · simpa [World.cell?, hh] using hj
    · cases hj
theorem own_slice {w : World} {n0 n k : Nat} {e : TypeId} {v : Value} {xs : List Value} (h : w.ownsRow n0 e k v n xs) : ∃ la lc, v = .slice la n lc := by
  rcases h.2 with ⟨rfl, rfl⟩ | ⟨g, cap, cur, rfl, _⟩
  · exact ⟨none, 0, rfl⟩
  · exact ⟨_, _, rfl⟩
/-- What is safe with an addition. -/
theorem refIsSafe_add (s : Shop) (a : Option Addr) (len cap : Nat) (x : List Int) (ho : s.ok = true) (hx : s.isAdd x = true) (b : Bool) (hb : (s.safeOf x == 1) = b) (w : World) :
    Calls Try.prog 64 #[.agg #[.int .i64 s.P, .int .i64 s.tl, .int .i64 s.th, .int .i64 s.al, .int .i64 s.ah, .int .i64 s.room, .int .i64 s.xl, .int .i64 s.xh, .int .i64 s.yl, .int .i64 s.yh, .slice a len cap], .agg #[.int .i64 (s.P + tot Pig.P s.pigs x), .int .i64 (s.tl + tot Pig.t s.pigs x), .int .i64 (s.th + tot Pig.t s.pigs x), .int .i64 (s.al + tot Pig.a s.pigs x), .int .i64 (s.ah + tot Pig.a s.pigs x)]] w fun e w' => e = .returned (.bool b) ∧ Below w.heap.size w w' := by
  obtain ⟨f1, f2, f3, f4⟩ := pot_fair ho hx
  refine IsSafe_is s a len cap _ _ _ _ _ b ?_ w (Shop.tot_P ho hx) (Shop.lims ho) f1 f2 f3 f4
  rw [← hb]
  have h := isSafeR_1 s (s.P + tot Pig.P s.pigs x) (s.tl + tot Pig.t s.pigs x) (s.th + tot Pig.t s.pigs x) (s.al + tot Pig.a s.pigs x) (s.ah + tot Pig.a s.pigs x)
  cases hs : isSafeR s (s.P + tot Pig.P s.pigs x) (s.tl + tot Pig.t s.pigs x) (s.th + tot Pig.t s.pigs x) (s.al + tot Pig.a s.pigs x) (s.ah + tot Pig.a s.pigs x)
  · rw [hs] at h
    have : ¬ s.safeOf x = 1 := fun e => by have := h.2 e; cases this
    simpa using this
  · have : s.safeOf x = 1 := h.1 hs
    simp [this]
def SafePost (s : Shop) (len : Nat) (w : World) (e : Ending) (w' : World) : Prop :=
  ∃ v vs, e = .returned v ∧ w'.ownsRow w.heap.size 29 1 v s.safeL.length vs ∧ LRead w' len vs s.safeL ∧ Below w.heap.size w w'

set_option maxRecDepth 100000 in
set_option maxHeartbeats 8000000 in
theorem refsafe_any (s : Shop) (a : Option Addr) (len cap : Nat) (w : World) (hp : PigsAt w a len s.pigs) (ho : s.ok = true) :
    Calls Try.prog 88 #[.agg #[.int .i64 s.P, .int .i64 s.tl, .int .i64 s.th, .int .i64 s.al, .int .i64 s.ah, .int .i64 s.room, .int .i64 s.xl, .int .i64 s.xh, .int .i64 s.yl, .int .i64 s.yh, .slice a len cap]] w fun e w' => SafePost s len w e w' := by
  have HL := Lib.hid (fun w1 (hb : Below w.heap.size w w1) => refAdditions_all s a len cap w1 (hp.below hb) ho)
  have HP := Lib.hid (fun w1 (hb : Below w.heap.size w w1) => hp.below hb)
  have hl4 : len ≤ 4 := by have := Shop.ok_bd ho; have := hp.1; omega
  have HF := Lib.hid (adds_few ho)
  have HMEM := Lib.hid (fun j (h : j < s.adds.length) => mem_isAdd ho (List.getElem_mem h))
  have HS0 := Lib.hid (show safeTo s 0 = [] from rfl)
  have HSS := Lib.hid (safeTo_succ s)
  have HSL := Lib.hid (safeTo_le s)
  have HSA := Lib.hid (safeTo_all s)
  have HO := Lib.hid ho
  clear hp ho
  go_enter Try.func88, Try.ntmps88
  go_wp2_with fail
  refine (HL.out _ (by repeat (first | exact Below.refl _ _ | (refine Below.alloc ?_ (by first | omega | (simp; omega) | simp) _) | (refine Below.setCell ?_ (by first | omega | (simp; omega) | simp) _) | refine Below.drew ?_))).mono ?_
  rintro e w1 ⟨v1, vs1, rfl, hown1, hrd1, hb1⟩
  obtain ⟨la, lc, rfl⟩ := own_slice hown1
  have hw1 := ((by repeat (first | exact Below.refl _ _ | (refine Below.alloc ?_ (by first | omega | (simp; omega) | simp) _) | (refine Below.setCell ?_ (by first | omega | (simp; omega) | simp) _) | refine Below.drew ?_)) : Below w.heap.size w _).trans (hb1.mono (by first | (simp; done) | (simp; omega) | omega))
  obtain ⟨hc1, hf1⟩ := bcell hb1
  have hz1 := hb1.size
  simp at hz1
  have HSB := Lib.hid (fun i => show w1.cell? ⟨w.heap.size, i, none⟩ = (#[.int .i64 s.P, .int .i64 s.tl, .int .i64 s.th, .int .i64 s.al, .int .i64 s.ah, .int .i64 s.room, .int .i64 s.xl, .int .i64 s.xh, .int .i64 s.yl, .int .i64 s.yh, .slice a len cap] : Array Value)[i]? from (hc1 _ _ (by simp)).trans (World.cell?_alloc_new w _ _ i))
  have hcell : 0 < s.adds.length → ∃ g, la = some ⟨g, 0, none⟩ ∧ g < w1.heap.size ∧ ∀ j u, vs1[j]? = some u → w1.cell? ⟨g, j, none⟩ = some u := fun h0 => by
    obtain ⟨g, cap, e, _, hg, _, _, hc⟩ := own_cell hown1 h0
    injection e with e1 _ _
    exact ⟨g, e1, hg, hc⟩
  have HW1 := Lib.hid hw1
  have HR1 := Lib.hid hrd1
  have t0 : w.heap.size < w1.heap.size := by omega
  have hfew := HF.out
  clear hc1 hf1 hb1 hz1 hown1 hw1 hrd1
  go_wp2_with fail
  go_loopw [4, 5] (fun v4 v5 wr => ∃ (j : Nat) (us : List Value) (R : Option Nat), v4.ownBlock = R ∧ j ≤ s.adds.length ∧ v5 = .int .i64 (j : Int) ∧ wr.ownsRow w1.heap.size 29 1 v4 (safeTo s j).length us ∧ LRead wr len us (safeTo s j) ∧ (0 < len → ∀ u ∈ us, ∀ b o l c, u = .slice (some ⟨b, o, none⟩) l c → b < w1.heap.size) ∧ Below w1.heap.size w1 wr) (fun _ i _ => s.adds.length - (intOf i).toNat)
  case atStart => exact ⟨0, [], none, rfl, by omega, rfl, by rw [HS0.out]; exact World.ownsRow_nil _ _ _ _, by rw [HS0.out]; exact LRead.nil _ _, fun _ u hu => by simp at hu, Below.refl _ _⟩
  case round =>
    obtain ⟨j, us, R, hR, hj, rfl, hrow, hrd, hap, hB⟩ := hrel
    have hRb := own_base hrow
    rw [hR] at hRb
    have hzr := hB.size
    have HROW := Lib.hid hrow
    have HRD := Lib.hid hrd
    have HAP := Lib.hid hap
    have HB := Lib.hid hB
    have HRB := Lib.hid hRb
    clear hrow hrd hap hRb
    by_cases hlt : j < s.adds.length
    · obtain ⟨g, rfl, hg, hc⟩ := hcell (by omega)
      obtain ⟨xa, xc, hv, hi⟩ := HR1.out.2 j (by omega)
      have hcj := (hB.cell (p := ⟨g, j, none⟩) hg).trans (hc j _ hv)
      have hbx := fun i => (hB.cell (p := ⟨w.heap.size, i, none⟩) t0).trans (HSB.out i)
      obtain ⟨x0, x1, x2, x3, x4, x5, x6, x7, x8, x9, x10⟩ : wr.cell? ⟨w.heap.size, 0, none⟩ = some (.int .i64 s.P) ∧ wr.cell? ⟨w.heap.size, 1, none⟩ = some (.int .i64 s.tl) ∧ wr.cell? ⟨w.heap.size, 2, none⟩ = some (.int .i64 s.th) ∧ wr.cell? ⟨w.heap.size, 3, none⟩ = some (.int .i64 s.al) ∧ wr.cell? ⟨w.heap.size, 4, none⟩ = some (.int .i64 s.ah) ∧ wr.cell? ⟨w.heap.size, 5, none⟩ = some (.int .i64 s.room) ∧ wr.cell? ⟨w.heap.size, 6, none⟩ = some (.int .i64 s.xl) ∧ wr.cell? ⟨w.heap.size, 7, none⟩ = some (.int .i64 s.xh) ∧ wr.cell? ⟨w.heap.size, 8, none⟩ = some (.int .i64 s.yl) ∧ wr.cell? ⟨w.heap.size, 9, none⟩ = some (.int .i64 s.yh) ∧ wr.cell? ⟨w.heap.size, 10, none⟩ = some (.slice a len cap) := ⟨hbx 0, hbx 1, hbx 2, hbx 3, hbx 4, hbx 5, hbx 6, hbx 7, hbx 8, hbx 9, hbx 10⟩
      have hBw := HW1.out.trans (hB.mono HW1.out.size)
      have hadd := HMEM.out j (by omega)
      obtain ⟨hxl, hxf⟩ := Shop.isAdd_len hadd
      have HXR := Lib.hid (hi.below hB)
      have HXB := Lib.hid (show 0 < len → ∀ b o, xa = some ⟨b, o, none⟩ → b < w1.heap.size from fun h0 b o e => by
        obtain ⟨b', o', e', hb', _⟩ := hi.2.2 h0; rw [e] at e'; cases e'; exact hb')
      have HSN := Lib.hid (HSS.out j (by omega))
      obtain ⟨b, hb⟩ : ∃ b, (s.safeOf (s.adds[j]'(by omega)) == 1) = b := ⟨_, rfl⟩
      have HA := fun w2 (h : Below wr.heap.size wr w2) => refAfterOf_any s a len cap xa xc _ w2 (HP.out _ (hBw.trans (h.mono hBw.size))) (HXR.out.below h) HO.out hxf
      unfold potCells at HA
      have HA1 := Lib.hid (fun W (h : Below wr.heap.size wr W ∧ ∀ b o, b < wr.heap.size → W.cell? ⟨b, o, none⟩ = wr.cell? ⟨b, o, none⟩) => bothS1 (W0 := wr) (HA W h.1) h)
      have HI := Lib.hid (fun W (h : Below wr.heap.size wr W ∧ ∀ b o, b < wr.heap.size → W.cell? ⟨b, o, none⟩ = wr.cell? ⟨b, o, none⟩) => bothS1 (W0 := wr) (refIsSafe_add s a len cap _ HO.out hadd b hb W) h)
      rw [hb] at HSN
      clear HA hb hadd hxl hxf hbx hc hv hi hBw
      have hx0 : (0 : Int) ≤ (j : Int) := by omega
      have hxn : (j : Int) < (s.adds.length : Int) := by omega
      have g0 : w.heap.size < wr.heap.size := by omega
      have g1 : g < wr.heap.size := by omega
      clear hzr hB
      go_wp2_with fail
      go_cut [21] (fun v21 wx => v21 = .bool b ∧ Below wr.heap.size wr wx)
      case first =>
        go_region_held3 (fun w' => Below wr.heap.size wr w' ∧ ∀ b o, b < wr.heap.size → w'.cell? ⟨b, o, none⟩ = wr.cell? ⟨b, o, none⟩) (first | with_reducible assumption | ((repeat (first | with_reducible refine bothS_drew ?_ | with_reducible refine bothS_alloc _ ?_ | with_reducible refine bothS_set _ _ (by first | omega | (simp; omega) | simp) ?_)); first | with_reducible assumption | with_reducible exact Hid.out (by assumption) | with_reducible exact ⟨Below.refl _ _, fun _ _ _ => rfl⟩)) (first | (go_at_call 63; with_reducible refine (HA1.out _ ?_).mono ?_; (first | with_reducible assumption | ((repeat (first | with_reducible refine bothS_drew ?_ | with_reducible refine bothS_alloc _ ?_ | with_reducible refine bothS_set _ _ (by first | omega | (simp; omega) | simp) ?_)); first | with_reducible assumption | with_reducible exact Hid.out (by assumption) | with_reducible exact ⟨Below.refl _ _, fun _ _ _ => rfl⟩)); rintro e w' ⟨rfl, k, k1, k2, k3⟩; have HK := Lib.hid k; (try simp at k3); (try have k6 := Nat.lt_of_succ_le k3); (try have k7 := Nat.lt_of_succ_lt k6); (try have k8 := Nat.lt_of_succ_lt k3)) | (go_at_call 64; with_reducible refine (HI.out _ ?_).mono ?_; (first | with_reducible assumption | ((repeat (first | with_reducible refine bothS_drew ?_ | with_reducible refine bothS_alloc _ ?_ | with_reducible refine bothS_set _ _ (by first | omega | (simp; omega) | simp) ?_)); first | with_reducible assumption | with_reducible exact Hid.out (by assumption) | with_reducible exact ⟨Below.refl _ _, fun _ _ _ => rfl⟩)); rintro e w' ⟨rfl, k, k1, k2, k3⟩; have HK := Lib.hid k; (try simp at k3); (try have k6 := Nat.lt_of_succ_le k3); (try have k7 := Nat.lt_of_succ_lt k6); (try have k8 := Nat.lt_of_succ_lt k3)) | fail "no arm")
        all_goals (go_wp2_with fail; go_meet; exact ⟨rfl, And.left (by assumption)⟩)
      case rest =>
        obtain ⟨rfl, hB2⟩ := hcut
        obtain ⟨w2, rfl⟩ : ∃ w2 : World, w2 = wc := ⟨_, rfl⟩
        have hz2 := hB2.size
        have hcj2 := (hB2.cell (p := ⟨g, j, none⟩) g1).trans hcj
        have HROW2 := Lib.hid (HROW.out.kept (grown_none hB2) (Classical.em _))
        have HRD2 := Lib.hid (HRD.out.below hB2)
        have HXR2 := Lib.hid (HXR.out.below hB2)
        have HBB := Lib.hid (HB.out.trans (hB2.mono HB.out.size))
        clear x0 x1 x2 x3 x4 x5 x6 x7 x8 x9 x10 hcj HA1 HI hcell
        cases b
        · go_wp2_with fail
          go_roundw
          case rel => exact ⟨j + 1, us, R, hR, by omega, by go_num, by rw [HSN.out]; simpa using HROW2.out, by rw [HSN.out]; simpa using HRD2.out, HAP.out, HBB.out⟩
          case measure => simp [intOf]; omega
        · have hbnd : (safeTo s j).length + 1 ≤ 100000 := by have := HSL.out j; omega
          obtain ⟨q4, w4, hr4, hown4, hgr4, hat4⟩ := run_append_rows (w2.alloc (.cells #[.slice xa len xc] 29)) w1.heap.size w2.heap.size _ 1 u4 (.slice (some ⟨w2.heap.size, 0, none⟩) 1 1) us [.slice xa len xc] (HROW2.out.alloc _) ⟨rfl, .inr ⟨w2.heap.size, 1, #[.slice xa len xc], rfl, Nat.le_refl _, World.alloc_heap_new _ _, Nat.le_refl _, by decide, rfl, rfl⟩⟩ (by intro u hu; rw [List.mem_singleton.1 hu]; rfl) hbnd (by have := HBB.out.size; simp; omega)
          have hxb : 0 < len → ∀ b o, xa = some ⟨b, o, none⟩ → b < w1.heap.size := fun h0 b o e => HXB.out h0 b o e
          have hap4 : 0 < len → ∀ u ∈ us ++ [.slice xa len xc], ∀ b o l c, u = .slice (some ⟨b, o, none⟩) l c → b < w1.heap.size := fun h0 u hu b o l c e => by
            rcases List.mem_append.1 hu with hu | hu
            · exact HAP.out h0 u hu b o l c e
            · rw [List.mem_singleton.1 hu] at e
              injection e with e _ _
              exact hxb h0 b o e
          have hne : ∀ b, b < w1.heap.size → u4.ownBlock ≠ some b := fun b hb e => by
            have := (HRB.out b (hR.symm.trans e)).1; omega
          have HL4 := Lib.hid (LRead.append (LRead.kept (HRD2.out.below ((Below.refl _ _).alloc (Nat.le_refl _) _)) hgr4 (fun h0 u hu b o l c e => hne b (HAP.out h0 u hu b o l c e))) (LRead.kept (Ls := [s.adds[j]]) (vs := [.slice xa len xc]) ⟨rfl, fun i hi => by
            obtain rfl : i = 0 := by simpa using hi
            exact ⟨xa, xc, rfl, HXR2.out.below ((Below.refl _ _).alloc (Nat.le_refl _) _)⟩⟩ hgr4 (fun h0 u hu b o l c e => hne b (by
              rw [List.mem_singleton.1 hu] at e
              injection e with e _ _
              exact hxb h0 b o e))))
          have HO4 := Lib.hid hown4
          have HAP4 := Lib.hid hap4
          have HBK := Lib.hid (Below.grown (HBB.out.alloc HBB.out.size _) hgr4 (by have := HBB.out.size; simp; omega) (fun r e => (HRB.out r (hR.symm.trans e)).1))
          clear hown4 hgr4 hat4 hxb hap4 hne
          go_wp2_with (at_builtin; refine wpList_append_run _ rfl _ _ 95 rfl _ _ q4 w4 rfl rfl hr4 ?_)
          go_roundw
          case rel => exact ⟨j + 1, us ++ [.slice xa len xc], q4.ownBlock, rfl, by omega, by go_num, by rw [HSN.out]; simpa using HO4.out, by rw [HSN.out]; simpa using HL4.out, HAP4.out, HBK.out⟩
          case measure => simp [intOf]; omega
    · obtain rfl : j = s.adds.length := by omega
      have HBW := Lib.hid (HW1.out.trans (HB.out.mono HW1.out.size))
      clear hcell
      go_wp2_with fail
      go_ret
      unfold SafePost
      exact ⟨_, us, rfl, by rw [← HSA.out]; exact Go.Joins.ownsRow_le HROW.out HW1.out.size, by rw [← HSA.out]; exact HRD.out, HBW.out⟩
end Go.Proofs.Ytajabapcmpmboaa
