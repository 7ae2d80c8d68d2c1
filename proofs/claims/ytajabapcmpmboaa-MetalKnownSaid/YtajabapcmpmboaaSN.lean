/- The reference's Mend. -/
import Derived.Test.YtajabapcmpmboaaSM
namespace Go.Proofs.Ytajabapcmpmboaa
set_option linter.unusedVariables false
set_option linter.unusedSimpArgs false
open Go.RowKit

/-- Only what is safe counts. -/
theorem bestOf_filter (s : Shop) (f : List Int → Int) (l : List (List Int)) : bestOf s f l = bestOf s f (l.filter fun x => s.safeOf x == 1) := by
  unfold bestOf
  generalize (none : Option (List Int × Int)) = o
  induction l generalizing o with
  | nil => rfl
  | cons x l ih =>
    by_cases h : s.safeOf x = 1
    · rw [List.filter_cons_of_pos (by simpa using h), List.foldl_cons, List.foldl_cons]; exact ih _
    · rw [List.filter_cons_of_neg (by simpa using h), List.foldl_cons, show stepBest s f o x = o by simp [stepBest, h]]; exact ih _
theorem best_safeL (s : Shop) (k : Nat) : s.best k = bestOf s (askF k s) s.safeL := by
  unfold Shop.best; rw [bestOf_filter]; rfl
theorem safeL_safe {s : Shop} {x : List Int} (h : x ∈ s.safeL) : s.safeOf x = 1 := by
  have := (List.mem_filter.1 h).2; simpa using this
theorem safeL_adds {s : Shop} {x : List Int} (h : x ∈ s.safeL) : x ∈ s.adds := (List.mem_filter.1 h).1
theorem safeL_nil {s : Shop} (h : s.safeL.length = 0) (k : Nat) : s.best k = none := by
  rw [best_safeL, List.length_eq_zero_iff.1 h]; rfl
/-- The best of the first so many. -/
def BestInv (s : Shop) (f : List Int → Int) (j : Nat) (y : List Int) : Prop :=
  (j = 0 ∧ ∃ h : 0 < s.safeL.length, y = s.safeL[0]) ∨ bestOf s f (s.safeL.take j) = some (y, f y)
theorem BestInv.next {s : Shop} {f : List Int → Int} {j : Nat} {y : List Int} (h : BestInv s f j y) (hj : j < s.safeL.length) : BestInv s f (j + 1) (if f s.safeL[j] < f y then s.safeL[j] else y) := by
  right
  have hs := safeL_safe (List.getElem_mem hj)
  rw [List.take_succ_eq_append_getElem hj, bestOf_snoc]
  rcases h with ⟨rfl, h0, rfl⟩ | h
  · simp [bestOf, stepBest, hs]
  · rw [h]; simp only [stepBest, hs, if_true]; split <;> rfl
theorem BestInv.mem {s : Shop} {f : List Int → Int} {j : Nat} {y : List Int} (h : BestInv s f j y) : y ∈ s.safeL := by
  rcases h with ⟨_, h0, rfl⟩ | h
  · exact List.getElem_mem h0
  · rcases best_spec s f (s.safeL.take j) with ⟨h1, -⟩ | ⟨y', m', h1, h2, -⟩
    · rw [h] at h1; cases h1
    · rw [h] at h1; cases h1; exact List.mem_of_mem_take h2
theorem BestInv.done {s : Shop} {k : Nat} {y : List Int} (h : BestInv s (askF k s) s.safeL.length y) (h0 : 0 < s.safeL.length) : s.best k = some (y, askF k s y) := by
  rcases h with ⟨e, _⟩ | h
  · omega
  · rw [best_safeL, ← h, List.take_length]
/-- Fewer pence, or as many and fewer pounds. -/
theorem lex_ask {s : Shop} (ho : s.ok = true) {x y : List Int} (hx : x ∈ s.adds) (hy : y ∈ s.adds) : askF 2 s x < askF 2 s y ↔ tot Pig.c s.pigs x < tot Pig.c s.pigs y ∨ tot Pig.c s.pigs x = tot Pig.c s.pigs y ∧ tot Pig.P s.pigs x < tot Pig.P s.pigs y := by
  have hP : ∀ x ∈ s.adds, 0 ≤ tot Pig.P s.pigs x ∧ tot Pig.P s.pigs x ≤ 999 := fun x hx => by
    have hi := mem_isAdd ho hx
    have h1 := Shop.isAdd_room hi
    obtain ⟨hl, hf⟩ := Shop.isAdd_len hi
    have h2 := tot_all Pig.P bd_pounds s.pigs x (s.few x ho hf) rfl hl
    have h3 := Shop.ok_bd ho
    omega
  have p1 := hP x hx
  have p2 := hP y hy
  show tot Pig.c s.pigs x * 1000 + tot Pig.P s.pigs x < tot Pig.c s.pigs y * 1000 + tot Pig.P s.pigs y ↔ _
  omega

/-- What the reference's Mend ends with, for a valid shop. -/
def RefMend (s : Shop) (len : Nat) (w : World) (e : Ending) (w' : World) : Prop :=
  ((s.best 2 = none ∧ e = .returned (.tuple #[.slice none 0 0, .int .i64 3])) ∨
    ∃ y m la lc, s.best 2 = some (y, m) ∧ e = .returned (.tuple #[.slice la len lc, .int .i64 0]) ∧ IntsAt w' la len y) ∧ Below w.heap.size w w'

set_option maxHeartbeats 1000000 in
theorem refMend_bad (s : Shop) (a : Option Addr) (len cap : Nat) (w : World) (hp : PigsAt w a len s.pigs) (ho : s.ok = false) :
    Calls Try.prog 35 #[.agg #[.int .i64 s.P, .int .i64 s.tl, .int .i64 s.th, .int .i64 s.al, .int .i64 s.ah, .int .i64 s.room, .int .i64 s.xl, .int .i64 s.xh, .int .i64 s.yl, .int .i64 s.yh, .slice a len cap]] w fun e w' => e = .returned (.tuple #[.slice none 0 0, .int .i64 10]) ∧ Below w.heap.size w w' := by
  have HC := Lib.hid (fun w1 (hb : Below w.heap.size w w1) => refCheck_is s a len cap 10 (by simp [Shop.chk, ho]) w1 (hp.below hb))
  clear hp ho
  go_enter Try.func35, Try.ntmps35
  go_wp2_with fail
  refine (HC.out _ (by repeat (first | exact Below.refl _ _ | (refine Below.alloc ?_ (by first | omega | (simp; omega) | simp) _) | (refine Below.setCell ?_ (by first | omega | (simp; omega) | simp) _) | refine Below.drew ?_))).mono ?_
  rintro e w1 ⟨rfl, hb1⟩
  have HB := Lib.hid hb1
  clear hb1
  go_wp2_with fail
  go_ret2
  exact ⟨rfl, (by repeat (first | exact Below.refl _ _ | (refine Below.alloc ?_ (by first | omega | (simp; omega) | simp) _) | (refine Below.setCell ?_ (by first | omega | (simp; omega) | simp) _) | refine Below.drew ?_ | (refine below_via (by assumption) (by first | omega | (simp; omega) | simp) ?_)))⟩

set_option maxRecDepth 100000 in
set_option maxHeartbeats 16000000 in
theorem refMend_ok (s : Shop) (a : Option Addr) (len cap : Nat) (w : World) (hp : PigsAt w a len s.pigs) (ho : s.ok = true) :
    Calls Try.prog 35 #[.agg #[.int .i64 s.P, .int .i64 s.tl, .int .i64 s.th, .int .i64 s.al, .int .i64 s.ah, .int .i64 s.room, .int .i64 s.xl, .int .i64 s.xh, .int .i64 s.yl, .int .i64 s.yh, .slice a len cap]] w fun e w' => RefMend s len w e w' := by
  have hl4 : len ≤ 4 := by have := Shop.ok_bd ho; have := hp.1; omega
  have HC := Lib.hid (fun w1 (hb : Below w.heap.size w w1) => refCheck_is s a len cap 0 (by simp [Shop.chk, ho]) w1 (hp.below hb))
  have HL := Lib.hid (fun w1 (hb : Below w.heap.size w w1) => refsafe_any s a len cap w1 (hp.below hb) ho)
  have HFEW := fun x (hx : x ∈ s.adds) => s.few x ho (Shop.isAdd_len (mem_isAdd ho hx)).2
  have HPC := Lib.hid (fun w1 (hb : Below w.heap.size w w1) xa xc x (hi : IntsAt w1 xa len x) (hx : x ∈ s.adds) => ref_PenceOf s a cap xa len xc x w1 (hp.below hb) hi hl4 (HFEW x hx))
  have HPP := Lib.hid (fun w1 (hb : Below w.heap.size w w1) xa xc x (hi : IntsAt w1 xa len x) (hx : x ∈ s.adds) => ref_PoundsOf s a cap xa len xc x w1 (hp.below hb) hi hl4 (HFEW x hx))
  have HN := Lib.hid (fun h => safeL_nil (s := s) h 2)
  have HNX := Lib.hid (fun j y (h : BestInv s (askF 2 s) j y) (hj : j < s.safeL.length) => h.next hj)
  have HDN := Lib.hid (fun y (h : BestInv s (askF 2 s) s.safeL.length y) h0 => h.done h0)
  have HMEM := Lib.hid (fun j (h : j < s.safeL.length) => safeL_adds (List.getElem_mem h))
  have HBM := Lib.hid (fun j y (h : BestInv s (askF 2 s) j y) => safeL_adds h.mem)
  have HLEX := Lib.hid (fun x y (hx : x ∈ s.adds) (hy : y ∈ s.adds) => lex_ask ho hx hy)
  have HST := Lib.hid (fun (h : 0 < s.safeL.length) => show BestInv s (askF 2 s) 0 s.safeL[0] from .inl ⟨rfl, h, rfl⟩)
  have hfew : s.safeL.length ≤ 1296 := Nat.le_trans (List.length_filter_le _ _) (adds_few ho)
  clear hp ho HFEW
  go_enter Try.func35, Try.ntmps35
  go_wp2_with fail
  refine (HC.out _ (by repeat (first | exact Below.refl _ _ | (refine Below.alloc ?_ (by first | omega | (simp; omega) | simp) _) | (refine Below.setCell ?_ (by first | omega | (simp; omega) | simp) _) | refine Below.drew ?_))).mono ?_
  rintro e w1 ⟨rfl, hb1⟩
  obtain ⟨hc1, hf1⟩ := bcell hb1
  have hz1 := hb1.size
  simp at hz1
  have hw1 := ((by repeat (first | exact Below.refl _ _ | (refine Below.alloc ?_ (by first | omega | (simp; omega) | simp) _) | (refine Below.setCell ?_ (by first | omega | (simp; omega) | simp) _) | refine Below.drew ?_)) : Below w.heap.size w _).trans (hb1.mono (by first | (simp; done) | (simp; omega) | omega))
  clear hb1
  have q1 : w.heap.size < w1.heap.size := by omega
  go_wp2_with fail
  refine (HL.out _ hw1).mono ?_
  intro e w2 hsp
  unfold SafePost at hsp
  obtain ⟨v2, vs2, rfl, hown2, hrd2, hb2⟩ := hsp
  obtain ⟨la, lc, rfl⟩ := own_slice hown2
  have hz2 := hb2.size
  have hw2 := hw1.trans (hb2.mono hw1.size)
  have HW2 := Lib.hid hw2
  have t0 : w.heap.size < w2.heap.size := by omega
  have HSB := Lib.hid (fun i => show w2.cell? ⟨w.heap.size, i, none⟩ = (#[.int .i64 s.P, .int .i64 s.tl, .int .i64 s.th, .int .i64 s.al, .int .i64 s.ah, .int .i64 s.room, .int .i64 s.xl, .int .i64 s.xh, .int .i64 s.yl, .int .i64 s.yh, .slice a len cap] : Array Value)[i]? from (hb2.cell (p := ⟨w.heap.size, i, none⟩) q1).trans ((hc1 _ _ (by simp)).trans (World.cell?_alloc_new w _ _ i)))
  clear hb2 hc1 hf1 hz1 hz2 hw1 hw2
  rcases Nat.eq_zero_or_pos s.safeL.length with hn0 | hn0
  · have HNO := Lib.hid (HN.out hn0)
    have hn0' : (s.safeL.length : Int) = 0 := by omega
    clear hown2 hrd2
    go_wp2_with fail
    go_ret2
    unfold RefMend
    exact ⟨.inl ⟨HNO.out, rfl⟩, HW2.out⟩
  · obtain ⟨g, capg, ela, _, hg, _, _, hc⟩ := own_cell hown2 hn0
    injection ela with ela _ _
    subst ela
    obtain ⟨xa0, xc0, hv0, hi0⟩ := hrd2.2 0 hn0
    have hcell0 := hc 0 _ hv0
    have HI0 := Lib.hid hi0
    have HRD := Lib.hid hrd2
    have HCG := Lib.hid hc
    have e0 : ((s.safeL.length : Int) == 0) = false := by rw [beq_eq_false_iff_ne]; omega
    have hpos : (0 : Int) < (s.safeL.length : Int) := by omega
    clear hown2 hrd2 hc hv0 hi0
    go_wp2_with fail
    go_loopw [6, 7] (fun v6 v7 wr => ∃ (j : Nat) (y : List Int) (ba : Option Addr) (bc : Nat), j ≤ s.safeL.length ∧ v6 = .slice ba len bc ∧ v7 = .int .i64 (j : Int) ∧ BestInv s (askF 2 s) j y ∧ IntsAt wr ba len y ∧ Below w2.heap.size w2 wr) (fun _ i _ => s.safeL.length - (intOf i).toNat)
    case atStart => exact ⟨0, _, xa0, xc0, by omega, rfl, rfl, HST.out hn0, HI0.out, Below.refl _ _⟩
    case round =>
      obtain ⟨j, y, ba, bc, hj, rfl, rfl, hinv, hiy, hB⟩ := hrel
      have HINV := Lib.hid hinv
      have HB := Lib.hid hB
      by_cases hlt : j < s.safeL.length
      · obtain ⟨xa, xc, hv, hi⟩ := HRD.out.2 j hlt
        have hcj := (hB.cell (p := ⟨g, j, none⟩) hg).trans (HCG.out j _ hv)
        have hbx := fun i => (hB.cell (p := ⟨w.heap.size, i, none⟩) t0).trans (HSB.out i)
        obtain ⟨x0, x1, x2, x3, x4, x5, x6, x7, x8, x9, x10⟩ : wr.cell? ⟨w.heap.size, 0, none⟩ = some (.int .i64 s.P) ∧ wr.cell? ⟨w.heap.size, 1, none⟩ = some (.int .i64 s.tl) ∧ wr.cell? ⟨w.heap.size, 2, none⟩ = some (.int .i64 s.th) ∧ wr.cell? ⟨w.heap.size, 3, none⟩ = some (.int .i64 s.al) ∧ wr.cell? ⟨w.heap.size, 4, none⟩ = some (.int .i64 s.ah) ∧ wr.cell? ⟨w.heap.size, 5, none⟩ = some (.int .i64 s.room) ∧ wr.cell? ⟨w.heap.size, 6, none⟩ = some (.int .i64 s.xl) ∧ wr.cell? ⟨w.heap.size, 7, none⟩ = some (.int .i64 s.xh) ∧ wr.cell? ⟨w.heap.size, 8, none⟩ = some (.int .i64 s.yl) ∧ wr.cell? ⟨w.heap.size, 9, none⟩ = some (.int .i64 s.yh) ∧ wr.cell? ⟨w.heap.size, 10, none⟩ = some (.slice a len cap) := ⟨hbx 0, hbx 1, hbx 2, hbx 3, hbx 4, hbx 5, hbx 6, hbx 7, hbx 8, hbx 9, hbx 10⟩
        have hBw := HW2.out.trans (hB.mono HW2.out.size)
        have hzr := hB.size
        have hmx := HMEM.out j hlt
        have hmy := HBM.out j y hinv
        have HXR := Lib.hid (fun W (h : Below w2.heap.size w2 W) => hi.below h)
        have HYR := Lib.hid (fun W (h : Below wr.heap.size wr W) => hiy.below h)
        have HNEXT := Lib.hid (HNX.out j y hinv hlt)
        have HLX := Lib.hid (HLEX.out _ _ hmx hmy)
        have hix : ∀ W, Below wr.heap.size wr W → IntsAt W xa len (s.safeL[j]'hlt) := fun W h => HXR.out W (hB.trans (h.mono hB.size))
        have HCX := Lib.hid (fun W (h : Below wr.heap.size wr W ∧ ∀ b o, b < wr.heap.size → W.cell? ⟨b, o, none⟩ = wr.cell? ⟨b, o, none⟩) => bothS1 (W0 := wr) (HPC.out W (hBw.trans (h.1.mono hBw.size)) xa xc _ (hix W h.1) hmx) h)
        have HCY := Lib.hid (fun W (h : Below wr.heap.size wr W ∧ ∀ b o, b < wr.heap.size → W.cell? ⟨b, o, none⟩ = wr.cell? ⟨b, o, none⟩) => bothS1 (W0 := wr) (HPC.out W (hBw.trans (h.1.mono hBw.size)) ba bc _ (HYR.out W h.1) hmy) h)
        have HPX := Lib.hid (fun W (h : Below wr.heap.size wr W) => HPP.out W (hBw.trans (h.mono hBw.size)) xa xc _ (hix W h) hmx)
        have HPY := Lib.hid (fun W (h : Below wr.heap.size wr W) => HPP.out W (hBw.trans (h.mono hBw.size)) ba bc _ (HYR.out W h) hmy)
        have hx0 : (0 : Int) ≤ (j : Int) := by omega
        have hxn : (j : Int) < (s.safeL.length : Int) := by omega
        have g0 : w.heap.size < wr.heap.size := by omega
        have g1 : g < wr.heap.size := by omega
        clear hbx hv hi hiy hinv hmx hmy hix hBw hzr hB
        generalize hcx : tot Pig.c s.pigs (s.safeL[j]'hlt) = cx at *
        generalize hcy : tot Pig.c s.pigs y = cy at *
        generalize hpx : tot Pig.P s.pigs (s.safeL[j]'hlt) = px at *
        generalize hpy : tot Pig.P s.pigs y = py at *
        clear hcx hcy hpx hpy
        go_upto_region 11 with fail
        go_cut [8, 9] (fun v8 v9 wx => v8 = .int .i64 cx ∧ v9 = .int .i64 cy ∧ Below wr.heap.size wr wx)
        case first =>
          go_region_held3 (fun w' => Below wr.heap.size wr w' ∧ ∀ b o, b < wr.heap.size → w'.cell? ⟨b, o, none⟩ = wr.cell? ⟨b, o, none⟩) (first | with_reducible assumption | ((repeat (first | with_reducible refine bothS_drew ?_ | with_reducible refine bothS_alloc _ ?_ | with_reducible refine bothS_set _ _ (by first | omega | (simp; omega) | simp) ?_)); first | with_reducible assumption | with_reducible exact Hid.out (by assumption) | with_reducible exact ⟨Below.refl _ _, fun _ _ _ => rfl⟩)) (first | (go_at_call 58; with_reducible refine (HCX.out _ ?_).mono ?_; (first | with_reducible assumption | ((repeat (first | with_reducible refine bothS_drew ?_ | with_reducible refine bothS_alloc _ ?_ | with_reducible refine bothS_set _ _ (by first | omega | (simp; omega) | simp) ?_)); first | with_reducible assumption | with_reducible exact Hid.out (by assumption) | with_reducible exact ⟨Below.refl _ _, fun _ _ _ => rfl⟩)); rintro e w' ⟨rfl, k, k1, k2, k3⟩; have HK := Lib.hid k; (try simp at k3); (try have k6 := Nat.lt_of_succ_le k3); (try have k7 := Nat.lt_of_succ_lt k6); (try have k8 := Nat.lt_of_succ_lt k3)) | (go_at_call 58; with_reducible refine (HCY.out _ ?_).mono ?_; (first | with_reducible assumption | ((repeat (first | with_reducible refine bothS_drew ?_ | with_reducible refine bothS_alloc _ ?_ | with_reducible refine bothS_set _ _ (by first | omega | (simp; omega) | simp) ?_)); first | with_reducible assumption | with_reducible exact Hid.out (by assumption) | with_reducible exact ⟨Below.refl _ _, fun _ _ _ => rfl⟩)); rintro e w' ⟨rfl, k, k1, k2, k3⟩; have HK := Lib.hid k; (try simp at k3); (try have k6 := Nat.lt_of_succ_le k3); (try have k7 := Nat.lt_of_succ_lt k6); (try have k8 := Nat.lt_of_succ_lt k3)) | fail "no arm")
          all_goals (go_wp2_with fail; go_meet; exact ⟨rfl, rfl, And.left (by assumption)⟩)
        case rest =>
          obtain ⟨rfl, rfl, hB3⟩ := hcut
          obtain ⟨w3, rfl⟩ : ∃ w3 : World, w3 = wc := ⟨_, rfl⟩
          have HB3 := Lib.hid (HB.out.trans (hB3.mono HB.out.size))
          have HBR := Lib.hid hB3
          have g3 : g < w3.heap.size := by have := hB3.size; omega
          have hcj3 := (hB3.cell (p := ⟨g, j, none⟩) g1).trans hcj
          have g4 : w.heap.size < w3.heap.size := by have := hB3.size; omega
          have y0 := fun i => hB3.cell (p := ⟨w.heap.size, i, none⟩) g0
          have Y0 := Lib.hid y0
          obtain ⟨z0, z1, z2, z3, z4, z5, z6, z7, z8, z9, z10⟩ : w3.cell? ⟨w.heap.size, 0, none⟩ = some (.int .i64 s.P) ∧ w3.cell? ⟨w.heap.size, 1, none⟩ = some (.int .i64 s.tl) ∧ w3.cell? ⟨w.heap.size, 2, none⟩ = some (.int .i64 s.th) ∧ w3.cell? ⟨w.heap.size, 3, none⟩ = some (.int .i64 s.al) ∧ w3.cell? ⟨w.heap.size, 4, none⟩ = some (.int .i64 s.ah) ∧ w3.cell? ⟨w.heap.size, 5, none⟩ = some (.int .i64 s.room) ∧ w3.cell? ⟨w.heap.size, 6, none⟩ = some (.int .i64 s.xl) ∧ w3.cell? ⟨w.heap.size, 7, none⟩ = some (.int .i64 s.xh) ∧ w3.cell? ⟨w.heap.size, 8, none⟩ = some (.int .i64 s.yl) ∧ w3.cell? ⟨w.heap.size, 9, none⟩ = some (.int .i64 s.yh) ∧ w3.cell? ⟨w.heap.size, 10, none⟩ = some (.slice a len cap) := ⟨(y0 0).trans x0, (y0 1).trans x1, (y0 2).trans x2, (y0 3).trans x3, (y0 4).trans x4, (y0 5).trans x5, (y0 6).trans x6, (y0 7).trans x7, (y0 8).trans x8, (y0 9).trans x9, (y0 10).trans x10⟩
          clear hB3 hcj HCX HCY y0 x0 x1 x2 x3 x4 x5 x6 x7 x8 x9 x10
          by_cases hc1 : cx < cy
          · have HLT := Lib.hid (HLX.out.2 (.inl hc1))
            rw [if_pos HLT.out] at HNEXT
            go_wp2_with fail
            go_quiet (fail)
            go_wp2_with fail
            go_roundw
            case rel => exact ⟨j + 1, s.safeL[j]'hlt, xa, xc, by omega, rfl, by go_num, HNEXT.out, HXR.out _ (HB3.out.trans (Go.Joins.below_draws _ _ _)), HB3.out.trans (Go.Joins.below_draws _ _ _)⟩
            case measure => simp [intOf]; omega
          · by_cases hc2 : cx = cy
            · have HQX := Lib.hid (fun W (h : Below w3.heap.size w3 W ∧ ∀ b o, b < w3.heap.size → W.cell? ⟨b, o, none⟩ = w3.cell? ⟨b, o, none⟩) => bothS1 (W0 := w3) (HPX.out W (HBR.out.trans (h.1.mono HBR.out.size))) h)
              have HQY := Lib.hid (fun W (h : Below w3.heap.size w3 W ∧ ∀ b o, b < w3.heap.size → W.cell? ⟨b, o, none⟩ = w3.cell? ⟨b, o, none⟩) => bothS1 (W0 := w3) (HPY.out W (HBR.out.trans (h.1.mono HBR.out.size))) h)
              subst hc2
              clear hc1 HPX HPY
              go_upto_region 12 with fail
              go_cut [57] (fun v57 wx => v57 = .bool (decide (px < py)) ∧ Below w3.heap.size w3 wx)
              case first =>
                go_region_held3 (fun w' => Below w3.heap.size w3 w' ∧ ∀ b o, b < w3.heap.size → w'.cell? ⟨b, o, none⟩ = w3.cell? ⟨b, o, none⟩) (first | with_reducible assumption | ((repeat (first | with_reducible refine bothS_drew ?_ | with_reducible refine bothS_alloc _ ?_ | with_reducible refine bothS_set _ _ (by first | omega | (simp; omega) | simp) ?_)); first | with_reducible assumption | with_reducible exact Hid.out (by assumption) | with_reducible exact ⟨Below.refl _ _, fun _ _ _ => rfl⟩)) (first | (go_at_call 50; with_reducible refine (HQX.out _ ?_).mono ?_; (first | with_reducible assumption | ((repeat (first | with_reducible refine bothS_drew ?_ | with_reducible refine bothS_alloc _ ?_ | with_reducible refine bothS_set _ _ (by first | omega | (simp; omega) | simp) ?_)); first | with_reducible assumption | with_reducible exact Hid.out (by assumption) | with_reducible exact ⟨Below.refl _ _, fun _ _ _ => rfl⟩)); rintro e w' ⟨rfl, k, k1, k2, k3⟩; have HK := Lib.hid k; (try simp at k3); (try have k6 := Nat.lt_of_succ_le k3); (try have k7 := Nat.lt_of_succ_lt k6); (try have k8 := Nat.lt_of_succ_lt k3)) | (go_at_call 50; with_reducible refine (HQY.out _ ?_).mono ?_; (first | with_reducible assumption | ((repeat (first | with_reducible refine bothS_drew ?_ | with_reducible refine bothS_alloc _ ?_ | with_reducible refine bothS_set _ _ (by first | omega | (simp; omega) | simp) ?_)); first | with_reducible assumption | with_reducible exact Hid.out (by assumption) | with_reducible exact ⟨Below.refl _ _, fun _ _ _ => rfl⟩)); rintro e w' ⟨rfl, k, k1, k2, k3⟩; have HK := Lib.hid k; (try simp at k3); (try have k6 := Nat.lt_of_succ_le k3); (try have k7 := Nat.lt_of_succ_lt k6); (try have k8 := Nat.lt_of_succ_lt k3)) | fail "no arm")
                all_goals (go_wp2_with fail; go_meet; exact ⟨rfl, And.left (by assumption)⟩)
              case rest =>
                obtain ⟨rfl, hB4⟩ := hcut
                obtain ⟨w4, rfl⟩ : ∃ w4 : World, w4 = wc := ⟨_, rfl⟩
                have HB4 := Lib.hid (HB3.out.trans (hB4.mono HB3.out.size))
                have hcj4 := (hB4.cell (p := ⟨g, j, none⟩) g3).trans hcj3
                have HYB := Lib.hid (hB4)
                clear hB4 z0 z1 z2 z3 z4 z5 z6 z7 z8 z9 z10 hcj3
                by_cases hpp : px < py
                · have HLT := Lib.hid (HLX.out.2 (.inr ⟨rfl, hpp⟩))
                  rw [if_pos HLT.out] at HNEXT
                  rw [decide_eq_true hpp]
                  go_wp2_with fail
                  go_roundw
                  case rel => exact ⟨j + 1, s.safeL[j]'hlt, xa, xc, by omega, rfl, by go_num, HNEXT.out, HXR.out _ HB4.out, HB4.out⟩
                  case measure => simp [intOf]; omega
                · have HLT := Lib.hid (fun h => by rcases HLX.out.1 h with h | h; exact absurd h (Int.lt_irrefl _); exact hpp h.2)
                  rw [if_neg HLT.out] at HNEXT
                  rw [decide_eq_false hpp]
                  go_wp2_with fail
                  go_roundw
                  case rel => exact ⟨j + 1, y, ba, bc, by omega, rfl, by go_num, HNEXT.out, HYR.out _ (HBR.out.trans (HYB.out.mono HBR.out.size)), HB4.out⟩
                  case measure => simp [intOf]; omega
            · have e1 : (cx == cy) = false := by simpa using hc2
              have HLT := Lib.hid (fun h => by rcases HLX.out.1 h with h | h; exact hc1 h; exact hc2 h.1)
              rw [if_neg HLT.out] at HNEXT
              clear z0 z1 z2 z3 z4 z5 z6 z7 z8 z9 z10 hcj3
              go_wp2_with fail
              have hd1 : ¬ cx < cy := by omega
              have hd2 : ¬ cx = cy := by intro h; simp [h] at e1
              go_quiet (fail)
              go_wp2_with fail
              go_roundw
              case rel => exact ⟨j + 1, y, ba, bc, by omega, rfl, by go_num, HNEXT.out, HYR.out _ (HBR.out.trans (Go.Joins.below_draws _ _ _)), HB3.out.trans (Go.Joins.below_draws _ _ _)⟩
              case measure => simp [intOf]; omega
      · obtain rfl : j = s.safeL.length := by omega
        have HE := Lib.hid (HDN.out y HINV.out hn0)
        have HIY := Lib.hid hiy
        have HBW := Lib.hid (HW2.out.trans (hB.mono HW2.out.size))
        clear hinv hiy hB hcell0
        go_wp2_with fail
        go_ret2
        unfold RefMend
        exact ⟨.inr ⟨y, _, ba, bc, HE.out, rfl, HIY.out⟩, HBW.out⟩
end Go.Proofs.Ytajabapcmpmboaa
