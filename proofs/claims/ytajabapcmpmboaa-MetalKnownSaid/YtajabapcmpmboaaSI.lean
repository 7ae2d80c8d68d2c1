/- MetalCheapest: the cheapest addition is the first of its kind. -/
import Derived.Test.YtajabapcmpmboaaMA
import Derived.Test.YtajabapcmpmboaaME
import Derived.Test.YtajabapcmpmboaaSH
import Derived.Test.YtajabapcmpmboaaPA
namespace Go.Proofs.Ytajabapcmpmboaa
set_option linter.unusedVariables false
set_option linter.unusedSimpArgs false
open Go.RowKit

def earlierB : List Int → List Int → Bool
  | a :: x, b :: y => if a = b then earlierB x y else decide (a < b)
  | _, _ => false
theorem earlierB_self : ∀ x : List Int, earlierB x x = false
  | [] => rfl
  | a :: x => by simp [earlierB, earlierB_self x]
theorem earlierB_asym : ∀ {x y : List Int}, earlierB x y = true → earlierB y x = false
  | [], _, h => by simp [earlierB] at h
  | _ :: _, [], h => by simp [earlierB] at h
  | a :: x, b :: y, h => by
    simp only [earlierB] at h ⊢
    by_cases e : a = b
    · rw [if_pos e] at h; rw [if_pos e.symm]; exact earlierB_asym h
    · rw [if_neg e] at h; rw [if_neg (fun k => e k.symm)]; have := of_decide_eq_true h; exact decide_eq_false (by omega)
theorem allL_sorted : ∀ ms : List Int, (allL ms).Pairwise fun x y => earlierB x y = true
  | [] => by simp [allL]
  | m :: ms => by
    simp only [allL]
    rw [List.pairwise_flatMap]
    refine ⟨fun n _ => ?_, ?_⟩
    · rw [List.pairwise_map]
      exact (allL_sorted ms).imp fun h => by simpa [earlierB] using h
    · refine List.pairwise_lt_range.imp fun {a b} h x hx y hy => ?_
      obtain ⟨x', _, rfl⟩ := List.mem_map.1 hx
      obtain ⟨y', _, rfl⟩ := List.mem_map.1 hy
      simp only [earlierB]
      rw [if_neg (by omega)]
      exact decide_eq_true (by omega)

set_option maxHeartbeats 1000000 in
theorem Earlier_any (xa : Option Addr) (xc : Nat) (ya : Option Addr) (yc n : Nat) (x y : List Int) (w : World) (hx : IntsAt w xa n x) (hy : IntsAt w ya n y) :
    Calls Try.prog 59 #[.slice xa n xc, .slice ya n yc] w fun e w' => e = .returned (.bool (earlierB x y)) ∧ Below w.heap.size w w' := by
  obtain ⟨hxl, hxm, hxc⟩ := hx
  obtain ⟨hyl, _, hyc⟩ := hy
  unfold maxLen at hxm
  rcases Nat.eq_zero_or_pos n with h0 | h0
  · subst h0
    obtain rfl : x = [] := List.length_eq_zero_iff.1 hxl
    have HS := Lib.hid (show earlierB [] y = false from rfl)
    clear hxl hyl hxc hyc
    go_enter Try.func59, Try.ntmps59
    go_wp2
    go_loopw [5] (fun i wr => i = .int .i64 0 ∧ Below w.heap.size w wr) (fun _ _ => 0)
    case atStart => exact ⟨rfl, Below.refl _ _⟩
    case round =>
      obtain ⟨rfl, hB⟩ := hrel
      go_wp2
      go_ret
      exact ⟨ret_bool HS.out.symm, hB⟩
  · obtain ⟨xb, xo, rfl, hxB, hxcell⟩ := hxc h0
    obtain ⟨yb, yo, rfl, hyB, hycell⟩ := hyc h0
    have HX := Lib.hid hxl
    have HY := Lib.hid hyl
    clear hxl hyl hxc hyc
    obtain ⟨r, hr⟩ : ∃ r, earlierB x y = r := ⟨_, rfl⟩
    have HR := Lib.hid hr
    clear hr
    go_enter Try.func59, Try.ntmps59
    go_wp2
    go_loopw [5] (fun i wr => ∃ k : Nat, k ≤ n ∧ i = .int .i64 k ∧ earlierB (x.drop k) (y.drop k) = r ∧ Below w.heap.size w wr) (fun i _ => n - (intOf i).toNat)
    case atStart => exact ⟨0, by omega, rfl, HR.out, Below.refl _ _⟩
    case round =>
      obtain ⟨k, hk, rfl, hsm, hB⟩ := hrel
      by_cases hlt : k < n
      · have hk2 : k < x.length := by rw [HX.out]; exact hlt
        have hk3 : k < y.length := by rw [HY.out]; exact hlt
        rw [List.drop_eq_getElem_cons hk2, List.drop_eq_getElem_cons hk3] at hsm
        have cx := (hB.cell (p := ⟨xb, _, none⟩) hxB).trans (hxcell k hk2)
        have cy := (hB.cell (p := ⟨yb, _, none⟩) hyB).trans (hycell k hk3)
        have hkl : (k : Int) < (n : Int) := by omega
        simp only [earlierB] at hsm
        by_cases he : x[k] = y[k]
        · rw [if_pos he] at hsm
          have HSM := Lib.hid hsm; clear hsm
          rw [← he] at cy
          clear he
          generalize x[k] = v at *
          go_wp2_with fail
          go_quiet (fail)
          go_wp2_with fail
          go_roundw
          case rel => exact ⟨k + 1, by omega, by go_num, HSM.out, hB.trans (Go.Joins.below_draws _ _ _)⟩
          case measure => simp [intOf]; omega
        · rw [if_neg he] at hsm
          have HSM := Lib.hid hsm; clear hsm
          have e1 : (x[k] == y[k]) = false := by simpa using he
          have e2 : (x[k] != y[k]) = true := by simpa using he
          clear he
          generalize x[k] = v at *
          generalize y[k] = u at *
          go_wp2_with fail
          go_quiet (fail)
          go_wp2_with fail
          go_quiet (fail)
          go_wp2_with fail
          go_ret
          exact ⟨ret_bool (HSM.out.trans HR.out.symm), (hB.trans (Go.Joins.below_draws _ _ _)).trans (Go.Joins.below_draws _ _ _)⟩
      · have hk' : k = n := by omega
        subst hk'
        rw [List.drop_eq_nil_of_le (by rw [HX.out]; exact Nat.le_refl _)] at hsm
        have HSM := Lib.hid (show r = false from hsm.symm); clear hsm
        go_wp2
        go_ret
        exact ⟨ret_bool (HSM.out.symm.trans HR.out.symm), hB⟩

/-- The first of all that are the least, in a list that rises. -/
def FirstSpec (s : Shop) (f : List Int → Int) (l : List (List Int)) (o : Option (List Int × Int)) : Prop :=
  ∀ y m, o = some (y, m) → y ∈ l ∧ m = f y ∧ ∀ x ∈ l, s.safeOf x = 1 → m < f x ∨ m = f x ∧ (x = y ∨ earlierB y x = true)
theorem first_spec (s : Shop) (f : List Int → Int) (l : List (List Int)) (hl : l.Pairwise fun x y => earlierB x y = true) : FirstSpec s f l (bestOf s f l) := by
  have key : ∀ (r pre : List (List Int)) (o : Option (List Int × Int)), (pre ++ r).Pairwise (fun x y => earlierB x y = true) → (o = none → ∀ x ∈ pre, s.safeOf x ≠ 1) → FirstSpec s f pre o → FirstSpec s f (pre ++ r) (r.foldl (stepBest s f) o) := by
    intro r
    induction r with
    | nil => intro pre o _ _ h; simpa using h
    | cons x r ih =>
      intro pre o hp hn h
      rw [List.foldl_cons, show pre ++ x :: r = (pre ++ [x]) ++ r by simp]
      rw [show pre ++ x :: r = (pre ++ [x]) ++ r by simp] at hp
      have hlast : ∀ z ∈ pre, earlierB z x = true := fun z hz => (List.pairwise_append.1 (List.pairwise_append.1 hp).1).2.2 z hz x (by simp)
      unfold stepBest
      by_cases hx : s.safeOf x = 1
      · rw [if_pos hx]
        rcases o with - | ⟨y, m⟩
        · refine ih _ _ hp (by simp) ?_
          intro y m e
          cases e
          refine ⟨by simp, rfl, fun z hz hz1 => ?_⟩
          rcases List.mem_append.1 hz with hz | hz
          · exact absurd hz1 (hn rfl z hz)
          · exact .inr ⟨by rw [List.mem_singleton.1 hz], .inl (List.mem_singleton.1 hz)⟩
        · obtain ⟨hy, hm, hall⟩ := h y m rfl
          simp only
          split
          · rename_i hlt
            refine ih _ _ hp (by simp) ?_
            intro y' m' e
            cases e
            refine ⟨by simp, rfl, fun z hz hz1 => ?_⟩
            rcases List.mem_append.1 hz with hz | hz
            · rcases hall z hz hz1 with h | ⟨h, _⟩ <;> exact .inl (by omega)
            · exact .inr ⟨by rw [List.mem_singleton.1 hz], .inl (List.mem_singleton.1 hz)⟩
          · rename_i hlt
            refine ih _ _ hp (by simp) ?_
            intro y' m' e
            cases e
            refine ⟨List.mem_append_left _ hy, hm, fun z hz hz1 => ?_⟩
            rcases List.mem_append.1 hz with hz | hz
            · exact hall z hz hz1
            · rw [List.mem_singleton.1 hz]
              by_cases e : m < f x
              · exact .inl e
              · exact .inr ⟨by omega, .inr (hlast y hy)⟩
      · rw [if_neg hx]
        refine ih _ _ hp (fun e z hz => ?_) ?_
        · rcases List.mem_append.1 hz with hz | hz
          · exact hn e z hz
          · rw [List.mem_singleton.1 hz]; exact hx
        · intro y m e
          obtain ⟨hy, hm, hall⟩ := h y m e
          refine ⟨List.mem_append_left _ hy, hm, fun z hz hz1 => ?_⟩
          rcases List.mem_append.1 hz with hz | hz
          · exact hall z hz hz1
          · rw [List.mem_singleton.1 hz] at hz1; exact absurd hz1 hx
  exact key l [] none (by simpa using hl) (fun _ _ h => by cases h) (fun _ _ e => by cases e)
theorem adds_sorted (s : Shop) : s.adds.Pairwise fun x y => earlierB x y = true := (allL_sorted s.most).filter _

/-- An addition is one of the list. -/
theorem mem_allP : ∀ (ps : List Pig) (x : List Int), x.length = ps.length → ((ps.zip x).all fun q => btw q.2 0 q.1.m) = true → x ∈ allL (ps.map Pig.m)
  | [], [], _, _ => by simp [allL]
  | [], _ :: _, h, _ => by simp at h
  | _ :: _, [], h, _ => by simp at h
  | p :: ps, n :: x, h, hb => by
    simp only [List.zip_cons_cons, List.all_cons, Bool.and_eq_true, btw, decide_eq_true_eq] at hb
    simp only [List.map_cons, allL]
    refine List.mem_flatMap.2 ⟨n.toNat, List.mem_range.2 (by omega), List.mem_map.2 ⟨x, mem_allP ps x (by simpa using h) (by simpa [btw] using hb.2), ?_⟩⟩
    rw [Int.toNat_of_nonneg (by omega)]
theorem isAdd_mem {s : Shop} {x : List Int} (h : s.isAdd x = true) : x ∈ s.adds := by
  have h' := h
  simp only [Shop.isAdd, Bool.and_eq_true, decide_eq_true_eq] at h'
  exact List.mem_filter.2 ⟨mem_allP s.pigs x h'.1.1 h'.1.2, h'.2⟩
theorem mem_isAdd {s : Shop} (ho : s.ok = true) {x : List Int} (h : x ∈ s.adds) : s.isAdd x = true := Shop.isAdd_all ho (List.mem_filter.1 h).1 (List.mem_filter.1 h).2

theorem rising_F (p : Fin 4 → Bool) : risingB ((([0, 1, 2, 3] : List (Fin 4)).filter p).map fun i => (i.val : Int) + 1) 1 4 = true := by
  simp only [List.filter]
  cases p 0 <;> cases p 1 <;> cases p 2 <;> cases p 3 <;> rfl
/-- What Short has. -/
def Shop.shortL (s : Shop) : List Int := (s.shortF [0, 1, 2, 3]).map fun i => (i.val : Int) + 1
theorem short_rising (s : Shop) : risingB s.shortL 1 4 = true := rising_F _
theorem short_few (s : Shop) : s.shortL.length ≤ 4 := by
  unfold Shop.shortL Shop.shortF
  rw [List.length_map]; exact List.length_filter_le _ _
theorem keepsB_sure (s : Shop) (P tl th al ah : Int) : (∀ l ∈ [1, 2, 3, 4], keepsB s P tl th al ah l = true) ↔ safeI s P tl th al ah = 1 := by
  rw [safeI_1]
  simp only [List.mem_cons, List.not_mem_nil, or_false, forall_eq_or_imp, forall_eq, keepsB]
  simp only [if_true, show (2 : Int) ≠ 1 by decide, show (3 : Int) ≠ 1 by decide, show (3 : Int) ≠ 2 by decide, show (4 : Int) ≠ 1 by decide, show (4 : Int) ≠ 2 by decide, show (4 : Int) ≠ 3 by decide, if_false, decide_eq_true_eq]
  unfold allowLo allowHi
  generalize P * s.xl = a
  generalize P * s.xh = b
  generalize P * s.yl = c
  generalize P * s.yh = d
  constructor
  · rintro ⟨h1, h2, h3, h4⟩; omega
  · rintro ⟨⟨h1, h2⟩, h3, h4⟩; omega
theorem lim4 : ∀ i : Fin 4, ((i.val : Int) + 1) ∈ ([1, 2, 3, 4] : List Int) := by decide
theorem short_none {s : Shop} {y : List Int} (h1 : y ∈ s.adds) (h2 : s.safeOf y = 1) : s.shortL = [] := by
  unfold Shop.shortL Shop.shortF
  rw [List.map_eq_nil_iff, List.filter_eq_nil_iff]
  intro i _ he
  have he' : s.keepN s.adds i = 0 := eq_of_beq he
  have hk : s.keepsX y i = true := (keepsB_sure s _ _ _ _ _).2 h2 _ (lim4 i)
  have hc : 0 < s.adds.countP fun x => s.keepsX x i := List.countP_pos_iff.2 ⟨y, h1, hk⟩
  unfold Shop.keepN at he'
  omega

/-- What is known where nothing is safe. -/
theorem cheapest_no {s : Shop} (h : s.best 2 = none) : s.costN 0 = 100000 ∧ s.costN 1 = 100000 ∧ ∀ x ∈ s.adds, s.safeOf x ≠ 1 := by
  have hn : ∀ x ∈ s.adds, s.safeOf x ≠ 1 := by
    rcases best_spec s (askF 2 s) s.adds with ⟨-, h1⟩ | ⟨y, m, h1, -⟩
    · exact h1
    · have : s.best 2 = some (y, m) := h1
      rw [h] at this; cases this
  have h0 : ∀ f, s.best f = none := fun f => by
    rcases best_spec s (askF f s) s.adds with ⟨h1, -⟩ | ⟨y, m, -, h2, h3, -⟩
    · exact h1
    · exact absurd h3 (hn y h2)
  exact ⟨by simp [Shop.costN, h0], by simp [Shop.costN, h0], hn⟩
/-- What is known of the cheapest one. -/
structure Cheapest (s : Shop) (y : List Int) : Prop where
  add : s.isAdd y = true
  safe : s.safeOf y = 1
  cost : s.costN 0 = tot Pig.c s.pigs y
  cost0 : 0 ≤ s.costN 0 ∧ s.costN 0 < 100000
  tin : s.costN 1 ≤ tot Pig.t s.pigs y
  tin0 : 0 ≤ s.costN 1 ∧ s.costN 1 < 100000
  all : ∀ x, s.isAdd x = true → s.safeOf x = 1 → s.costN 0 ≤ tot Pig.c s.pigs x ∧ s.costN 1 ≤ tot Pig.t s.pigs x ∧ (s.costN 0 < tot Pig.c s.pigs x ∨ tot Pig.P s.pigs y < tot Pig.P s.pigs x ∨ tot Pig.P s.pigs x = tot Pig.P s.pigs y ∧ earlierB x y = false)
theorem cheapest_yes {s : Shop} (ho : s.ok = true) {y : List Int} {m : Int} (h : s.best 2 = some (y, m)) : Cheapest s y := by
  obtain ⟨hy, hm, hall⟩ := first_spec s (askF 2 s) s.adds (adds_sorted s) y m h
  have hys : s.safeOf y = 1 := by
    rcases best_spec s (askF 2 s) s.adds with ⟨h1, -⟩ | ⟨y', m', h1, -, h2, -⟩
    · have : s.best 2 = none := h1
      rw [h] at this; cases this
    · have : s.best 2 = some (y', m') := h1
      rw [h] at this; cases this; exact h2
  have hP : ∀ x ∈ s.adds, 0 ≤ tot Pig.P s.pigs x ∧ tot Pig.P s.pigs x ≤ 999 := fun x hx => by
    have hi := mem_isAdd ho hx
    have h1 := Shop.isAdd_room hi
    obtain ⟨hl, hf⟩ := Shop.isAdd_len hi
    have h2 := tot_all Pig.P bd_pounds s.pigs x (s.few x ho hf) rfl hl
    have h3 := Shop.ok_bd ho
    omega
  have hex : ∀ f : Nat, ∃ y' m', s.best f = some (y', m') ∧ y' ∈ s.adds ∧ s.safeOf y' = 1 ∧ m' = askF f s y' ∧ ∀ x ∈ s.adds, s.safeOf x = 1 → m' ≤ askF f s x := fun f => by
    rcases best_spec s (askF f s) s.adds with ⟨-, h1⟩ | ⟨y', m', h1, h2⟩
    · exact absurd hys (h1 y hy)
    · exact ⟨y', m', h1, h2⟩
  obtain ⟨y0, m0, b0, hy0, hs0, e0, l0⟩ := hex 0
  obtain ⟨y1, m1, b1, hy1, hs1, e1, l1⟩ := hex 1
  have c0 : s.costN 0 = m0 := by simp [Shop.costN, b0]
  have c1 : s.costN 1 = m1 := by simp [Shop.costN, b1]
  have f0 := cheap_fair ho b0
  have f1 := tin_fair ho b1
  have a0 : ∀ x, askF 0 s x = tot Pig.c s.pigs x := fun _ => rfl
  have a1 : ∀ x, askF 1 s x = tot Pig.t s.pigs x := fun _ => rfl
  have a2 : ∀ x, askF 2 s x = tot Pig.c s.pigs x * 1000 + tot Pig.P s.pigs x := fun _ => rfl
  have k0 := l0 y hy hys
  have k1 := l1 y hy hys
  have k2 := hall y0 hy0 hs0
  have py := hP y hy
  have py0 := hP y0 hy0
  rw [a0] at k0 e0
  rw [a1] at k1 e1
  have hc : s.costN 0 = tot Pig.c s.pigs y := by
    rw [c0]
    rw [hm, a2, a2] at k2
    rcases k2 with k2 | ⟨k2, -⟩ <;> omega
  refine ⟨mem_isAdd ho hy, hys, hc, by omega, by omega, by omega, fun x hx hs => ?_⟩
  have hxm := isAdd_mem hx
  have j0 := l0 x hxm hs
  have j1 := l1 x hxm hs
  have j2 := hall x hxm hs
  have px := hP x hxm
  rw [a0] at j0
  rw [a1] at j1
  rw [hm, a2, a2] at j2
  refine ⟨by omega, by omega, ?_⟩
  rcases j2 with j2 | ⟨j2, j3⟩
  · by_cases e : s.costN 0 < tot Pig.c s.pigs x
    · exact .inl e
    · exact .inr (.inl (by omega))
  · refine .inr (.inr ⟨by omega, ?_⟩)
    rcases j3 with rfl | j3
    · exact earlierB_self _
    · exact earlierB_asym j3
end Go.Proofs.Ytajabapcmpmboaa
