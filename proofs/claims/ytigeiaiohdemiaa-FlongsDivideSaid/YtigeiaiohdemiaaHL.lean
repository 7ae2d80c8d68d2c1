/- Flongs: what the best shares say: mathematics. -/
import Derived.Test.YtigeiaiohdemiaaHK
import Derived.Test.YtigeiaiohdemiaaGP
namespace Go.Proofs.Ytigeiaiohdemiaa
set_option linter.unusedVariables false
set_option linter.unusedSimpArgs false
open Go.RowKit

theorem psum_snoc : ∀ (ms : List Mould) (z : List Int) (_ : z.length = ms.length) (m : Mould) (v : Int) (p : Nat), psum (ms ++ [m]) (z ++ [v]) p = psum ms z p + (if m.p = (p : Int) then v else 0)
  | [], [], _, m, v, p => by simp [psum]
  | [], _ :: _, h, _, _, _ => by simp at h
  | _ :: _, [], h, _, _, _ => by simp at h
  | a :: ms, b :: z, h, m, v, p => by
    have ih := psum_snoc ms z (by simpa using h) m v p
    simp only [List.cons_append, psum, ih]
    omega
theorem psum_next {ms : List Mould} {x : List Int} (hl : x.length = ms.length) {k : Nat} (hk : k < ms.length) (hk2 : k < x.length) (p : Nat) : psum (ms.take (k + 1)) (x.take (k + 1)) p = psum (ms.take k) (x.take k) p + (if ms[k].p = (p : Int) then x[k] else 0) := by
  rw [List.take_succ_eq_append_getElem hk, List.take_succ_eq_append_getElem hk2]
  exact psum_snoc _ _ (by rw [List.length_take, List.length_take, hl]) _ _ _
def cL (c : Nat → Int) (n : Nat) : List Int := (List.range n).map c
theorem cL_len (c : Nat → Int) (n : Nat) : (cL c n).length = n := by simp [cL]
theorem cL_get (c : Nat → Int) (n i : Nat) (h : i < (cL c n).length) : (cL c n)[i] = c i := by simp [cL]
theorem sum_psum (ms : List Mould) (c : Nat → Int) (p : Nat) : ∀ k, k ≤ ms.length → sumTo ms c p k = psum (ms.take k) ((cL c ms.length).take k) p
  | 0, _ => by simp [sumTo, psum]
  | k + 1, hk => by
    have hk2 : k < ms.length := by omega
    have hk3 : k < (cL c ms.length).length := by rw [cL_len]; exact hk2
    rw [sumTo_next hk2, psum_next (cL_len c ms.length) hk2 hk3, sum_psum ms c p k (by omega), cL_get]
    split <;> omega
theorem sumOf_psum (ms : List Mould) (c : Nat → Int) (p : Nat) : sumOf ms c p = psum ms (cL c ms.length) p := by
  have h := sum_psum ms c p ms.length (Nat.le_refl _)
  rw [List.take_of_length_le (Nat.le_refl _), List.take_of_length_le (by rw [cL_len]; exact Nat.le_refl _)] at h
  exact h
theorem psum_mono : ∀ (ms : List Mould) (x y : List Int) (_ : x.length = y.length) (_ : ∀ i (h : i < x.length) (h2 : i < y.length), x[i] ≤ y[i]) (p : Nat), psum ms x p ≤ psum ms y p
  | [], _, _, _, _, _ => by simp [psum]
  | _ :: _, [], [], _, _, _ => by simp [psum]
  | _ :: _, [], _ :: _, h, _, _ => by simp at h
  | _ :: _, _ :: _, [], h, _, _ => by simp at h
  | m :: ms, a :: x, b :: y, h, hh, p => by
    have ih := psum_mono ms x y (by simpa using h) (fun i h1 h2 => by have := hh (i + 1) (by simpa using h1) (by simpa using h2); simpa using this) p
    have h0 := hh 0 (by simp) (by simp)
    simp only [List.getElem_cons_zero] at h0
    simp only [psum]
    split <;> omega
theorem psum_zero : ∀ (ms : List Mould) (z : List Int) (n : Nat) (_ : z.length = ms.length) (_ : ∀ m ∈ ms, 0 ≤ m.p ∧ m.p < (n : Int)) (_ : ∀ i (h : i < z.length), 0 ≤ z[i] ∧ z[i] ≤ 12) (_ : ∀ p, p < n → psum ms z p = 0), ∀ i (h : i < z.length), z[i] = 0
  | [], z, n, hl, _, _, _, i, h => by simp at hl; subst hl; simp at h
  | m :: ms, [], n, hl, _, _, _, i, h => by simp at h
  | m :: ms, v :: z, n, hl, hp, hb, hs, i, h => by
    have hb' : ∀ i (h : i < z.length), 0 ≤ z[i] ∧ z[i] ≤ 12 := fun i h => by have := hb (i + 1) (by simpa using h); simpa using this
    have hv := hb 0 (by simp)
    simp only [List.getElem_cons_zero] at hv
    have hnn := fun p => fits_iff.psum_nn ms z p hb'
    have he : ∀ p, psum (m :: ms) (v :: z) p = (if m.p = (p : Int) then v else 0) + psum ms z p := fun p => rfl
    obtain ⟨hp0, hp1⟩ := hp m (by simp)
    obtain ⟨q, hq⟩ : ∃ q : Nat, m.p = (q : Int) := ⟨m.p.toNat, by omega⟩
    have hq2 := hs q (by omega)
    rw [he, if_pos hq] at hq2
    have hq3 := hnn q
    cases i with
    | zero => simp only [List.getElem_cons_zero]; omega
    | succ i =>
      simp only [List.getElem_cons_succ]
      refine psum_zero ms z n (by simpa using hl) (fun a ha => hp a (by simp [ha])) hb' (fun p hpn => ?_) i (by simpa using h)
      have h1 := hs p hpn
      rw [he] at h1
      have h2 := hnn p
      by_cases e : m.p = (p : Int)
      · rw [if_pos e] at h1; omega
      · rw [if_neg e] at h1; omega

/-- What the reference says is spared. -/
def farTo (g : Nat → Int) (x : List Int) (k : Nat) : Int := (x.zipIdx.take k).foldl (fun a q => if 0 < q.1 then min a (g q.2 - q.1) else a) 1000
def farOf (g : Nat → Int) (x : List Int) : Int := farTo g x x.length
theorem farTo_next {g : Nat → Int} {x : List Int} {k : Nat} (h : k < x.length) : farTo g x (k + 1) = if 0 < x[k] then min (farTo g x k) (g k - x[k]) else farTo g x k := by
  unfold farTo
  rw [List.take_succ_eq_append_getElem (by simpa using h), List.foldl_append, List.getElem_zipIdx, Nat.zero_add]; rfl
theorem spared_far (g : Nat → Int) (x : List Int) : ∀ k, k ≤ x.length → sparedTo g x k = min 12 (farTo g x k)
  | 0, _ => rfl
  | k + 1, hk => by
    have hk2 : k < x.length := by omega
    rw [sparedTo_next hk2, farTo_next hk2, spared_far g x k (by omega)]
    split <;> omega
theorem far_le {g : Nat → Int} {x : List Int} : ∀ k, k ≤ x.length → ∀ i (_ : i < k) (h : i < x.length), 0 < x[i] → farTo g x k ≤ g i - x[i]
  | k + 1, hk, i, hi, h, h0 => by
    have hk2 : k < x.length := by omega
    rw [farTo_next hk2]
    by_cases e : i = k
    · subst e; rw [if_pos h0]; omega
    · have := far_le (g := g) k (by omega) i (by omega) h h0
      split <;> omega
theorem far_ge {g : Nat → Int} {x : List Int} (c : Int) (hc : c ≤ 1000) (h : ∀ i (h : i < x.length), 0 < x[i] → c ≤ g i - x[i]) : ∀ k, k ≤ x.length → c ≤ farTo g x k
  | 0, _ => hc
  | k + 1, hk => by
    have hk2 : k < x.length := by omega
    rw [farTo_next hk2]
    have := far_ge c hc h k (by omega)
    by_cases e : 0 < x[k]
    · rw [if_pos e]; have := h k hk2 e; omega
    · rw [if_neg e]; exact this
theorem far_bd {g : Nat → Int} (hg : ∀ t, 0 ≤ g t ∧ g t ≤ 12) {x : List Int} (hx : ∀ i (h : i < x.length), 0 ≤ x[i] ∧ x[i] ≤ 12) (k : Nat) (hk : k ≤ x.length) : -12 ≤ farTo g x k ∧ farTo g x k ≤ 1000 := by
  refine ⟨far_ge (-12) (by omega) (fun i h _ => by have := hg i; have := hx i h; omega) k hk, ?_⟩
  induction k with
  | zero => exact Int.le_refl _
  | succ k ih =>
    have := ih (by omega)
    rw [farTo_next (by omega)]
    split <;> omega
theorem spared_nn {g : Nat → Int} (hg : ∀ t, 0 ≤ g t ∧ g t ≤ 12) {x : List Int} : 0 ≤ sparedOf g x ↔ ∀ i (h : i < x.length), x[i] ≤ g i := by
  unfold sparedOf
  rw [spared_far g x _ (Nat.le_refl _)]
  constructor
  · intro h i hi
    have := hg i
    by_cases h0 : 0 < x[i]
    · have := far_le (g := g) x.length (Nat.le_refl _) i hi hi h0; omega
    · omega
  · intro h
    have := far_ge (g := g) (x := x) 0 (by omega) (fun i hi _ => by have := h i hi; omega) x.length (Nat.le_refl _)
    omega

theorem lo_broken {s : FShop} (ho : s.ok = true) (h0 : 0 < s.left.length) {m : Nat} (hm : m < s.moulds.length) : loOf s.left m ≤ s.moulds[m].most := by
  unfold Mould.most
  split
  · rename_i hb
    obtain ⟨c, hc, e⟩ := lo_att h0 m
    unfold FShop.left FShop.agreeing at hc
    obtain ⟨x, hx, rfl⟩ := List.mem_map.1 hc
    obtain ⟨hx1, hx2⟩ := List.mem_filter.1 hx
    obtain ⟨j, hj, rfl⟩ := List.mem_iff_getElem.1 hx1
    have hl := (FShop.ok_world ho j hj).1
    have h3 := agree_iff.1 hx2 m hm (by omega)
    rw [e, cst_at hm (by omega)]
    unfold agM at h3
    simp only [Bool.and_eq_true, Bool.or_eq_true, decide_eq_true_eq] at h3
    rcases h3.2 with h5 | h5
    · exact absurd hb h5
    · omega
  · exact (lo_bd ho m).2
theorem new_zero {s : FShop} (ho : s.ok = true) : s.newAll = 0 ↔ ∀ p (h : p < s.wants.length), s.wants[p] ≤ sumOf s.moulds (loOf s.left) p := by
  have hf := (FShop.ok_fresh ho).1
  have hk : ∀ k, k ≤ s.wants.length → (newTo s k = 0 ↔ ∀ p (h : p < s.wants.length), p < k → s.wants[p] ≤ sumOf s.moulds (loOf s.left) p) := by
    intro k
    induction k with
    | zero => intro _; exact ⟨fun _ p _ h => by omega, fun _ => rfl⟩
    | succ k ih =>
      intro hk
      have hk2 : k < s.wants.length := by omega
      have ih' := ih (by omega)
      have hb := (newTo_bd ho k (by omega)).1
      rw [newTo_next hk2]
      have e : newFor s s.wants[k] k = ceilF (s.wants[k] - sumOf s.moulds (loOf s.left) k) s.fresh := rfl
      have hge := ceil_ge (x := s.wants[k] - sumOf s.moulds (loOf s.left) k) hf
      rw [e]
      constructor
      · intro h p hp hpk
        have h1 : newTo s k = 0 := by omega
        have h2 : ceilF (s.wants[k] - sumOf s.moulds (loOf s.left) k) s.fresh = 0 := by omega
        by_cases ep : p = k
        · subst ep
          by_cases h3 : s.wants[p] ≤ sumOf s.moulds (loOf s.left) p
          · exact h3
          · have h4 := ceil_step (x := s.wants[p] - sumOf s.moulds (loOf s.left) p) (by omega) hf
            have h5 := ceil_ge (x := s.wants[p] - sumOf s.moulds (loOf s.left) p - s.fresh) hf
            omega
        · exact ih'.1 h1 p hp (by omega)
      · intro h
        have h1 := ih'.2 (fun p hp hpk => h p hp (by omega))
        have h2 := ceil_end (x := s.wants[k] - sumOf s.moulds (loOf s.left) k) (by have := h k hk2 (by omega); omega) hf
        omega
  have h := hk s.wants.length (Nat.le_refl _)
  unfold FShop.newAll
  rw [h]
  exact ⟨fun h p hp => h p hp hp, fun h p hp _ => h p hp⟩
theorem just_psum {s : FShop} (ho : s.ok = true) {x : List Int} (hx : x ∈ s.justs) (p : Nat) (hp : p < s.wants.length) : psum s.moulds x p = s.wants[p] := by
  have h := (for_iff ho).2 hx
  unfold forB at h
  rw [Bool.and_eq_true, List.all_eq_true] at h
  have := h.2 p (List.mem_range.2 hp)
  rwa [decide_eq_true_eq, List.getElem?_eq_getElem hp] at this
theorem hold_lo {s : FShop} (h0 : 0 < s.left.length) {x : List Int} : holdN s.left x = s.left.length ↔ ∀ i (h : i < x.length), x[i] ≤ loOf s.left i := by rw [hold_fails h0, fails_nil]

/-- What Divide and Bold find. -/
structure Found (s : FShop) : Prop where
  new : s.divide.isSome = decide (s.newAll = 0)
  div : ∀ d, s.divide = some d → d ∈ s.justs ∧ holdN s.left d = s.left.length
  none : s.bold = none → s.justs = []
  bold : ∀ b, s.bold = some b → b ∈ s.justs ∧ (∀ x ∈ s.justs, holdN s.left x ≤ holdN s.left b ∧ (holdN s.left x = holdN s.left b → earlB x b = false)) ∧ (holdN s.left b = s.left.length ↔ s.divide.isSome = true)
  far : ∀ d x, s.divide = some d → x ∈ s.justs → holdN s.left x = s.left.length → farOf (loOf s.left) x ≤ farOf (loOf s.left) d ∧ (farOf (loOf s.left) x < farOf (loOf s.left) d ∨ earlB x d = false)
  some : ∀ x, x ∈ s.justs → holdN s.left x = s.left.length → s.divide.isSome = true
theorem found {s : FShop} (ho : s.ok = true) (h0 : 0 < s.left.length) : Found s := by
  have hg : ∀ t, 0 ≤ loOf s.left t ∧ loOf s.left t ≤ 12 := lo_bd ho
  have hnn : ∀ x, 0 ≤ sparedOf (loOf s.left) x ↔ holdN s.left x = s.left.length := fun x => (spared_nn hg).trans (hold_lo h0).symm
  have hsort : s.justs.Pairwise fun a b => earlB a b = true := justs_sorted _ _ _
  have hP : ∀ m ∈ s.moulds, 0 ≤ m.p ∧ m.p < (s.wants.length : Int) := fun m hm => by
    obtain ⟨i, hi, rfl⟩ := List.mem_iff_getElem.1 hm
    have := (FShop.ok_mould ho i hi).1; omega
  have hsome : ∀ x, x ∈ s.justs → holdN s.left x = s.left.length → s.divide.isSome = true := fun x hx hh => by
    unfold FShop.divide
    rcases best_ind (sparedOf (loOf s.left)) (fun a b => earlB a b = true) s.justs with ⟨-, h2⟩ | ⟨y, h1, h2, h3⟩
    · rw [h2] at hx; simp at hx
    · rw [h1]
      have h4 := (hnn x).2 hh
      have h5 := (h3 x hx).1
      simp only
      rw [if_neg (by omega)]
      rfl
  have hdiv : ∀ d, s.divide = some d → d ∈ s.justs ∧ holdN s.left d = s.left.length ∧ ∀ x ∈ s.justs, sparedOf (loOf s.left) x ≤ sparedOf (loOf s.left) d ∧ (sparedOf (loOf s.left) x = sparedOf (loOf s.left) d → x = d ∨ earlB d x = true) := fun d hd => by
    unfold FShop.divide at hd
    rcases best_ind (sparedOf (loOf s.left)) (fun a b => earlB a b = true) s.justs with ⟨h1, -⟩ | ⟨y, h1, h2, h3⟩
    · rw [h1] at hd; simp at hd
    · rw [h1] at hd
      simp only at hd
      by_cases hm : sparedOf (loOf s.left) y < 0
      · rw [if_pos hm] at hd; simp at hd
      · rw [if_neg hm] at hd
        injection hd with hd
        subst hd
        exact ⟨h2, (hnn y).1 (by omega), fun x hx => ⟨(h3 x hx).1, (h3 x hx).2 hsort⟩⟩
  have hle : ∀ x, holdN s.left x ≤ s.left.length := fun x => List.countP_le_length
  refine ⟨?_, fun d hd => ⟨(hdiv d hd).1, (hdiv d hd).2.1⟩, fun hb => ?_, fun b hb => ?_, fun d x hd hx hh => ?_, hsome⟩
  · rw [Bool.eq_iff_iff, decide_eq_true_eq, new_zero ho]
    constructor
    · intro hs p hp
      obtain ⟨d, hd⟩ := Option.isSome_iff_exists.1 hs
      obtain ⟨h1, h2, -⟩ := hdiv d hd
      rw [sumOf_psum, ← just_psum ho h1 p hp]
      have hl := (shares_bd (just_shares h1)).1
      exact psum_mono _ _ _ (by rw [cL_len]; exact hl) (fun i h3 h4 => by rw [cL_get]; exact (hold_lo h0).1 h2 i h3) p
    · intro hw
      obtain ⟨z, h1, h2, h3⟩ := greedy s.moulds s.wants (cL (loOf s.left) s.moulds.length) (cL_len _ _) hP (fun c hc => by
        obtain ⟨i, hi, rfl⟩ := List.mem_iff_getElem.1 hc
        exact (FShop.ok_want ho i hi).1) (fun i h4 h5 => by rw [cL_get]; exact ⟨(hg i).1, lo_broken ho h0 h4⟩) (fun p hp => by rw [← sumOf_psum]; exact hw p hp)
      refine hsome z ((justs_fits _ _ _ _).2 ⟨z, by simp, h1⟩) ((hold_lo h0).2 fun i hi => ?_)
      have := h3 i hi (by rw [cL_len]; omega)
      rwa [cL_get] at this
  · unfold FShop.bold at hb
    rcases best_ind (fun x => (holdN s.left x : Int)) (fun a b => earlB a b = true) s.justs with ⟨-, h2⟩ | ⟨y, h1, -, -⟩
    · exact h2
    · rw [h1] at hb; simp at hb
  · unfold FShop.bold at hb
    rcases best_ind (fun x => (holdN s.left x : Int)) (fun a b => earlB a b = true) s.justs with ⟨h1, -⟩ | ⟨y, h1, h2, h3⟩
    · rw [h1] at hb; simp at hb
    · rw [h1] at hb
      simp at hb
      subst hb
      refine ⟨h2, fun x hx => ⟨by have := (h3 x hx).1; omega, fun e => ?_⟩, ?_⟩
      · rcases (h3 x hx).2 hsort (by omega) with rfl | h
        · exact earl_irr _
        · exact earl_asym _ _ h
      · constructor
        · exact fun hh => hsome y h2 hh
        · intro hs
          obtain ⟨d, hd⟩ := Option.isSome_iff_exists.1 hs
          obtain ⟨h4, h5, -⟩ := hdiv d hd
          have := (h3 d h4).1
          have h6 := hle y
          omega
  · obtain ⟨h1, h2, h3⟩ := hdiv d hd
    have hxs := shares_bd (just_shares hx)
    have hds := shares_bd (just_shares h1)
    have hpos : ∀ y, y ∈ s.justs → (∃ i, ∃ h : i < y.length, 0 < y[i]) → holdN s.left y = s.left.length → farOf (loOf s.left) y = sparedOf (loOf s.left) y := fun y hy ⟨i, hi, h⟩ hh => by
      unfold farOf sparedOf
      rw [spared_far _ _ _ (Nat.le_refl _)]
      have h4 := far_le (g := loOf s.left) y.length (Nat.le_refl _) i hi hi h
      have := hg i
      omega
    have hzero : ∀ y z, y ∈ s.justs → z ∈ s.justs → (∀ i (h : i < y.length), y[i] = 0) → ∀ i (h : i < z.length), z[i] = 0 := fun y z hy hz h0' => by
      have hys := shares_bd (just_shares hy)
      have hzs := shares_bd (just_shares hz)
      refine psum_zero s.moulds z s.wants.length hzs.1 hP hzs.2 fun p hp => ?_
      rw [just_psum ho hz p hp, ← just_psum ho hy p hp]
      have e : psum s.moulds y p ≤ psum s.moulds (cL (fun _ => 0) s.moulds.length) p := psum_mono _ _ _ (by rw [cL_len]; exact hys.1) (fun i h4 h5 => by rw [cL_get, h0' i h4]; exact Int.le_refl _) p
      have e2 : psum s.moulds (cL (fun _ => 0) s.moulds.length) p ≤ psum s.moulds y p := psum_mono _ _ _ (by rw [cL_len]; exact hys.1.symm) (fun i h4 h5 => by rw [cL_get, h0' i h5]; exact Int.le_refl _) p
      have e3 : sumOf s.moulds (fun _ => 0) p = psum s.moulds (cL (fun _ => 0) s.moulds.length) p := sumOf_psum _ _ _
      have e4 : 0 ≤ sumOf s.moulds (fun _ => 0) p ∧ sumOf s.moulds (fun _ => 0) p ≤ 0 := by
        unfold sumOf
        have : ∀ k, k ≤ s.moulds.length → sumTo s.moulds (fun _ => 0) p k = 0 := fun k => by
          induction k with
          | zero => intro _; rfl
          | succ k ih => intro hk; rw [sumTo_next (by omega), ih (by omega)]; simp
        rw [this _ (Nat.le_refl _)]; omega
      omega
    by_cases hz : ∃ i, ∃ h : i < x.length, 0 < x[i]
    · have hz2 : ∃ i, ∃ h : i < d.length, 0 < d[i] := by
        by_cases hc : ∃ i, ∃ h : i < d.length, 0 < d[i]
        · exact hc
        · obtain ⟨i, hi, h⟩ := hz
          have := hzero d x h1 hx (fun j hj => by
            have := (hds.2 j hj).1
            by_cases e : 0 < d[j]
            · exact absurd ⟨j, hj, e⟩ hc
            · omega) i hi
          omega
      rw [hpos x hx hz hh, hpos d h1 hz2 h2]
      refine ⟨(h3 x hx).1, ?_⟩
      by_cases e : sparedOf (loOf s.left) x = sparedOf (loOf s.left) d
      · refine .inr ?_
        rcases (h3 x hx).2 e with rfl | h
        · exact earl_irr _
        · exact earl_asym _ _ h
      · have := (h3 x hx).1
        exact .inl (by omega)
    · have hx0 : ∀ i (h : i < x.length), x[i] = 0 := fun i hi => by
        have := (hxs.2 i hi).1
        by_cases e : 0 < x[i]
        · exact absurd ⟨i, hi, e⟩ hz
        · omega
      have hd0 := hzero x d hx h1 hx0
      have e : x = d := List.ext_getElem (by rw [hxs.1, hds.1]) fun i h4 h5 => by rw [hx0 i h4, hd0 i h5]
      rw [e]
      exact ⟨Int.le_refl _, .inr (earl_irr _)⟩
end Go.Proofs.Ytigeiaiohdemiaa
