/- Flongs: mathematics of the reference's lists of shares. -/
import Derived.Test.YtigeiaiohdemiaaHM
namespace Go.Proofs.Ytigeiaiohdemiaa
set_option linter.unusedVariables false
set_option linter.unusedSimpArgs false
open Go.RowKit

theorem psum_app : ∀ (ms : List Mould) (z : List Int) (v : Int) (p : Nat) (h : z.length < ms.length), psum ms (z ++ [v]) p = psum ms z p + (if (ms[z.length]).p = (p : Int) then v else 0)
  | [], _, _, _, h => by simp at h
  | m :: ms, [], v, p, _ => by simp [psum]
  | m :: ms, u :: z, v, p, h => by
    have := psum_app ms z v p (by simpa using h)
    simp only [List.cons_append, psum, List.length_cons, List.getElem_cons_succ]
    omega
theorem psum_take {ms : List Mould} {z : List Int} (hl : z.length ≤ ms.length) {k : Nat} (hk : k < z.length) (hk2 : k < ms.length) (p : Nat) : psum ms (z.take (k + 1)) p = psum ms (z.take k) p + (if (ms[k]).p = (p : Int) then z[k] else 0) := by
  have hlen : (z.take k).length = k := by simp; omega
  have := psum_app ms (z.take k) z[k] p (by omega)
  rw [List.take_succ_eq_append_getElem hk, this]
  simp only [hlen]
/-- What some shares leave of the plates that are wanted. -/
def FShop.rest (s : FShop) (x : List Int) (p : Nat) : Int := s.wants[p]?.getD 0 - psum s.moulds x p
def FShop.curOf (s : FShop) (x : List Int) : List Int := (List.range s.wants.length).map fun p => s.rest x p
def FShop.justs2 (s : FShop) (x : List Int) : List (List Int) := justsF (s.moulds.drop x.length) (s.curOf x) x
theorem cur_len (s : FShop) (x : List Int) : (s.curOf x).length = s.wants.length := by simp [FShop.curOf]
theorem cur_get (s : FShop) (x : List Int) (p : Nat) (h : p < (s.curOf x).length) : (s.curOf x)[p] = s.rest x p := by simp [FShop.curOf]
theorem cur_get? (s : FShop) (x : List Int) (p : Nat) (h : p < s.wants.length) : (s.curOf x)[p]?.getD 0 = s.rest x p := by simp [FShop.curOf, h]
theorem rest_nil (s : FShop) (p : Nat) (h : p < s.wants.length) : s.rest [] p = s.wants[p] := by
  unfold FShop.rest; cases s.moulds <;> simp [psum, h]
theorem cur_nil (s : FShop) : s.curOf [] = s.wants := by
  refine List.ext_getElem (by simp [FShop.curOf]) fun i h1 h2 => ?_
  rw [cur_get, rest_nil s i h2]
theorem justs2_nil (s : FShop) : s.justs2 [] = s.justs := by unfold FShop.justs2 FShop.justs; rw [cur_nil]; rfl
theorem rest_app (s : FShop) (x : List Int) (v : Int) (h : x.length < s.moulds.length) (p : Nat) : s.rest (x ++ [v]) p = s.rest x p - (if (s.moulds[x.length]).p = (p : Int) then v else 0) := by
  unfold FShop.rest; rw [psum_app _ _ _ _ h]; omega
theorem cur_app (s : FShop) (x : List Int) (v : Int) (h : x.length < s.moulds.length) (p : Nat) (hp : (s.moulds[x.length]).p = (p : Int)) : s.curOf (x ++ [v]) = (s.curOf x).set p (s.rest x p - v) := by
  refine List.ext_getElem (by simp [FShop.curOf]) fun i h1 h2 => ?_
  rw [cur_get, rest_app s x v h, hp, List.getElem_set]
  by_cases e : p = i
  · subst e; rw [if_pos rfl, if_pos rfl]
  · rw [if_neg (by omega), if_neg e, cur_get]; omega
/-- The lists that begin with x, those of the first j numbers behind it. -/
def FShop.justs2To (s : FShop) (x : List Int) (j : Nat) : List (List Int) := (List.range j).flatMap fun (n : Nat) => s.justs2 (x ++ [(n : Int)])
theorem justs2To_next (s : FShop) (x : List Int) (j : Nat) : s.justs2To x (j + 1) = s.justs2To x j ++ s.justs2 (x ++ [(j : Int)]) := by
  unfold FShop.justs2To; rw [List.range_succ, List.flatMap_append]; simp
theorem justs2_step (s : FShop) (x : List Int) (h : x.length < s.moulds.length) (p : Nat) (hp : (s.moulds[x.length]).p = (p : Int)) (hpn : p < s.wants.length) (q : Nat) (hq : (min (s.moulds[x.length]).most (s.rest x p) + 1).toNat = q) : s.justs2 x = s.justs2To x q := by
  have e1 : s.moulds.drop x.length = s.moulds[x.length] :: s.moulds.drop (x.length + 1) := List.drop_eq_getElem_cons h
  unfold FShop.justs2 FShop.justs2To
  rw [e1]
  show (List.range (min (s.moulds[x.length]).most ((s.curOf x)[(s.moulds[x.length]).p.toNat]?.getD 0) + 1).toNat).flatMap _ = _
  have e2 : (s.moulds[x.length]).p.toNat = p := by rw [hp]; simp
  rw [e2, cur_get? s x p hpn, hq]
  congr 1
  funext n
  unfold FShop.justs2
  rw [cur_app s x n h p hp]
  simp
theorem justs2_end (s : FShop) (x : List Int) (h : x.length = s.moulds.length) (h0 : ∀ p, p < s.wants.length → 0 ≤ s.rest x p) : s.justs2 x = if ∃ p, p < s.wants.length ∧ s.rest x p ≠ 0 then [] else [x] := by
  unfold FShop.justs2
  rw [List.drop_eq_nil_of_le (by omega)]
  unfold justsF
  by_cases hc : ∃ p, p < s.wants.length ∧ s.rest x p ≠ 0
  · rw [if_pos hc, if_pos]
    obtain ⟨p, h1, h2⟩ := hc
    refine List.any_eq_true.2 ⟨s.rest x p, List.mem_map.2 ⟨p, List.mem_range.2 h1, rfl⟩, ?_⟩
    have := h0 p h1
    simp; omega
  · rw [if_neg hc, if_neg]
    intro ha
    obtain ⟨c, h1, h2⟩ := List.any_eq_true.1 ha
    obtain ⟨p, h3, rfl⟩ := List.mem_map.1 h1
    exact hc ⟨p, List.mem_range.1 h3, by simp at h2; omega⟩
theorem flatMap_bd {α : Type} (f : Nat → List α) (B : Nat) (h : ∀ n, (f n).length ≤ B) : ∀ j, ((List.range j).flatMap f).length ≤ j * B
  | 0 => by simp
  | j + 1 => by
    have := flatMap_bd f B h j
    have := h j
    rw [List.range_succ, List.flatMap_append, List.length_append, Nat.add_mul, show [j].flatMap f = f j by simp]
    omega
theorem justsF_bd : ∀ (ms : List Mould) (cur x : List Int), (justsF ms cur x).length ≤ 13 ^ ms.length
  | [], cur, x => by unfold justsF; split <;> simp
  | m :: ms, cur, x => by
    unfold justsF
    refine Nat.le_trans (flatMap_bd _ (13 ^ ms.length) (fun n => justsF_bd ms _ _) _) ?_
    rw [List.length_cons, Nat.pow_succ, Nat.mul_comm]
    refine Nat.mul_le_mul (Nat.le_refl _) ?_
    have := (Mould.most_bd m).2
    omega
theorem justs2_bd (s : FShop) (hm : s.moulds.length ≤ 5) (x : List Int) : (s.justs2 x).length ≤ 371293 := by
  refine Nat.le_trans (justsF_bd _ _ _) ?_
  have h : (s.moulds.drop x.length).length ≤ 5 := by rw [List.length_drop]; omega
  exact Nat.le_trans (Nat.pow_le_pow_right (by decide) h) (by decide)
theorem justs2To_bd (s : FShop) (hm : s.moulds.length ≤ 5) (x : List Int) (h : x.length < s.moulds.length) (j : Nat) (hj : j ≤ 13) : (s.justs2To x j).length ≤ 371293 := by
  refine Nat.le_trans (flatMap_bd _ (13 ^ 4) (fun n => ?_) j) (Nat.le_trans (Nat.mul_le_mul hj (Nat.le_refl _)) (by decide))
  refine Nat.le_trans (justsF_bd _ _ _) (Nat.pow_le_pow_right (by decide) ?_)
  rw [List.length_drop, List.length_append]; simp; omega
theorem justs2_len (s : FShop) (x y : List Int) (hx : x.length ≤ s.moulds.length) (h : y ∈ s.justs2 x) : y.length = s.moulds.length := by
  obtain ⟨z, rfl, hz⟩ := (justs_fits _ _ _ _).1 h
  have : ∀ (ms : List Mould) (cur z : List Int), fits ms cur z → z.length = ms.length := by
    intro ms
    induction ms with
    | nil => intro cur z h; rw [h.1]; rfl
    | cons m ms ih => rintro cur z ⟨n, z', rfl, -, h⟩; simp [ih _ _ h]
  have h1 := this _ _ _ hz
  rw [List.length_drop] at h1
  rw [List.length_append]; omega

/-- How the reference looks for the greatest: the first of those with the most, if that is at least 0. -/
def pickTo (f : List Int → Int) (xs : List (List Int)) : Nat → Int × Int
  | 0 => (-1, -1)
  | i + 1 => if (pickTo f xs i).2 < f (xs[i]?.getD []) then ((i : Int), f (xs[i]?.getD [])) else pickTo f xs i
theorem pickTo_next {f : List Int → Int} {xs : List (List Int)} {i : Nat} (h : i < xs.length) : pickTo f xs (i + 1) = if (pickTo f xs i).2 < f xs[i] then ((i : Int), f xs[i]) else pickTo f xs i := by
  simp [pickTo, h]
def pick (f : List Int → Int) (xs : List (List Int)) : Option (List Int) := if (pickTo f xs xs.length).1 < 0 then none else xs[(pickTo f xs xs.length).1.toNat]?
theorem pickTo_bd (f : List Int → Int) (xs : List (List Int)) (B : Int) (hB : -1 ≤ B) (hf : ∀ x ∈ xs, f x ≤ B) : ∀ i, i ≤ xs.length → -1 ≤ (pickTo f xs i).1 ∧ (pickTo f xs i).1 < max i 1 ∧ (pickTo f xs i).1 < xs.length ∧ -1 ≤ (pickTo f xs i).2 ∧ (pickTo f xs i).2 ≤ B
  | 0, _ => ⟨by simp [pickTo], by simp [pickTo], by simp [pickTo]; omega, by simp [pickTo], by simpa [pickTo] using hB⟩
  | i + 1, h => by
    obtain ⟨h1, h2, h3, h4, h5⟩ := pickTo_bd f xs B hB hf i (by omega)
    rw [pickTo_next (by omega)]
    have := hf xs[i] (List.getElem_mem _)
    split
    · refine ⟨?_, ?_, ?_, ?_, this⟩ <;> simp only <;> omega
    · exact ⟨h1, by omega, h3, h4, h5⟩
/-- The same as the program's. -/
theorem pick_best (f : List Int → Int) (xs : List (List Int)) : ∀ i, i ≤ xs.length →
    ((bestF f (xs.take i) = none ∧ i = 0) ∨ ∃ y m, bestF f (xs.take i) = some (y, m) ∧ ((m < 0 ∧ pickTo f xs i = (-1, -1)) ∨ (0 ≤ m ∧ (pickTo f xs i).2 = m ∧ 0 ≤ (pickTo f xs i).1 ∧ xs[(pickTo f xs i).1.toNat]? = some y)))
  | 0, _ => .inl ⟨rfl, rfl⟩
  | i + 1, h => by
    have hi : i < xs.length := by omega
    have ih := pick_best f xs i (by omega)
    rw [List.take_succ_eq_append_getElem hi, bestF_snoc, pickTo_next hi]
    refine .inr ?_
    rcases ih with ⟨h1, rfl⟩ | ⟨y, m, h1, h2⟩
    · rw [h1]
      refine ⟨xs[0], f xs[0], rfl, ?_⟩
      by_cases h3 : f xs[0] < 0
      · refine .inl ⟨h3, ?_⟩
        rw [if_neg (by simp [pickTo]; omega)]; rfl
      · refine .inr ⟨by omega, ?_⟩
        rw [if_pos (by simp [pickTo]; omega)]
        exact ⟨rfl, by simp, by simp⟩
    · rw [h1]
      by_cases h3 : m < f xs[i]
      · have e : stepF f (some (y, m)) xs[i] = some (xs[i], f xs[i]) := by simp [stepF, h3]
        refine ⟨_, _, e, ?_⟩
        by_cases h4 : f xs[i] < 0
        · rcases h2 with ⟨h5, h6⟩ | ⟨h5, -⟩
          · refine .inl ⟨h4, ?_⟩
            rw [h6, if_neg (by simp; omega)]
          · omega
        · refine .inr ⟨by omega, ?_⟩
          have h7 : (pickTo f xs i).2 < f xs[i] := by
            rcases h2 with ⟨h5, h6⟩ | ⟨h5, h6, -⟩
            · rw [h6]; simp; omega
            · omega
          rw [if_pos h7]
          exact ⟨rfl, by simp, by simp [hi]⟩
      · have e : stepF f (some (y, m)) xs[i] = some (y, m) := by simp [stepF, h3]
        refine ⟨y, m, e, ?_⟩
        rcases h2 with ⟨h5, h6⟩ | ⟨h5, h6, h7, h8⟩
        · refine .inl ⟨h5, ?_⟩
          rw [h6, if_neg (by simp; omega)]
        · refine .inr ⟨h5, ?_⟩
          rw [if_neg (by omega)]
          exact ⟨h6, h7, h8⟩
theorem pick_is (f : List Int → Int) (xs : List (List Int)) : pick f xs = match bestF f xs with
    | some (y, m) => if m < 0 then none else some y
    | none => none := by
  have h := pick_best f xs xs.length (Nat.le_refl _)
  rw [List.take_length] at h
  unfold pick
  rcases h with ⟨h1, h2⟩ | ⟨y, m, h1, ⟨h2, h3⟩ | ⟨h2, h3, h4, h5⟩⟩
  · rw [h1, h2]; simp [pickTo]
  · rw [h1, h3]; simp [h2]
  · rw [h1]
    simp only
    rw [if_neg (by omega), if_neg (by omega), h5]
theorem pick_same (f g : List Int → Int) (xs : List (List Int)) (hc : ∀ x ∈ xs, ∀ y ∈ xs, f x < f y ↔ g x < g y) (h1 : ∀ x ∈ xs, -1 < f x ↔ -1 < g x) : ∀ i, i ≤ xs.length →
    (pickTo f xs i).1 = (pickTo g xs i).1 ∧ ((pickTo f xs i = (-1, -1) ∧ pickTo g xs i = (-1, -1)) ∨ ∃ x ∈ xs, (pickTo f xs i).2 = f x ∧ (pickTo g xs i).2 = g x)
  | 0, _ => ⟨rfl, .inl ⟨rfl, rfl⟩⟩
  | i + 1, h => by
    have hi : i < xs.length := by omega
    obtain ⟨h2, h3⟩ := pick_same f g xs hc h1 i (by omega)
    have hm := List.getElem_mem hi
    rw [pickTo_next hi, pickTo_next hi]
    have e : (pickTo f xs i).2 < f xs[i] ↔ (pickTo g xs i).2 < g xs[i] := by
      rcases h3 with ⟨h4, h5⟩ | ⟨x, hx, h4, h5⟩
      · rw [h4, h5]; exact h1 _ hm
      · rw [h4, h5]; exact hc _ hx _ hm
    by_cases h6 : (pickTo f xs i).2 < f xs[i]
    · rw [if_pos h6, if_pos (e.1 h6)]
      exact ⟨rfl, .inr ⟨_, hm, rfl, rfl⟩⟩
    · rw [if_neg h6, if_neg (fun h => h6 (e.2 h))]
      exact ⟨h2, h3⟩
theorem pick_eq (f g : List Int → Int) (xs : List (List Int)) (hc : ∀ x ∈ xs, ∀ y ∈ xs, f x < f y ↔ g x < g y) (h1 : ∀ x ∈ xs, -1 < f x ↔ -1 < g x) : pick f xs = pick g xs := by
  unfold pick; rw [(pick_same f g xs hc h1 xs.length (Nat.le_refl _)).1]
theorem bold_pick (s : FShop) : pick (fun x => (holdN s.left x : Int)) s.justs = s.bold := by
  rw [pick_is]
  unfold FShop.bold
  rcases best_ind (fun x => (holdN s.left x : Int)) (fun a b => earlB a b = true) s.justs with ⟨h1, -⟩ | ⟨y, h1, -, -⟩
  · rw [h1]; rfl
  · rw [h1]
    simp only [Option.map_some]
    rw [if_neg (by omega)]
theorem divide_pick {s : FShop} (ho : s.ok = true) : pick (farOf (loOf s.left)) s.justs = s.divide := by
  have hg : ∀ t, 0 ≤ loOf s.left t ∧ loOf s.left t ≤ 12 := lo_bd ho
  have e : pick (sparedOf (loOf s.left)) s.justs = s.divide := pick_is _ _
  rw [← e]
  have hP : ∀ m ∈ s.moulds, 0 ≤ m.p ∧ m.p < (s.wants.length : Int) := fun m hm => by
    obtain ⟨i, hi, rfl⟩ := List.mem_iff_getElem.1 hm
    have := (FShop.ok_mould ho i hi).1; omega
  have hmin : ∀ x, sparedOf (loOf s.left) x = min 12 (farOf (loOf s.left) x) := fun x => spared_far _ _ _ (Nat.le_refl _)
  -- either a list has a number above 0, and so have all, or none has
  have hpos : ∀ x ∈ s.justs, (∃ i, ∃ h : i < x.length, 0 < x[i]) → farOf (loOf s.left) x ≤ 11 := fun x _ ⟨i, hi, h⟩ => by
    have h2 : farOf (loOf s.left) x ≤ loOf s.left i - x[i] := far_le x.length (Nat.le_refl _) i hi hi h
    have := (hg i).2
    omega
  have hnone : ∀ x ∈ s.justs, (¬ ∃ i, ∃ h : i < x.length, 0 < x[i]) → farOf (loOf s.left) x = 1000 := fun x _ hn => by
    have h1 := far_ge (g := loOf s.left) (x := x) 1000 (by omega) (fun i hi h => absurd ⟨i, hi, h⟩ hn) x.length (Nat.le_refl _)
    have h2 := (far_bd hg (x := x) (shares_bd (just_shares (by assumption))).2 x.length (Nat.le_refl _)).2
    unfold farOf
    omega
  have hall : ∀ x ∈ s.justs, ∀ y ∈ s.justs, (¬ ∃ i, ∃ h : i < x.length, 0 < x[i]) → ¬ ∃ i, ∃ h : i < y.length, 0 < y[i] := fun x hx y hy hn ⟨i, hi, h⟩ => by
    have hxs := shares_bd (just_shares hx)
    have hys := shares_bd (just_shares hy)
    have h0 : ∀ p, p < s.wants.length → psum s.moulds y p = 0 := fun p hp => by
      rw [just_psum ho hy p hp, ← just_psum ho hx p hp]
      have : ∀ (ms : List Mould) (z : List Int), (∀ i (h : i < z.length), z[i] = 0) → psum ms z p = 0 := by
        intro ms
        induction ms with
        | nil => intro z _; rfl
        | cons m ms ih =>
          intro z hz
          cases z with
          | nil => rfl
          | cons u z =>
            have hu : u = 0 := hz 0 (by simp)
            have := ih z (fun i hi => by have := hz (i + 1) (by simpa using hi); simpa using this)
            simp only [psum, this, hu]; split <;> rfl
      refine this _ _ fun i hi => ?_
      have h1 := hxs.2 i hi
      by_cases h2 : 0 < x[i]
      · exact absurd ⟨i, hi, h2⟩ hn
      · omega
    have := psum_zero s.moulds y s.wants.length hys.1 hP hys.2 h0 i hi
    omega
  refine pick_eq _ _ _ (fun x hx y hy => ?_) (fun x hx => ?_)
  · rw [hmin x, hmin y]
    by_cases h1 : ∃ i, ∃ h : i < x.length, 0 < x[i]
    · have h2 : ∃ i, ∃ h : i < y.length, 0 < y[i] := Classical.byContradiction fun hn => hall y hy x hx hn h1
      have := hpos x hx h1
      have := hpos y hy h2
      omega
    · have h2 := hall x hx y hy h1
      rw [hnone x hx h1, hnone y hy h2]
      omega
  · rw [hmin x]
    by_cases h1 : ∃ i, ∃ h : i < x.length, 0 < x[i]
    · have := hpos x hx h1
      omega
    · rw [hnone x hx h1]
      omega
end Go.Proofs.Ytigeiaiohdemiaa
