/- Flongs: shares that are just enough: which they are, in which order, and the best of them: mathematics. -/
import Derived.Test.YtigeiaiohdemiaaHB
import Derived.Test.YtigeiaiohdemiaaGW
import Derived.Test.YtigeiaiohdemiaaFQ
namespace Go.Proofs.Ytigeiaiohdemiaa
set_option linter.unusedVariables false
set_option linter.unusedSimpArgs false
open Go.RowKit

/-- Is a list less than another one? -/
def earlB : List Int → List Int → Bool
  | a :: x, b :: y => if a = b then earlB x y else decide (a < b)
  | _, _ => false
theorem earl_irr : ∀ x, earlB x x = false
  | [] => rfl
  | a :: x => by simp [earlB, earl_irr x]
theorem earl_asym : ∀ x y, earlB x y = true → earlB y x = false
  | [], _, h => by simp [earlB] at h
  | _ :: _, [], h => by simp [earlB] at h
  | a :: x, b :: y, h => by
    unfold earlB at h ⊢
    by_cases e : a = b
    · rw [if_pos e] at h
      rw [if_pos e.symm]
      exact earl_asym x y h
    · rw [if_neg e] at h
      rw [if_neg (fun h => e h.symm)]
      simp at h ⊢
      omega
theorem earl_app : ∀ (x y z : List Int), earlB (x ++ y) (x ++ z) = earlB y z
  | [], _, _ => rfl
  | a :: x, y, z => by simp [earlB, earl_app x y z]
theorem earl_first (x y z : List Int) {a b : Int} (h : a < b) : earlB ((x ++ [a]) ++ y) ((x ++ [b]) ++ z) = true := by
  rw [List.append_assoc, List.append_assoc, earl_app]
  simp [earlB, h, show ¬ a = b by omega]
theorem justs_sorted : ∀ (ms : List Mould) (cur x : List Int), (justsF ms cur x).Pairwise fun a b => earlB a b = true
  | [], cur, x => by unfold justsF; split <;> simp
  | m :: ms, cur, x => by
    unfold justsF
    rw [List.pairwise_flatMap]
    refine ⟨fun n _ => justs_sorted ms _ _, ?_⟩
    refine List.Pairwise.imp ?_ List.pairwise_lt_range
    intro a b hab y hy z hz
    obtain ⟨y', rfl, -⟩ := justsF_mem ms _ _ y hy
    obtain ⟨z', rfl, -⟩ := justsF_mem ms _ _ z hz
    exact earl_first x y' z' (by omega)

theorem best_ind (f : List Int → Int) (R : List Int → List Int → Prop) : ∀ l : List (List Int), (bestF f l = none ∧ l = []) ∨ ∃ y, bestF f l = some (y, f y) ∧ y ∈ l ∧ ∀ z ∈ l, f z ≤ f y ∧ (l.Pairwise R → f z = f y → z = y ∨ R y z) := by
  intro l
  obtain ⟨r, hr⟩ : ∃ r, l.reverse = r := ⟨_, rfl⟩
  have hl : l = r.reverse := by rw [← hr, List.reverse_reverse]
  subst hl
  clear hr
  induction r with
  | nil => exact .inl ⟨rfl, rfl⟩
  | cons x r ih =>
    refine .inr ?_
    rw [List.reverse_cons, bestF_snoc]
    rcases ih with ⟨h1, h2⟩ | ⟨y, h1, h2, h3⟩
    · rw [h1, h2]
      refine ⟨x, rfl, by simp, fun z hz => ?_⟩
      simp at hz
      subst hz
      exact ⟨Int.le_refl _, fun _ _ => .inl rfl⟩
    · rw [h1]
      unfold stepF
      simp only
      by_cases hlt : f y < f x
      · rw [if_pos hlt]
        refine ⟨x, rfl, by simp, fun z hz => ?_⟩
        rcases List.mem_append.1 hz with hz | hz
        · have := (h3 z hz).1
          exact ⟨by omega, fun _ e => by omega⟩
        · simp at hz
          subst hz
          exact ⟨Int.le_refl _, fun _ _ => .inl rfl⟩
      · rw [if_neg hlt]
        refine ⟨y, rfl, List.mem_append_left _ h2, fun z hz => ?_⟩
        rcases List.mem_append.1 hz with hz | hz
        · refine ⟨(h3 z hz).1, fun hp e => (h3 z hz).2 (List.pairwise_append.1 hp).1 e⟩
        · simp at hz
          subst hz
          exact ⟨by omega, fun hp _ => .inr ((List.pairwise_append.1 hp).2.2 y h2 z (by simp))⟩

/-- What the moulds of a page have together. -/
def psum : List Mould → List Int → Nat → Int
  | m :: ms, n :: z, p => (if m.p = (p : Int) then n else 0) + psum ms z p
  | _, _, _ => 0
def fits : List Mould → List Int → List Int → Prop
  | [], cur, z => z = [] ∧ ∀ c ∈ cur, c ≤ 0
  | m :: ms, cur, z => ∃ (n : Nat) (z' : List Int), z = (n : Int) :: z' ∧ (n : Int) ≤ min m.most (cur[m.p.toNat]?.getD 0) ∧ fits ms (cur.set m.p.toNat (cur[m.p.toNat]?.getD 0 - n)) z'
theorem justs_fits : ∀ (ms : List Mould) (cur x y : List Int), y ∈ justsF ms cur x ↔ ∃ z, y = x ++ z ∧ fits ms cur z
  | [], cur, x, y => by
    unfold justsF fits
    by_cases h : (cur.any fun n => decide (0 < n)) = true
    · rw [if_pos h]
      constructor
      · intro hh; simp at hh
      · rintro ⟨z, -, -, hc⟩
        obtain ⟨c, h1, h2⟩ := List.any_eq_true.1 h
        have := hc c h1
        simp at h2
        omega
    · rw [if_neg h]
      constructor
      · intro hh
        simp at hh
        refine ⟨[], by simp [hh], rfl, fun c hc => ?_⟩
        by_cases h0 : c ≤ 0
        · exact h0
        · exact absurd (List.any_eq_true.2 ⟨c, hc, by simp; omega⟩) h
      · rintro ⟨z, rfl, rfl, -⟩
        simp
  | m :: ms, cur, x, y => by
    unfold justsF fits
    rw [List.mem_flatMap]
    constructor
    · rintro ⟨n, hn, hy⟩
      obtain ⟨z, rfl, hz⟩ := (justs_fits ms _ _ y).1 hy
      refine ⟨(n : Int) :: z, by simp, n, z, rfl, ?_, hz⟩
      have := List.mem_range.1 hn
      omega
    · rintro ⟨z, rfl, n, z', rfl, hn, hz⟩
      refine ⟨n, List.mem_range.2 (by omega), (justs_fits ms _ _ _).2 ⟨z', by simp, hz⟩⟩

theorem cur_set (cur : List Int) (p : Nat) (v : Int) (q : Nat) (hq : q < cur.length) (h : q < (cur.set p v).length) : (cur.set p v)[q] = if p = q then v else cur[q] := List.getElem_set ..
theorem fits_iff : ∀ (ms : List Mould) (cur z : List Int) (_ : ∀ m ∈ ms, 0 ≤ m.p ∧ m.p < (cur.length : Int)) (_ : ∀ c ∈ cur, 0 ≤ c),
    fits ms cur z ↔ (sharesB ms z = true ∧ ∀ p (h : p < cur.length), psum ms z p = cur[p])
  | [], cur, z, hp, hc => by
    unfold fits
    constructor
    · rintro ⟨rfl, h⟩
      refine ⟨rfl, fun p hpl => ?_⟩
      have h1 := h _ (List.getElem_mem hpl)
      have h2 := hc _ (List.getElem_mem hpl)
      show (0 : Int) = _
      omega
    · rintro ⟨h1, h2⟩
      have hz : z = [] := by have := (shares_bd h1).1; exact List.length_eq_zero_iff.1 (by simpa using this)
      subst hz
      refine ⟨rfl, fun c hcm => ?_⟩
      obtain ⟨p, hpl, rfl⟩ := List.mem_iff_getElem.1 hcm
      have := h2 p hpl
      have e : psum [] [] p = 0 := rfl
      omega
  | m :: ms, cur, z, hp, hc => by
    obtain ⟨hp0, hp1⟩ := hp m (by simp)
    obtain ⟨q, hq⟩ : ∃ q : Nat, m.p = (q : Int) := ⟨m.p.toNat, by omega⟩
    have hql : q < cur.length := by omega
    have hcq := hc _ (List.getElem_mem hql)
    have hmo := Mould.most_bd m
    have hget : cur[m.p.toNat]?.getD 0 = cur[q] := by rw [hq]; simp [List.getElem?_eq_getElem hql]
    have htn : m.p.toNat = q := by rw [hq]; simp
    unfold fits
    rw [hget, htn]
    constructor
    · rintro ⟨n, z', rfl, hn, hf⟩
      have hc' : ∀ c ∈ cur.set q (cur[q] - n), 0 ≤ c := fun c hcm => by
        rcases List.mem_or_eq_of_mem_set hcm with h | rfl
        · exact hc c h
        · omega
      obtain ⟨h1, h2⟩ := (fits_iff ms _ z' (fun a ha => by rw [List.length_set]; exact hp a (by simp [ha])) hc').1 hf
      refine ⟨by rw [sharesB_cons, h1, Bool.and_true]; simp [btw]; omega, fun p hpl => ?_⟩
      have h3 := h2 p (by rw [List.length_set]; exact hpl)
      rw [cur_set _ _ _ _ hpl] at h3
      show (if m.p = (p : Int) then (n : Int) else 0) + psum ms z' p = cur[p]
      rw [h3, hq]
      by_cases e : q = p
      · subst e; rw [if_pos rfl, if_pos rfl]; omega
      · rw [if_neg (by omega), if_neg e]; omega
    · rintro ⟨h1, h2⟩
      have hl := (shares_bd h1).1
      obtain ⟨v, z', rfl⟩ : ∃ v z', z = v :: z' := by
        cases z with
        | nil => simp at hl
        | cons v z' => exact ⟨v, z', rfl⟩
      rw [sharesB_cons, Bool.and_eq_true] at h1
      have hv : 0 ≤ v ∧ v ≤ m.most := by simpa [btw] using h1.1
      obtain ⟨n, rfl⟩ : ∃ n : Nat, v = (n : Int) := ⟨v.toNat, by omega⟩
      have hnn := fun p => psum_nn ms z' p (shares_bd h1.2).2
      have hq2 := h2 q hql
      have e0 : psum (m :: ms) ((n : Int) :: z') q = (n : Int) + psum ms z' q := by
        show (if m.p = (q : Int) then (n : Int) else 0) + _ = _
        rw [if_pos hq]
      rw [e0] at hq2
      have := hnn q
      refine ⟨n, z', rfl, by omega, ?_⟩
      refine (fits_iff ms _ z' (fun a ha => by rw [List.length_set]; exact hp a (by simp [ha])) (fun c hcm => ?_)).2 ⟨h1.2, fun p hpl => ?_⟩
      · rcases List.mem_or_eq_of_mem_set hcm with h | rfl
        · exact hc c h
        · omega
      · have hpl' : p < cur.length := by rwa [List.length_set] at hpl
        rw [cur_set _ _ _ _ hpl']
        have h3 := h2 p hpl'
        have e1 : psum (m :: ms) ((n : Int) :: z') p = (if m.p = (p : Int) then (n : Int) else 0) + psum ms z' p := rfl
        rw [e1] at h3
        by_cases e : q = p
        · subst e; rw [if_pos rfl]; omega
        · rw [if_neg e]; rw [if_neg (by omega)] at h3; omega
where
  psum_nn : ∀ (ms : List Mould) (z : List Int) (p : Nat), (∀ i (h : i < z.length), 0 ≤ z[i] ∧ z[i] ≤ 12) → 0 ≤ psum ms z p
    | [], _, _, _ => by simp [psum]
    | _ :: _, [], _, _ => by simp [psum]
    | m :: ms, n :: z, p, h => by
      have h1 := psum_nn ms z p (fun i hi => h (i + 1) (by simpa using hi))
      have h2 := h 0 (by simp)
      simp only [psum, List.getElem_cons_zero] at h2 ⊢
      split <;> omega
/-- Are they shares that are just enough? -/
def forB (s : FShop) (x : List Int) : Bool := sharesB s.moulds x && (List.range s.wants.length).all fun p => decide (psum s.moulds x p = s.wants[p]?.getD 0)
theorem for_iff {s : FShop} (ho : s.ok = true) {x : List Int} : forB s x = true ↔ x ∈ s.justs := by
  unfold FShop.justs
  rw [justs_fits]
  have hp : ∀ m ∈ s.moulds, 0 ≤ m.p ∧ m.p < (s.wants.length : Int) := fun m hm => by
    obtain ⟨i, hi, rfl⟩ := List.mem_iff_getElem.1 hm
    have := (FShop.ok_mould ho i hi).1; omega
  have hc : ∀ c ∈ s.wants, 0 ≤ c := fun c hc => by
    obtain ⟨i, hi, rfl⟩ := List.mem_iff_getElem.1 hc
    exact (FShop.ok_want ho i hi).1
  unfold forB
  rw [Bool.and_eq_true, List.all_eq_true]
  constructor
  · rintro ⟨h1, h2⟩
    refine ⟨x, by simp, (fits_iff _ _ _ hp hc).2 ⟨h1, fun p hpl => ?_⟩⟩
    have := h2 p (List.mem_range.2 hpl)
    rw [decide_eq_true_eq, List.getElem?_eq_getElem hpl] at this
    exact this
  · rintro ⟨z, e, hf⟩
    have e' : x = z := by simpa using e
    subst e'
    obtain ⟨h1, h2⟩ := (fits_iff _ _ _ hp hc).1 hf
    refine ⟨h1, fun p hpm => ?_⟩
    have hpl := List.mem_range.1 hpm
    rw [decide_eq_true_eq, List.getElem?_eq_getElem hpl]
    exact h2 p hpl
theorem greedy : ∀ (ms : List Mould) (cur b : List Int), b.length = ms.length → (∀ m ∈ ms, 0 ≤ m.p ∧ m.p < (cur.length : Int)) → (∀ c ∈ cur, 0 ≤ c) → (∀ i (h : i < ms.length) (h2 : i < b.length), 0 ≤ b[i] ∧ b[i] ≤ ms[i].most) → (∀ p (h : p < cur.length), cur[p] ≤ psum ms b p) →
    ∃ z, fits ms cur z ∧ z.length = ms.length ∧ ∀ i (h : i < z.length) (h2 : i < b.length), z[i] ≤ b[i]
  | [], cur, b, hb, hp, hc, hm, hs => by
    have hb0 : b = [] := List.length_eq_zero_iff.1 (by simpa using hb)
    subst hb0
    refine ⟨[], ⟨rfl, fun c hcm => ?_⟩, rfl, fun i h => by simp at h⟩
    obtain ⟨p, hpl, rfl⟩ := List.mem_iff_getElem.1 hcm
    have := hs p hpl
    have e : psum [] [] p = 0 := rfl
    omega
  | m :: ms, cur, [], hb, hp, hc, hm, hs => by simp at hb
  | m :: ms, cur, b0 :: b, hb, hp, hc, hm, hs => by
    obtain ⟨hp0, hp1⟩ := hp m (by simp)
    obtain ⟨q, hq⟩ : ∃ q : Nat, m.p = (q : Int) := ⟨m.p.toNat, by omega⟩
    have hql : q < cur.length := by omega
    have hcq := hc _ (List.getElem_mem hql)
    have hget : cur[m.p.toNat]?.getD 0 = cur[q] := by rw [hq]; simp [List.getElem?_eq_getElem hql]
    have htn : m.p.toNat = q := by rw [hq]; simp
    have hb0 := hm 0 (by simp) (by simp)
    simp only [List.getElem_cons_zero] at hb0
    obtain ⟨n, hn⟩ : ∃ n : Nat, (n : Int) = min b0 cur[q] := ⟨(min b0 cur[q]).toNat, by omega⟩
    have hbb : ∀ i (h : i < b.length), 0 ≤ b[i] ∧ b[i] ≤ 12 := fun i h => by
      have hl : b.length = ms.length := by simpa using hb
      have := hm (i + 1) (by simp; omega) (by simp; omega)
      simp only [List.getElem_cons_succ] at this
      have h3 := Mould.most_bd ms[i]
      omega
    have hnn := fun p => fits_iff.psum_nn ms b p hbb
    obtain ⟨z, h1, h2, h3⟩ := greedy ms (cur.set q (cur[q] - n)) b (by simpa using hb) (fun a ha => by rw [List.length_set]; exact hp a (by simp [ha])) (fun c hcm => by
      rcases List.mem_or_eq_of_mem_set hcm with h | rfl
      · exact hc c h
      · omega) (fun i h h2 => by have := hm (i + 1) (by simp; omega) (by simp; omega); simpa using this) (fun p hpl => by
      have hpl' : p < cur.length := by rwa [List.length_set] at hpl
      rw [cur_set _ _ _ _ hpl']
      have h4 := hs p hpl'
      have e1 : psum (m :: ms) (b0 :: b) p = (if m.p = (p : Int) then b0 else 0) + psum ms b p := rfl
      rw [e1] at h4
      have := hnn p
      by_cases e : q = p
      · subst e; rw [if_pos rfl]; rw [if_pos hq] at h4; omega
      · rw [if_neg e]; rw [if_neg (by omega)] at h4; omega)
    refine ⟨(n : Int) :: z, ⟨n, z, rfl, by rw [hget]; omega, by rw [hget, htn]; exact h1⟩, by simp [h2], fun i h h4 => ?_⟩
    cases i with
    | zero => simp only [List.getElem_cons_zero]; omega
    | succ i => simp only [List.getElem_cons_succ]; exact h3 i (by simpa using h) (by simpa using h4)
end Go.Proofs.Ytigeiaiohdemiaa
