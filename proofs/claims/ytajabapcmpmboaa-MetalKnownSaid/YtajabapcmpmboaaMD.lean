/- More pigs, more room, a penny more: what the least does. -/
import Derived.Test.YtajabapcmpmboaaMC
namespace Go.Proofs.Ytajabapcmpmboaa
set_option linter.unusedVariables false
set_option linter.unusedSimpArgs false
open Go.RowKit

theorem mem_allL : ∀ (ms x : List Int), x.length = ms.length → (∀ (k : Nat) (h : k < ms.length) (h' : k < x.length), 0 ≤ x[k] ∧ x[k] ≤ ms[k]) → x ∈ allL ms
  | [], x, h, _ => by simp [allL, List.length_eq_zero_iff.1 h]
  | m :: ms, [], h, _ => by simp at h
  | m :: ms, n :: x, h, hk => by
    have h0 := hk 0 (by simp) (by simp)
    simp only [List.getElem_cons_zero] at h0
    simp only [allL, List.mem_flatMap, List.mem_map, List.mem_range]
    refine ⟨n.toNat, by omega, x, mem_allL ms x (by simpa using h) (fun k h1 h2 => ?_), by rw [show (n.toNat : Int) = n by omega]⟩
    have := hk (k + 1) (by simpa using h1) (by simpa using h2)
    simpa using this
theorem tot_map (f : Pig → Int) (ps : List Pig) (ns : List Int) : tot f ps ns = (((ps.map f).zip ns).map fun x => x.2 * x.1).sum := by
  induction ps generalizing ns with
  | nil => simp [tot]
  | cons p ps ih =>
    cases ns with
    | nil => simp [tot]
    | cons n ns => rw [tot_cons, ih]; simp
theorem set_id {α : Type} : ∀ (l : List α) (k : Nat) (a : α), l[k]? = some a → l.set k a = l
  | [], _, _, h => by simp at h
  | x :: l, 0, a, h => by simp at h; simp [h]
  | x :: l, k + 1, a, h => by simp at h; simp [set_id l k a h]
theorem tot_set (f : Pig → Int) (ps : List Pig) (ns : List Int) (k : Nat) (q q' : Pig) (hq : ps[k]? = some q) (hf : f q' = f q) : tot f (ps.set k q') ns = tot f ps ns := by
  rw [tot_map, tot_map, List.map_set, set_id _ k _ (by simp [hq, hf])]
theorem tot_one (f : Pig → Int) : ∀ (ps : List Pig) (ns : List Int) (k : Nat) (q q' : Pig) (d : Int) (_ : ps[k]? = some q) (_ : f q' = f q + d) (n : Int) (_ : ns[k]? = some n), tot f (ps.set k q') ns = tot f ps ns + n * d
  | [], _, _, _, _, _, h, _, _, _ => by simp at h
  | p :: ps, [], _, _, _, _, _, _, _, h => by simp at h
  | p :: ps, m :: ns, 0, q, q', d, hq, hf, n, hn => by
    simp at hq hn
    subst hq; subst hn
    rw [List.set_cons_zero, tot_cons, tot_cons, hf, Int.mul_add]; omega
  | p :: ps, m :: ns, k + 1, q, q', d, hq, hf, n, hn => by
    simp at hq hn
    rw [List.set_cons_succ, tot_cons, tot_cons, tot_one f ps ns k q q' d hq hf n hn]; omega

/-- The shop with one pig changed. -/
def Shop.withPig (s : Shop) (k : Nat) (q : Pig) : Shop := { s with pigs := s.pigs.set k q }
theorem withPig_safe (s : Shop) (k : Nat) (q q' : Pig) (hq : s.pigs[k]? = some q) (h1 : q'.P = q.P) (h2 : q'.t = q.t) (h3 : q'.a = q.a) (x : List Int) : (s.withPig k q').safeOf x = s.safeOf x := by
  rw [safeOf_verdict, safeOf_verdict]
  simp only [Shop.withPig, tot_set Pig.P _ x k q q' hq h1, tot_set Pig.t _ x k q q' hq h2, tot_set Pig.a _ x k q q' hq h3]
theorem withPig_room (s : Shop) (k : Nat) (q q' : Pig) (hq : s.pigs[k]? = some q) (h1 : q'.P = q.P) (x : List Int) : (s.withPig k q').room? x = s.room? x := by
  simp only [Shop.room?, Shop.withPig, tot_set Pig.P _ x k q q' hq h1]
theorem withPig_most (s : Shop) (k : Nat) (q' : Pig) : (s.withPig k q').most = s.most.set k q'.m := by
  simp [Shop.most, Shop.withPig, List.map_set]
/-- What may be added of a kind. -/
theorem most_le (s : Shop) (ho : s.ok = true) (k : Nat) (q : Pig) (hq : s.pigs[k]? = some q) (x : List Int) (hx : x ∈ s.adds) : ∃ n, x[k]? = some n ∧ 0 ≤ n ∧ n ≤ q.m := by
  have h2 := (List.mem_filter.1 hx).1
  have hl := allL_len _ _ h2
  simp only [Shop.most, List.length_map] at hl
  have hk : k < s.pigs.length := (List.getElem?_eq_some_iff.1 hq).1
  have hqk : s.pigs[k] = q := (List.getElem?_eq_some_iff.1 hq).2
  have hf := Shop.few_all ho h2 k hk (by omega)
  rw [hqk] at hf
  exact ⟨x[k]'(by omega), List.getElem?_eq_getElem (by omega), hf.2.1, hf.2.2⟩
theorem adds_more (s : Shop) (ho : s.ok = true) (k : Nat) (q q' : Pig) (hq : s.pigs[k]? = some q) (h1 : q'.P = q.P) (hm : q.m ≤ q'.m) (x : List Int) (hx : x ∈ s.adds) : x ∈ (s.withPig k q').adds := by
  obtain ⟨h2, h3⟩ := List.mem_filter.1 hx
  have hl := allL_len _ _ h2
  simp only [Shop.most, List.length_map] at hl
  refine List.mem_filter.2 ⟨?_, by rw [withPig_room s k q q' hq h1]; exact h3⟩
  rw [withPig_most]
  refine mem_allL _ _ (by simp [Shop.most, hl]) (fun j hj hj' => ?_)
  have hjp : j < s.pigs.length := by omega
  have hf := Shop.few_all ho h2 j hjp hj'
  by_cases e : k = j
  · subst e
    obtain ⟨n, hn, hb1, hb2⟩ := most_le s ho k q hq x hx
    have : x[k] = n := (List.getElem?_eq_some_iff.1 hn).2
    simp only [List.getElem_set_self]
    omega
  · rw [List.getElem_set_ne e]
    simp only [Shop.most, List.getElem_map]
    exact hf.2

theorem more_many (s : Shop) (ho : s.ok = true) (k : Nat) (q : Pig) (hq : s.pigs[k]? = some q) (hok : (s.withPig k { q with m := q.m + 1 }).ok = true) : lessB (s.withPig k { q with m := q.m + 1 }) s = true := by
  have key : ∀ f, f = 0 ∨ f = 1 → (s.withPig k { q with m := q.m + 1 }).costN f ≤ s.costN f := fun f hf =>
    costN_le f (fun x _ => by
        rcases hf with rfl | rfl
        · simp only [askF, Shop.withPig, if_true]; rw [tot_set Pig.c _ x k q { q with m := q.m + 1 } hq rfl]; exact Int.le_refl _
        · simp only [askF, Shop.withPig]; simp only [show (1 : Nat) ≠ 0 by decide, if_false, if_true]; rw [tot_set Pig.t _ x k q { q with m := q.m + 1 } hq rfl]; exact Int.le_refl _)
      (fun x h => adds_more s ho k q { q with m := q.m + 1 } hq rfl (show q.m ≤ q.m + 1 by omega) x h)
      (fun x _ h => by rw [withPig_safe s k q { q with m := q.m + 1 } hq rfl rfl rfl]; exact h) (best_fair hok f hf)
  simp [lessB, key]
theorem more_room (s : Shop) (r : Int) (hr : s.room ≤ r) (hok : ({ s with room := r } : Shop).ok = true) : lessB { s with room := r } s = true := by
  have key : ∀ f, f = 0 ∨ f = 1 → ({ s with room := r } : Shop).costN f ≤ s.costN f := fun f hf =>
    costN_le f (fun x _ => by rcases hf with rfl | rfl <;> exact Int.le_refl _)
      (fun x h => by
        obtain ⟨h2, h3⟩ := List.mem_filter.1 h
        refine List.mem_filter.2 ⟨h2, ?_⟩
        simp only [Shop.room?, decide_eq_true_eq] at h3 ⊢
        omega)
      (fun x _ h => h) (best_fair hok f hf)
  simp [lessB, key]
theorem penny (s : Shop) (ho : s.ok = true) (k : Nat) (q : Pig) (hq : s.pigs[k]? = some q) (hok : (s.withPig k { q with c := q.c + 1 }).ok = true) :
    s.costN 0 ≤ (s.withPig k { q with c := q.c + 1 }).costN 0 ∧ (s.withPig k { q with c := q.c + 1 }).costN 0 ≤ s.costN 0 + q.m ∧ (s.costN 0 < 100000 ∨ (s.withPig k { q with c := q.c + 1 }).costN 0 = 100000) := by
  have hadds : (s.withPig k { q with c := q.c + 1 }).adds = s.adds := by
    unfold Shop.adds
    rw [withPig_most, set_id _ k _ (by simp [Shop.most, hq])]
    exact List.filter_congr (fun x _ => withPig_room s k q { q with c := q.c + 1 } hq rfl x)
  have hsafe : ∀ x, (s.withPig k { q with c := q.c + 1 }).safeOf x = s.safeOf x := fun x => withPig_safe s k q { q with c := q.c + 1 } hq rfl rfl rfl x
  have hask : ∀ x ∈ s.adds, ∃ n, 0 ≤ n ∧ n ≤ q.m ∧ askF 0 (s.withPig k { q with c := q.c + 1 }) x = askF 0 s x + n := fun x hx => by
    obtain ⟨n, hn, h1, h2⟩ := most_le s ho k q hq x hx
    refine ⟨n, h1, h2, ?_⟩
    simp only [askF, Shop.withPig, if_true]
    rw [tot_one Pig.c _ x k q { q with c := q.c + 1 } 1 hq rfl n hn]; omega
  have hqm : 0 ≤ q.m := by
    have hk : k < s.pigs.length := (List.getElem?_eq_some_iff.1 hq).1
    have hqk : s.pigs[k] = q := (List.getElem?_eq_some_iff.1 hq).2
    have := Pig.ok_bd (Shop.ok_pig ho k hk)
    rw [hqk] at this; omega
  have h1 := best_spec s (askF 0 s) s.adds
  have h2 := best_spec (s.withPig k { q with c := q.c + 1 }) (askF 0 (s.withPig k { q with c := q.c + 1 })) s.adds
  have hf1 : ∀ y m, s.best 0 = some (y, m) → 0 ≤ m ∧ m ≤ 2000 := fun y m h => cheap_fair ho h
  have hf2 : ∀ y m, (s.withPig k { q with c := q.c + 1 }).best 0 = some (y, m) → 0 ≤ m ∧ m ≤ 2000 := fun y m h => cheap_fair hok h
  unfold Shop.costN
  unfold Shop.best at hf1 hf2 ⊢
  rw [hadds] at hf2 ⊢
  generalize s.withPig k { q with c := q.c + 1 } = o at *
  rcases h1 with ⟨e1, hn⟩ | ⟨y, m, e1, hy, hs1, rfl, hm⟩
  · rcases h2 with ⟨e2, _⟩ | ⟨z, n, e2, hz, hs2, rfl, hm2⟩
    · simp only [e1, e2]; exact ⟨Int.le_refl _, by omega, .inr trivial⟩
    · exact absurd ((hsafe z).symm.trans hs2) (hn z hz)
  · rcases h2 with ⟨e2, hn⟩ | ⟨z, n, e2, hz, hs2, rfl, hm2⟩
    · exact absurd ((hsafe y).trans hs1) (hn y hy)
    · simp only [e1, e2]
      have b1 := hf1 _ _ e1
      obtain ⟨n1, a1, a2, a3⟩ := hask y hy
      obtain ⟨n2, c1, c2, c3⟩ := hask z hz
      have k1 := hm2 y hy ((hsafe y).trans hs1)
      have k2 := hm z hz ((hsafe z).symm.trans hs2)
      exact ⟨by omega, by omega, .inl (by omega)⟩
end Go.Proofs.Ytajabapcmpmboaa
