/- What Known means, in plain words. -/
import Derived.Test.YtnlgchgpnfkjeaaKH
namespace Go.Proofs.Ytnlgchgpnfkjeaa
set_option linter.unusedVariables false
set_option linter.unusedSimpArgs false
open Go.RowKit

/-- The metal is within all limits with an addition, in a truth. -/
def Shop.does (s : Shop) (t a : Int) (x : List Int) : Prop :=
  (allowLo (s.P + tot Pig.P s.pigs x) s.xl ≤ t + tot Pig.t s.pigs x ∧ t + tot Pig.t s.pigs x ≤ allowHi (s.P + tot Pig.P s.pigs x) s.xh) ∧
  (allowLo (s.P + tot Pig.P s.pigs x) s.yl ≤ a + tot Pig.a s.pigs x ∧ a + tot Pig.a s.pigs x ≤ allowHi (s.P + tot Pig.P s.pigs x) s.yh)
def Shop.inT (s : Shop) (t a : Int) : Prop := (s.tl ≤ t ∧ t ≤ s.th) ∧ (s.al ≤ a ∧ a ≤ s.ah)
def Shop.cost (s : Shop) (x : List Int) : Int := tot Pig.c s.pigs x
theorem maxI_le (a b c : Int) : maxI a b ≤ c ↔ a ≤ c ∧ b ≤ c := by unfold maxI; split <;> omega
theorem le_minI (a b c : Int) : c ≤ minI a b ↔ c ≤ a ∧ c ≤ b := by unfold minI; split <;> omega
theorem offer_does (s : Shop) (t a : Int) (x : List Int) (h : s.inT t a) : (btw t (s.offerOf x).tl (s.offerOf x).th && btw a (s.offerOf x).al (s.offerOf x).ah) = true ↔ s.does t a x := by
  obtain ⟨⟨h1, h2⟩, h3, h4⟩ := h
  simp only [Shop.offerOf, btw, Bool.and_eq_true, decide_eq_true_eq, maxI_le, le_minI, Shop.does]
  constructor
  · rintro ⟨⟨⟨_, k1⟩, _, k2⟩, ⟨_, k3⟩, _, k4⟩; omega
  · rintro ⟨⟨k1, k2⟩, k3, k4⟩; omega
theorem offer_good (s : Shop) (t a : Int) (x : List Int) (h : s.inT t a) (hd : s.does t a x) : (s.offerOf x).good = true := by
  have := (offer_does s t a x h).2 hd
  simp only [btw, Bool.and_eq_true, decide_eq_true_eq] at this
  simp only [Offer.good, emptyB, Bool.and_eq_true, Bool.not_eq_true', decide_eq_false_iff_not]
  omega
theorem mem_sorted (s : Shop) (o : Offer) : o ∈ s.sorted ↔ ∃ x ∈ s.adds, s.offerOf x = o ∧ o.good = true := by
  rw [(sorted_is s).1.mem_iff]
  simp only [Shop.offersOf, List.mem_filter, List.mem_map]
  constructor
  · rintro ⟨⟨x, hx, rfl⟩, hg⟩; exact ⟨x, List.mem_filter.2 hx, rfl, hg⟩
  · rintro ⟨x, hx, rfl, hg⟩; exact ⟨⟨x, List.mem_filter.1 hx, rfl⟩, hg⟩
theorem cover_iff (s : Shop) (t a : Int) (h : s.inT t a) (l : List Offer) (hl : ∀ o ∈ l, o ∈ s.sorted) : cover t l a = true ↔ ∃ x ∈ s.adds, s.does t a x ∧ s.offerOf x ∈ l := by
  unfold cover
  rw [List.any_eq_true]
  constructor
  · rintro ⟨o, ho, hc⟩
    obtain ⟨x, hx, rfl, hg⟩ := (mem_sorted s o).1 (hl o ho)
    exact ⟨x, hx, (offer_does s t a x h).1 hc, ho⟩
  · rintro ⟨x, hx, hd, ho⟩
    exact ⟨_, ho, (offer_does s t a x h).2 hd⟩
theorem most_spec {al : Int} {n : Nat} {l : List Offer} {tl : Int} : ∀ (m : Nat) (h : Int), mostOf al n l m tl = some h →
    (∀ j : Nat, j < m → ∃ c, dearOf (tl + j) al n [] l = some c ∧ c ≤ h) ∧ (h = 0 ∨ ∃ j : Nat, j < m ∧ dearOf (tl + j) al n [] l = some h)
  | 0, h, e => by simp [mostOf] at e; exact ⟨fun j hj => by omega, .inl e.symm⟩
  | m + 1, h, e => by
    rw [mostOf] at e
    cases e1 : mostOf al n l m tl with
    | none => rw [e1] at e; simp at e
    | some h0 =>
      cases e2 : dearOf (tl + m) al n [] l with
      | none => rw [e1] at e; simp only [e2] at e; cases e
      | some c =>
        rw [e1] at e
        simp only [e2, Option.some.injEq] at e
        obtain ⟨i1, i2⟩ := most_spec m h0 e1
        have k1 : h0 ≤ h := by rw [← e]; unfold maxI; split <;> omega
        have k2 : c ≤ h := by rw [← e]; unfold maxI; split <;> omega
        have k3 : h = h0 ∨ h = c := by rw [← e]; unfold maxI; split <;> simp
        refine ⟨fun j hj => ?_, ?_⟩
        · rcases Nat.lt_or_ge j m with hlt | hge
          · obtain ⟨c', a1, a2⟩ := i1 j hlt
            exact ⟨c', a1, by omega⟩
          · obtain rfl : j = m := by omega
            exact ⟨c, e2, k2⟩
        · rcases k3 with rfl | rfl
          · rcases i2 with i2 | ⟨j, a1, a2⟩
            · exact .inl i2
            · exact .inr ⟨j, by omega, a2⟩
          · exact .inr ⟨m, by omega, e2⟩
theorem most_none {al : Int} {n : Nat} {l : List Offer} {tl : Int} : ∀ (m : Nat), mostOf al n l m tl = none → ∃ j : Nat, j < m ∧ dearOf (tl + j) al n [] l = none
  | 0, e => by simp [mostOf] at e
  | m + 1, e => by
    rw [mostOf] at e
    cases e1 : mostOf al n l m tl with
    | none => obtain ⟨j, h1, h2⟩ := most_none m e1; exact ⟨j, by omega, h2⟩
    | some h0 =>
      cases e2 : dearOf (tl + m) al n [] l with
      | none => exact ⟨m, by omega, e2⟩
      | some c => rw [e1] at e; simp only [e2] at e; cases e

/-- What Known's answer says of all truths. -/
def KnownSpec (s : Shop) : Option (Int × Int) → Prop
  | none => ∃ t a, s.inT t a ∧ ∀ x ∈ s.adds, ¬ s.does t a x
  | some (lo, hi) => (∀ t a, s.inT t a → ∃ x ∈ s.adds, s.does t a x ∧ s.cost x ≤ hi) ∧ (∃ t a, s.inT t a ∧ ∀ x ∈ s.adds, s.does t a x → hi ≤ s.cost x) ∧
      (∃ t a x, s.inT t a ∧ x ∈ s.adds ∧ s.does t a x ∧ s.cost x = lo) ∧ (∀ t a x, s.inT t a → x ∈ s.adds → s.does t a x → lo ≤ s.cost x)
theorem not_full {tin al : Int} {n : Nat} {l : List Offer} (h : ¬ Full tin al n l) : ∃ i : Nat, i < n ∧ cover tin l (al + i) = false := by
  apply Classical.byContradiction
  intro hc
  refine h fun i hi => ?_
  rcases hb : cover tin l (al + i) with - | -
  · exact absurd ⟨i, hi, hb⟩ hc
  · rfl
theorem known_spec {s : Shop} (ho : s.ok = true) : KnownSpec s s.knownR := by
  have hbd := Shop.ok_bd ho
  have hs := (sorted_is s).2
  have hms := mem_sorted s
  have hfair := fun o (h : o ∈ s.sorted) => (offer_fair ho h).1
  have hcov := fun t a h l hl => cover_iff s t a h l hl
  unfold Shop.knownR knownOf
  cases hl : s.sorted with
  | nil =>
    refine ⟨s.tl, s.al, ⟨⟨by omega, by omega⟩, by omega, by omega⟩, fun x hx hd => ?_⟩
    have := (hms (s.offerOf x)).2 ⟨x, hx, rfl, offer_good s _ _ x ⟨⟨by omega, by omega⟩, by omega, by omega⟩ hd⟩
    rw [hl] at this; cases this
  | cons o r =>
    rw [hl] at hs hms hfair hcov
    have hmem : ∀ t a x, s.inT t a → x ∈ s.adds → s.does t a x → s.offerOf x ∈ o :: r := fun t a x h hx hd => (hms _).2 ⟨x, hx, rfl, offer_good s t a x h hd⟩
    have hn1 : 1 ≤ (s.ah - s.al + 1).toNat := by omega
    simp only
    cases hm : mostOf s.al (s.ah - s.al + 1).toNat (o :: r) (s.th - s.tl + 1).toNat s.tl with
    | none =>
      obtain ⟨j, hj, hd⟩ := most_none _ hm
      have := dear_is (tin := s.tl + j) (al := s.al) hn1 hs _ hd
      obtain ⟨i, hi, hc⟩ := not_full this
      have hin : s.inT (s.tl + j) (s.al + i) := ⟨⟨by omega, by omega⟩, by omega, by omega⟩
      refine ⟨_, _, hin, fun x hx hdx => ?_⟩
      have := (hcov _ _ hin (o :: r) (fun o h => h)).2 ⟨x, hx, hdx, hmem _ _ x hin hx hdx⟩
      rw [hc] at this; cases this
    | some h =>
      obtain ⟨m1, m2⟩ := most_spec _ _ hm
      refine ⟨fun t a hin => ?_, ?_, ?_, fun t a x hin hx hd => ?_⟩
      · obtain ⟨⟨i1, i2⟩, i3, i4⟩ := hin
        obtain ⟨c, hd, hc⟩ := m1 (t - s.tl).toNat (by omega)
        have := (dear_is (tin := _) (al := s.al) hn1 hs _ hd).1 (a - s.al).toNat (by omega)
        have e1 : s.tl + ((t - s.tl).toNat : Int) = t := by omega
        have e2 : s.al + ((a - s.al).toNat : Int) = a := by omega
        rw [e1, e2] at this
        obtain ⟨x, hx, hdx, hmx⟩ := (hcov t a ⟨⟨i1, i2⟩, i3, i4⟩ _ (fun o h => (List.mem_filter.1 h).1)).1 this
        have := (List.mem_filter.1 hmx).2
        simp only [decide_eq_true_eq] at this
        exact ⟨x, hx, hdx, Int.le_trans this hc⟩
      · rcases m2 with rfl | ⟨j, hj, hd⟩
        · refine ⟨s.tl, s.al, ⟨⟨by omega, by omega⟩, by omega, by omega⟩, fun x hx hd => ?_⟩
          exact hfair _ (hmem _ _ x ⟨⟨by omega, by omega⟩, by omega, by omega⟩ hx hd)
        · have := (dear_is (tin := s.tl + j) (al := s.al) hn1 hs _ hd).2 (h - 1) (by omega)
          obtain ⟨i, hi, hc⟩ := not_full this
          have hin : s.inT (s.tl + j) (s.al + i) := ⟨⟨by omega, by omega⟩, by omega, by omega⟩
          refine ⟨_, _, hin, fun x hx hdx => ?_⟩
          rcases Int.lt_or_le (s.cost x) h with hlt | hge
          · have := (hcov _ _ hin (lev (h - 1) (o :: r)) (fun o h => (List.mem_filter.1 h).1)).2 ⟨x, hx, hdx, List.mem_filter.2 ⟨hmem _ _ x hin hx hdx, decide_eq_true (show s.cost x ≤ h - 1 by omega)⟩⟩
            rw [hc] at this; cases this
          · exact hge
      · obtain ⟨x, hx, hox, hg⟩ := (hms o).1 (List.mem_cons_self ..)
        have hoi := offers_in (sorted_is s) o (by rw [hl]; exact List.mem_cons_self ..)
        obtain ⟨⟨a1, a2, a3⟩, a4, a5, a6⟩ := hoi
        have hin : s.inT o.tl o.al := ⟨⟨a4, by omega⟩, a1, by omega⟩
        refine ⟨o.tl, o.al, x, hin, hx, ?_, by rw [← hox]; rfl⟩
        refine (offer_does s _ _ x hin).1 ?_
        rw [hox]
        simp only [btw, Bool.and_eq_true, decide_eq_true_eq]
        omega
      · have := hmem t a x hin hx hd
        rcases List.mem_cons.1 this with e | h'
        · rw [← e]; exact Int.le_refl _
        · exact (List.pairwise_cons.1 hs).1 _ h'
theorem known_one {s : Shop} (hin : ∃ t a, s.inT t a) : ∀ R R', KnownSpec s R → KnownSpec s R' → R = R'
  | none, none, _, _ => rfl
  | none, some (lo, hi), ⟨t, a, h1, h2⟩, ⟨k, _⟩ => by obtain ⟨x, hx, hd, _⟩ := k t a h1; exact absurd hd (h2 x hx)
  | some (lo, hi), none, ⟨k, _⟩, ⟨t, a, h1, h2⟩ => by obtain ⟨x, hx, hd, _⟩ := k t a h1; exact absurd hd (h2 x hx)
  | some (lo, hi), some (lo', hi'), ⟨a1, ⟨t1, u1, b1, b2⟩, ⟨t2, u2, x2, c1, c2, c3, c4⟩, d1⟩, ⟨a1', ⟨t1', u1', b1', b2'⟩, ⟨t2', u2', x2', c1', c2', c3', c4'⟩, d1'⟩ => by
    have e1 : lo = lo' := by
      have := d1 _ _ _ c1' c2' c3'
      have := d1' _ _ _ c1 c2 c3
      omega
    have e2 : hi = hi' := by
      obtain ⟨x, hx, hd, hc⟩ := a1 t1' u1' b1'
      obtain ⟨y, hy, hdy, hcy⟩ := a1' t1 u1 b1
      have := b2' x hx hd
      have := b2 y hy hdy
      omega
    rw [e1, e2]
end Go.Proofs.Ytnlgchgpnfkjeaa
