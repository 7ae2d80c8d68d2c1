/- PF PG PH, joined. -/
import Derived.Test.YtajabapcmpmboaaKH
import Derived.Test.YtajabapcmpmboaaMC
/- What Known means, in plain words. -/
namespace Go.Proofs.Ytajabapcmpmboaa
set_option linter.unusedVariables false
set_option linter.unusedSimpArgs false
open Go.RowKit

/-- The metal is within all limits with an addition, in a truth. -/
def Shop.does (s : Shop) (t a : Int) (x : List Int) : Prop :=
  (allowLo (s.P + tot Pig.P s.pigs x) s.xl ≤ t + tot Pig.t s.pigs x ∧ t + tot Pig.t s.pigs x ≤ allowHi (s.P + tot Pig.P s.pigs x) s.xh) ∧
  (allowLo (s.P + tot Pig.P s.pigs x) s.yl ≤ a + tot Pig.a s.pigs x ∧ a + tot Pig.a s.pigs x ≤ allowHi (s.P + tot Pig.P s.pigs x) s.yh)
def Shop.inT (s : Shop) (t a : Int) : Prop := (s.tl ≤ t ∧ t ≤ s.th) ∧ (s.al ≤ a ∧ a ≤ s.ah)
def Shop.cost (s : Shop) (x : List Int) : Int := tot Pig.c s.pigs x
theorem maxI_le (a b c : Int) : maxI a b ≤ c ↔ a ≤ c ∧ b ≤ c := by unfold maxI; split <;> omega
theorem le_minI (a b c : Int) : c ≤ minI a b ↔ c ≤ a ∧ c ≤ b := by unfold minI; split <;> omega
theorem offer_does (s : Shop) (t a : Int) (x : List Int) (h : s.inT t a) : (btw t (s.offerOf x).tl (s.offerOf x).th && btw a (s.offerOf x).al (s.offerOf x).ah) = true ↔ s.does t a x := by
  obtain ⟨⟨h1, h2⟩, h3, h4⟩ := h
  simp only [Shop.offerOf, btw, Bool.and_eq_true, decide_eq_true_eq, maxI_le, le_minI, Shop.does]
  constructor
  · rintro ⟨⟨⟨_, k1⟩, _, k2⟩, ⟨_, k3⟩, _, k4⟩; omega
  · rintro ⟨⟨k1, k2⟩, k3, k4⟩; omega
theorem offer_good (s : Shop) (t a : Int) (x : List Int) (h : s.inT t a) (hd : s.does t a x) : (s.offerOf x).good = true := by
  have := (offer_does s t a x h).2 hd
  simp only [btw, Bool.and_eq_true, decide_eq_true_eq] at this
  simp only [Offer.good, emptyB, Bool.and_eq_true, Bool.not_eq_true', decide_eq_false_iff_not]
  omega
theorem mem_sorted (s : Shop) (o : Offer) : o ∈ s.sorted ↔ ∃ x ∈ s.adds, s.offerOf x = o ∧ o.good = true := by
  rw [(sorted_is s).1.mem_iff]
  simp only [Shop.offersOf, List.mem_filter, List.mem_map]
  constructor
  · rintro ⟨⟨x, hx, rfl⟩, hg⟩; exact ⟨x, List.mem_filter.2 hx, rfl, hg⟩
  · rintro ⟨x, hx, rfl, hg⟩; exact ⟨⟨x, List.mem_filter.1 hx, rfl⟩, hg⟩
theorem cover_iff (s : Shop) (t a : Int) (h : s.inT t a) (l : List Offer) (hl : ∀ o ∈ l, o ∈ s.sorted) : cover t l a = true ↔ ∃ x ∈ s.adds, s.does t a x ∧ s.offerOf x ∈ l := by
  unfold cover
  rw [List.any_eq_true]
  constructor
  · rintro ⟨o, ho, hc⟩
    obtain ⟨x, hx, rfl, hg⟩ := (mem_sorted s o).1 (hl o ho)
    exact ⟨x, hx, (offer_does s t a x h).1 hc, ho⟩
  · rintro ⟨x, hx, hd, ho⟩
    exact ⟨_, ho, (offer_does s t a x h).2 hd⟩
theorem most_spec {al : Int} {n : Nat} {l : List Offer} {tl : Int} : ∀ (m : Nat) (h : Int), mostOf al n l m tl = some h →
    (∀ j : Nat, j < m → ∃ c, dearOf (tl + j) al n [] l = some c ∧ c ≤ h) ∧ (h = 0 ∨ ∃ j : Nat, j < m ∧ dearOf (tl + j) al n [] l = some h)
  | 0, h, e => by simp [mostOf] at e; exact ⟨fun j hj => by omega, .inl e.symm⟩
  | m + 1, h, e => by
    rw [mostOf] at e
    cases e1 : mostOf al n l m tl with
    | none => rw [e1] at e; simp at e
    | some h0 =>
      cases e2 : dearOf (tl + m) al n [] l with
      | none => rw [e1] at e; simp only [e2] at e; cases e
      | some c =>
        rw [e1] at e
        simp only [e2, Option.some.injEq] at e
        obtain ⟨i1, i2⟩ := most_spec m h0 e1
        have k1 : h0 ≤ h := by rw [← e]; unfold maxI; split <;> omega
        have k2 : c ≤ h := by rw [← e]; unfold maxI; split <;> omega
        have k3 : h = h0 ∨ h = c := by rw [← e]; unfold maxI; split <;> simp
        refine ⟨fun j hj => ?_, ?_⟩
        · rcases Nat.lt_or_ge j m with hlt | hge
          · obtain ⟨c', a1, a2⟩ := i1 j hlt
            exact ⟨c', a1, by omega⟩
          · obtain rfl : j = m := by omega
            exact ⟨c, e2, k2⟩
        · rcases k3 with rfl | rfl
          · rcases i2 with i2 | ⟨j, a1, a2⟩
            · exact .inl i2
            · exact .inr ⟨j, by omega, a2⟩
          · exact .inr ⟨m, by omega, e2⟩
theorem most_none {al : Int} {n : Nat} {l : List Offer} {tl : Int} : ∀ (m : Nat), mostOf al n l m tl = none → ∃ j : Nat, j < m ∧ dearOf (tl + j) al n [] l = none
  | 0, e => by simp [mostOf] at e
  | m + 1, e => by
    rw [mostOf] at e
    cases e1 : mostOf al n l m tl with
    | none => obtain ⟨j, h1, h2⟩ := most_none m e1; exact ⟨j, by omega, h2⟩
    | some h0 =>
      cases e2 : dearOf (tl + m) al n [] l with
      | none => exact ⟨m, by omega, e2⟩
      | some c => rw [e1] at e; simp only [e2] at e; cases e

/-- What Known's answer says of all truths. -/
def KnownSpec (s : Shop) : Option (Int × Int) → Prop
  | none => ∃ t a, s.inT t a ∧ ∀ x ∈ s.adds, ¬ s.does t a x
  | some (lo, hi) => (∀ t a, s.inT t a → ∃ x ∈ s.adds, s.does t a x ∧ s.cost x ≤ hi) ∧ (∃ t a, s.inT t a ∧ ∀ x ∈ s.adds, s.does t a x → hi ≤ s.cost x) ∧
      (∃ t a x, s.inT t a ∧ x ∈ s.adds ∧ s.does t a x ∧ s.cost x = lo) ∧ (∀ t a x, s.inT t a → x ∈ s.adds → s.does t a x → lo ≤ s.cost x)
theorem not_full {tin al : Int} {n : Nat} {l : List Offer} (h : ¬ Full tin al n l) : ∃ i : Nat, i < n ∧ cover tin l (al + i) = false := by
  apply Classical.byContradiction
  intro hc
  refine h fun i hi => ?_
  rcases hb : cover tin l (al + i) with - | -
  · exact absurd ⟨i, hi, hb⟩ hc
  · rfl
theorem known_spec {s : Shop} (ho : s.ok = true) : KnownSpec s s.knownR := by
  have hbd := Shop.ok_bd ho
  have hs := (sorted_is s).2
  have hms := mem_sorted s
  have hfair := fun o (h : o ∈ s.sorted) => (offer_fair ho h).1
  have hcov := fun t a h l hl => cover_iff s t a h l hl
  unfold Shop.knownR knownOf
  cases hl : s.sorted with
  | nil =>
    refine ⟨s.tl, s.al, ⟨⟨by omega, by omega⟩, by omega, by omega⟩, fun x hx hd => ?_⟩
    have := (hms (s.offerOf x)).2 ⟨x, hx, rfl, offer_good s _ _ x ⟨⟨by omega, by omega⟩, by omega, by omega⟩ hd⟩
    rw [hl] at this; cases this
  | cons o r =>
    rw [hl] at hs hms hfair hcov
    have hmem : ∀ t a x, s.inT t a → x ∈ s.adds → s.does t a x → s.offerOf x ∈ o :: r := fun t a x h hx hd => (hms _).2 ⟨x, hx, rfl, offer_good s t a x h hd⟩
    have hn1 : 1 ≤ (s.ah - s.al + 1).toNat := by omega
    simp only
    cases hm : mostOf s.al (s.ah - s.al + 1).toNat (o :: r) (s.th - s.tl + 1).toNat s.tl with
    | none =>
      obtain ⟨j, hj, hd⟩ := most_none _ hm
      have := dear_is (tin := s.tl + j) (al := s.al) hn1 hs _ hd
      obtain ⟨i, hi, hc⟩ := not_full this
      have hin : s.inT (s.tl + j) (s.al + i) := ⟨⟨by omega, by omega⟩, by omega, by omega⟩
      refine ⟨_, _, hin, fun x hx hdx => ?_⟩
      have := (hcov _ _ hin (o :: r) (fun o h => h)).2 ⟨x, hx, hdx, hmem _ _ x hin hx hdx⟩
      rw [hc] at this; cases this
    | some h =>
      obtain ⟨m1, m2⟩ := most_spec _ _ hm
      refine ⟨fun t a hin => ?_, ?_, ?_, fun t a x hin hx hd => ?_⟩
      · obtain ⟨⟨i1, i2⟩, i3, i4⟩ := hin
        obtain ⟨c, hd, hc⟩ := m1 (t - s.tl).toNat (by omega)
        have := (dear_is (tin := _) (al := s.al) hn1 hs _ hd).1 (a - s.al).toNat (by omega)
        have e1 : s.tl + ((t - s.tl).toNat : Int) = t := by omega
        have e2 : s.al + ((a - s.al).toNat : Int) = a := by omega
        rw [e1, e2] at this
        obtain ⟨x, hx, hdx, hmx⟩ := (hcov t a ⟨⟨i1, i2⟩, i3, i4⟩ _ (fun o h => (List.mem_filter.1 h).1)).1 this
        have := (List.mem_filter.1 hmx).2
        simp only [decide_eq_true_eq] at this
        exact ⟨x, hx, hdx, Int.le_trans this hc⟩
      · rcases m2 with rfl | ⟨j, hj, hd⟩
        · refine ⟨s.tl, s.al, ⟨⟨by omega, by omega⟩, by omega, by omega⟩, fun x hx hd => ?_⟩
          exact hfair _ (hmem _ _ x ⟨⟨by omega, by omega⟩, by omega, by omega⟩ hx hd)
        · have := (dear_is (tin := s.tl + j) (al := s.al) hn1 hs _ hd).2 (h - 1) (by omega)
          obtain ⟨i, hi, hc⟩ := not_full this
          have hin : s.inT (s.tl + j) (s.al + i) := ⟨⟨by omega, by omega⟩, by omega, by omega⟩
          refine ⟨_, _, hin, fun x hx hdx => ?_⟩
          rcases Int.lt_or_le (s.cost x) h with hlt | hge
          · have := (hcov _ _ hin (lev (h - 1) (o :: r)) (fun o h => (List.mem_filter.1 h).1)).2 ⟨x, hx, hdx, List.mem_filter.2 ⟨hmem _ _ x hin hx hdx, decide_eq_true (show s.cost x ≤ h - 1 by omega)⟩⟩
            rw [hc] at this; cases this
          · exact hge
      · obtain ⟨x, hx, hox, hg⟩ := (hms o).1 (List.mem_cons_self ..)
        have hoi := offers_in (sorted_is s) o (by rw [hl]; exact List.mem_cons_self ..)
        obtain ⟨⟨a1, a2, a3⟩, a4, a5, a6⟩ := hoi
        have hin : s.inT o.tl o.al := ⟨⟨a4, by omega⟩, a1, by omega⟩
        refine ⟨o.tl, o.al, x, hin, hx, ?_, by rw [← hox]; rfl⟩
        refine (offer_does s _ _ x hin).1 ?_
        rw [hox]
        simp only [btw, Bool.and_eq_true, decide_eq_true_eq]
        omega
      · have := hmem t a x hin hx hd
        rcases List.mem_cons.1 this with e | h'
        · rw [← e]; exact Int.le_refl _
        · exact (List.pairwise_cons.1 hs).1 _ h'
theorem known_one {s : Shop} (hin : ∃ t a, s.inT t a) : ∀ R R', KnownSpec s R → KnownSpec s R' → R = R'
  | none, none, _, _ => rfl
  | none, some (lo, hi), ⟨t, a, h1, h2⟩, ⟨k, _⟩ => by obtain ⟨x, hx, hd, _⟩ := k t a h1; exact absurd hd (h2 x hx)
  | some (lo, hi), none, ⟨k, _⟩, ⟨t, a, h1, h2⟩ => by obtain ⟨x, hx, hd, _⟩ := k t a h1; exact absurd hd (h2 x hx)
  | some (lo, hi), some (lo', hi'), ⟨a1, ⟨t1, u1, b1, b2⟩, ⟨t2, u2, x2, c1, c2, c3, c4⟩, d1⟩, ⟨a1', ⟨t1', u1', b1', b2'⟩, ⟨t2', u2', x2', c1', c2', c3', c4'⟩, d1'⟩ => by
    have e1 : lo = lo' := by
      have := d1 _ _ _ c1' c2' c3'
      have := d1' _ _ _ c1 c2 c3
      omega
    have e2 : hi = hi' := by
      obtain ⟨x, hx, hd, hc⟩ := a1 t1' u1' b1'
      obtain ⟨y, hy, hdy, hcy⟩ := a1' t1 u1 b1
      have := b2' x hx hd
      have := b2 y hy hdy
      omega
    rw [e1, e2]
end Go.Proofs.Ytajabapcmpmboaa

/- Tin and antimony that change places: nothing turns. -/
namespace Go.Proofs.Ytajabapcmpmboaa
set_option linter.unusedVariables false
set_option linter.unusedSimpArgs false
open Go.RowKit

def Pig.swap (p : Pig) : Pig := { p with t := p.a, a := p.t }
def Shop.swap (s : Shop) : Shop := { s with tl := s.al, th := s.ah, al := s.tl, ah := s.th, xl := s.yl, xh := s.yh, yl := s.xl, yh := s.xh, pigs := s.pigs.map Pig.swap }
theorem tot_swap (f : Pig → Int) : ∀ (ps : List Pig) (ns : List Int), tot f (ps.map Pig.swap) ns = tot (fun p => f p.swap) ps ns
  | [], ns => by simp [tot]
  | p :: ps, [] => by simp [tot]
  | p :: ps, n :: ns => by rw [List.map_cons, tot_cons, tot_cons, tot_swap f ps ns]
theorem swap_P (s : Shop) (x : List Int) : tot Pig.P s.swap.pigs x = tot Pig.P s.pigs x := tot_swap Pig.P s.pigs x
theorem swap_t (s : Shop) (x : List Int) : tot Pig.t s.swap.pigs x = tot Pig.a s.pigs x := tot_swap Pig.t s.pigs x
theorem swap_a (s : Shop) (x : List Int) : tot Pig.a s.swap.pigs x = tot Pig.t s.pigs x := tot_swap Pig.a s.pigs x
theorem swap_c (s : Shop) (x : List Int) : tot Pig.c s.swap.pigs x = tot Pig.c s.pigs x := tot_swap Pig.c s.pigs x
theorem swap_most (s : Shop) : s.swap.most = s.most := by
  simp [Shop.most, Shop.swap, Pig.swap, Function.comp_def]
theorem swap_room (s : Shop) (x : List Int) : s.swap.room? x = s.room? x := by
  unfold Shop.room?
  rw [swap_P]
  rfl
theorem swap_adds (s : Shop) : s.swap.adds = s.adds := by
  unfold Shop.adds
  rw [swap_most]
  exact List.filter_congr fun x _ => swap_room s x
theorem pigB_swap (P t a c m : Int) : pigB P a t c m = pigB P t a c m := by
  rw [Bool.eq_iff_iff]
  simp only [pigB, btw, Bool.and_eq_true, decide_eq_true_eq]
  omega
theorem swap_pig (p : Pig) : p.swap.ok = p.ok := pigB_swap p.P p.t p.a p.c p.m
theorem potB_swap (P tl th al ah : Int) : potB P al ah tl th = potB P tl th al ah := by
  rw [Bool.eq_iff_iff]
  simp only [potB, btw, spanB, Bool.and_eq_true, decide_eq_true_eq]
  omega
theorem swap_ok (s : Shop) : s.swap.ok = s.ok := by
  have h1 : s.swap.okH = s.okH := by
    unfold Shop.okH
    have e1 : potB s.swap.P s.swap.tl s.swap.th s.swap.al s.swap.ah = potB s.P s.tl s.th s.al s.ah := potB_swap s.P s.tl s.th s.al s.ah
    have e2 : s.swap.pigs.length = s.pigs.length := List.length_map _
    have e3 : s.swap.P = s.P := rfl
    have e4 : s.swap.room = s.room := rfl
    have e5 : spanB s.swap.xl s.swap.xh 1000 = spanB s.yl s.yh 1000 := rfl
    have e6 : spanB s.swap.yl s.swap.yh 1000 = spanB s.xl s.xh 1000 := rfl
    rw [e1, e2, e3, e4, e5, e6]
    cases potB s.P s.tl s.th s.al s.ah <;> cases decide (s.P ≤ s.room) <;> cases decide (s.room ≤ 999) <;> cases spanB s.xl s.xh 1000 <;> cases spanB s.yl s.yh 1000 <;> rfl
  unfold Shop.ok
  rw [h1]
  congr 1
  simp only [Shop.swap, List.all_map]
  congr 1
  funext p
  exact swap_pig p
theorem verdict_swap (tl th al ah l1 l2 l3 l4 : Int) : verdict al ah tl th l3 l4 l1 l2 = verdict tl th al ah l1 l2 l3 l4 := by
  unfold verdict
  rw [Bool.and_comm, Bool.or_comm]
theorem swap_safe (s : Shop) (x : List Int) : s.swap.safeOf x = s.safeOf x := by
  rw [safeOf_verdict, safeOf_verdict, swap_P, swap_t, swap_a]
  exact verdict_swap _ _ _ _ _ _ _ _
theorem swap_isAdd (s : Shop) (x : List Int) : s.swap.isAdd x = s.isAdd x := by
  unfold Shop.isAdd
  rw [swap_room]
  have h1 : s.swap.fewB x = s.fewB x := by
    have key : ∀ (ps : List Pig) (ns : List Int), ((ps.map Pig.swap).zip ns).all (fun x => btw x.2 0 x.1.m) = (ps.zip ns).all fun x => btw x.2 0 x.1.m := by
      intro ps
      induction ps with
      | nil => intro ns; rfl
      | cons p ps ih =>
        intro ns
        cases ns with
        | nil => rfl
        | cons n ns => simp only [List.map_cons, List.zip_cons_cons, List.all_cons, ih]; rfl
    exact key s.pigs x
  rw [h1]
  simp only [Shop.swap, List.length_map]
theorem swap_best (s : Shop) : s.swap.best 0 = s.best 0 := by
  unfold Shop.best bestOf
  rw [swap_adds]
  congr 1
  funext o x
  unfold stepBest
  rw [swap_safe]
  have : askF 0 s.swap x = askF 0 s x := swap_c s x
  rw [this]
theorem swap_cost (s : Shop) : s.swap.costN 0 = s.costN 0 := by unfold Shop.costN; rw [swap_best]
theorem swap_does (s : Shop) (t a : Int) (x : List Int) : s.swap.does a t x ↔ s.does t a x := by
  unfold Shop.does
  rw [swap_P, swap_t, swap_a]
  exact And.comm
theorem swap_in (s : Shop) (t a : Int) : s.swap.inT a t ↔ s.inT t a := And.comm
theorem swap_spec (s : Shop) : ∀ R, KnownSpec s R → KnownSpec s.swap R
  | none, ⟨t, a, h1, h2⟩ => ⟨a, t, (swap_in s t a).2 h1, fun x hx hd => h2 x (swap_adds s ▸ hx) ((swap_does s t a x).1 hd)⟩
  | some (lo, hi), ⟨h1, ⟨t, a, h2, h3⟩, ⟨t', a', x, h4, h5, h6, h7⟩, h8⟩ => by
    have hc : ∀ x, s.swap.cost x = s.cost x := fun x => swap_c s x
    refine ⟨fun t a hi => ?_, ⟨a, t, (swap_in s t a).2 h2, fun x hx hd => ?_⟩, ⟨a', t', x, (swap_in s t' a').2 h4, (swap_adds s).symm ▸ h5, (swap_does s t' a' x).2 h6, (hc x).trans h7⟩, fun t a x hi hx hd => ?_⟩
    · obtain ⟨x, hx, hd, hcx⟩ := h1 a t ((swap_in s a t).1 hi)
      exact ⟨x, (swap_adds s).symm ▸ hx, (swap_does s a t x).2 hd, (hc x).symm ▸ hcx⟩
    · rw [hc]; exact h3 x (swap_adds s ▸ hx) ((swap_does s t a x).1 hd)
    · rw [hc]; exact h8 a t x ((swap_in s a t).1 hi) (swap_adds s ▸ hx) ((swap_does s a t x).1 hd)
theorem swap_known {s : Shop} (ho : s.ok = true) : s.swap.knownR = s.knownR := by
  have hbd := Shop.ok_bd ho
  refine known_one (s := s.swap) ⟨s.al, s.tl, (swap_in s s.tl s.al).2 ⟨⟨by omega, by omega⟩, by omega, by omega⟩⟩ _ _ (known_spec ((swap_ok s).trans ho)) (swap_spec s _ (known_spec ho))
end Go.Proofs.Ytajabapcmpmboaa

/- Far. -/
namespace Go.Proofs.Ytajabapcmpmboaa
set_option linter.unusedVariables false
set_option linter.unusedSimpArgs false
open Go.RowKit

def SomeBool (w : World) (e : Ending) (w' : World) : Prop := ∃ b : Bool, e = .returned (.bool b) ∧ Below w.heap.size w w'
set_option maxRecDepth 100000 in
set_option maxHeartbeats 2000000 in
theorem Far_any (s : Shop) (a : Option Addr) (len cap : Nat) (w : World) (hp : PigsAt w a len s.pigs) :
    Calls Try.prog 38 #[.agg #[.int .i64 s.P, .int .i64 s.tl, .int .i64 s.th, .int .i64 s.al, .int .i64 s.ah, .int .i64 s.room, .int .i64 s.xl, .int .i64 s.xh, .int .i64 s.yl, .int .i64 s.yh, .slice a len cap]] w (SomeBool w) := by
  rcases Nat.lt_or_ge 40 len with h40 | h40
  · have HH := fun w1 => Huge_any s a len cap w1
    rw [show decide (40 < len) = true by simpa using h40] at HH
    replace HH := Lib.hid HH
    clear hp h40
    go_enter Try.func38, Try.ntmps38
    go_wp2_with fail
    refine (HH.out _).mono ?_; rintro e w1 ⟨rfl, hb1⟩; obtain ⟨hc1, hf1⟩ := bcell hb1; have hz1 := hb1.size; (try simp at hz1); have hw1 := ((by repeat (first | assumption | exact Below.refl _ _ | (refine Below.alloc ?_ (by first | omega | (simp; omega) | simp) _) | (refine Below.setCell ?_ (by first | omega | (simp; omega) | simp) _) | refine Below.drew ?_)) : Below w.heap.size w _).trans (hb1.mono (by first | (simp; done) | (simp; omega) | omega)); clear hb1; have p1 : w.heap.size < w1.heap.size := (by omega); go_wp2_with fail
    go_ret
    exact ⟨_, rfl, hw1⟩
  · have HH := fun w1 => Huge_any s a len cap w1
    rw [show decide (40 < len) = false by simpa using h40] at HH
    replace HH := Lib.hid HH
    rcases ho : s.ok with - | -
    · have HC := Lib.hid (fun w1 (hb : Below w.heap.size w w1) => refCheck_is s a len cap 10 (by simp [Shop.chk, ho]) w1 (hp.below hb))
      clear hp h40 ho
      go_enter Try.func38, Try.ntmps38
      go_wp2_with fail
      refine (HH.out _).mono ?_; rintro e w1 ⟨rfl, hb1⟩; obtain ⟨hc1, hf1⟩ := bcell hb1; have hz1 := hb1.size; (try simp at hz1); have hw1 := ((by repeat (first | assumption | exact Below.refl _ _ | (refine Below.alloc ?_ (by first | omega | (simp; omega) | simp) _) | (refine Below.setCell ?_ (by first | omega | (simp; omega) | simp) _) | refine Below.drew ?_)) : Below w.heap.size w _).trans (hb1.mono (by first | (simp; done) | (simp; omega) | omega)); clear hb1; have p1 : w.heap.size < w1.heap.size := (by omega); go_wp2_with fail
      refine (HC.out _ hw1).mono ?_; rintro e w2 ⟨rfl, hb2⟩; obtain ⟨hc2, hf2⟩ := bcell hb2; have hz2 := hb2.size; (try simp at hz2); have hw2 := ((by repeat (first | assumption | exact Below.refl _ _ | (refine Below.alloc ?_ (by first | omega | (simp; omega) | simp) _) | (refine Below.setCell ?_ (by first | omega | (simp; omega) | simp) _) | refine Below.drew ?_)) : Below w.heap.size w _).trans (hb2.mono (by first | (simp; done) | (simp; omega) | omega)); clear hb2; have p2 : w.heap.size < w2.heap.size := (by omega); go_wp2_with fail
      go_ret
      exact ⟨_, rfl, hw2⟩
    · have HC := Lib.hid (fun w1 (hb : Below w.heap.size w w1) => refCheck_is s a len cap 0 (by simp [Shop.chk, ho]) w1 (hp.below hb))
      have HP := Lib.hid (fun w1 (hb : Below w.heap.size w w1) => hp.below hb)
      have hbd := Shop.ok_bd ho
      have hl4 : len ≤ 4 := by have := hp.1; omega
      have k1 : 0 ≤ s.tl ∧ s.tl ≤ s.th ∧ s.th ≤ 400 := by omega
      have k2 : 0 ≤ s.al ∧ s.al ≤ s.ah ∧ s.ah ≤ 400 := by omega
      have HM := Lib.hid (fun (k : Nat) (h : k < s.pigs.length) => (Pig.ok_bd (Shop.ok_pig ho k h)))
      clear hp h40 hbd ho
      obtain ⟨k1a, k1b, k1c⟩ := k1
      obtain ⟨k2a, k2b, k2c⟩ := k2
      go_enter Try.func38, Try.ntmps38
      go_wp2_with fail
      refine (HH.out _).mono ?_
      rintro e w1 ⟨rfl, hb1⟩
      obtain ⟨hc1, hf1⟩ := bcell hb1
      have hz1 := hb1.size
      simp at hz1
      have hw1 := ((by repeat (first | exact Below.refl _ _ | (refine Below.alloc ?_ (by first | omega | (simp; omega) | simp) _) | (refine Below.setCell ?_ (by first | omega | (simp; omega) | simp) _) | refine Below.drew ?_)) : Below w.heap.size w _).trans (hb1.mono (by simp))
      clear hb1
      have p1 : w.heap.size < w1.heap.size := by omega
      go_wp2_with fail
      refine (HC.out _ hw1).mono ?_
      rintro e w2 ⟨rfl, hb2⟩
      obtain ⟨hc2, hf2⟩ := bcell hb2
      have hz2 := hb2.size
      have hw2 := hw1.trans (hb2.mono hw1.size)
      clear hb2
      have p2 : w.heap.size < w2.heap.size := by omega
      go_wp2_with fail
      go_loop [3, 4] (fun n i => ∃ (k : Nat) (m : Int), k ≤ len ∧ i = .int .i64 k ∧ n = .int .i64 m) (fun _ i => len - (intOf i).toNat)
      case atStart => exact ⟨0, _, Nat.zero_le _, rfl, rfl⟩
      case round =>
        obtain ⟨k, m, hk, rfl, rfl⟩ := hrel
        by_cases hlt : k < len
        · obtain ⟨hl, hm, hc⟩ := HP.out _ hw2
          obtain ⟨b, o, rfl, hb, hat⟩ := hc (by omega)
          have hk2 : k < s.pigs.length := by omega
          have c4 := (hat k hk2).2.2.2.2
          have hq := HM.out k hk2
          generalize s.pigs[k] = q at *
          clear hat hc
          have q1 := hq.2.2.2.2.2.2.2.1
          have q2 := hq.2.2.2.2.2.2.2.2
          clear hq hl hm
          have hlt2 : (k : Int) < (len : Int) := by omega
          go_wp2_with fail
          go_round
          case rel => exact ⟨k + 1, _, by omega, by go_num, rfl⟩
          case measure => simp [intOf]; omega
        · have hlt2 : ¬ (k : Int) < (len : Int) := by omega
          go_wp2_with fail
          go_ret
          exact ⟨_, rfl, hw2⟩
end Go.Proofs.Ytajabapcmpmboaa
