/- Tin and antimony that change places: nothing turns. -/
import Derived.Test.YtnlgchgpnfkjeaaPF
import Derived.Test.YtnlgchgpnfkjeaaMC
namespace Go.Proofs.Ytnlgchgpnfkjeaa
set_option linter.unusedVariables false
set_option linter.unusedSimpArgs false
open Go.RowKit

def Pig.swap (p : Pig) : Pig := { p with t := p.a, a := p.t }
def Shop.swap (s : Shop) : Shop := { s with tl := s.al, th := s.ah, al := s.tl, ah := s.th, xl := s.yl, xh := s.yh, yl := s.xl, yh := s.xh, pigs := s.pigs.map Pig.swap }
theorem tot_swap (f : Pig → Int) : ∀ (ps : List Pig) (ns : List Int), tot f (ps.map Pig.swap) ns = tot (fun p => f p.swap) ps ns
  | [], ns => by simp [tot]
  | p :: ps, [] => by simp [tot]
  | p :: ps, n :: ns => by rw [List.map_cons, tot_cons, tot_cons, tot_swap f ps ns]
theorem swap_P (s : Shop) (x : List Int) : tot Pig.P s.swap.pigs x = tot Pig.P s.pigs x := tot_swap Pig.P s.pigs x
theorem swap_t (s : Shop) (x : List Int) : tot Pig.t s.swap.pigs x = tot Pig.a s.pigs x := tot_swap Pig.t s.pigs x
theorem swap_a (s : Shop) (x : List Int) : tot Pig.a s.swap.pigs x = tot Pig.t s.pigs x := tot_swap Pig.a s.pigs x
theorem swap_c (s : Shop) (x : List Int) : tot Pig.c s.swap.pigs x = tot Pig.c s.pigs x := tot_swap Pig.c s.pigs x
theorem swap_most (s : Shop) : s.swap.most = s.most := by
  simp [Shop.most, Shop.swap, Pig.swap, Function.comp_def]
theorem swap_room (s : Shop) (x : List Int) : s.swap.room? x = s.room? x := by
  unfold Shop.room?
  rw [swap_P]
  rfl
theorem swap_adds (s : Shop) : s.swap.adds = s.adds := by
  unfold Shop.adds
  rw [swap_most]
  exact List.filter_congr fun x _ => swap_room s x
theorem pigB_swap (P t a c m : Int) : pigB P a t c m = pigB P t a c m := by
  rw [Bool.eq_iff_iff]
  simp only [pigB, btw, Bool.and_eq_true, decide_eq_true_eq]
  omega
theorem swap_pig (p : Pig) : p.swap.ok = p.ok := pigB_swap p.P p.t p.a p.c p.m
theorem potB_swap (P tl th al ah : Int) : potB P al ah tl th = potB P tl th al ah := by
  rw [Bool.eq_iff_iff]
  simp only [potB, btw, spanB, Bool.and_eq_true, decide_eq_true_eq]
  omega
theorem swap_ok (s : Shop) : s.swap.ok = s.ok := by
  have h1 : s.swap.okH = s.okH := by
    unfold Shop.okH
    have e1 : potB s.swap.P s.swap.tl s.swap.th s.swap.al s.swap.ah = potB s.P s.tl s.th s.al s.ah := potB_swap s.P s.tl s.th s.al s.ah
    have e2 : s.swap.pigs.length = s.pigs.length := List.length_map _
    have e3 : s.swap.P = s.P := rfl
    have e4 : s.swap.room = s.room := rfl
    have e5 : spanB s.swap.xl s.swap.xh 1000 = spanB s.yl s.yh 1000 := rfl
    have e6 : spanB s.swap.yl s.swap.yh 1000 = spanB s.xl s.xh 1000 := rfl
    rw [e1, e2, e3, e4, e5, e6]
    cases potB s.P s.tl s.th s.al s.ah <;> cases decide (s.P ≤ s.room) <;> cases decide (s.room ≤ 999) <;> cases spanB s.xl s.xh 1000 <;> cases spanB s.yl s.yh 1000 <;> rfl
  unfold Shop.ok
  rw [h1]
  congr 1
  simp only [Shop.swap, List.all_map]
  congr 1
  funext p
  exact swap_pig p
theorem verdict_swap (tl th al ah l1 l2 l3 l4 : Int) : verdict al ah tl th l3 l4 l1 l2 = verdict tl th al ah l1 l2 l3 l4 := by
  unfold verdict
  rw [Bool.and_comm, Bool.or_comm]
theorem swap_safe (s : Shop) (x : List Int) : s.swap.safeOf x = s.safeOf x := by
  rw [safeOf_verdict, safeOf_verdict, swap_P, swap_t, swap_a]
  exact verdict_swap _ _ _ _ _ _ _ _
theorem swap_isAdd (s : Shop) (x : List Int) : s.swap.isAdd x = s.isAdd x := by
  unfold Shop.isAdd
  rw [swap_room]
  have h1 : s.swap.fewB x = s.fewB x := by
    have key : ∀ (ps : List Pig) (ns : List Int), ((ps.map Pig.swap).zip ns).all (fun x => btw x.2 0 x.1.m) = (ps.zip ns).all fun x => btw x.2 0 x.1.m := by
      intro ps
      induction ps with
      | nil => intro ns; rfl
      | cons p ps ih =>
        intro ns
        cases ns with
        | nil => rfl
        | cons n ns => simp only [List.map_cons, List.zip_cons_cons, List.all_cons, ih]; rfl
    exact key s.pigs x
  rw [h1]
  simp only [Shop.swap, List.length_map]
theorem swap_best (s : Shop) : s.swap.best 0 = s.best 0 := by
  unfold Shop.best bestOf
  rw [swap_adds]
  congr 1
  funext o x
  unfold stepBest
  rw [swap_safe]
  have : askF 0 s.swap x = askF 0 s x := swap_c s x
  rw [this]
theorem swap_cost (s : Shop) : s.swap.costN 0 = s.costN 0 := by unfold Shop.costN; rw [swap_best]
theorem swap_does (s : Shop) (t a : Int) (x : List Int) : s.swap.does a t x ↔ s.does t a x := by
  unfold Shop.does
  rw [swap_P, swap_t, swap_a]
  exact And.comm
theorem swap_in (s : Shop) (t a : Int) : s.swap.inT a t ↔ s.inT t a := And.comm
theorem swap_spec (s : Shop) : ∀ R, KnownSpec s R → KnownSpec s.swap R
  | none, ⟨t, a, h1, h2⟩ => ⟨a, t, (swap_in s t a).2 h1, fun x hx hd => h2 x (swap_adds s ▸ hx) ((swap_does s t a x).1 hd)⟩
  | some (lo, hi), ⟨h1, ⟨t, a, h2, h3⟩, ⟨t', a', x, h4, h5, h6, h7⟩, h8⟩ => by
    have hc : ∀ x, s.swap.cost x = s.cost x := fun x => swap_c s x
    refine ⟨fun t a hi => ?_, ⟨a, t, (swap_in s t a).2 h2, fun x hx hd => ?_⟩, ⟨a', t', x, (swap_in s t' a').2 h4, (swap_adds s).symm ▸ h5, (swap_does s t' a' x).2 h6, (hc x).trans h7⟩, fun t a x hi hx hd => ?_⟩
    · obtain ⟨x, hx, hd, hcx⟩ := h1 a t ((swap_in s a t).1 hi)
      exact ⟨x, (swap_adds s).symm ▸ hx, (swap_does s a t x).2 hd, (hc x).symm ▸ hcx⟩
    · rw [hc]; exact h3 x (swap_adds s ▸ hx) ((swap_does s t a x).1 hd)
    · rw [hc]; exact h8 a t x ((swap_in s a t).1 hi) (swap_adds s ▸ hx) ((swap_does s a t x).1 hd)
theorem swap_known {s : Shop} (ho : s.ok = true) : s.swap.knownR = s.knownR := by
  have hbd := Shop.ok_bd ho
  refine known_one (s := s.swap) ⟨s.al, s.tl, (swap_in s s.tl s.al).2 ⟨⟨by omega, by omega⟩, by omega, by omega⟩⟩ _ _ (known_spec ((swap_ok s).trans ho)) (swap_spec s _ (known_spec ho))
end Go.Proofs.Ytnlgchgpnfkjeaa
