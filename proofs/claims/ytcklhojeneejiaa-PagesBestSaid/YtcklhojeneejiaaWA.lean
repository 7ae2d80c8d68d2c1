/- Pages: what locks a page, as sums; which frames have no fewer; the fewest strips and what is lost, as the laws count them. -/
import Derived.Test.YtcklhojeneejiaaZP
import Derived.Test.YtcklhojeneejiaaZU
namespace Go.Proofs.Ytcklhojeneejiaa
set_option linter.unusedVariables false
set_option linter.unusedSimpArgs false
open Go.RowKit

/-- The strips of a layout together. -/
def sumA (t : List T3) : Int := (t.map T3.a).sum
def sumB (t : List T3) : Int := (t.map T3.b).sum
def sumC (t : List T3) : Int := (t.map T3.c).sum
def posS (s : T3) : Prop := 0 ≤ s.a ∧ 0 ≤ s.b ∧ 0 ≤ s.c
/-- These sets lock the columns of these rooms, with what there is. -/
def LayOk (f : PFrame) (rs : List (Int × Int)) (l : T3) (t : List T3) : Prop :=
  t.length = rs.length ∧ (∀ p ∈ rs.zip t, posS p.2 ∧ inRoom f p.1 p.2 = true) ∧ sumA t ≤ l.a ∧ sumB t ≤ l.b ∧ sumC t ≤ l.c
theorem pos_sums : ∀ {t : List T3} {rs : List (Int × Int)}, t.length = rs.length → (∀ p ∈ rs.zip t, posS p.2) → 0 ≤ sumA t ∧ 0 ≤ sumB t ∧ 0 ≤ sumC t
  | [], _, _, _ => by simp [sumA, sumB, sumC]
  | s :: t, [], h, _ => by simp at h
  | s :: t, r :: rs, h, hp => by
    have h1 := hp (r, s) (by simp)
    have h2 := pos_sums (t := t) (rs := rs) (by simpa using h) (fun p hq => hp p (by rw [List.zip_cons_cons]; exact List.mem_cons_of_mem _ hq))
    unfold posS at h1
    simp only [sumA, sumB, sumC, List.map_cons, List.sum_cons] at h2 ⊢
    simp only at h1
    omega
theorem mem_laysF {f : PFrame} : ∀ {rs : List (Int × Int)} {l : T3} {begun x : List T3}, posS l → (x ∈ laysF f rs l begun ↔ ∃ t, x = begun ++ t ∧ LayOk f rs l t)
  | [], l, begun, x, hl => by
    rw [laysF, List.mem_singleton]
    constructor
    · rintro rfl
      exact ⟨[], by simp, rfl, by simp, by simpa [sumA] using hl.1, by simpa [sumB] using hl.2.1, by simpa [sumC] using hl.2.2⟩
    · rintro ⟨t, rfl, ht, -⟩
      simp at ht; subst ht; simp
  | r :: rs, l, begun, x, hl => by
    rw [laysF, List.mem_flatMap]
    constructor
    · rintro ⟨s, hs, hx⟩
      obtain ⟨hs1, hs2⟩ := List.mem_filter.1 hs
      have hle := mem_allS.1 hs1
      have hsub : posS (subS l s) := by unfold leS at hle; unfold posS subS; simp only; omega
      obtain ⟨t, rfl, h1, h2, h3, h4, h5⟩ := (mem_laysF hsub).1 hx
      refine ⟨s :: t, by simp, by simp [h1], fun p hp => ?_, ?_, ?_, ?_⟩
      · rw [List.zip_cons_cons] at hp
        rcases List.mem_cons.1 hp with rfl | hp
        · exact ⟨by unfold leS at hle; unfold posS; simp only; omega, hs2⟩
        · exact h2 p hp
      · simp only [sumA, List.map_cons, List.sum_cons, subS] at h3 ⊢; omega
      · simp only [sumB, List.map_cons, List.sum_cons, subS] at h4 ⊢; omega
      · simp only [sumC, List.map_cons, List.sum_cons, subS] at h5 ⊢; omega
    · rintro ⟨t, rfl, h1, h2, h3, h4, h5⟩
      cases t with
      | nil => simp at h1
      | cons s t =>
        have hp := fun p hq => h2 p (by rw [List.zip_cons_cons]; exact List.mem_cons_of_mem _ hq)
        have hs := h2 (r, s) (by simp)
        have hb := pos_sums (t := t) (rs := rs) (by simpa using h1) (fun p hq => (hp p hq).1)
        unfold posS at hs
        simp only [sumA, sumB, sumC, List.map_cons, List.sum_cons] at h3 h4 h5 hb
        simp only at hs
        have hle : leS s l := by unfold leS; omega
        have hsub : posS (subS l s) := by unfold leS at hle; unfold posS subS; simp only; omega
        refine ⟨s, List.mem_filter.2 ⟨mem_allS.2 hle, hs.2⟩, (mem_laysF hsub).2 ⟨t, by simp, by simpa using h1, hp, ?_, ?_, ?_⟩⟩
        · simp only [sumA, subS]; omega
        · simp only [sumB, subS]; omega
        · simp only [sumC, subS]; omega
theorem stock_pos {f : PFrame} (ho : f.ok = true) : posS f.stock := ⟨(many_bd ho 0).1, (many_bd ho 1).1, (many_bd ho 2).1⟩
theorem mem_laysOf {f : PFrame} (ho : f.ok = true) (c : Nat) (x : List T3) : x ∈ f.lays c ↔ LayOk f (f.roomsOf c) f.stock x := by
  unfold PFrame.lays
  rw [mem_laysF (stock_pos ho)]
  constructor
  · rintro ⟨t, rfl, h⟩; simpa using h
  · intro h; exact ⟨x, by simp, h⟩
/-- Wider rooms. -/
def wider : List (Int × Int) → List (Int × Int) → Prop
  | [], [] => True
  | r :: rs, q :: qs => q.1 ≤ r.1 ∧ r.2 ≤ q.2 ∧ wider rs qs
  | _, _ => False
theorem wider_len : ∀ {rs qs : List (Int × Int)}, wider rs qs → rs.length = qs.length
  | [], [], _ => rfl
  | r :: rs, q :: qs, h => by simp [wider_len h.2.2]
  | [], q :: qs, h => by cases h
  | r :: rs, [], h => by cases h
theorem wider_map {α : Type} {F G : α → Int × Int} : ∀ {xs : List α}, (∀ x ∈ xs, (G x).1 ≤ (F x).1 ∧ (F x).2 ≤ (G x).2) → wider (xs.map F) (xs.map G)
  | [], _ => trivial
  | x :: xs, h => ⟨(h x (by simp)).1, (h x (by simp)).2, wider_map fun y hy => h y (by simp [hy])⟩
theorem wider_zip {f g : PFrame} (hp : ∀ s, g.pts s = f.pts s) : ∀ {rs qs : List (Int × Int)} {t : List T3}, wider rs qs → (∀ p ∈ rs.zip t, posS p.2 ∧ inRoom f p.1 p.2 = true) → ∀ p ∈ qs.zip t, posS p.2 ∧ inRoom g p.1 p.2 = true
  | [], [], t, _, _ => by simp
  | r :: rs, q :: qs, [], _, _ => by simp
  | r :: rs, q :: qs, s :: t, h, k => by
    intro p hq
    rw [List.zip_cons_cons] at hq
    rcases List.mem_cons.1 hq with rfl | hq
    · have h1 := k (r, s) (by simp)
      refine ⟨h1.1, ?_⟩
      have h2 := h1.2
      unfold inRoom btw at h2 ⊢
      rw [hp]
      simp only [decide_eq_true_eq] at h2 ⊢
      exact ⟨Int.le_trans h.1 h2.1, Int.le_trans h2.2 h.2.1⟩
    · exact wider_zip hp h.2.2 (fun p hq => k p (by rw [List.zip_cons_cons]; exact List.mem_cons_of_mem _ hq)) p hq
  | [], q :: qs, t, h, _ => by cases h
  | r :: rs, [], t, h, _ => by cases h
/-- With wider rooms, and no fewer strips, what locks the page does still. -/
theorem lays_wider {f g : PFrame} (hf : f.ok = true) (hg : g.ok = true) (hp : ∀ s, g.pts s = f.pts s) (hs : f.stock.a ≤ g.stock.a ∧ f.stock.b ≤ g.stock.b ∧ f.stock.c ≤ g.stock.c) (c : Nat) (hr : wider (f.roomsOf c) (g.roomsOf c)) (x : List T3) (hx : x ∈ f.lays c) : x ∈ g.lays c := by
  rw [mem_laysOf hf] at hx
  rw [mem_laysOf hg]
  obtain ⟨h1, h2, h3, h4, h5⟩ := hx
  exact ⟨h1.trans (wider_len hr), wider_zip hp hr h2, by omega, by omega, by omega⟩
/-- The best of several layouts. -/
theorem best_fold : ∀ (xs : List (List T3)) (o r : Option (List T3)), xs.foldl (fun o x => match o with | none => some x | some y => if cntL x < cntL y then some x else some y) o = r →
    (r = none ↔ o = none ∧ xs = []) ∧ ∀ l, r = some l → (o = some l ∨ l ∈ xs) ∧ (∀ y, o = some y → cntL l ≤ cntL y) ∧ ∀ x ∈ xs, cntL l ≤ cntL x
  | [], o, r, h => by
    simp only [List.foldl_nil] at h
    subst h
    exact ⟨by simp, fun l hl => ⟨.inl hl, fun y hy => by rw [hl] at hy; cases hy; exact Int.le_refl _, by simp⟩⟩
  | x :: xs, o, r, h => by
    rw [List.foldl_cons] at h
    obtain ⟨h1, h2⟩ := best_fold xs _ r h
    cases o with
    | none =>
      simp only at h1 h2
      refine ⟨by rw [h1]; simp, fun l hl => ?_⟩
      obtain ⟨k1, k2, k3⟩ := h2 l hl
      refine ⟨.inr ?_, fun y hy => (by cases hy), fun z hz => ?_⟩
      · rcases k1 with k | k
        · cases k; simp
        · simp [k]
      · rcases List.mem_cons.1 hz with rfl | hz
        · exact k2 _ rfl
        · exact k3 _ hz
    | some y =>
      simp only at h1 h2
      by_cases hc : cntL x < cntL y
      · rw [if_pos hc] at h1 h2
        refine ⟨by rw [h1]; simp, fun l hl => ?_⟩
        obtain ⟨k1, k2, k3⟩ := h2 l hl
        have k4 := k2 x rfl
        refine ⟨.inr ?_, fun z hz => (by cases hz; omega), fun z hz => ?_⟩
        · rcases k1 with k | k
          · cases k; simp
          · simp [k]
        · rcases List.mem_cons.1 hz with rfl | hz
          · exact k4
          · exact k3 _ hz
      · rw [if_neg hc] at h1 h2
        refine ⟨by rw [h1]; simp, fun l hl => ?_⟩
        obtain ⟨k1, k2, k3⟩ := h2 l hl
        have k4 := k2 y rfl
        refine ⟨?_, fun z hz => (by cases hz; exact k4), fun z hz => ?_⟩
        · rcases k1 with k | k
          · exact .inl k
          · exact .inr (by simp [k])
        · rcases List.mem_cons.1 hz with rfl | hz
          · omega
          · exact k3 _ hz
theorem bestL_none {xs : List (List T3)} : bestL xs = none ↔ xs = [] := by
  have h := (best_fold xs none _ rfl).1
  exact ⟨fun e => (h.1 e).2, fun e => h.2 ⟨rfl, e⟩⟩
theorem bestL_some {xs : List (List T3)} {l : List T3} (h : bestL xs = some l) : l ∈ xs ∧ ∀ x ∈ xs, cntL l ≤ cntL x := by
  obtain ⟨h1, -, h3⟩ := (best_fold xs none _ rfl).2 l h
  exact ⟨by rcases h1 with h | h; exact absurd h (by simp); exact h, h3⟩
/-- Strips as the laws count them. -/
def PFrame.stripsN (f : PFrame) : Int := match bestL (f.lays 0) with
  | none => 100000
  | some l => cntL l
theorem cntL_sum : ∀ t : List T3, cntL t = sumA t + sumB t + sumC t
  | [] => rfl
  | s :: t => by
    have h := cntL_sum t
    unfold cntL at h ⊢
    simp only [sumA, sumB, sumC, List.map_cons, List.sum_cons, cntS] at h ⊢
    omega
theorem lays_cnt {f : PFrame} (ho : f.ok = true) {c : Nat} {x : List T3} (hx : x ∈ f.lays c) : 0 ≤ cntL x ∧ cntL x ≤ 12 := by
  rw [mem_laysOf ho] at hx
  obtain ⟨h1, h2, h3, h4, h5⟩ := hx
  have h6 := pos_sums h1 (fun p hp => (h2 p hp).1)
  have m0 := many_bd ho 0
  have m1 := many_bd ho 1
  have m2 := many_bd ho 2
  rw [cntL_sum]
  simp only [PFrame.stock] at h3 h4 h5
  omega
/-- What Strips gives, for the laws. -/
theorem strips_are {f : PFrame} (ho : f.ok = true) : (f.strips4 = (0, 3) ∧ f.stripsN = 100000 ∧ f.lays 0 = []) ∨ (∃ n, f.strips4 = (n, 0) ∧ f.stripsN = n ∧ 0 ≤ n ∧ n ≤ 12 ∧ ∃ l ∈ f.lays 0, cntL l = n ∧ ∀ x ∈ f.lays 0, n ≤ cntL x) := by
  unfold PFrame.strips4 PFrame.stripsN
  rw [if_pos ho]
  cases hb : bestL (f.lays 0) with
  | none => exact .inl ⟨by rw [ho]; rfl, rfl, bestL_none.1 hb⟩
  | some l =>
    obtain ⟨h1, h2⟩ := bestL_some hb
    have h3 := lays_cnt ho h1
    exact .inr ⟨cntL l, rfl, rfl, h3.1, h3.2, l, h1, rfl, h2⟩
theorem strips_le {f g : PFrame} (hf : f.ok = true) (hg : g.ok = true) (h : ∀ x ∈ f.lays 0, x ∈ g.lays 0) : g.stripsN ≤ f.stripsN := by
  rcases strips_are hf with ⟨-, h1, h2⟩ | ⟨n, -, h1, h2, h3, l, h4, h5, h6⟩
  · rcases strips_are hg with ⟨-, k1, -⟩ | ⟨m, -, k1, k2, k3, -⟩ <;> omega
  · rcases strips_are hg with ⟨-, k1, k2⟩ | ⟨m, -, k1, k2, k3, -, -, -, k6⟩
    · have := h l h4; rw [k2] at this; cases this
    · have := k6 l (h l h4); omega
/-- How refusals compare, as far as pence go. -/
theorem cmpR_pay {x y : List Int} {p q : Int} : (cmpR x p y q < 0 → p ≤ q) ∧ (¬ cmpR x p y q < 0 → q ≤ p) := by
  unfold cmpR cmpZ
  simp only [orL]
  by_cases h1 : p < q
  · rw [if_pos h1]; constructor <;> intro h
    · omega
    · simp at h
  · rw [if_neg h1]
    by_cases h2 : q < p
    · rw [if_pos h2]; constructor <;> intro h
      · simp at h
      · omega
    · constructor <;> intro h <;> omega
theorem bestC_are (f : PFrame) : ∀ m : Nat, (f.bestC m = none ∧ ∀ c, c < m → f.locks c = false) ∨ ∃ b, f.bestC m = some b ∧ b < m ∧ f.locks b = true ∧ ∀ c, c < m → f.locks c = true → f.payTo b f.pieces.length ≤ f.payTo c f.pieces.length
  | 0 => .inl ⟨rfl, fun c h => absurd h (by omega)⟩
  | m + 1 => by
    rw [bestC_succ]
    have ih := bestC_are f m
    unfold PFrame.stepB
    rcases ih with ⟨h1, h2⟩ | ⟨b, h1, h2, h3, h4⟩
    · rw [h1]
      cases hl : f.locks m with
      | false => exact .inl ⟨by simp, fun c hc => by rcases Nat.lt_succ_iff_lt_or_eq.1 hc with h | rfl; exact h2 c h; exact hl⟩
      | true =>
        refine .inr ⟨m, by simp [PFrame.better], by omega, hl, fun c hc hc2 => ?_⟩
        rcases Nat.lt_succ_iff_lt_or_eq.1 hc with h | rfl
        · rw [h2 c h] at hc2; cases hc2
        · exact Int.le_refl _
    · rw [h1]
      cases hq : (f.better (some b) m && f.locks m) with
      | false =>
        refine .inr ⟨b, by simp, by omega, h3, fun c hc hc2 => ?_⟩
        rcases Nat.lt_succ_iff_lt_or_eq.1 hc with h | rfl
        · exact h4 c h hc2
        · rw [hc2, Bool.and_true] at hq
          unfold PFrame.better at hq
          simp only [decide_eq_false_iff_not] at hq
          exact cmpR_pay.2 hq
      | true =>
        simp only [Bool.and_eq_true] at hq
        obtain ⟨q1, q2⟩ := hq
        unfold PFrame.better at q1
        simp only [decide_eq_true_eq] at q1
        have q3 := cmpR_pay.1 q1
        refine .inr ⟨m, by simp, by omega, q2, fun c hc hc2 => ?_⟩
        rcases Nat.lt_succ_iff_lt_or_eq.1 hc with h | rfl
        · exact Int.le_trans q3 (h4 c h hc2)
        · exact Int.le_refl _
def PFrame.lostN (f : PFrame) : Int := match f.bestC (2 ^ f.pieces.length) with
  | none => 100000
  | some b => f.payTo b f.pieces.length
/-- What Lost gives, for the laws. -/
theorem lost_are {f : PFrame} (ho : f.ok = true) : (f.outP = 0 ∧ f.outErr = 3 ∧ f.lostN = 100000 ∧ f.outL = [] ∧ ∀ c, c < 2 ^ f.pieces.length → f.locks c = false) ∨
    (∃ n, f.outP = n ∧ f.outErr = 0 ∧ f.lostN = n ∧ 0 ≤ n ∧ n ≤ 594 ∧ ∃ b, b < 2 ^ f.pieces.length ∧ f.locks b = true ∧ f.payTo b f.pieces.length = n ∧ f.outL = pickR b f.pieces.length ∧ ∀ c, c < 2 ^ f.pieces.length → f.locks c = true → n ≤ f.payTo c f.pieces.length) := by
  unfold PFrame.outP PFrame.outErr PFrame.outL PFrame.lostN PFrame.out
  rw [if_pos ho]
  rcases bestC_are f (2 ^ f.pieces.length) with ⟨h1, h2⟩ | ⟨b, h1, h2, h3, h4⟩
  · rw [h1]; exact .inl ⟨rfl, by rw [ho]; rfl, rfl, rfl, h2⟩
  · rw [h1]
    have h5 := payTo_bd ho b f.pieces.length
    have h6 := (PFrame.ok_parts ho).2.2.2.2.2.1
    exact .inr ⟨f.payTo b f.pieces.length, rfl, rfl, rfl, h5.1, by omega, b, h2, h3, rfl, rfl, h4⟩
theorem lost_le {f g : PFrame} (hf : f.ok = true) (hg : g.ok = true) (hn : g.pieces.length = f.pieces.length) (hp : ∀ c, g.payTo c f.pieces.length = f.payTo c f.pieces.length) (h : ∀ c, f.locks c = true → g.locks c = true) : g.lostN ≤ f.lostN := by
  rcases lost_are hf with ⟨-, -, h1, -⟩ | ⟨n, -, -, h1, h2, h3, b, h4, h5, h6, -⟩
  · rcases lost_are hg with ⟨-, -, k1, -⟩ | ⟨m, -, -, k1, k2, k3, -⟩ <;> omega
  · rcases lost_are hg with ⟨-, -, k1, -, k2⟩ | ⟨m, -, -, k1, k2, k3, -, -, -, -, -, k6⟩
    · have := k2 b (by rw [hn]; exact h4); rw [h b h5] at this; cases this
    · have := k6 b (by rw [hn]; exact h4) (h b h5)
      rw [hn, hp, h6] at this
      omega
theorem locks_iff {f : PFrame} {c : Nat} : f.locks c = true ↔ ∃ x, x ∈ f.lays c := by
  unfold PFrame.locks
  cases h : f.lays c with
  | nil => simp
  | cons x xs => simp
/-- A frame that can be locked by all by which another one can loses no more. -/
theorem better_of {f g : PFrame} (hf : f.ok = true) (hg : g.ok = true) (hn : g.pieces.length = f.pieces.length) (hp : ∀ c, g.payTo c f.pieces.length = f.payTo c f.pieces.length) (h : ∀ c, ∀ x ∈ f.lays c, x ∈ g.lays c) : g.stripsN ≤ f.stripsN ∧ g.lostN ≤ f.lostN :=
  ⟨strips_le hf hg (h 0), lost_le hf hg hn hp fun c hc => by obtain ⟨x, hx⟩ := locks_iff.1 hc; exact locks_iff.2 ⟨x, h c x hx⟩⟩
theorem payTo_same {f g : PFrame} (h : ∀ i, g.pay i = f.pay i) (c : Nat) : ∀ n, g.payTo c n = f.payTo c n
  | 0 => rfl
  | n + 1 => by rw [PFrame.payTo, PFrame.payTo, payTo_same h c n, h]
/-- With one strip more of a kind. -/
theorem more_strip {f : PFrame} (ho : f.ok = true) (k : Nat) (hg : (f.stocked k (f.many k + 1)).ok = true) : (f.stocked k (f.many k + 1)).stripsN ≤ f.stripsN ∧ (f.stocked k (f.many k + 1)).lostN ≤ f.lostN := by
  have ht : ∀ i, (f.stocked k (f.many k + 1)).thick i = f.thick i := fun i => by
    unfold PFrame.thick PFrame.stocked PFrame.thick
    rw [List.getElem?_set]
    split
    · rename_i h; subst h
      split
      · rfl
      · rw [List.getElem?_eq_none (by omega)]
    · rfl
  have hm : ∀ i, f.many i ≤ (f.stocked k (f.many k + 1)).many i := fun i => by
    show f.many i ≤ (((f.strips.set k ⟨f.thick k, f.many k + 1⟩)[i]?).map Strip.m).getD 0
    rw [List.getElem?_set]
    split
    · rename_i h; subst h
      split
      · simp; omega
      · unfold PFrame.many; rw [List.getElem?_eq_none (by omega)]; simp
    · exact Int.le_refl _
  refine better_of ho hg rfl (fun c => payTo_same (f := f) (g := f.stocked k (f.many k + 1)) (fun i => rfl) c _) fun c x hx => lays_wider ho hg (fun s => ?_) ⟨hm 0, hm 1, hm 2⟩ c ?_ x hx
  · unfold PFrame.pts; rw [ht, ht, ht]
  · exact wider_map fun x _ => ⟨Int.le_refl _, Int.le_refl _⟩
/-- With more slack. -/
def PFrame.slacked (f : PFrame) (s : Int) : PFrame := { f with slack := s }
theorem more_slack {f : PFrame} (ho : f.ok = true) (s : Int) (hs : f.slack ≤ s) (hg : (f.slacked s).ok = true) : (f.slacked s).stripsN ≤ f.stripsN ∧ (f.slacked s).lostN ≤ f.lostN := by
  refine better_of ho hg rfl (fun c => payTo_same (f := f) (g := f.slacked s) (fun i => rfl) c _) fun c x hx => lays_wider ho hg (fun s => rfl) ⟨Int.le_refl _, Int.le_refl _, Int.le_refl _⟩ c ?_ x hx
  refine wider_map fun x _ => ⟨?_, Int.le_refl _⟩
  show max 0 (f.len - s - f.loS (keepC c x)) ≤ max 0 (f.len - f.slack - f.loS (keepC c x))
  omega
end Go.Proofs.Ytcklhojeneejiaa
