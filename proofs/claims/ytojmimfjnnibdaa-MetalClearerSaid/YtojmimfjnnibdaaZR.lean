/- A region in any order: reads and calls that lay blocks, a block made at any time among them, and one operation behind all. -/
import Derived.Test.YtojmimfjnnibdaaRows
import Derived.WalkKit
import Derived.WalkSpells
import Derived.WalkLawsBesides
import Derived.Lib.Hide
import Derived.StillTail
import Derived.Lib.QuietBelowIn
namespace Go.Proofs.Ytojmimfjnnibdaa
set_option linter.unusedVariables false
set_option linter.unusedSimpArgs false
open Go.RowKit Go.Sort

section
variable {F : Fence} {n : Nat} {P : Program} {ops : Array Oper} {Q : Exit → Act → World → Prop}

def unl (m : Nat) (L : Array Bool) : Nat := (List.range m).countP fun i => !L.getD i true
theorem countP_lt {α : Type} {p q : α → Bool} : ∀ {l : List α}, (∀ x ∈ l, q x = true → p x = true) → ∀ x ∈ l, p x = true → q x = false → l.countP q < l.countP p
  | y :: l, h, x, hx, hp, hq => by
    rw [List.countP_cons, List.countP_cons]
    rcases List.mem_cons.1 hx with rfl | hx
    · have : l.countP q ≤ l.countP p := List.countP_mono_left fun z hz => h z (List.mem_cons_of_mem _ hz)
      simp [hp, hq]; omega
    · have := countP_lt (fun z hz => h z (List.mem_cons_of_mem _ hz)) x hx hp hq
      by_cases hy : q y = true
      · simp [hy, h y (List.mem_cons_self ..) hy]; omega
      · simp [hy]; omega
theorem unl_set {m i : Nat} {L : Array Bool} (hi : i < m) (hL : i < L.size) (hu : L.getD i true = false) : unl m (L.setIfInBounds i true) < unl m L := by
  refine countP_lt (fun j _ hj => ?_) i (List.mem_range.2 hi) (by simp [hu]) (by simp [hL])
  by_cases hij : i = j
  · subst hij; simp [hL] at hj
  · simpa [getD_set_ne true hij] using hj

/-- A region in any order, by what holds of the operations that have come up. -/
theorem wpAnyIn_inv (I : Array Bool → Act → World → Prop) (hsz : ∀ L a w, I L a w → L.size = ops.size)
    (hstep : ∀ L a w i, I L a w → i ∈ Region.ready .any ops L → wpOpIn F n P ops Q i (I (L.setIfInBounds i true)) a w)
    (hend : ∀ L a w, I L a w → Region.ready .any ops L = [] → Q .normal a w) :
    ∀ (f : Nat) (L : Array Bool) (a : Act) (w : World), unl ops.size L ≤ f → I L a w → wpAnyIn F n P .any ops Q f L a w
  | 0, L, a, w, hf, h => by
    have hr : Region.ready .any ops L = [] := by
      refine List.eq_nil_iff_forall_not_mem.2 fun i hi => ?_
      obtain ⟨h0, o, ho, -⟩ := mem_ready.1 hi
      have hlt := (Array.getElem?_eq_some_iff.1 ho).1
      have := unl_set hlt (by rw [hsz L a w h]; exact hlt) h0
      omega
    exact ⟨hr, hend L a w h hr⟩
  | f + 1, L, a, w, hf, h => ⟨fun hr => hend L a w h hr, fun i hi => by
      obtain ⟨h0, o, ho, -⟩ := mem_ready.1 hi
      have hlt := (Array.getElem?_eq_some_iff.1 ho).1
      have := unl_set hlt (by rw [hsz L a w h]; exact hlt) h0
      exact wpOpIn_mono (fun a' w' h' => wpAnyIn_inv I hsz hstep hend f _ a' w' (by omega) h') (hstep L a w i h hi)⟩

/-- What must hold of a region's operations, by text: each waits for such as stand before it; no two write one temporary; who names what another writes waits for him, or he for it; none selects or defers. -/
def regionB (ops : List Oper) : Bool :=
  (List.range ops.length).all fun i => match ops[i]? with
    | none => true
    | some o => (o.after.all fun e => !Region.binds .any e || decide (e.on < i)) && (match o.op with | .select .. => false | .defer .. => false | _ => true) &&
      (List.range ops.length).all fun j => j == i || (match ops[j]? with
        | none => true
        | some u => (match u.dst with
          | none => true
          | some d => o.dst != some d && (!(o.looksAt ops.toArray).contains d || (o.after.any fun e => Region.binds .any e && e.on == j) || (u.after.any fun e => Region.binds .any e && e.on == i))))

/-- What the lexical walk leaves in each temporary: operation by operation. -/
def putsOf : List Oper → List Value → Act → Act
  | o :: l, v :: vs, a => putsOf l vs (a.put o.dst v)
  | _, _, a => a

theorem putsOf_size : ∀ (l : List Oper) (vs : List Value) (a : Act), (putsOf l vs a).tmps.size = a.tmps.size
  | [], _, _ => rfl
  | _ :: _, [], _ => rfl
  | o :: l, v :: vs, a => by rw [putsOf, putsOf_size l vs]; cases h : o.dst <;> simp [Act.put]
theorem putsOf_defers : ∀ (l : List Oper) (vs : List Value) (a : Act), (putsOf l vs a).defers = a.defers
  | [], _, _ => rfl
  | _ :: _, [], _ => rfl
  | o :: l, v :: vs, a => by rw [putsOf, putsOf_defers l vs]; cases h : o.dst <;> simp [Act.put]
theorem put_other (a : Act) (x : Option Tmp) (v : Value) (t : Nat) (h : x ≠ some t) : (a.put x v).tmps[t]? = a.tmps[t]? := by
  cases x with
  | none => rfl
  | some d => simp [Act.put, Array.getElem?_setIfInBounds_ne (show d ≠ t from fun e => h (by rw [e]))]
theorem putsOf_other (t : Nat) : ∀ (l : List Oper) (vs : List Value) (a : Act), (∀ o ∈ l, o.dst ≠ some t) → (putsOf l vs a).tmps[t]? = a.tmps[t]?
  | [], _, _, _ => rfl
  | _ :: _, [], _, _ => rfl
  | o :: l, v :: vs, a, h => by
    rw [putsOf, putsOf_other t l vs _ (fun o' ho' => h o' (List.mem_cons_of_mem _ ho')), put_other _ _ _ _ (h o (List.mem_cons_self ..))]
theorem putsOf_at (t : Nat) : ∀ (l : List Oper) (vs : List Value) (a : Act) (k : Nat) (v : Value), l[k]?.map (·.dst) = some (some t) → vs[k]? = some v → (∀ j, j ≠ k → l[j]?.map (·.dst) ≠ some (some t)) → vs.length = l.length →
    (putsOf l vs a).tmps[t]? = if t < a.tmps.size then some v else none
  | [], _, _, k, _, h, _, _, _ => by simp at h
  | _ :: _, [], _, _, _, _, h, _, _ => by simp at h
  | o :: l, u :: vs, a, 0, v, h, hv, hn, hl => by
    have ho : o.dst = some t := by simpa using h
    have hu : u = v := by simpa using hv
    have hno : ∀ o' ∈ l, o'.dst ≠ some t := fun o' ho' e => by
      obtain ⟨j, hj, rfl⟩ := List.getElem_of_mem ho'
      exact hn (j + 1) (by omega) (by simp [hj, e])
    rw [putsOf, putsOf_other t l vs _ hno, ho, hu]
    by_cases ht : t < a.tmps.size
    · simp [Act.put, ht]
    · simp [Act.put, ht]
  | o :: l, u :: vs, a, k + 1, v, h, hv, hn, hl => by
    rw [putsOf, putsOf_at t l vs _ k v (by simpa using h) (by simpa using hv) (fun j hj => by have := hn (j + 1) (by omega); simpa using this) (by simpa using hl)]
    have : (a.put o.dst u).tmps.size = a.tmps.size := by cases ho : o.dst <;> simp [Act.put]
    rw [this]

/-- What the lexical walk says of each operation. -/
theorem walk_at {C : World → Prop} {Kf : Act → Prop} : ∀ (l : List Oper) (a : Act), wpQuietIn F n P ops C Kf l a →
    ∃ vs : List Value, vs.length = l.length ∧ Kf (putsOf l vs a) ∧ ∀ i o v, l[i]? = some o → vs[i]? = some v → o.askedIn F P (putsOf (l.take i) vs a) C ∧
      ((Region.wanted o (yielded ops (putsOf (l.take i) vs a).tmps) = true ∧ ∀ w, C w → o.quietAtIn F n P (putsOf (l.take i) vs a) C w v) ∨ (Region.wanted o (yielded ops (putsOf (l.take i) vs a).tmps) = false ∧ v = undef))
  | [], a, h => ⟨[], rfl, h, fun i o v hi => by simp at hi⟩
  | o :: l, a, h => by
    obtain ⟨ha, h⟩ := h
    by_cases hw : Region.wanted o (yielded ops a.tmps) = true
    · rw [if_pos hw] at h
      obtain ⟨v, hv, hr⟩ := h
      obtain ⟨vs, hl, hk, hall⟩ := walk_at l _ hr
      refine ⟨v :: vs, by simp [hl], hk, fun i o' v' hi hv' => ?_⟩
      cases i with
      | zero =>
        have e1 : o = o' := by simpa using hi
        have e2 : v = v' := by simpa using hv'
        subst e1 e2
        exact ⟨ha, .inl ⟨hw, hv⟩⟩
      | succ i => simpa [putsOf] using hall i o' v' (by simpa using hi) (by simpa using hv')
    · rw [if_neg hw] at h
      obtain ⟨vs, hl, hk, hall⟩ := walk_at l _ h
      refine ⟨undef :: vs, by simp [hl], hk, fun i o' v' hi hv' => ?_⟩
      cases i with
      | zero =>
        have e1 : o = o' := by simpa using hi
        have e2 : undef = v' := by simpa using hv'
        subst e1 e2
        exact ⟨ha, .inr ⟨by simpa [putsOf] using hw, rfl⟩⟩
      | succ i => simpa [putsOf] using hall i o' v' (by simpa using hi) (by simpa using hv')

theorem eval_same {a a' : Act} {o : Oper} (h : ∀ t ∈ o.looksAt ops, a.tmps[t]? = a'.tmps[t]?) : ∀ x ∈ o.op.operands, a.eval x = a'.eval x := fun x hx => by
  cases x with
  | tmp t =>
    have h1 := h t (List.mem_append_left _ (List.mem_filterMap.2 ⟨.tmp t, by simpa using hx, rfl⟩))
    simp only [Act.eval, Array.getD_eq_getD_getElem?, h1]
  | _ => rfl
theorem wanted_same {a a' : Act} {o : Oper} (h : ∀ t ∈ o.looksAt ops, a.tmps[t]? = a'.tmps[t]?) : Region.wanted o (yielded ops a.tmps) = Region.wanted o (yielded ops a'.tmps) := by
  unfold Region.wanted
  cases hg : o.guard with
  | none => rfl
  | some gw =>
    obtain ⟨g, want⟩ := gw
    have hy : yielded ops a.tmps g = yielded ops a'.tmps g := by
      unfold yielded
      cases ht : (ops[g]?).bind (·.dst) with
      | none => rfl
      | some t => simp only [Option.bind_some, h t (by simp [Oper.looksAt, hg, ht])]
    simp only [hy]
end
end Go.Proofs.Ytojmimfjnnibdaa
