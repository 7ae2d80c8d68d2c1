/- ZR ZS ZT, joined. -/
import Derived.Test.YtajabapcmpmboaaRows
import Derived.WalkKit
import Derived.WalkSpells
import Derived.WalkLawsBesides
import Derived.Lib.Hide
import Derived.StillTail
import Derived.Lib.QuietBelowIn
import Derived.RangeFuncRecord
import Derived.TacticsIn
/- A region in any order: reads and calls that lay blocks, a block made at any time among them, and one operation behind all. -/
namespace Go.Proofs.Ytajabapcmpmboaa
set_option linter.unusedVariables false
set_option linter.unusedSimpArgs false
open Go.RowKit Go.Sort

section
variable {F : Fence} {n : Nat} {P : Program} {ops : Array Oper} {Q : Exit → Act → World → Prop}

def unl (m : Nat) (L : Array Bool) : Nat := (List.range m).countP fun i => !L.getD i true
theorem countP_lt {α : Type} {p q : α → Bool} : ∀ {l : List α}, (∀ x ∈ l, q x = true → p x = true) → ∀ x ∈ l, p x = true → q x = false → l.countP q < l.countP p
  | y :: l, h, x, hx, hp, hq => by
    rw [List.countP_cons, List.countP_cons]
    rcases List.mem_cons.1 hx with rfl | hx
    · have : l.countP q ≤ l.countP p := List.countP_mono_left fun z hz => h z (List.mem_cons_of_mem _ hz)
      simp [hp, hq]; omega
    · have := countP_lt (fun z hz => h z (List.mem_cons_of_mem _ hz)) x hx hp hq
      by_cases hy : q y = true
      · simp [hy, h y (List.mem_cons_self ..) hy]; omega
      · simp [hy]; omega
theorem unl_set {m i : Nat} {L : Array Bool} (hi : i < m) (hL : i < L.size) (hu : L.getD i true = false) : unl m (L.setIfInBounds i true) < unl m L := by
  refine countP_lt (fun j _ hj => ?_) i (List.mem_range.2 hi) (by simp [hu]) (by simp [hL])
  by_cases hij : i = j
  · subst hij; simp [hL] at hj
  · simpa [getD_set_ne true hij] using hj

/-- A region in any order, by what holds of the operations that have come up. -/
theorem wpAnyIn_inv (I : Array Bool → Act → World → Prop) (hsz : ∀ L a w, I L a w → L.size = ops.size)
    (hstep : ∀ L a w i, I L a w → i ∈ Region.ready .any ops L → wpOpIn F n P ops Q i (I (L.setIfInBounds i true)) a w)
    (hend : ∀ L a w, I L a w → Region.ready .any ops L = [] → Q .normal a w) :
    ∀ (f : Nat) (L : Array Bool) (a : Act) (w : World), unl ops.size L ≤ f → I L a w → wpAnyIn F n P .any ops Q f L a w
  | 0, L, a, w, hf, h => by
    have hr : Region.ready .any ops L = [] := by
      refine List.eq_nil_iff_forall_not_mem.2 fun i hi => ?_
      obtain ⟨h0, o, ho, -⟩ := mem_ready.1 hi
      have hlt := (Array.getElem?_eq_some_iff.1 ho).1
      have := unl_set hlt (by rw [hsz L a w h]; exact hlt) h0
      omega
    exact ⟨hr, hend L a w h hr⟩
  | f + 1, L, a, w, hf, h => ⟨fun hr => hend L a w h hr, fun i hi => by
      obtain ⟨h0, o, ho, -⟩ := mem_ready.1 hi
      have hlt := (Array.getElem?_eq_some_iff.1 ho).1
      have := unl_set hlt (by rw [hsz L a w h]; exact hlt) h0
      exact wpOpIn_mono (fun a' w' h' => wpAnyIn_inv I hsz hstep hend f _ a' w' (by omega) h') (hstep L a w i h hi)⟩

/-- What must hold of a region's operations, by text: each waits for such as stand before it; no two write one temporary; who names what another writes waits for him, or he for it; none selects or defers. -/
def regionB (ops : List Oper) : Bool :=
  (List.range ops.length).all fun i => match ops[i]? with
    | none => true
    | some o => (o.after.all fun e => !Region.binds .any e || decide (e.on < i)) && (match o.op with | .select .. => false | .defer .. => false | _ => true) &&
      (List.range ops.length).all fun j => j == i || (match ops[j]? with
        | none => true
        | some u => (match u.dst with
          | none => true
          | some d => o.dst != some d && (!(o.looksAt ops.toArray).contains d || (o.after.any fun e => Region.binds .any e && e.on == j) || (u.after.any fun e => Region.binds .any e && e.on == i))))

/-- What the lexical walk leaves in each temporary: operation by operation. -/
def putsOf : List Oper → List Value → Act → Act
  | o :: l, v :: vs, a => putsOf l vs (a.put o.dst v)
  | _, _, a => a

theorem putsOf_size : ∀ (l : List Oper) (vs : List Value) (a : Act), (putsOf l vs a).tmps.size = a.tmps.size
  | [], _, _ => rfl
  | _ :: _, [], _ => rfl
  | o :: l, v :: vs, a => by rw [putsOf, putsOf_size l vs]; cases h : o.dst <;> simp [Act.put]
theorem putsOf_defers : ∀ (l : List Oper) (vs : List Value) (a : Act), (putsOf l vs a).defers = a.defers
  | [], _, _ => rfl
  | _ :: _, [], _ => rfl
  | o :: l, v :: vs, a => by rw [putsOf, putsOf_defers l vs]; cases h : o.dst <;> simp [Act.put]
theorem put_other (a : Act) (x : Option Tmp) (v : Value) (t : Nat) (h : x ≠ some t) : (a.put x v).tmps[t]? = a.tmps[t]? := by
  cases x with
  | none => rfl
  | some d => simp [Act.put, Array.getElem?_setIfInBounds_ne (show d ≠ t from fun e => h (by rw [e]))]
theorem putsOf_other (t : Nat) : ∀ (l : List Oper) (vs : List Value) (a : Act), (∀ o ∈ l, o.dst ≠ some t) → (putsOf l vs a).tmps[t]? = a.tmps[t]?
  | [], _, _, _ => rfl
  | _ :: _, [], _, _ => rfl
  | o :: l, v :: vs, a, h => by
    rw [putsOf, putsOf_other t l vs _ (fun o' ho' => h o' (List.mem_cons_of_mem _ ho')), put_other _ _ _ _ (h o (List.mem_cons_self ..))]
theorem putsOf_at (t : Nat) : ∀ (l : List Oper) (vs : List Value) (a : Act) (k : Nat) (v : Value), l[k]?.map (·.dst) = some (some t) → vs[k]? = some v → (∀ j, j ≠ k → l[j]?.map (·.dst) ≠ some (some t)) → vs.length = l.length →
    (putsOf l vs a).tmps[t]? = if t < a.tmps.size then some v else none
  | [], _, _, k, _, h, _, _, _ => by simp at h
  | _ :: _, [], _, _, _, _, h, _, _ => by simp at h
  | o :: l, u :: vs, a, 0, v, h, hv, hn, hl => by
    have ho : o.dst = some t := by simpa using h
    have hu : u = v := by simpa using hv
    have hno : ∀ o' ∈ l, o'.dst ≠ some t := fun o' ho' e => by
      obtain ⟨j, hj, rfl⟩ := List.getElem_of_mem ho'
      exact hn (j + 1) (by omega) (by simp [hj, e])
    rw [putsOf, putsOf_other t l vs _ hno, ho, hu]
    by_cases ht : t < a.tmps.size
    · simp [Act.put, ht]
    · simp [Act.put, ht]
  | o :: l, u :: vs, a, k + 1, v, h, hv, hn, hl => by
    rw [putsOf, putsOf_at t l vs _ k v (by simpa using h) (by simpa using hv) (fun j hj => by have := hn (j + 1) (by omega); simpa using this) (by simpa using hl)]
    have : (a.put o.dst u).tmps.size = a.tmps.size := by cases ho : o.dst <;> simp [Act.put]
    rw [this]

/-- What the lexical walk says of each operation. -/
theorem walk_at {C : World → Prop} {Kf : Act → Prop} : ∀ (l : List Oper) (a : Act), wpQuietIn F n P ops C Kf l a →
    ∃ vs : List Value, vs.length = l.length ∧ Kf (putsOf l vs a) ∧ ∀ i o v, l[i]? = some o → vs[i]? = some v → o.askedIn F P (putsOf (l.take i) vs a) C ∧
      ((Region.wanted o (yielded ops (putsOf (l.take i) vs a).tmps) = true ∧ ∀ w, C w → o.quietAtIn F n P (putsOf (l.take i) vs a) C w v) ∨ (Region.wanted o (yielded ops (putsOf (l.take i) vs a).tmps) = false ∧ v = undef))
  | [], a, h => ⟨[], rfl, h, fun i o v hi => by simp at hi⟩
  | o :: l, a, h => by
    obtain ⟨ha, h⟩ := h
    by_cases hw : Region.wanted o (yielded ops a.tmps) = true
    · rw [if_pos hw] at h
      obtain ⟨v, hv, hr⟩ := h
      obtain ⟨vs, hl, hk, hall⟩ := walk_at l _ hr
      refine ⟨v :: vs, by simp [hl], hk, fun i o' v' hi hv' => ?_⟩
      cases i with
      | zero =>
        have e1 : o = o' := by simpa using hi
        have e2 : v = v' := by simpa using hv'
        subst e1 e2
        exact ⟨ha, .inl ⟨hw, hv⟩⟩
      | succ i => simpa [putsOf] using hall i o' v' (by simpa using hi) (by simpa using hv')
    · rw [if_neg hw] at h
      obtain ⟨vs, hl, hk, hall⟩ := walk_at l _ h
      refine ⟨undef :: vs, by simp [hl], hk, fun i o' v' hi hv' => ?_⟩
      cases i with
      | zero =>
        have e1 : o = o' := by simpa using hi
        have e2 : undef = v' := by simpa using hv'
        subst e1 e2
        exact ⟨ha, .inr ⟨by simpa [putsOf] using hw, rfl⟩⟩
      | succ i => simpa [putsOf] using hall i o' v' (by simpa using hi) (by simpa using hv')

theorem eval_same {a a' : Act} {o : Oper} (h : ∀ t ∈ o.looksAt ops, a.tmps[t]? = a'.tmps[t]?) : ∀ x ∈ o.op.operands, a.eval x = a'.eval x := fun x hx => by
  cases x with
  | tmp t =>
    have h1 := h t (List.mem_append_left _ (List.mem_filterMap.2 ⟨.tmp t, by simpa using hx, rfl⟩))
    simp only [Act.eval, Array.getD_eq_getD_getElem?, h1]
  | _ => rfl
theorem wanted_same {a a' : Act} {o : Oper} (h : ∀ t ∈ o.looksAt ops, a.tmps[t]? = a'.tmps[t]?) : Region.wanted o (yielded ops a.tmps) = Region.wanted o (yielded ops a'.tmps) := by
  unfold Region.wanted
  cases hg : o.guard with
  | none => rfl
  | some gw =>
    obtain ⟨g, want⟩ := gw
    have hy : yielded ops a.tmps g = yielded ops a'.tmps g := by
      unfold yielded
      cases ht : (ops[g]?).bind (·.dst) with
      | none => rfl
      | some t => simp only [Option.bind_some, h t (by simp [Oper.looksAt, hg, ht])]
    simp only [hy]
end
end Go.Proofs.Ytajabapcmpmboaa

/- A region in any order: the theorem. -/
namespace Go.Proofs.Ytajabapcmpmboaa
set_option linter.unusedVariables false
set_option linter.unusedSimpArgs false
open Go.RowKit Go.Sort

section
variable {F : Fence} {n : Nat} {P : Program} {Q : Exit → Act → World → Prop}

theorem regionB_spec {ops : List Oper} (h : regionB ops = true) {i : Nat} {o : Oper} (hi : ops[i]? = some o) :
    (∀ e ∈ o.after, Region.binds .any e = true → e.on < i) ∧ (∀ cs b, o.op ≠ .select cs b) ∧ (∀ c, o.op ≠ .defer c) ∧
    ∀ j u d, j ≠ i → ops[j]? = some u → u.dst = some d → o.dst ≠ some d ∧ (d ∈ o.looksAt ops.toArray → (∃ e ∈ o.after, Region.binds .any e = true ∧ e.on = j) ∨ (∃ e ∈ u.after, Region.binds .any e = true ∧ e.on = i)) := by
  have hlt : i < ops.length := (List.getElem?_eq_some_iff.1 hi).1
  have h1 := List.all_eq_true.1 h i (List.mem_range.2 hlt)
  simp only [hi, Bool.and_eq_true] at h1
  obtain ⟨⟨ha, hb⟩, hc⟩ := h1
  refine ⟨fun e he hbd => ?_, (fun cs b e => by rw [e] at hb; cases hb), (fun c e => by rw [e] at hb; cases hb), fun j u d hj hu hd => ?_⟩
  · have := Array.all_eq_true_iff_forall_mem.1 ha e he
    simpa [hbd] using this
  · have hjl : j < ops.length := (List.getElem?_eq_some_iff.1 hu).1
    have h2 := List.all_eq_true.1 hc j (List.mem_range.2 hjl)
    simp only [hu, hd, Bool.or_eq_true, beq_iff_eq, hj, false_or, Bool.and_eq_true, bne_iff_ne] at h2
    refine ⟨h2.1, fun hmem => ?_⟩
    rcases h2.2 with h3 | h3
    rcases h3 with h3 | h3
    · exact absurd hmem (by simpa using h3)
    · obtain ⟨e, he, hq⟩ := Array.any_eq_true'.1 h3
      simp only [Bool.and_eq_true, beq_iff_eq] at hq
      exact .inl ⟨e, he, hq.1, hq.2⟩
    · obtain ⟨e, he, hq⟩ := Array.any_eq_true'.1 h3
      simp only [Bool.and_eq_true, beq_iff_eq] at hq
      exact .inr ⟨e, he, hq.1, hq.2⟩
theorem regionB_arr {ops : Array Oper} (h : regionB ops.toList = true) {i : Nat} {o : Oper} (hi : ops[i]? = some o) :
    (∀ e ∈ o.after, Region.binds .any e = true → e.on < i) ∧ (∀ cs b, o.op ≠ .select cs b) ∧ (∀ c, o.op ≠ .defer c) ∧
    ∀ j u d, j ≠ i → ops[j]? = some u → u.dst = some d → o.dst ≠ some d ∧ (d ∈ o.looksAt ops → (∃ e ∈ o.after, Region.binds .any e = true ∧ e.on = j) ∨ (∃ e ∈ u.after, Region.binds .any e = true ∧ e.on = i)) := by
  have hs := regionB_spec h (i := i) (o := o) (by simpa using hi)
  refine ⟨hs.1, hs.2.1, hs.2.2.1, fun j u d hj hu hd => ?_⟩
  simpa using hs.2.2.2 j u d hj (by simpa using hu) hd

/-- What holds while the last operation has not come up. -/
structure Under (ops : Array Oper) (m : Nat) (a0 fin : Act) (w0 : World) (xA : Option Tmp) (cs : Array Value) (T : TypeId) (L : Array Bool) (a : Act) (w : World) : Prop where
  size : L.size = ops.size
  closed : ∀ j oj, ops[j]? = some oj → L.getD j false = true → ∀ e ∈ oj.after, Region.binds .any e = true → L.getD e.on false = true
  below : Below w0.heap.size w0 w
  defers : a.defers = a0.defers
  tmps : a.tmps.size = a0.tmps.size
  old : ∀ t, (∀ j oj, ops[j]? = some oj → L.getD j false = true → oj.dst ≠ some t) → a.tmps[t]? = a0.tmps[t]?
  new : ∀ j oj t, j < m → ops[j]? = some oj → L.getD j false = true → oj.dst = some t → a.tmps[t]? = fin.tmps[t]?
  made : L.getD m false = true → ∃ b, w0.heap.size ≤ b ∧ w.heap[b]? = some (.cells cs T (0, 0)) ∧ ∀ t, xA = some t → t < a0.tmps.size → a.tmps[t]? = some (.pointer (some ⟨b, 0, none⟩))
  last : L.getD (m + 1) false = false

theorem getD_set_self {L : Array Bool} {i : Nat} (h : i < L.size) : (L.setIfInBounds i true).getD i false = true := by simp [h]
theorem getD_set_iff {L : Array Bool} {i j : Nat} (h : i < L.size) : (L.setIfInBounds i true).getD j false = true ↔ (j = i ∨ L.getD j false = true) := by
  by_cases hij : i = j
  · subst hij; simp [h]
  · rw [getD_set_ne false hij]; simp [Ne.symm hij]

theorem sink_all {ops : Array Oper} {m : Nat} {L : Array Bool} (hs : Region.sinkB .any ops (m + 1) = true)
    (closed : ∀ j oj, ops[j]? = some oj → L.getD j false = true → ∀ e ∈ oj.after, Region.binds .any e = true → L.getD e.on false = true)
    (hr : m + 1 ∈ Region.ready .any ops L) : ∀ (d i : Nat), m + 1 - i = d → i < m + 1 → L.getD i false = true := by
  intro d
  induction d using Nat.strongRecOn with
  | _ d ih =>
    intro i hd hi
    have h1 := List.all_eq_true.1 hs i (List.mem_range.2 hi)
    obtain ⟨j, hj, hj2⟩ := List.any_eq_true.1 h1
    simp only [Bool.and_eq_true, decide_eq_true_eq] at hj2
    obtain ⟨oj, hoj, e, he, hb, hon⟩ := Region.waitsFor_spec hj2.2
    have hjle : j < m + 1 + 1 := List.mem_range.1 hj
    by_cases hjm : j = m + 1
    · subst hjm
      obtain ⟨_, o, ho, hall⟩ := mem_ready.1 hr
      have : oj = o := Option.some.inj (hoj.symm.trans ho)
      subst this
      rw [← hon]; exact hall e he hb
    · rw [← hon]; exact closed j oj hoj (ih (m + 1 - j) (by omega) j rfl (by omega)) e he hb

set_option maxHeartbeats 1000000 in
theorem wpIn_region_tail {id : Nat} {a0 fin : Act} {w0 : World} {l : List Oper} {oA oS : Oper} {cs : Array Value} {T : TypeId} (hm : P.follows .mixedOrders = true)
    (hB : regionB (l ++ [oA, oS]) = true) (hs : Region.sinkB .any (l ++ [oA, oS]).toArray (l.length + 1) = true) (hgA : oA.guard = none) (hgS : oS.guard = none)
    (hA : ∀ ρ w, (oA.semAt F.round ρ).run P w = .ok (.value (.pointer (some ⟨w.heap.size, 0, none⟩))) (w.alloc (.cells cs T (0, 0)))) (hAa : ∀ ρ w, oA.about P w ρ = none)
    (h : ∀ W, Below w0.heap.size w0 W → wpQuietIn F n P (l ++ [oA, oS]).toArray (fun w' => ∃ p : Regrown, w' = grow (redrawn W p.d) p.os) (fun a' => a' = fin) l a0)
    (hS : ∀ w b, Below w0.heap.size w0 w → w0.heap.size ≤ b → w.heap[b]? = some (.cells cs T (0, 0)) → oS.wpIn F n P (fin.put oA.dst (.pointer (some ⟨b, 0, none⟩))) w (fun a w => Q .normal a w) Q) :
    (Code.region id (l ++ [oA, oS]).toArray true).wpIn F n P Q a0 w0 := by
  refine wpIn_region_any hm ?_
  have hopl : ∀ i, i < l.length → (l ++ [oA, oS]).toArray[i]? = l[i]? := fun i hi => by simp [List.getElem?_append_left hi]
  have hopA : (l ++ [oA, oS]).toArray[l.length]? = some oA := by simp
  have hopS : (l ++ [oA, oS]).toArray[l.length + 1]? = some oS := by simp
  have hsize : (l ++ [oA, oS]).toArray.size = l.length + 2 := by simp
  have hB' : regionB (l ++ [oA, oS]).toArray.toList = true := by simpa using hB
  clear hB
  generalize (l ++ [oA, oS]).toArray = ops at *
  have hspec : ∀ {i : Nat} {o : Oper}, ops[i]? = some o → _ := fun {i o} hi => regionB_arr hB' (i := i) (o := o) hi
  have hfin : fin.tmps.size = a0.tmps.size ∧ fin.defers = a0.defers := by
    obtain ⟨vs, _, hk, _⟩ := walk_at _ _ (h w0 (Below.refl _ _))
    rw [← hk]; exact ⟨putsOf_size _ _ _, putsOf_defers _ _ _⟩
  refine wpAnyIn_inv (fun L a w => L.size = ops.size ∧ ((Under ops l.length a0 fin w0 oA.dst cs T L a w) ∨ ((∀ i, i < ops.size → L.getD i false = true) ∧ Q .normal a w))) (fun L a w h => h.1) ?_ ?_ _ _ _ _ ?_ ⟨by simp, .inl ?_⟩
  · rintro L a w i ⟨hLs, hU⟩ hi
    obtain ⟨hun, o, ho, hall⟩ := mem_ready.1 hi
    have hilt : i < ops.size := (Array.getElem?_eq_some_iff.1 ho).1
    rcases hU with hU | ⟨hU, _⟩
    rotate_left
    · have := hU i hilt
      have hl : i < L.size := by omega
      simp [hl] at hun this
      rw [hun] at this; cases this
    have hunf : L.getD i false = false := getD_both hun
    have hset := fun j => getD_set_iff (L := L) (i := i) (j := j) (by omega)
    have hspi := hspec ho
    obtain ⟨sp1, sp2, sp3, sp4⟩ := hspi
    unfold wpOpIn
    simp only [ho]
    by_cases hil : i < l.length
    · have hli : l[i]? = some o := by rw [← hopl i hil]; exact ho
      obtain ⟨vs, hvl, hkf, hat⟩ := walk_at _ _ (h w hU.below)
      have hvi : vs[i]? = some vs[i] := List.getElem?_eq_getElem (by omega)
      generalize vs[i] = v at hvi
      obtain ⟨hask, hq⟩ := hat i o v hli hvi
      -- each temporary that the operation looks at
      have hsame : ∀ t ∈ o.looksAt ops, a.tmps[t]? = (putsOf (l.take i) vs a0).tmps[t]? := by
        intro t ht
        by_cases hw : ∃ j u, j ≠ i ∧ ops[j]? = some u ∧ u.dst = some t
        · obtain ⟨j, u, hji, hu, hud⟩ := hw
          have honly : ∀ j', j' ≠ j → ∀ u', ops[j']? = some u' → u'.dst ≠ some t := fun j' hne u' hu' hd' => (hspec hu).2.2.2 j' u' t hne hu' hd' |>.1 hud
          rcases (sp4 j u t hji hu hud).2 ht with ⟨e, he, hb, hon⟩ | ⟨e, he, hb, hon⟩
          · have hjl : L.getD j false = true := by rw [← hon]; exact hall e he hb
            have hjlt : j < i := by have := sp1 e he hb; omega
            have huj : l[j]? = some u := by rw [← hopl j (by omega)]; exact hu
            rw [hU.new j u t (by omega) hu hjl hud, ← hkf]
            have hvj : vs[j]? = some vs[j] := List.getElem?_eq_getElem (by omega)
            rw [putsOf_at t l vs a0 j vs[j] (by simp [huj, hud]) hvj (fun j' hj' hd' => ?_) hvl]
            · have := putsOf_at t (l.take i) (vs.take i) a0 j vs[j] (by simp [List.getElem?_take, hjlt, huj, hud]) (by simp [List.getElem?_take, hjlt, hvj]) (fun j' hj' hd' => by
                rw [List.getElem?_take] at hd'
                split at hd'
                · rename_i hj'i
                  cases hlj : l[j']? with
                  | none => rw [hlj] at hd'; simp at hd'
                  | some u' => rw [hlj] at hd'; exact honly j' hj' u' (by rw [hopl j' (List.getElem?_eq_some_iff.1 hlj).1]; exact hlj) (by simpa using hd')
                · simp at hd') (by simp [hvl])
              rw [← this]
              have hpt : ∀ (l : List Oper) (vs : List Value) (a : Act) (i : Nat), putsOf (l.take i) (vs.take i) a = putsOf (l.take i) vs a := by
                intro l
                induction l with
                | nil => intro vs a i; simp [putsOf]
                | cons o l ih =>
                  intro vs a i
                  cases i with
                  | zero => simp [putsOf]
                  | succ i => cases vs with
                    | nil => simp [putsOf]
                    | cons v vs => simp only [List.take_succ_cons, putsOf]; exact ih _ _ _
              rw [hpt]
            · cases hlj : l[j']? with
              | none => rw [hlj] at hd'; simp at hd'
              | some u' => rw [hlj] at hd'; exact honly j' hj' u' (by rw [hopl j' (List.getElem?_eq_some_iff.1 hlj).1]; exact hlj) (by simpa using hd')
          · have hij : i < j := by have := (hspec hu).1 e he hb; omega
            have hjn : L.getD j false = false := by
              cases hl : L.getD j false with
              | false => rfl
              | true => have := hU.closed j u hu hl e he hb; rw [hon, hunf] at this; cases this
            rw [hU.old t (fun j' u' hu' hl' hd' => by
              by_cases e' : j' = j
              · subst e'; rw [hjn] at hl'; cases hl'
              · exact honly j' e' u' hu' hd'), putsOf_other t _ _ _ (fun u' hu' hd' => by
              obtain ⟨k, hk, rfl⟩ := List.getElem_of_mem hu'
              have hk2 : k < i := by simp at hk; omega
              have hk3 : l[k]? = some (l.take i)[k] := by simp
              exact honly k (by omega) _ (by rw [hopl k (by omega)]; exact hk3) hd')]
        · have hw' : ∀ j, j ≠ i → ∀ u, ops[j]? = some u → u.dst ≠ some t := fun j hj u hu hd => hw ⟨j, u, hj, hu, hd⟩
          rw [hU.old t (fun j' u' hu' hl' hd' => by
              by_cases e' : j' = i
              · subst e'; rw [hunf] at hl'; cases hl'
              · exact hw' j' e' u' hu' hd'), putsOf_other t _ _ _ (fun u' hu' hd' => by
              obtain ⟨k, hk, rfl⟩ := List.getElem_of_mem hu'
              have hk2 : k < i := by simp at hk; omega
              have hk3 : l[k]? = some (l.take i)[k] := by simp
              exact hw' k (by omega) _ (by rw [hopl k (by omega)]; exact hk3) hd')]
      have hop := eval_same hsame
      have hexec : execOp a.eval o = execOp (putsOf (l.take i) vs a0).eval o := execOp_congr o sp2 hop
      have habout : ∀ w, o.about P w a.eval = o.about P w (putsOf (l.take i) vs a0).eval := fun w => about_congr o w hop
      have hwant := wanted_same hsame
      have hcls : ∃ p : Regrown, w = grow (redrawn w p.d) p.os := ⟨⟨w.drawn, #[]⟩, by rw [grow_empty]; rfl⟩
      have habt : ∀ f, o.about P w a.eval = some f → F.fn f := fun f hf => hask w hcls f (by rw [← habout]; exact hf)
      -- the state behind it
      have hfinv : ∀ t, o.dst = some t → fin.tmps[t]? = if t < a0.tmps.size then some v else none := fun t ht => by
        rw [← hkf]
        exact putsOf_at t l vs a0 i v (by simp [hli, ht]) hvi (fun j' hj' hd' => by
          cases hlj : l[j']? with
          | none => rw [hlj] at hd'; simp at hd'
          | some u' =>
            rw [hlj] at hd'
            exact (sp4 j' u' t hj' (by rw [hopl j' (List.getElem?_eq_some_iff.1 hlj).1]; exact hlj) (by simpa using hd')).1 ht) hvl
      have hnext : ∀ w', Below w0.heap.size w0 w' → Below w.heap.size w w' → (L.setIfInBounds i true).size = ops.size ∧ (Under ops l.length a0 fin w0 oA.dst cs T (L.setIfInBounds i true) (a.put o.dst v) w' ∨ ((∀ j, j < ops.size → (L.setIfInBounds i true).getD j false = true) ∧ Q .normal (a.put o.dst v) w')) := by
        intro w' hb0 hb
        refine ⟨by simp [hLs], .inl ⟨by simp [hLs], ?_, hb0, by rw [← hU.defers]; cases o.dst <;> rfl, by rw [← hU.tmps]; cases o.dst <;> simp [Act.put], ?_, ?_, ?_, ?_⟩⟩
        · intro j oj hj hl e he hbd
          rcases (hset j).1 hl with rfl | hl
          · have : oj = o := Option.some.inj (hj.symm.trans ho)
            subst this
            exact getD_set_true (hall e he hbd)
          · exact getD_set_true (hU.closed j oj hj hl e he hbd)
        · intro t ht
          rw [put_other _ _ _ _ (ht i o ho ((hset i).2 (.inl rfl)))]
          exact hU.old t fun j oj hj hl => ht j oj hj ((hset j).2 (.inr hl))
        · intro j oj t hj hoj hl hd
          rcases (hset j).1 hl with rfl | hl2
          · have : oj = o := Option.some.inj (hoj.symm.trans ho)
            subst this
            rw [hfinv t hd, hd]
            by_cases hts : t < a0.tmps.size
            · simp [Act.put, hU.tmps, hts]
            · simp [Act.put, hU.tmps, hts]
          · have hji : j ≠ i := fun e => by rw [e, hunf] at hl2; cases hl2
            rw [put_other _ _ _ _ (fun e => (sp4 j oj t hji hoj hd).1 e)]
            exact hU.new j oj t hj hoj hl2 hd
        · intro hl
          rcases (hset l.length).1 hl with e | hl
          · omega
          · obtain ⟨b, hb1, hb2, hb3⟩ := hU.made hl
            refine ⟨b, hb1, (hb.block _ (Array.getElem?_eq_some_iff.1 hb2).1).trans hb2, fun t ht hts => ?_⟩
            rw [put_other _ _ _ _ (fun e => (sp4 l.length oA t (by omega) hopA ht).1 e)]
            exact hb3 t ht hts
        · rw [getD_set_ne false (show i ≠ l.length + 1 by omega)]; exact hU.last
      rcases hq with ⟨hwn, hqa⟩ | ⟨hwn, hvu⟩
      · rw [hwant, if_pos hwn]
        refine ⟨habt, ?_⟩
        rw [Oper.semAt_eq _ _ _ sp3, hexec]
        have hq1 := hqa w hcls
        unfold Oper.quietAtIn at hq1
        generalize (execOp (putsOf (l.take i) vs a0).eval o).run P w = r at hq1 ⊢
        cases r with
        | ok x w' =>
          cases x <;> simp only [Oper.quietUponIn] at hq1 <;> simp only [Oper.uponIn]
          case value u =>
            obtain ⟨e1, e2⟩ := hq1
            rw [e1, e2]
            exact hnext w hU.below (Below.refl _ _)
          case skip =>
            obtain ⟨e1, e2⟩ := hq1
            rw [e1, ← e2]
            exact hnext w hU.below (Below.refl _ _)
          case enter f args =>
            obtain ⟨e1, hd, hc⟩ := hq1
            rw [e1]
            refine ⟨hd, hc.mono ?_⟩
            rintro e w'' ⟨rfl, ⟨p, rfl⟩⟩
            exact hnext _ (hU.below.trans ((below_regrown w p.d p.os).mono hU.below.size)) (below_regrown w p.d p.os)
        | halt x w' => simp only [Oper.quietUponIn] at hq1
      · rw [hwant, if_neg (by rw [hwn]; exact Bool.false_ne_true)]
        refine ⟨habt, ?_⟩
        rw [← hvu]
        exact hnext w hU.below (Below.refl _ _)
    by_cases hiA : i = l.length
    · subst hiA
      have : o = oA := Option.some.inj (ho.symm.trans hopA)
      subst this
      rw [if_pos (by simp [Region.wanted, hgA])]
      refine ⟨fun f hf => (by rw [hAa] at hf; cases hf), ?_⟩
      rw [hA]
      simp only [Oper.uponIn]
      refine ⟨by simp [hLs], .inl ⟨by simp [hLs], ?_, hU.below.alloc hU.below.size _, by rw [← hU.defers]; cases o.dst <;> rfl, by rw [← hU.tmps]; cases o.dst <;> simp [Act.put], ?_, ?_, ?_, ?_⟩⟩
      · intro j oj hj hl e he hbd
        rcases (hset j).1 hl with rfl | hl
        · have : oj = o := Option.some.inj (hj.symm.trans ho)
          subst this
          exact getD_set_true (hall e he hbd)
        · exact getD_set_true (hU.closed j oj hj hl e he hbd)
      · intro t ht
        rw [put_other _ _ _ _ (ht _ o ho ((hset _).2 (.inl rfl)))]
        exact hU.old t fun j oj hj hl => ht j oj hj ((hset j).2 (.inr hl))
      · intro j oj t hj hoj hl hd
        rcases (hset j).1 hl with e | hl
        · omega
        · rw [put_other _ _ _ _ (fun e => (sp4 j oj t (by omega) hoj hd).1 e)]
          exact hU.new j oj t hj hoj hl hd
      · intro _
        refine ⟨w.heap.size, hU.below.size, World.alloc_heap_new _ _, fun t ht hts => ?_⟩
        rw [ht]; simp [Act.put, hU.tmps, hts]
      · rw [getD_set_ne false (show l.length ≠ l.length + 1 by omega)]; exact hU.last
    · have hiS : i = l.length + 1 := by omega
      subst hiS
      have : o = oS := Option.some.inj (ho.symm.trans hopS)
      subst this
      rw [if_pos (by simp [Region.wanted, hgS])]
      have hothers : ∀ j, j < l.length + 1 → L.getD j false = true := fun j hj => sink_all hs hU.closed hi (l.length + 1 - j) j rfl hj
      have hallb : ∀ j, j < ops.size → (L.setIfInBounds (l.length + 1) true).getD j false = true := fun j hj => by
        by_cases hj' : j = l.length + 1
        · exact (hset j).2 (.inl hj')
        · exact (hset j).2 (.inr (hothers j (by omega)))
      obtain ⟨b, hb1, hb2, hb3⟩ := hU.made (hothers l.length (by omega))
      have ha : a = fin.put oA.dst (.pointer (some ⟨b, 0, none⟩)) := by
        obtain ⟨vs, hvl, hkf, _⟩ := walk_at _ _ (h w hU.below)
        obtain ⟨at_, ad⟩ := a
        have e1 : ad = fin.defers := hU.defers.trans hfin.2.symm
        have hput : (fin.put oA.dst (.pointer (some ⟨b, 0, none⟩))).defers = fin.defers := by cases oA.dst <;> rfl
        have e2 : at_ = (fin.put oA.dst (.pointer (some ⟨b, 0, none⟩))).tmps := by
          refine Array.ext_getElem? fun t => ?_
          by_cases htA : oA.dst = some t
          · rw [htA]
            by_cases hts : t < a0.tmps.size
            · rw [hb3 t htA hts]; simp [Act.put, hfin.1, hts]
            · have hz : at_.size = a0.tmps.size := hU.tmps
              rw [Array.getElem?_eq_none (by omega)]; simp [Act.put, hfin.1, hts]
          · rw [put_other _ _ _ _ htA]
            by_cases hw : ∃ j u, j < l.length ∧ ops[j]? = some u ∧ u.dst = some t
            · obtain ⟨j, u, hj, hu, hd⟩ := hw
              exact hU.new j u t hj hu (hothers j (by omega)) hd
            · have k1 : at_[t]? = a0.tmps[t]? := hU.old t (fun j u hu hl hd => by
                have hj : j < l.length + 2 := by have := (Array.getElem?_eq_some_iff.1 hu).1; omega
                rcases Nat.lt_trichotomy j l.length with hj | hj | hj
                · exact hw ⟨j, u, hj, hu, hd⟩
                · subst hj
                  have e : u = oA := Option.some.inj (hu.symm.trans hopA)
                  rw [e] at hd; exact htA hd
                · obtain rfl : j = l.length + 1 := by omega
                  rw [hU.last] at hl; cases hl)
              have k2 : (putsOf l vs a0).tmps[t]? = a0.tmps[t]? := putsOf_other t _ _ _ (fun u hu hd => by
                obtain ⟨k, hk, rfl⟩ := List.getElem_of_mem hu
                exact hw ⟨k, _, hk, by rw [hopl k hk]; exact List.getElem?_eq_getElem hk, hd⟩)
              rw [k1, ← hkf, k2]
        rw [show (fin.put oA.dst (.pointer (some ⟨b, 0, none⟩))) = ⟨(fin.put oA.dst (.pointer (some ⟨b, 0, none⟩))).tmps, (fin.put oA.dst (.pointer (some ⟨b, 0, none⟩))).defers⟩ from rfl, hput, ← e1, ← e2]
      rw [ha]
      exact Oper.wpIn_mono (fun a' w' hq => ⟨by simp [hLs], .inr ⟨hallb, hq⟩⟩) (hS w b hU.below hb1 hb2)
  · rintro L a w ⟨hLs, hU | ⟨_, hQ⟩⟩ hr
    · exfalso
      -- the first that has not come up may come up
      have hex : ∃ i, i < ops.size ∧ L.getD i false = false := ⟨l.length + 1, by omega, hU.last⟩
      have hmin : ∀ k, (∃ i, i < k ∧ i < ops.size ∧ L.getD i false = false) → ∃ i, i < ops.size ∧ L.getD i false = false ∧ ∀ j, j < i → L.getD j false = true := by
        intro k
        induction k with
        | zero => rintro ⟨i, hi, _⟩; omega
        | succ k ih =>
          rintro ⟨i, hi, hi2, hi3⟩
          by_cases hk : ∃ i, i < k ∧ i < ops.size ∧ L.getD i false = false
          · exact ih hk
          · refine ⟨i, hi2, hi3, fun j hj => ?_⟩
            cases hl : L.getD j false with
            | true => rfl
            | false => exact absurd ⟨j, by omega, by omega, hl⟩ hk
      obtain ⟨i0, hi0, hi1⟩ := hex
      obtain ⟨i, hi, hl, hbefore⟩ := hmin (i0 + 1) ⟨i0, by omega, hi0, hi1⟩
      have hi' : i ∈ Region.ready .any ops L := mem_ready.2 ⟨getD_in (by omega) hl, ops[i], Array.getElem?_eq_getElem hi, fun e he hb => hbefore _ ((hspec (Array.getElem?_eq_getElem hi)).1 e he hb)⟩
      rw [hr] at hi'; cases hi'
    · exact hQ
  · show unl ops.size _ ≤ ops.size
    exact Nat.le_trans List.countP_le_length (by simp)
  · refine ⟨by simp, fun j oj _ hl => ?_, (Below.refl _ _).drew, rfl, rfl, fun t _ => rfl, fun j oj t _ _ hl => ?_, fun hl => ?_, ?_⟩
    · rw [getD_replicate_false] at hl; cases hl
    · rw [getD_replicate_false] at hl; cases hl
    · rw [getD_replicate_false] at hl; cases hl
    · exact getD_replicate_false _ _

/-- The same of a region that is written out. -/
theorem wpIn_region_split {id : Nat} {a0 : Act} (fin : Act) {w0 : World} {ops : List Oper} (k : Nat) (cs : Array Value) (T : TypeId) (hsplit : ops = ops.take k ++ [ops.getD k default, ops.getD (k + 1) default]) (hlen : ops.length = k + 2) (hm : P.follows .mixedOrders = true)
    (hB : regionB ops = true) (hs : Region.sinkB .any ops.toArray (k + 1) = true) (hgA : (ops.getD k default).guard = none) (hgS : (ops.getD (k + 1) default).guard = none)
    (hA : ∀ ρ w, ((ops.getD k default).semAt F.round ρ).run P w = .ok (.value (.pointer (some ⟨w.heap.size, 0, none⟩))) (w.alloc (.cells cs T (0, 0)))) (hAa : ∀ ρ w, (ops.getD k default).about P w ρ = none)
    (h : ∀ W, Below w0.heap.size w0 W → wpQuietIn F n P ops.toArray (fun w' => ∃ p : Regrown, w' = grow (redrawn W p.d) p.os) (fun a' => a' = fin) (ops.take k) a0)
    (hS : ∀ w b, Below w0.heap.size w0 w → w0.heap.size ≤ b → w.heap[b]? = some (.cells cs T (0, 0)) → wpListIn F n P ops.toArray Q (ops.drop (k + 1)) (fin.put (ops.getD k default).dst (.pointer (some ⟨b, 0, none⟩))) w) :
    (Code.region id ops.toArray true).wpIn F n P Q a0 w0 := by
  have hl : (ops.take k).length = k := by simp; omega
  have hd : ops.drop (k + 1) = [ops.getD (k + 1) default] := by
    have h1 : k + 1 < ops.length := by omega
    rw [List.drop_eq_getElem_cons h1, List.drop_eq_nil_of_le (by omega)]; simp [List.getD_eq_getElem?_getD, List.getElem?_eq_getElem h1]
  rw [hd] at hS
  clear hd
  generalize ops.getD k default = oA at *
  generalize ops.getD (k + 1) default = oS at *
  generalize ops.take k = l at *
  subst hl
  subst hsplit
  exact wpIn_region_tail hm hB hs hgA hgS hA hAa h (fun w b h1 h2 h3 => by have h4 := hS w b h1 h2 h3; simp only [wpListIn, Region.wanted, hgS, if_true] at h4; exact h4)
end
end Go.Proofs.Ytajabapcmpmboaa

/- A region in any order, whose operations only read and whose callees lay blocks: in a round, too. -/
namespace Go.Proofs.Ytajabapcmpmboaa
set_option linter.unusedVariables false
set_option linter.unusedSimpArgs false
open Go.RowKit Go.Sort

section
variable {F : Fence} {n : Nat} {P : Program} {Q : Exit → Act → World → Prop}

structure Under0 (ops : Array Oper) (a0 fin : Act) (w0 : World) (L : Array Bool) (a : Act) (w : World) : Prop where
  size : L.size = ops.size
  closed : ∀ j oj, ops[j]? = some oj → L.getD j false = true → ∀ e ∈ oj.after, Region.binds .any e = true → L.getD e.on false = true
  below : Below w0.heap.size w0 w
  defers : a.defers = a0.defers
  tmps : a.tmps.size = a0.tmps.size
  old : ∀ t, (∀ j oj, ops[j]? = some oj → L.getD j false = true → oj.dst ≠ some t) → a.tmps[t]? = a0.tmps[t]?
  new : ∀ j oj t, ops[j]? = some oj → L.getD j false = true → oj.dst = some t → a.tmps[t]? = fin.tmps[t]?

set_option maxHeartbeats 1000000 in
theorem wpIn_region_all {id : Nat} {a0 : Act} (fin : Act) {w0 : World} {l : List Oper} (hm : P.follows .mixedOrders = true)
    (hB : regionB l = true)
    (h : ∀ W, Below w0.heap.size w0 W → wpQuietIn F n P l.toArray (fun w' => ∃ p : Regrown, w' = grow (redrawn W p.d) p.os) (fun a' => a' = fin) l a0)
    (hQ : ∀ w, Below w0.heap.size w0 w → Q .normal fin w) :
    (Code.region id l.toArray true).wpIn F n P Q a0 w0 := by
  refine wpIn_region_any hm ?_
  have hopl : ∀ i, i < l.length → l.toArray[i]? = l[i]? := fun i hi => by simp
  have hsize : l.toArray.size = l.length := by simp
  have hB' : regionB l.toArray.toList = true := by simpa using hB
  clear hB
  generalize l.toArray = ops at *
  have hspec : ∀ {i : Nat} {o : Oper}, ops[i]? = some o → _ := fun {i o} hi => regionB_arr hB' (i := i) (o := o) hi
  have hfin : fin.tmps.size = a0.tmps.size ∧ fin.defers = a0.defers := by
    obtain ⟨vs, _, hk, _⟩ := walk_at _ _ (h w0 (Below.refl _ _))
    rw [← hk]; exact ⟨putsOf_size _ _ _, putsOf_defers _ _ _⟩
  refine wpAnyIn_inv (fun L a w => Under0 ops a0 fin w0 L a w) (fun L a w h => h.size) ?_ ?_ _ _ _ _ ?_ ?_
  · rintro L a w i hU hi
    have hLs := hU.size
    obtain ⟨hun, o, ho, hall⟩ := mem_ready.1 hi
    have hilt : i < ops.size := (Array.getElem?_eq_some_iff.1 ho).1
    have hunf : L.getD i false = false := getD_both hun
    have hset := fun j => getD_set_iff (L := L) (i := i) (j := j) (by omega)
    have hspi := hspec ho
    obtain ⟨sp1, sp2, sp3, sp4⟩ := hspi
    unfold wpOpIn
    simp only [ho]
    have hil : i < l.length := by omega
    · have hli : l[i]? = some o := by rw [← hopl i hil]; exact ho
      obtain ⟨vs, hvl, hkf, hat⟩ := walk_at _ _ (h w hU.below)
      have hvi : vs[i]? = some vs[i] := List.getElem?_eq_getElem (by omega)
      generalize vs[i] = v at hvi
      obtain ⟨hask, hq⟩ := hat i o v hli hvi
      -- each temporary that the operation looks at
      have hsame : ∀ t ∈ o.looksAt ops, a.tmps[t]? = (putsOf (l.take i) vs a0).tmps[t]? := by
        intro t ht
        by_cases hw : ∃ j u, j ≠ i ∧ ops[j]? = some u ∧ u.dst = some t
        · obtain ⟨j, u, hji, hu, hud⟩ := hw
          have honly : ∀ j', j' ≠ j → ∀ u', ops[j']? = some u' → u'.dst ≠ some t := fun j' hne u' hu' hd' => (hspec hu).2.2.2 j' u' t hne hu' hd' |>.1 hud
          rcases (sp4 j u t hji hu hud).2 ht with ⟨e, he, hb, hon⟩ | ⟨e, he, hb, hon⟩
          · have hjl : L.getD j false = true := by rw [← hon]; exact hall e he hb
            have hjlt : j < i := by have := sp1 e he hb; omega
            have huj : l[j]? = some u := by rw [← hopl j (by omega)]; exact hu
            rw [hU.new j u t hu hjl hud, ← hkf]
            have hvj : vs[j]? = some vs[j] := List.getElem?_eq_getElem (by omega)
            rw [putsOf_at t l vs a0 j vs[j] (by simp [huj, hud]) hvj (fun j' hj' hd' => ?_) hvl]
            · have := putsOf_at t (l.take i) (vs.take i) a0 j vs[j] (by simp [List.getElem?_take, hjlt, huj, hud]) (by simp [List.getElem?_take, hjlt, hvj]) (fun j' hj' hd' => by
                rw [List.getElem?_take] at hd'
                split at hd'
                · rename_i hj'i
                  cases hlj : l[j']? with
                  | none => rw [hlj] at hd'; simp at hd'
                  | some u' => rw [hlj] at hd'; exact honly j' hj' u' (by rw [hopl j' (List.getElem?_eq_some_iff.1 hlj).1]; exact hlj) (by simpa using hd')
                · simp at hd') (by simp [hvl])
              rw [← this]
              have hpt : ∀ (l : List Oper) (vs : List Value) (a : Act) (i : Nat), putsOf (l.take i) (vs.take i) a = putsOf (l.take i) vs a := by
                intro l
                induction l with
                | nil => intro vs a i; simp [putsOf]
                | cons o l ih =>
                  intro vs a i
                  cases i with
                  | zero => simp [putsOf]
                  | succ i => cases vs with
                    | nil => simp [putsOf]
                    | cons v vs => simp only [List.take_succ_cons, putsOf]; exact ih _ _ _
              rw [hpt]
            · cases hlj : l[j']? with
              | none => rw [hlj] at hd'; simp at hd'
              | some u' => rw [hlj] at hd'; exact honly j' hj' u' (by rw [hopl j' (List.getElem?_eq_some_iff.1 hlj).1]; exact hlj) (by simpa using hd')
          · have hij : i < j := by have := (hspec hu).1 e he hb; omega
            have hjn : L.getD j false = false := by
              cases hl : L.getD j false with
              | false => rfl
              | true => have := hU.closed j u hu hl e he hb; rw [hon, hunf] at this; cases this
            rw [hU.old t (fun j' u' hu' hl' hd' => by
              by_cases e' : j' = j
              · subst e'; rw [hjn] at hl'; cases hl'
              · exact honly j' e' u' hu' hd'), putsOf_other t _ _ _ (fun u' hu' hd' => by
              obtain ⟨k, hk, rfl⟩ := List.getElem_of_mem hu'
              have hk2 : k < i := by simp at hk; omega
              have hk3 : l[k]? = some (l.take i)[k] := by simp
              exact honly k (by omega) _ (by rw [hopl k (by omega)]; exact hk3) hd')]
        · have hw' : ∀ j, j ≠ i → ∀ u, ops[j]? = some u → u.dst ≠ some t := fun j hj u hu hd => hw ⟨j, u, hj, hu, hd⟩
          rw [hU.old t (fun j' u' hu' hl' hd' => by
              by_cases e' : j' = i
              · subst e'; rw [hunf] at hl'; cases hl'
              · exact hw' j' e' u' hu' hd'), putsOf_other t _ _ _ (fun u' hu' hd' => by
              obtain ⟨k, hk, rfl⟩ := List.getElem_of_mem hu'
              have hk2 : k < i := by simp at hk; omega
              have hk3 : l[k]? = some (l.take i)[k] := by simp
              exact hw' k (by omega) _ (by rw [hopl k (by omega)]; exact hk3) hd')]
      have hop := eval_same hsame
      have hexec : execOp a.eval o = execOp (putsOf (l.take i) vs a0).eval o := execOp_congr o sp2 hop
      have habout : ∀ w, o.about P w a.eval = o.about P w (putsOf (l.take i) vs a0).eval := fun w => about_congr o w hop
      have hwant := wanted_same hsame
      have hcls : ∃ p : Regrown, w = grow (redrawn w p.d) p.os := ⟨⟨w.drawn, #[]⟩, by rw [grow_empty]; rfl⟩
      have habt : ∀ f, o.about P w a.eval = some f → F.fn f := fun f hf => hask w hcls f (by rw [← habout]; exact hf)
      -- the state behind it
      have hfinv : ∀ t, o.dst = some t → fin.tmps[t]? = if t < a0.tmps.size then some v else none := fun t ht => by
        rw [← hkf]
        exact putsOf_at t l vs a0 i v (by simp [hli, ht]) hvi (fun j' hj' hd' => by
          cases hlj : l[j']? with
          | none => rw [hlj] at hd'; simp at hd'
          | some u' =>
            rw [hlj] at hd'
            exact (sp4 j' u' t hj' (by rw [hopl j' (List.getElem?_eq_some_iff.1 hlj).1]; exact hlj) (by simpa using hd')).1 ht) hvl
      have hnext : ∀ w', Below w0.heap.size w0 w' → Below w.heap.size w w' → Under0 ops a0 fin w0 (L.setIfInBounds i true) (a.put o.dst v) w' := by
        intro w' hb0 hb
        refine ⟨by simp [hLs], ?_, hb0, by rw [← hU.defers]; cases o.dst <;> rfl, by rw [← hU.tmps]; cases o.dst <;> simp [Act.put], ?_, ?_⟩
        · intro j oj hj hl e he hbd
          rcases (hset j).1 hl with rfl | hl
          · have : oj = o := Option.some.inj (hj.symm.trans ho)
            subst this
            exact getD_set_true (hall e he hbd)
          · exact getD_set_true (hU.closed j oj hj hl e he hbd)
        · intro t ht
          rw [put_other _ _ _ _ (ht i o ho ((hset i).2 (.inl rfl)))]
          exact hU.old t fun j oj hj hl => ht j oj hj ((hset j).2 (.inr hl))
        · intro j oj t hoj hl hd
          rcases (hset j).1 hl with rfl | hl2
          · have : oj = o := Option.some.inj (hoj.symm.trans ho)
            subst this
            rw [hfinv t hd, hd]
            by_cases hts : t < a0.tmps.size
            · simp [Act.put, hU.tmps, hts]
            · simp [Act.put, hU.tmps, hts]
          · have hji : j ≠ i := fun e => by rw [e, hunf] at hl2; cases hl2
            rw [put_other _ _ _ _ (fun e => (sp4 j oj t hji hoj hd).1 e)]
            exact hU.new j oj t hoj hl2 hd
      rcases hq with ⟨hwn, hqa⟩ | ⟨hwn, hvu⟩
      · rw [hwant, if_pos hwn]
        refine ⟨habt, ?_⟩
        rw [Oper.semAt_eq _ _ _ sp3, hexec]
        have hq1 := hqa w hcls
        unfold Oper.quietAtIn at hq1
        generalize (execOp (putsOf (l.take i) vs a0).eval o).run P w = r at hq1 ⊢
        cases r with
        | ok x w' =>
          cases x <;> simp only [Oper.quietUponIn] at hq1 <;> simp only [Oper.uponIn]
          case value u =>
            obtain ⟨e1, e2⟩ := hq1
            rw [e1, e2]
            exact hnext w hU.below (Below.refl _ _)
          case skip =>
            obtain ⟨e1, e2⟩ := hq1
            rw [e1, ← e2]
            exact hnext w hU.below (Below.refl _ _)
          case enter f args =>
            obtain ⟨e1, hd, hc⟩ := hq1
            rw [e1]
            refine ⟨hd, hc.mono ?_⟩
            rintro e w'' ⟨rfl, ⟨p, rfl⟩⟩
            exact hnext _ (hU.below.trans ((below_regrown w p.d p.os).mono hU.below.size)) (below_regrown w p.d p.os)
        | halt x w' => simp only [Oper.quietUponIn] at hq1
      · rw [hwant, if_neg (by rw [hwn]; exact Bool.false_ne_true)]
        refine ⟨habt, ?_⟩
        rw [← hvu]
        exact hnext w hU.below (Below.refl _ _)
  · rintro L a w hU hr
    have hLs := hU.size
    have hall : ∀ i, i < ops.size → L.getD i false = true := by
      intro i
      induction i using Nat.strongRecOn with
      | _ i ih =>
        intro hi
        cases hl : L.getD i false with
        | true => rfl
        | false =>
          have hi' : i ∈ Region.ready .any ops L := mem_ready.2 ⟨getD_in (by omega) hl, ops[i], Array.getElem?_eq_getElem hi, fun e he hb => by
            have := (hspec (Array.getElem?_eq_getElem hi)).1 e he hb
            exact ih _ this (by omega)⟩
          rw [hr] at hi'; cases hi'
    have ha : a = fin := by
      obtain ⟨vs, hvl, hkf, _⟩ := walk_at _ _ (h w hU.below)
      obtain ⟨at_, ad⟩ := a
      have e1 : ad = fin.defers := hU.defers.trans hfin.2.symm
      have e2 : at_ = fin.tmps := by
        refine Array.ext_getElem? fun t => ?_
        by_cases hw : ∃ (j : Nat) (u : Oper), ops[j]? = some u ∧ u.dst = some t
        · obtain ⟨j, u, hu, hd⟩ := hw
          exact hU.new j u t hu (hall j (Array.getElem?_eq_some_iff.1 hu).1) hd
        · have k1 : at_[t]? = a0.tmps[t]? := hU.old t (fun j u hu hl hd => hw ⟨j, u, hu, hd⟩)
          have k2 : (putsOf l vs a0).tmps[t]? = a0.tmps[t]? := putsOf_other t _ _ _ (fun u hu hd => by
            obtain ⟨k, hk, rfl⟩ := List.getElem_of_mem hu
            exact hw ⟨k, _, by rw [hopl k hk]; exact List.getElem?_eq_getElem hk, hd⟩)
          rw [k1, ← hkf, k2]
      rw [e1, e2]
    rw [ha]
    exact hQ w hU.below
  · show unl ops.size _ ≤ ops.size
    exact Nat.le_trans List.countP_le_length (by simp)
  · refine ⟨by simp, fun j oj _ hl => ?_, (Below.refl _ _).drew, rfl, rfl, fun t _ => rfl, fun j oj t _ hl => ?_⟩
    · rw [getD_replicate_false] at hl; cases hl
    · rw [getD_replicate_false] at hl; cases hl
end
end Go.Proofs.Ytajabapcmpmboaa
