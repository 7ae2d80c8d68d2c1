/- A region in any order, whose operations only read and whose callees lay blocks: in a round, too. -/
import Derived.Test.YtojmimfjnnibdaaZS
namespace Go.Proofs.Ytojmimfjnnibdaa
set_option linter.unusedVariables false
set_option linter.unusedSimpArgs false
open Go.RowKit Go.Sort

section
variable {F : Fence} {n : Nat} {P : Program} {Q : Exit → Act → World → Prop}

structure Under0 (ops : Array Oper) (a0 fin : Act) (w0 : World) (L : Array Bool) (a : Act) (w : World) : Prop where
  size : L.size = ops.size
  closed : ∀ j oj, ops[j]? = some oj → L.getD j false = true → ∀ e ∈ oj.after, Region.binds .any e = true → L.getD e.on false = true
  below : Below w0.heap.size w0 w
  defers : a.defers = a0.defers
  tmps : a.tmps.size = a0.tmps.size
  old : ∀ t, (∀ j oj, ops[j]? = some oj → L.getD j false = true → oj.dst ≠ some t) → a.tmps[t]? = a0.tmps[t]?
  new : ∀ j oj t, ops[j]? = some oj → L.getD j false = true → oj.dst = some t → a.tmps[t]? = fin.tmps[t]?

set_option maxHeartbeats 1000000 in
theorem wpIn_region_all {id : Nat} {a0 : Act} (fin : Act) {w0 : World} {l : List Oper} (hm : P.follows .mixedOrders = true)
    (hB : regionB l = true)
    (h : ∀ W, Below w0.heap.size w0 W → wpQuietIn F n P l.toArray (fun w' => ∃ p : Regrown, w' = grow (redrawn W p.d) p.os) (fun a' => a' = fin) l a0)
    (hQ : ∀ w, Below w0.heap.size w0 w → Q .normal fin w) :
    (Code.region id l.toArray true).wpIn F n P Q a0 w0 := by
  refine wpIn_region_any hm ?_
  have hopl : ∀ i, i < l.length → l.toArray[i]? = l[i]? := fun i hi => by simp
  have hsize : l.toArray.size = l.length := by simp
  have hB' : regionB l.toArray.toList = true := by simpa using hB
  clear hB
  generalize l.toArray = ops at *
  have hspec : ∀ {i : Nat} {o : Oper}, ops[i]? = some o → _ := fun {i o} hi => regionB_arr hB' (i := i) (o := o) hi
  have hfin : fin.tmps.size = a0.tmps.size ∧ fin.defers = a0.defers := by
    obtain ⟨vs, _, hk, _⟩ := walk_at _ _ (h w0 (Below.refl _ _))
    rw [← hk]; exact ⟨putsOf_size _ _ _, putsOf_defers _ _ _⟩
  refine wpAnyIn_inv (fun L a w => Under0 ops a0 fin w0 L a w) (fun L a w h => h.size) ?_ ?_ _ _ _ _ ?_ ?_
  · rintro L a w i hU hi
    have hLs := hU.size
    obtain ⟨hun, o, ho, hall⟩ := mem_ready.1 hi
    have hilt : i < ops.size := (Array.getElem?_eq_some_iff.1 ho).1
    have hunf : L.getD i false = false := getD_both hun
    have hset := fun j => getD_set_iff (L := L) (i := i) (j := j) (by omega)
    have hspi := hspec ho
    obtain ⟨sp1, sp2, sp3, sp4⟩ := hspi
    unfold wpOpIn
    simp only [ho]
    have hil : i < l.length := by omega
    · have hli : l[i]? = some o := by rw [← hopl i hil]; exact ho
      obtain ⟨vs, hvl, hkf, hat⟩ := walk_at _ _ (h w hU.below)
      have hvi : vs[i]? = some vs[i] := List.getElem?_eq_getElem (by omega)
      generalize vs[i] = v at hvi
      obtain ⟨hask, hq⟩ := hat i o v hli hvi
      -- each temporary that the operation looks at
      have hsame : ∀ t ∈ o.looksAt ops, a.tmps[t]? = (putsOf (l.take i) vs a0).tmps[t]? := by
        intro t ht
        by_cases hw : ∃ j u, j ≠ i ∧ ops[j]? = some u ∧ u.dst = some t
        · obtain ⟨j, u, hji, hu, hud⟩ := hw
          have honly : ∀ j', j' ≠ j → ∀ u', ops[j']? = some u' → u'.dst ≠ some t := fun j' hne u' hu' hd' => (hspec hu).2.2.2 j' u' t hne hu' hd' |>.1 hud
          rcases (sp4 j u t hji hu hud).2 ht with ⟨e, he, hb, hon⟩ | ⟨e, he, hb, hon⟩
          · have hjl : L.getD j false = true := by rw [← hon]; exact hall e he hb
            have hjlt : j < i := by have := sp1 e he hb; omega
            have huj : l[j]? = some u := by rw [← hopl j (by omega)]; exact hu
            rw [hU.new j u t hu hjl hud, ← hkf]
            have hvj : vs[j]? = some vs[j] := List.getElem?_eq_getElem (by omega)
            rw [putsOf_at t l vs a0 j vs[j] (by simp [huj, hud]) hvj (fun j' hj' hd' => ?_) hvl]
            · have := putsOf_at t (l.take i) (vs.take i) a0 j vs[j] (by simp [List.getElem?_take, hjlt, huj, hud]) (by simp [List.getElem?_take, hjlt, hvj]) (fun j' hj' hd' => by
                rw [List.getElem?_take] at hd'
                split at hd'
                · rename_i hj'i
                  cases hlj : l[j']? with
                  | none => rw [hlj] at hd'; simp at hd'
                  | some u' => rw [hlj] at hd'; exact honly j' hj' u' (by rw [hopl j' (List.getElem?_eq_some_iff.1 hlj).1]; exact hlj) (by simpa using hd')
                · simp at hd') (by simp [hvl])
              rw [← this]
              have hpt : ∀ (l : List Oper) (vs : List Value) (a : Act) (i : Nat), putsOf (l.take i) (vs.take i) a = putsOf (l.take i) vs a := by
                intro l
                induction l with
                | nil => intro vs a i; simp [putsOf]
                | cons o l ih =>
                  intro vs a i
                  cases i with
                  | zero => simp [putsOf]
                  | succ i => cases vs with
                    | nil => simp [putsOf]
                    | cons v vs => simp only [List.take_succ_cons, putsOf]; exact ih _ _ _
              rw [hpt]
            · cases hlj : l[j']? with
              | none => rw [hlj] at hd'; simp at hd'
              | some u' => rw [hlj] at hd'; exact honly j' hj' u' (by rw [hopl j' (List.getElem?_eq_some_iff.1 hlj).1]; exact hlj) (by simpa using hd')
          · have hij : i < j := by have := (hspec hu).1 e he hb; omega
            have hjn : L.getD j false = false := by
              cases hl : L.getD j false with
              | false => rfl
              | true => have := hU.closed j u hu hl e he hb; rw [hon, hunf] at this; cases this
            rw [hU.old t (fun j' u' hu' hl' hd' => by
              by_cases e' : j' = j
              · subst e'; rw [hjn] at hl'; cases hl'
              · exact honly j' e' u' hu' hd'), putsOf_other t _ _ _ (fun u' hu' hd' => by
              obtain ⟨k, hk, rfl⟩ := List.getElem_of_mem hu'
              have hk2 : k < i := by simp at hk; omega
              have hk3 : l[k]? = some (l.take i)[k] := by simp
              exact honly k (by omega) _ (by rw [hopl k (by omega)]; exact hk3) hd')]
        · have hw' : ∀ j, j ≠ i → ∀ u, ops[j]? = some u → u.dst ≠ some t := fun j hj u hu hd => hw ⟨j, u, hj, hu, hd⟩
          rw [hU.old t (fun j' u' hu' hl' hd' => by
              by_cases e' : j' = i
              · subst e'; rw [hunf] at hl'; cases hl'
              · exact hw' j' e' u' hu' hd'), putsOf_other t _ _ _ (fun u' hu' hd' => by
              obtain ⟨k, hk, rfl⟩ := List.getElem_of_mem hu'
              have hk2 : k < i := by simp at hk; omega
              have hk3 : l[k]? = some (l.take i)[k] := by simp
              exact hw' k (by omega) _ (by rw [hopl k (by omega)]; exact hk3) hd')]
      have hop := eval_same hsame
      have hexec : execOp a.eval o = execOp (putsOf (l.take i) vs a0).eval o := execOp_congr o sp2 hop
      have habout : ∀ w, o.about P w a.eval = o.about P w (putsOf (l.take i) vs a0).eval := fun w => about_congr o w hop
      have hwant := wanted_same hsame
      have hcls : ∃ p : Regrown, w = grow (redrawn w p.d) p.os := ⟨⟨w.drawn, #[]⟩, by rw [grow_empty]; rfl⟩
      have habt : ∀ f, o.about P w a.eval = some f → F.fn f := fun f hf => hask w hcls f (by rw [← habout]; exact hf)
      -- the state behind it
      have hfinv : ∀ t, o.dst = some t → fin.tmps[t]? = if t < a0.tmps.size then some v else none := fun t ht => by
        rw [← hkf]
        exact putsOf_at t l vs a0 i v (by simp [hli, ht]) hvi (fun j' hj' hd' => by
          cases hlj : l[j']? with
          | none => rw [hlj] at hd'; simp at hd'
          | some u' =>
            rw [hlj] at hd'
            exact (sp4 j' u' t hj' (by rw [hopl j' (List.getElem?_eq_some_iff.1 hlj).1]; exact hlj) (by simpa using hd')).1 ht) hvl
      have hnext : ∀ w', Below w0.heap.size w0 w' → Below w.heap.size w w' → Under0 ops a0 fin w0 (L.setIfInBounds i true) (a.put o.dst v) w' := by
        intro w' hb0 hb
        refine ⟨by simp [hLs], ?_, hb0, by rw [← hU.defers]; cases o.dst <;> rfl, by rw [← hU.tmps]; cases o.dst <;> simp [Act.put], ?_, ?_⟩
        · intro j oj hj hl e he hbd
          rcases (hset j).1 hl with rfl | hl
          · have : oj = o := Option.some.inj (hj.symm.trans ho)
            subst this
            exact getD_set_true (hall e he hbd)
          · exact getD_set_true (hU.closed j oj hj hl e he hbd)
        · intro t ht
          rw [put_other _ _ _ _ (ht i o ho ((hset i).2 (.inl rfl)))]
          exact hU.old t fun j oj hj hl => ht j oj hj ((hset j).2 (.inr hl))
        · intro j oj t hoj hl hd
          rcases (hset j).1 hl with rfl | hl2
          · have : oj = o := Option.some.inj (hoj.symm.trans ho)
            subst this
            rw [hfinv t hd, hd]
            by_cases hts : t < a0.tmps.size
            · simp [Act.put, hU.tmps, hts]
            · simp [Act.put, hU.tmps, hts]
          · have hji : j ≠ i := fun e => by rw [e, hunf] at hl2; cases hl2
            rw [put_other _ _ _ _ (fun e => (sp4 j oj t hji hoj hd).1 e)]
            exact hU.new j oj t hoj hl2 hd
      rcases hq with ⟨hwn, hqa⟩ | ⟨hwn, hvu⟩
      · rw [hwant, if_pos hwn]
        refine ⟨habt, ?_⟩
        rw [Oper.semAt_eq _ _ _ sp3, hexec]
        have hq1 := hqa w hcls
        unfold Oper.quietAtIn at hq1
        generalize (execOp (putsOf (l.take i) vs a0).eval o).run P w = r at hq1 ⊢
        cases r with
        | ok x w' =>
          cases x <;> simp only [Oper.quietUponIn] at hq1 <;> simp only [Oper.uponIn]
          case value u =>
            obtain ⟨e1, e2⟩ := hq1
            rw [e1, e2]
            exact hnext w hU.below (Below.refl _ _)
          case skip =>
            obtain ⟨e1, e2⟩ := hq1
            rw [e1, ← e2]
            exact hnext w hU.below (Below.refl _ _)
          case enter f args =>
            obtain ⟨e1, hd, hc⟩ := hq1
            rw [e1]
            refine ⟨hd, hc.mono ?_⟩
            rintro e w'' ⟨rfl, ⟨p, rfl⟩⟩
            exact hnext _ (hU.below.trans ((below_regrown w p.d p.os).mono hU.below.size)) (below_regrown w p.d p.os)
        | halt x w' => simp only [Oper.quietUponIn] at hq1
      · rw [hwant, if_neg (by rw [hwn]; exact Bool.false_ne_true)]
        refine ⟨habt, ?_⟩
        rw [← hvu]
        exact hnext w hU.below (Below.refl _ _)
  · rintro L a w hU hr
    have hLs := hU.size
    have hall : ∀ i, i < ops.size → L.getD i false = true := by
      intro i
      induction i using Nat.strongRecOn with
      | _ i ih =>
        intro hi
        cases hl : L.getD i false with
        | true => rfl
        | false =>
          have hi' : i ∈ Region.ready .any ops L := mem_ready.2 ⟨getD_in (by omega) hl, ops[i], Array.getElem?_eq_getElem hi, fun e he hb => by
            have := (hspec (Array.getElem?_eq_getElem hi)).1 e he hb
            exact ih _ this (by omega)⟩
          rw [hr] at hi'; cases hi'
    have ha : a = fin := by
      obtain ⟨vs, hvl, hkf, _⟩ := walk_at _ _ (h w hU.below)
      obtain ⟨at_, ad⟩ := a
      have e1 : ad = fin.defers := hU.defers.trans hfin.2.symm
      have e2 : at_ = fin.tmps := by
        refine Array.ext_getElem? fun t => ?_
        by_cases hw : ∃ (j : Nat) (u : Oper), ops[j]? = some u ∧ u.dst = some t
        · obtain ⟨j, u, hu, hd⟩ := hw
          exact hU.new j u t hu (hall j (Array.getElem?_eq_some_iff.1 hu).1) hd
        · have k1 : at_[t]? = a0.tmps[t]? := hU.old t (fun j u hu hl hd => hw ⟨j, u, hu, hd⟩)
          have k2 : (putsOf l vs a0).tmps[t]? = a0.tmps[t]? := putsOf_other t _ _ _ (fun u hu hd => by
            obtain ⟨k, hk, rfl⟩ := List.getElem_of_mem hu
            exact hw ⟨k, _, by rw [hopl k hk]; exact List.getElem?_eq_getElem hk, hd⟩)
          rw [k1, ← hkf, k2]
      rw [e1, e2]
    rw [ha]
    exact hQ w hU.below
  · show unl ops.size _ ≤ ops.size
    exact Nat.le_trans List.countP_le_length (by simp)
  · refine ⟨by simp, fun j oj _ hl => ?_, (Below.refl _ _).drew, rfl, rfl, fun t _ => rfl, fun j oj t _ hl => ?_⟩
    · rw [getD_replicate_false] at hl; cases hl
    · rw [getD_replicate_false] at hl; cases hl
end
end Go.Proofs.Ytojmimfjnnibdaa
