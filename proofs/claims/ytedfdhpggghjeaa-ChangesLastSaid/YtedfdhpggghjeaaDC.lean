/- Any program: a region that draws and calls a yield in it: what is held of the world while it goes. -/
import Derived.Test.YtedfdhpggghjeaaCR
namespace Go.Proofs.Ytedfdhpggghjeaa
set_option linter.unusedVariables false
set_option linter.unusedSimpArgs false
open Go.RowKit Go.Shelf

section
variable {n : Nat} {P : Program} {ops : Array Oper} {Q : Exit → Act → World → Prop} {md : Region.Mode} {S : World → Prop}

/-- The state behind an operation: its own place holds something else, and more may be put off. -/
def Behind (o : Oper) (a a' : Act) : Prop := ∃ ds u, a' = ({ a with defers := ds } : Act).put o.dst u
theorem opIn_behind {j : Nat} {o : Oper} (hj : ops[j]? = some o) {K : Act → World → Prop} {a : Act} {w : World} (h : wpOpIn Fence.wide n P ops Q j K a w) : wpOpIn Fence.wide n P ops Q j (fun a' w' => Behind o a a' ∧ K a' w') a w := by
  have hb : ∀ ds u, Behind o a (({ a with defers := ds } : Act).put o.dst u) := fun ds u => ⟨ds, u, rfl⟩
  have hb0 : ∀ u, Behind o a (a.put o.dst u) := fun u => hb a.defers u
  unfold wpOpIn at h ⊢
  rw [hj] at h ⊢
  dsimp only at h ⊢
  by_cases hw : Region.wanted o (yielded ops a.tmps) = true
  · rw [if_pos hw] at h ⊢
    refine ⟨h.1, ?_⟩
    have h2 := h.2
    generalize (o.semAt Fence.wide.round a.eval).run P w = r at h2 ⊢
    rcases r with ⟨x, w'⟩ | ⟨x, w'⟩
    · cases x <;> simp only [Oper.uponIn] at h2 ⊢ <;>
        first
          | exact ⟨hb0 _, h2⟩
          | exact ⟨hb _ _, h2⟩
          | exact ⟨h2.1, CallsIn.mono h2.2 (fun e w3 he => by cases e <;> first | exact ⟨hb0 _, he⟩ | exact he)⟩
          | exact ⟨h2.1, RowsIn.mono h2.2 (fun _ _ he => ⟨hb0 _, he⟩)⟩
          | exact ⟨h2.1, RoundIn.mono h2.2 (fun e w3 he => by cases e <;> first | exact ⟨hb0 _, he⟩ | exact he)⟩
          | exact h2
    · cases x <;> simp only [Oper.uponIn] at h2 ⊢ <;> exact h2
  · rw [if_neg hw] at h ⊢
    exact ⟨h.1, hb0 _, h.2⟩
theorem opIn_keeps {j : Nat} {oi oj : Oper} {v : Value} (hj : ops[j]? = some oj) (hap : oi.apart ops oj = true) (hsi : ∀ cs b, oi.op ≠ .select cs b) (hsj : ∀ cs b, oj.op ≠ .select cs b)
    (hQ : ∀ c a w, Q (.panic c) (a.put oi.dst v) w → Q (.panic c) a w) {K : Act → World → Prop} {a : Act} {w : World} (hy : YieldsIf P ops S oi v a) (h : wpOpIn Fence.wide n P ops Q j K (a.put oi.dst v) w) :
    wpOpIn Fence.wide n P ops Q j (fun a' w' => YieldsIf P ops S oi v a' ∧ K (a'.put oi.dst v) w') a w := by
  obtain ⟨h1, h2, h3⟩ := Oper.apart_spec hap
  have hap' : Oper.apart ops { oi with op := .move (.const v) } oj = true := by
    have hsub : ∀ d, d ∈ Oper.looksAt ops { oi with op := .move (.const v) } → d ∈ oi.looksAt ops := fun d hd => by
      unfold Oper.looksAt at hd ⊢
      rcases List.mem_append.1 hd with q | q
      · simp [Op.operands] at q
      · exact List.mem_append_right _ q
    unfold Oper.apart
    rw [Bool.and_eq_true]
    refine ⟨?_, ?_⟩
    · dsimp only
      rcases hd : oi.dst with - | d
      · rfl
      · dsimp only
        rw [Bool.and_eq_true]
        refine ⟨?_, ?_⟩
        · rw [Bool.not_eq_true', Bool.eq_false_iff]; exact fun q => h1 d hd (by simpa using q)
        · exact bne_iff_ne.2 (h2 d hd)
    · rcases hd : oj.dst with - | d
      · rfl
      · dsimp only
        rw [Bool.not_eq_true', Bool.eq_false_iff]
        exact fun q => h3 d hd (hsub d (by simpa using q))
  have hy' : YieldsFenced P ops { oi with op := .move (.const v) } v a := by
    refine ⟨?_, fun _ => rfl⟩
    rcases hy with ⟨hw, -⟩ | ⟨hw, hv⟩
    · exact .inl ⟨hw, fun w => by simp [execOp, go_sem]⟩
    · exact .inr ⟨hw, hv⟩
  have h4 := wpOpIn_put (F := Fence.wide) (oi := { oi with op := .move (.const v) }) rfl hj hap' (fun cs b => by simp) hsj hQ hy' h
  refine wpOpIn_mono (fun a' w' h => ?_) (opIn_behind hj h4)
  obtain ⟨⟨ds, u, rfl⟩, -, hK⟩ := h
  exact ⟨(hy.of_same (a' := ({ a with defers := ds } : Act)) rfl rfl).of_same (execOp_put oi hsi _ oj.dst u h3) (wanted_put oi _ oj.dst u h3), hK⟩

/-- In whatever order: behind each operation S holds. -/
def wpAnyHI (n : Nat) (P : Program) (md : Region.Mode) (ops : Array Oper) (Q : Exit → Act → World → Prop) (S : World → Prop) : Nat → Array Bool → Act → World → Prop
  | 0, listed, a, w => Region.ready md ops listed = [] ∧ Q .normal a w
  | fuel + 1, listed, a, w => (Region.ready md ops listed = [] → Q .normal a w) ∧
    ∀ i ∈ Region.ready md ops listed, wpOpIn Fence.wide n P ops Q i (fun a' w' => S w' ∧ wpAnyHI n P md ops Q S fuel (listed.setIfInBounds i true) a' w') a w
theorem wpAnyIn_of_HI : ∀ (fuel : Nat) (listed : Array Bool) (a : Act) (w : World), wpAnyHI n P md ops Q S fuel listed a w → wpAnyIn Fence.wide n P md ops Q fuel listed a w
  | 0, _, _, _, h => h
  | fuel + 1, _, _, _, h => ⟨h.1, fun i hi => wpOpIn_mono (fun _ _ q => wpAnyIn_of_HI fuel _ _ _ q.2) (h.2 i hi)⟩
theorem yields_wpOpIn {i : Nat} {o : Oper} {v : Value} {a : Act} (hi : ops[i]? = some o) (hy : YieldsIf P ops S o v a) {K : Act → World → Prop} {w : World} (hS : S w) (h : K (a.put o.dst v) w) : wpOpIn Fence.wide n P ops Q i K a w := by
  unfold wpOpIn
  rw [hi]
  dsimp only
  rcases hy with ⟨hw, hv⟩ | ⟨hw, rfl⟩
  · rw [if_pos hw]
    refine ⟨fun _ _ => trivial, ?_⟩
    rw [show Fence.wide.round = none from rfl, Oper.semAt_none, hv w hS]
    exact h
  · rw [if_neg (by rw [hw]; simp)]
    exact ⟨fun _ _ => trivial, h⟩
theorem HI_first {i : Nat} {oi : Oper} {v : Value} (hi : ops[i]? = some oi) (hsel : ∀ (j : Nat) (o : Oper) cs b, ops[j]? = some o → o.op ≠ .select cs b) (hQ : ∀ c a w, Q (.panic c) (a.put oi.dst v) w → Q (.panic c) a w) :
    ∀ (fuel : Nat) (listed : Array Bool) (a : Act) (w : World), (∀ j oj, ops[j]? = some oj → j ≠ i → listed.getD j true = false → (∀ e ∈ oj.after, Region.binds md e = true → e.on ≠ i) → oi.apart ops oj = true) →
      i ∈ Region.ready md ops listed → YieldsIf P ops S oi v a → S w → wpAnyHI n P md ops Q S fuel (listed.setIfInBounds i true) (a.put oi.dst v) w → wpAnyHI n P md ops Q S (fuel + 1) listed a w
  | 0, listed, a, w, _, hr, hy, hS, H => by
    refine ⟨fun h => (by rw [h] at hr; cases hr), fun j hj => ?_⟩
    rcases Nat.decEq j i with e | e
    · have := ready_mono hj e
      rw [H.1] at this
      cases this
    · subst e; exact yields_wpOpIn hi hy hS ⟨hS, H⟩
  | fuel + 1, listed, a, w, hfree, hr, hy, hS, H => by
    refine ⟨fun h => (by rw [h] at hr; cases hr), fun j hj => ?_⟩
    rcases Nat.decEq j i with e | e
    · have q := H.2 j (ready_mono hj e)
      obtain ⟨hun, oj, hoj, hall⟩ := mem_ready.1 hj
      have hl : listed.getD i true = false := (mem_ready.1 hr).1
      have hnot : ∀ f ∈ oj.after, Region.binds md f = true → f.on ≠ i := fun f hf hb he => by
        have h5 := hall f hf hb
        rw [he] at h5
        by_cases hs : i < listed.size
        · simp [hs] at hl h5; rw [hl] at h5; cases h5
        · simp [Array.getElem?_eq_none (Nat.not_lt.1 hs)] at h5
      have q2 := opIn_keeps hoj (hfree j oj hoj e hun hnot) (fun cs b => hsel i oi cs b hi) (fun cs b => hsel j oj cs b hoj) hQ hy q
      refine wpOpIn_mono (fun a' w' h3 => ⟨h3.2.1, HI_first hi hsel hQ fuel (listed.setIfInBounds j true) a' w' (fun k ok hk hki hu hno => hfree k ok hk hki ?_ hno) (ready_mono hr (Ne.symm e)) h3.1 h3.2.1 ?_⟩) q2
      · by_cases hjk : j = k
        · subst hjk; exact hun
        · rw [getD_set_ne true hjk] at hu; exact hu
      · rw [Array.setIfInBounds_comm _ _ e]
        exact h3.2.2
    · subst e; exact yields_wpOpIn hi hy hS ⟨hS, H⟩
theorem wpAnyHI_take {i : Nat} {oi : Oper} {v : Value} {fuel : Nat} {listed : Array Bool} {a : Act} {w : World} (hi : ops[i]? = some oi)
    (hs : Region.noSelect ops = true) (hf : Region.free md ops listed i = true) (hr : (Region.ready md ops listed).contains i = true)
    (hQ : ∀ c a w, Q (.panic c) (a.put oi.dst v) w → Q (.panic c) a w) (hy : YieldsIf P ops S oi v a) (hS : S w)
    (h : wpAnyHI n P md ops Q S fuel (listed.setIfInBounds i true) (a.put oi.dst v) w) : wpAnyHI n P md ops Q S (fuel + 1) listed a w :=
  HI_first hi (Region.noSelect_spec hs) hQ fuel listed a w (Region.free_spec hi hf) (by simpa using hr) hy hS h
theorem operIn_wide {o : Oper} {a : Act} {w : World} {next : Act → World → Prop} (h : o.wp P a w next Q) : o.wpIn Fence.wide n P a w next Q := by
  refine ⟨fun _ _ => trivial, ?_⟩
  rw [show Fence.wide.round = none from rfl, Oper.semAt_none]
  unfold Oper.wp at h
  generalize (execOp a.eval o).run P w = r at *
  cases r with
  | ok x w' =>
    cases x <;> simp only [Oper.upon, Oper.uponIn] at h ⊢ <;>
      first
        | exact h
        | exact ⟨fun hs => (by cases hs), callsIn_wide.2 h⟩
        | exact ⟨fun hs => (by cases hs), rowsIn_wide h⟩
  | halt x w' => cases x <;> simp only [Oper.upon, Oper.uponIn] at h ⊢ <;> exact h
def AllReadyHI (n : Nat) (P : Program) (md : Region.Mode) (ops : Array Oper) (Q : Exit → Act → World → Prop) (S : World → Prop) (fuel : Nat) (listed : Array Bool) (a : Act) (w : World) (rs : List Nat) : Prop :=
  ∀ i ∈ rs, wpOpIn Fence.wide n P ops Q i (fun a' w' => S w' ∧ wpAnyHI n P md ops Q S fuel (listed.setIfInBounds i true) a' w') a w
theorem AllReadyHI.nil {fuel : Nat} {listed : Array Bool} {a : Act} {w : World} : AllReadyHI n P md ops Q S fuel listed a w [] := fun _ h => by cases h
theorem AllReadyHI.cons {fuel : Nat} {listed : Array Bool} {a : Act} {w : World} {i : Nat} {o : Oper} {rs : List Nat} (ho : ops[i]? = some o)
    (h : ∀ K' : Act → World → Prop, Shut (∀ a w, S w → (S w → wpAnyHI n P md ops Q S fuel (listed.setIfInBounds i true) a w) → K' a w) → if Region.wanted o (yielded ops a.tmps) = true then Oper.wp P o a w K' Q else K' (a.put o.dst undef) w)
    (hs : AllReadyHI n P md ops Q S fuel listed a w rs) : AllReadyHI n P md ops Q S fuel listed a w (i :: rs) := fun j hj => by
  rcases List.mem_cons.1 hj with rfl | hj
  · have q := h (fun a' w' => S w' ∧ wpAnyHI n P md ops Q S fuel (listed.setIfInBounds j true) a' w') (fun a' w' h1 h2 => ⟨h1, h2 h1⟩)
    unfold wpOpIn
    rw [ho]
    dsimp only
    split
    · rename_i hw; rw [if_pos hw] at q; exact operIn_wide q
    · rename_i hw; rw [if_neg hw] at q; exact ⟨fun _ _ => trivial, q⟩
  · exact hs j hj
theorem wpAnyHI_ready {rs : List Nat} {fuel : Nat} {listed : Array Bool} {a : Act} {w : World} (hr : Region.ready md ops listed = rs) (hne : rs ≠ []) (h : AllReadyHI n P md ops Q S fuel listed a w rs) : wpAnyHI n P md ops Q S (fuel + 1) listed a w :=
  ⟨fun h0 => absurd (hr ▸ h0) hne, hr ▸ h⟩
theorem wpAnyHI_done {listed : Array Bool} {a : Act} {w : World} (hr : Region.ready md ops listed = []) (h : Q .normal a w) : ∀ fuel, wpAnyHI n P md ops Q S fuel listed a w
  | 0 => ⟨hr, h⟩
  | _ + 1 => ⟨fun _ => h, by rw [hr]; simp⟩
/-- A call of a yield comes up, and nothing else. -/
theorem wpAnyHI_yield {i : Nat} {o : Oper} {fuel : Nat} {listed : Array Bool} {a : Act} {w : World} {l : Nat} {fn : FuncId} {tmps : Array Value} {assign body : Code} {R : Ending → World → Prop} (hr : Region.ready md ops listed = [i]) (ho : ops[i]? = some o)
    (hw : Region.wanted o (yielded ops a.tmps) = true) (he : (execOp a.eval o).run P w = .ok (.round l fn tmps assign body) w) (hR : RoundIn Fence.wide (n - 1) P l fn tmps assign body w R)
    (h : ∀ e w', R e w' → ∃ v, e = .returned v ∧ S w' ∧ (S w' → wpAnyHI n P md ops Q S fuel (listed.setIfInBounds i true) (a.put o.dst v) w')) : wpAnyHI n P md ops Q S (fuel + 1) listed a w := by
  refine ⟨fun h0 => (by rw [hr] at h0; cases h0), fun j hj => ?_⟩
  rw [hr, List.mem_singleton] at hj
  subst hj
  unfold wpOpIn
  rw [ho]
  dsimp only
  rw [if_pos hw]
  refine ⟨fun _ _ => trivial, ?_⟩
  rw [show Fence.wide.round = none from rfl, Oper.semAt_none, he]
  refine ⟨fun hs => (by cases hs), RoundIn.mono hR fun e w' hre => ?_⟩
  obtain ⟨v, rfl, h1, h2⟩ := h e w' hre
  exact ⟨h1, h2 h1⟩
theorem wpIn_region_HI {id : Nat} {a : Act} {w : World} (hm : P.follows .mixedOrders = true) (h : wpAnyHI n P .any ops Q S ops.size (Array.replicate ops.size false) a w.drew) : (Code.region id ops true).wpIn Fence.wide n P Q a w :=
  wpIn_region_any hm (wpAnyIn_of_HI _ _ _ _ h)
end
end Go.Proofs.Ytedfdhpggghjeaa
