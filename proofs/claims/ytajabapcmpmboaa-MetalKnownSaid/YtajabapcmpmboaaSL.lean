/- Lists of lists, and the reference's additions. -/
import Derived.Test.YtajabapcmpmboaaSI
import Derived.Deep.Upon
import Derived.Maps.AppendAt
import Derived.Deep.RegionHeld3
import Derived.Deep.RegionLaw
import Derived.Deep.DeepCutAuto
namespace Go.Proofs.Ytajabapcmpmboaa
set_option linter.unusedVariables false
set_option linter.unusedSimpArgs false
open Go.RowKit

theorem Try.info29 : (Try.prog.info? 29).map (fun i => (i.zero, i.size, i.bytes)) = some (some (.slice none 0 0), 1, 24) := by kernel_rfl

/-- append(out, more...) of two slices of lists that calls have made. -/
theorem run_append_rows (w : World) (n0 m0 n n2 : Nat) (v v2 : Value) (xs ys : List Value) (hown : w.ownsRow n0 29 1 v n xs) (hown2 : w.ownsRow m0 29 1 v2 n2 ys) (h1 : ∀ u ∈ ys, u.oneCell' = true) (hn : n + n2 ≤ 100000) (hb : n0 ≤ w.heap.size) :
    ∃ v' w', (Builtin.append_ #[95, 95] 95 #[v, v2]).run Try.prog w = .ok v' w' ∧ w'.ownsRow n0 29 1 v' (n + n2) (xs ++ ys) ∧ w.grownBy w' v.ownBlock ∧ (v'.ownBlock = v.ownBlock ∨ v'.ownBlock = some w.heap.size) := by
  obtain ⟨i0, hi, hy0, hy1, hy2⟩ := info_parts Try.info29
  rcases hown2.2 with ⟨rfl, rfl⟩ | ⟨g, cap, cur, rfl, _, hg, hle, hcap, hsz, htk⟩
  · obtain rfl : ys = [] := List.length_eq_zero_iff.1 (by have := hown2.1; simpa using this)
    have hv : ∃ base l c, v = .slice base l c ∧ l ≤ c := by
      rcases hown.2 with ⟨rfl, rfl⟩ | ⟨g, cap, cur, rfl, _, _, h, _⟩
      · exact ⟨none, 0, 0, rfl, Nat.le_refl _⟩
      · exact ⟨_, _, _, rfl, h⟩
    obtain ⟨base, l, c, rfl, hlc⟩ := hv
    refine ⟨_, w, run_append_nothing w 95 95 95 29 i0 Try.underlying95 hi base l c hlc _ (Src.ofNil w Try.underlying95 0), by simpa using hown, ⟨rfl, rfl, rfl, Nat.le_refl _, fun _ _ _ => rfl⟩, .inl rfl⟩
  · obtain ⟨v', w', hr, ho, hgr, _, hat⟩ := run_append_own_at (P := Try.prog) w n0 95 95 29 i0 (.slice none 0 0) 1 24 Try.underlying95 hi hy0 hy1 hy2 rfl (by decide) v n xs hown ⟨g, 0, none⟩ n2 cap ys hown2.1 (by
        intro j u hj
        have hj2 : cur[j]? = some u := by
          rw [← htk, List.getElem?_take] at hj
          split at hj
          · simpa using hj
          · cases hj
        rw [Addr.add_lit]
        simpa [World.cell?, hg] using hj2) h1 (by unfold maxLen; omega) (by omega) hb
    exact ⟨v', w', hr, ho, hgr, hat⟩

/-- A row of slices that read so. -/
def LRead (w : World) (len : Nat) (vs : List Value) (Ls : List (List Int)) : Prop :=
  vs.length = Ls.length ∧ ∀ i (h : i < Ls.length), ∃ xa xc, vs[i]? = some (.slice xa len xc) ∧ IntsAt w xa len Ls[i]
theorem IntsAt.kept {w w' : World} {a : Option Addr} {len : Nat} {xs : List Int} {row : Option Nat} (h : IntsAt w a len xs) (hg : w.grownBy w' row) (hne : 0 < len → ∀ b o, a = some ⟨b, o, none⟩ → row ≠ some b) : IntsAt w' a len xs := by
  obtain ⟨h1, h2, h3⟩ := h
  refine ⟨h1, h2, fun hl => ?_⟩
  obtain ⟨b, o, rfl, hb, hc⟩ := h3 hl
  have hk : w'.heap[b]? = w.heap[b]? := hg.block b hb (fun e => hne hl b o rfl e.symm)
  exact ⟨b, o, rfl, Nat.lt_of_lt_of_le hb hg.size, fun i hi => (World.cell?_of_block (w := w) (a := ⟨b, _, none⟩) hk).trans (hc i hi)⟩
theorem LRead.kept {w w' : World} {len : Nat} {vs : List Value} {Ls : List (List Int)} {row : Option Nat} (h : LRead w len vs Ls) (hg : w.grownBy w' row) (hne : 0 < len → ∀ u ∈ vs, ∀ b o l c, u = .slice (some ⟨b, o, none⟩) l c → row ≠ some b) : LRead w' len vs Ls := by
  refine ⟨h.1, fun i hi => ?_⟩
  obtain ⟨xa, xc, hv, hr⟩ := h.2 i hi
  exact ⟨xa, xc, hv, hr.kept hg fun hl b o e => hne hl _ (List.mem_of_getElem? hv) b o len xc (by rw [e])⟩
theorem LRead.below {w w' : World} {len : Nat} {vs : List Value} {Ls : List (List Int)} (h : LRead w len vs Ls) (hb : Below w.heap.size w w') : LRead w' len vs Ls :=
  ⟨h.1, fun i hi => by obtain ⟨xa, xc, hv, hr⟩ := h.2 i hi; exact ⟨xa, xc, hv, hr.below hb⟩⟩
theorem LRead.nil (w : World) (len : Nat) : LRead w len [] [] := ⟨rfl, fun i hi => by simp at hi⟩
theorem LRead.append {w : World} {len : Nat} {vs us : List Value} {Ls Ms : List (List Int)} (h : LRead w len vs Ls) (k : LRead w len us Ms) : LRead w len (vs ++ us) (Ls ++ Ms) := by
  refine ⟨by rw [List.length_append, List.length_append, h.1, k.1], fun i hi => ?_⟩
  rcases Nat.lt_or_ge i Ls.length with hl | hl
  · obtain ⟨xa, xc, hv, hr⟩ := h.2 i hl
    exact ⟨xa, xc, by rw [List.getElem?_append_left (by rw [h.1]; exact hl)]; exact hv, by rw [List.getElem_append_left hl]; exact hr⟩
  · rw [List.length_append] at hi
    obtain ⟨xa, xc, hv, hr⟩ := k.2 (i - Ls.length) (by omega)
    exact ⟨xa, xc, by rw [List.getElem?_append_right (by rw [h.1]; exact hl), h.1]; exact hv, by rw [List.getElem_append_right hl]; exact hr⟩
theorem LRead.one {w : World} {len : Nat} {vs : List Value} {Ls : List (List Int)} (h : LRead w len vs Ls) : ∀ u ∈ vs, u.oneCell' = true := by
  intro u hu
  obtain ⟨i, hi, rfl⟩ := List.getElem_of_mem hu
  obtain ⟨xa, xc, hv, _⟩ := h.2 i (by rw [← h.1]; exact hi)
  rw [List.getElem?_eq_getElem hi] at hv
  rw [Option.some.inj hv]; rfl

/-- The additions that begin so. -/
def Shop.addsFrom (s : Shop) (f : List Int) : List (List Int) := ((allL (s.most.drop f.length)).map fun r => f ++ r).filter s.isAdd
theorem addsFrom_end (s : Shop) (f : List Int) (h : s.pigs.length ≤ f.length) : s.addsFrom f = if s.isAdd f then [f] else [] := by
  unfold Shop.addsFrom
  rw [List.drop_eq_nil_of_le (by simpa [Shop.most] using h)]
  simp only [allL, List.map_cons, List.append_nil, List.map_nil, List.filter_cons, List.filter_nil]
theorem addsFrom_step (s : Shop) (f : List Int) (h : f.length < s.pigs.length) : s.addsFrom f = (List.range (s.pigs[f.length].m.toNat + 1)).flatMap fun (n : Nat) => s.addsFrom (f ++ [(n : Int)]) := by
  unfold Shop.addsFrom
  have hm : f.length < s.most.length := by simpa [Shop.most] using h
  rw [List.drop_eq_getElem_cons hm]
  have e : s.most[f.length] = s.pigs[f.length].m := by simp [Shop.most]
  rw [e]
  simp only [allL, List.map_flatMap, List.filter_flatMap, List.map_map, List.length_append, List.length_cons, List.length_nil]
  congr 1
  funext n
  congr 1
  refine List.map_congr_left fun r _ => ?_
  simp
theorem addsFrom_nil {s : Shop} (ho : s.ok = true) : s.addsFrom [] = s.adds := by
  unfold Shop.addsFrom Shop.adds
  simp only [List.length_nil, List.drop_zero, List.nil_append, List.map_id']
  refine List.filter_congr fun x hx => ?_
  have hl := allL_len _ _ hx
  simp only [Shop.most, List.length_map] at hl
  simp [Shop.isAdd, hl, Shop.fewB_all ho hx]
theorem addsFrom_few {s : Shop} (ho : s.ok = true) (f : List Int) : (s.addsFrom f).length ≤ 1296 := by
  unfold Shop.addsFrom
  refine Nat.le_trans (List.length_filter_le _ _) ?_
  rw [List.length_map]
  have h1 := row_len (s.most.drop f.length) (fun m hm => by
    have := List.mem_of_mem_drop hm
    simp only [Shop.most, List.mem_map] at this
    obtain ⟨p, hp, rfl⟩ := this
    obtain ⟨k, hk, rfl⟩ := List.getElem_of_mem hp
    have := Pig.ok_bd (Shop.ok_pig ho k hk); omega)
  have h2 := Shop.ok_bd ho
  have h3 : 6 ^ (s.most.drop f.length).length ≤ 6 ^ 4 := Nat.pow_le_pow_right (by omega) (by simp [Shop.most]; omega)
  omega

/-- What a call for all additions that begin so ends with. -/
def AddsPost (s : Shop) (len : Nat) (f : List Int) (fa : Option Addr) (w : World) (e : Ending) (w' : World) : Prop :=
  ∃ v vs, e = .returned v ∧ w'.ownsRow w.heap.size 29 1 v (s.addsFrom f).length vs ∧ LRead w' len vs (s.addsFrom f) ∧
    (0 < len → ∀ u ∈ vs, ∀ b o l c, u = .slice (some ⟨b, o, none⟩) l c → v.ownBlock ≠ some b ∧ (w.heap.size ≤ b ∨ fa = some ⟨b, o, none⟩)) ∧ Below w.heap.size w w'

set_option maxHeartbeats 2000000 in
theorem refAdditions_end (s : Shop) (a : Option Addr) (len cap : Nat) (fa : Option Addr) (fc : Nat) (f : List Int) (w : World) (hp : PigsAt w a len s.pigs) (hx : IntsAt w fa len f) (ho : s.ok = true) :
    Calls Try.prog 81 #[.agg #[.int .i64 s.P, .int .i64 s.tl, .int .i64 s.th, .int .i64 s.al, .int .i64 s.ah, .int .i64 s.room, .int .i64 s.xl, .int .i64 s.xh, .int .i64 s.yl, .int .i64 s.yh, .slice a len cap], .slice fa len fc] w fun e w' => AddsPost s len f fa w e w' := by
  obtain ⟨b, hb⟩ : ∃ b, s.isAdd f = b := ⟨_, rfl⟩
  have HI := Lib.hid (fun w1 (hbw : Below w.heap.size w w1) => refIsAddition_is s a len cap fa len fc f w1 (hp.below hbw) (hx.below hbw) ho b hb)
  have HE := Lib.hid (show s.addsFrom f = if b then [f] else [] by rw [addsFrom_end s f (by have := hp.1; have := hx.1; omega), hb])
  have HX := Lib.hid (fun w1 (hb : Below w.heap.size w w1) => hx.below hb)
  have hfl : 0 < len → ∀ b o, fa = some ⟨b, o, none⟩ → b < w.heap.size := fun h0 b o e => by
    obtain ⟨b', o', e', hb', _⟩ := hx.2.2 h0; rw [e] at e'; cases e'; exact hb'
  clear hp hx hb
  unfold AddsPost
  go_enter Try.func81, Try.ntmps81
  go_wp2_with fail
  refine (HI.out _ (by repeat (first | exact Below.refl _ _ | (refine Below.alloc ?_ (by first | omega | (simp; omega) | simp) _) | (refine Below.setCell ?_ (by first | omega | (simp; omega) | simp) _) | refine Below.drew ?_))).mono ?_
  rintro e w1 ⟨rfl, hb1⟩
  have hw1 := ((by repeat (first | exact Below.refl _ _ | (refine Below.alloc ?_ (by first | omega | (simp; omega) | simp) _) | (refine Below.setCell ?_ (by first | omega | (simp; omega) | simp) _) | refine Below.drew ?_)) : Below w.heap.size w _).trans (hb1.mono (by first | (simp; done) | (simp; omega) | omega))
  clear hb1
  cases b
  · go_wp2_with fail
    go_ret
    exact ⟨_, [], rfl, by rw [HE.out]; exact World.ownsRow_nil _ _ _ _, by rw [HE.out]; exact LRead.nil _ _, fun _ u hu => by simp at hu, hw1⟩
  · go_wp2_with fail
    go_ret
    refine ⟨_, [.slice fa len fc], rfl, ?_, ?_, ?_, hw1.alloc hw1.size _⟩
    · rw [HE.out]
      exact ⟨rfl, .inr ⟨w1.heap.size, 1, #[.slice fa len fc], rfl, hw1.size, World.alloc_heap_new _ _, Nat.le_refl _, by decide, rfl, rfl⟩⟩
    · rw [HE.out]
      refine ⟨rfl, fun i hi => ?_⟩
      obtain rfl : i = 0 := by simpa using hi
      exact ⟨fa, fc, rfl, HX.out _ (hw1.alloc hw1.size _)⟩
    · intro h0 u hu b o l c e
      have hu' := List.mem_singleton.1 hu
      rw [hu'] at e
      injection e with e1 _ _
      have := hfl h0 b o e1
      have := hw1.size
      exact ⟨by simp [Value.ownBlock]; omega, .inr e1⟩


theorem step_append_run {P : Program} {ops : Array Oper} {o : Oper} {a : Act} {K : Act → World → Prop} {Q : Exit → Act → World → Prop} {E : Prop} (w w3 : World) (v1 v2 r : Value) (t : TypeId) (hgd : o.guard = none) (s x : Operand)
    (ho : o.op = .call { callee := .builtin .append, args := #[s, x], argTypes := #[t, t] }) (hs : a.eval s = v1) (hxv : a.eval x = v2)
    (hr : (Builtin.append_ #[t, t] o.type #[v1, v2]).run P w = .ok r w3) (h : K (a.put o.dst r) w3) : if Region.wanted o (yielded ops a.tmps) = true then Oper.wp P o a w K Q else E := by
  rw [if_pos (by simp [Region.wanted, hgd])]
  unfold Oper.wp execOp
  simp only [ho, resolve, invoke, builtin, Sem.run_bind, Sem.run_pure, Result.andThen_ok, List.map_toArray, List.map_cons, List.map_nil, hs, hxv, hr]
  exact h
theorem run_append_made (w : World) (t ty : TypeId) (ht : t = 29) (n0 b xlen xcap : Nat) (xa : Option Addr) (xs : List Int)
    (hrow : w.ownsRow n0 3 1 (.slice (some ⟨b, 0, none⟩) 0 0) 0 []) (hx : IntsAt w xa xlen xs) (hl : xlen ≤ 1000) (hnw : n0 ≤ w.heap.size) :
    ∃ v w3, (Builtin.append_ #[t, t] ty #[.slice (some ⟨b, 0, none⟩) 0 0, .slice xa xlen xcap]).run Try.prog w = .ok v w3 ∧ w3.ownsRow n0 3 1 v xlen (xs.map (Value.int .i64)) ∧ w.grownBy w3 (some b) ∧ (v.ownBlock = some b ∨ v.ownBlock = some w.heap.size) := by
  subst ht
  obtain ⟨i0, hi, hy0, hy1, hy2⟩ := info_parts Try.info3
  obtain ⟨hxl, hxm, hxc⟩ := hx
  rcases Nat.eq_zero_or_pos xlen with h0 | h0
  · subst h0
    have hxs : xs = [] := List.length_eq_zero_iff.1 hxl
    subst hxs
    have hsrc : Src Try.prog i0.size 29 (.slice xa 0 xcap) 0 [] w := by
      cases xa with
      | none => exact Src.ofNil w Try.underlying29 xcap
      | some xa => exact Src.ofSlice w Try.underlying29 xa 0 xcap [] (by simp) (by simp) (by simp)
    exact ⟨_, w, run_append_room_src (P := Try.prog) w 29 29 ty 3 i0 Try.underlying29 hi b 0 0 0 (.slice xa 0 xcap) 0 [] hsrc (by omega) (by simp) (by simp), by simpa using hrow, World.grownBy.refl _ _, .inl rfl⟩
  · obtain ⟨pb, po, rfl, hpb, hat⟩ := hxc h0
    obtain ⟨v', w3, hr, hown, hgrow, _, hat'⟩ := run_append_own_at (P := Try.prog) w n0 29 ty 3 i0 (.int .i64 0) 1 8 Try.underlying29 hi hy0 hy1 hy2 rfl (by decide) _ 0 [] hrow ⟨pb, po, none⟩ xlen xcap (xs.map (Value.int .i64)) (by simp [hxl]) (by
      intro j u hj
      have hjx : j < xs.length := by have := (List.getElem?_eq_some_iff.1 hj).1; simpa using this
      rw [Addr.add_lit]
      refine (hat j hjx).trans ?_
      rw [← hj]; simp [hjx]) (by intro u hu; obtain ⟨y, _, rfl⟩ := List.mem_map.1 hu; rfl) (by unfold maxLen; omega) (by omega) hnw
    rw [Nat.zero_add, List.nil_append] at hown
    exact ⟨v', w3, hr, hown, by simpa [Value.ownBlock] using hgrow, by simpa [Value.ownBlock] using hat'⟩
theorem run_append_one (w : World) (t ty : TypeId) (ht : t = 29) (n0 n c : Nat) (v : Value) (xs : List Value) (u : Int)
    (hrow : w.ownsRow n0 3 1 v n xs) (hc : w.cell? ⟨c, 0, none⟩ = some (.int .i64 u)) (hl : n ≤ 1000) (hnw : n0 ≤ w.heap.size) :
    ∃ v' w', (Builtin.append_ #[t, t] ty #[v, .slice (some ⟨c, 0, none⟩) 1 1]).run Try.prog w = .ok v' w' ∧ w'.ownsRow n0 3 1 v' (n + 1) (xs ++ [.int .i64 u]) ∧ w.grownBy w' v.ownBlock := by
  subst ht
  obtain ⟨i0, hi, hy0, hy1, hy2⟩ := info_parts Try.info3
  obtain ⟨v', w3, hr, hown, hgrow, _, _⟩ := run_append_own_at (P := Try.prog) w n0 29 ty 3 i0 (.int .i64 0) 1 8 Try.underlying29 hi hy0 hy1 hy2 rfl (by decide) _ n xs hrow ⟨c, 0, none⟩ 1 1 [.int .i64 u] rfl (by
    intro j x hj
    match j, hj with
    | 0, hj => cases hj; rw [Addr.add_lit]; exact hc
    | j + 1, hj => simp at hj) (by intro x hx; rw [List.mem_singleton.1 hx]; rfl) (by unfold maxLen; omega) (by omega) hnw
  exact ⟨v', w3, hr, hown, hgrow⟩
theorem step_append_made {ops : Array Oper} {o : Oper} {a : Act} {K : Act → World → Prop} {Q : Exit → Act → World → Prop} {E : Prop} (w : World) (n0 b xlen xcap : Nat) (xa : Option Addr) (xs : List Int) (hgd : o.guard = none) (s x : Operand)
    (ho : o.op = .call { callee := .builtin .append, args := #[s, x], argTypes := #[29, 29] }) (hs : a.eval s = .slice (some ⟨b, 0, none⟩) 0 0) (hxv : a.eval x = .slice xa xlen xcap)
    (hrow : w.ownsRow n0 3 1 (.slice (some ⟨b, 0, none⟩) 0 0) 0 []) (hx : IntsAt w xa xlen xs) (hl : xlen ≤ 1000) (hnw : n0 ≤ w.heap.size)
    (h : ∀ v w3, w3.ownsRow n0 3 1 v xlen (xs.map (Value.int .i64)) → w.grownBy w3 (some b) → (v.ownBlock = some b ∨ v.ownBlock = some w.heap.size) → K (a.put o.dst v) w3) : if Region.wanted o (yielded ops a.tmps) = true then Oper.wp Try.prog o a w K Q else E := by
  obtain ⟨v, w3, hr, h1, h2, h3⟩ := run_append_made w 29 o.type rfl n0 b xlen xcap xa xs hrow hx hl hnw
  exact step_append_run w w3 _ _ v 29 hgd s x ho hs hxv hr (h v w3 h1 h2 h3)
theorem step_append_one {ops : Array Oper} {o : Oper} {a : Act} {K : Act → World → Prop} {Q : Exit → Act → World → Prop} {E : Prop} (w : World) (n0 n c : Nat) (v : Value) (xs : List Value) (u : Int) (hgd : o.guard = none) (s x : Operand)
    (ho : o.op = .call { callee := .builtin .append, args := #[s, x], argTypes := #[29, 29] }) (hs : a.eval s = v) (hxv : a.eval x = .slice (some ⟨c, 0, none⟩) 1 1)
    (hrow : w.ownsRow n0 3 1 v n xs) (hc : w.cell? ⟨c, 0, none⟩ = some (.int .i64 u)) (hl : n ≤ 1000) (hnw : n0 ≤ w.heap.size)
    (h : ∀ g c' w', w'.ownsRow n0 3 1 (.slice (some ⟨g, 0, none⟩) (n + 1) c') (n + 1) (xs ++ [.int .i64 u]) → w.grownBy w' v.ownBlock → n0 ≤ g → K (a.put o.dst (.slice (some ⟨g, 0, none⟩) (n + 1) c')) w') : if Region.wanted o (yielded ops a.tmps) = true then Oper.wp Try.prog o a w K Q else E := by
  obtain ⟨v', w3, hr, h1, h2⟩ := run_append_one w 29 o.type rfl n0 n c v xs u hrow hc hl hnw
  obtain ⟨g, c', rfl, hg⟩ := ownsRow_pos h1 (by omega)
  exact step_append_run w w3 _ _ _ 29 hgd s x ho hs hxv hr (h g c' w3 h1 h2 hg)
theorem step_append_rows {ops : Array Oper} {o : Oper} {a : Act} {K : Act → World → Prop} {Q : Exit → Act → World → Prop} {E : Prop} (w : World) (n0 m0 n n2 : Nat) (v v2 : Value) (xs ys : List Value) (hgd : o.guard = none) (s x : Operand)
    (ho : o.op = .call { callee := .builtin .append, args := #[s, x], argTypes := #[95, 95] }) (hty : o.type = 95) (hs : a.eval s = v) (hxv : a.eval x = v2)
    (hown : w.ownsRow n0 29 1 v n xs) (hown2 : w.ownsRow m0 29 1 v2 n2 ys) (h1 : ∀ u ∈ ys, u.oneCell' = true) (hn : n + n2 ≤ 100000) (hb : n0 ≤ w.heap.size)
    (h : ∀ v' w', w'.ownsRow n0 29 1 v' (n + n2) (xs ++ ys) → w.grownBy w' v.ownBlock → (v'.ownBlock = v.ownBlock ∨ v'.ownBlock = some w.heap.size) → K (a.put o.dst v') w') : if Region.wanted o (yielded ops a.tmps) = true then Oper.wp Try.prog o a w K Q else E := by
  obtain ⟨v', w3, hr, k1, k2, k3⟩ := run_append_rows w n0 m0 n n2 v v2 xs ys hown hown2 h1 hn hb
  exact step_append_run w w3 _ _ v' 95 hgd s x ho hs hxv (by rw [hty]; exact hr) (h v' w3 k1 k2 k3)
theorem grown_cells {w w1 : World} {b : Nat} (h : w.grownBy w1 (some b)) : ∀ k i, k < w.heap.size → ¬ k = b → w1.cell? ⟨k, i, none⟩ = w.cell? ⟨k, i, none⟩ :=
  fun k i hk hne => World.cell?_of_block (w := w) (a := ⟨k, i, none⟩) (h.block k hk (by simpa using hne))
theorem bothS_grown {W0 W w1 : World} {row : Option Nat} (h : Below W0.heap.size W0 W ∧ ∀ b o, b < W0.heap.size → W.cell? ⟨b, o, none⟩ = W0.cell? ⟨b, o, none⟩) (hg : W.grownBy w1 row) (hr : ∀ r, row = some r → W0.heap.size ≤ r) :
    Below W0.heap.size W0 w1 ∧ ∀ b o, b < W0.heap.size → w1.cell? ⟨b, o, none⟩ = W0.cell? ⟨b, o, none⟩ :=
  ⟨h.1.grown hg h.1.size (fun r e => hr r (e ▸ rfl)), fun b o hbo => (h.1.grown hg h.1.size (fun r e => hr r (e ▸ rfl))).cell (p := ⟨b, o, none⟩) hbo⟩
theorem LRead.lt {w : World} {len : Nat} {vs : List Value} {Ls : List (List Int)} (h : LRead w len vs Ls) (h0 : 0 < len) {u : Value} (hu : u ∈ vs) {b o l c : Nat} (e : u = .slice (some ⟨b, o, none⟩) l c) : b < w.heap.size := by
  obtain ⟨i, hi, rfl⟩ := List.getElem_of_mem hu
  obtain ⟨xa, xc, hv, hr⟩ := h.2 i (by rw [← h.1]; exact hi)
  rw [List.getElem?_eq_getElem hi, e] at hv
  injection hv with hv
  injection hv with hv1 _ _
  subst hv1
  obtain ⟨b', o', e', hb, _⟩ := hr.2.2 h0
  injection e' with e'
  injection e' with e1 _ _
  omega
theorem own_base {w : World} {n0 k n : Nat} {e : TypeId} {v : Value} {xs : List Value} (h : w.ownsRow n0 e k v n xs) : ∀ r, v.ownBlock = some r → n0 ≤ r ∧ r < w.heap.size := by
  intro r hr
  rcases h.2 with ⟨rfl, _⟩ | ⟨g, cap, cur, rfl, hg, hh, _⟩
  · simp [Value.ownBlock] at hr
  · simp [Value.ownBlock] at hr
    subst hr
    exact ⟨hg, (Array.getElem?_eq_some_iff.1 hh).1⟩

theorem rowS_of {W0 W : World} {R : Option Nat} (h : Below W0.heap.size W0 W) : W0.grownBy W R ∧ ∀ b o, b < W0.heap.size → ¬ some b = R → W.cell? ⟨b, o, none⟩ = W0.cell? ⟨b, o, none⟩ :=
  ⟨⟨h.os, h.tape, h.output, h.size, fun k hk _ => h.block k hk⟩, fun b o hb _ => h.cell (p := ⟨b, o, none⟩) hb⟩
theorem rowS_grown {W0 W W1 : World} {R : Option Nat} (h : Below W0.heap.size W0 W) (hg : W.grownBy W1 R) : W0.grownBy W1 R ∧ ∀ b o, b < W0.heap.size → ¬ some b = R → W1.cell? ⟨b, o, none⟩ = W0.cell? ⟨b, o, none⟩ :=
  ⟨(rowS_of h).1.trans hg, fun b o hb hne => World.cell?_of_block (w := W0) (a := ⟨b, o, none⟩) (((rowS_of h).1.trans hg).block b hb hne)⟩

/-- The additions of some next numbers. -/
def accOf (s : Shop) (f : List Int) (j : Nat) : List (List Int) := (List.range j).flatMap fun (n : Nat) => s.addsFrom (f ++ [(n : Int)])
theorem accOf_succ (s : Shop) (f : List Int) (j : Nat) : accOf s f (j + 1) = accOf s f j ++ s.addsFrom (f ++ [(j : Int)]) := by
  unfold accOf; rw [List.range_succ, List.flatMap_append]; simp
theorem accOf_few {s : Shop} (ho : s.ok = true) (f : List Int) : ∀ j, (accOf s f j).length ≤ 1296 * j
  | 0 => by simp [accOf]
  | j + 1 => by
    have h1 := accOf_few ho f j
    have h2 := addsFrom_few ho (f ++ [(j : Int)])
    rw [accOf_succ, List.length_append]; omega

theorem name1a (w : World) (ds : Array Value) (U : TypeId) :
    ∃ W0, w.alloc (.cells ds U) = W0 ∧ Below w.heap.size w W0 ∧ (∀ i, W0.cell? ⟨w.heap.size, i, none⟩ = ds[i]?) ∧ W0.heap.size = w.heap.size + 1 :=
  ⟨_, rfl, (by repeat (first | exact Below.refl _ _ | (refine Below.alloc ?_ (by first | omega | (simp; omega) | simp) _) | (refine Below.setCell ?_ (by first | omega | (simp; omega) | simp) _) | refine Below.drew ?_)), fun i => World.cell?_alloc_new w _ _ i, by simp⟩

set_option maxRecDepth 100000 in
set_option maxHeartbeats 8000000 in
theorem refAdditions_step (s : Shop) (a : Option Addr) (len cap : Nat) (k : Nat) (fa : Option Addr) (fc : Nat) (f : List Int) (w : World) (hp : PigsAt w a len s.pigs) (hx : IntsAt w fa k f) (ho : s.ok = true) (hk : k < len)
    (IH : ∀ (n : Int) (ga : Option Addr) (gc : Nat) (w1 : World), PigsAt w1 a len s.pigs → IntsAt w1 ga (k + 1) (f ++ [n]) → Calls Try.prog 81 #[.agg #[.int .i64 s.P, .int .i64 s.tl, .int .i64 s.th, .int .i64 s.al, .int .i64 s.ah, .int .i64 s.room, .int .i64 s.xl, .int .i64 s.xh, .int .i64 s.yl, .int .i64 s.yh, .slice a len cap], .slice ga (k + 1) gc] w1 fun e w' => AddsPost s len (f ++ [n]) ga w1 e w') :
    Calls Try.prog 81 #[.agg #[.int .i64 s.P, .int .i64 s.tl, .int .i64 s.th, .int .i64 s.al, .int .i64 s.ah, .int .i64 s.room, .int .i64 s.xl, .int .i64 s.xh, .int .i64 s.yl, .int .i64 s.yh, .slice a len cap], .slice fa k fc] w fun e w' => AddsPost s len f fa w e w' := by
  have hkp : k < s.pigs.length := by rw [hp.1]; exact hk
  have hl4 : len ≤ 4 := by have := Shop.ok_bd ho; have := hp.1; omega
  have hfk : f.length = k := hx.1
  have hm := Pig.ok_bd (Shop.ok_pig ho k hkp)
  have HSTEP := Lib.hid (show s.addsFrom f = accOf s f ((s.pigs[k]).m.toNat + 1) by
    subst hfk; exact addsFrom_step s f hkp)
  have HP := Lib.hid (fun w1 (hb : Below w.heap.size w w1) => hp.below hb)
  have HX := Lib.hid (fun w1 (hb : Below w.heap.size w w1) => hx.below hb)
  have HIH := Lib.hid IH
  have HA0 := Lib.hid (show accOf s f 0 = [] from rfl)
  have HAS := Lib.hid (accOf_succ s f)
  have HAF := Lib.hid (accOf_few ho f)
  have HFF := Lib.hid (fun n : Int => addsFrom_few ho (f ++ [n]))
  have hk1000 : k ≤ 1000 := by omega
  obtain ⟨b1, o1, rfl, hB1, hcell⟩ := hp.2.2 (by omega)
  have hpk := hcell k hkp
  have e1 : ((k : Int) == (len : Int)) = false := by simp; omega
  have e2 : ((k : Int) != (len : Int)) = true := by simp; omega
  have e3 : (k : Int) < (len : Int) := by omega
  obtain ⟨m0, m1⟩ : 0 ≤ (s.pigs[k]).m ∧ (s.pigs[k]).m ≤ 5 := by omega
  clear hcell hm
  generalize s.pigs[k] = pk at *
  clear hp hx IH hkp hfk
  go_enter Try.func81, Try.ntmps81
  go_wp2_with fail
  obtain ⟨W0, hW0, hB0, hsb, hz0⟩ := name1a w #[.int .i64 s.P, .int .i64 s.tl, .int .i64 s.th, .int .i64 s.al, .int .i64 s.ah, .int .i64 s.room, .int .i64 s.xl, .int .i64 s.xh, .int .i64 s.yl, .int .i64 s.yh, .slice (some ⟨b1, o1, none⟩) len cap] 28
  rw [hW0]
  clear hW0
  have HSB := Lib.hid hsb
  have HB0 := Lib.hid hB0
  have t0 : w.heap.size < W0.heap.size := by omega
  clear hsb hB0 hz0
  go_loopw [5, 6] (fun v5 v6 wr => ∃ (j : Nat) (vs : List Value) (R : Option Nat), v5.ownBlock = R ∧ (j : Int) ≤ pk.m + 1 ∧ v6 = .int .i64 (j : Int) ∧ wr.ownsRow W0.heap.size 29 1 v5 (accOf s f j).length vs ∧ LRead wr len vs (accOf s f j) ∧ (0 < len → ∀ u ∈ vs, ∀ b o l c, u = .slice (some ⟨b, o, none⟩) l c → R ≠ some b ∧ W0.heap.size ≤ b) ∧ Below W0.heap.size W0 wr) (fun _ i _ => (pk.m + 1 - intOf i).toNat)
  case atStart => exact ⟨0, [], none, rfl, by omega, rfl, by rw [HA0.out]; exact World.ownsRow_nil _ _ _ _, by rw [HA0.out]; exact LRead.nil _ _, fun _ u hu => by simp at hu, Below.refl _ _⟩
  case round =>
    obtain ⟨j, vs, R, hR, hj, rfl, hrow, hrd, hap, hB⟩ := hrel
    have hRb := own_base hrow
    rw [hR] at hRb
    have hzr := hB.size
    have hBw := HB0.out.trans (hB.mono HB0.out.size)
    have hbx := fun i => (hB.cell (p := ⟨w.heap.size, i, none⟩) t0).trans (HSB.out i)
    obtain ⟨x0, x1, x2, x3, x4, x5, x6, x7, x8, x9, x10⟩ : wr.cell? ⟨w.heap.size, 0, none⟩ = some (.int .i64 s.P) ∧ wr.cell? ⟨w.heap.size, 1, none⟩ = some (.int .i64 s.tl) ∧ wr.cell? ⟨w.heap.size, 2, none⟩ = some (.int .i64 s.th) ∧ wr.cell? ⟨w.heap.size, 3, none⟩ = some (.int .i64 s.al) ∧ wr.cell? ⟨w.heap.size, 4, none⟩ = some (.int .i64 s.ah) ∧ wr.cell? ⟨w.heap.size, 5, none⟩ = some (.int .i64 s.room) ∧ wr.cell? ⟨w.heap.size, 6, none⟩ = some (.int .i64 s.xl) ∧ wr.cell? ⟨w.heap.size, 7, none⟩ = some (.int .i64 s.xh) ∧ wr.cell? ⟨w.heap.size, 8, none⟩ = some (.int .i64 s.yl) ∧ wr.cell? ⟨w.heap.size, 9, none⟩ = some (.int .i64 s.yh) ∧ wr.cell? ⟨w.heap.size, 10, none⟩ = some (.slice (some ⟨b1, o1, none⟩) len cap) := ⟨hbx 0, hbx 1, hbx 2, hbx 3, hbx 4, hbx 5, hbx 6, hbx 7, hbx 8, hbx 9, hbx 10⟩
    obtain ⟨c0, c1, c2, c3, c4⟩ := Pig.at_below hBw hB1 hpk
    have HROW := Lib.hid hrow
    have HRD := Lib.hid hrd
    have HAP := Lib.hid hap
    have HB := Lib.hid hB
    clear hbx hrow hrd hap hB c0 c1 c2 c3
    by_cases hlt : (j : Int) ≤ pk.m
    · have g0 : w.heap.size < wr.heap.size := by omega
      have hRs : ¬ some w.heap.size = R := fun e => by have := (hRb _ e.symm).1; omega
      have hRs' : ¬ R = some w.heap.size := fun e => hRs e.symm
      have HRB := Lib.hid hRb
      have HXr := Lib.hid (fun W (h : Below wr.heap.size wr W) => HX.out W (hBw.trans (h.mono hBw.size)))
      have HCr := Lib.hid (fun ga gc W (h : Below wr.heap.size wr W) (hi : IntsAt W ga (k + 1) (f ++ [(j : Int)])) => HIH.out (j : Int) ga gc W (HP.out W (hBw.trans (h.mono hBw.size))) hi)
      unfold AddsPost at HCr
      clear hzr hRb
      have hbnd : (accOf s f j).length + (s.addsFrom (f ++ [(j : Int)])).length ≤ 100000 := by
        have h1 := HAF.out j
        have h2 := HFF.out (j : Int)
        omega
      go_upto_region 9 with fail
      go_region_held3 (fun w' => wr.grownBy w' R ∧ ∀ b o, b < wr.heap.size → ¬ some b = R → w'.cell? ⟨b, o, none⟩ = wr.cell? ⟨b, o, none⟩) (first | with_reducible assumption | exact rowS_of (by repeat (first | exact Below.refl _ _ | with_reducible exact kA | (refine Below.alloc ?_ (by first | omega | (simp; omega) | simp) _) | refine Below.drew ?_)) | exact rowS_of (by repeat (first | exact Below.refl _ _ | with_reducible exact kB | (refine Below.alloc ?_ (by first | omega | (simp; omega) | simp) _) | refine Below.drew ?_)) | exact rowS_of (by repeat (first | exact Below.refl _ _ | (refine Below.alloc ?_ (by first | omega | (simp; omega) | simp) _) | (refine Below.setCell ?_ (by first | omega | (simp; omega) | simp) _) | refine Below.drew ?_)))
        (first
          | ((with_reducible refine step_append_made _ wr.heap.size (wr.heap.size) k fc fa f rfl _ _ rfl ?_ ?_ ?_ ?_ hk1000 ?_ ?_); (· rfl); (· rfl); (· first | exact (made_row (by simp) (by simp)).drew | exact ((made_row (by simp) (by simp)).alloc _).drew | exact made_row (by simp) (by simp) | exact (made_row (by simp) (by simp)).alloc _); (· exact HXr.out _ (by repeat (first | exact Below.refl _ _ | (refine Below.alloc ?_ (by first | omega | (simp; omega) | simp) _) | (refine Below.setCell ?_ (by first | omega | (simp; omega) | simp) _) | refine Below.drew ?_))); (· first | (simp; done) | (simp; omega) | omega); intro q1 w1 hown1 hgr1 hat1; have kA : Below wr.heap.size wr w1 := Below.grown (by repeat (first | exact Below.refl _ _ | (refine Below.alloc ?_ (by first | omega | (simp; omega) | simp) _) | (refine Below.setCell ?_ (by first | omega | (simp; omega) | simp) _) | refine Below.drew ?_)) hgr1 (by first | (simp; done) | (simp; omega) | omega) (fun r e => (by cases e; first | omega | (simp; done))); have sA := rowS_of (R := R) kA; have hcA := grown_cells hgr1; have hzA := hgr1.size; have HO1 := Lib.hid hown1; (try simp at hzA); clear hgr1 hown1 hat1)
          | ((with_reducible refine step_append_made _ wr.heap.size (wr.heap.size + 1) k fc fa f rfl _ _ rfl ?_ ?_ ?_ ?_ hk1000 ?_ ?_); (· rfl); (· rfl); (· first | exact (made_row (by simp) (by simp)).drew | exact ((made_row (by simp) (by simp)).alloc _).drew | exact made_row (by simp) (by simp) | exact (made_row (by simp) (by simp)).alloc _); (· exact HXr.out _ (by repeat (first | exact Below.refl _ _ | (refine Below.alloc ?_ (by first | omega | (simp; omega) | simp) _) | (refine Below.setCell ?_ (by first | omega | (simp; omega) | simp) _) | refine Below.drew ?_))); (· first | (simp; done) | (simp; omega) | omega); intro q1 w1 hown1 hgr1 hat1; have kA : Below wr.heap.size wr w1 := Below.grown (by repeat (first | exact Below.refl _ _ | (refine Below.alloc ?_ (by first | omega | (simp; omega) | simp) _) | (refine Below.setCell ?_ (by first | omega | (simp; omega) | simp) _) | refine Below.drew ?_)) hgr1 (by first | (simp; done) | (simp; omega) | omega) (fun r e => (by cases e; first | omega | (simp; done))); have sA := rowS_of (R := R) kA; have hcA := grown_cells hgr1; have hzA := hgr1.size; have HO1 := Lib.hid hown1; (try simp at hzA); clear hgr1 hown1 hat1)
          | ((with_reducible refine step_append_one _ wr.heap.size k (wr.heap.size) q1 (f.map (Value.int .i64)) (j : Int) rfl _ _ rfl ?_ ?_ ?_ ?_ hk1000 ?_ ?_); (· rfl); (· rfl); (· first | exact HO1.out | exact HO1.out.drew | exact HO1.out.alloc _ | exact (HO1.out.alloc _).drew); (· first | (go_simp; done)); (· first | (simp; done) | (simp; omega) | omega); intro g2 c2 w2 hown2 hgr2 hge2; have kB : Below wr.heap.size wr w2 := Below.grown (by repeat (first | exact Below.refl _ _ | with_reducible exact kA | (refine Below.alloc ?_ (by first | omega | (simp; omega) | simp) _) | refine Below.drew ?_)) hgr2 (by first | (simp; done) | (simp; omega) | omega) (fun r e => (own_base HO1.out r e).1); have sB := rowS_of (R := R) kB; have HI2 := Lib.hid (ints_own (xs := f ++ [(j : Int)]) (by simpa using hown2) (by unfold maxLen; omega)); clear hgr2 hown2)
          | ((with_reducible refine step_append_one _ wr.heap.size k (wr.heap.size + 1) q1 (f.map (Value.int .i64)) (j : Int) rfl _ _ rfl ?_ ?_ ?_ ?_ hk1000 ?_ ?_); (· rfl); (· rfl); (· first | exact HO1.out | exact HO1.out.drew | exact HO1.out.alloc _ | exact (HO1.out.alloc _).drew); (· first | (go_simp; done)); (· first | (simp; done) | (simp; omega) | omega); intro g2 c2 w2 hown2 hgr2 hge2; have kB : Below wr.heap.size wr w2 := Below.grown (by repeat (first | exact Below.refl _ _ | with_reducible exact kA | (refine Below.alloc ?_ (by first | omega | (simp; omega) | simp) _) | refine Below.drew ?_)) hgr2 (by first | (simp; done) | (simp; omega) | omega) (fun r e => (own_base HO1.out r e).1); have sB := rowS_of (R := R) kB; have HI2 := Lib.hid (ints_own (xs := f ++ [(j : Int)]) (by simpa using hown2) (by unfold maxLen; omega)); clear hgr2 hown2)
          | ((with_reducible refine step_append_one _ wr.heap.size k (w1.heap.size) q1 (f.map (Value.int .i64)) (j : Int) rfl _ _ rfl ?_ ?_ ?_ ?_ hk1000 ?_ ?_); (· rfl); (· rfl); (· first | exact HO1.out | exact HO1.out.drew | exact HO1.out.alloc _ | exact (HO1.out.alloc _).drew); (· first | (go_simp; done)); (· first | (simp; done) | (simp; omega) | omega); intro g2 c2 w2 hown2 hgr2 hge2; have kB : Below wr.heap.size wr w2 := Below.grown (by repeat (first | exact Below.refl _ _ | with_reducible exact kA | (refine Below.alloc ?_ (by first | omega | (simp; omega) | simp) _) | refine Below.drew ?_)) hgr2 (by first | (simp; done) | (simp; omega) | omega) (fun r e => (own_base HO1.out r e).1); have sB := rowS_of (R := R) kB; have HI2 := Lib.hid (ints_own (xs := f ++ [(j : Int)]) (by simpa using hown2) (by unfold maxLen; omega)); clear hgr2 hown2)
          | (go_at_call 81; (with_reducible refine (HCr.out _ _ _ ?_ HI2.out).mono ?_); (· with_reducible exact kB); rintro e w3 ⟨q3, us, rfl, hown3, hrd3, hap3, hb3⟩; have kC : Below wr.heap.size wr w3 := kB.trans (hb3.mono kB.size); have sC := rowS_of (R := R) kC; have HO3 := Lib.hid hown3; have HR3 := Lib.hid hrd3; have HP3 := Lib.hid hap3; have HB3 := Lib.hid hb3; clear hown3 hrd3 hap3 hb3)
          | ((with_reducible refine step_append_rows _ W0.heap.size w2.heap.size _ _ u5 q3 vs us rfl _ _ rfl rfl ?_ ?_ ?_ HO3.out HR3.out.one hbnd ?_ ?_); (· rfl); (· rfl); (· exact HROW.out.kept (grown_none kC) (Classical.em _)); (· exact Nat.le_trans HB.out.size kC.size); intro q4 w4 hown4 hgr4 hat4; rw [hR] at hgr4; have sD := rowS_grown kC hgr4; have HO4 := Lib.hid hown4; have HG4 := Lib.hid hgr4; have HT4 := Lib.hid hat4; clear hown4 hgr4 hat4)
          | fail "no arm")
      all_goals
        have hus : 0 < len → ∀ u ∈ us, ∀ b o l c, u = .slice (some ⟨b, o, none⟩) l c → wr.heap.size ≤ b := fun h0 u hu b o l c e => by
          rcases (HP3.out h0 u hu b o l c e).2 with h | h
          · exact Nat.le_trans kB.size h
          · injection h with h; injection h with h _ _; omega
        have HBK := Lib.hid (Below.grown (HB.out.trans (kC.mono HB.out.size)) HG4.out (Nat.le_trans HB.out.size kC.size) (fun r e => (HRB.out r e).1))
        have HLR := Lib.hid (LRead.append (LRead.kept (HRD.out.below kC) HG4.out (fun h0 u hu b o l c e => (HAP.out h0 u hu b o l c e).1)) (HR3.out.kept HG4.out (fun h0 u hu b o l c e h => by
          have h1 := hus h0 u hu b o l c e
          have h2 := (HRB.out _ h).2
          omega)))
        have HAP4 : 0 < len → ∀ u ∈ vs ++ us, ∀ b o l c, u = .slice (some ⟨b, o, none⟩) l c → q4.ownBlock ≠ some b ∧ W0.heap.size ≤ b := fun h0 u hu b o l c e => by
          have hz := kC.size
          have hzz := HB.out.size
          rcases List.mem_append.1 hu with hu | hu
          · have h1 := HAP.out h0 u hu b o l c e
            have h2 := LRead.lt HRD.out h0 hu e
            refine ⟨fun h => ?_, h1.2⟩
            rcases HT4.out with h3 | h3
            · exact h1.1 (hR.symm.trans (h3.symm.trans h))
            · rw [h3] at h; injection h with h; omega
          · have h1 := hus h0 u hu b o l c e
            have h2 := LRead.lt HR3.out h0 hu e
            refine ⟨fun h => ?_, by omega⟩
            rcases HT4.out with h3 | h3
            · have h4 := (HRB.out b (hR.symm.trans (h3.symm.trans h))).2; omega
            · rw [h3] at h; injection h with h; omega
        replace HAP4 := Lib.hid HAP4
        clear hus x0 x1 x2 x3 x4 x5 x6 x7 x8 x9 x10
        go_wp2_with fail
        go_roundw
        case rel => exact ⟨j + 1, vs ++ us, q4.ownBlock, rfl, by omega, by go_num, by rw [HAS.out, List.length_append]; exact HO4.out, by rw [HAS.out]; exact HLR.out, HAP4.out, HBK.out⟩
        case measure => simp [intOf]; omega
    · have hjm : j = pk.m.toNat + 1 := by omega
      have HE := Lib.hid (show s.addsFrom f = accOf s f j by rw [HSTEP.out, hjm])
      go_wp2_with fail
      go_ret
      unfold AddsPost
      refine ⟨_, vs, rfl, ?_, ?_, ?_, hBw⟩
      · rw [HE.out]; exact Go.Joins.ownsRow_le HROW.out (by omega)
      · rw [HE.out]; exact HRD.out
      · intro h0 u hu b o l c e
        have h := HAP.out h0 u hu b o l c e
        exact ⟨fun e => h.1 (hR.symm.trans e), .inl (by omega)⟩

/-- All additions that begin so. -/
theorem refAdditions_any (s : Shop) (ho : s.ok = true) (a : Option Addr) (len cap : Nat) : ∀ (d k : Nat) (f : List Int) (fa : Option Addr) (fc : Nat) (w : World), k + d = len → PigsAt w a len s.pigs → IntsAt w fa k f →
    Calls Try.prog 81 #[.agg #[.int .i64 s.P, .int .i64 s.tl, .int .i64 s.th, .int .i64 s.al, .int .i64 s.ah, .int .i64 s.room, .int .i64 s.xl, .int .i64 s.xh, .int .i64 s.yl, .int .i64 s.yh, .slice a len cap], .slice fa k fc] w fun e w' => AddsPost s len f fa w e w'
  | 0, k, f, fa, fc, w, h, hp, hx => by
    obtain rfl : k = len := h
    exact refAdditions_end s a k cap fa fc f w hp hx ho
  | d + 1, k, f, fa, fc, w, h, hp, hx =>
    refAdditions_step s a len cap k fa fc f w hp hx ho (by omega) fun n ga gc w1 hp1 hx1 => refAdditions_any s ho a len cap d (k + 1) (f ++ [n]) ga gc w1 (by omega) hp1 hx1
theorem refAdditions_all (s : Shop) (a : Option Addr) (len cap : Nat) (w : World) (hp : PigsAt w a len s.pigs) (ho : s.ok = true) :
    Calls Try.prog 81 #[.agg #[.int .i64 s.P, .int .i64 s.tl, .int .i64 s.th, .int .i64 s.al, .int .i64 s.ah, .int .i64 s.room, .int .i64 s.xl, .int .i64 s.xh, .int .i64 s.yl, .int .i64 s.yh, .slice a len cap], .slice none 0 0] w fun e w' => ∃ v vs, e = .returned v ∧ w'.ownsRow w.heap.size 29 1 v s.adds.length vs ∧ LRead w' len vs s.adds ∧ Below w.heap.size w w' := by
  refine (refAdditions_any s ho a len cap len 0 [] none 0 w (by omega) hp ⟨rfl, by decide, fun h => by omega⟩).mono ?_
  intro e w' h
  unfold AddsPost at h
  rw [addsFrom_nil ho] at h
  obtain ⟨v, vs, h1, h2, h3, _, h4⟩ := h
  exact ⟨v, vs, h1, h2, h3, h4⟩
end Go.Proofs.Ytajabapcmpmboaa
