/- The laws' safe; what is least, in plain words. -/
import Derived.Test.YtojmimfjnnibdaaMA
import Derived.Test.YtojmimfjnnibdaaLA
import Derived.Test.YtojmimfjnnibdaaLD
import Derived.Deep.RegionLaw
namespace Go.Proofs.Ytojmimfjnnibdaa
set_option linter.unusedVariables false
set_option linter.unusedSimpArgs false
open Go.RowKit

/-- What the walk for the least keeps. -/
def BestSpec (s : Shop) (f : List Int → Int) (l : List (List Int)) (o : Option (List Int × Int)) : Prop :=
  (o = none ∧ ∀ x ∈ l, s.safeOf x ≠ 1) ∨ ∃ y m, o = some (y, m) ∧ y ∈ l ∧ s.safeOf y = 1 ∧ m = f y ∧ ∀ x ∈ l, s.safeOf x = 1 → m ≤ f x
theorem best_spec (s : Shop) (f : List Int → Int) (l : List (List Int)) : BestSpec s f l (bestOf s f l) := by
  have key : ∀ (r pre : List (List Int)) (o : Option (List Int × Int)), BestSpec s f pre o → BestSpec s f (pre ++ r) (r.foldl (stepBest s f) o) := by
    intro r
    induction r with
    | nil => intro pre o h; simpa using h
    | cons x r ih =>
      intro pre o h
      rw [List.foldl_cons, show pre ++ x :: r = (pre ++ [x]) ++ r by simp]
      refine ih _ _ ?_
      unfold stepBest
      by_cases hx : s.safeOf x = 1
      · rw [if_pos hx]
        rcases h with ⟨rfl, hn⟩ | ⟨y, m, rfl, hy, hs, rfl, hm⟩
        · refine .inr ⟨x, f x, rfl, by simp, hx, rfl, fun z hz hz1 => ?_⟩
          rcases List.mem_append.1 hz with hz | hz
          · exact absurd hz1 (hn z hz)
          · rw [List.mem_singleton.1 hz]; exact Int.le_refl _
        · simp only
          split
          · rename_i hlt
            refine .inr ⟨x, f x, rfl, by simp, hx, rfl, fun z hz hz1 => ?_⟩
            rcases List.mem_append.1 hz with hz | hz
            · exact Int.le_trans (Int.le_of_lt hlt) (hm z hz hz1)
            · rw [List.mem_singleton.1 hz]; exact Int.le_refl _
          · rename_i hlt
            refine .inr ⟨y, f y, rfl, List.mem_append_left _ hy, hs, rfl, fun z hz hz1 => ?_⟩
            rcases List.mem_append.1 hz with hz | hz
            · exact hm z hz hz1
            · rw [List.mem_singleton.1 hz]; exact Int.not_lt.1 hlt
      · rw [if_neg hx]
        rcases h with ⟨rfl, hn⟩ | ⟨y, m, rfl, hy, hs, rfl, hm⟩
        · refine .inl ⟨rfl, fun z hz => ?_⟩
          rcases List.mem_append.1 hz with hz | hz
          · exact hn z hz
          · rw [List.mem_singleton.1 hz]; exact hx
        · refine .inr ⟨y, f y, rfl, List.mem_append_left _ hy, hs, rfl, fun z hz hz1 => ?_⟩
          rcases List.mem_append.1 hz with hz | hz
          · exact hm z hz hz1
          · rw [List.mem_singleton.1 hz] at hz1; exact absurd hz1 hx
  exact key l [] none (.inl ⟨rfl, fun _ h => nomatch h⟩)
/-- More is safe at no greater price: what it costs is not greater. -/
theorem costN_le {o s : Shop} (f : Nat) (hf : ∀ x ∈ s.adds, askF f o x ≤ askF f s x) (ha : ∀ x ∈ s.adds, x ∈ o.adds) (hs : ∀ x ∈ s.adds, s.safeOf x = 1 → o.safeOf x = 1) (hb : ∀ y m, o.best f = some (y, m) → m ≤ 100000) : o.costN f ≤ s.costN f := by
  have h1 := best_spec o (askF f o) o.adds
  have h2 := best_spec s (askF f s) s.adds
  unfold Shop.costN
  change BestSpec _ _ _ (o.best f) at h1
  change BestSpec _ _ _ (s.best f) at h2
  rcases h2 with ⟨e2, hn⟩ | ⟨y, m, e2, hy, hs1, rfl, hm⟩
  · rw [e2]
    rcases h1 with ⟨e1, _⟩ | ⟨y, m, e1, _⟩
    · rw [e1]; exact Int.le_refl _
    · rw [e1]; exact hb y m e1
  · rw [e2]
    rcases h1 with ⟨e1, hn⟩ | ⟨z, n, e1, hz, hs2, rfl, hm2⟩
    · exact absurd (hs y hy hs1) (hn y (ha y hy))
    · rw [e1]; exact Int.le_trans (hm2 y (ha y hy) (hs y hy hs1)) (hf y hy)
theorem best_fair {s : Shop} (ho : s.ok = true) (f : Nat) (hf : f = 0 ∨ f = 1) : ∀ y m, s.best f = some (y, m) → m ≤ 100000 := by
  intro y m h
  rcases hf with rfl | rfl
  · have := cheap_fair ho h; omega
  · have := tin_fair ho h; omega

theorem run_append_ints (w : World) (t ty : TypeId) (ht : t = 29) (n0 b xlen xcap : Nat) (xa : Option Addr) (xs : List Int)
    (hrow : w.ownsRow n0 3 1 (.slice (some ⟨b, 0, none⟩) 0 0) 0 []) (hx : IntsAt w xa xlen xs) (hl : xlen ≤ 1000) (hn : n0 ≤ b) (hnw : n0 ≤ w.heap.size) :
    ∃ g cap' w3, (Builtin.append_ #[t, t] ty #[.slice (some ⟨b, 0, none⟩) 0 0, .slice xa xlen xcap]).run Try.prog w = .ok (.slice (some ⟨g, 0, none⟩) xlen cap') w3 ∧ IntsAt w3 (some ⟨g, 0, none⟩) xlen xs ∧ Below n0 w w3 := by
  subst ht
  obtain ⟨i0, hi, hy0, hy1, hy2⟩ := info_parts Try.info3
  obtain ⟨hxl, hxm, hxc⟩ := hx
  rcases Nat.eq_zero_or_pos xlen with h0 | h0
  · subst h0
    have hxs : xs = [] := List.length_eq_zero_iff.1 hxl
    subst hxs
    have hsrc : Src Try.prog i0.size 29 (.slice xa 0 xcap) 0 [] w := by
      cases xa with
      | none => exact Src.ofNil w Try.underlying29 xcap
      | some xa => exact Src.ofSlice w Try.underlying29 xa 0 xcap [] (by simp) (by simp) (by simp)
    exact ⟨b, 0, w, run_append_room_src (P := Try.prog) w 29 29 ty 3 i0 Try.underlying29 hi b 0 0 0 (.slice xa 0 xcap) 0 [] hsrc (by omega) (by simp) (by simp), ⟨rfl, by decide, fun h => by omega⟩, Below.refl _ _⟩
  · obtain ⟨pb, po, rfl, hpb, hat⟩ := hxc h0
    obtain ⟨v', w3, hr, hown, hgrow, _, hat'⟩ := run_append_own_at (P := Try.prog) w n0 29 ty 3 i0 (.int .i64 0) 1 8 Try.underlying29 hi hy0 hy1 hy2 rfl (by decide) _ 0 [] hrow ⟨pb, po, none⟩ xlen xcap (xs.map (Value.int .i64)) (by simp [hxl]) (by
      intro j u hj
      have hjx : j < xs.length := by have := (List.getElem?_eq_some_iff.1 hj).1; simpa using this
      rw [Addr.add_lit]
      refine (hat j hjx).trans ?_
      rw [← hj]; simp [hjx]) (by intro u hu; obtain ⟨y, _, rfl⟩ := List.mem_map.1 hu; rfl) (by unfold maxLen; omega) (by omega) hnw
    rw [Nat.zero_add, List.nil_append] at hown
    obtain ⟨g, c, rfl, hg⟩ := ownsRow_pos hown h0
    exact ⟨g, c, w3, hr, ints_own hown hxm, (Below.refl n0 w).grown hgrow hnw (by intro k hk; simp [Value.ownBlock] at hk; omega)⟩
theorem step_append_ints {ops : Array Oper} {o : Oper} {a : Act} {K : Act → World → Prop} {Q : Exit → Act → World → Prop} {E : Prop} (w : World) (n0 b xlen xcap : Nat) (xa : Option Addr) (xs : List Int) (hgd : o.guard = none) (s x : Operand)
    (ho : o.op = .call { callee := .builtin .append, args := #[s, x], argTypes := #[29, 29] }) (hs : a.eval s = .slice (some ⟨b, 0, none⟩) 0 0) (hxv : a.eval x = .slice xa xlen xcap)
    (hrow : w.ownsRow n0 3 1 (.slice (some ⟨b, 0, none⟩) 0 0) 0 []) (hx : IntsAt w xa xlen xs) (hl : xlen ≤ 1000) (hn : n0 ≤ b) (hnw : n0 ≤ w.heap.size)
    (h : ∀ g cap' w3, IntsAt w3 (some ⟨g, 0, none⟩) xlen xs → Below n0 w w3 → K (a.put o.dst (.slice (some ⟨g, 0, none⟩) xlen cap')) w3) : if Region.wanted o (yielded ops a.tmps) = true then Oper.wp Try.prog o a w K Q else E := by
  obtain ⟨g, c, w3, hr, hi, hb⟩ := run_append_ints w 29 o.type rfl n0 b xlen xcap xa xs hrow hx hl hn hnw
  rw [if_pos (by simp [Region.wanted, hgd])]
  unfold Oper.wp execOp
  simp only [ho, resolve, invoke, builtin, Sem.run_bind, Sem.run_pure, Result.andThen_ok, List.map_toArray, List.map_cons, List.map_nil, hs, hxv, hr]
  exact h g c w3 hi hb
theorem wpList_append_ints {ops : Array Oper} {rest : List Oper} {o : Oper} {a : Act} {Q : Exit → Act → World → Prop} (w : World) (n0 b xlen xcap : Nat) (xa : Option Addr) (xs : List Int) (hgd : o.guard = none) (s x : Operand)
    (ho : o.op = .call { callee := .builtin .append, args := #[s, x], argTypes := #[29, 29] }) (hs : a.eval s = .slice (some ⟨b, 0, none⟩) 0 0) (hxv : a.eval x = .slice xa xlen xcap)
    (hrow : w.ownsRow n0 3 1 (.slice (some ⟨b, 0, none⟩) 0 0) 0 []) (hx : IntsAt w xa xlen xs) (hl : xlen ≤ 1000) (hn : n0 ≤ b) (hnw : n0 ≤ w.heap.size)
    (h : ∀ g cap' w3, IntsAt w3 (some ⟨g, 0, none⟩) xlen xs → Below n0 w w3 → wpList Try.prog ops Q rest (a.put o.dst (.slice (some ⟨g, 0, none⟩) xlen cap')) w3) : wpList Try.prog ops Q (o :: rest) a w := by
  obtain ⟨g, c, w3, hr, hi, hb⟩ := run_append_ints w 29 o.type rfl n0 b xlen xcap xa xs hrow hx hl hn hnw
  exact wpList_append_run w hgd s x 29 ho _ _ _ _ hs hxv hr (h g c w3 hi hb)

theorem safeOf_in (s : Shop) (x : List Int) : btw (s.safeOf x) 1 3 = true := by
  unfold Shop.safeOf safeI
  split
  · rfl
  · split <;> rfl

set_option maxHeartbeats 1000000 in
theorem safe_law (s : Shop) (a : Option Addr) (len cap : Nat) (x : Option Addr) (xlen xcap : Nat) (ns : List Int) (w : World) (hp : PigsAt w a len s.pigs) (hx : IntsAt w x xlen ns) (hv : s.code ns = 0) (hl : xlen ≤ 1000) :
    Calls Try.prog 48 #[.agg #[.int .i64 s.P, .int .i64 s.tl, .int .i64 s.th, .int .i64 s.al, .int .i64 s.ah, .int .i64 s.room, .int .i64 s.xl, .int .i64 s.xh, .int .i64 s.yl, .int .i64 s.yh, .slice a len cap], .slice x xlen xcap] w fun e w' => e = .returned (.tuple #[.int .i64 (s.safeOf ns), .bool true]) ∧ Below w.heap.size w w' := by
  have HS := Lib.hid (fun x xcap w1 (hb : Below w.heap.size w w1) (hx : IntsAt w1 x xlen ns) => Safe_yes s a len cap x xlen xcap ns w1 (hp.below hb) hx hv)
  have HB := Lib.hid (fun w1 => Within_any (s.safeOf ns) 1 3 w1)
  rw [safeOf_in] at HB
  generalize s.safeOf ns = sv at *
  have HX := Lib.hid (fun w1 (hb : Below w.heap.size w w1) => hx.below hb)
  clear hp hx hv
  go_enter Try.func48, Try.ntmps48
  go_wp2_with fail
  have hmx : Try.prog.follows .mixedOrders = true := by kernel_rfl
  go_region_law? (first
    | (go_simp
       go_at_call 22
       refine (HS.out _ _ _ (by first | exact HB3.out | exact HB3.out.drew) HX3.out).mono ?_
       rintro e w4 ⟨rfl, hb4⟩
       have HB4 := Lib.hid (HB3.out.trans (hb4.mono HB3.out.size))
       clear hb4 hc3)
    | (with_reducible refine step_append_ints _ (w.heap.size + 1) (w.heap.size + 1) xlen xcap x ns rfl _ _ rfl ?_ ?_ ?_ ?_ hl (Nat.le_refl _) ?_ ?_
       · rfl
       · rfl
       · exact (made_row (by simp) (by simp)).drew
       · exact HX.out _ (by repeat (first | exact Below.refl _ _ | (refine Below.alloc ?_ (by first | omega | (simp; omega) | simp) _) | (refine Below.setCell ?_ (by first | omega | (simp; omega) | simp) _) | refine Below.drew ?_))
       · simp
       intro g c w3 hx3 hb3
       have HB3 := Lib.hid (((by repeat (first | exact Below.refl _ _ | (refine Below.alloc ?_ (by first | omega | (simp; omega) | simp) _) | (refine Below.setCell ?_ (by first | omega | (simp; omega) | simp) _) | refine Below.drew ?_)) : Below w.heap.size w _).trans (hb3.mono (Nat.le_succ _)))
       have hc3 := fun (i : Nat) => hb3.cell (p := ⟨w.heap.size, i, none⟩) (Nat.lt_succ_self _)
       have HX3 := Lib.hid hx3
       clear hx3 hb3))
  all_goals (go_wp2_with fail; refine (HB.out _).mono ?_; rintro e w5 ⟨rfl, rfl⟩; go_wp2_with fail; go_ret2; exact ⟨rfl, HB4.out⟩)
end Go.Proofs.Ytojmimfjnnibdaa
