/- LA LB, joined. -/
import Derived.Test.YtajabapcmpmboaaKH
import Derived.Deep.AppendSrc
/- A copy of a shop. -/
namespace Go.Proofs.Ytajabapcmpmboaa
set_option linter.unusedVariables false
set_option linter.unusedSimpArgs false
open Go.RowKit

theorem flat_get5 {α : Type} (f : α → List Value) (hf : ∀ x, (f x).length = 5) : ∀ (l : List α) (t : Nat) (h : t / 5 < l.length), (l.flatMap f)[t]? = (f l[t / 5])[t % 5]?
  | [], t, h => by simp at h
  | o :: l, t, h => by
    rw [List.flatMap_cons]
    rcases Nat.lt_or_ge t 5 with ht | ht
    · rw [List.getElem?_append_left (by rw [hf]; exact ht)]
      have e1 : t / 5 = 0 := Nat.div_eq_of_lt ht
      have e2 : t % 5 = t := Nat.mod_eq_of_lt ht
      simp [e1, e2]
    · have e1 : t / 5 = (t - 5) / 5 + 1 := by omega
      have e2 : t % 5 = (t - 5) % 5 := by omega
      rw [List.getElem?_append_right (by rw [hf]; exact ht), hf, flat_get5 f hf l (t - 5) (by simp at h; omega)]
      simp [e1, e2]
theorem flat_len5 {α : Type} (f : α → List Value) (hf : ∀ x, (f x).length = 5) (l : List α) : (l.flatMap f).length = l.length * 5 := by
  induction l with
  | nil => rfl
  | cons o l ih => rw [List.flatMap_cons, List.length_append, ih, hf]; simp; omega
def Pig.cells (p : Pig) : List Value := [.int .i64 p.P, .int .i64 p.t, .int .i64 p.a, .int .i64 p.c, .int .i64 p.m]
theorem Pig.len (p : Pig) : p.cells.length = 5 := rfl
theorem Pig.at_cells {w : World} {b o : Nat} {p : Pig} (h : p.at w b o) (j : Nat) (u : Value) (hj : p.cells[j]? = some u) : w.cell? ⟨b, o + j, none⟩ = some u := by
  obtain ⟨c0, c1, c2, c3, c4⟩ := h
  match j, hj with
  | 0, hj => simp [Pig.cells] at hj; subst hj; exact c0
  | 1, hj => simp [Pig.cells] at hj; subst hj; exact c1
  | 2, hj => simp [Pig.cells] at hj; subst hj; exact c2
  | 3, hj => simp [Pig.cells] at hj; subst hj; exact c3
  | 4, hj => simp [Pig.cells] at hj; subst hj; exact c4
  | j + 5, hj => simp [Pig.cells] at hj
theorem pigs_cells {w : World} {b o : Nat} {ps : List Pig} (h : ∀ i (h : i < ps.length), (ps[i]).at w b (o + i * 5)) (j : Nat) (u : Value) (hj : (ps.flatMap Pig.cells)[j]? = some u) : w.cell? ⟨b, o + j, none⟩ = some u := by
  have hlt : j / 5 < ps.length := by
    have := (List.getElem?_eq_some_iff.1 hj).1
    rw [flat_len5 _ Pig.len] at this; omega
  rw [flat_get5 _ Pig.len _ _ hlt] at hj
  have := Pig.at_cells (h (j / 5) hlt) _ _ hj
  rwa [show o + j / 5 * 5 + j % 5 = o + j by omega] at this
/-- A slice that the call has made reads as pigs. -/
theorem pigs_own {w : World} {n0 len cap : Nat} {a : Option Addr} {ps : List Pig} (h : w.ownsRow n0 70 5 (.slice a len cap) len (ps.flatMap Pig.cells)) (hm : len ≤ maxLen) : PigsAt w a len ps ∧ (0 < len → ∀ pb po, a = some ⟨pb, po, none⟩ → n0 ≤ pb) := by
  have hl : ps.length = len := by have := h.1; rw [flat_len5 _ Pig.len] at this; omega
  rcases h.2 with ⟨h0, h1⟩ | ⟨g, cap', cur, hv, hg, hb, hn, hc, hcs, ht⟩
  · exact ⟨⟨hl, hm, fun h => by omega⟩, fun h => by omega⟩
  · cases hv
    refine ⟨⟨hl, hm, fun _ => ⟨g, 0, rfl, (Array.getElem?_eq_some_iff.1 hb).1, fun i hi => ?_⟩⟩, fun _ pb po e => by cases e; exact hg⟩
    have hcell : ∀ j, j < 5 → ∀ u, (ps[i]).cells[j]? = some u → w.cell? ⟨g, 0 + i * 5 + j, none⟩ = some u := fun j hj u hu => by
      have := h.cells (g := g) rfl (i * 5 + j) u (by
        have e1 : (i * 5 + j) / 5 = i := by omega
        have e2 : (i * 5 + j) % 5 = j := by omega
        rw [flat_get5 _ Pig.len _ _ (by omega)]
        simp only [e1, e2]; exact hu)
      rw [addr_add] at this
      rwa [show 0 + i * 5 + j = i * 5 + j by omega]
    exact ⟨hcell 0 (by omega) _ rfl, hcell 1 (by omega) _ rfl, hcell 2 (by omega) _ rfl, hcell 3 (by omega) _ rfl, hcell 4 (by omega) _ rfl⟩
theorem Try.info70 : (Try.prog.info? 70).map (fun i => (i.zero, i.size, i.bytes)) = some (some (.agg #[.int .i64 0, .int .i64 0, .int .i64 0, .int .i64 0, .int .i64 0]), 5, 40) := by kernel_rfl

theorem wpList_append_run {P : Program} (w : World) {ops : Array Oper} {rest : List Oper} {o : Oper} {a : Act} {Q : Exit → Act → World → Prop} (hgd : o.guard = none) (s x : Operand) (t : TypeId)
    (ho : o.op = .call { callee := .builtin .append, args := #[s, x], argTypes := #[t, t] }) (v1 v2 r : Value) (w' : World) (hs : a.eval s = v1) (hx : a.eval x = v2)
    (hr : (Builtin.append_ #[t, t] o.type #[v1, v2]).run P w = .ok r w') (h : wpList P ops Q rest (a.put o.dst r) w') : wpList P ops Q (o :: rest) a w := by
  refine wpList_plain hgd fun K hK => ?_
  unfold Oper.wp execOp
  simp only [ho, resolve, invoke, builtin, Sem.run_bind, Sem.run_pure, Result.andThen_ok, List.map_toArray, List.map_cons, List.map_nil, hs, hx, hr]
  exact hK _ _ h
theorem ownsRow_pos {w : World} {n0 k n : Nat} {e : TypeId} {v : Value} {xs : List Value} (h : w.ownsRow n0 e k v n xs) (hn : 0 < n) : ∃ g cap, v = .slice (some ⟨g, 0, none⟩) n cap ∧ n0 ≤ g := by
  rcases h.2 with ⟨_, h⟩ | ⟨g, cap, cur, h, hg, _⟩
  · omega
  · exact ⟨g, cap, h, hg⟩
theorem made_row {w : World} {b n0 k : Nat} {e : TypeId} (hb : b = w.heap.size) (h0 : n0 ≤ w.heap.size) : (w.alloc (.cells #[] e)).ownsRow n0 e k (.slice (some ⟨b, 0, none⟩) 0 0) 0 [] := by
  subst hb; exact World.ownsRow_made w #[] 0 h0 (by decide) (by simp)

set_option maxHeartbeats 1000000 in
theorem Copy_any (s : Shop) (a : Option Addr) (len cap : Nat) (w : World) (hp : PigsAt w a len s.pigs) (hl40 : len ≤ 1000) :
    Calls Try.prog 17 #[.agg #[.int .i64 s.P, .int .i64 s.tl, .int .i64 s.th, .int .i64 s.al, .int .i64 s.ah, .int .i64 s.room, .int .i64 s.xl, .int .i64 s.xh, .int .i64 s.yl, .int .i64 s.yh, .slice a len cap]] w fun e w' => Below w.heap.size w w' ∧ ∃ a' cap', e = .returned (.agg #[.int .i64 s.P, .int .i64 s.tl, .int .i64 s.th, .int .i64 s.al, .int .i64 s.ah, .int .i64 s.room, .int .i64 s.xl, .int .i64 s.xh, .int .i64 s.yl, .int .i64 s.yh, .slice a' len cap']) ∧ w'.ownsRow w.heap.size 70 5 (.slice a' len cap') len (s.pigs.flatMap Pig.cells) := by
  obtain ⟨i0, hi, hy0, hy1, hy2⟩ := info_parts Try.info70
  obtain ⟨hl, hm, hc⟩ := hp
  rcases Nat.eq_zero_or_pos len with h0 | h0
  · subst h0
    have hs : s.pigs = [] := List.length_eq_zero_iff.1 hl
    rw [hs]
    clear hs hl hc
    have hsrc : ∀ W : World, Src Try.prog i0.size 26 (.slice a 0 cap) 0 [] W := fun W => by
      cases a with
      | none => exact Src.ofNil W Try.underlying26 cap
      | some a => exact Src.ofSlice W Try.underlying26 a 0 cap [] (by simp) (by simp) (by simp)
    have ha : ∀ (W : World) (b : Nat), (Builtin.append_ #[26, 26] 26 #[.slice (some ⟨b, 0, none⟩) 0 0, .slice a 0 cap]).run Try.prog W = .ok (.slice (some ⟨b, 0, none⟩) 0 0) W := fun W b =>
      run_append_room_src (P := Try.prog) W 26 26 26 70 i0 Try.underlying26 hi b 0 0 0 (.slice a 0 cap) 0 [] (hsrc W) (by omega) (by simp) (by simp)
    have HA := Lib.hid ha
    clear hsrc hi hy0 hy1 hy2 hm hl40 ha
    go_enter Try.func17, Try.ntmps17
    go_wp2_with (at_builtin; refine wpList_append_run _ rfl _ _ 26 rfl _ _ _ _ rfl rfl (HA.out _ _) ?_)
    refine bodyPost_ret (v := .agg #[.int .i64 s.P, .int .i64 s.tl, .int .i64 s.th, .int .i64 s.al, .int .i64 s.ah, .int .i64 s.room, .int .i64 s.xl, .int .i64 s.xh, .int .i64 s.yl, .int .i64 s.yh, .slice (some ⟨w.heap.size + 1 + 1 + 1, 0, none⟩) 0 0]) (by simp [results, Try.results17, go_sem]) rfl ⟨?_, _, _, rfl, ?_⟩
    · exact (by repeat (first | exact Below.refl _ _ | (refine Below.alloc ?_ (by first | omega | (simp; omega) | simp) _) | (refine Below.setCell ?_ (by first | omega | (simp; omega) | simp) _) | refine Below.drew ?_))
    · refine made_row ?_ ?_
      · simp
      · (focus (first | (simp; done) | (simp; omega) | omega))
  · obtain ⟨pb, po, rfl, hpb, hat⟩ := hc h0
    have hcells := pigs_cells hat
    have hsz : (s.pigs.flatMap Pig.cells).length = len * 5 := by rw [flat_len5 _ Pig.len, hl]
    have h1c : ∀ u ∈ s.pigs.flatMap Pig.cells, u.oneCell' = true := fun u hu => by
      obtain ⟨p, hp, hup⟩ := List.mem_flatMap.1 hu
      simp [Pig.cells] at hup
      rcases hup with rfl | rfl | rfl | rfl | rfl <;> rfl
    generalize s.pigs.flatMap Pig.cells = pc at *
    clear hat hl hc
    have HC := Lib.hid hcells
    have HS := Lib.hid hsz
    have H1 := Lib.hid h1c
    clear hcells hsz h1c
    go_enter Try.func17, Try.ntmps17
    go_wp2_with (at_builtin; refine wpList_append_own_at _ rfl _ _ 26 rfl w.heap.size 70 i0 (.agg #[.int .i64 0, .int .i64 0, .int .i64 0, .int .i64 0, .int .i64 0]) 5 40 Try.underlying26 hi hy0 hy1 hy2 rfl (by decide) _ 0 [] rfl ?_ ⟨pb, po, none⟩ len cap pc rfl HS.out (fun j u hj => by rw [Addr.add_lit]; refine Eq.trans (Below.cell (B := w.heap.size) (w := w) (p := ⟨pb, po + j, none⟩) ?_ hpb) (HC.out j u hj); exact (by repeat (first | exact Below.refl _ _ | (refine Below.alloc ?_ (by first | omega | (simp; omega) | simp) _) | (refine Below.setCell ?_ (by first | omega | (simp; omega) | simp) _) | refine Below.drew ?_))) H1.out (by unfold maxLen; omega) (by omega) (by first | (simp; done) | (simp; omega) | omega) ?_; refine made_row ?_ ?_; (focus (first | (simp; done) | (simp; omega) | omega)); (focus (first | (simp; done) | (simp; omega) | omega)); intro v' w3 hown' hgrow _ hat; rw [Nat.zero_add, List.nil_append] at hown'; obtain ⟨g', cap', rfl, hg'⟩ := ownsRow_pos hown' h0; have hz3 := hgrow.size; simp at hz3; have hoc := (fun (b i : Nat) (hb : b < w.heap.size + 1 + 1 + 1) => World.cell?_of_block (a := ⟨b, i, none⟩) (hgrow.block b (by first | (simp; done) | (simp; omega) | omega) (by simp [Value.ownBlock, go_sem]; omega))); have hof := (fun (b i : Nat) (hb : b < w.heap.size + 1 + 1 + 1) => World.frozen?_of_block (a := ⟨b, i, none⟩) (hgrow.block b (by first | (simp; done) | (simp; omega) | omega) (by simp [Value.ownBlock, go_sem]; omega))); have q1 : w.heap.size + 1 < w.heap.size + 1 + 1 + 1 := (by omega); have q2 : w.heap.size + 1 + 1 < w.heap.size + 1 + 1 + 1 := (by omega); have hg2 : w.heap.size + 3 ≤ g' := (by rcases hat with h | h <;> simp [Value.ownBlock, go_sem] at h <;> omega); have hB3 : Below w.heap.size w w3 := (((by repeat (first | exact Below.refl _ _ | (refine Below.alloc ?_ (by first | omega | (simp; omega) | simp) _) | (refine Below.setCell ?_ (by first | omega | (simp; omega) | simp) _) | refine Below.drew ?_)) : Below w.heap.size w _).grown hgrow (by first | (simp; done) | (simp; omega) | omega) (by intro k hk; simp [Value.ownBlock, go_sem] at hk; omega)); have HB := Lib.hid hB3; have HO := Lib.hid hown'; clear hgrow hown' hat hB3)
    refine bodyPost_ret (v := .agg #[.int .i64 s.P, .int .i64 s.tl, .int .i64 s.th, .int .i64 s.al, .int .i64 s.ah, .int .i64 s.room, .int .i64 s.xl, .int .i64 s.xh, .int .i64 s.yl, .int .i64 s.yh, .slice (some ⟨g', 0, none⟩) len cap']) (by simp [results, Try.results17, go_sem, hoc, hof, q1, q2]) rfl ⟨?_, _, _, rfl, ?_⟩
    · repeat (refine Below.setCell ?_ (by first | (simp; done) | (simp; omega) | omega) _)
      exact HB.out
    · repeat (refine World.ownsRow.kept ?_ (gb_setCell _ _ _ _) (.inr (by simp [Value.ownBlock]; omega)))
      exact HO.out
end Go.Proofs.Ytajabapcmpmboaa

/- A shop with so many pigs of a kind. -/
namespace Go.Proofs.Ytajabapcmpmboaa
set_option linter.unusedVariables false
set_option linter.unusedSimpArgs false
open Go.RowKit

theorem flat_set5 {α : Type} (f : α → List Value) (hf : ∀ x, (f x).length = 5) (l : List α) (k : Nat) (p : α) (hk : k < l.length) (v0 v1 v2 v3 v4 : Value) (hp : f p = [v0, v1, v2, v3, v4]) :
    (l.set k p).flatMap f = ((((((l.flatMap f).set (k * 5) v0).set (k * 5 + 1) v1).set (k * 5 + 2) v2).set (k * 5 + 3) v3).set (k * 5 + 4) v4) := by
  apply List.ext_getElem?
  intro t
  by_cases h : t / 5 < l.length
  · rw [flat_get5 f hf _ t (by simpa using h)]
    have hlen : t < (l.flatMap f).length := by rw [flat_len5 f hf]; omega
    by_cases e : t / 5 = k
    · have h5 : t % 5 < 5 := Nat.mod_lt _ (by omega)
      have ht : t = k * 5 + t % 5 := by omega
      have e2 : (l.set k p)[t / 5]'(by simpa using h) = p := by subst e; simp
      rw [e2, hp]
      have hb : k * 5 + 4 < (l.flatMap f).length := by rw [flat_len5 f hf]; omega
      clear hlen h e2
      generalize l.flatMap f = L at *
      generalize t % 5 = r at *
      subst ht
      rcases r with _ | _ | _ | _ | _ | r
      · simp [List.getElem?_set, show k * 5 < L.length by omega]
      · simp [List.getElem?_set, show k * 5 + 1 < L.length by omega]
      · simp [List.getElem?_set, show k * 5 + 2 < L.length by omega]
      · simp [List.getElem?_set, show k * 5 + 3 < L.length by omega]
      · simp [List.getElem?_set, show k * 5 + 4 < L.length by omega]
      · omega
    · rw [List.getElem?_set_ne (by omega), List.getElem?_set_ne (by omega), List.getElem?_set_ne (by omega), List.getElem?_set_ne (by omega), List.getElem?_set_ne (by omega), flat_get5 f hf _ t h]
      congr 2
      exact List.getElem_set_ne (by omega) _
  · rw [List.getElem?_eq_none (by rw [flat_len5 f hf]; simp; omega), List.getElem?_eq_none (by simp [flat_len5 f hf]; omega)]
theorem own_set5 {w : World} {n0 g n cap k : Nat} {ps : List Pig} {p : Pig} (h : w.ownsRow n0 70 5 (.slice (some ⟨g, 0, none⟩) n cap) n (ps.flatMap Pig.cells)) (hk : k < n) :
    (((((w.setCell ⟨g, k * 5, none⟩ (.int .i64 p.P)).setCell ⟨g, k * 5 + 1, none⟩ (.int .i64 p.t)).setCell ⟨g, k * 5 + 2, none⟩ (.int .i64 p.a)).setCell ⟨g, k * 5 + 3, none⟩ (.int .i64 p.c)).setCell ⟨g, k * 5 + 4, none⟩ (.int .i64 p.m)).ownsRow n0 70 5 (.slice (some ⟨g, 0, none⟩) n cap) n ((ps.set k p).flatMap Pig.cells) := by
  have hl : ps.length = n := by have := h.1; rw [flat_len5 _ Pig.len] at this; omega
  refine ⟨by rw [flat_len5 _ Pig.len]; simp [hl], ?_⟩
  rcases h.2 with ⟨h0, _⟩ | ⟨g', cap', cur, hv, hg, hb, hn, hc, hcs, ht⟩
  · cases h0
  · cases hv
    refine .inr ⟨g, cap, _, rfl, hg, set_one _ _ (set_one _ _ (set_one _ _ (set_one _ _ (set_one _ _ hb)))), hn, hc, by simp [hcs], ?_⟩
    rw [flat_set5 _ Pig.len ps k p (by omega) _ _ _ _ _ rfl, ← ht]
    simp only [Array.toList_setIfInBounds, List.take_set]

set_option maxHeartbeats 2000000 in
theorem Pigged_any (s : Shop) (a : Option Addr) (len cap : Nat) (kind : Nat) (many : Int) (w : World) (hp : PigsAt w a len s.pigs) (hl40 : len ≤ 1000) (hk : kind < len) :
    Calls Try.prog 62 #[.agg #[.int .i64 s.P, .int .i64 s.tl, .int .i64 s.th, .int .i64 s.al, .int .i64 s.ah, .int .i64 s.room, .int .i64 s.xl, .int .i64 s.xh, .int .i64 s.yl, .int .i64 s.yh, .slice a len cap], .int .i64 kind, .int .i64 many] w fun e w' => Below w.heap.size w w' ∧ ∃ a' cap', e = .returned (.agg #[.int .i64 s.P, .int .i64 s.tl, .int .i64 s.th, .int .i64 s.al, .int .i64 s.ah, .int .i64 s.room, .int .i64 s.xl, .int .i64 s.xh, .int .i64 s.yl, .int .i64 s.yh, .slice a' len cap']) ∧
      ∀ q ∈ s.pigs[kind]?, w'.ownsRow w.heap.size 70 5 (.slice a' len cap') len ((s.pigs.set kind { q with m := many }).flatMap Pig.cells) := by
  have HC := Lib.hid (fun w1 (hb : Below w.heap.size w w1) => Copy_any s a len cap w1 (hp.below hb) hl40)
  have hl := hp.1
  obtain ⟨q, hq⟩ : ∃ q, s.pigs[kind]? = some q := ⟨_, List.getElem?_eq_getElem (by omega)⟩
  have HQ := Lib.hid hq
  clear hp hq
  go_enter Try.func62, Try.ntmps62
  go_wp2_with fail
  refine (HC.out _ (by repeat (first | exact Below.refl _ _ | (refine Below.alloc ?_ (by first | omega | (simp; omega) | simp) _) | (refine Below.setCell ?_ (by first | omega | (simp; omega) | simp) _) | refine Below.drew ?_))).mono ?_
  rintro e w1 ⟨hb1, a', cap', rfl, hown⟩
  obtain ⟨g, cap2, hv, hg⟩ := ownsRow_pos hown (by omega)
  cases hv
  simp at hg
  have hcell := fun j u (hj : (s.pigs.flatMap Pig.cells)[j]? = some u) => hown.cells (g := g) rfl j u hj
  have hpg : ∀ j u, q.cells[j]? = some u → w1.cell? ⟨g, kind * 5 + j, none⟩ = some u := fun j u hj => by
    have hj5 : j < 5 := by have := (List.getElem?_eq_some_iff.1 hj).1; simpa [Pig.cells] using this
    have := hcell (kind * 5 + j) u (by
      have e1 : (kind * 5 + j) / 5 = kind := by omega
      have e2 : (kind * 5 + j) % 5 = j := by omega
      rw [flat_get5 _ Pig.len _ _ (by omega)]
      have hq2 := HQ.out
      rw [List.getElem?_eq_getElem (by omega)] at hq2
      simp only [e1, e2, Option.some.inj hq2]; exact hj)
    rwa [addr_add] at this
  have c0 : w1.cell? ⟨g, kind * 5, none⟩ = some (.int .i64 q.P) := hpg 0 _ rfl
  have c1 : w1.cell? ⟨g, kind * 5 + 1, none⟩ = some (.int .i64 q.t) := hpg 1 _ rfl
  have c2 : w1.cell? ⟨g, kind * 5 + 2, none⟩ = some (.int .i64 q.a) := hpg 2 _ rfl
  have c3 : w1.cell? ⟨g, kind * 5 + 3, none⟩ = some (.int .i64 q.c) := hpg 3 _ rfl
  have c4 : w1.cell? ⟨g, kind * 5 + 4, none⟩ = some (.int .i64 q.m) := hpg 4 _ rfl
  have hgl := World.block_lt_of_cell? _ _ c0
  have hfz : ∀ i, w1.frozen? ⟨g, i, none⟩ = false := by
    rcases hown.2 with ⟨h0, _⟩ | ⟨g', cap', cur, hv, _, hb, _⟩
    · cases h0
    · cases hv; intro i; simp [World.frozen?, hb]
  obtain ⟨hc1, hf1⟩ := bcell hb1
  have hz1 := hb1.size
  simp at hz1
  have hbw := (((by repeat (first | exact Below.refl _ _ | (refine Below.alloc ?_ (by first | omega | (simp; omega) | simp) _) | (refine Below.setCell ?_ (by first | omega | (simp; omega) | simp) _) | refine Below.drew ?_)) : Below w.heap.size w _).trans (hb1.mono (by simp; omega)))
  have HO := Lib.hid hown
  clear hb1 hown hcell hpg
  have q2 : w.heap.size < w1.heap.size := by omega
  have q3 : w.heap.size + 1 < w1.heap.size := by omega
  go_wp2_with fail
  have hgn : g ≠ w.heap.size + 1 := by omega
  refine bodyPost_ret (v := .agg #[.int .i64 s.P, .int .i64 s.tl, .int .i64 s.th, .int .i64 s.al, .int .i64 s.ah, .int .i64 s.room, .int .i64 s.xl, .int .i64 s.xh, .int .i64 s.yl, .int .i64 s.yh, .slice (some ⟨g, 0, none⟩) len cap']) (by simp [results, Try.results62, go_sem, hc1, hf1, q2, q3]) rfl ⟨?_, _, _, rfl, fun q' hq' => ?_⟩
  · refine Below.alloc (Below.alloc ?_ (by first | (simp; done) | (simp; omega) | omega) _) (by first | (simp; done) | (simp; omega) | omega) _
    repeat (refine Below.setCell ?_ (by first | (simp; done) | (simp; omega) | omega) _)
    exact hbw
  · have e1 : q' = q := Option.some.inj (hq'.symm.trans HQ.out)
    rw [e1]
    refine World.ownsRow.alloc (World.ownsRow.alloc ?_ _) _
    repeat (refine World.ownsRow.kept ?_ (gb_setCell _ (w.heap.size + 1) _ _) (.inr (by simp [Value.ownBlock]; omega)))
    exact own_set5 (p := { q with m := many }) (Go.Joins.ownsRow_le HO.out (by simp; omega)) hk
end Go.Proofs.Ytajabapcmpmboaa
