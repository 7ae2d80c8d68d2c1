/- Package changes: mathematics of marks that are earlier, or more; append of a mark to a copy's. -/
import Derived.Test.YtedfdhpggghjeaaDA
import Derived.Test.YtedfdhpggghjeaaDH
namespace Go.Proofs.Ytedfdhpggghjeaa
set_option linter.unusedVariables false
set_option linter.unusedSimpArgs false
open Go.RowKit Go.Shelf

/-- No mark of a thing is earlier than the thing. -/
def CHouse.late (h : CHouse) : Prop := ∀ (k : Nat) (hk : k < h.things.length) (c : Int), h.things[k].a ≤ h.firstA k c
theorem mark_late {h : CHouse} (ho : h.ok = true) {m : CMark} (hm : m ∈ h.marks) {k : Nat} (hk : k < h.things.length) (e : m.t = (k : Int)) : h.things[k].a ≤ m.a ∧ m.a ≤ 99 := by
  obtain ⟨-, -, h1, h2⟩ := CHouse.ok_mark ho hm
  rw [e] at h1
  simp only [Int.toNat_natCast] at h1
  rw [List.getElem?_eq_getElem hk] at h1
  exact ⟨h1, h2⟩
theorem ok_late {h : CHouse} (ho : h.ok = true) : h.late := fun k hk c => by
  have ha := (CHouse.okT_thing (CHouse.ok_T ho) hk).2.1.2
  rcases firstA_mem h k c with ⟨-, e⟩ | ⟨m, hm, h1, -, e⟩
  · rw [e]; omega
  · rw [e]; exact (mark_late ho hm hk h1).1
theorem firstA_less {h h' : CHouse} {t c c' : Int} (hs : ∀ m ∈ h.marks, m.t = t → m.c = c → ∃ m' ∈ h'.marks, m'.t = t ∧ m'.c = c' ∧ m'.a ≤ m.a) (hb : ∀ m ∈ h'.marks, m.a ≤ 100) : h'.firstA t c' ≤ h.firstA t c := by
  rcases firstA_mem h t c with ⟨-, e⟩ | ⟨m, hm, h1, h2, e⟩
  · rw [e]
    rcases firstA_mem h' t c' with ⟨-, e'⟩ | ⟨m', hm', -, -, e'⟩
    · rw [e']; exact Int.le_refl _
    · rw [e']; exact hb m' hm'
  · rw [e]
    obtain ⟨m', hm', h3, h4, h5⟩ := hs m hm h1 h2
    exact Int.le_trans (firstA_le hm' h3 h4) h5
theorem since_mono {h h' : CHouse} (hl : h'.things.length = h.things.length) (ho : h.okT = true) (ho' : h'.okT = true) (hlt : h.late) {c c' : Int} (N : Nat) (hN : N ≤ h.things.length) (hth : ∀ (k : Nat) (hk : k < h.things.length) (hk' : k < h'.things.length), k < N → h'.things[k].o = h.things[k].o ∧ h'.things[k].a = h.things[k].a) (hm : ∀ k, k < N → h'.firstA k c' ≤ h.firstA k c) : ∀ k, k < N → h'.since c' k ≤ h.since c k := by
  intro k
  induction k using Nat.strongRecOn with
  | _ k ih =>
    intro hkN
    have hk : k < h.things.length := by omega
    have hk' : k < h'.things.length := by omega
    obtain ⟨e1, e2⟩ := hth k hk hk' hkN
    have hb := (CHouse.okT_thing ho hk).1
    rw [since_eq ho c hk, since_eq ho' c' hk']
    have hmm : h.made c h.things[k] = true → h'.made c' h'.things[k] = true := by
      unfold CHouse.made
      rw [e1, e2]
      simp only [Bool.and_eq_true, decide_eq_true_eq]
      rintro ⟨h1, h2⟩
      refine ⟨h1, Int.le_trans (ih _ (by omega) (by omega)) h2⟩
    by_cases h1 : h.made c h.things[k] = true
    · rw [if_pos h1, if_pos (hmm h1), e2]; exact Int.le_refl _
    · rw [if_neg h1]
      by_cases h2 : h'.made c' h'.things[k] = true
      · rw [if_pos h2, e2]; exact hlt k hk c
      · rw [if_neg h2]; exact hm k hkN
theorem since_same {h h' : CHouse} (hl : h'.things.length = h.things.length) (ho : h.okT = true) (ho' : h'.okT = true) {c c' : Int} (N : Nat) (hN : N ≤ h.things.length) (hth : ∀ (k : Nat) (hk : k < h.things.length) (hk' : k < h'.things.length), k < N → h'.things[k].o = h.things[k].o ∧ h'.things[k].a = h.things[k].a) (hm : ∀ k, k < N → h'.firstA k c' = h.firstA k c) : ∀ k, k < N → h'.since c' k = h.since c k := by
  intro k
  induction k using Nat.strongRecOn with
  | _ k ih =>
    intro hkN
    have hk : k < h.things.length := by omega
    have hk' : k < h'.things.length := by omega
    obtain ⟨e1, e2⟩ := hth k hk hk' hkN
    have hb := (CHouse.okT_thing ho hk).1
    rw [since_eq ho c hk, since_eq ho' c' hk']
    have hmm : h.made c h.things[k] = h'.made c' h'.things[k] := by
      unfold CHouse.made
      rw [e1, e2]
      by_cases e : h.things[k].o = -1
      · simp [e]
      · rw [ih _ (by omega) (by omega)]
    rw [hmm, e2, hm k hkN]
theorem since_mark {h : CHouse} (ho : h.ok = true) {m : CMark} (hm : m ∈ h.marks) {k : Nat} (hk : k < h.things.length) (e : m.t = (k : Int)) : h.since m.c k ≤ m.a := by
  rw [since_eq (CHouse.ok_T ho) _ hk]
  split
  · exact (mark_late ho hm hk e).1
  · exact firstA_le hm e rfl
/-- One more mark. -/
def CHouse.with (h : CHouse) (m : CMark) : CHouse := { h with marks := h.marks ++ [m] }
theorem with_less {h : CHouse} (ho : h.ok = true) {m : CMark} (hw : (h.with m).ok = true) (c : Int) {k : Nat} (hk : k < h.things.length) : (h.with m).since c k ≤ h.since c k :=
  since_mono (h := h) (h' := h.with m) rfl (CHouse.ok_T ho) (CHouse.ok_T hw) (ok_late ho) h.things.length (Nat.le_refl _) (fun _ _ _ _ => ⟨rfl, rfl⟩) (fun k _ => firstA_less (fun m' hm' h1 h2 => ⟨m', List.mem_append_left _ hm', h1, h2, Int.le_refl _⟩) (fun m' hm' => by have := (CHouse.ok_mark hw hm').2.2.2; omega)) k hk
theorem with_other {h : CHouse} (ho : h.ok = true) {m : CMark} (hw : (h.with m).ok = true) {c : Int} (hc : m.c ≠ c) {k : Nat} (hk : k < h.things.length) : (h.with m).since c k = h.since c k := by
  refine since_same (h := h) (h' := h.with m) rfl (CHouse.ok_T ho) (CHouse.ok_T hw) h.things.length (Nat.le_refl _) (fun _ _ _ _ => ⟨rfl, rfl⟩) (fun k _ => ?_) k hk
  refine Int.le_antisymm (firstA_less (fun m' hm' h1 h2 => ⟨m', List.mem_append_left _ hm', h1, h2, Int.le_refl _⟩) (fun m' hm' => by have := (CHouse.ok_mark hw hm').2.2.2; omega)) ?_
  refine firstA_less (fun m' hm' h1 h2 => ?_) (fun m' hm' => by have := (CHouse.ok_mark ho hm').2.2.2; omega)
  rcases List.mem_append.1 hm' with q | q
  · exact ⟨m', q, h1, h2, Int.le_refl _⟩
  · rw [List.mem_singleton] at q
    subst q
    exact absurd h2 hc
theorem with_mark {h : CHouse} {m : CMark} (hw : (h.with m).ok = true) {k : Nat} (hk : k < h.things.length) (e : m.t = (k : Int)) : (h.with m).since m.c k ≤ m.a :=
  since_mark hw (List.mem_append_right _ (List.mem_singleton.2 rfl)) hk e
theorem run_append_src {P : Program} (w : World) (t ty e : TypeId) (z : Value) (size bytes : Nat) (ht : P.underlying t = some (.slice e)) (hinfo : (P.info? e).map (fun i => (i.zero, i.size, i.bytes)) = some (some z, size, bytes)) (hz : z.cells.size = size) (hs0 : 0 < size)
    (hby : bytes ≤ 1000) (n0 n xlen xcap : Nat) (v : Value) (xs cs : List Value) (xa : Option Addr) (hrow : w.ownsRow n0 e size v n xs) (hcs : cs.length = xlen * size) (h1c : ∀ u ∈ cs, u.oneCell' = true)
    (hsrc : 0 < xlen → ∃ pb po, xa = some ⟨pb, po, none⟩ ∧ ∀ j u, cs[j]? = some u → w.cell? ⟨pb, po + j, none⟩ = some u) (hl : n + xlen ≤ 1000000) (hnw : n0 ≤ w.heap.size) :
    ∃ v' w', (Builtin.append_ #[t, t] ty #[v, .slice xa xlen xcap]).run P w = .ok v' w' ∧ w'.ownsRow n0 e size v' (n + xlen) (xs ++ cs) ∧ w.grownBy w' v.ownBlock ∧ (v'.ownBlock = v.ownBlock ∨ v'.ownBlock = some w.heap.size) := by
  obtain ⟨i0, hi, hy0, hy1, hy2⟩ := info_parts hinfo
  rcases Nat.eq_zero_or_pos xlen with h0 | h0
  · subst h0
    have hxs : cs = [] := List.length_eq_zero_iff.1 (by simpa using hcs)
    subst hxs
    have hsrc : Src P i0.size t (.slice xa 0 xcap) 0 [] w := by
      cases xa with
      | none => exact Src.ofNil w ht xcap
      | some xa => exact Src.ofSlice w ht xa 0 xcap [] (by simp) (by simp) (by simp)
    refine ⟨v, w, ?_, by simpa using hrow, gbx_refl _ _, .inl rfl⟩
    rcases hrow.2 with ⟨rfl, rfl⟩ | ⟨g, cap, cur, rfl, hg, hb, hn, hc, hsz, htk⟩
    · obtain ⟨hk1 | hk1, hk2, hk3, hk4, -, -⟩ := hsrc
      · obtain ⟨e', hk⟩ := hk1
        simp [Builtin.append_, run_underlying ht, sizeOf, typeInfo, hi, hk2, hk3, storeCells]
      · rw [ht] at hk1; cases hk1
    · have := run_append_room_src (P := P) w t t ty e i0 ht hi g 0 n cap (.slice xa 0 xcap) 0 [] hsrc (by omega) (by simp) (by simp)
      simpa [World.setCells] using this
  · obtain ⟨pb, po, rfl, hat⟩ := hsrc h0
    obtain ⟨v', w3, hr, hown, hgrow, _, hat'⟩ := run_append_own_at (P := P) w n0 t ty e i0 z size bytes ht hi hy0 hy1 hy2 hz hs0 v n xs hrow ⟨pb, po, none⟩ xlen xcap cs hcs (by
      intro j u hj
      rw [Addr.add_lit]
      exact hat j u hj) h1c (by unfold maxLen; omega) (by
        have : (n + xlen) * bytes ≤ 1000000 * 1000 := Nat.mul_le_mul hl hby
        omega) hnw
    exact ⟨v', w3, hr, hown, hgrow, hat'⟩
/-- append of one element that was built for it, to a row of a copy. -/
theorem run_append_frow {P : Program} (w : World) (t ty e : TypeId) (z : Value) (size bytes : Nat) (ht : P.underlying t = some (.slice e)) (hinfo : (P.info? e).map (fun i => (i.zero, i.size, i.bytes)) = some (some z, size, bytes)) (hz : z.cells.size = size) (hs0 : 0 < size)
    (hby : bytes ≤ 1000) (n0 k rc : Nat) (ga : Addr) (cs us : List Value) (hcap : CapOk k rc) (hF : FRow w n0 e size (some ga) k rc cs) (hk : k ≤ 1000) (hus : us.length = 1 * size) (h1c : ∀ u ∈ us, u.oneCell' = true) (p : Nat) (hat : ∀ j u, us[j]? = some u → w.cell? ⟨p, j, none⟩ = some u) (hnw : n0 ≤ w.heap.size) :
    ∃ na nc w' row, (Builtin.append_ #[t, t] ty #[.slice (some ga) k rc, .slice (some ⟨p, 0, none⟩) 1 1]).run P w = .ok (.slice na (k + 1) nc) w' ∧ w'.ownsRow n0 e size (.slice na (k + 1) nc) (k + 1) (cs ++ us) ∧ w.grownBy w' row ∧ (∀ r, row = some r → 0 < k ∧ ga = ⟨r, 0, none⟩) ∧ Below n0 w w' := by
  have hsrc : 0 < 1 → ∃ pb po, some (⟨p, 0, none⟩ : Addr) = some ⟨pb, po, none⟩ ∧ ∀ j u, us[j]? = some u → w.cell? ⟨pb, po + j, none⟩ = some u := fun _ => ⟨p, 0, rfl, fun j u hj => by rw [Nat.zero_add]; exact hat j u hj⟩
  rcases Nat.eq_zero_or_pos k with h0 | h0
  · subst h0
    obtain rfl := hcap.2 rfl
    have hx0 : cs = [] := by have := hF.1; simpa using this
    subst hx0
    obtain ⟨g, c, w3, hr, hi, -, hb⟩ := run_append_freshC (P := P) w t ty e z size bytes ht hinfo hz hs0 hby ga 1 1 (some ⟨p, 0, none⟩) us hus hsrc (by omega)
    obtain ⟨g', e1, hown⟩ := hi.2 (by omega)
    injection e1 with e1
    subst e1
    have hown1 : w3.ownsRow w.heap.size e size (.slice (some ⟨g', 0, none⟩) (0 + 1) c) (0 + 1) ([] ++ us) := hown
    exact ⟨_, c, w3, none, hr, own_base2 hown1 hnw, grow_gb hb none, fun r e => (by cases e), hb.mono hnw⟩
  · obtain ⟨g, e1, hown⟩ := hF.2 h0
    injection e1 with e1
    subst e1
    obtain ⟨v', w3, hr, h1, h2, -⟩ := run_append_src (P := P) w t ty e z size bytes ht hinfo hz hs0 hby n0 k 1 1 _ cs us (some ⟨p, 0, none⟩) hown hus h1c hsrc (by omega) hnw
    obtain ⟨na, nc, rfl⟩ := own_slice1 h1
    refine ⟨na, nc, w3, _, hr, h1, h2, fun r e => ⟨h0, ?_⟩, grown_low h2 hnw (own_low hown)⟩
    simp [Value.ownBlock] at e
    subst e
    rfl
/-- append of one mark, to the marks of a copy. -/
theorem wpList_append_mark {ops : Array Oper} {rest : List Oper} {o : Oper} {a : Act} {Q : Exit → Act → World → Prop} (w : World) (n0 k rc : Nat) (ga : Addr) (cs : List Value) (q0 q1 q2 : Int) (hcap : CapOk k rc) (hF : FRow w n0 52 3 (some ga) k rc cs) (hl : k ≤ 1000) (hgd : o.guard = none) (s y : Operand)
    (ho : o.op = .call { callee := .builtin .append, args := #[s, y], argTypes := #[23, 23] }) (hs : a.eval s = .slice (some ga) k rc) (hxv : ∃ p, a.eval y = .slice (some ⟨p, 0, none⟩) 1 1 ∧ w.cell? ⟨p, 0, none⟩ = some (.int .i64 q0) ∧ w.cell? ⟨p, 1, none⟩ = some (.int .i64 q1) ∧ w.cell? ⟨p, 2, none⟩ = some (.int .i64 q2)) (hnw : n0 ≤ w.heap.size)
    (h : ∀ na nc w' row, w'.ownsRow n0 52 3 (.slice na (k + 1) nc) (k + 1) (cs ++ [.int .i64 q0, .int .i64 q1, .int .i64 q2]) → w.grownBy w' row → (∀ r, row = some r → 0 < k ∧ ga = ⟨r, 0, none⟩) → Below n0 w w' → wpList Try.prog ops Q rest (a.put o.dst (.slice na (k + 1) nc)) w') : wpList Try.prog ops Q (o :: rest) a w := by
  obtain ⟨p, hx1, x0, x1, x2⟩ := hxv
  obtain ⟨na, nc, w3, row, hr, h1, h2, h3, h4⟩ := run_append_frow (P := Try.prog) w 23 o.type 52 (.agg #[.int .i64 0, .int .i64 0, .int .i64 0]) 3 24 Try.underlying23 Try.info52 rfl (by decide) (by decide) n0 k rc ga cs [.int .i64 q0, .int .i64 q1, .int .i64 q2] hcap hF hl rfl (by intro u hu; simp at hu; rcases hu with rfl | rfl | rfl <;> rfl) p (src3 x0 x1 x2) hnw
  exact wpList_append_run w hgd s y _ ho _ _ _ _ hs hx1 hr (h na nc w3 row h1 h2 h3 h4)
theorem cell_at {w : World} {b : Nat} {c : Array Value} {T : TypeId} (h : w.heap[b]? = some (.cells c T (0, 0))) (i : Nat) : w.cell? ⟨b, i, none⟩ = c[i]? := by simp [World.cell?, h]
/-- A copy with one more mark. -/
theorem with_house {h : CHouse} {m : CMark} {X wF : World} {n0 n1 gb tl gac ml gmc : Nat} {ga gm : Addr} {cs : List Value} {na : Option Addr} {nc : Nat} {row : Option Nat} {c : Array Value} (u : Value) (htl : tl ≤ 1000) (ha : FRow X n0 59 4 (some ga) tl gac (h.things.flatMap CThing.cells)) (hm : FRow X n0 52 3 (some gm) ml gmc cs)
    (hoF : wF.ownsRow n1 52 3 (.slice na (ml + 1) nc) (ml + 1) (h.marks.flatMap CMark.cells ++ [.int .i64 m.c, .int .i64 m.t, .int .i64 m.a])) (hgF : X.grownBy wF row) (hrF : ∀ r, row = some r → 0 < ml ∧ gm = ⟨r, 0, none⟩) (hb : wF.heap[gb]? = some (.cells c 25 (0, 0))) :
    HAt (wF.setCell ⟨gb, 1, none⟩ u) (some ga) tl gac na (ml + 1) nc (h.with m) := by
  have h1 : FRow wF n0 59 4 (some ga) tl gac (h.things.flatMap CThing.cells) := ha.kept hgF (fun r e => by
    obtain ⟨h0, e1⟩ := hrF r e
    obtain ⟨g, e2, ho⟩ := hm.2 h0
    rw [e1] at e2
    injection e2 with e2
    injection e2 with e2
    subst e2
    obtain ⟨-, cur, hc⟩ := own_parts ho
    exact .inl ⟨cur, 52, hc, by decide⟩)
  have h2 := h1.kept (gbx_set (gbx_refl wF (some gb)) 1 u) (fun r e => by injection e with e; subst e; exact .inl ⟨c, 25, hb, by decide⟩)
  have h3 : (wF.setCell ⟨gb, 1, none⟩ u).ownsRow n1 52 3 (.slice na (ml + 1) nc) (ml + 1) ((h.with m).marks.flatMap CMark.cells) := by
    have e : (h.with m).marks.flatMap CMark.cells = h.marks.flatMap CMark.cells ++ [.int .i64 m.c, .int .i64 m.t, .int .i64 m.a] := flat_snoc _ _
    rw [e]
    refine hoF.kept (gbx_set (gbx_refl wF (some gb)) 1 u) (Or.inr (fun q => ?_))
    rcases hoF.2 with ⟨-, h0⟩ | ⟨g, c2, cur, e1, -, hc, -⟩
    · omega
    · rw [e1] at q
      simp [Value.ownBlock] at q
      subst q
      rw [hb] at hc
      injection hc with hc
      injection hc with _ hc
      exact absurd hc (by decide)
  obtain ⟨a, cap, e, hmm, hc1, hc2⟩ := marks_own h3
  injection e with e1 e2 e3
  subst e1 e3
  exact ⟨frow_things h2 (by unfold maxLen; omega), hmm, hc1, hc2⟩
end Go.Proofs.Ytedfdhpggghjeaa
