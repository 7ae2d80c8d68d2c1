/- Package changes: altered: append to marks that are cut at their end. -/
import Derived.Test.YtedfdhpggghjeaaCP
import Derived.ArgAppend
namespace Go.Proofs.Ytedfdhpggghjeaa
set_option linter.unusedVariables false
set_option linter.unusedSimpArgs false
open Go.RowKit Go.Shelf

theorem flat_get3 {α : Type} (f : α → List Value) (hf : ∀ x, (f x).length = 3) : ∀ (l : List α) (t : Nat) (h : t / 3 < l.length), (l.flatMap f)[t]? = (f l[t / 3])[t % 3]?
  | [], t, h => by simp at h
  | o :: l, t, h => by
    rw [List.flatMap_cons]
    rcases Nat.lt_or_ge t 3 with ht | ht
    · rw [List.getElem?_append_left (by rw [hf]; exact ht)]
      have e1 : t / 3 = 0 := Nat.div_eq_of_lt ht
      have e2 : t % 3 = t := Nat.mod_eq_of_lt ht
      simp [e1, e2]
    · have e1 : t / 3 = (t - 3) / 3 + 1 := by omega
      have e2 : t % 3 = (t - 3) % 3 := by omega
      rw [List.getElem?_append_right (by rw [hf]; exact ht), hf, flat_get3 f hf l (t - 3) (by simp at h; omega)]
      simp [e1, e2]
theorem flat_len3 {α : Type} (f : α → List Value) (hf : ∀ x, (f x).length = 3) (l : List α) : (l.flatMap f).length = l.length * 3 := by
  induction l with
  | nil => rfl
  | cons o l ih => rw [List.flatMap_cons, List.length_append, ih, hf]; simp; omega

def CMark.cells (m : CMark) : List Value := [.int .i64 m.c, .int .i64 m.t, .int .i64 m.a]
theorem CMark.len (m : CMark) : m.cells.length = 3 := rfl
theorem MarksAt.cells {w : World} {b o : Nat} {ps : List CMark} (h : ∀ i (h : i < ps.length), w.cell? ⟨b, o + i * 3, none⟩ = some (.int .i64 ps[i].c) ∧ w.cell? ⟨b, o + i * 3 + 1, none⟩ = some (.int .i64 ps[i].t) ∧ w.cell? ⟨b, o + i * 3 + 2, none⟩ = some (.int .i64 ps[i].a)) (j : Nat) (u : Value) (hj : (ps.flatMap CMark.cells)[j]? = some u) : w.cell? ⟨b, o + j, none⟩ = some u := by
  have hlt : j / 3 < ps.length := by
    have := (List.getElem?_eq_some_iff.1 hj).1
    rw [flat_len3 _ CMark.len] at this; omega
  rw [flat_get3 _ CMark.len _ _ hlt] at hj
  obtain ⟨c0, c1, c2⟩ := h (j / 3) hlt
  have hm : j % 3 < 3 := Nat.mod_lt _ (by omega)
  have e : o + j = o + j / 3 * 3 + j % 3 := by omega
  rw [e]
  generalize ps[j / 3] = p at *
  generalize j % 3 = r at *
  match r, hm, hj with
  | 0, _, hj => simp [CMark.cells] at hj; subst hj; exact c0
  | 1, _, hj => simp [CMark.cells] at hj; subst hj; exact c1
  | 2, _, hj => simp [CMark.cells] at hj; subst hj; exact c2
/-- A slice that the call has made reads as marks. -/
theorem marks_own {w : World} {n0 len : Nat} {v : Value} {ps : List CMark} (h : w.ownsRow n0 52 3 v len (ps.flatMap CMark.cells)) : ∃ a cap, v = .slice a len cap ∧ MarksAt w a len ps ∧ len ≤ cap ∧ cap ≤ maxLen := by
  have hl : ps.length = len := by have := h.1; rw [flat_len3 _ CMark.len] at this; omega
  rcases h.2 with ⟨h0, h1⟩ | ⟨g, cap', cur, hv, hg, hb, hn, hc, hcs, ht⟩
  · subst h1
    exact ⟨none, 0, h0, ⟨hl, by unfold maxLen; omega, fun h => by omega⟩, Nat.le_refl _, by unfold maxLen; omega⟩
  · refine ⟨_, _, hv, ⟨hl, by omega, fun _ => ⟨g, 0, rfl, (Array.getElem?_eq_some_iff.1 hb).1, fun i hi => ?_⟩⟩, hn, hc⟩
    subst hv
    have hcell : ∀ j, j < 3 → ∀ u, (ps[i]).cells[j]? = some u → w.cell? ⟨g, 0 + i * 3 + j, none⟩ = some u := fun j hj u hu => by
      have := h.cells (g := g) rfl (i * 3 + j) u (by
        have e1 : (i * 3 + j) / 3 = i := by omega
        have e2 : (i * 3 + j) % 3 = j := by omega
        rw [flat_get3 _ CMark.len _ _ (by omega)]
        simp only [e1, e2]; exact hu)
      rw [Addr.add_lit] at this
      rwa [show 0 + i * 3 + j = 0 + (i * 3 + j) by omega]
    exact ⟨hcell 0 (by omega) _ rfl, hcell 1 (by omega) _ rfl, hcell 2 (by omega) _ rfl⟩
theorem Try.info52 : (Try.prog.info? 52).map (fun i => (i.zero, i.size, i.bytes)) = some (some (.agg #[.int .i64 0, .int .i64 0, .int .i64 0]), 3, 24) := by kernel_rfl
/-- append of one element to a slice without room, whatever it is. -/
theorem run_append_full {P : Program} (w : World) (t ty e : TypeId) (z : Value) (size bytes : Nat) (ht : P.underlying t = some (.slice e)) (hinfo : (P.info? e).map (fun i => (i.zero, i.size, i.bytes)) = some (some z, size, bytes)) (hz : z.cells.size = size) (hs0 : 0 < size) (hby : bytes ≤ 1000)
    (va : Option Addr) (n : Nat) (olds : List Value) (hlo : olds.length = n * size) (hva : (va = none ∧ n = 0) ∨ ∃ ad, va = some ad ∧ ∀ j u, olds[j]? = some u → w.cell? (ad.add j) = some u) (hn : n ≤ 1000)
    (p xcap : Nat) (cs : List Value) (hcs : cs.length = 1 * size) (h1c : ∀ u ∈ cs, u.oneCell' = true) (hat : ∀ j u, cs[j]? = some u → w.cell? ⟨p, j, none⟩ = some u) :
    ∃ v' w', (Builtin.append_ #[t, t] ty #[.slice va n n, .slice (some ⟨p, 0, none⟩) 1 xcap]).run P w = .ok v' w' ∧ w'.ownsRow w.heap.size e size v' (n + 1) (olds ++ cs) ∧ w.grownBy w' none := by
  obtain ⟨i0, hi, hy0, hy1, hy2⟩ := info_parts hinfo
  have hat' : ∀ j u, cs[j]? = some u → w.cell? ((⟨p, 0, none⟩ : Addr).add j) = some u := fun j u hj => by rw [Addr.add_lit, Nat.zero_add]; exact hat j u hj
  have hb2 : (n + 1) * bytes ≤ 140737488355328 := by
    have : (n + 1) * bytes ≤ 1001 * 1000 := Nat.mul_le_mul (by omega) hby
    omega
  rcases hva with ⟨rfl, rfl⟩ | ⟨ad, rfl, hc⟩
  · obtain rfl : olds = [] := List.eq_nil_of_length_eq_zero (by omega)
    obtain ⟨v', w3, hr, hown, hgrow, -, -⟩ := run_append_own_at (P := P) w w.heap.size t ty e i0 z size bytes ht hi hy0 hy1 hy2 hz hs0 (.slice none 0 0) 0 [] ⟨by simp, .inl ⟨rfl, rfl⟩⟩ ⟨p, 0, none⟩ 1 xcap cs hcs hat' h1c (by unfold maxLen; omega) hb2 (Nat.le_refl _)
    exact ⟨v', w3, hr, hown, hgrow⟩
  · exact run_append_arg_grows (P := P) w t ty e i0 z size bytes ht hi hy0 hy1 hy2 hz hs0 ad n n olds hlo hc ⟨p, 0, none⟩ 1 xcap cs hcs hat' (by omega) (by unfold maxLen; omega) hb2
theorem step_append_full {P : Program} {ops : Array Oper} {o : Oper} {a : Act} {K : Act → World → Prop} {Q : Exit → Act → World → Prop} {E : Prop} (w : World) (t e : TypeId) (z : Value) (size bytes : Nat) (ht : P.underlying t = some (.slice e)) (hinfo : (P.info? e).map (fun i => (i.zero, i.size, i.bytes)) = some (some z, size, bytes)) (hz : z.cells.size = size) (hs0 : 0 < size) (hby : bytes ≤ 1000)
    (va : Option Addr) (n : Nat) (olds cs : List Value) (hlo : olds.length = n * size) (hn : n ≤ 1000) (hcs : cs.length = 1 * size) (h1c : ∀ u ∈ cs, u.oneCell' = true) (hgd : o.guard = none) (s x : Operand)
    (ho : o.op = .call { callee := .builtin .append, args := #[s, x], argTypes := #[t, t] }) (hs : a.eval s = .slice va n n) (hxv : ∃ p, a.eval x = .slice (some ⟨p, 0, none⟩) 1 1 ∧ ∀ j u, cs[j]? = some u → w.cell? ⟨p, j, none⟩ = some u)
    (hva : (va = none ∧ n = 0) ∨ ∃ ad, va = some ad ∧ ∀ j u, olds[j]? = some u → w.cell? (ad.add j) = some u)
    (h : ∀ v' w', w'.ownsRow w.heap.size e size v' (n + 1) (olds ++ cs) → w.grownBy w' none → K (a.put o.dst v') w') : if Region.wanted o (yielded ops a.tmps) = true then Oper.wp P o a w K Q else E := by
  obtain ⟨p, hx1, hx2⟩ := hxv
  obtain ⟨v', w', hr, h1, h2⟩ := run_append_full w t o.type e z size bytes ht hinfo hz hs0 hby va n olds hlo hva hn p 1 cs hcs h1c hx2
  exact step_append_run w w' _ _ _ t hgd s x ho hs hx1 hr (h v' w' h1 h2)
theorem marks_src {w : World} {a : Option Addr} {n : Nat} {ps : List CMark} (h : MarksAt w a n ps) : (ps.flatMap CMark.cells).length = n * 3 ∧ ((a = none ∧ n = 0) ∨ ∃ ad, a = some ad ∧ ∀ j u, (ps.flatMap CMark.cells)[j]? = some u → w.cell? (ad.add j) = some u) := by
  refine ⟨by rw [flat_len3 _ CMark.len, h.1], ?_⟩
  rcases Nat.eq_zero_or_pos n with h0 | h0
  · have hp : ps = [] := List.eq_nil_of_length_eq_zero (by rw [h.1]; exact h0)
    subst hp
    cases a with
    | none => exact .inl ⟨rfl, h0⟩
    | some ad => exact .inr ⟨ad, rfl, fun j u hj => by simp at hj⟩
  · obtain ⟨b, o, e, -, hc⟩ := h.2.2 h0
    exact .inr ⟨⟨b, o, none⟩, e, fun j u hj => by rw [Addr.add_lit]; exact MarksAt.cells hc j u hj⟩
theorem src3 {X : World} {g : Nat} {u0 u1 u2 : Value} (h0 : X.cell? ⟨g, 0, none⟩ = some u0) (h1 : X.cell? ⟨g, 1, none⟩ = some u1) (h2 : X.cell? ⟨g, 2, none⟩ = some u2) : ∀ j u, [u0, u1, u2][j]? = some u → X.cell? ⟨g, j, none⟩ = some u := by
  intro j u hj
  match j, hj with
  | 0, hj => simp at hj; subst hj; exact h0
  | 1, hj => simp at hj; subst hj; exact h1
  | 2, hj => simp at hj; subst hj; exact h2
theorem MarksAt.set {w : World} {a : Option Addr} {n : Nat} {ps : List CMark} (h : MarksAt w a n ps) (b i : Nat) (v : Value) (hne : 0 < n → ∀ ad, a = some ad → ad.block ≠ b) : MarksAt (w.setCell ⟨b, i, none⟩ v) a n ps := by
  refine ⟨h.1, h.2.1, fun h0 => ?_⟩
  obtain ⟨g, o, e, hg, hc⟩ := h.2.2 h0
  have hn : ¬ b = g := fun q => hne h0 _ e q.symm
  refine ⟨g, o, e, by simpa using hg, fun k hk => ?_⟩
  obtain ⟨c0, c1, c2⟩ := hc k hk
  exact ⟨by go_simp, by go_simp, by go_simp⟩
/-- Marks that lie apart from two boxes of a call. -/
def MRow (w0 : Nat) (w : World) (a : Option Addr) (n : Nat) (ps : List CMark) : Prop := MarksAt w a n ps ∧ (0 < n → ∀ ad, a = some ad → ad.block < w0 ∨ w0 + 2 ≤ ad.block)
def CHouse.markOf (h : CHouse) (c now y : Int) : CMark := ⟨c, y, max now (((h.things[y.toNat]?).map CThing.a).getD 0)⟩
theorem alter_is (h : CHouse) (c now : Int) (l : List Int) : (h.alter c now l) = { h with marks := h.marks ++ l.map (h.markOf c now) } := rfl
theorem flat_snoc (ms : List CMark) (m : CMark) : (ms ++ [m]).flatMap CMark.cells = ms.flatMap CMark.cells ++ m.cells := by
  rw [List.flatMap_append]; simp

theorem gS_drew {W0 w1 : World} {g : Nat} (h : W0.grownBy w1 (some g) ∧ ∀ b o, b < W0.heap.size → ¬ b = g → w1.cell? ⟨b, o, none⟩ = W0.cell? ⟨b, o, none⟩) : W0.grownBy w1.drew (some g) ∧ ∀ b o, b < W0.heap.size → ¬ b = g → w1.drew.cell? ⟨b, o, none⟩ = W0.cell? ⟨b, o, none⟩ := ⟨gbx_drew h.1, h.2⟩
theorem gS_of {W0 w1 : World} {g : Nat} (h : W0.grownBy w1 (some g)) : W0.grownBy w1 (some g) ∧ ∀ b o, b < W0.heap.size → ¬ b = g → w1.cell? ⟨b, o, none⟩ = W0.cell? ⟨b, o, none⟩ :=
  ⟨h, fun b o hb hne => World.cell?_of_block (w := W0) (a := ⟨b, o, none⟩) (h.block b hb (fun e => hne (by injection e)))⟩
theorem gS_alloc {W0 w1 : World} {g : Nat} (o : Obj) (h : W0.grownBy w1 (some g) ∧ ∀ b o, b < W0.heap.size → ¬ b = g → w1.cell? ⟨b, o, none⟩ = W0.cell? ⟨b, o, none⟩) : W0.grownBy (w1.alloc o) (some g) ∧ ∀ b o', b < W0.heap.size → ¬ b = g → (w1.alloc o).cell? ⟨b, o', none⟩ = W0.cell? ⟨b, o', none⟩ := gS_of (gbx_alloc h.1 o)
theorem gS_set {W0 w1 : World} {g : Nat} (i : Nat) (v : Value) (h : W0.grownBy w1 (some g) ∧ ∀ b o, b < W0.heap.size → ¬ b = g → w1.cell? ⟨b, o, none⟩ = W0.cell? ⟨b, o, none⟩) : W0.grownBy (w1.setCell ⟨g, i, none⟩ v) (some g) ∧ ∀ b o', b < W0.heap.size → ¬ b = g → (w1.setCell ⟨g, i, none⟩ v).cell? ⟨b, o', none⟩ = W0.cell? ⟨b, o', none⟩ := gS_of (gbx_set h.1 i v)
end Go.Proofs.Ytedfdhpggghjeaa
