/- Package flongref07: Copy. -/
import Derived.Test.YtedfdhpggghjeaaCQ
namespace Go.Proofs.Ytedfdhpggghjeaa
set_option linter.unusedVariables false
set_option linter.unusedSimpArgs false
open Go.RowKit Go.Shelf

theorem flat_get4 {α : Type} (f : α → List Value) (hf : ∀ x, (f x).length = 4) : ∀ (l : List α) (t : Nat) (h : t / 4 < l.length), (l.flatMap f)[t]? = (f l[t / 4])[t % 4]?
  | [], t, h => by simp at h
  | o :: l, t, h => by
    rw [List.flatMap_cons]
    rcases Nat.lt_or_ge t 4 with ht | ht
    · rw [List.getElem?_append_left (by rw [hf]; exact ht)]
      have e1 : t / 4 = 0 := Nat.div_eq_of_lt ht
      have e2 : t % 4 = t := Nat.mod_eq_of_lt ht
      simp [e1, e2]
    · have e1 : t / 4 = (t - 4) / 4 + 1 := by omega
      have e2 : t % 4 = (t - 4) % 4 := by omega
      rw [List.getElem?_append_right (by rw [hf]; exact ht), hf, flat_get4 f hf l (t - 4) (by simp at h; omega)]
      simp [e1, e2]
theorem flat_len4 {α : Type} (f : α → List Value) (hf : ∀ x, (f x).length = 4) (l : List α) : (l.flatMap f).length = l.length * 4 := by
  induction l with
  | nil => rfl
  | cons o l ih => rw [List.flatMap_cons, List.length_append, ih, hf]; simp; omega

def CThing.cells (m : CThing) : List Value := [.int .i64 m.o, .int .i64 m.a, .int .i64 m.c, .int .i64 m.p]
theorem CThing.len (m : CThing) : m.cells.length = 4 := rfl
theorem ThingsAt.cells {w : World} {b o : Nat} {ps : List CThing} (h : ∀ i (h : i < ps.length), w.cell? ⟨b, o + i * 4, none⟩ = some (.int .i64 ps[i].o) ∧ w.cell? ⟨b, o + i * 4 + 1, none⟩ = some (.int .i64 ps[i].a) ∧ w.cell? ⟨b, o + i * 4 + 2, none⟩ = some (.int .i64 ps[i].c) ∧ w.cell? ⟨b, o + i * 4 + 3, none⟩ = some (.int .i64 ps[i].p)) (j : Nat) (u : Value) (hj : (ps.flatMap CThing.cells)[j]? = some u) : w.cell? ⟨b, o + j, none⟩ = some u := by
  have hlt : j / 4 < ps.length := by
    have := (List.getElem?_eq_some_iff.1 hj).1
    rw [flat_len4 _ CThing.len] at this; omega
  rw [flat_get4 _ CThing.len _ _ hlt] at hj
  obtain ⟨c0, c1, c2, c3⟩ := h (j / 4) hlt
  have hm : j % 4 < 4 := Nat.mod_lt _ (by omega)
  have e : o + j = o + j / 4 * 4 + j % 4 := by omega
  rw [e]
  generalize ps[j / 4] = p at *
  generalize j % 4 = r at *
  match r, hm, hj with
  | 0, _, hj => simp [CThing.cells] at hj; subst hj; exact c0
  | 1, _, hj => simp [CThing.cells] at hj; subst hj; exact c1
  | 2, _, hj => simp [CThing.cells] at hj; subst hj; exact c2
  | 3, _, hj => simp [CThing.cells] at hj; subst hj; exact c3
theorem things_srcs {w : World} {a : Option Addr} {n : Nat} {ps : List CThing} (h : ThingsAt w a n ps) : 0 < n → ∃ pb po, a = some ⟨pb, po, none⟩ ∧ ∀ j u, (ps.flatMap CThing.cells)[j]? = some u → w.cell? ⟨pb, po + j, none⟩ = some u := fun h0 => by
  obtain ⟨b, z, e, -, hc⟩ := h.2.2 h0
  exact ⟨b, z, e, fun j u hj => ThingsAt.cells hc j u hj⟩
theorem marks_srcs {w : World} {a : Option Addr} {n : Nat} {ps : List CMark} (h : MarksAt w a n ps) : 0 < n → ∃ pb po, a = some ⟨pb, po, none⟩ ∧ ∀ j u, (ps.flatMap CMark.cells)[j]? = some u → w.cell? ⟨pb, po + j, none⟩ = some u := fun h0 => by
  obtain ⟨b, z, e, -, hc⟩ := h.2.2 h0
  exact ⟨b, z, e, fun j u hj => MarksAt.cells hc j u hj⟩
theorem frow_things {w : World} {n0 k cap : Nat} {ga : Option Addr} {ps : List CThing} (h : FRow w n0 59 4 ga k cap (ps.flatMap CThing.cells)) (hk : k ≤ maxLen) : ThingsAt w ga k ps := by
  have hl : ps.length = k := by have := h.1; rw [flat_len4 _ CThing.len] at this; omega
  refine ⟨hl, hk, fun h0 => ?_⟩
  obtain ⟨g, rfl, -, hg, hc, -⟩ := h.cell h0
  refine ⟨g, 0, rfl, hg, fun i hi => ?_⟩
  have e : ∀ j, j < 4 → ∀ u, ps[i].cells[j]? = some u → w.cell? ⟨g, 0 + i * 4 + j, none⟩ = some u := fun j hj u hu => by
    rw [Nat.zero_add]
    refine hc _ u ?_
    rw [flat_get4 _ CThing.len _ _ (by omega)]
    have e1 : (i * 4 + j) / 4 = i := by omega
    have e2 : (i * 4 + j) % 4 = j := by omega
    simp only [e1, e2]; exact hu
  exact ⟨e 0 (by omega) _ rfl, e 1 (by omega) _ rfl, e 2 (by omega) _ rfl, e 3 (by omega) _ rfl⟩
theorem frow_marks {w : World} {n0 k cap : Nat} {ga : Option Addr} {ps : List CMark} (h : FRow w n0 52 3 ga k cap (ps.flatMap CMark.cells)) (hk : k ≤ maxLen) : MarksAt w ga k ps := by
  have hl : ps.length = k := by have := h.1; rw [flat_len3 _ CMark.len] at this; omega
  refine ⟨hl, hk, fun h0 => ?_⟩
  obtain ⟨g, rfl, -, hg, hc, -⟩ := h.cell h0
  refine ⟨g, 0, rfl, hg, fun i hi => ?_⟩
  have e : ∀ j, j < 3 → ∀ u, ps[i].cells[j]? = some u → w.cell? ⟨g, 0 + i * 3 + j, none⟩ = some u := fun j hj u hu => by
    rw [Nat.zero_add]
    refine hc _ u ?_
    rw [flat_get3 _ CMark.len _ _ (by omega)]
    have e1 : (i * 3 + j) / 3 = i := by omega
    have e2 : (i * 3 + j) % 3 = j := by omega
    simp only [e1, e2]; exact hu
  exact ⟨e 0 (by omega) _ rfl, e 1 (by omega) _ rfl, e 2 (by omega) _ rfl⟩
theorem Try.info59 : (Try.prog.info? 59).map (fun i => (i.zero, i.size, i.bytes)) = some (some (.agg #[.int .i64 0, .int .i64 0, .int .i64 0, .int .i64 0]), 4, 32) := by kernel_rfl
/-- What is known of a new row's capacity: an empty one has no room. -/
def CapOk (len c : Nat) : Prop := (len ≤ c ∧ c ≤ maxLen) ∧ (len = 0 → c = 0)
theorem run_append_freshC {P : Program} (w : World) (t ty e : TypeId) (z : Value) (size bytes : Nat) (ht : P.underlying t = some (.slice e)) (hinfo : (P.info? e).map (fun i => (i.zero, i.size, i.bytes)) = some (some z, size, bytes)) (hz : z.cells.size = size) (hs0 : 0 < size)
    (hby : bytes ≤ 1000) (p : Addr) (xlen xcap : Nat) (xa : Option Addr) (cs : List Value) (hcs : cs.length = xlen * size)
    (hsrc : 0 < xlen → ∃ pb po, xa = some ⟨pb, po, none⟩ ∧ ∀ j u, cs[j]? = some u → w.cell? ⟨pb, po + j, none⟩ = some u) (hl : xlen ≤ 1000) :
    ∃ ga cap' w3, (Builtin.append_ #[t, t] ty #[.slice (some p) 0 0, .slice xa xlen xcap]).run P w = .ok (.slice (some ga) xlen cap') w3 ∧ FRow w3 w.heap.size e size (some ga) xlen cap' cs ∧ CapOk xlen cap' ∧ Below w.heap.size w w3 := by
  obtain ⟨i0, hi, hy0, hy1, hy2⟩ := info_parts hinfo
  rcases Nat.eq_zero_or_pos xlen with h0 | h0
  · subst h0
    have hxs : cs = [] := List.length_eq_zero_iff.1 (by simpa using hcs)
    subst hxs
    have hsrc : Src P i0.size t (.slice xa 0 xcap) 0 [] w := by
      cases xa with
      | none => exact Src.ofNil w ht xcap
      | some xa => exact Src.ofSlice w ht xa 0 xcap [] (by simp) (by simp) (by simp)
    obtain ⟨hk1 | hk1, hk2, hk3, hk4, -, -⟩ := hsrc
    · obtain ⟨e', hk⟩ := hk1
      refine ⟨p, 0, w, ?_, ⟨by simp, fun h => by omega⟩, ⟨⟨Nat.le_refl _, by unfold maxLen; omega⟩, fun _ => rfl⟩, Below.refl _ _⟩
      simp [Builtin.append_, run_underlying ht, sizeOf, typeInfo, hi, hk2, hk3, storeCells]
    · rw [ht] at hk1; cases hk1
  · obtain ⟨pb, po, rfl, hat⟩ := hsrc h0
    obtain ⟨v', w3, hr, hown, hgrow⟩ := run_append_arg_grows (P := P) w t ty e i0 z size bytes ht hi hy0 hy1 hy2 hz hs0 p 0 0 [] (by simp) (by simp) ⟨pb, po, none⟩ xlen xcap cs hcs (by
      intro j u hj
      rw [Addr.add_lit]
      exact hat j u hj) (by omega) (by unfold maxLen; omega) (by
        have : (0 + xlen) * bytes ≤ 1000 * 1000 := Nat.mul_le_mul (by omega) hby
        omega)
    rw [Nat.zero_add, List.nil_append] at hown
    have hown' := hown
    rcases hown.2 with ⟨_, h⟩ | ⟨g, cap, cur, rfl, hg, _, hcap1, hcap2, _⟩
    · omega
    · exact ⟨⟨g, 0, none⟩, cap, w3, hr, ⟨hcs, fun _ => ⟨g, rfl, hown'⟩⟩, ⟨⟨hcap1, hcap2⟩, fun e => by omega⟩, ⟨hgrow.os, hgrow.tape, hgrow.output, hgrow.size, fun k hk => hgrow.block k hk (by simp)⟩⟩
theorem step_append_freshC {P : Program} {ops : Array Oper} {o : Oper} {a : Act} {K : Act → World → Prop} {Q : Exit → Act → World → Prop} {E : Prop} (w : World) (t e : TypeId) (z : Value) (size bytes : Nat) (ht : P.underlying t = some (.slice e)) (hinfo : (P.info? e).map (fun i => (i.zero, i.size, i.bytes)) = some (some z, size, bytes)) (hz : z.cells.size = size) (hs0 : 0 < size)
    (hby : bytes ≤ 1000) (xlen xcap : Nat) (xa : Option Addr) (cs : List Value) (hcs : cs.length = xlen * size) (hl : xlen ≤ 1000) (hgd : o.guard = none) (s x : Operand)
    (ho : o.op = .call { callee := .builtin .append, args := #[s, x], argTypes := #[t, t] }) (hs : ∃ p, a.eval s = .slice (some p) 0 0) (hxv : a.eval x = .slice xa xlen xcap)
    (hsrc : 0 < xlen → ∃ pb po, xa = some ⟨pb, po, none⟩ ∧ ∀ j u, cs[j]? = some u → w.cell? ⟨pb, po + j, none⟩ = some u)
    (h : ∀ ga cap' w3, FRow w3 w.heap.size e size (some ga) xlen cap' cs → CapOk xlen cap' → Below w.heap.size w w3 → K (a.put o.dst (.slice (some ga) xlen cap')) w3) : if Region.wanted o (yielded ops a.tmps) = true then Oper.wp P o a w K Q else E := by
  obtain ⟨p, hs⟩ := hs
  obtain ⟨g, c, w3, hr, hi, hcap, hb⟩ := run_append_freshC w t o.type e z size bytes ht hinfo hz hs0 hby p xlen xcap xa cs hcs hsrc hl
  exact step_append_run w w3 _ _ _ t hgd s x ho hs hxv hr (h g c w3 hi hcap hb)
/-- A copy of a house: two rows of its own. -/
def CopyC (h : CHouse) (tl ml : Nat) (w : World) (e : Ending) (w' : World) : Prop :=
  ∃ (ga : Addr) (gac : Nat) (gm : Addr) (gmc : Nat), e = .returned (.agg #[.slice (some ga) tl gac, .slice (some gm) ml gmc]) ∧ FRow w' w.heap.size 59 4 (some ga) tl gac (h.things.flatMap CThing.cells) ∧ FRow w' w.heap.size 52 3 (some gm) ml gmc (h.marks.flatMap CMark.cells) ∧ CapOk tl gac ∧ CapOk ml gmc ∧ Below w.heap.size w w'
set_option maxRecDepth 100000 in
set_option maxHeartbeats 8000000 in
theorem Copy_any (h : CHouse) (ta : Option Addr) (tl tc : Nat) (ma : Option Addr) (ml mc : Nat) (w : World) (hp : HAt w ta tl tc ma ml mc h) (ht1 : tl ≤ 1000) (hm1 : ml ≤ 1000) :
    Calls Try.prog 17 #[.agg #[.slice ta tl tc, .slice ma ml mc]] w fun e w' => CopyC h tl ml w e w' := by
  have HTS := Lib.hid (fun W (hb : Below w.heap.size w W) => things_srcs (hp.1.below hb))
  have HMS := Lib.hid (fun W (hb : Below w.heap.size w W) => marks_srcs (hp.2.1.below hb))
  have htc : (h.things.flatMap CThing.cells).length = tl * 4 := by rw [flat_len4 _ CThing.len, hp.1.1]
  have hmc : (h.marks.flatMap CMark.cells).length = ml * 3 := by rw [flat_len3 _ CMark.len, hp.2.1.1]
  unfold CopyC
  generalize h.things.flatMap CThing.cells = tcs at *
  generalize h.marks.flatMap CMark.cells = mcs at *
  clear hp
  go_enter Try.func17, Try.ntmps17
  go_wp2_with fail
  obtain ⟨W0, hW0, hB0, ⟨g0, g1⟩, ⟨s0, s1, s2, s3⟩, hz0⟩ : ∃ W0, (w.alloc (.cells #[.slice ta tl tc, .slice ma ml mc] 25)).alloc (.cells #[.slice none 0 0, .slice none 0 0] 25) = W0 ∧ Below w.heap.size w W0 ∧ (W0.cell? ⟨w.heap.size, 0, none⟩ = some (.slice ta tl tc) ∧ W0.cell? ⟨w.heap.size, 1, none⟩ = some (.slice ma ml mc)) ∧
      (W0.cell? ⟨w.heap.size + 1, 0, none⟩ = some (.slice none 0 0) ∧ W0.cell? ⟨w.heap.size + 1, 1, none⟩ = some (.slice none 0 0) ∧ W0.frozen? ⟨w.heap.size + 1, 0, none⟩ = false ∧ W0.frozen? ⟨w.heap.size + 1, 1, none⟩ = false) ∧ W0.heap.size = w.heap.size + 2 :=
    ⟨_, rfl, (by repeat (first | exact Below.refl _ _ | (refine Below.alloc ?_ (by first | omega | (simp; omega) | simp) _) | (refine Below.setCell ?_ (by first | omega | (simp; omega) | simp) _) | refine Below.drew ?_)), ⟨by go_simp, by go_simp⟩, ⟨by go_simp, by go_simp, by go_simp, by go_simp⟩, by simp⟩
  rw [hW0]
  clear hW0
  have z0 : w.heap.size < W0.heap.size := by omega
  have z1 : w.heap.size + 1 < W0.heap.size := by omega
  have HB0 := Lib.hid hB0
  have HTX := Lib.hid (fun W (h : Below (w.heap.size + 1) W0 W) => HTS.out W (hB0.trans (h.mono (by omega))))
  have HMX := Lib.hid (fun W (h : Below (w.heap.size + 1) W0 W) => HMS.out W (hB0.trans (h.mono (by omega))))
  have HKS := Lib.hid (show ∀ V : World, Below (w.heap.size + 1) W0 V → V.cell? ⟨w.heap.size, 0, none⟩ = some (.slice ta tl tc) ∧ V.cell? ⟨w.heap.size, 1, none⟩ = some (.slice ma ml mc) from fun V hb => ⟨(hb.cell (p := ⟨w.heap.size, 0, none⟩) (by show w.heap.size < _; omega)).trans g0, (hb.cell (p := ⟨w.heap.size, 1, none⟩) (by show w.heap.size < _; omega)).trans g1⟩)
  have HS := Lib.hid (show ∀ V : World, Below W0.heap.size W0 V → V.cell? ⟨w.heap.size + 1, 0, none⟩ = some (.slice none 0 0) ∧ V.cell? ⟨w.heap.size + 1, 1, none⟩ = some (.slice none 0 0) ∧ V.frozen? ⟨w.heap.size + 1, 0, none⟩ = false ∧ V.frozen? ⟨w.heap.size + 1, 1, none⟩ = false from fun V hb => ⟨(hb.cell (p := ⟨w.heap.size + 1, 0, none⟩) z1).trans s0, (hb.cell (p := ⟨w.heap.size + 1, 1, none⟩) z1).trans s1, (hb.frozen (p := ⟨w.heap.size + 1, 0, none⟩) z1).trans s2, (hb.frozen (p := ⟨w.heap.size + 1, 1, none⟩) z1).trans s3⟩)
  have HFIN := Lib.hid (show ∀ (ga : Addr) (cA : Nat) (gm : Addr) (cM nA nM : Nat) (wA wM V : World) (u v : Value), FRow wA nA 59 4 (some ga) tl cA tcs → FRow wM nM 52 3 (some gm) ml cM mcs → W0.heap.size ≤ nA → W0.heap.size ≤ nM → Below wA.heap.size wA V → Below wM.heap.size wM V →
      FRow ((V.setCell ⟨w.heap.size + 1, 0, none⟩ u).setCell ⟨w.heap.size + 1, 1, none⟩ v) w.heap.size 59 4 (some ga) tl cA tcs ∧ FRow ((V.setCell ⟨w.heap.size + 1, 0, none⟩ u).setCell ⟨w.heap.size + 1, 1, none⟩ v) w.heap.size 52 3 (some gm) ml cM mcs from fun ga cA gm cM nA nM wA wM V u v hA hM hnA hnM hbA hbM =>
    ⟨((hA.kept (grow_gb hbA none) (fun r e => by cases e)).kept (gbx_set (gbx_set (gbx_refl V (some (w.heap.size + 1))) 0 u) 1 v) (fun r e => by injection e with e; subst e; exact .inr (.inl (by omega)))).low (by omega),
     ((hM.kept (grow_gb hbM none) (fun r e => by cases e)).kept (gbx_set (gbx_set (gbx_refl V (some (w.heap.size + 1))) 0 u) 1 v) (fun r e => by injection e with e; subst e; exact .inr (.inl (by omega)))).low (by omega)⟩)
  clear hB0 hz0 s0 s1 s2 s3
  go_region_held3 (fun w' => w'.cell? ⟨w.heap.size, 0, none⟩ = some (.slice ta tl tc) ∧ w'.cell? ⟨w.heap.size, 1, none⟩ = some (.slice ma ml mc)) (first | with_reducible assumption | exact ⟨g0, g1⟩ | exact HKS.out _ (by repeat (first | assumption | exact Below.refl _ _ | (refine Below.alloc ?_ (by first | omega | (simp; omega) | simp) _) | (refine Below.setCell ?_ (by first | omega | (simp; omega) | simp) _) | refine Below.drew ?_))) (first
    | ((with_reducible refine step_append_freshC _ 22 59 _ 4 32 Try.underlying22 Try.info59 rfl (by decide) (by decide) tl tc ta tcs htc ht1 rfl _ _ rfl ?_ ?_ ?_ ?_); (· exact ⟨_, rfl⟩); (· rfl); (· exact HTX.out _ (Below.mono (by repeat (first | assumption | exact Below.refl _ _ | (refine Below.alloc ?_ (by first | omega | (simp; omega) | simp) _) | (refine Below.setCell ?_ (by first | omega | (simp; omega) | simp) _) | refine Below.drew ?_)) (by omega : w.heap.size + 1 ≤ W0.heap.size))); intro ga cA wA hfA hcapA hbA; have kA : Below W0.heap.size W0 wA := below_via (Lib.hid hbA) (by first | omega | (simp; done) | (simp; omega)) (by repeat (first | assumption | exact Below.refl _ _ | (refine Below.alloc ?_ (by first | omega | (simp; omega) | simp) _) | (refine Below.setCell ?_ (by first | omega | (simp; omega) | simp) _) | refine Below.drew ?_)); have kA2 : Below (w.heap.size + 1) W0 wA := kA.mono (by omega); have HFA := Lib.hid hfA; have HCA := Lib.hid hcapA; have HBA := Lib.hid hbA; have hzA := hbA.size; (try simp at hzA); obtain ⟨qa0, qa1, qa2, qa3⟩ := HS.out wA kA; clear hfA hcapA hbA)
    | ((with_reducible refine step_append_freshC _ 23 52 _ 3 24 Try.underlying23 Try.info52 rfl (by decide) (by decide) ml mc ma mcs hmc hm1 rfl _ _ rfl ?_ ?_ ?_ ?_); (· exact ⟨_, rfl⟩); (· rfl); (· exact HMX.out _ (Below.mono (by repeat (first | assumption | exact Below.refl _ _ | (refine Below.alloc ?_ (by first | omega | (simp; omega) | simp) _) | (refine Below.setCell ?_ (by first | omega | (simp; omega) | simp) _) | refine Below.drew ?_)) (by omega : w.heap.size + 1 ≤ W0.heap.size))); intro gm cM wM hfM hcapM hbM; have kM : Below W0.heap.size W0 wM := below_via (Lib.hid hbM) (by first | omega | (simp; done) | (simp; omega)) (by repeat (first | assumption | exact Below.refl _ _ | (refine Below.alloc ?_ (by first | omega | (simp; omega) | simp) _) | (refine Below.setCell ?_ (by first | omega | (simp; omega) | simp) _) | refine Below.drew ?_)); have kM2 : Below (w.heap.size + 1) W0 wM := kM.mono (by omega); have HFM := Lib.hid hfM; have HCM := Lib.hid hcapM; have HBM := Lib.hid hbM; have hzM := hbM.size; (try simp at hzM); obtain ⟨qm0, qm1, qm2, qm3⟩ := HS.out wM kM; clear hfM hcapM hbM)
    | fail "no arm")
  all_goals (go_wp2_with fail)
  all_goals
    refine bodyPost_ret (v := .agg #[.slice (some ga) tl cA, .slice (some gm) ml cM]) (by simp [results, Try.results17, go_sem, *]) rfl ⟨ga, cA, gm, cM, rfl, (HFIN.out ga cA gm cM _ _ wA wM _ _ _ HFA.out HFM.out (by first | omega | (simp; done) | (simp; omega)) (by first | omega | (simp; done) | (simp; omega)) ?_ ?_).1, (HFIN.out ga cA gm cM _ _ wA wM _ _ _ HFA.out HFM.out (by first | omega | (simp; done) | (simp; omega)) (by first | omega | (simp; done) | (simp; omega)) ?_ ?_).2, HCA.out, HCM.out, ?_⟩
  all_goals first
    | exact Below.refl _ _
    | exact HBM.out
    | exact HBA.out
    | exact below_via HBM (by first | omega | (simp; done) | (simp; omega)) (by repeat (first | exact Below.refl _ _ | (refine Below.alloc ?_ (by first | omega | (simp; omega) | simp) _) | (refine Below.setCell ?_ (by first | omega | (simp; omega) | simp) _) | refine Below.drew ?_))
    | exact below_via HBA (by first | omega | (simp; done) | (simp; omega)) (by repeat (first | exact Below.refl _ _ | (refine Below.alloc ?_ (by first | omega | (simp; omega) | simp) _) | (refine Below.setCell ?_ (by first | omega | (simp; omega) | simp) _) | refine Below.drew ?_))
    | (have hBB := HB0.out.trans (kM.mono HB0.out.size); exact (by repeat (first | assumption | exact Below.refl _ _ | (refine Below.alloc ?_ (by first | omega | (simp; omega) | simp) _) | (refine Below.setCell ?_ (by first | omega | (simp; omega) | simp) _) | refine Below.drew ?_)))
    | (have hBB := HB0.out.trans (kA.mono HB0.out.size); exact (by repeat (first | assumption | exact Below.refl _ _ | (refine Below.alloc ?_ (by first | omega | (simp; omega) | simp) _) | (refine Below.setCell ?_ (by first | omega | (simp; omega) | simp) _) | refine Below.drew ?_)))
end Go.Proofs.Ytedfdhpggghjeaa

