/- IC ID, joined. -/
import Derived.Test.YtigeiaiohdemiaaIA
import Derived.Test.YtigeiaiohdemiaaIB
import Derived.Deep.RegionHeld3
import Derived.Deep.RegionLaw
import Derived.Deep.DeepCutAuto
/- Flongs: the reference's wanted. -/
namespace Go.Proofs.Ytigeiaiohdemiaa
set_option linter.unusedVariables false
set_option linter.unusedSimpArgs false
open Go.RowKit

theorem rest_bd {s : FShop} (ho : s.ok = true) {x : List Int} (hxb : ∀ i (h : i < x.length), 0 ≤ x[i] ∧ x[i] ≤ 12) (p : Nat) (hp : p < s.wants.length) : -60 ≤ s.rest x p ∧ s.rest x p ≤ 12 := by
  have h1 := FShop.ok_want ho p hp
  have h2 := psum_bd s.moulds x p hxb
  have h3 := (FShop.ok_few ho).2.1
  unfold FShop.rest
  rw [List.getElem?_eq_getElem hp]
  simp only [Option.getD_some]
  omega

set_option maxRecDepth 100000 in
set_option maxHeartbeats 4000000 in
theorem wanted_any (s : FShop) (ma : Option Addr) (ml mc : Nat) (wa : Option Addr) (wl wc : Nat) (na : Option Addr) (nl nc : Nat) (xa : Option Addr) (xl xc : Nat) (x : List Int) (p : Nat) (ho : s.ok = true) (hpn : p < s.wants.length) (hxm : x.length ≤ s.moulds.length) (hxb : ∀ i (h : i < x.length), 0 ≤ x[i] ∧ x[i] ≤ 12) (w : World) (hp : FAt w ma ml mc wa wl wc na nl nc s) (hx : IntsAt w xa xl x) :
    Calls Try.prog 111 #[.agg #[.slice ma ml mc, .slice wa wl wc, .slice na nl nc, .int .i64 s.fresh], .slice xa xl xc, .int .i64 p] w fun e w' => e = .returned (.int .i64 (s.rest x p)) ∧ Below w.heap.size w w' := by
  obtain ⟨hml, hmm, hmc⟩ := hp.1
  obtain ⟨hnl, hnm, hnc⟩ := hp.2.2
  obtain ⟨hxl, hxM, hxc⟩ := hx
  have hm5 := (FShop.ok_few ho).2.1
  have hn3 := (FShop.ok_few ho).1
  have hwb := FShop.ok_want ho p hpn
  unfold maxLen at hxM hmm hnm
  obtain ⟨nb, no, rfl, hnB, hncell⟩ := hnc (by omega)
  have cn := hncell p hpn
  have HNX := Lib.hid (fun k (hk : k < x.length) (hk2 : k < s.moulds.length) => show s.rest (x.take (k + 1)) p = s.rest (x.take k) p - (if (s.moulds[k]).p = (p : Int) then x[k] else 0) from by
    unfold FShop.rest; rw [psum_take hxm hk hk2]; omega)
  have HBD := Lib.hid (fun k => rest_bd ho (x := x.take k) (fun i hi => by
    have hi2 : i < x.length := by rw [List.length_take] at hi; omega
    rw [List.getElem_take]
    exact hxb i hi2) p hpn)
  have HE0 := Lib.hid (show s.wants[p] = s.rest (x.take 0) p from by rw [List.take_zero, rest_nil s p hpn])
  have HEND := Lib.hid (show s.rest (x.take xl) p = s.rest x p from by rw [List.take_of_length_le (by omega)])
  have HXB := Lib.hid hxb
  have HML := Lib.hid hml
  have HXL := Lib.hid hxl
  have HMC := Lib.hid hmc
  have HXC := Lib.hid hxc
  have hpl : (p : Int) < (nl : Int) := by omega
  have hp0 : (0 : Int) ≤ (p : Int) := by omega
  have hxlm : xl ≤ ml := by omega
  clear hp hml hnl hxl hmc hxc hnc hncell hxb ho hm5 hn3 hxm
  generalize s.wants[p] = wp at *
  go_enter Try.func111, Try.ntmps111
  go_wp2_with fail
  obtain ⟨W0, hW0, hB0, hs0, hz0⟩ := name1k w #[.slice ma ml mc, .slice wa wl wc, .slice (some ⟨nb, no, none⟩) nl nc, .int .i64 s.fresh] 26
  rw [hW0]
  clear hW0
  have HB0 := Lib.hid hB0
  obtain ⟨x0, x1, x2, x3⟩ : W0.cell? ⟨w.heap.size, 0, none⟩ = some (.slice ma ml mc) ∧ W0.cell? ⟨w.heap.size, 1, none⟩ = some (.slice wa wl wc) ∧ W0.cell? ⟨w.heap.size, 2, none⟩ = some (.slice (some ⟨nb, no, none⟩) nl nc) ∧ W0.cell? ⟨w.heap.size, 3, none⟩ = some (.int .i64 s.fresh) := ⟨hs0 0, hs0 1, hs0 2, hs0 3⟩
  have cn0 := (hB0.cell (p := ⟨nb, no + p, none⟩) hnB).trans cn
  clear hB0 hs0 cn
  go_wp2_with fail
  go_loopw [7, 8] (fun n i wr => ∃ k : Nat, k ≤ xl ∧ i = .int .i64 k ∧ n = .int .i64 (s.rest (x.take k) p) ∧ W0 = wr) (fun _ i _ => xl - (intOf i).toNat)
  case atStart => exact ⟨0, by omega, rfl, by rw [← HE0.out], rfl⟩
  case round =>
    obtain ⟨k, hk, rfl, rfl, rfl⟩ := hrel
    obtain ⟨hb1, hb2⟩ := HBD.out k
    by_cases hlt : k < xl
    · have hk3 : k < x.length := by rw [HXL.out]; exact hlt
      have hk2 : k < s.moulds.length := by rw [HML.out]; omega
      obtain ⟨mb, mo, rfl, hmB, hmcell⟩ := HMC.out (by omega)
      obtain ⟨xb, xo, rfl, hxB, hxcell⟩ := HXC.out (by omega)
      obtain ⟨d0, -, -⟩ := Mould.at_below HB0.out hmB (hmcell k hk2)
      have cx := (HB0.out.cell (p := ⟨xb, xo + k, none⟩) hxB).trans (hxcell k hk3)
      have HN := Lib.hid (HNX.out k hk3 hk2)
      have hxb := HXB.out k hk3
      have hkl : (k : Int) < (xl : Int) := by omega
      have hkm : (k : Int) < (ml : Int) := by omega
      have hk0 : (0 : Int) ≤ (k : Int) := by omega
      clear hmcell hxcell
      generalize s.rest (x.take k) p = rs at *
      generalize s.moulds[k].p = mp at *
      generalize x[k] = xv at *
      by_cases he : mp = (p : Int)
      · subst he
        have HN' := Lib.hid (HN.out.trans (show _ = rs - xv by rw [if_pos rfl]))
        clear HN
        go_wp2_with fail
        go_roundw
        case rel => exact ⟨k + 1, by omega, by go_num, by rw [HN'.out], by first | trivial | rfl⟩
        case measure => simp [intOf]; omega
      · have HN' := Lib.hid (HN.out.trans (show _ = rs by rw [if_neg he]; omega))
        have heB : (mp == (p : Int)) = false := by simpa using he
        clear HN
        go_wp2_with fail
        go_roundw
        case rel => exact ⟨k + 1, by omega, by go_num, by rw [HN'.out], by first | trivial | rfl⟩
        case measure => simp [intOf]; omega
    · obtain rfl : xl = k := by omega
      go_wp2_with fail
      go_ret
      exact ⟨ret_i64 (by rw [HEND.out]), HB0.out⟩
end Go.Proofs.Ytigeiaiohdemiaa

/- Flongs: the reference's justs, JustsOf. -/
namespace Go.Proofs.Ytigeiaiohdemiaa
set_option linter.unusedVariables false
set_option linter.unusedSimpArgs false
open Go.RowKit

/-- A row of which it is said, where it holds nothing, that it has no room. -/
def GRow (w : World) (n0 : Nat) (ga : Option Addr) (k cap : Nat) (xs : List Int) : Prop := FRow w n0 3 1 ga k cap (xs.map (Value.int .i64)) ∧ (k = 0 → cap = 0)
theorem GRow.kept {w w' : World} {row : Option Nat} {n0 : Nat} {ga : Option Addr} {k cap : Nat} {xs : List Int} (h : GRow w n0 ga k cap xs) (hg : w.grownBy w' row)
    (hne : ∀ r, row = some r → (∃ (c : Array Value) (e' : TypeId), w.heap[r]? = some (.cells c e' (0, 0)) ∧ e' ≠ 3) ∨ r < n0 ∨ w.heap.size ≤ r) : GRow w' n0 ga k cap xs := ⟨h.1.kept hg hne, h.2⟩
theorem GRow.low {w : World} {n0 n1 : Nat} {ga : Option Addr} {k cap : Nat} {xs : List Int} (h : GRow w n0 ga k cap xs) (hn : n1 ≤ n0) : GRow w n1 ga k cap xs := ⟨h.1.low hn, h.2⟩
theorem GRow.below {w w' : World} {n0 : Nat} {ga : Option Addr} {k cap : Nat} {xs : List Int} (h : GRow w n0 ga k cap xs) (hb : Below w.heap.size w w') : GRow w' n0 ga k cap xs := h.kept (grow_gb hb none) (fun r e => by cases e)
theorem GRow.alloc {w : World} {n0 : Nat} {ga : Option Addr} {k cap : Nat} {xs : List Int} (h : GRow w n0 ga k cap xs) (o : Obj) : GRow (w.alloc o) n0 ga k cap xs := h.below ((Below.refl _ _).alloc (Nat.le_refl _) _)
theorem GRow.drew {w : World} {n0 : Nat} {ga : Option Addr} {k cap : Nat} {xs : List Int} (h : GRow w n0 ga k cap xs) : GRow w.drew n0 ga k cap xs := h
theorem JRow.len {w : World} {vs : List Value} {xs : List (List Int)} (h : JRow w vs xs) : vs.length = xs.length := h.1
theorem GRow.row {w : World} {n0 : Nat} {ga : Option Addr} {k cap : Nat} {xs : List Int} (h : GRow w n0 ga k cap xs) : FRow w 0 3 1 ga k cap (xs.map (Value.int .i64)) := h.1.low (Nat.zero_le _)
theorem step_append_copy {ops : Array Oper} {o : Oper} {a : Act} {K : Act → World → Prop} {Q : Exit → Act → World → Prop} {E : Prop} (w : World) (N xlen xcap : Nat) (xa : Option Addr) (x : List Int) (hcs : x.length = xlen) (hl : xlen ≤ 1000) (hgd : o.guard = none) (s y : Operand)
    (ho : o.op = .call { callee := .builtin .append, args := #[s, y], argTypes := #[24, 24] }) (hs : ∃ p, a.eval s = .slice (some p) 0 0) (hxv : a.eval y = .slice xa xlen xcap)
    (hsrc : 0 < xlen → ∃ pb po, xa = some ⟨pb, po, none⟩ ∧ ∀ j u, (x.map (Value.int .i64))[j]? = some u → w.cell? ⟨pb, po + j, none⟩ = some u) (hN : N ≤ w.heap.size)
    (h : ∀ ga cap' w3, GRow w3 N (some ga) xlen cap' x → Below w.heap.size w w3 → K (a.put o.dst (.slice (some ga) xlen cap')) w3) : if Region.wanted o (yielded ops a.tmps) = true then Oper.wp Try.prog o a w K Q else E := by
  obtain ⟨p, hs⟩ := hs
  obtain ⟨i0, hi, hy0, hy1, hy2⟩ := info_parts (Try.info3)
  rcases Nat.eq_zero_or_pos xlen with h0 | h0
  · subst h0
    have hx0 : x = [] := List.length_eq_zero_iff.1 hcs
    subst hx0
    have hsrc : Src Try.prog i0.size 24 (.slice xa 0 xcap) 0 [] w := by
      cases xa with
      | none => exact Src.ofNil w Try.underlying24 xcap
      | some xa => exact Src.ofSlice w Try.underlying24 xa 0 xcap [] (by simp) (by simp) (by simp)
    obtain ⟨hk1 | hk1, hk2, hk3, hk4, -, -⟩ := hsrc
    · obtain ⟨e', hk⟩ := hk1
      refine step_append_run w w _ _ (.slice (some p) 0 0) _ hgd s y ho hs hxv ?_ (h p 0 w ⟨⟨by simp, fun h => by omega⟩, fun _ => rfl⟩ (Below.refl _ _))
      simp [Builtin.append_, run_underlying Try.underlying24, sizeOf, typeInfo, hi, hk2, hk3, storeCells]
    · rw [show Try.prog.underlying 24 = some (.slice 3) from Try.underlying24] at hk1; cases hk1
  · obtain ⟨g, c, w3, hr, hi', hb⟩ := run_append_fresh w 24 o.type 3 _ 1 8 Try.underlying24 Try.info3 rfl (by decide) (by decide) p xlen xcap xa (x.map (Value.int .i64)) (by simp [hcs]) hsrc hl
    exact step_append_run w w3 _ _ _ _ hgd s y ho hs hxv hr (h g c w3 ⟨hi'.low hN, fun h => by omega⟩ hb)
theorem step_append_n {ops : Array Oper} {o : Oper} {a : Act} {K : Act → World → Prop} {Q : Exit → Act → World → Prop} {E : Prop} (w : World) (N k cap : Nat) (ga : Addr) (x : List Int) (n : Int) (hk : k ≤ 1000) (hgd : o.guard = none) (s y : Operand)
    (ho : o.op = .call { callee := .builtin .append, args := #[s, y], argTypes := #[24, 24] }) (hs : a.eval s = .slice (some ga) k cap) (hxc : ∃ b, a.eval y = .slice (some ⟨b, 0, none⟩) 1 1 ∧ w.cell? ⟨b, 0, none⟩ = some (.int .i64 n))
    (hr : GRow w N (some ga) k cap x) (hN : N ≤ w.heap.size)
    (h : ∀ ga' c' w', GRow w' N (some ga') (k + 1) c' (x ++ [n]) → Below N w w' → K (a.put o.dst (.slice (some ga') (k + 1) c')) w') : if Region.wanted o (yielded ops a.tmps) = true then Oper.wp Try.prog o a w K Q else E := by
  obtain ⟨b, hxv, hc⟩ := hxc
  obtain ⟨i0, hi, hy0, hy1, hy2⟩ := info_parts (Try.info3)
  have hb : (k + 1) * 8 ≤ 140737488355328 := by omega
  have hnews : ∀ j u, [Value.int .i64 n][j]? = some u → w.cell? ((⟨b, 0, none⟩ : Addr).add j) = some u := by
    intro j u hj
    match j, hj with
    | 0, hj => cases hj; rw [Addr.add_lit]; exact hc
    | j + 1, hj => simp at hj
  have hlen : ((x ++ [n]).map (Value.int .i64)).length = (k + 1) * 1 := by have := hr.1.1; simp at this ⊢; omega
  rcases Nat.eq_zero_or_pos k with h0 | h0
  · subst h0
    obtain rfl : cap = 0 := hr.2 rfl
    obtain rfl : x = [] := List.length_eq_zero_iff.1 (by have := hr.1.1; simpa using this)
    obtain ⟨v', w3, hrun, hown, hgrow⟩ := run_append_arg_grows (P := Try.prog) w 24 o.type 3 i0 _ 1 8 Try.underlying24 hi hy0 hy1 hy2 rfl (by decide) ga 0 0 [] (by simp) (by simp) ⟨b, 0, none⟩ 1 1 [.int .i64 n] rfl hnews (by omega) (by unfold maxLen; omega) hb
    have hown' := hown
    rcases hown.2 with ⟨_, h⟩ | ⟨g, c, cur, rfl, hg, _⟩
    · omega
    · exact step_append_run w w3 _ _ _ _ hgd s y ho hs hxv hrun (h _ c w3 ⟨⟨hlen, fun _ => ⟨g, rfl, Go.Joins.ownsRow_le hown' hN⟩⟩, fun h => by omega⟩ ⟨hgrow.os, hgrow.tape, hgrow.output, hgrow.size, fun q hq => hgrow.block q (by omega) (by simp)⟩)
  · obtain ⟨g, e1, ho'⟩ := hr.1.2 h0
    injection e1 with e1
    subst e1
    have hNg := (own_parts ho').1
    obtain ⟨v', w3, hrun, hown, hgrow, _, hat⟩ := run_append_own_at (P := Try.prog) w N 24 o.type 3 i0 _ 1 8 Try.underlying24 hi hy0 hy1 hy2 rfl (by decide) _ k (x.map (Value.int .i64)) ho' ⟨b, 0, none⟩ 1 1 [.int .i64 n] rfl hnews (by intro u hu; rw [List.mem_singleton.1 hu]; rfl) (by unfold maxLen; omega) hb hN
    have hown' := hown
    rcases hown.2 with ⟨_, h⟩ | ⟨g', c, cur, rfl, hg, _⟩
    · omega
    · exact step_append_run w w3 _ _ _ _ hgd s y ho hs hxv hrun (h _ c w3 ⟨⟨hlen, fun _ => ⟨g', rfl, by simpa using hown'⟩⟩, fun h => by omega⟩ ⟨hgrow.os, hgrow.tape, hgrow.output, hgrow.size, fun q hq => hgrow.block q (by omega) (by simp [Value.ownBlock]; omega)⟩)

/-- What lies when a row of one's own may have grown. -/
theorem gR_drew {W0 w1 : World} {R : Option Nat} (h : W0.grownBy w1 R ∧ ∀ b o, b < W0.heap.size → ¬ some b = R → w1.cell? ⟨b, o, none⟩ = W0.cell? ⟨b, o, none⟩) : W0.grownBy w1.drew R ∧ ∀ b o, b < W0.heap.size → ¬ some b = R → w1.drew.cell? ⟨b, o, none⟩ = W0.cell? ⟨b, o, none⟩ := ⟨gbx_drew h.1, h.2⟩
theorem gR_of {W0 w1 : World} {R : Option Nat} (h : W0.grownBy w1 R) : W0.grownBy w1 R ∧ ∀ b o, b < W0.heap.size → ¬ some b = R → w1.cell? ⟨b, o, none⟩ = W0.cell? ⟨b, o, none⟩ :=
  ⟨h, fun b o hb hne => World.cell?_of_block (w := W0) (a := ⟨b, o, none⟩) (h.block b hb hne)⟩
theorem gR_alloc {W0 w1 : World} {R : Option Nat} (o : Obj) (h : W0.grownBy w1 R ∧ ∀ b o, b < W0.heap.size → ¬ some b = R → w1.cell? ⟨b, o, none⟩ = W0.cell? ⟨b, o, none⟩) : W0.grownBy (w1.alloc o) R ∧ ∀ b o', b < W0.heap.size → ¬ some b = R → (w1.alloc o).cell? ⟨b, o', none⟩ = W0.cell? ⟨b, o', none⟩ := gR_of (gbx_alloc h.1 o)
theorem gR_low {W0 w1 w2 : World} {R : Option Nat} (h : W0.grownBy w1 R ∧ ∀ b o, b < W0.heap.size → ¬ some b = R → w1.cell? ⟨b, o, none⟩ = W0.cell? ⟨b, o, none⟩) (hb : Below W0.heap.size w1 w2) : W0.grownBy w2 R ∧ ∀ b o', b < W0.heap.size → ¬ some b = R → w2.cell? ⟨b, o', none⟩ = W0.cell? ⟨b, o', none⟩ :=
  gR_of ⟨hb.os.trans h.1.os, hb.tape.trans h.1.tape, hb.output.trans h.1.output, Nat.le_trans h.1.size hb.size, fun k hk hne => (hb.block k hk).trans (h.1.block k hk hne)⟩
theorem gR_grown {W0 w1 w2 : World} {R : Option Nat} (h : W0.grownBy w1 R ∧ ∀ b o, b < W0.heap.size → ¬ some b = R → w1.cell? ⟨b, o, none⟩ = W0.cell? ⟨b, o, none⟩) (hb : w1.grownBy w2 R) : W0.grownBy w2 R ∧ ∀ b o', b < W0.heap.size → ¬ some b = R → w2.cell? ⟨b, o', none⟩ = W0.cell? ⟨b, o', none⟩ :=
  gR_of (h.1.trans hb)
theorem grown_low {w w' : World} {R : Option Nat} {N : Nat} (h : w.grownBy w' R) (hN : N ≤ w.heap.size) (hR : ∀ r, R = some r → N ≤ r) : Below N w w' :=
  ⟨h.os, h.tape, h.output, h.size, fun k hk => h.block k (by omega) (fun e => by have := hR k e.symm; omega)⟩
theorem own_lit (w : World) (n0 : Nat) (e : TypeId) (v : Value) (h : n0 ≤ w.heap.size) : (w.alloc (.cells #[v] e)).ownsRow n0 e 1 (.slice (some ⟨w.heap.size, 0, none⟩) 1 1) 1 [v] :=
  ⟨rfl, .inr ⟨w.heap.size, 1, #[v], rfl, h, World.alloc_heap_new _ _, Nat.le_refl _, by unfold maxLen; omega, rfl, rfl⟩⟩
theorem own_row {w : World} {n0 n : Nat} {e : TypeId} {v : Value} {vs : List Value} (h : w.ownsRow n0 e 1 v n vs) : ∀ r, v.ownBlock = some r → n0 ≤ r ∧ r < w.heap.size ∧ ∃ c : Array Value, w.heap[r]? = some (.cells c e (0, 0)) := by
  intro r hr
  rcases h.2 with ⟨rfl, -⟩ | ⟨g, cap, cur, rfl, hg, hb, -⟩
  · simp [Value.ownBlock] at hr
  · simp [Value.ownBlock] at hr
    subst hr
    exact ⟨hg, (Array.getElem?_eq_some_iff.1 hb).1, cur, hb⟩

def JustsPost (s : FShop) (x : List Int) (w : World) (e : Ending) (w' : World) : Prop :=
  Below w.heap.size w w' ∧ ∃ (v : Value) (vs : List Value), e = .returned v ∧ w'.ownsRow w.heap.size 24 1 v vs.length vs ∧ JRow w' vs (s.justs2 x)

set_option maxRecDepth 100000 in
set_option maxHeartbeats 4000000 in
theorem justs_end (s : FShop) (ma : Option Addr) (ml mc : Nat) (wa : Option Addr) (wl wc : Nat) (na : Option Addr) (nl nc : Nat) (xa : Option Addr) (xc : Nat) (x : List Int) (ho : s.ok = true) (hxl : x.length = ml) (hxb : ∀ i (h : i < x.length), 0 ≤ x[i] ∧ x[i] ≤ 12) (hr0 : ∀ p, p < s.wants.length → 0 ≤ s.rest x p) (w : World) (hp : FAt w ma ml mc wa wl wc na nl nc s) (hx : FRow w 0 3 1 xa ml xc (x.map (Value.int .i64))) :
    Calls Try.prog 108 #[.agg #[.slice ma ml mc, .slice wa wl wc, .slice na nl nc, .int .i64 s.fresh], .slice xa ml xc] w fun e w' => JustsPost s x w e w' := by
  have hml := hp.1.1
  have hnl := hp.2.2.1
  have hm5 := (FShop.ok_few ho).2.1
  have hn3 := (FShop.ok_few ho).1
  have hxi : IntsAt w xa ml x := hx.ints (by unfold maxLen; omega)
  have HWA := Lib.hid (fun k (hk : k < nl) r (hr : s.rest x k = r) W (hb : Below w.heap.size w W) => show Calls Try.prog 111 #[.agg #[.slice ma ml mc, .slice wa wl wc, .slice na nl nc, .int .i64 s.fresh], .slice xa ml xc, .int .i64 k] W fun e w' => e = .returned (.int .i64 r) ∧ Below W.heap.size W w' from hr ▸ wanted_any s ma ml mc wa wl wc na nl nc xa ml xc x k ho (by omega) (by omega) hxb W (hp.below hb) (hxi.below hb))
  have HJN := Lib.hid (fun k (hk : k < nl) (h0 : s.rest x k ≠ 0) => show s.justs2 x = [] from by rw [justs2_end s x (by omega) hr0, if_pos ⟨k, by omega, h0⟩])
  have HJY := Lib.hid (fun (h : ∀ p, p < nl → s.rest x p = 0) => show s.justs2 x = [x] from by rw [justs2_end s x (by omega) hr0, if_neg]; rintro ⟨p, h1, h2⟩; exact h2 (h p (by omega)))
  have HX := Lib.hid (fun W (hb : Below w.heap.size w W) => hx.kept (grow_gb hb none) (fun r e => by cases e))
  have HXL := Lib.hid hxl
  have hnl3 : nl ≤ 3 := by omega
  clear hp hx hxi hxb hr0 ho hxl hnl hml
  go_enter Try.func108, Try.ntmps108
  go_wp2_with fail
  obtain ⟨W0, hW0, hB0, hs0, hz0⟩ := name1k w #[.slice ma ml mc, .slice wa wl wc, .slice na nl nc, .int .i64 s.fresh] 26
  rw [hW0]
  clear hW0
  have HB0 := Lib.hid hB0
  have HS0 := Lib.hid hs0
  clear hB0 hs0
  go_loopw [5] (fun i wr => ∃ k : Nat, k ≤ nl ∧ i = .int .i64 k ∧ (∀ p, p < k → s.rest x p = 0) ∧ Below W0.heap.size W0 wr) (fun i _ => nl - (intOf i).toNat)
  case atStart => exact ⟨0, by omega, rfl, fun p hp => by omega, Below.refl _ _⟩
  case round =>
    obtain ⟨k, hk, rfl, hall, hB⟩ := hrel
    have HALL := Lib.hid hall
    obtain ⟨x0, x1, x2, x3⟩ : wr.cell? ⟨w.heap.size, 0, none⟩ = some (.slice ma ml mc) ∧ wr.cell? ⟨w.heap.size, 1, none⟩ = some (.slice wa wl wc) ∧ wr.cell? ⟨w.heap.size, 2, none⟩ = some (.slice na nl nc) ∧ wr.cell? ⟨w.heap.size, 3, none⟩ = some (.int .i64 s.fresh) := ⟨(hB.cell (p := ⟨w.heap.size, 0, none⟩) hz0).trans (HS0.out 0), (hB.cell (p := ⟨w.heap.size, 1, none⟩) hz0).trans (HS0.out 1), (hB.cell (p := ⟨w.heap.size, 2, none⟩) hz0).trans (HS0.out 2), (hB.cell (p := ⟨w.heap.size, 3, none⟩) hz0).trans (HS0.out 3)⟩
    have hbw := HB0.out.trans (hB.mono HB0.out.size)
    have HB := Lib.hid hB
    have HBW := Lib.hid hbw
    clear hall hB hbw
    by_cases hlt : k < nl
    · have hkl : (k : Int) < (nl : Int) := by omega
      obtain ⟨r, hr⟩ : ∃ r, s.rest x k = r := ⟨_, rfl⟩
      have HW := Lib.hid (HWA.out k hlt r hr wr HBW.out)
      have HR := Lib.hid hr
      clear hr
      by_cases h0 : r = 0
      · subst h0
        go_wp2_with fail
        refine HW.out.mono ?_
        rintro e w1 ⟨rfl, hb1⟩
        have HB1 := Lib.hid (HB.out.trans (hb1.mono HB.out.size))
        clear hb1
        go_wp2_with fail
        go_roundw
        case rel => exact ⟨k + 1, by omega, by go_num, fun p hp => by
          by_cases e : p = k
          · subst e; exact HR.out
          · exact HALL.out p (by omega), HB1.out⟩
        case measure => simp [intOf]; omega
      · have hneB : (r != 0) = true := by simpa using h0
        have HJ := Lib.hid (HJN.out k hlt (by rw [HR.out]; exact h0))
        clear h0
        go_wp2_with fail
        refine HW.out.mono ?_
        rintro e w1 ⟨rfl, hb1⟩
        have HB1 := Lib.hid (HBW.out.trans (hb1.mono HBW.out.size))
        clear hb1
        go_wp2_with fail
        go_ret
        unfold JustsPost
        refine ⟨HB1.out, .slice none 0 0, [], rfl, ⟨rfl, .inl ⟨rfl, rfl⟩⟩, by rw [HJ.out]; exact JRow.nil _⟩
    · obtain rfl : nl = k := by omega
      have HJ := Lib.hid (HJY.out HALL.out)
      go_wp2_with fail
      go_ret
      unfold JustsPost
      refine ⟨HBW.out.alloc HBW.out.size _, _, [.slice xa ml xc], rfl, own_lit _ _ _ _ HBW.out.size, ?_⟩
      rw [HJ.out, ← HXL.out]
      refine JRow.one ?_
      rw [HXL.out]
      exact HX.out _ (HBW.out.alloc HBW.out.size _)
end Go.Proofs.Ytigeiaiohdemiaa
