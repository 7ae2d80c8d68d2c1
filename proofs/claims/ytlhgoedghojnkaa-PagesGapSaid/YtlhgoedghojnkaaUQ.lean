/- The reference's Ahead. -/
import Derived.Test.YtlhgoedghojnkaaZY
import Derived.Test.YtlhgoedghojnkaaYN
namespace Go.Proofs.Ytlhgoedghojnkaa
set_option linter.unusedVariables false
set_option linter.unusedSimpArgs false
open Go.RowKit

theorem ints_srcW {w : World} {a : Option Addr} {len : Nat} {xs : List Int} (h : IntsAt w a len xs) : 0 < len → ∃ pb po, a = some ⟨pb, po, none⟩ ∧ pb < w.heap.size ∧ ∀ j u, (xs.map (Value.int .i64))[j]? = some u → w.cell? ⟨pb, po + j, none⟩ = some u := by
  intro h0
  obtain ⟨b, o, e, hb, hc⟩ := h.2.2 h0
  refine ⟨b, o, e, hb, fun j u hu => ?_⟩
  rw [List.getElem?_map] at hu
  obtain ⟨v, hv, rfl⟩ := Option.map_eq_some_iff.1 hu
  obtain ⟨hj, rfl⟩ := List.getElem?_eq_some_iff.1 hv
  exact hc j hj
theorem wpList_append_new {ops : Array Oper} {rest : List Oper} {o : Oper} {a : Act} {Q : Exit → Act → World → Prop} (w : World) (xl xc : Nat) (xa : Option Addr) (xs : List Int) (hgd : o.guard = none) (s x : Operand)
    (ho : o.op = .call { callee := .builtin .append, args := #[s, x], argTypes := #[27, 27] }) (hs : ∃ p, a.eval s = .slice (some p) 0 0) (hxv : a.eval x = .slice xa xl xc)
    (hx : IntsAt w xa xl xs) (hl : xl ≤ 1000) (h : ∀ ga c w3, IntsAt w3 (some ga) xl xs → Below w.heap.size w w3 → wpList Try.prog ops Q rest (a.put o.dst (.slice (some ga) xl c)) w3) : wpList Try.prog ops Q (o :: rest) a w := by
  obtain ⟨p, hs⟩ := hs
  obtain ⟨ga, c, w3, hr, hf, hb⟩ := run_append_fresh w 27 o.type 3 _ 1 8 Try.underlying27 Try.info3 rfl (by decide) (by decide) p xl xc xa (xs.map (Value.int .i64)) (by simp [hx.1]) (fun h0 => by
    obtain ⟨pb, po, e1, -, e2⟩ := ints_srcW hx h0; exact ⟨pb, po, e1, e2⟩) hl
  exact wpList_append_run w hgd s x 27 ho _ _ _ _ hs hxv hr (h ga c w3 (FRow.ints hf (by unfold maxLen; omega)) hb)
theorem ints_take {w : World} {a : Option Addr} {len k : Nat} {xs : List Int} (h : IntsAt w a len xs) (hk : k ≤ len) : IntsAt w a k (xs.take k) := by
  obtain ⟨h1, h2, h3⟩ := h
  refine ⟨by rw [List.length_take]; omega, by omega, fun h0 => ?_⟩
  obtain ⟨b, o, e, hb, hc⟩ := h3 (by omega)
  refine ⟨b, o, e, hb, fun i hi => ?_⟩
  rw [List.length_take] at hi
  rw [List.getElem_take]
  exact hc i (by omega)
theorem wpList_append_newC {ops : Array Oper} {rest : List Oper} {o : Oper} {a : Act} {Q : Exit → Act → World → Prop} (w : World) (xl xc : Nat) (xa : Option Addr) (xs : List Int) (hgd : o.guard = none) (s x : Operand)
    (ho : o.op = .call { callee := .builtin .append, args := #[s, x], argTypes := #[27, 27] }) (hs : ∃ p, a.eval s = .slice (some p) 0 0) (hxv : a.eval x = .slice xa xl xc)
    (hx : IntsAt w xa xl xs) (hl : xl ≤ 1000) (h : ∀ ga c w3, IntsAt w3 (some ga) xl xs → CapOk xl c → Below w.heap.size w w3 → wpList Try.prog ops Q rest (a.put o.dst (.slice (some ga) xl c)) w3) : wpList Try.prog ops Q (o :: rest) a w := by
  obtain ⟨p, hs⟩ := hs
  obtain ⟨ga, c, w3, hr, hf, hc, hb⟩ := run_append_freshC w 27 o.type 3 _ 1 8 Try.underlying27 Try.info3 rfl (by decide) (by decide) p xl xc xa (xs.map (Value.int .i64)) (by simp [hx.1]) (fun h0 => by
    obtain ⟨pb, po, e1, -, e2⟩ := ints_srcW hx h0; exact ⟨pb, po, e1, e2⟩) hl
  exact wpList_append_run w hgd s x 27 ho _ _ _ _ hs hxv hr (h ga c w3 (FRow.ints hf (by unfold maxLen; omega)) hc hb)
set_option maxRecDepth 100000 in
set_option maxHeartbeats 4000000 in
theorem refAheadC_any (f : PFrame) (sa : Option Addr) (sl sc : Nat) (pa : Option Addr) (pl pc : Nat) (ca : Option Addr) (cl cc : Nat) (n : Int) (ho : f.ok = true) (h0 : 0 ≤ n) (hn : n < (f.pieces.length : Int)) (w : World) (hp : PAt w sa sl sc pa pl pc ca cl cc f) :
    Calls Try.prog 56 #[.agg #[.int .i64 f.len, .int .i64 f.slack, .slice sa sl sc, .slice pa pl pc, .slice ca cl cc], .int .i64 n] w fun e w' => ∃ ci k ga gc, e = .returned (.tuple #[.int .i64 (ci : Nat), .slice ga k gc]) ∧ f.at n ci k ∧ IntsAt w' ga k (f.ahead ci k) ∧ (k ≤ gc ∧ gc ≤ maxLen) ∧ Below w.heap.size w w' := by
  obtain ⟨hcl, hcm, hcc⟩ := hp.2.2
  have HCL := Lib.hid hcl
  have HCC := Lib.hid hcc
  have hc3 : cl ≤ 3 := by have := (PFrame.ok_parts ho).2.2.2.2.2.2; omega
  have HC6 := Lib.hid (fun ci (h : ci < f.cols.length) => (PFrame.ok_col ho ci h).2)
  have h66 := (PFrame.ok_parts ho).2.2.2.2.2.1
  have HSO := Lib.hid (fun (h : ∀ ci (h1 : ci < f.cols.length) k (h2 : k < f.cols[ci].length), f.cols[ci][k] ≠ n) => show False from by
    obtain ⟨ci, k, h1, h2, h3⟩ := at_some ho h0 hn
    exact h ci h1 k h2 h3)
  have HAT := Lib.hid (fun ci (h1 : ci < f.cols.length) k (h2 : k < f.cols[ci].length) (h3 : f.cols[ci][k] = n) => show f.at n ci k from ⟨h1, h2, h3⟩)
  have HAH := Lib.hid (fun ci (h1 : ci < f.cols.length) k => show f.cols[ci].take k = f.ahead ci k from by unfold PFrame.ahead; rw [List.getElem?_eq_getElem h1]; rfl)
  clear hp hcl hcm hcc ho h0 hn
  go_enter Try.func56, Try.ntmps56
  go_wp2_with fail
  obtain ⟨W0, hW0, hB0, hs0, hz0⟩ := name1k w #[.int .i64 f.len, .int .i64 f.slack, .slice sa sl sc, .slice pa pl pc, .slice ca cl cc] 26
  rw [hW0]
  clear hW0
  have HB0 := Lib.hid hB0
  have x4 : W0.cell? ⟨w.heap.size, 4, none⟩ = some (.slice ca cl cc) := hs0 4
  clear hB0 hs0
  go_loopw [6] (fun v6 wr => ∃ ci : Nat, ci ≤ cl ∧ v6 = .int .i64 ci ∧ Hid (∀ i (h1 : i < f.cols.length) k (h2 : k < f.cols[i].length), i < ci → f.cols[i][k] ≠ n) ∧ W0 = wr) (fun v6 _ => cl - (intOf v6).toNat)
  case atStart => exact ⟨0, by omega, rfl, Lib.hid (fun i _ _ _ h => by omega), rfl⟩
  case round =>
    obtain ⟨ci, hci, rfl, HA, rfl⟩ := hrel
    by_cases hlt : ci < cl
    · have hci2 : ci < f.cols.length := by rw [HCL.out]; exact hlt
      obtain ⟨cb, co, rfl, hcB, hccell⟩ := HCC.out (by omega)
      obtain ⟨ra, rl, rc, hcell, hcap, hri⟩ := hccell ci hci2
      have c0 := (HB0.out.cell (p := ⟨cb, co + ci, none⟩) hcB).trans hcell
      have hkl : (ci : Int) < (cl : Int) := by omega
      have hcB0 : cb < W0.heap.size := Nat.lt_of_lt_of_le hcB HB0.out.size
      have hk0 : (0 : Int) ≤ (ci : Int) := by omega
      have HRI := Lib.hid (fun W (hb : Below W0.heap.size W0 W) => hri.below (HB0.out.trans (hb.mono HB0.out.size)))
      have hrl := hri.1
      have h6 := HC6.out ci hci2
      have HRL := Lib.hid hrl
      have HRC := Lib.hid hri.2.2
      have hrl2 : rl ≤ 6 := by omega
      clear hccell hcell hrl hri h6
      go_wp2_with fail
      go_loopw [7] (fun v7 wr => ∃ k : Nat, k ≤ rl ∧ v7 = .int .i64 k ∧ Hid (∀ j (h2 : j < f.cols[ci].length), j < k → f.cols[ci][j] ≠ n) ∧ W0 = wr) (fun v7 _ => rl - (intOf v7).toNat)
      case atStart => exact ⟨0, by omega, rfl, Lib.hid (fun j _ h => by omega), rfl⟩
      case round =>
        obtain ⟨k, hk, rfl, HI, rfl⟩ := hrel
        by_cases hlt2 : k < rl
        · have hk2 : k < f.cols[ci].length := by rw [HRL.out]; exact hlt2
          obtain ⟨rb, ro, rfl, hrB, hrcell⟩ := HRC.out (by omega)
          have cx := (HB0.out.cell (p := ⟨rb, ro + k, none⟩) hrB).trans (hrcell k hk2)
          have hkl2 : (k : Int) < (rl : Int) := by omega
          have hk02 : (0 : Int) ≤ (k : Int) := by omega
          have HAT1 := Lib.hid (HAT.out ci hci2 k hk2)
          have HNE := Lib.hid (fun (h : f.cols[ci][k] ≠ n) => show ∀ j (h2 : j < f.cols[ci].length), j < k + 1 → f.cols[ci][j] ≠ n from fun j h2 hj => by
            by_cases e : j = k
            · subst e; exact h
            · exact HI.out j h2 (by omega))
          clear hrcell
          obtain ⟨x, hx⟩ : ∃ x, f.cols[ci][k] = x := ⟨_, rfl⟩
          rw [hx] at cx HAT1 HNE
          clear hx
          by_cases he : x = n
          · subst he
            have HAT2 := Lib.hid (HAT1.out rfl)
            have HTK := Lib.hid (fun W hb => ints_take (k := k) (HRI.out W hb) (by omega))
            rw [HAH.out ci hci2 k] at HTK
            have hkc : (k : Int) ≤ (rc : Int) := by omega
            clear HAT1 HNE HI HA HRI HSO
            go_wp2_with (at_builtin; refine wpList_append_newC _ k rc _ (f.ahead ci k) rfl _ _ rfl ⟨_, rfl⟩ rfl (HTK.out _ (by repeat (first | exact Below.refl _ _ | (refine Below.alloc ?_ (by first | omega | (simp; omega) | simp) _) | (refine Below.setCell ?_ (by first | omega | (simp; omega) | simp) _) | refine Below.drew ?_))) (by omega) ?_; intro ga gc w3 hI3 hc3 hb3)
            go_ret2
            exact ⟨ci, k, _, _, rfl, HAT2.out, hI3, hc3.1, HB0.out.trans ((((by repeat (first | exact Below.refl _ _ | (refine Below.alloc ?_ (by first | omega | (simp; omega) | simp) _) | (refine Below.setCell ?_ (by first | omega | (simp; omega) | simp) _) | refine Below.drew ?_)) : Below W0.heap.size W0 _).trans (hb3.mono (by simp))).mono HB0.out.size)⟩
          · have heB : (x == n) = false := by simpa using he
            have HI2 := Lib.hid (HNE.out he)
            clear HAT1 HNE HI
            go_wp2_with fail
            go_roundw
            case rel => exact ⟨k + 1, by omega, by go_num, HI2, trivial⟩
            case measure => simp [intOf]; omega
        · obtain rfl : rl = k := by omega
          have HA2 := Lib.hid (show ∀ i (h1 : i < f.cols.length) k (h2 : k < f.cols[i].length), i < ci + 1 → f.cols[i][k] ≠ n from fun i h1 k h2 hi => by
            by_cases e : i = ci
            · subst e; exact HI.out k h2 (by have := HRL.out; omega)
            · exact HA.out i h1 k h2 (by omega))
          clear HA HI
          go_wp2_with fail
          go_roundw
          case rel => exact ⟨ci + 1, by omega, by go_num, HA2, trivial⟩
          case measure => simp [intOf]; omega
    · exact absurd (HSO.out (fun i h1 k h2 => HA.out i h1 k h2 (by have := HCL.out; omega))) id
theorem refAhead_any (f : PFrame) (sa : Option Addr) (sl sc : Nat) (pa : Option Addr) (pl pc : Nat) (ca : Option Addr) (cl cc : Nat) (n : Int) (ho : f.ok = true) (h0 : 0 ≤ n) (hn : n < (f.pieces.length : Int)) (w : World) (hp : PAt w sa sl sc pa pl pc ca cl cc f) :
    Calls Try.prog 56 #[.agg #[.int .i64 f.len, .int .i64 f.slack, .slice sa sl sc, .slice pa pl pc, .slice ca cl cc], .int .i64 n] w fun e w' => ∃ ci k ga gc, e = .returned (.tuple #[.int .i64 (ci : Nat), .slice ga k gc]) ∧ f.at n ci k ∧ IntsAt w' ga k (f.ahead ci k) ∧ Below w.heap.size w w' :=
  (refAheadC_any f sa sl sc pa pl pc ca cl cc n ho h0 hn w hp).mono fun e w' ⟨ci, k, ga, gc, h1, h2, h3, _, h5⟩ => ⟨ci, k, ga, gc, h1, h2, h3, h5⟩
end Go.Proofs.Ytlhgoedghojnkaa
