/- ZB ZC ZD, joined. -/
import Derived.Test.YtcklhojeneejiaaZA
/- Package pages: a copied column without the pieces of a choice. -/
namespace Go.Proofs.Ytcklhojeneejiaa
set_option linter.unusedVariables false
set_option linter.unusedSimpArgs false
open Go.RowKit

theorem OwnI.ints {w : World} {g : Nat} {ys : List Int} (h : OwnI w g 0 ys) (hg : g < w.heap.size) (hm : ys.length ≤ maxLen) : IntsAt w (some ⟨g, 0, none⟩) ys.length ys :=
  ⟨rfl, hm, fun _ => ⟨g, 0, rfl, hg, fun i hi => (h i hi).1⟩⟩
theorem kept_any (c : Nat) (hc : c < 64) (ca : Option Addr) (xl cc : Nat) (x : List Int) (w w1 : World) (hxl : x.length = xl) (hw : (ca = none ∧ xl = 0 ∧ cc = 0) ∨ ∃ g, ca = some ⟨g, 0, none⟩ ∧ RowI w1 w.heap.size g xl cc x) (hb : Below w.heap.size w w1)
    (hv : ∀ i (hi : i < x.length), 0 ≤ x[i] ∧ x[i] < 6) :
    Calls Try.prog 127 #[.slice ca xl cc, .func (.func 120) #[.int .i64 c] #[]] w1 fun e w' => ∃ da dl dc, e = .returned (.slice da dl dc) ∧ IntsAt w' da dl (keepC c x) ∧ Below w.heap.size w w' := by
  have hx : IntsAt w1 ca xl x := by
    rcases hw with ⟨rfl, rfl, rfl⟩ | ⟨g, rfl, hr⟩
    · exact ⟨hxl, by unfold maxLen; omega, fun h => by omega⟩
    · exact hr.ints
  by_cases hi : x.findIdx? (hasI c) = none
  · refine (DeleteFunc_none c hc ca xl cc x w1 hx hv hi).mono ?_
    rintro e w' ⟨rfl, rfl⟩
    exact ⟨ca, xl, cc, rfl, by rw [(idxF_none hi).2]; exact hx, hb⟩
  · rcases hw with ⟨rfl, rfl, rfl⟩ | ⟨g, rfl, hr⟩
    · exact absurd (by rw [List.length_eq_zero_iff.1 hxl]; rfl) hi
    · obtain ⟨p1, p2, p3, -⟩ := hr.parts
      obtain ⟨h1, h2, h3⟩ := hr.holds
      have hle : (keepC c x).length ≤ x.length := List.length_filter_le _ _
      refine (DeleteFunc_some c hc g 0 xl cc x w1 hxl (by omega) p2 p3 h1 (fun t ht => ⟨by rw [Nat.zero_add]; exact h2 t ht, h3 _⟩) hv hi).mono ?_
      rintro e w' ⟨rfl, hg, ho⟩
      exact ⟨_, _, _, rfl, ho.ints (Nat.lt_of_lt_of_le h1 hg.size) (by omega), hb.trans (grown_low hg hb.size (fun r e => by injection e with e; omega))⟩
end Go.Proofs.Ytcklhojeneejiaa

/- Package pages: append of a span; what rooms gives. -/
namespace Go.Proofs.Ytcklhojeneejiaa
set_option linter.unusedVariables false
set_option linter.unusedSimpArgs false
open Go.RowKit

theorem Try.info32 : (Try.prog.info? 32).map (fun i => (i.zero, i.size, i.bytes)) = some (some (.agg #[.int .i64 0, .int .i64 0]), 2, 16) := by kernel_rfl
theorem own_low {w : World} {n0 len sz : Nat} {e : TypeId} {v : Value} {xs : List Value} (h : w.ownsRow n0 e sz v len xs) : ∀ r, v.ownBlock = some r → n0 ≤ r := by
  intro r hr
  rcases h.2 with ⟨rfl, _⟩ | ⟨g, c, cur, rfl, h1, _⟩
  · simp [Value.ownBlock] at hr
  · simp [Value.ownBlock] at hr; omega
/-- append of one span, to a row that the call has made. -/
theorem wpList_append_span {ops : Array Oper} {rest : List Oper} {o : Oper} {a : Act} {Q : Exit → Act → World → Prop} (w : World) (n0 k : Nat) (v : Value) (cs : List Value) (lo hi : Int) (hgd : o.guard = none) (s x : Operand)
    (ho : o.op = .call { callee := .builtin .append, args := #[s, x], argTypes := #[135, 135] }) (hs : a.eval s = v) (hxv : ∃ p, a.eval x = .slice (some ⟨p, 0, none⟩) 1 1 ∧ w.cell? ⟨p, 0, none⟩ = some (.int .i64 lo) ∧ w.cell? ⟨p, 1, none⟩ = some (.int .i64 hi))
    (hrow : w.ownsRow n0 32 2 v k cs) (hl : k ≤ 1000) (hnw : n0 ≤ w.heap.size)
    (h : ∀ v' w', w'.ownsRow n0 32 2 v' (k + 1) (cs ++ [.int .i64 lo, .int .i64 hi]) → Below n0 w w' → wpList Try.prog ops Q rest (a.put o.dst v') w') : wpList Try.prog ops Q (o :: rest) a w := by
  obtain ⟨p, hxv, h0, h1⟩ := hxv
  obtain ⟨i0, hi0, hy0, hy1, hy2⟩ := info_parts Try.info32
  obtain ⟨v', w3, hr, hown, hgrow, _, _⟩ := run_append_own_at (P := Try.prog) w n0 135 o.type 32 i0 _ 2 16 Try.underlying135 hi0 hy0 hy1 hy2 rfl (by decide) _ k _ hrow ⟨p, 0, none⟩ 1 1 [.int .i64 lo, .int .i64 hi] rfl (by
    intro j x hj
    match j, hj with
    | 0, hj => cases hj; rw [Addr.add_lit]; exact h0
    | 1, hj => cases hj; rw [Addr.add_lit]; exact h1
    | j + 2, hj => simp at hj) (by intro x hx; simp at hx; rcases hx with rfl | rfl <;> rfl) (by unfold maxLen; omega) (by omega) hnw
  exact wpList_append_run w hgd s x 135 ho _ _ _ _ hs hxv hr (h v' w3 hown (grown_low hgrow hnw (own_low hrow)))

def roomCells (f : PFrame) (c n : Nat) : List Value := ((f.cols.take n).map fun x => [Value.int .i64 (f.roomLo (keepC c x)), Value.int .i64 (f.roomHi (keepC c x))]).flatten
theorem roomCells_snoc (f : PFrame) (c n : Nat) (h : n < f.cols.length) : roomCells f c (n + 1) = roomCells f c n ++ [.int .i64 (f.roomLo (keepC c f.cols[n])), .int .i64 (f.roomHi (keepC c f.cols[n]))] := by
  unfold roomCells
  rw [List.take_succ_eq_append_getElem h, List.map_append, List.flatten_append]
  simp

end Go.Proofs.Ytcklhojeneejiaa

/- Package pages: rooms. -/
namespace Go.Proofs.Ytcklhojeneejiaa
set_option linter.unusedVariables false
set_option linter.unusedSimpArgs false
open Go.RowKit

set_option maxRecDepth 100000 in
set_option maxHeartbeats 400000 in
theorem rooms_any (f : PFrame) (sa : Option Addr) (sl sc : Nat) (pa : Option Addr) (pl pc : Nat) (ca : Option Addr) (cl cc : Nat) (ho : f.ok = true) (c : Nat) (hc : c < 64) (w : World) (hp : PAt w sa sl sc pa pl pc ca cl cc f) :
    Calls Try.prog 118 #[.agg #[.int .i64 f.len, .int .i64 f.slack, .slice sa sl sc, .slice pa pl pc, .slice ca cl cc], .int .i64 c] w fun e w' => ∃ v n0, e = .returned v ∧ w.heap.size < n0 ∧ w'.ownsRow n0 32 2 v cl (roomCells f c cl) ∧ Below w.heap.size w w' := by
  obtain ⟨hcl, hcm, hcc⟩ := hp.2.2
  have hcl3 := (PFrame.ok_parts ho).2.2.2.2.2.2
  have hpl6 := (PFrame.ok_parts ho).2.2.2.2.2.1
  have HRM := Lib.hid (fun xa xl xc xs W h1 h2 (hb : Below w.heap.size w W) hx => room_any f sa sl sc pa pl pc ca cl cc xa xl xc xs ho h1 h2 W (hp.below hb) hx)
  have HKP := Lib.hid (fun ca xl cc x w1 w2 => kept_any c hc ca xl cc x w1 w2)
  have HCLN := Lib.hid (fun W xa xl xc x => Clone_any xa xl xc x W)
  have HC6 := Lib.hid (fun ci (h : ci < f.cols.length) => PFrame.ok_col ho ci h)
  have HCL := Lib.hid hcl
  have HCC := Lib.hid hcc
  have hcl4 : cl ≤ 3 := by omega
  clear hp hcl hcm hcc ho hcl3
  go_enter Try.func118, Try.ntmps118
  go_wp2_with fail
  obtain ⟨W0, hW0, hB0, hs0, hz0⟩ := name1k w #[.int .i64 f.len, .int .i64 f.slack, .slice sa sl sc, .slice pa pl pc, .slice ca cl cc] 87
  rw [hW0]
  clear hW0
  have HB0 := Lib.hid hB0
  have HS0 := Lib.hid hs0
  clear hB0 hs0
  go_loopw [5, 13] (fun rv i wr => ∃ ci : Nat, ci ≤ cl ∧ i = .int .i64 ci ∧ wr.ownsRow W0.heap.size 32 2 rv ci (roomCells f c ci) ∧ Below W0.heap.size W0 wr) (fun _ i _ => cl - (intOf i).toNat)
  case atStart => exact ⟨0, by omega, rfl, ⟨rfl, .inl ⟨rfl, rfl⟩⟩, Below.refl _ _⟩
  case round =>
    obtain ⟨ci, hci, rfl, hfr, hB⟩ := hrel
    have HB := Lib.hid hB
    have HF := Lib.hid hfr
    have hbw := HB0.out.trans (hB.mono HB0.out.size)
    have HBW := Lib.hid hbw
    by_cases hlt : ci < cl
    · have hci2 : ci < f.cols.length := by rw [HCL.out]; exact hlt
      obtain ⟨cb, co, rfl, hcB, hccell⟩ := HCC.out (by omega)
      obtain ⟨ra, rl, rc, hcell, ⟨hrc1, hrc2⟩, hri⟩ := hccell ci hci2
      have c0 := (hbw.cell (p := ⟨cb, co + ci, none⟩) hcB).trans hcell
      have hkl : (ci : Int) < (cl : Int) := by omega
      have hk0 : (0 : Int) ≤ (ci : Int) := by omega
      have HRI := Lib.hid (hri.below hbw)
      clear hB hbw hccell hcell hri hfr
      obtain ⟨hin, hx6⟩ := HC6.out ci hci2
      have hxl := HRI.out.1
      have HIN := Lib.hid (show ∀ x ∈ keepC c f.cols[ci], 0 ≤ x ∧ x < (f.pieces.length : Int) from fun x hx => hin x (List.mem_filter.1 hx).1)
      have H6 := Lib.hid (show (keepC c f.cols[ci]).length ≤ 6 from Nat.le_trans (List.length_filter_le _ _) hx6)
      have HV := Lib.hid (show ∀ i (hi : i < f.cols[ci].length), 0 ≤ f.cols[ci][i] ∧ f.cols[ci][i] < 6 from fun i hi => by have := hin _ (List.getElem_mem hi); omega)
      have HSN := Lib.hid (roomCells_snoc f c ci hci2)
      have hsz0 : w.heap.size < W0.heap.size := by omega
      clear hin
      generalize f.cols[ci] = col at *
      generalize hlo : f.roomLo (keepC c col) = lo at *
      generalize hhi : f.roomHi (keepC c col) = hi at *
      go_wp2_with (first
        | (go_at_call 90; refine (HCLN.out _ _ _ _ _ HRI.out (by omega)).mono ?_; rintro e wC ⟨ka, kc, rfl, hk, hbC⟩; have HK := Lib.hid hk; have HBC := Lib.hid hbC; clear hk hbC)
        | (go_at_call 127; refine (HKP.out _ _ _ _ _ _ hxl HK.out HBC.out HV.out).mono ?_; rintro e wD ⟨da, dl, dc, rfl, hd, hbD⟩; have HD := Lib.hid hd; have HBD2 := Lib.hid (HBW.out.trans (hbD.mono HBW.out.size)); have hsD := hbD.size; have hW0D := HB.out.trans (hbD.mono HB.out.size); have x0 := (hW0D.cell (p := ⟨w.heap.size, 0, none⟩) hsz0).trans (HS0.out 0); have x1 := (hW0D.cell (p := ⟨w.heap.size, 1, none⟩) hsz0).trans (HS0.out 1); have x2 := (hW0D.cell (p := ⟨w.heap.size, 2, none⟩) hsz0).trans (HS0.out 2); have x3 := (hW0D.cell (p := ⟨w.heap.size, 3, none⟩) hsz0).trans (HS0.out 3); have x4 := (hW0D.cell (p := ⟨w.heap.size, 4, none⟩) hsz0).trans (HS0.out 4); have HBD := Lib.hid hbD; have HW0D := Lib.hid hW0D; clear hbD hd hW0D)
        | (go_at_call 87; with_reducible refine (HRM.out da dl dc _ wD HIN.out H6.out HBD2.out HD.out).mono ?_; rintro e wE ⟨rfl, hbE⟩; have hzE := hbE.size; have HBE := Lib.hid hbE; clear hbE)
        | (at_builtin; go_must (refine wpList_append_span _ W0.heap.size ci _ (roomCells f c ci) lo hi rfl _ _ rfl rfl ⟨_, rfl, ?_, ?_⟩ ?_ (by omega) ?_ ?_); go_must (focus (simp; done)); go_must (focus (simp; done)); go_must (· exact HF.out.kept (grow_gb ((HBD.out.trans (HBE.out.mono HBD.out.size)).alloc (Nat.le_trans HBD.out.size HBE.out.size) _) none) (Classical.em _)); go_must (focus (have hh1 := HB.out.size; have hh2 := HBD.out.size; have hh3 := HBE.out.size; simp; omega)); intro v2 wF hoF hbF; have HOF := Lib.hid hoF; have HBF := Lib.hid (((HB.out.trans (HBD.out.mono HB.out.size)).trans (HBE.out.mono (Nat.le_trans HB.out.size HBD.out.size))).alloc (Nat.le_trans (Nat.le_trans HB.out.size HBD.out.size) HBE.out.size) _ |>.trans hbF); clear hoF hbF))
      refine ⟨⟨ci + 1, by omega, by go_num, by rw [HSN.out]; exact HOF.out, HBF.out⟩, by simp [intOf]; omega⟩
    · obtain rfl : cl = ci := by omega
      clear hbw hB hfr
      go_wp2_with fail
      go_ret
      exact ⟨_, _, rfl, hz0, HF.out, HBW.out⟩
end Go.Proofs.Ytcklhojeneejiaa
