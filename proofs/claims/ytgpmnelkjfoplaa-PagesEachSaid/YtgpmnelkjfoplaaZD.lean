/- Package pages: rooms. -/
import Derived.Test.YtgpmnelkjfoplaaZC
namespace Go.Proofs.Ytgpmnelkjfoplaa
set_option linter.unusedVariables false
set_option linter.unusedSimpArgs false
open Go.RowKit

set_option maxRecDepth 100000 in
set_option maxHeartbeats 400000 in
theorem rooms_any (f : PFrame) (sa : Option Addr) (sl sc : Nat) (pa : Option Addr) (pl pc : Nat) (ca : Option Addr) (cl cc : Nat) (ho : f.ok = true) (c : Nat) (hc : c < 64) (w : World) (hp : PAt w sa sl sc pa pl pc ca cl cc f) :
    Calls Try.prog 118 #[.agg #[.int .i64 f.len, .int .i64 f.slack, .slice sa sl sc, .slice pa pl pc, .slice ca cl cc], .int .i64 c] w fun e w' => ∃ v n0, e = .returned v ∧ w.heap.size < n0 ∧ w'.ownsRow n0 32 2 v cl (roomCells f c cl) ∧ Below w.heap.size w w' := by
  obtain ⟨hcl, hcm, hcc⟩ := hp.2.2
  have hcl3 := (PFrame.ok_parts ho).2.2.2.2.2.2
  have hpl6 := (PFrame.ok_parts ho).2.2.2.2.2.1
  have HRM := Lib.hid (fun xa xl xc xs W h1 h2 (hb : Below w.heap.size w W) hx => room_any f sa sl sc pa pl pc ca cl cc xa xl xc xs ho h1 h2 W (hp.below hb) hx)
  have HKP := Lib.hid (fun ca xl cc x w1 w2 => kept_any c hc ca xl cc x w1 w2)
  have HCLN := Lib.hid (fun W xa xl xc x => Clone_any xa xl xc x W)
  have HC6 := Lib.hid (fun ci (h : ci < f.cols.length) => PFrame.ok_col ho ci h)
  have HCL := Lib.hid hcl
  have HCC := Lib.hid hcc
  have hcl4 : cl ≤ 3 := by omega
  clear hp hcl hcm hcc ho hcl3
  go_enter Try.func118, Try.ntmps118
  go_wp2_with fail
  obtain ⟨W0, hW0, hB0, hs0, hz0⟩ := name1k w #[.int .i64 f.len, .int .i64 f.slack, .slice sa sl sc, .slice pa pl pc, .slice ca cl cc] 87
  rw [hW0]
  clear hW0
  have HB0 := Lib.hid hB0
  have HS0 := Lib.hid hs0
  clear hB0 hs0
  go_loopw [5, 13] (fun rv i wr => ∃ ci : Nat, ci ≤ cl ∧ i = .int .i64 ci ∧ wr.ownsRow W0.heap.size 32 2 rv ci (roomCells f c ci) ∧ Below W0.heap.size W0 wr) (fun _ i _ => cl - (intOf i).toNat)
  case atStart => exact ⟨0, by omega, rfl, ⟨rfl, .inl ⟨rfl, rfl⟩⟩, Below.refl _ _⟩
  case round =>
    obtain ⟨ci, hci, rfl, hfr, hB⟩ := hrel
    have HB := Lib.hid hB
    have HF := Lib.hid hfr
    have hbw := HB0.out.trans (hB.mono HB0.out.size)
    have HBW := Lib.hid hbw
    by_cases hlt : ci < cl
    · have hci2 : ci < f.cols.length := by rw [HCL.out]; exact hlt
      obtain ⟨cb, co, rfl, hcB, hccell⟩ := HCC.out (by omega)
      obtain ⟨ra, rl, rc, hcell, ⟨hrc1, hrc2⟩, hri⟩ := hccell ci hci2
      have c0 := (hbw.cell (p := ⟨cb, co + ci, none⟩) hcB).trans hcell
      have hkl : (ci : Int) < (cl : Int) := by omega
      have hk0 : (0 : Int) ≤ (ci : Int) := by omega
      have HRI := Lib.hid (hri.below hbw)
      clear hB hbw hccell hcell hri hfr
      obtain ⟨hin, hx6⟩ := HC6.out ci hci2
      have hxl := HRI.out.1
      have HIN := Lib.hid (show ∀ x ∈ keepC c f.cols[ci], 0 ≤ x ∧ x < (f.pieces.length : Int) from fun x hx => hin x (List.mem_filter.1 hx).1)
      have H6 := Lib.hid (show (keepC c f.cols[ci]).length ≤ 6 from Nat.le_trans (List.length_filter_le _ _) hx6)
      have HV := Lib.hid (show ∀ i (hi : i < f.cols[ci].length), 0 ≤ f.cols[ci][i] ∧ f.cols[ci][i] < 6 from fun i hi => by have := hin _ (List.getElem_mem hi); omega)
      have HSN := Lib.hid (roomCells_snoc f c ci hci2)
      have hsz0 : w.heap.size < W0.heap.size := by omega
      clear hin
      generalize f.cols[ci] = col at *
      generalize hlo : f.roomLo (keepC c col) = lo at *
      generalize hhi : f.roomHi (keepC c col) = hi at *
      go_wp2_with (first
        | (go_at_call 90; refine (HCLN.out _ _ _ _ _ HRI.out (by omega)).mono ?_; rintro e wC ⟨ka, kc, rfl, hk, hbC⟩; have HK := Lib.hid hk; have HBC := Lib.hid hbC; clear hk hbC)
        | (go_at_call 127; refine (HKP.out _ _ _ _ _ _ hxl HK.out HBC.out HV.out).mono ?_; rintro e wD ⟨da, dl, dc, rfl, hd, hbD⟩; have HD := Lib.hid hd; have HBD2 := Lib.hid (HBW.out.trans (hbD.mono HBW.out.size)); have hsD := hbD.size; have hW0D := HB.out.trans (hbD.mono HB.out.size); have x0 := (hW0D.cell (p := ⟨w.heap.size, 0, none⟩) hsz0).trans (HS0.out 0); have x1 := (hW0D.cell (p := ⟨w.heap.size, 1, none⟩) hsz0).trans (HS0.out 1); have x2 := (hW0D.cell (p := ⟨w.heap.size, 2, none⟩) hsz0).trans (HS0.out 2); have x3 := (hW0D.cell (p := ⟨w.heap.size, 3, none⟩) hsz0).trans (HS0.out 3); have x4 := (hW0D.cell (p := ⟨w.heap.size, 4, none⟩) hsz0).trans (HS0.out 4); have HBD := Lib.hid hbD; have HW0D := Lib.hid hW0D; clear hbD hd hW0D)
        | (go_at_call 87; with_reducible refine (HRM.out da dl dc _ wD HIN.out H6.out HBD2.out HD.out).mono ?_; rintro e wE ⟨rfl, hbE⟩; have hzE := hbE.size; have HBE := Lib.hid hbE; clear hbE)
        | (at_builtin; go_must (refine wpList_append_span _ W0.heap.size ci _ (roomCells f c ci) lo hi rfl _ _ rfl rfl ⟨_, rfl, ?_, ?_⟩ ?_ (by omega) ?_ ?_); go_must (focus (simp; done)); go_must (focus (simp; done)); go_must (· exact HF.out.kept (grow_gb ((HBD.out.trans (HBE.out.mono HBD.out.size)).alloc (Nat.le_trans HBD.out.size HBE.out.size) _) none) (Classical.em _)); go_must (focus (have hh1 := HB.out.size; have hh2 := HBD.out.size; have hh3 := HBE.out.size; simp; omega)); intro v2 wF hoF hbF; have HOF := Lib.hid hoF; have HBF := Lib.hid (((HB.out.trans (HBD.out.mono HB.out.size)).trans (HBE.out.mono (Nat.le_trans HB.out.size HBD.out.size))).alloc (Nat.le_trans (Nat.le_trans HB.out.size HBD.out.size) HBE.out.size) _ |>.trans hbF); clear hoF hbF))
      refine ⟨⟨ci + 1, by omega, by go_num, by rw [HSN.out]; exact HOF.out, HBF.out⟩, by simp [intOf]; omega⟩
    · obtain rfl : cl = ci := by omega
      clear hbw hB hfr
      go_wp2_with fail
      go_ret
      exact ⟨_, _, rfl, hz0, HF.out, HBW.out⟩
end Go.Proofs.Ytgpmnelkjfoplaa
