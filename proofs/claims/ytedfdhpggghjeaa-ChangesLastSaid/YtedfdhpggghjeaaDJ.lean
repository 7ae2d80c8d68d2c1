/- The laws of changes: Example. -/
import Derived.Test.YtedfdhpggghjeaaDI
namespace Go.Proofs.Ytedfdhpggghjeaa
set_option linter.unusedVariables false
set_option linter.unusedSimpArgs false
open Go.RowKit Go.Shelf

def exH : CHouse := ⟨[⟨-1, 0, 20, 0⟩, ⟨0, 5, 9, 0⟩, ⟨1, 10, 3, 1⟩, ⟨1, 20, 3, 1⟩, ⟨0, 25, 8, 0⟩, ⟨4, 30, 2, 1⟩], [⟨0, 1, 12⟩, ⟨1, 0, 22⟩]⟩
def exG : CHouse := (exH.priced 2 5).priced 3 5
def ExPost (w : World) (e : Ending) (w' : World) : Prop :=
  ∃ (ga : Option Addr) (gac : Nat) (gm : Option Addr) (gmc : Nat) (pa : Option Addr) (pac : Nat) (pm : Option Addr) (pmc : Nat), e = .returned (.tuple #[.agg #[.slice ga 6 gac, .slice gm 2 gmc], .agg #[.slice pa 6 pac, .slice pm 2 pmc]]) ∧ HAt w' ga 6 gac gm 2 gmc exH ∧ HAt w' pa 6 pac pm 2 pmc exG ∧ Below w.heap.size w w'
set_option maxRecDepth 100000 in
set_option maxHeartbeats 8000000 in
theorem Example_any (w : World) : Calls Try.prog 57 #[] w fun e w' => ExPost w e w' := by
  have HP1 := Lib.hid (fun W ga gac gm gmc (h : HAt W ga 6 gac gm 2 gmc exH) => show Calls Try.prog 53 #[.agg #[.slice ga 6 gac, .slice gm 2 gmc], .int .i64 2, .int .i64 5] W fun e w' => (∃ (ga : Option Addr) (gac : Nat) (gm : Option Addr) (gmc : Nat), e = .returned (.agg #[.slice ga 6 gac, .slice gm 2 gmc]) ∧ HAt w' ga 6 gac gm 2 gmc (exH.priced 2 5) ∧ Fresh W.heap.size ga 6 gac gm 2 gmc) ∧ Below W.heap.size W w' from Priced_any exH ga 6 gac gm 2 gmc W h (by decide) (by decide) 2 (by decide) 5)
  have HP2 := Lib.hid (fun W ga gac gm gmc (h : HAt W ga 6 gac gm 2 gmc (exH.priced 2 5)) => show Calls Try.prog 53 #[.agg #[.slice ga 6 gac, .slice gm 2 gmc], .int .i64 3, .int .i64 5] W fun e w' => (∃ (ga : Option Addr) (gac : Nat) (gm : Option Addr) (gmc : Nat), e = .returned (.agg #[.slice ga 6 gac, .slice gm 2 gmc]) ∧ HAt w' ga 6 gac gm 2 gmc ((exH.priced 2 5).priced 3 5) ∧ Fresh W.heap.size ga 6 gac gm 2 gmc) ∧ Below W.heap.size W w' from Priced_any (exH.priced 2 5) ga 6 gac gm 2 gmc W h (by decide) (by decide) 3 (by decide) 5)
  go_enter Try.func57, Try.ntmps57
  go_upto_region 2 with fail
  obtain ⟨W1, hW1, hB1, ⟨g0, g1, s0, s1⟩, ⟨t0, t1, r0, r1⟩, hat, hz1⟩ : ∃ W1, (((w.alloc (.cells #[.slice (some ⟨w.heap.size + 1 + 1, 0, none⟩) 6 6, .slice (some ⟨w.heap.size + 1 + 1 + 1, 0, none⟩) 2 2] 25)).alloc (.cells #[.slice none 0 0, .slice none 0 0] 25)).alloc (.cells #[.int .i64 (-1), .int .i64 0, .int .i64 20, .int .i64 0, .int .i64 0, .int .i64 5, .int .i64 9, .int .i64 0, .int .i64 1, .int .i64 10, .int .i64 3, .int .i64 1, .int .i64 1, .int .i64 20, .int .i64 3, .int .i64 1, .int .i64 0, .int .i64 25, .int .i64 8, .int .i64 0, .int .i64 4, .int .i64 30, .int .i64 2, .int .i64 1] 59)).alloc (.cells #[.int .i64 0, .int .i64 1, .int .i64 12, .int .i64 1, .int .i64 0, .int .i64 22] 52) = W1 ∧ Below w.heap.size w W1 ∧
      (W1.cell? ⟨w.heap.size, 0, none⟩ = some (.slice (some ⟨w.heap.size + 1 + 1, 0, none⟩) 6 6) ∧ W1.cell? ⟨w.heap.size, 1, none⟩ = some (.slice (some ⟨w.heap.size + 1 + 1 + 1, 0, none⟩) 2 2) ∧ W1.frozen? ⟨w.heap.size, 0, none⟩ = false ∧ W1.frozen? ⟨w.heap.size, 1, none⟩ = false) ∧
      (W1.cell? ⟨w.heap.size + 1, 0, none⟩ = some (.slice none 0 0) ∧ W1.cell? ⟨w.heap.size + 1, 1, none⟩ = some (.slice none 0 0) ∧ W1.frozen? ⟨w.heap.size + 1, 0, none⟩ = false ∧ W1.frozen? ⟨w.heap.size + 1, 1, none⟩ = false) ∧
      HAt W1 (some ⟨w.heap.size + 1 + 1, 0, none⟩) 6 6 (some ⟨w.heap.size + 1 + 1 + 1, 0, none⟩) 2 2 exH ∧ W1.heap.size = w.heap.size + 4 := by
    refine ⟨_, rfl, (by repeat (first | exact Below.refl _ _ | (refine Below.alloc ?_ (by first | omega | (simp; omega) | simp) _) | (refine Below.setCell ?_ (by first | omega | (simp; omega) | simp) _) | refine Below.drew ?_)), ⟨by go_simp, by go_simp, by go_simp, by go_simp⟩, ⟨by go_simp, by go_simp, by go_simp, by go_simp⟩, ⟨⟨rfl, by decide, fun _ => ⟨_, 0, rfl, by simp, fun i hi => ?_⟩⟩, ⟨rfl, by decide, fun _ => ⟨_, 0, rfl, by simp, fun i hi => ?_⟩⟩, by decide, by decide⟩, by simp⟩
    · match i, hi with
      | 0, _ => exact ⟨by go_simp; rfl, by go_simp; rfl, by go_simp; rfl, by go_simp; rfl⟩
      | 1, _ => exact ⟨by go_simp; rfl, by go_simp; rfl, by go_simp; rfl, by go_simp; rfl⟩
      | 2, _ => exact ⟨by go_simp; rfl, by go_simp; rfl, by go_simp; rfl, by go_simp; rfl⟩
      | 3, _ => exact ⟨by go_simp; rfl, by go_simp; rfl, by go_simp; rfl, by go_simp; rfl⟩
      | 4, _ => exact ⟨by go_simp; rfl, by go_simp; rfl, by go_simp; rfl, by go_simp; rfl⟩
      | 5, _ => exact ⟨by go_simp; rfl, by go_simp; rfl, by go_simp; rfl, by go_simp; rfl⟩
    · match i, hi with
      | 0, _ => exact ⟨by go_simp; rfl, by go_simp; rfl, by go_simp; rfl⟩
      | 1, _ => exact ⟨by go_simp; rfl, by go_simp; rfl, by go_simp; rfl⟩
  rw [hW1]
  clear hW1
  have z0 : w.heap.size < W1.heap.size := by omega
  have z1 : w.heap.size + 1 < W1.heap.size := by omega
  have HB1 := Lib.hid hB1
  have HAT := Lib.hid hat
  have HS := Lib.hid (show ∀ V : World, Below W1.heap.size W1 V → (V.cell? ⟨w.heap.size, 0, none⟩ = some (.slice (some ⟨w.heap.size + 1 + 1, 0, none⟩) 6 6) ∧ V.cell? ⟨w.heap.size, 1, none⟩ = some (.slice (some ⟨w.heap.size + 1 + 1 + 1, 0, none⟩) 2 2) ∧ V.frozen? ⟨w.heap.size, 0, none⟩ = false ∧ V.frozen? ⟨w.heap.size, 1, none⟩ = false) ∧ (V.cell? ⟨w.heap.size + 1, 0, none⟩ = some (.slice none 0 0) ∧ V.cell? ⟨w.heap.size + 1, 1, none⟩ = some (.slice none 0 0) ∧ V.frozen? ⟨w.heap.size + 1, 0, none⟩ = false ∧ V.frozen? ⟨w.heap.size + 1, 1, none⟩ = false) from fun V hb =>
    ⟨⟨(hb.cell (p := ⟨w.heap.size, 0, none⟩) z0).trans g0, (hb.cell (p := ⟨w.heap.size, 1, none⟩) z0).trans g1, (hb.frozen (p := ⟨w.heap.size, 0, none⟩) z0).trans s0, (hb.frozen (p := ⟨w.heap.size, 1, none⟩) z0).trans s1⟩, (hb.cell (p := ⟨w.heap.size + 1, 0, none⟩) z1).trans t0, (hb.cell (p := ⟨w.heap.size + 1, 1, none⟩) z1).trans t1, (hb.frozen (p := ⟨w.heap.size + 1, 0, none⟩) z1).trans r0, (hb.frozen (p := ⟨w.heap.size + 1, 1, none⟩) z1).trans r1⟩)
  clear hB1 hat
  go_region_held3 (fun w' => w'.cell? ⟨w.heap.size, 0, none⟩ = some (.slice (some ⟨w.heap.size + 1 + 1, 0, none⟩) 6 6) ∧ w'.cell? ⟨w.heap.size, 1, none⟩ = some (.slice (some ⟨w.heap.size + 1 + 1 + 1, 0, none⟩) 2 2))
    (first | with_reducible assumption | exact ⟨g0, g1⟩ | exact ⟨by go_simp, by go_simp⟩) (first
    | (go_at_call 53; with_reducible refine (HP1.out _ _ _ _ _ (HAT.out.below (by repeat (first | exact Below.refl _ _ | (refine Below.alloc ?_ (by first | omega | (simp; omega) | simp) _) | (refine Below.setCell ?_ (by first | omega | (simp; omega) | simp) _) | refine Below.drew ?_)))).mono ?_; rintro e w2 ⟨⟨ga, gac, gm, gmc, rfl, hat2, -⟩, hb2⟩; have k2 : Below W1.heap.size W1 w2 := below_via (Lib.hid hb2) (by first | omega | (simp; done) | (simp; omega)) (by repeat (first | exact Below.refl _ _ | (refine Below.alloc ?_ (by first | omega | (simp; omega) | simp) _) | (refine Below.setCell ?_ (by first | omega | (simp; omega) | simp) _) | refine Below.drew ?_)); have kS2 := And.intro (HS.out w2 k2).1.1 (HS.out w2 k2).1.2.1; have HA2 := Lib.hid hat2; clear hat2 hb2)
    | (go_at_call 53; with_reducible refine (HP2.out _ _ _ _ _ HA2.out).mono ?_; rintro e w3 ⟨⟨pa, pac, pm, pmc, rfl, hat3, hfr3⟩, hb3⟩; have k3 : Below W1.heap.size W1 w3 := below_via (Lib.hid hb3) k2.size k2; obtain ⟨⟨c0, c1, f0, f1⟩, d0, d1, e0, e1⟩ := HS.out w3 k3; have kS3 := And.intro c0 c1; have HA3 := Lib.hid hat3; have HF3 := Lib.hid (hfr3.low k2.size); clear hat3 hb3 hfr3)
    | fail "no arm")
  all_goals (go_wp2_with fail)
  all_goals
    have HH1 := HAT.out.below k3
    have HG1 := HA3.out
    have HK1 := HB1.out.trans (k3.mono HB1.out.size)
    have HFH : Fresh (w.heap.size + 2) (some ⟨w.heap.size + 1 + 1, 0, none⟩) 6 6 (some ⟨w.heap.size + 1 + 1 + 1, 0, none⟩) 2 2 := ⟨fun _ ad e => by injection e with e; rw [← e]; exact Nat.le_refl _, fun _ ad e => by injection e with e; rw [← e]; exact Nat.le_succ _⟩
    refine bodyPost_ret (v := .tuple #[.agg #[.slice (some ⟨w.heap.size + 1 + 1, 0, none⟩) 6 6, .slice (some ⟨w.heap.size + 1 + 1 + 1, 0, none⟩) 2 2], .agg #[.slice pa 6 pac, .slice pm 2 pmc]]) (by simp [results, Try.results57, go_sem, *]) rfl ⟨_, _, _, _, _, _, _, _, rfl, ?_, ?_, by have hBB := HK1; exact (by repeat (first | assumption | exact Below.refl _ _ | (refine Below.alloc ?_ (by first | omega | (simp; omega) | simp) _) | (refine Below.setCell ?_ (by first | omega | (simp; omega) | simp) _) | refine Below.drew ?_))⟩
  all_goals
    refine HAt.grown (n0 := w.heap.size + 2) (HAt.grown (n0 := w.heap.size + 2) (by assumption) (gbx_set (gbx_set (gbx_refl w3 (some w.heap.size)) 0 _) 1 _) (by first | exact HFH | exact HF3.out.low (by omega)) (fun r e => by injection e with e; omega)) (gbx_set (gbx_set (gbx_refl _ (some (w.heap.size + 1))) 0 _) 1 _) (by first | exact HFH | exact HF3.out.low (by omega)) (fun r e => by injection e with e; omega)
end Go.Proofs.Ytedfdhpggghjeaa
