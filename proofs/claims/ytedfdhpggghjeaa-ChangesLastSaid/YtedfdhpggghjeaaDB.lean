/- Package changes: compare of two remedies. -/
import Derived.Test.YtedfdhpggghjeaaCE
import Derived.Test.YtedfdhpggghjeaaDA
namespace Go.Proofs.Ytedfdhpggghjeaa
set_option linter.unusedVariables false
set_option linter.unusedSimpArgs false
open Go.RowKit Go.Shelf

set_option maxHeartbeats 400000 in
theorem isNaN_any (a : Int) (w : World) : Calls Try.prog 115 #[.int .i64 a] w fun e w' => e = .returned (.bool false) ∧ w = w' := by
  go_enter Try.func115, Try.ntmps115
  go_wp2
  all_goals (go_ret; exact ⟨ret_bool (by simp), rfl⟩)
set_option maxHeartbeats 1000000 in
theorem Cmp_any (a b : Int) (w : World) : Calls Try.prog 110 #[.int .i64 a, .int .i64 b] w fun e w' => e = .returned (.int .i64 (cmpZ a b)) ∧ w = w' := by
  have HN := Lib.hid (fun a w => isNaN_any a w)
  by_cases h1 : a < b
  · go_enter Try.func110, Try.ntmps110
    go_wp2_with (first | (go_at_call 115; refine (HN.out _ _).mono ?_; rintro e w1 ⟨rfl, rfl⟩))
    go_ret
    exact ⟨ret_i64 (by unfold cmpZ; rw [if_pos (by omega)]), rfl⟩
  · by_cases h2 : b < a
    · go_enter Try.func110, Try.ntmps110
      go_wp2_with (first | (go_at_call 115; refine (HN.out _ _).mono ?_; rintro e w1 ⟨rfl, rfl⟩))
      go_ret
      exact ⟨ret_i64 (by unfold cmpZ; rw [if_neg (by omega), if_pos (by omega)]), rfl⟩
    · go_enter Try.func110, Try.ntmps110
      go_wp2_with (first | (go_at_call 115; refine (HN.out _ _).mono ?_; rintro e w1 ⟨rfl, rfl⟩))
      go_ret
      exact ⟨ret_i64 (by unfold cmpZ; rw [if_neg (by omega), if_neg (by omega)]), rfl⟩

set_option maxRecDepth 100000 in
set_option maxHeartbeats 4000000 in
theorem CompareS_any (aa ba : Option Addr) (al ac bl bc : Nat) (x y : List Int) (w : World) (hx : IntsAt w aa al x) (hy : IntsAt w ba bl y) (h1 : al ≤ 100) (h2 : bl ≤ 100) :
    Calls Try.prog 111 #[.slice aa al ac, .slice ba bl bc] w fun e w' => e = .returned (.int .i64 (cmpL x y)) ∧ w = w' := by
  have HC := Lib.hid (fun a b w => Cmp_any a b w)
  obtain ⟨hxl, -, hxc⟩ := hx
  obtain ⟨hyl, -, hyc⟩ := hy
  have HXL := Lib.hid hxl
  have HYL := Lib.hid hyl
  have HXC := Lib.hid hxc
  have HYC := Lib.hid hyc
  clear hxl hyl hxc hyc
  go_enter Try.func111, Try.ntmps111
  go_wp2_with fail
  go_loopw [11] (fun i wr => ∃ k : Nat, k ≤ al ∧ k ≤ bl ∧ i = .int .i64 k ∧ cmpL x y = cmpL (x.drop k) (y.drop k) ∧ w = wr) (fun i _ => al - (intOf i).toNat)
  case atStart => exact ⟨0, by omega, by omega, rfl, rfl, rfl⟩
  case round =>
    obtain ⟨k, hk, hk2, rfl, hcm, rfl⟩ := hrel
    have HCM := Lib.hid hcm
    clear hcm
    by_cases hlt : k < al
    · have hk3 : k < x.length := by rw [HXL.out]; exact hlt
      obtain ⟨xb, xo, rfl, -, hxcell⟩ := HXC.out (by omega)
      have c0 := hxcell k hk3
      have hkl : (k : Int) < (al : Int) := by omega
      have hk0 : (0 : Int) ≤ (k : Int) := by omega
      clear hxcell
      by_cases hlt2 : k < bl
      · have hk4 : k < y.length := by rw [HYL.out]; exact hlt2
        obtain ⟨yb, yo, rfl, -, hycell⟩ := HYC.out (by omega)
        have c1 := hycell k hk4
        have hkb : (k : Int) < (bl : Int) := by omega
        clear hycell
        have HST := Lib.hid (show cmpL (x.drop k) (y.drop k) = if cmpZ x[k] y[k] = 0 then cmpL (x.drop (k + 1)) (y.drop (k + 1)) else cmpZ x[k] y[k] by
          rw [List.drop_eq_getElem_cons hk3, List.drop_eq_getElem_cons hk4]; rfl)
        generalize x[k] = a at *
        generalize y[k] = b at *
        have HCZ := Lib.hid (HC.out a b w)
        by_cases hz : cmpZ a b = 0
        · rw [hz] at HCZ
          have HR := Lib.hid (show cmpL x y = cmpL (x.drop (k + 1)) (y.drop (k + 1)) by rw [HCM.out, HST.out, if_pos hz])
          clear hz
          go_wp2_with (go_at_call 110; refine HCZ.out.mono ?_; rintro e w1 ⟨rfl, rfl⟩)
          go_roundw
          case rel => exact ⟨k + 1, by omega, by omega, by go_num, HR.out, trivial⟩
          case measure => simp [intOf]; omega
        · have HR := Lib.hid (show cmpL x y = cmpZ a b by rw [HCM.out, HST.out, if_neg hz])
          generalize cmpZ a b = z at *
          go_wp2_with (go_at_call 110; refine HCZ.out.mono ?_; rintro e w1 ⟨rfl, rfl⟩)
          go_ret
          exact ⟨ret_i64 HR.out.symm, rfl⟩
      · have HR := Lib.hid (show cmpL x y = 1 by
          rw [HCM.out, List.drop_eq_getElem_cons hk3, show y.drop k = [] from List.drop_eq_nil_of_le (by rw [HYL.out]; omega)]; rfl)
        have hkb : (bl : Int) ≤ (k : Int) := by omega
        go_wp2_with fail
        go_ret
        exact ⟨ret_i64 HR.out.symm, rfl⟩
    · obtain rfl : al = k := by omega
      by_cases hlt2 : al < bl
      · have HR := Lib.hid (show cmpL x y = -1 by
          rw [HCM.out, show x.drop al = [] from List.drop_eq_nil_of_le (by rw [HXL.out]; omega), List.drop_eq_getElem_cons (show al < y.length by rw [HYL.out]; omega)]; rfl)
        have hkb : (al : Int) < (bl : Int) := by omega
        go_wp2_with fail
        go_ret
        exact ⟨ret_i64 HR.out.symm, rfl⟩
      · have HR := Lib.hid (show cmpL x y = 0 by
          rw [HCM.out, show x.drop al = [] from List.drop_eq_nil_of_le (by rw [HXL.out]; omega), show y.drop al = [] from List.drop_eq_nil_of_le (by rw [HYL.out]; omega)]; rfl)
        have hkb : ¬ (al : Int) < (bl : Int) := by omega
        go_wp2_with fail
        go_ret
        exact ⟨ret_i64 HR.out.symm, rfl⟩

set_option maxRecDepth 100000 in
set_option maxHeartbeats 4000000 in
theorem Or_any (aa : Option Addr) (al ac : Nat) (x : List Int) (w : World) (hx : IntsAt w aa al x) (h1 : al ≤ 100) :
    Calls Try.prog 109 #[.slice aa al ac] w fun e w' => e = .returned (.int .i64 (orL x)) ∧ w = w' := by
  obtain ⟨hxl, -, hxc⟩ := hx
  have HXL := Lib.hid hxl
  have HXC := Lib.hid hxc
  clear hxl hxc
  go_enter Try.func109, Try.ntmps109
  go_wp2_with fail
  go_loopw [8] (fun i wr => ∃ k : Nat, k ≤ al ∧ i = .int .i64 k ∧ orL x = orL (x.drop k) ∧ w = wr) (fun i _ => al - (intOf i).toNat)
  case atStart => exact ⟨0, by omega, rfl, rfl, rfl⟩
  case round =>
    obtain ⟨k, hk, rfl, hcm, rfl⟩ := hrel
    have HCM := Lib.hid hcm
    clear hcm
    by_cases hlt : k < al
    · have hk3 : k < x.length := by rw [HXL.out]; exact hlt
      obtain ⟨xb, xo, rfl, -, hxcell⟩ := HXC.out (by omega)
      have c0 := hxcell k hk3
      have hkl : (k : Int) < (al : Int) := by omega
      have hk0 : (0 : Int) ≤ (k : Int) := by omega
      clear hxcell
      have HST := Lib.hid (show orL (x.drop k) = if x[k] = 0 then orL (x.drop (k + 1)) else x[k] by rw [List.drop_eq_getElem_cons hk3]; rfl)
      generalize x[k] = a at *
      by_cases hz : a = 0
      · have HR := Lib.hid (show orL x = orL (x.drop (k + 1)) by rw [HCM.out, HST.out, if_pos hz])
        subst hz
        go_wp2_with fail
        go_roundw
        case rel => exact ⟨k + 1, by omega, by go_num, HR.out, trivial⟩
        case measure => simp [intOf]; omega
      · have HR := Lib.hid (show orL x = a by rw [HCM.out, HST.out, if_neg hz])
        go_wp2_with fail
        go_ret
        exact ⟨ret_i64 HR.out.symm, rfl⟩
    · obtain rfl : al = k := by omega
      have HR := Lib.hid (show orL x = 0 by rw [HCM.out, List.drop_eq_nil_of_le (by rw [HXL.out]; omega)]; rfl)
      go_wp2_with fail
      go_ret
      exact ⟨ret_i64 HR.out.symm, rfl⟩

theorem ints3 (W0 : World) (a b c : Int) (g : Nat) (h : W0.heap.size = g) : IntsAt (W0.alloc (.cells #[.int .i64 a, .int .i64 b, .int .i64 c] 3)).drew (some ⟨g, 0, none⟩) 3 [a, b, c] := by
  subst h
  refine ⟨rfl, by unfold maxLen; omega, fun _ => ⟨W0.heap.size, 0, rfl, by simp, fun i hi => ?_⟩⟩
  have hi3 : i < 3 := by simpa using hi
  match i, hi3 with
  | 0, _ => exact World.cell?_alloc_new W0 _ _ 0
  | 1, _ => exact World.cell?_alloc_new W0 _ _ 1
  | 2, _ => exact World.cell?_alloc_new W0 _ _ 2
set_option maxRecDepth 100000 in
set_option maxHeartbeats 4000000 in
theorem compare_any (aa ba : Option Addr) (al ac bl bc : Nat) (x y : List Int) (p q : Int) (w : World) (hx : IntsAt w aa al x) (hy : IntsAt w ba bl y) (h1 : al ≤ 100) (h2 : bl ≤ 100) :
    Calls Try.prog 97 #[.agg #[.slice aa al ac, .int .i64 p], .agg #[.slice ba bl bc, .int .i64 q]] w fun e w' => e = .returned (.int .i64 (cmpR x p y q)) ∧ Below w.heap.size w w' := by
  have hxl := hx.1
  have hyl := hy.1
  have HC := Lib.hid (fun a b w => Cmp_any a b w)
  have HS := Lib.hid (fun W (hb : Below w.heap.size w W) => CompareS_any aa ba al ac bl bc x y W (hx.below hb) (hy.below hb) h1 h2)
  have HO := Lib.hid (fun W b c (h : IntsAt W (some ⟨b, 0, none⟩) 3 [cmpZ p q, cmpZ (al : Int) (bl : Int), cmpL x y]) => Or_any (some ⟨b, 0, none⟩) 3 c [cmpZ p q, cmpZ (al : Int) (bl : Int), cmpL x y] W h (by omega))
  have HP := Lib.hid (show orL [cmpZ p q, cmpZ (al : Int) (bl : Int), cmpL x y] = cmpR x p y q by unfold cmpR; rw [hxl, hyl])
  clear hx hy hxl hyl
  go_enter Try.func97, Try.ntmps97
  go_wp2_with fail
  obtain ⟨W0, hW0, hB0, hs0, hr0, hz0⟩ := name2c w #[.slice aa al ac, .int .i64 p] 89 #[.slice ba bl bc, .int .i64 q] 89
  rw [hW0]
  clear hW0
  obtain ⟨x0, x1, x2, x3⟩ : W0.cell? ⟨w.heap.size, 0, none⟩ = some (.slice aa al ac) ∧ W0.cell? ⟨w.heap.size, 1, none⟩ = some (.int .i64 p) ∧ W0.cell? ⟨w.heap.size + 1, 0, none⟩ = some (.slice ba bl bc) ∧ W0.cell? ⟨w.heap.size + 1, 1, none⟩ = some (.int .i64 q) := ⟨hs0 0, hs0 1, hr0 0, hr0 1⟩
  have hzz : w.heap.size + 1 < W0.heap.size := by omega
  have HKB := Lib.hid (fun (W' : World) (hb : Below W0.heap.size W0 W') => hB0.trans (hb.mono hB0.size))
  have HKS := Lib.hid (show ∀ W' : World, Below W0.heap.size W0 W' → W'.cell? ⟨w.heap.size, 0, none⟩ = some (.slice aa al ac) ∧ W'.cell? ⟨w.heap.size, 1, none⟩ = some (.int .i64 p) ∧ W'.cell? ⟨w.heap.size + 1, 0, none⟩ = some (.slice ba bl bc) ∧ W'.cell? ⟨w.heap.size + 1, 1, none⟩ = some (.int .i64 q) from fun W' hb => ⟨(hb.cell (p := ⟨w.heap.size, 0, none⟩) (by show w.heap.size < _; omega)).trans x0, (hb.cell (p := ⟨w.heap.size, 1, none⟩) (by show w.heap.size < _; omega)).trans x1, (hb.cell (p := ⟨w.heap.size + 1, 0, none⟩) (by show w.heap.size + 1 < _; omega)).trans x2, (hb.cell (p := ⟨w.heap.size + 1, 1, none⟩) (by show w.heap.size + 1 < _; omega)).trans x3⟩)
  go_region_held3 (fun w' => w'.cell? ⟨w.heap.size, 0, none⟩ = some (.slice aa al ac) ∧ w'.cell? ⟨w.heap.size, 1, none⟩ = some (.int .i64 p) ∧ w'.cell? ⟨w.heap.size + 1, 0, none⟩ = some (.slice ba bl bc) ∧ w'.cell? ⟨w.heap.size + 1, 1, none⟩ = some (.int .i64 q))
    (first | with_reducible assumption | exact HKS.out _ (by repeat (first | exact Below.refl _ _ | (refine Below.alloc ?_ (by first | omega | (simp; omega) | simp) _) | (refine Below.setCell ?_ (by first | omega | (simp; omega) | simp) _) | refine Below.drew ?_)))
    (first
      | (go_at_call 110; with_reducible refine (HC.out _ _ _).mono ?_; rintro e w2 ⟨rfl, rfl⟩)
      | (go_at_call 111; with_reducible refine (HS.out _ ?_).mono ?_; (· exact HKB.out _ (by repeat (first | exact Below.refl _ _ | (refine Below.alloc ?_ (by first | omega | (simp; omega) | simp) _) | (refine Below.setCell ?_ (by first | omega | (simp; omega) | simp) _) | refine Below.drew ?_))); rintro e w2 ⟨rfl, rfl⟩)
      | (go_at_call 109; with_reducible refine (HO.out _ _ _ ?_).mono ?_; (· exact ints3 _ _ _ _ _ hz0); rintro e w2 ⟨rfl, rfl⟩))
  all_goals (go_wp2_with fail)
  all_goals (go_ret; exact ⟨ret_i64 HP.out, HKB.out _ (by repeat (first | exact Below.refl _ _ | (refine Below.alloc ?_ (by first | omega | (simp; omega) | simp) _) | (refine Below.setCell ?_ (by first | omega | (simp; omega) | simp) _) | refine Below.drew ?_))⟩)
end Go.Proofs.Ytedfdhpggghjeaa
