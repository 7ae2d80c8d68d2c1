/- Package flongs: what is left in each world that agrees. -/
import Derived.Test.YtigeiaiohdemiaaFD
import Derived.Maps.AppendAt
import Derived.Lib.SmallJoins
namespace Go.Proofs.Ytigeiaiohdemiaa
set_option linter.unusedVariables false
set_option linter.unusedSimpArgs false
open Go.RowKit

theorem grown_none {W W' : World} (h : Below W.heap.size W W') : W.grownBy W' none := ⟨h.os, h.tape, h.output, h.size, fun k hk _ => h.block k hk⟩
/-- How many casts are left of a mould in a world. -/
def cst (ms : List Mould) (x : List Int) (j : Nat) : Int := match ms[j]?, x[j]? with | some m, some n => n - m.u | _, _ => 0
def FShop.agreeing (s : FShop) : List (List Int) := s.worlds.filter (agreeB s.moulds)
/-- The first so many worlds, those that agree. -/
def FShop.agreeTo (s : FShop) (k : Nat) : List (List Int) := (s.worlds.take k).filter (agreeB s.moulds)
def FShop.left (s : FShop) : List (Nat → Int) := s.agreeing.map (cst s.moulds)
def cells5 (l : List (Nat → Int)) : List Value := l.flatMap fun c => [.int .i64 (c 0), .int .i64 (c 1), .int .i64 (c 2), .int .i64 (c 3), .int .i64 (c 4)]
theorem agreeTo_next (s : FShop) (k : Nat) (h : k < s.worlds.length) : s.agreeTo (k + 1) = s.agreeTo k ++ (if agreeB s.moulds s.worlds[k] then [s.worlds[k]] else []) := by
  unfold FShop.agreeTo
  rw [List.take_succ_eq_append_getElem h, List.filter_append]
  congr 1
  cases hb : agreeB s.moulds s.worlds[k] <;> simp [hb]
theorem agreeTo_all (s : FShop) (k : Nat) (h : s.worlds.length = k) : s.agreeTo k = s.agreeing := by
  unfold FShop.agreeTo FShop.agreeing
  rw [List.take_of_length_le (by omega)]
theorem agreeTo_few (s : FShop) (k : Nat) : (s.agreeTo k).length ≤ s.worlds.length :=
  Nat.le_trans (List.length_filter_le _ _) (by simp; omega)
theorem FShop.ok_few {s : FShop} (h : s.ok = true) : s.wants.length ≤ 3 ∧ s.moulds.length ≤ 5 ∧ s.worlds.length ≤ 6 := by
  simp only [FShop.ok, FShop.few, Bool.and_eq_true, decide_eq_true_eq] at h
  obtain ⟨⟨⟨⟨⟨⟨h1, h2⟩, h3⟩, -⟩, -⟩, -⟩, -⟩ := h
  exact ⟨h1, h2, h3⟩
theorem FShop.ok_mould {s : FShop} (h : s.ok = true) (k : Nat) (hk : k < s.moulds.length) : (0 ≤ s.moulds[k].p ∧ s.moulds[k].p ≤ (s.wants.length : Int) - 1) ∧ (0 ≤ s.moulds[k].u ∧ s.moulds[k].u ≤ 12) ∧ (0 ≤ s.moulds[k].b ∧ s.moulds[k].b ≤ 1) := by
  simp only [FShop.ok, Bool.and_eq_true] at h
  have := List.all_eq_true.1 h.1.1.2 _ (List.getElem_mem hk)
  simp only [mouldB, btw, Bool.and_eq_true, decide_eq_true_eq] at this
  exact ⟨this.1.1, this.1.2, this.2⟩
theorem FShop.ok_world {s : FShop} (h : s.ok = true) (k : Nat) (hk : k < s.worlds.length) : s.worlds[k].length = s.moulds.length ∧ ∀ j (hj : j < s.worlds[k].length), 0 ≤ s.worlds[k][j] ∧ s.worlds[k][j] ≤ 12 := by
  simp only [FShop.ok, Bool.and_eq_true] at h
  have := List.all_eq_true.1 h.1.2 _ (List.getElem_mem hk)
  simp only [worldB, Bool.and_eq_true, decide_eq_true_eq] at this
  refine ⟨this.1, fun j hj => ?_⟩
  have h2 := List.all_eq_true.1 this.2 _ (List.getElem_mem hj)
  simpa [btw] using h2
theorem FShop.ok_want {s : FShop} (h : s.ok = true) (k : Nat) (hk : k < s.wants.length) : 0 ≤ s.wants[k] ∧ s.wants[k] ≤ 12 := by
  simp only [FShop.ok, Bool.and_eq_true] at h
  have := List.all_eq_true.1 h.1.1.1.2 _ (List.getElem_mem hk)
  simpa [btw] using this
theorem cst_at {ms : List Mould} {x : List Int} {j : Nat} (h1 : j < ms.length) (h2 : j < x.length) : cst ms x j = x[j] - ms[j].u := by
  simp [cst, h1, h2]
theorem cst_out {ms : List Mould} {x : List Int} {j : Nat} (h1 : ms.length ≤ j) : cst ms x j = 0 := by
  simp [cst, h1]
theorem five_newF (w : World) (v0 v1 v2 v3 v4 : Value) (T : TypeId) : ∀ j u, [v0, v1, v2, v3, v4][j]? = some u → (w.alloc (.cells #[v0, v1, v2, v3, v4] T)).cell? ((⟨w.heap.size, 0, none⟩ : Addr).add j) = some u := fun j u h => by
  have e : (⟨w.heap.size, 0, none⟩ : Addr).add j = ⟨w.heap.size, j, none⟩ := by simp [Addr.add]; intro h; exact h.symm
  rw [e, World.cell?_alloc_new, ← h]; exact List.getElem?_toArray
theorem Try.info85 : (Try.prog.info? 85).map (fun i => (i.zero, i.size, i.bytes)) = some (some (.agg #[.int .i64 0, .int .i64 0, .int .i64 0, .int .i64 0, .int .i64 0]), 5, 40) := by kernel_rfl

theorem set_same {w : World} {a : Addr} {u v : Value} (h : w.cell? a = some u) : (w.setCell a v).cell? a = some v := World.cell?_setCell_same' w a v (by rw [h]; rfl)
theorem set_other {w : World} {a b : Addr} {v : Value} (h : a ≠ b) : (w.setCell a v).cell? b = w.cell? b := by rw [World.cell?_setCell_other]; exact h
/-- One more cell of the five is written. -/
theorem five_step {wr : World} {g j : Nat} {v0 x : Int} (f : Nat → Int) (o : Obj) (hg : g < wr.heap.size) (hc : wr.cell? ⟨g, j, none⟩ = some (.int .i64 v0)) (hx : x = f j)
    (h : ∀ t, t < 5 → wr.cell? ⟨g, t, none⟩ = some (.int .i64 (if t < j then f t else 0))) (t : Nat) (ht : t < 5) : (((wr.setCell ⟨g, j, none⟩ (.int .i64 x)).alloc o).drew).cell? ⟨g, t, none⟩ = some (.int .i64 (if t < j + 1 then f t else 0)) := by
  show ((wr.setCell ⟨g, j, none⟩ (.int .i64 x)).alloc o).cell? ⟨g, t, none⟩ = _
  rw [World.cell?_of_block (Below.heap_alloc _ _ _ (by simpa using hg))]
  by_cases e : t = j
  · subst e
    rw [set_same hc, hx, if_pos (by omega)]
  · rw [set_other (by intro h; injection h with _ h2; exact e h2.symm), h t ht]
    by_cases h1 : t < j
    · rw [if_pos h1, if_pos (by omega)]
    · rw [if_neg h1, if_neg (by omega)]
theorem name1f (w : World) (ds : Array Value) (U : TypeId) :
    ∃ W0, w.alloc (.cells ds U) = W0 ∧ Below w.heap.size w W0 ∧ (∀ i, W0.cell? ⟨w.heap.size, i, none⟩ = ds[i]?) ∧ (∀ i, W0.frozen? ⟨w.heap.size, i, none⟩ = false) ∧ w.heap.size < W0.heap.size :=
  ⟨_, rfl, (by repeat (first | exact Below.refl _ _ | (refine Below.alloc ?_ (by first | omega | (simp; omega) | simp) _) | (refine Below.setCell ?_ (by first | omega | (simp; omega) | simp) _) | refine Below.drew ?_)), fun i => World.cell?_alloc_new w _ _ i, fun i => by go_simp, by simp⟩

theorem own_slice {w : World} {n0 n k : Nat} {e : TypeId} {v : Value} {xs : List Value} (h : w.ownsRow n0 e k v n xs) : ∃ la lc, v = .slice la n lc := by
  rcases h.2 with ⟨rfl, rfl⟩ | ⟨g, cap, cur, rfl, _⟩
  · exact ⟨none, 0, rfl⟩
  · exact ⟨_, _, rfl⟩
theorem own_ge {w : World} {n0 len k sz : Nat} {e : TypeId} {v : Value} {xs : List Value} (h : w.ownsRow n0 e sz v len xs) (hk : k < n0) : v.ownBlock ≠ some k := by
  rcases h.2 with ⟨rfl, _⟩ | ⟨g, cap, cur, rfl, hg, _⟩
  · simp [Value.ownBlock]
  · simp [Value.ownBlock]; omega

set_option maxRecDepth 100000 in
set_option maxHeartbeats 4000000 in
theorem lefts_any (s : FShop) (ma : Option Addr) (ml mc : Nat) (wa : Option Addr) (wl wc : Nat) (na : Option Addr) (nl nc : Nat) (w : World) (hp : FAt w ma ml mc wa wl wc na nl nc s) (ho : s.ok = true) :
    Calls Try.prog 99 #[.agg #[.slice ma ml mc, .slice wa wl wc, .slice na nl nc, .int .i64 s.fresh]] w fun e w' => ∃ v, e = .returned v ∧ w'.ownsRow w.heap.size 85 5 v s.left.length (cells5 s.left) ∧ Below w.heap.size w w' := by
  obtain ⟨i0, hi0, hy0, hy1, hy2⟩ := info_parts Try.info85
  have hfew := FShop.ok_few ho
  have HAG := Lib.hid (fun W (hb : Below w.heap.size w W) xa xc x b (h : agreeB s.moulds x = b) (hx : IntsAt W xa ml x) => agrees_is s ma ml mc wa wl wc na nl nc xa xc x b h W (hp.below hb).1 hx)
  have HOW := Lib.hid (fun k hk => FShop.ok_world ho k hk)
  have HOM := Lib.hid (fun k hk => (FShop.ok_mould ho k hk).2.1)
  have HNX := Lib.hid (fun k hk => agreeTo_next s k hk)
  have HAA := Lib.hid (fun k hk => agreeTo_all s k hk)
  have HAF := Lib.hid (fun k => agreeTo_few s k)
  obtain ⟨⟨hml, hmm, hmc⟩, ⟨hwl, hwm, hwc⟩, -⟩ := hp
  have hm5 : ml ≤ 5 := by omega
  have hw6 : wl ≤ 6 := by omega
  have HML := Lib.hid hml
  have HWL := Lib.hid hwl
  have HMC := Lib.hid hmc
  have HWC := Lib.hid hwc
  clear hml hwl hmc hwc hmm hwm hfew ho
  go_enter Try.func99, Try.ntmps99
  go_wp2_with fail
  obtain ⟨W0, hW0, hB0, hs0, hz0⟩ := name1k w #[.slice ma ml mc, .slice wa wl wc, .slice na nl nc, .int .i64 s.fresh] 77
  rw [hW0]
  clear hW0
  have HB0 := Lib.hid hB0
  have HS0 := Lib.hid hs0
  clear hB0 hs0
  go_loopw [3, 13] (fun v i wr => ∃ k : Nat, k ≤ wl ∧ i = .int .i64 k ∧ wr.ownsRow W0.heap.size 85 5 v (s.agreeTo k).length (cells5 ((s.agreeTo k).map (cst s.moulds))) ∧ Below W0.heap.size W0 wr) (fun _ i _ => wl - (intOf i).toNat)
  case atStart => exact ⟨0, by omega, rfl, World.ownsRow_nil _ _ _ _, Below.refl _ _⟩
  case round =>
    obtain ⟨k, hk, rfl, hrow, hB⟩ := hrel
    have HROW := Lib.hid hrow
    have HB := Lib.hid hB
    clear hrow
    obtain ⟨W1, rfl⟩ : ∃ W1 : World, W1 = wr := ⟨_, rfl⟩
    by_cases hlt : k < wl
    · have hk2 : k < s.worlds.length := by rw [HWL.out]; exact hlt
      obtain ⟨b, o, rfl, hbB, hcell⟩ := HWC.out (by omega)
      obtain ⟨ra, rl, rc, hcc, hii⟩ := hcell k hk2
      have hcx := (hB.cell (p := ⟨b, o + k, none⟩) (show b < W0.heap.size by omega)).trans ((HB0.out.cell (p := ⟨b, o + k, none⟩) hbB).trans hcc)
      obtain ⟨hrl, hrb⟩ := HOW.out k hk2
      obtain rfl : ml = rl := by rw [← HML.out, ← hii.1]; exact hrl.symm
      have hkl : (k : Int) < (wl : Int) := by omega
      have hk0 : (0 : Int) ≤ (k : Int) := by omega
      have HII := Lib.hid ((hii.below HB0.out).below hB)
      have HRB := Lib.hid hrb
      have HNX1 := Lib.hid (HNX.out k hk2)
      have hlen : (s.agreeTo k).length ≤ 6 := by have := HAF.out k; rw [HWL.out] at this; omega
      have hzr := hB.size
      have hbx := fun i => (hB.cell (p := ⟨w.heap.size, i, none⟩) hz0).trans (HS0.out i)
      obtain ⟨x0, x1, x2, x3⟩ : W1.cell? ⟨w.heap.size, 0, none⟩ = some (.slice ma ml mc) ∧ W1.cell? ⟨w.heap.size, 1, none⟩ = some (.slice (some ⟨b, o, none⟩) wl wc) ∧ W1.cell? ⟨w.heap.size, 2, none⟩ = some (.slice na nl nc) ∧ W1.cell? ⟨w.heap.size, 3, none⟩ = some (.int .i64 s.fresh) := ⟨hbx 0, hbx 1, hbx 2, hbx 3⟩
      clear hbx hB hcell hcc hii hrb
      rcases hag : agreeB s.moulds s.worlds[k] with - | -
      · have HA := Lib.hid (HAG.out W1 (HB0.out.trans (HB.out.mono HB0.out.size)) ra rc _ _ hag HII.out)
        have HN := Lib.hid (HNX1.out.trans (show _ = s.agreeTo k by rw [hag]; simp))
        clear hag
        go_wp2_with fail
        refine HA.out.mono ?_
        rintro e w1 ⟨rfl, hb1⟩
        have HB1 := Lib.hid (HB.out.trans (hb1.mono hzr))
        have HROW1 := Lib.hid (HROW.out.kept (grown_none hb1) (Classical.em _))
        clear hb1
        go_wp2_with fail
        go_roundw
        case rel => exact ⟨k + 1, by omega, by go_num, by rw [HN.out]; exact HROW1.out, HB1.out⟩
        case measure => simp [intOf]; omega
      · have HA := Lib.hid (HAG.out W1 (HB0.out.trans (HB.out.mono HB0.out.size)) ra rc _ _ hag HII.out)
        have HN := Lib.hid (HNX1.out.trans (show _ = s.agreeTo k ++ [s.worlds[k]] by rw [hag]; simp))
        clear hag
        go_wp2_with fail
        refine HA.out.mono ?_
        rintro e w1 ⟨rfl, hb1⟩
        have HB1 := Lib.hid (HB.out.trans (hb1.mono hzr))
        have HROW1 := Lib.hid (HROW.out.kept (grown_none hb1) (Classical.em _))
        have hz1 := hb1.size
        have zs : w.heap.size < w1.heap.size := by omega
        have hby := fun {i v} (h : W1.cell? ⟨w.heap.size, i, none⟩ = some v) => (hb1.cell (p := ⟨w.heap.size, i, none⟩) (show w.heap.size < W1.heap.size by omega)).trans h
        obtain ⟨y0, y1, y2, y3⟩ : w1.cell? ⟨w.heap.size, 0, none⟩ = some (.slice ma ml mc) ∧ w1.cell? ⟨w.heap.size, 1, none⟩ = some (.slice (some ⟨b, o, none⟩) wl wc) ∧ w1.cell? ⟨w.heap.size, 2, none⟩ = some (.slice na nl nc) ∧ w1.cell? ⟨w.heap.size, 3, none⟩ = some (.int .i64 s.fresh) := ⟨hby x0, hby x1, hby x2, hby x3⟩
        have HII1 := Lib.hid (HII.out.below hb1)
        clear hb1 hby x0 x1 x2 x3 hcx
        generalize hX : s.worlds[k] = X at *
        go_wp2_with fail
        obtain ⟨W2, hW2, hB2, hg2, hgf2, hz2⟩ := name1f w1 #[.int .i64 0, .int .i64 0, .int .i64 0, .int .i64 0, .int .i64 0] 85
        rw [hW2]
        clear hW2
        obtain ⟨g, hg⟩ : ∃ g, g = w1.heap.size := ⟨_, rfl⟩
        rw [← hg]
        rw [← hg] at hg2 hgf2 hz2 hB2
        have HB2 := Lib.hid hB2
        have HG := Lib.hid hg
        have hgs : w.heap.size < g := by omega
        have hg0 : W0.heap.size ≤ g := by omega
        clear hB2 hg
        go_loopw [25] (fun i wi => ∃ j : Nat, j ≤ ml ∧ i = .int .i64 j ∧ (∀ t, t < 5 → wi.cell? ⟨g, t, none⟩ = some (.int .i64 (if t < j then cst s.moulds X t else 0))) ∧ (∀ t, wi.frozen? ⟨g, t, none⟩ = false) ∧ g < wi.heap.size ∧ Below g w1 wi) (fun i _ => ml - (intOf i).toNat)
        case atStart =>
          refine ⟨0, by omega, rfl, fun t ht => ?_, hgf2, hz2, HB2.out⟩
          rw [hg2 t]
          have : t = 0 ∨ t = 1 ∨ t = 2 ∨ t = 3 ∨ t = 4 := by omega
          rcases this with rfl | rfl | rfl | rfl | rfl <;> simp
        case round =>
          clear hg2 hgf2
          obtain ⟨j, hj, rfl, hcel, hfz, hzi, hBi⟩ := hrel
          have HCEL := Lib.hid hcel
          have HFZ := Lib.hid hfz
          have HBi := Lib.hid hBi
          clear hcel hfz
          by_cases hjl : j < ml
          · have hj2 : j < s.moulds.length := by rw [HML.out]; exact hjl
            have hj3 : j < X.length := by rw [HII1.out.1]; exact hjl
            obtain ⟨bm, om, rfl, hbm, hcm⟩ := HMC.out (by omega)
            obtain ⟨br, orr, rfl, hbr, hcr⟩ := HII1.out.2.2 (by omega)
            have hbmg : bm < g := by omega
            have hbrg : br < g := by rw [HG.out]; exact hbr
            have hBa := HB0.out.trans ((HB1.out.trans (hBi.mono hg0 : Below W0.heap.size w1 wr)).mono HB0.out.size)
            obtain ⟨c0, c1, c2⟩ := Mould.at_below hBa hbm (hcm j hj2)
            have hcx := (hBi.cell (p := ⟨br, orr + j, none⟩) hbrg).trans (hcr j hj3)
            obtain ⟨v0, hcg⟩ : ∃ v0, wr.cell? ⟨g, j, none⟩ = some (.int .i64 v0) := ⟨_, HCEL.out j (by omega)⟩
            have hfg := HFZ.out j
            have hjl' : (j : Int) < (ml : Int) := by omega
            have hj5 : (j : Int) < 5 := by omega
            have hj0 : (0 : Int) ≤ (j : Int) := by omega
            have hbm1 : bm < wr.heap.size := by omega
            have hbr1 : br < wr.heap.size := by omega
            obtain ⟨u1, u2⟩ := HOM.out j hj2
            obtain ⟨u3, u4⟩ := HRB.out j hj3
            have HCS := Lib.hid (cst_at hj2 hj3)
            clear hBi hBa hcm hcr
            go_wp2_with fail
            go_region
            go_wp2_with fail
            go_roundw
            case rel =>
              refine ⟨j + 1, by omega, by go_num, five_step (cst s.moulds X) _ hzi hcg HCS.out.symm HCEL.out, fun t => ?_, by simp; omega, ?_⟩
              · go_simp; exact HFZ.out t
              · exact Below.drew (Below.alloc (Below.setCell HBi.out (by exact Nat.le_refl _) _) (by simp; omega) _)
            case measure => simp [intOf]; omega
          · obtain rfl : ml = j := by omega
            have hd : ∀ t, t < 5 → wr.cell? ⟨g, t, none⟩ = some (.int .i64 (cst s.moulds X t)) := fun t ht => by
              rw [HCEL.out t ht]
              by_cases h1 : t < ml
              · rw [if_pos h1]
              · rw [if_neg h1, cst_out (by rw [HML.out]; omega)]
            have d0 := hd 0 (by omega)
            have d1 := hd 1 (by omega)
            have d2 := hd 2 (by omega)
            have d3 := hd 3 (by omega)
            have d4 := hd 4 (by omega)
            have HBk := Lib.hid (HB1.out.trans (hBi.mono hg0))
            have hrm := HROW1.out.kept (grown_none (show Below w1.heap.size w1 wr by rw [← HG.out]; exact hBi)) (Classical.em _)
            have HRM := Lib.hid hrm
            clear hd hBi hrm
            go_wp2_with (at_builtin; refine wpList_append_own _ rfl _ _ 80 rfl W0.heap.size 85 i0 (.agg #[.int .i64 0, .int .i64 0, .int .i64 0, .int .i64 0, .int .i64 0]) 5 40 Try.underlying80 hi0 hy0 hy1 hy2 rfl (by decide) _ _ _ rfl (HRM.out.alloc _) ⟨wr.heap.size, 0, none⟩ 1 1 [.int .i64 (cst s.moulds X 0), .int .i64 (cst s.moulds X 1), .int .i64 (cst s.moulds X 2), .int .i64 (cst s.moulds X 3), .int .i64 (cst s.moulds X 4)] rfl rfl (five_newF _ _ _ _ _ _ _) (by simp [Value.oneCell']) (by unfold maxLen; omega) (by omega) (by simp; omega) ?_; intro v' w5 hown' hgrow _; have HO5 := Lib.hid hown'; have HG5 := Lib.hid hgrow; clear hown' hgrow)
            go_roundw
            case rel =>
              refine ⟨k + 1, by omega, by go_num, by rw [HN.out]; simpa [cells5] using HO5.out, ?_⟩
              refine Below.grown (HBk.out.alloc HBk.out.size _) HG5.out (by simp; omega) (fun r hr => ?_)
              rcases Nat.lt_or_ge r W0.heap.size with h | h
              · exact absurd hr (own_ge HRM.out h)
              · exact h
            case measure => simp [intOf]; omega
    · obtain rfl : wl = k := by omega
      have HBW := Lib.hid (HB0.out.trans (HB.out.mono HB0.out.size))
      have HR := Lib.hid (HAA.out wl HWL.out)
      clear hB
      go_wp2_with fail
      go_ret
      refine ⟨_, rfl, ?_, HBW.out⟩
      have h := Go.Joins.ownsRow_le HROW.out HB0.out.size
      rw [HR.out] at h
      simpa [FShop.left] using h

/-- What a question is answered with that needs a world that agrees. -/
def FShop.ask (s : FShop) (r : Bool) : Int := if s.ok then (if r then (if s.left.length = 0 then 3 else 0) else 1) else 20
set_option maxHeartbeats 1000000 in
theorem asked_no (s : FShop) (ma : Option Addr) (ml mc : Nat) (wa : Option Addr) (wl wc : Nat) (na : Option Addr) (nl nc : Nat) (r : Bool) (v : Int) (hv : s.ask r = v) (h0 : v ≠ 0) (w : World) (hp : FAt w ma ml mc wa wl wc na nl nc s) :
    Calls Try.prog 72 #[.agg #[.slice ma ml mc, .slice wa wl wc, .slice na nl nc, .int .i64 s.fresh], .bool r] w fun e w' => e = .returned (.tuple #[.slice none 0 0, .int .i64 v]) ∧ Below w.heap.size w w' := by
  have HNM := Lib.hid (fun v (h : s.name r = v) w1 (hb : Below w.heap.size w w1) => named_is s ma ml mc wa wl wc na nl nc r v h w1 (hp.below hb))
  unfold FShop.ask at hv
  rcases ho : s.ok with - | -
  · rw [ho] at hv
    obtain rfl : 20 = v := by simpa using hv
    have HN := Lib.hid (HNM.out 20 (by simp [FShop.name, ho]))
    clear hp hv ho HNM
    go_enter Try.func72, Try.ntmps72
    go_wp2_with fail
    refine (HN.out _ (by repeat (first | exact Below.refl _ _ | (refine Below.alloc ?_ (by first | omega | (simp; omega) | simp) _) | (refine Below.setCell ?_ (by first | omega | (simp; omega) | simp) _) | refine Below.drew ?_))).mono ?_
    rintro e w1 ⟨rfl, hb1⟩
    have HB := Lib.hid hb1; clear hb1
    go_wp2_with fail
    go_ret2
    exact ⟨rfl, (by repeat (first | exact Below.refl _ _ | (refine Below.alloc ?_ (by first | omega | (simp; omega) | simp) _) | (refine Below.setCell ?_ (by first | omega | (simp; omega) | simp) _) | refine Below.drew ?_ | (refine below_via (by assumption) (by first | omega | (simp; omega) | simp) ?_)))⟩
  · rw [ho] at hv
    cases r
    · obtain rfl : 1 = v := by simpa using hv
      have HN := Lib.hid (HNM.out 1 (by simp [FShop.name, ho]))
      clear hp hv ho HNM
      go_enter Try.func72, Try.ntmps72
      go_wp2_with fail
      refine (HN.out _ (by repeat (first | exact Below.refl _ _ | (refine Below.alloc ?_ (by first | omega | (simp; omega) | simp) _) | (refine Below.setCell ?_ (by first | omega | (simp; omega) | simp) _) | refine Below.drew ?_))).mono ?_
      rintro e w1 ⟨rfl, hb1⟩
      have HB := Lib.hid hb1; clear hb1
      go_wp2_with fail
      go_ret2
      exact ⟨rfl, (by repeat (first | exact Below.refl _ _ | (refine Below.alloc ?_ (by first | omega | (simp; omega) | simp) _) | (refine Below.setCell ?_ (by first | omega | (simp; omega) | simp) _) | refine Below.drew ?_ | (refine below_via (by assumption) (by first | omega | (simp; omega) | simp) ?_)))⟩
    · have hl0 : s.left.length = 0 := by
        by_cases h : s.left.length = 0
        · exact h
        · simp [h] at hv; omega
      obtain rfl : 3 = v := by simpa [hl0] using hv
      have HN := Lib.hid (HNM.out 0 (by simp [FShop.name, ho]))
      have HL := Lib.hid (fun w1 (hb : Below w.heap.size w w1) => lefts_any s ma ml mc wa wl wc na nl nc w1 (hp.below hb) ho)
      have hl0' : (s.left.length : Int) = 0 := by omega
      clear hp hv ho HNM
      go_enter Try.func72, Try.ntmps72
      go_wp2_with fail
      refine (HN.out _ (by repeat (first | exact Below.refl _ _ | (refine Below.alloc ?_ (by first | omega | (simp; omega) | simp) _) | (refine Below.setCell ?_ (by first | omega | (simp; omega) | simp) _) | refine Below.drew ?_))).mono ?_
      rintro e w1 ⟨rfl, hb1⟩
      obtain ⟨hc1, hf1⟩ := bcell hb1
      have hz1 := hb1.size
      simp at hz1
      have hw1 := ((by repeat (first | exact Below.refl _ _ | (refine Below.alloc ?_ (by first | omega | (simp; omega) | simp) _) | (refine Below.setCell ?_ (by first | omega | (simp; omega) | simp) _) | refine Below.drew ?_)) : Below w.heap.size w _).trans (hb1.mono (by first | (simp; done) | (simp; omega) | omega))
      have q1 : w.heap.size < w1.heap.size := by omega
      clear hb1
      go_wp2_with fail
      refine (HL.out _ hw1).mono ?_
      rintro e w2 ⟨v2, rfl, hown, hb2⟩
      have HB := Lib.hid (hw1.trans (hb2.mono hw1.size))
      obtain ⟨la, lc, rfl⟩ := own_slice hown
      clear hb2 hown
      go_wp2_with fail
      go_ret2
      exact ⟨rfl, HB.out⟩
set_option maxHeartbeats 1000000 in
theorem asked_yes (s : FShop) (ma : Option Addr) (ml mc : Nat) (wa : Option Addr) (wl wc : Nat) (na : Option Addr) (nl nc : Nat) (w : World) (hp : FAt w ma ml mc wa wl wc na nl nc s) (ho : s.ok = true) (hl0 : 0 < s.left.length) :
    Calls Try.prog 72 #[.agg #[.slice ma ml mc, .slice wa wl wc, .slice na nl nc, .int .i64 s.fresh], .bool true] w fun e w' => ∃ v, e = .returned (.tuple #[v, .int .i64 0]) ∧ w'.ownsRow w.heap.size 85 5 v s.left.length (cells5 s.left) ∧ Below w.heap.size w w' := by
  have HN := Lib.hid (fun w1 (hb : Below w.heap.size w w1) => named_is s ma ml mc wa wl wc na nl nc true 0 (by simp [FShop.name, ho]) w1 (hp.below hb))
  have HL := Lib.hid (fun w1 (hb : Below w.heap.size w w1) => lefts_any s ma ml mc wa wl wc na nl nc w1 (hp.below hb) ho)
  have hl0' : ¬ (s.left.length : Int) = 0 := by omega
  clear hp ho
  go_enter Try.func72, Try.ntmps72
  go_wp2_with fail
  refine (HN.out _ (by repeat (first | exact Below.refl _ _ | (refine Below.alloc ?_ (by first | omega | (simp; omega) | simp) _) | (refine Below.setCell ?_ (by first | omega | (simp; omega) | simp) _) | refine Below.drew ?_))).mono ?_
  rintro e w1 ⟨rfl, hb1⟩
  obtain ⟨hc1, hf1⟩ := bcell hb1
  have hz1 := hb1.size
  simp at hz1
  have hw1 := ((by repeat (first | exact Below.refl _ _ | (refine Below.alloc ?_ (by first | omega | (simp; omega) | simp) _) | (refine Below.setCell ?_ (by first | omega | (simp; omega) | simp) _) | refine Below.drew ?_)) : Below w.heap.size w _).trans (hb1.mono (by first | (simp; done) | (simp; omega) | omega))
  have q1 : w.heap.size < w1.heap.size := by omega
  clear hb1
  go_wp2_with fail
  refine (HL.out _ hw1).mono ?_
  rintro e w2 ⟨v2, rfl, hown, hb2⟩
  have HB := Lib.hid (hw1.trans (hb2.mono hw1.size))
  have HO := Lib.hid (Go.Joins.ownsRow_le hown hw1.size)
  obtain ⟨la, lc, rfl⟩ := own_slice hown
  clear hb2 hown
  go_wp2_with fail
  go_ret2
  exact ⟨_, rfl, HO.out, HB.out⟩
end Go.Proofs.Ytigeiaiohdemiaa
