/- Package flongs: valid, Check. -/
import Derived.Test.YtigeiaiohdemiaaFA
namespace Go.Proofs.Ytigeiaiohdemiaa
set_option linter.unusedVariables false
set_option linter.unusedSimpArgs false
open Go.RowKit

theorem name1k (w : World) (ds : Array Value) (U : TypeId) :
    ∃ W0, w.alloc (.cells ds U) = W0 ∧ Below w.heap.size w W0 ∧ (∀ i, W0.cell? ⟨w.heap.size, i, none⟩ = ds[i]?) ∧ w.heap.size < W0.heap.size :=
  ⟨_, rfl, (by repeat (first | exact Below.refl _ _ | (refine Below.alloc ?_ (by first | omega | (simp; omega) | simp) _) | (refine Below.setCell ?_ (by first | omega | (simp; omega) | simp) _) | refine Below.drew ?_)), fun i => World.cell?_alloc_new w _ _ i, by simp⟩
theorem all_next {α : Type} {f : α → Bool} {x : List α} {k : Nat} (h : (x.take k).all f = true) (hk : k < x.length) : (x.take (k + 1)).all f = f x[k] := by
  rw [List.take_succ_eq_append_getElem hk, List.all_append, h]; simp
theorem all_no {α : Type} {f : α → Bool} {x : List α} {k : Nat} (hk : k < x.length) (h : f x[k] = false) : x.all f = false :=
  List.all_eq_false.2 ⟨x[k], List.getElem_mem hk, by simp [h]⟩
theorem all_done {α : Type} {f : α → Bool} {x : List α} {n : Nat} (h : (x.take n).all f = true) (hn : x.length = n) : x.all f = true := by
  rwa [List.take_of_length_le (by omega)] at h

set_option maxRecDepth 100000 in
set_option maxHeartbeats 1000000 in
theorem valid_many (s : FShop) (ma : Option Addr) (ml mc : Nat) (wa : Option Addr) (wl wc : Nat) (na : Option Addr) (nl nc : Nat) (w : World) (hp : FAt w ma ml mc wa wl wc na nl nc s) (hf : s.few = false) :
    Calls Try.prog 86 #[.agg #[.slice ma ml mc, .slice wa wl wc, .slice na nl nc, .int .i64 s.fresh]] w fun e w' => e = .returned (.bool s.ok) ∧ Below w.heap.size w w' := by
  have HS := Lib.hid (show s.ok = false by simp [FShop.ok, hf])
  obtain ⟨⟨h1, -⟩, ⟨h2, -⟩, ⟨h3, -⟩⟩ := hp
  rcases Nat.lt_or_ge 3 nl with k1 | k1
  · have j1 : (3 : Int) < (nl : Int) := by omega
    clear h1 h2 h3 hf
    go_enter Try.func86, Try.ntmps86
    go_wp2_with fail
    go_ret
    exact ⟨ret_bool HS.out.symm, (by repeat (first | exact Below.refl _ _ | (refine Below.alloc ?_ (by first | omega | (simp; omega) | simp) _) | (refine Below.setCell ?_ (by first | omega | (simp; omega) | simp) _) | refine Below.drew ?_))⟩
  rcases Nat.lt_or_ge 5 ml with k2 | k2
  · have j1 : ¬ (3 : Int) < (nl : Int) := by omega
    have j2 : (5 : Int) < (ml : Int) := by omega
    clear h1 h2 h3 hf
    go_enter Try.func86, Try.ntmps86
    go_wp2_with fail
    go_ret
    exact ⟨ret_bool HS.out.symm, (by repeat (first | exact Below.refl _ _ | (refine Below.alloc ?_ (by first | omega | (simp; omega) | simp) _) | (refine Below.setCell ?_ (by first | omega | (simp; omega) | simp) _) | refine Below.drew ?_))⟩
  rcases Nat.lt_or_ge 6 wl with k3 | k3
  · have j1 : ¬ (3 : Int) < (nl : Int) := by omega
    have j2 : ¬ (5 : Int) < (ml : Int) := by omega
    have j3 : (6 : Int) < (wl : Int) := by omega
    clear h1 h2 h3 hf
    go_enter Try.func86, Try.ntmps86
    go_wp2_with fail
    go_ret
    exact ⟨ret_bool HS.out.symm, (by repeat (first | exact Below.refl _ _ | (refine Below.alloc ?_ (by first | omega | (simp; omega) | simp) _) | (refine Below.setCell ?_ (by first | omega | (simp; omega) | simp) _) | refine Below.drew ?_))⟩
  · exfalso
    rw [FShop.few, h1, h2, h3] at hf
    simp at hf
    omega

set_option maxRecDepth 100000 in
set_option maxHeartbeats 4000000 in
theorem valid_few (s : FShop) (ma : Option Addr) (ml mc : Nat) (wa : Option Addr) (wl wc : Nat) (na : Option Addr) (nl nc : Nat) (w : World) (hp : FAt w ma ml mc wa wl wc na nl nc s) (hf : s.few = true) :
    Calls Try.prog 86 #[.agg #[.slice ma ml mc, .slice wa wl wc, .slice na nl nc, .int .i64 s.fresh]] w fun e w' => e = .returned (.bool s.ok) ∧ Below w.heap.size w w' := by
  obtain ⟨⟨hml, hmm, hmc⟩, ⟨hwl, hwm, hwc⟩, ⟨hnl, hnm, hnc⟩⟩ := hp
  have hfew := hf
  rw [FShop.few, hml, hwl, hnl] at hfew
  simp only [Bool.and_eq_true, decide_eq_true_eq] at hfew
  obtain ⟨⟨b1, b2⟩, b3⟩ := hfew
  have j1 : ¬ (3 : Int) < (nl : Int) := by omega
  have j2 : ¬ (5 : Int) < (ml : Int) := by omega
  have j3 : ¬ (6 : Int) < (wl : Int) := by omega
  have HO := Lib.hid (show s.ok = (s.wants.all (fun v => btw v 0 12) && s.moulds.all (mouldB nl) && s.worlds.all (worldB ml) && btw s.fresh 1 12) by rw [FShop.ok, hf, hnl, hml]; simp)
  have HVM := Lib.hid (fun m b (h : mouldB nl m = b) w1 => validMould_is s ma ml mc wa wl wc na nl nc m w1 hnm b h)
  have HVW := Lib.hid (fun xa xl xc x w1 (hx : IntsAt w1 xa xl x) b (h : worldB ml x = b) => validWorld_is s ma ml mc wa wl wc na nl nc xa xl xc x w1 hx b h)
  have HML := Lib.hid hml
  have HWL := Lib.hid hwl
  have HNL := Lib.hid hnl
  have HMC := Lib.hid hmc
  have HWC := Lib.hid hwc
  have HNC := Lib.hid hnc
  clear hml hwl hnl hmc hwc hnc hmm hwm hnm hf
  go_enter Try.func86, Try.ntmps86
  go_wp2_with fail
  obtain ⟨W0, hW0, hB0, hs0, hz0⟩ := name1k w #[.slice ma ml mc, .slice wa wl wc, .slice na nl nc, .int .i64 s.fresh] 77
  rw [hW0]
  clear hW0
  have HB0 := Lib.hid hB0
  have HS0 := Lib.hid hs0
  clear hB0 hs0
  go_loopw [32] (fun i wr => ∃ k : Nat, k ≤ nl ∧ i = .int .i64 k ∧ ((s.wants.take k).all fun v => btw v 0 12) = true ∧ Below W0.heap.size W0 wr) (fun i _ => nl - (intOf i).toNat)
  case atStart => exact ⟨0, by omega, rfl, by simp, Below.refl _ _⟩
  case round =>
    obtain ⟨k, hk, rfl, hall, hB⟩ := hrel
    have HALL := Lib.hid hall
    clear hall
    have HB := Lib.hid hB
    have hbx := fun i => (hB.cell (p := ⟨w.heap.size, i, none⟩) hz0).trans (HS0.out i)
    obtain ⟨x0, x1, x2, x3⟩ : wr.cell? ⟨w.heap.size, 0, none⟩ = some (.slice ma ml mc) ∧ wr.cell? ⟨w.heap.size, 1, none⟩ = some (.slice wa wl wc) ∧ wr.cell? ⟨w.heap.size, 2, none⟩ = some (.slice na nl nc) ∧ wr.cell? ⟨w.heap.size, 3, none⟩ = some (.int .i64 s.fresh) := ⟨hbx 0, hbx 1, hbx 2, hbx 3⟩
    clear hbx
    by_cases hlt : k < nl
    · have hk2 : k < s.wants.length := by rw [HNL.out]; exact hlt
      obtain ⟨b, o, rfl, hbB, hcell⟩ := HNC.out (by omega)
      have hcx := (hB.cell (p := ⟨b, o + k, none⟩) (show b < W0.heap.size by omega)).trans ((HB0.out.cell (p := ⟨b, o + k, none⟩) hbB).trans (hcell k hk2))
      have hkl : (k : Int) < (nl : Int) := by omega
      have hk0 : (0 : Int) ≤ (k : Int) := by omega
      have HN := Lib.hid (all_next HALL.out hk2)
      have HX := Lib.hid (fun h => all_no (f := fun v => btw v 0 12) hk2 h)
      clear hB hcell
      rcases hb : btw s.wants[k] 0 12 with - | -
      · have HR := Lib.hid (show s.ok = false by rw [HO.out, HX.out hb]; simp)
        have HBT := Lib.hid (between_is _ _ _ _ hb)
        clear hb HX HN
        generalize s.wants[k] = n at *
        go_wp2_with fail
        refine (HBT.out _).mono ?_
        rintro e w1 ⟨rfl, rfl⟩
        go_wp2_with fail
        go_ret
        exact ⟨ret_bool HR.out.symm, HB0.out.trans (HB.out.mono HB0.out.size)⟩
      · rw [hb] at HN
        have HBT := Lib.hid (between_is _ _ _ _ hb)
        clear hb HX
        generalize s.wants[k] = n at *
        go_wp2_with fail
        refine (HBT.out _).mono ?_
        rintro e w1 ⟨rfl, rfl⟩
        go_wp2_with fail
        go_roundw
        case rel => exact ⟨k + 1, by omega, by go_num, HN.out, HB.out⟩
        case measure => simp [intOf]; omega
    · obtain rfl : nl = k := by omega
      have H1 := Lib.hid (all_done HALL.out HNL.out)
      have hB' := HB.out
      clear hB HALL HB
      go_wp2_with fail
      clear x0 x1 x2 x3 hlt hk
      obtain ⟨W1, hW1⟩ : ∃ W1 : World, W1 = wr := ⟨_, rfl⟩
      go_loopw [44] (fun i wr => ∃ k : Nat, k ≤ ml ∧ i = .int .i64 k ∧ (s.moulds.take k).all (mouldB nl) = true ∧ Below W0.heap.size W0 wr) (fun i _ => ml - (intOf i).toNat)
      case atStart => exact ⟨0, by omega, rfl, by simp, hB'⟩
      case round =>
        clear hW1 W1 hB'
        obtain ⟨k, hk, rfl, hall, hB⟩ := hrel
        have HALL := Lib.hid hall
        clear hall
        have HB := Lib.hid hB
        have hbx := fun i => (hB.cell (p := ⟨w.heap.size, i, none⟩) hz0).trans (HS0.out i)
        obtain ⟨x0, x1, x2, x3⟩ : wr.cell? ⟨w.heap.size, 0, none⟩ = some (.slice ma ml mc) ∧ wr.cell? ⟨w.heap.size, 1, none⟩ = some (.slice wa wl wc) ∧ wr.cell? ⟨w.heap.size, 2, none⟩ = some (.slice na nl nc) ∧ wr.cell? ⟨w.heap.size, 3, none⟩ = some (.int .i64 s.fresh) := ⟨hbx 0, hbx 1, hbx 2, hbx 3⟩
        have zr : w.heap.size < wr.heap.size := by have := hB.size; omega
        clear hbx
        by_cases hlt : k < ml
        · have hk2 : k < s.moulds.length := by rw [HML.out]; exact hlt
          obtain ⟨b, o, rfl, hbB, hcell⟩ := HMC.out (by omega)
          obtain ⟨c0, c1, c2⟩ := Mould.at_below hB (show b < W0.heap.size by omega) (Mould.at_below HB0.out hbB (hcell k hk2))
          have hkl : (k : Int) < (ml : Int) := by omega
          have hk0 : (0 : Int) ≤ (k : Int) := by omega
          have HN := Lib.hid (all_next HALL.out hk2)
          have HX := Lib.hid (fun h => all_no (f := mouldB nl) hk2 h)
          clear hB hcell
          rcases hb : mouldB nl s.moulds[k] with - | -
          · have HR := Lib.hid (show s.ok = false by rw [HO.out, HX.out hb]; simp)
            have HBT := Lib.hid (HVM.out _ _ hb)
            clear hb HX HN
            generalize s.moulds[k] = m at *
            go_wp2_with fail
            refine (HBT.out _).mono ?_
            rintro e w1 ⟨rfl, hb1⟩
            have HBW := Lib.hid (HB0.out.trans (((HB.out.alloc HB.out.size _).trans (hb1.mono (by have := HB.out.size; simp; omega))).mono HB0.out.size))
            clear hb1
            go_wp2_with fail
            go_ret
            exact ⟨ret_bool HR.out.symm, HBW.out⟩
          · rw [hb] at HN
            have HBT := Lib.hid (HVM.out _ _ hb)
            clear hb HX
            generalize s.moulds[k] = m at *
            go_wp2_with fail
            refine (HBT.out _).mono ?_
            rintro e w1 ⟨rfl, hb1⟩
            go_wp2_with fail
            go_roundw
            case rel => exact ⟨k + 1, by omega, by go_num, HN.out, (HB.out.alloc HB.out.size _).trans (hb1.mono (by have := HB.out.size; simp; omega))⟩
            case measure => simp [intOf]; omega
        · obtain rfl : ml = k := by omega
          have H2 := Lib.hid (all_done HALL.out HML.out)
          have hB' := HB.out
          clear hB HALL HB
          go_wp2_with fail
          clear x0 x1 x2 x3 hlt hk zr
          go_loopw [57] (fun i wr => ∃ k : Nat, k ≤ wl ∧ i = .int .i64 k ∧ (s.worlds.take k).all (worldB ml) = true ∧ Below W0.heap.size W0 wr) (fun i _ => wl - (intOf i).toNat)
          case atStart => exact ⟨0, by omega, rfl, by simp, hB'⟩
          case round =>
            clear hB'
            obtain ⟨k, hk, rfl, hall, hB⟩ := hrel
            have HALL := Lib.hid hall
            clear hall
            have HB := Lib.hid hB
            have hbx := fun i => (hB.cell (p := ⟨w.heap.size, i, none⟩) hz0).trans (HS0.out i)
            obtain ⟨x0, x1, x2, x3⟩ : wr.cell? ⟨w.heap.size, 0, none⟩ = some (.slice ma ml mc) ∧ wr.cell? ⟨w.heap.size, 1, none⟩ = some (.slice wa wl wc) ∧ wr.cell? ⟨w.heap.size, 2, none⟩ = some (.slice na nl nc) ∧ wr.cell? ⟨w.heap.size, 3, none⟩ = some (.int .i64 s.fresh) := ⟨hbx 0, hbx 1, hbx 2, hbx 3⟩
            have zr : w.heap.size < wr.heap.size := by have := hB.size; omega
            clear hbx
            by_cases hlt : k < wl
            · have hk2 : k < s.worlds.length := by rw [HWL.out]; exact hlt
              obtain ⟨b, o, rfl, hbB, hcell⟩ := HWC.out (by omega)
              obtain ⟨ra, rl, rc, hcc, hii⟩ := hcell k hk2
              have hcx := (hB.cell (p := ⟨b, o + k, none⟩) (show b < W0.heap.size by omega)).trans ((HB0.out.cell (p := ⟨b, o + k, none⟩) hbB).trans hcc)
              have hkl : (k : Int) < (wl : Int) := by omega
              have hk0 : (0 : Int) ≤ (k : Int) := by omega
              have HN := Lib.hid (all_next HALL.out hk2)
              have HX := Lib.hid (fun h => all_no (f := worldB ml) hk2 h)
              have HII := Lib.hid ((hii.below HB0.out).below hB)
              clear hB hcell hcc hii
              rcases hb : worldB ml s.worlds[k] with - | -
              · have HR := Lib.hid (show s.ok = false by rw [HO.out, HX.out hb]; simp)
                have HBT := Lib.hid (HVW.out ra rl rc _ wr HII.out _ hb)
                clear hb HX HN HII
                generalize s.worlds[k] = m at *
                go_wp2_with fail
                refine HBT.out.mono ?_
                rintro e w1 ⟨rfl, hb1⟩
                have HBW := Lib.hid (HB0.out.trans ((HB.out.trans (hb1.mono HB.out.size)).mono HB0.out.size))
                clear hb1
                go_wp2_with fail
                go_ret
                exact ⟨ret_bool HR.out.symm, HBW.out⟩
              · rw [hb] at HN
                have HBT := Lib.hid (HVW.out ra rl rc _ wr HII.out _ hb)
                clear hb HX HII
                generalize s.worlds[k] = m at *
                go_wp2_with fail
                refine HBT.out.mono ?_
                rintro e w1 ⟨rfl, hb1⟩
                go_wp2_with fail
                go_roundw
                case rel => exact ⟨k + 1, by omega, by go_num, HN.out, HB.out.trans (hb1.mono HB.out.size)⟩
                case measure => simp [intOf]; omega
            · obtain rfl : wl = k := by omega
              have HR := Lib.hid (show s.ok = btw s.fresh 1 12 by rw [HO.out, H1.out, H2.out, all_done HALL.out HWL.out]; simp)
              have HBW := Lib.hid (HB0.out.trans (HB.out.mono HB0.out.size))
              have HBT := Lib.hid (between_any s.fresh 1 12)
              clear hB HALL HB
              go_wp2_with fail
              refine (HBT.out _).mono ?_
              rintro e w1 ⟨rfl, rfl⟩
              go_wp2_with fail
              go_ret
              exact ⟨ret_bool HR.out.symm, HBW.out⟩

theorem valid_any (s : FShop) (ma : Option Addr) (ml mc : Nat) (wa : Option Addr) (wl wc : Nat) (na : Option Addr) (nl nc : Nat) (w : World) (hp : FAt w ma ml mc wa wl wc na nl nc s) :
    Calls Try.prog 86 #[.agg #[.slice ma ml mc, .slice wa wl wc, .slice na nl nc, .int .i64 s.fresh]] w fun e w' => e = .returned (.bool s.ok) ∧ Below w.heap.size w w' := by
  rcases hf : s.few with - | -
  · exact valid_many s ma ml mc wa wl wc na nl nc w hp hf
  · exact valid_few s ma ml mc wa wl wc na nl nc w hp hf
theorem valid_is (s : FShop) (ma : Option Addr) (ml mc : Nat) (wa : Option Addr) (wl wc : Nat) (na : Option Addr) (nl nc : Nat) (w : World) (hp : FAt w ma ml mc wa wl wc na nl nc s) (b : Bool) (h : s.ok = b) :
    Calls Try.prog 86 #[.agg #[.slice ma ml mc, .slice wa wl wc, .slice na nl nc, .int .i64 s.fresh]] w fun e w' => e = .returned (.bool b) ∧ Below w.heap.size w w' := h ▸ valid_any s ma ml mc wa wl wc na nl nc w hp

def FShop.chk (s : FShop) : Int := if s.ok then 0 else 20
theorem Check_any (s : FShop) (ma : Option Addr) (ml mc : Nat) (wa : Option Addr) (wl wc : Nat) (na : Option Addr) (nl nc : Nat) (w : World) (hp : FAt w ma ml mc wa wl wc na nl nc s) :
    Calls Try.prog 51 #[.agg #[.slice ma ml mc, .slice wa wl wc, .slice na nl nc, .int .i64 s.fresh]] w fun e w' => e = .returned (.int .i64 s.chk) ∧ Below w.heap.size w w' := by
  have HV := Lib.hid (fun b (h : s.ok = b) w1 (hb : Below w.heap.size w w1) => valid_is s ma ml mc wa wl wc na nl nc w1 (hp.below hb) b h)
  unfold FShop.chk
  rcases ho : s.ok with - | -
  all_goals
    have HV1 := Lib.hid (HV.out _ ho)
    clear hp ho
    go_enter Try.func51, Try.ntmps51
    go_wp2_with fail
    refine (HV1.out _ (by repeat (first | exact Below.refl _ _ | (refine Below.alloc ?_ (by first | omega | (simp; omega) | simp) _) | (refine Below.setCell ?_ (by first | omega | (simp; omega) | simp) _) | refine Below.drew ?_))).mono ?_
    rintro e w1 ⟨rfl, hb1⟩
    have HB := Lib.hid hb1
    clear hb1
    go_wp2_with fail
    go_ret
    exact ⟨rfl, (by repeat (first | exact Below.refl _ _ | (refine Below.alloc ?_ (by first | omega | (simp; omega) | simp) _) | (refine Below.setCell ?_ (by first | omega | (simp; omega) | simp) _) | refine Below.drew ?_ | (refine below_via (by assumption) (by first | omega | (simp; omega) | simp) ?_)))⟩
theorem Check_is (s : FShop) (ma : Option Addr) (ml mc : Nat) (wa : Option Addr) (wl wc : Nat) (na : Option Addr) (nl nc : Nat) (v : Int) (h : s.chk = v) (w : World) (hp : FAt w ma ml mc wa wl wc na nl nc s) :
    Calls Try.prog 51 #[.agg #[.slice ma ml mc, .slice wa wl wc, .slice na nl nc, .int .i64 s.fresh]] w fun e w' => e = .returned (.int .i64 v) ∧ Below w.heap.size w w' := h ▸ Check_any s ma ml mc wa wl wc na nl nc w hp

/-- What is said of a question that names something. -/
def FShop.name (s : FShop) (r : Bool) : Int := if s.ok then (if r then 0 else 1) else 20
theorem named_any (s : FShop) (ma : Option Addr) (ml mc : Nat) (wa : Option Addr) (wl wc : Nat) (na : Option Addr) (nl nc : Nat) (r : Bool) (w : World) (hp : FAt w ma ml mc wa wl wc na nl nc s) :
    Calls Try.prog 87 #[.agg #[.slice ma ml mc, .slice wa wl wc, .slice na nl nc, .int .i64 s.fresh], .bool r] w fun e w' => e = .returned (.int .i64 (s.name r)) ∧ Below w.heap.size w w' := by
  have HV := Lib.hid (fun b (h : s.ok = b) w1 (hb : Below w.heap.size w w1) => valid_is s ma ml mc wa wl wc na nl nc w1 (hp.below hb) b h)
  unfold FShop.name
  rcases ho : s.ok with - | -
  all_goals
    have HV1 := Lib.hid (HV.out _ ho)
    clear hp ho
    cases r
  all_goals
    go_enter Try.func87, Try.ntmps87
    go_wp2_with fail
    refine (HV1.out _ (by repeat (first | exact Below.refl _ _ | (refine Below.alloc ?_ (by first | omega | (simp; omega) | simp) _) | (refine Below.setCell ?_ (by first | omega | (simp; omega) | simp) _) | refine Below.drew ?_))).mono ?_
    rintro e w1 ⟨rfl, hb1⟩
    have HB := Lib.hid hb1
    clear hb1
    go_wp2_with fail
    go_ret
    exact ⟨rfl, (by repeat (first | exact Below.refl _ _ | (refine Below.alloc ?_ (by first | omega | (simp; omega) | simp) _) | (refine Below.setCell ?_ (by first | omega | (simp; omega) | simp) _) | refine Below.drew ?_ | (refine below_via (by assumption) (by first | omega | (simp; omega) | simp) ?_)))⟩
theorem named_is (s : FShop) (ma : Option Addr) (ml mc : Nat) (wa : Option Addr) (wl wc : Nat) (na : Option Addr) (nl nc : Nat) (r : Bool) (v : Int) (h : s.name r = v) (w : World) (hp : FAt w ma ml mc wa wl wc na nl nc s) :
    Calls Try.prog 87 #[.agg #[.slice ma ml mc, .slice wa wl wc, .slice na nl nc, .int .i64 s.fresh], .bool r] w fun e w' => e = .returned (.int .i64 v) ∧ Below w.heap.size w w' := h ▸ named_any s ma ml mc wa wl wc na nl nc r w hp
end Go.Proofs.Ytigeiaiohdemiaa
