/- The reference of pages: IsSet, KnownOf. -/
import Derived.Test.YtgpmnelkjfoplaaYT
namespace Go.Proofs.Ytgpmnelkjfoplaa
set_option linter.unusedVariables false
set_option linter.unusedSimpArgs false
open Go.RowKit

set_option maxRecDepth 100000 in
set_option maxHeartbeats 4000000 in
theorem refIsSet_any (f : PFrame) (sa : Option Addr) (sl sc : Nat) (pa : Option Addr) (pl pc : Nat) (ca : Option Addr) (cl cc : Nat) (xa : Option Addr) (xl xc : Nat) (x : List Int) (w : World) (hp : PAt w sa sl sc pa pl pc ca cl cc f) (hx : IntsAt w xa xl x) :
    Calls Try.prog 85 #[.agg #[.int .i64 f.len, .int .i64 f.slack, .slice sa sl sc, .slice pa pl pc, .slice ca cl cc], .slice xa xl xc] w fun e w' => e = .returned (.bool (f.setB x)) ∧ Below w.heap.size w w' := by
  obtain ⟨hsl, hsm, hsc⟩ := hp.1
  obtain ⟨hxl, hxm, hxc⟩ := hx
  unfold maxLen at hsm hxm
  clear hp
  by_cases hne : xl = sl
  · subst hne
    have HSL := Lib.hid hsl
    have HXL := Lib.hid hxl
    have HSC := Lib.hid hsc
    have HXC := Lib.hid hxc
    have HWI := Lib.hid (fun n lo hi b (h : btw n lo hi = b) W => show Calls Try.prog 80 #[.int .i64 n, .int .i64 lo, .int .i64 hi] W fun e w' => e = .returned (.bool b) ∧ Below W.heap.size W w' from (within_is n lo hi b h W).mono fun e w' ⟨he, hw⟩ => ⟨he, hw ▸ Below.refl _ _⟩)
    clear hsl hxl hsc hxc
    go_enter Try.func85, Try.ntmps85
    go_wp2_with fail
    obtain ⟨W0, hW0, hB0, hs0, hz0⟩ := name1k w #[.int .i64 f.len, .int .i64 f.slack, .slice sa xl sc, .slice pa pl pc, .slice ca cl cc] 26
    rw [hW0]
    clear hW0
    have HB0 := Lib.hid hB0
    have HX2 := Lib.hid (show W0.cell? ⟨w.heap.size, 2, none⟩ = some (.slice sa xl sc) from hs0 2)
    clear hB0 hs0
    go_loopw [5] (fun i wr => ∃ k : Nat, k ≤ xl ∧ i = .int .i64 k ∧ ((f.strips.zip x).take k).all (fun q => btw q.2 0 q.1.m) = true ∧ Below W0.heap.size W0 wr) (fun i _ => xl - (intOf i).toNat)
    case atStart => exact ⟨0, by omega, rfl, by simp, Below.refl _ _⟩
    case round =>
      obtain ⟨k, hk, rfl, hall, hB⟩ := hrel
      obtain ⟨W1, rfl⟩ : ∃ W1 : World, W1 = wr := ⟨_, rfl⟩
      have HALL := Lib.hid hall
      have HB := Lib.hid hB
      have hbw := HB0.out.trans (hB.mono HB0.out.size)
      have HBW := Lib.hid hbw
      have x2 := (hB.cell (p := ⟨w.heap.size, 2, none⟩) hz0).trans HX2.out
      clear hall
      by_cases hlt : k < xl
      · have hk2 : k < f.strips.length := by rw [HSL.out]; exact hlt
        have hk3 : k < x.length := by rw [HXL.out]; exact hlt
        obtain ⟨b, o, rfl, hbB, hcm⟩ := HSC.out (by omega)
        obtain ⟨b', o', rfl, hbB', hcx'⟩ := HXC.out (by omega)
        obtain ⟨d0, d1⟩ := hcm k hk2
        have c1 := (hbw.cell (p := ⟨b, o + k * 2 + 1, none⟩) hbB).trans d1
        have hcx := (hbw.cell (p := ⟨b', o' + k, none⟩) hbB').trans (hcx' k hk3)
        have z0 : w.heap.size < W1.heap.size := Nat.lt_of_lt_of_le hz0 hB.size
        have z1 : b < W1.heap.size := Nat.lt_of_lt_of_le hbB hbw.size
        have z2 : b' < W1.heap.size := Nat.lt_of_lt_of_le hbB' hbw.size
        have hkl : (k : Int) < (xl : Int) := by omega
        have hk0 : (0 : Int) ≤ (k : Int) := by omega
        have HN := Lib.hid (zip_next HALL.out hk2 hk3)
        have HX := Lib.hid (fun (h : btw x[k] 0 f.strips[k].m = false) => show f.setB x = false by rw [PFrame.setB, zip_no (f := fun q => btw q.2 0 q.1.m) hk2 hk3 h]; simp)
        clear hcm hcx' d0 d1 hB hbw
        generalize f.strips[k].m = m at *
        generalize x[k] = v at *
        obtain ⟨r, hr⟩ : ∃ r, btw v 0 m = r := ⟨_, rfl⟩
        have HWX := Lib.hid (fun W (h : Below W1.heap.size W1 W ∧ ∀ b o, b < W1.heap.size → W.cell? ⟨b, o, none⟩ = W1.cell? ⟨b, o, none⟩) => bothS1 (W0 := W1) (HWI.out v 0 m r hr W) h)
        go_upto_region 6 with fail
        go_cut [29] (fun v wx => v = .bool (!r) ∧ Below W1.heap.size W1 wx)
        case first =>
          go_region_held3 (fun w' => Below W1.heap.size W1 w' ∧ ∀ b o, b < W1.heap.size → w'.cell? ⟨b, o, none⟩ = W1.cell? ⟨b, o, none⟩) (first | with_reducible assumption | ((repeat (first | with_reducible refine bothS_drew ?_ | with_reducible refine bothS_alloc _ ?_ | with_reducible refine bothS_set _ _ (by first | omega | (simp; omega) | simp) ?_)); first | with_reducible assumption | with_reducible exact Hid.out (by assumption) | with_reducible exact ⟨Below.refl _ _, fun _ _ _ => rfl⟩)) (first | (go_at_call 80; with_reducible refine (HWX.out _ ?_).mono ?_; (first | with_reducible assumption | ((repeat (first | with_reducible refine bothS_drew ?_ | with_reducible refine bothS_alloc _ ?_ | with_reducible refine bothS_set _ _ (by first | omega | (simp; omega) | simp) ?_)); first | with_reducible assumption | with_reducible exact Hid.out (by assumption) | with_reducible exact ⟨Below.refl _ _, fun _ _ _ => rfl⟩)); rintro e w' ⟨rfl, k, k1, k2, k3⟩; have HK := Lib.hid k; (try simp at k3); (try have k6 := Nat.lt_of_succ_le k3); (try have k7 := Nat.lt_of_succ_lt k6); (try have k8 := Nat.lt_of_succ_lt k3)) | fail "no arm")
          all_goals (go_wp2_with fail; go_meet; exact ⟨rfl, And.left (by assumption)⟩)
        case rest =>
        obtain ⟨rfl, hB5⟩ := hcut
        have HB5 := Lib.hid (HB.out.trans (hB5.mono HB.out.size))
        have HB6 := Lib.hid (HBW.out.trans (hB5.mono HBW.out.size))
        clear hB5 c1 hcx HWX x2
        cases r
        · have HR := Lib.hid (HX.out hr)
          clear HN HX hr
          go_wp2_with fail
          go_ret
          exact ⟨ret_bool HR.out.symm, HB6.out⟩
        · have HR := Lib.hid (HN.out.trans hr)
          clear HN HX hr
          go_wp2_with fail
          go_roundw
          case rel => exact ⟨k + 1, by omega, by go_num, HR.out, HB5.out⟩
          case measure => simp [intOf]; omega
      · obtain rfl : xl = k := by omega
        have HR := Lib.hid (show f.setB x = true by rw [PFrame.setB, zip_done HALL.out HSL.out, HXL.out, HSL.out]; simp)
        clear hB hbw
        go_wp2_with fail
        go_ret
        exact ⟨ret_bool HR.out.symm, HBW.out⟩
  · have hne' : ¬ (xl : Int) = (sl : Int) := by omega
    have HR := Lib.hid (show f.setB x = false by simp [PFrame.setB]; omega)
    clear hsc hxc
    go_enter Try.func85, Try.ntmps85
    go_wp2_with fail
    go_ret
    exact ⟨ret_bool HR.out.symm, (by repeat (first | exact Below.refl _ _ | (refine Below.alloc ?_ (by first | omega | (simp; omega) | simp) _) | (refine Below.setCell ?_ (by first | omega | (simp; omega) | simp) _) | refine Below.drew ?_))⟩
theorem refIsSet_is (f : PFrame) (sa : Option Addr) (sl sc : Nat) (pa : Option Addr) (pl pc : Nat) (ca : Option Addr) (cl cc : Nat) (xa : Option Addr) (xl xc : Nat) (x : List Int) (b : Bool) (h : f.setB x = b) (w : World) (hp : PAt w sa sl sc pa pl pc ca cl cc f) (hx : IntsAt w xa xl x) :
    Calls Try.prog 85 #[.agg #[.int .i64 f.len, .int .i64 f.slack, .slice sa sl sc, .slice pa pl pc, .slice ca cl cc], .slice xa xl xc] w fun e w' => e = .returned (.bool b) ∧ Below w.heap.size w w' := h ▸ refIsSet_any f sa sl sc pa pl pc ca cl cc xa xl xc x w hp hx
end Go.Proofs.Ytgpmnelkjfoplaa
