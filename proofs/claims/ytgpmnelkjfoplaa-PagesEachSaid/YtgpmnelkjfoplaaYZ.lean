/- Package pages: has, slices.IndexFunc at has. -/
import Derived.Test.YtgpmnelkjfoplaaYH
namespace Go.Proofs.Ytgpmnelkjfoplaa
set_option linter.unusedVariables false
set_option linter.unusedSimpArgs false
open Go.RowKit

def hasN (c p : Nat) : Bool := c / 2 ^ p % 2 == 1
theorem low_bits : ∀ n : Fin 64, (bits BinOp.and IntKind.i64 ((n.val : Nat) : Int) 1 == 1) = (n.val % 2 == 1) := by decide
theorem low_bit (c p : Nat) (hc : c < 64) : (bits BinOp.and IntKind.i64 ((c : Int) / 2 ^ p) 1 == 1) = hasN c p := by
  have h : ((c : Int) / 2 ^ p) = ((c / 2 ^ p : Nat) : Int) := by simp
  rw [h]
  exact low_bits ⟨c / 2 ^ p, Nat.lt_of_le_of_lt (Nat.div_le_self _ _) hc⟩

set_option maxRecDepth 100000 in
set_option maxHeartbeats 4000000 in
theorem has_any (c p : Nat) (hc : c < 64) (hp : p < 6) (w : World) :
    Calls Try.prog 120 #[.int .i64 c, .int .i64 p] w fun e w' => e = .returned (.bool (hasN c p)) ∧ w' = w := by
  go_enter Try.func120, Try.ntmps120
  go_wp2_with fail
  refine bodyPost_ret (v := .bool (hasN c p)) (by rw [low_bit c p hc]; simp [results, Try.results120, go_sem]) rfl ⟨rfl, rfl⟩

def hasI (c : Nat) (v : Int) : Bool := hasN c v.toNat
theorem hasI_any (c : Nat) (v : Int) (b : Bool) (hb : hasI c v = b) (hc : c < 64) (h0 : 0 ≤ v) (hv : v < 6) (w : World) :
    Calls Try.prog 120 #[.int .i64 c, .int .i64 v] w fun e w' => e = .returned (.bool b) ∧ w' = w := by
  obtain ⟨p, rfl⟩ : ∃ p : Nat, v = p := ⟨v.toNat, by omega⟩
  have := has_any c p hc (by omega) w
  unfold hasI at hb
  rw [Int.toNat_natCast] at hb
  rwa [hb] at this

/-- Where the first piece of a choice is, -1 if nowhere. -/
def idxF (c : Nat) (xs : List Int) : Int := match xs.findIdx? (hasI c) with
  | some i => (i : Int)
  | none => -1
theorem idxF_at {c : Nat} {xs : List Int} {k : Nat} (h : k < xs.length) (hk : hasI c xs[k] = true) (hb : ∀ i (hi : i < xs.length), i < k → hasI c xs[i] = false) : idxF c xs = (k : Int) := by
  have : xs.findIdx? (hasI c) = some k := by
    rw [List.findIdx?_eq_some_iff_getElem]
    exact ⟨h, hk, fun j hj => by simpa using hb j (by omega) hj⟩
  unfold idxF; rw [this]
theorem idxF_no {c : Nat} {xs : List Int} (hb : ∀ i (hi : i < xs.length), hasI c xs[i] = false) : idxF c xs = -1 := by
  have : xs.findIdx? (hasI c) = none := by
    rw [List.findIdx?_eq_none_iff]
    intro y hy
    obtain ⟨i, hi, rfl⟩ := List.mem_iff_getElem.1 hy
    exact hb i hi
  unfold idxF; rw [this]
set_option maxHeartbeats 1000000 in
theorem IndexFunc_any (c : Nat) (hc : c < 64) (xa : Option Addr) (xl xc : Nat) (xs : List Int) (w : World) (hx : IntsAt w xa xl xs) (hv : ∀ i (hi : i < xs.length), 0 ≤ xs[i] ∧ xs[i] < 6) :
    Calls Try.prog 131 #[.slice xa xl xc, .func (.func 120) #[.int .i64 c] #[]] w fun e w' => e = .returned (.int .i64 (idxF c xs)) ∧ w' = w := by
  obtain ⟨hxl, hxm, hxc⟩ := hx
  unfold maxLen at hxm
  have HXL := Lib.hid hxl
  have HXC := Lib.hid hxc
  have HV := Lib.hid hv
  have HAT := Lib.hid (fun k (h : k < xs.length) (hk : hasI c xs[k] = true) (hb : ∀ i (hi : i < xs.length), i < k → hasI c xs[i] = false) => idxF_at h hk hb)
  have HNO := Lib.hid (fun (hb : ∀ i (hi : i < xs.length), hasI c xs[i] = false) => idxF_no hb)
  clear hxl hxc hv
  go_enter Try.func131, Try.ntmps131
  go_wp2_with fail
  go_loopw [8] (fun i wr => ∃ k : Nat, k ≤ xl ∧ i = .int .i64 k ∧ (∀ i (hi : i < xs.length), i < k → hasI c xs[i] = false) ∧ w = wr) (fun i _ => xl - (intOf i).toNat)
  case atStart => exact ⟨0, by omega, rfl, fun i _ h => by omega, rfl⟩
  case round =>
    obtain ⟨k, hk, rfl, hall, rfl⟩ := hrel
    have HALL := Lib.hid hall
    clear hall
    by_cases hlt : k < xl
    · have hk2 : k < xs.length := by rw [HXL.out]; exact hlt
      obtain ⟨xb, xo, rfl, hxB, hxcell⟩ := HXC.out (by omega)
      have cx := hxcell k hk2
      have hkl : (k : Int) < (xl : Int) := by omega
      have hk0 : (0 : Int) ≤ (k : Int) := by omega
      have HA := Lib.hid (fun h => HAT.out k hk2 h HALL.out)
      have HN := Lib.hid (fun (h : hasI c xs[k] = false) => show ∀ i (hi : i < xs.length), i < k + 1 → hasI c xs[i] = false from fun i hi hik => by
        by_cases e : i = k
        · subst e; exact h
        · exact HALL.out i hi (by omega))
      have HB := Lib.hid (HV.out k hk2)
      clear hxcell
      generalize xs[k] = v at *
      rcases hv : hasI c v with - | -
      · have HN2 := Lib.hid (HN.out hv)
        have HC := Lib.hid (hasI_any c v _ hv hc HB.out.1 HB.out.2 w)
        clear HA HN
        go_wp2_with (go_at_call 120; refine HC.out.mono ?_; rintro e w' ⟨rfl, rfl⟩)
        go_roundw
        case rel => exact ⟨k + 1, by omega, by go_num, HN2.out, trivial⟩
        case measure => simp [intOf]; omega
      · have HR := Lib.hid (HA.out hv)
        have HC := Lib.hid (hasI_any c v _ hv hc HB.out.1 HB.out.2 w)
        clear HA HN
        go_wp2_with (go_at_call 120; refine HC.out.mono ?_; rintro e w' ⟨rfl, rfl⟩)
        go_ret
        exact ⟨ret_i64 HR.out.symm, rfl⟩
    · obtain rfl : xl = k := by omega
      have HR := Lib.hid (HNO.out (fun i hi => HALL.out i hi (by have := HXL.out; omega)))
      go_wp2_with fail
      go_ret
      exact ⟨ret_i64 HR.out.symm, rfl⟩
end Go.Proofs.Ytgpmnelkjfoplaa
