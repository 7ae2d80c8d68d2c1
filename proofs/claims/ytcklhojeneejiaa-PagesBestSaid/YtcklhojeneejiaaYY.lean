/- YZ YY, joined. -/
import Derived.Test.YtcklhojeneejiaaYH
import Derived.Test.YtcklhojeneejiaaYK
import Derived.Lib.SliceRun
import Derived.Laws.IdiomCopy
/- Package pages: has, slices.IndexFunc at has. -/
namespace Go.Proofs.Ytcklhojeneejiaa
set_option linter.unusedVariables false
set_option linter.unusedSimpArgs false
open Go.RowKit

def hasN (c p : Nat) : Bool := c / 2 ^ p % 2 == 1
theorem low_bits : ∀ n : Fin 64, (bits BinOp.and IntKind.i64 ((n.val : Nat) : Int) 1 == 1) = (n.val % 2 == 1) := by decide
theorem low_bit (c p : Nat) (hc : c < 64) : (bits BinOp.and IntKind.i64 ((c : Int) / 2 ^ p) 1 == 1) = hasN c p := by
  have h : ((c : Int) / 2 ^ p) = ((c / 2 ^ p : Nat) : Int) := by simp
  rw [h]
  exact low_bits ⟨c / 2 ^ p, Nat.lt_of_le_of_lt (Nat.div_le_self _ _) hc⟩

set_option maxRecDepth 100000 in
set_option maxHeartbeats 4000000 in
theorem has_any (c p : Nat) (hc : c < 64) (hp : p < 6) (w : World) :
    Calls Try.prog 120 #[.int .i64 c, .int .i64 p] w fun e w' => e = .returned (.bool (hasN c p)) ∧ w' = w := by
  go_enter Try.func120, Try.ntmps120
  go_wp2_with fail
  refine bodyPost_ret (v := .bool (hasN c p)) (by rw [low_bit c p hc]; simp [results, Try.results120, go_sem]) rfl ⟨rfl, rfl⟩

def hasI (c : Nat) (v : Int) : Bool := hasN c v.toNat
theorem hasI_any (c : Nat) (v : Int) (b : Bool) (hb : hasI c v = b) (hc : c < 64) (h0 : 0 ≤ v) (hv : v < 6) (w : World) :
    Calls Try.prog 120 #[.int .i64 c, .int .i64 v] w fun e w' => e = .returned (.bool b) ∧ w' = w := by
  obtain ⟨p, rfl⟩ : ∃ p : Nat, v = p := ⟨v.toNat, by omega⟩
  have := has_any c p hc (by omega) w
  unfold hasI at hb
  rw [Int.toNat_natCast] at hb
  rwa [hb] at this

/-- Where the first piece of a choice is, -1 if nowhere. -/
def idxF (c : Nat) (xs : List Int) : Int := match xs.findIdx? (hasI c) with
  | some i => (i : Int)
  | none => -1
theorem idxF_at {c : Nat} {xs : List Int} {k : Nat} (h : k < xs.length) (hk : hasI c xs[k] = true) (hb : ∀ i (hi : i < xs.length), i < k → hasI c xs[i] = false) : idxF c xs = (k : Int) := by
  have : xs.findIdx? (hasI c) = some k := by
    rw [List.findIdx?_eq_some_iff_getElem]
    exact ⟨h, hk, fun j hj => by simpa using hb j (by omega) hj⟩
  unfold idxF; rw [this]
theorem idxF_no {c : Nat} {xs : List Int} (hb : ∀ i (hi : i < xs.length), hasI c xs[i] = false) : idxF c xs = -1 := by
  have : xs.findIdx? (hasI c) = none := by
    rw [List.findIdx?_eq_none_iff]
    intro y hy
    obtain ⟨i, hi, rfl⟩ := List.mem_iff_getElem.1 hy
    exact hb i hi
  unfold idxF; rw [this]
set_option maxHeartbeats 1000000 in
theorem IndexFunc_any (c : Nat) (hc : c < 64) (xa : Option Addr) (xl xc : Nat) (xs : List Int) (w : World) (hx : IntsAt w xa xl xs) (hv : ∀ i (hi : i < xs.length), 0 ≤ xs[i] ∧ xs[i] < 6) :
    Calls Try.prog 131 #[.slice xa xl xc, .func (.func 120) #[.int .i64 c] #[]] w fun e w' => e = .returned (.int .i64 (idxF c xs)) ∧ w' = w := by
  obtain ⟨hxl, hxm, hxc⟩ := hx
  unfold maxLen at hxm
  have HXL := Lib.hid hxl
  have HXC := Lib.hid hxc
  have HV := Lib.hid hv
  have HAT := Lib.hid (fun k (h : k < xs.length) (hk : hasI c xs[k] = true) (hb : ∀ i (hi : i < xs.length), i < k → hasI c xs[i] = false) => idxF_at h hk hb)
  have HNO := Lib.hid (fun (hb : ∀ i (hi : i < xs.length), hasI c xs[i] = false) => idxF_no hb)
  clear hxl hxc hv
  go_enter Try.func131, Try.ntmps131
  go_wp2_with fail
  go_loopw [8] (fun i wr => ∃ k : Nat, k ≤ xl ∧ i = .int .i64 k ∧ (∀ i (hi : i < xs.length), i < k → hasI c xs[i] = false) ∧ w = wr) (fun i _ => xl - (intOf i).toNat)
  case atStart => exact ⟨0, by omega, rfl, fun i _ h => by omega, rfl⟩
  case round =>
    obtain ⟨k, hk, rfl, hall, rfl⟩ := hrel
    have HALL := Lib.hid hall
    clear hall
    by_cases hlt : k < xl
    · have hk2 : k < xs.length := by rw [HXL.out]; exact hlt
      obtain ⟨xb, xo, rfl, hxB, hxcell⟩ := HXC.out (by omega)
      have cx := hxcell k hk2
      have hkl : (k : Int) < (xl : Int) := by omega
      have hk0 : (0 : Int) ≤ (k : Int) := by omega
      have HA := Lib.hid (fun h => HAT.out k hk2 h HALL.out)
      have HN := Lib.hid (fun (h : hasI c xs[k] = false) => show ∀ i (hi : i < xs.length), i < k + 1 → hasI c xs[i] = false from fun i hi hik => by
        by_cases e : i = k
        · subst e; exact h
        · exact HALL.out i hi (by omega))
      have HB := Lib.hid (HV.out k hk2)
      clear hxcell
      generalize xs[k] = v at *
      rcases hv : hasI c v with - | -
      · have HN2 := Lib.hid (HN.out hv)
        have HC := Lib.hid (hasI_any c v _ hv hc HB.out.1 HB.out.2 w)
        clear HA HN
        go_wp2_with (go_at_call 120; refine HC.out.mono ?_; rintro e w' ⟨rfl, rfl⟩)
        go_roundw
        case rel => exact ⟨k + 1, by omega, by go_num, HN2.out, trivial⟩
        case measure => simp [intOf]; omega
      · have HR := Lib.hid (HA.out hv)
        have HC := Lib.hid (hasI_any c v _ hv hc HB.out.1 HB.out.2 w)
        clear HA HN
        go_wp2_with (go_at_call 120; refine HC.out.mono ?_; rintro e w' ⟨rfl, rfl⟩)
        go_ret
        exact ⟨ret_i64 HR.out.symm, rfl⟩
    · obtain rfl : xl = k := by omega
      have HR := Lib.hid (HNO.out (fun i hi => HALL.out i hi (by have := HXL.out; omega)))
      go_wp2_with fail
      go_ret
      exact ⟨ret_i64 HR.out.symm, rfl⟩
end Go.Proofs.Ytcklhojeneejiaa

/- Package pages: slices.DeleteFunc at has. -/
namespace Go.Proofs.Ytcklhojeneejiaa
set_option linter.unusedVariables false
set_option linter.unusedSimpArgs false
open Go.RowKit

def keepC (c : Nat) (xs : List Int) : List Int := xs.filter fun v => !hasI c v
/-- A row that may be written reads so. -/
def OwnI (w : World) (b o : Nat) (ys : List Int) : Prop := ∀ t (h : t < ys.length), w.cell? ⟨b, o + t, none⟩ = some (.int .i64 ys[t]) ∧ w.frozen? ⟨b, o + t, none⟩ = false
theorem OwnI.set {w : World} {b o : Nat} {ys : List Int} (h : OwnI w b o ys) (i : Nat) (v : Int) : OwnI (w.setCell ⟨b, o + i, none⟩ (.int .i64 v)) b o (ys.set i v) := fun t ht => by
  have ht2 : t < ys.length := by simpa using ht
  obtain ⟨h1, h2⟩ := h t ht2
  refine ⟨?_, set_frz h2⟩
  by_cases e : i = t
  · subst e; rw [List.getElem_set_self]; exact set_cell h1
  · rw [List.getElem_set_ne e]
    exact (set_cell' (fun h => e (by omega))).trans h1
theorem gbx_sets {w : World} {b : Nat} : ∀ (vs : List Value) (o : Nat) {w' : World}, w.grownBy w' (some b) → w.grownBy (w'.setCells b o vs) (some b)
  | [], _, _, h => h
  | _ :: vs, o, _, h => gbx_sets vs (o + 1) (gbx_set h _ _)

/-- How far the deleting has come: what is kept so far in front, what is not yet seen behind. -/
structure DelI (c : Nat) (xs ys : List Int) (i j : Nat) : Prop where
  len : ys.length = xs.length
  i_is : i = (keepC c (xs.take j)).length
  lt : i < j
  front : ys.take i = keepC c (xs.take j)
  behind : ys.drop j = xs.drop j
theorem keep_snoc (c : Nat) (xs : List Int) (j : Nat) (h : j < xs.length) : keepC c (xs.take (j + 1)) = keepC c (xs.take j) ++ (if hasI c xs[j] then [] else [xs[j]]) := by
  unfold keepC
  rw [List.take_succ_eq_append_getElem h, List.filter_append]
  congr 1
  cases hv : hasI c xs[j] <;> simp [hv]
theorem DelI.get {c : Nat} {xs ys : List Int} {i j : Nat} (h : DelI c xs ys i j) (hj : j < xs.length) : ∃ h2 : j < ys.length, ys[j] = xs[j] := by
  have h2 : j < ys.length := by rw [h.len]; exact hj
  refine ⟨h2, ?_⟩
  have := congrArg (·[0]?) h.behind
  simp only [List.getElem?_drop, Nat.add_zero] at this
  rw [List.getElem?_eq_getElem h2, List.getElem?_eq_getElem hj] at this
  injection this
theorem DelI.skip {c : Nat} {xs ys : List Int} {i j : Nat} (h : DelI c xs ys i j) (hj : j < xs.length) (hv : hasI c xs[j] = true) : DelI c xs ys i (j + 1) := by
  have hk := keep_snoc c xs j hj
  rw [hv, if_pos rfl, List.append_nil] at hk
  refine ⟨h.len, by rw [hk]; exact h.i_is, by have := h.lt; omega, by rw [hk]; exact h.front, ?_⟩
  have := congrArg (List.drop 1) h.behind
  simpa only [List.drop_drop] using this
theorem DelI.keep {c : Nat} {xs ys : List Int} {i j : Nat} (h : DelI c xs ys i j) (hj : j < xs.length) (hv : hasI c xs[j] = false) : DelI c xs (ys.set i xs[j]) (i + 1) (j + 1) := by
  have hk := keep_snoc c xs j hj
  rw [hv, if_neg (by simp)] at hk
  have hlt := h.lt
  have hly : i < ys.length := by rw [h.len]; omega
  refine ⟨by simpa using h.len, by rw [hk, List.length_append, ← h.i_is]; rfl, by omega, ?_, ?_⟩
  · rw [hk, ← h.front, List.take_succ_eq_append_getElem (by simpa using hly), List.getElem_set_self, List.take_set_of_le (Nat.le_refl _)]
  · rw [List.drop_set_of_lt (by omega)]
    have := congrArg (List.drop 1) h.behind
    simpa only [List.drop_drop] using this
theorem DelI.start {c : Nat} {xs : List Int} {i : Nat} (h : i < xs.length) (hb : ∀ t (ht : t < xs.length), t < i → hasI c xs[t] = false) (hv : hasI c xs[i] = true) : DelI c xs xs i (i + 1) := by
  have hall : keepC c (xs.take i) = xs.take i := by
    unfold keepC
    rw [List.filter_eq_self]
    intro v hv
    obtain ⟨t, ht, rfl⟩ := List.mem_iff_getElem.1 hv
    rw [List.length_take] at ht
    rw [List.getElem_take, hb t (by omega) (by omega)]; rfl
  have hk := keep_snoc c xs i h
  rw [hv, if_pos rfl, List.append_nil, hall] at hk
  exact ⟨rfl, by rw [hk, List.length_take]; omega, by omega, hk.symm, rfl⟩
theorem idxF_some {c : Nat} {xs : List Int} (h : xs.findIdx? (hasI c) ≠ none) : ∃ (i : Nat) (hi : i < xs.length), idxF c xs = (i : Int) ∧ hasI c xs[i] = true ∧ ∀ t (ht : t < xs.length), t < i → hasI c xs[t] = false := by
  cases e : xs.findIdx? (hasI c) with
  | none => exact absurd e h
  | some i =>
    obtain ⟨h1, h2, h3⟩ := List.findIdx?_eq_some_iff_getElem.1 e
    exact ⟨i, h1, by unfold idxF; rw [e], h2, fun t ht hti => by simpa using h3 t hti⟩
theorem idxF_none {c : Nat} {xs : List Int} (h : xs.findIdx? (hasI c) = none) : idxF c xs = -1 ∧ keepC c xs = xs := by
  refine ⟨by unfold idxF; rw [h], ?_⟩
  unfold keepC
  rw [List.filter_eq_self]
  intro v hv
  rw [List.findIdx?_eq_none_iff.1 h v hv]; rfl

theorem DeleteFunc_none (c : Nat) (hc : c < 64) (xa : Option Addr) (xl xc : Nat) (xs : List Int) (w : World) (hx : IntsAt w xa xl xs) (hv : ∀ i (hi : i < xs.length), 0 ≤ xs[i] ∧ xs[i] < 6) (hi : xs.findIdx? (hasI c) = none) :
    Calls Try.prog 127 #[.slice xa xl xc, .func (.func 120) #[.int .i64 c] #[]] w fun e w' => e = .returned (.slice xa xl xc) ∧ w' = w := by
  have HI := Lib.hid (IndexFunc_any c hc xa xl xc xs w hx hv)
  rw [(idxF_none hi).1] at HI
  clear hx hv hi
  go_enter Try.func127, Try.ntmps127
  go_wp2_with (go_at_call 131; refine HI.out.mono ?_; rintro e w' ⟨rfl, rfl⟩)
  go_ret
  exact ⟨rfl, rfl⟩

set_option maxRecDepth 100000 in
set_option maxHeartbeats 4000000 in
theorem DeleteFunc_some (c : Nat) (hc : c < 64) (b o xl xc : Nat) (xs : List Int) (w : World) (hxl : xs.length = xl) (hxm : xl ≤ maxLen) (hcap : xl ≤ xc) (hcm : xc ≤ maxLen) (hbw : b < w.heap.size) (hx : OwnI w b o xs) (hv : ∀ i (hi : i < xs.length), 0 ≤ xs[i] ∧ xs[i] < 6) (hi : xs.findIdx? (hasI c) ≠ none) :
    Calls Try.prog 127 #[.slice (some ⟨b, o, none⟩) xl xc, .func (.func 120) #[.int .i64 c] #[]] w fun e w' => e = .returned (.slice (some ⟨b, o, none⟩) (keepC c xs).length xc) ∧ w.grownBy w' (some b) ∧ OwnI w' b o (keepC c xs) := by
  have HI := Lib.hid (IndexFunc_any c hc (some ⟨b, o, none⟩) xl xc xs w ⟨hxl, hxm, fun _ => ⟨b, o, rfl, hbw, fun i h => (hx i h).1⟩⟩ hv)
  obtain ⟨i0, hi0, e0, hh, hall⟩ := idxF_some hi
  rw [e0] at HI
  have HS := Lib.hid (DelI.start hi0 hall hh)
  have HX := Lib.hid hx
  have HV := Lib.hid hv
  have HXL := Lib.hid hxl
  have hi0x : i0 < xl := by omega
  unfold maxLen at hxm hcm
  clear hx hv hi hh hall hxl hi0 e0
  go_enter Try.func127, Try.ntmps127
  go_wp2_with (go_at_call 131; refine HI.out.mono ?_; rintro e w' ⟨rfl, rfl⟩)
  go_loopw [5, 6] (fun i j wr => ∃ (i' j' : Nat) (ys : List Int), i = .int .i64 i' ∧ j = .int .i64 j' ∧ j' ≤ xl ∧ DelI c xs ys i' j' ∧ OwnI wr b o ys ∧ w'.grownBy wr (some b)) (fun _ j _ => xl - (intOf j).toNat)
  case atStart => exact ⟨i0, i0 + 1, xs, rfl, by go_num, by omega, HS.out, HX.out, gbx_refl _ _⟩
  case round =>
    obtain ⟨i, j, ys, rfl, rfl, hj, hD, hO, hgr⟩ := hrel
    have HD := Lib.hid hD
    have HO := Lib.hid hO
    have HG := Lib.hid hgr
    have hlt := hD.lt
    by_cases hlj : j < xl
    · have hj2 : j < xs.length := by rw [HXL.out]; exact hlj
      obtain ⟨hy, hyx⟩ := hD.get hj2
      have cj := (hO j hy).1
      rw [hyx] at cj
      have hiy : i < ys.length := by omega
      obtain ⟨ci, fi⟩ := hO i hiy
      have hjz : (j : Int) < (xl : Int) := by omega
      have hVj := HV.out j hj2
      have HK := Lib.hid (HD.out.keep hj2)
      have HSK := Lib.hid (HD.out.skip hj2)
      clear hD hO hgr hyx
      generalize xs[j] = v at *
      generalize ys[i] = old at *
      rcases hv : hasI c v with - | -
      · have HC := Lib.hid (hasI_any c v _ hv hc hVj.1 hVj.2 wr)
        have HK2 := Lib.hid (HK.out hv)
        clear HK HSK
        go_wp2_with (go_at_call 120; refine HC.out.mono ?_; rintro e w' ⟨rfl, rfl⟩)
        go_roundw
        case rel => exact ⟨_, _, _, _, _, _, _, _, _, _, _, _, _, _, _, _, _, _, _, _, _, _, _, ⟨i + 1, j + 1, _, by go_num, by go_num, by omega, HK2.out, HO.out.set i v, gbx_set HG.out _ _⟩, rfl⟩
        case measure => simp [intOf]; omega
      · have HC := Lib.hid (hasI_any c v _ hv hc hVj.1 hVj.2 wr)
        have HK2 := Lib.hid (HSK.out hv)
        clear HK HSK
        go_wp2_with (go_at_call 120; refine HC.out.mono ?_; rintro e w' ⟨rfl, rfl⟩)
        go_roundw
        case rel => exact ⟨_, _, _, _, _, _, _, _, _, _, _, _, _, _, _, _, _, _, _, _, _, _, _, ⟨i, j + 1, ys, rfl, by go_num, by omega, HK2.out, HO.out, HG.out⟩, rfl⟩
        case measure => simp [intOf]; omega
    · obtain rfl : xl = j := by omega
      have hlz : ¬ (xl : Int) < (xl : Int) := by omega
      have hyl := hD.len.trans HXL.out
      have hcl : Sem.run Try.prog (Builtin.clear_ #[27] 0 #[.slice (some ⟨b, o + i, none⟩) (xl - i) (xc - i)]) wr = .ok (.tuple #[]) (wr.setCells b (o + i) (List.replicate (xl - i) (.int .i64 0))) :=
        Lib.run_clear_slice wr _ 3 _ (.int .i64 0) (by kernel_rfl) (fun w => by kernel_rfl) rfl rfl b (o + i) _ _ (by omega) (fun t ht => by rw [Nat.add_assoc, (hO (i + t) (by omega)).1]; rfl) (fun t ht => by rw [Nat.add_assoc]; exact (hO (i + t) (by omega)).2)
      clear hgr hD hO
      go_wp2_with fail
      go_ret
      have hD := HD.out
      have htk : xs.take xl = xs := List.take_of_length_le (by have := HXL.out; omega)
      have hfr := hD.front
      have hil := hD.i_is
      rw [htk] at hfr hil
      refine ⟨by rw [hil]; rfl, gbx_sets _ _ HG.out, fun t ht => ?_⟩
      have hti : t < i := by omega
      obtain ⟨q1, q2⟩ := HO.out t (by omega)
      refine ⟨?_, (World.frozen?_setCells b _ _ _ _).trans q2⟩
      rw [World.cell?_setCells_out b _ _ _ _ (fun _ _ => .inl (by simp; omega)), q1]
      simp only [← hfr, List.getElem_take]
end Go.Proofs.Ytcklhojeneejiaa
