/- Package changes: slices.DeleteFunc at what lacks a change. -/
import Derived.Test.YtedfdhpggghjeaaCK
import Derived.Lib.SliceRun
import Derived.Laws.IdiomCopy
namespace Go.Proofs.Ytedfdhpggghjeaa
set_option linter.unusedVariables false
set_option linter.unusedSimpArgs false
open Go.RowKit Go.Shelf

/-- Where the first piece of a predicate is, -1 if nowhere. -/
def idxQ (q : Int → Bool) (xs : List Int) : Int := match xs.findIdx? q with
  | some i => (i : Int)
  | none => -1
theorem idxQ_at {q : Int → Bool} {xs : List Int} {k : Nat} (h : k < xs.length) (hk : q xs[k] = true) (hb : ∀ i (hi : i < xs.length), i < k → q xs[i] = false) : idxQ q xs = (k : Int) := by
  have : xs.findIdx? q = some k := by
    rw [List.findIdx?_eq_some_iff_getElem]
    exact ⟨h, hk, fun j hj => by simpa using hb j (by omega) hj⟩
  unfold idxQ; rw [this]
theorem idxQ_no {q : Int → Bool} {xs : List Int} (hb : ∀ i (hi : i < xs.length), q xs[i] = false) : idxQ q xs = -1 := by
  have : xs.findIdx? q = none := by
    rw [List.findIdx?_eq_none_iff]
    intro y hy
    obtain ⟨i, hi, rfl⟩ := List.mem_iff_getElem.1 hy
    exact hb i hi
  unfold idxQ; rw [this]
def keepQ (q : Int → Bool) (xs : List Int) : List Int := xs.filter fun v => !q v
/-- A row that may be written reads so. -/
def OwnI (w : World) (b o : Nat) (ys : List Int) : Prop := ∀ t (h : t < ys.length), w.cell? ⟨b, o + t, none⟩ = some (.int .i64 ys[t]) ∧ w.frozen? ⟨b, o + t, none⟩ = false
theorem OwnI.set {w : World} {b o : Nat} {ys : List Int} (h : OwnI w b o ys) (i : Nat) (v : Int) : OwnI (w.setCell ⟨b, o + i, none⟩ (.int .i64 v)) b o (ys.set i v) := fun t ht => by
  have ht2 : t < ys.length := by simpa using ht
  obtain ⟨h1, h2⟩ := h t ht2
  refine ⟨?_, set_frz h2⟩
  by_cases e : i = t
  · subst e; rw [List.getElem_set_self]; exact set_cell h1
  · rw [List.getElem_set_ne e]
    exact (set_cell' (fun h => e (by omega))).trans h1
theorem gbx_sets {w : World} {b : Nat} : ∀ (vs : List Value) (o : Nat) {w' : World}, w.grownBy w' (some b) → w.grownBy (w'.setCells b o vs) (some b)
  | [], _, _, h => h
  | _ :: vs, o, _, h => gbx_sets vs (o + 1) (gbx_set h _ _)

/-- How far the deleting has come: what is kept so far in front, what is not yet seen behind. -/
structure DelQ (q : Int → Bool) (xs ys : List Int) (i j : Nat) : Prop where
  len : ys.length = xs.length
  i_is : i = (keepQ q (xs.take j)).length
  lt : i < j
  front : ys.take i = keepQ q (xs.take j)
  behind : ys.drop j = xs.drop j
theorem keep_snoc (q : Int → Bool) (xs : List Int) (j : Nat) (h : j < xs.length) : keepQ q (xs.take (j + 1)) = keepQ q (xs.take j) ++ (if q xs[j] then [] else [xs[j]]) := by
  unfold keepQ
  rw [List.take_succ_eq_append_getElem h, List.filter_append]
  congr 1
  cases hv : q xs[j] <;> simp [hv]
theorem DelQ.get {q : Int → Bool} {xs ys : List Int} {i j : Nat} (h : DelQ q xs ys i j) (hj : j < xs.length) : ∃ h2 : j < ys.length, ys[j] = xs[j] := by
  have h2 : j < ys.length := by rw [h.len]; exact hj
  refine ⟨h2, ?_⟩
  have := congrArg (·[0]?) h.behind
  simp only [List.getElem?_drop, Nat.add_zero] at this
  rw [List.getElem?_eq_getElem h2, List.getElem?_eq_getElem hj] at this
  injection this
theorem DelQ.skip {q : Int → Bool} {xs ys : List Int} {i j : Nat} (h : DelQ q xs ys i j) (hj : j < xs.length) (hv : q xs[j] = true) : DelQ q xs ys i (j + 1) := by
  have hk := keep_snoc q xs j hj
  rw [hv, if_pos rfl, List.append_nil] at hk
  refine ⟨h.len, by rw [hk]; exact h.i_is, by have := h.lt; omega, by rw [hk]; exact h.front, ?_⟩
  have := congrArg (List.drop 1) h.behind
  simpa only [List.drop_drop] using this
theorem DelQ.keep {q : Int → Bool} {xs ys : List Int} {i j : Nat} (h : DelQ q xs ys i j) (hj : j < xs.length) (hv : q xs[j] = false) : DelQ q xs (ys.set i xs[j]) (i + 1) (j + 1) := by
  have hk := keep_snoc q xs j hj
  rw [hv, if_neg (by simp)] at hk
  have hlt := h.lt
  have hly : i < ys.length := by rw [h.len]; omega
  refine ⟨by simpa using h.len, by rw [hk, List.length_append, ← h.i_is]; rfl, by omega, ?_, ?_⟩
  · rw [hk, ← h.front, List.take_succ_eq_append_getElem (by simpa using hly), List.getElem_set_self, List.take_set_of_le (Nat.le_refl _)]
  · rw [List.drop_set_of_lt (by omega)]
    have := congrArg (List.drop 1) h.behind
    simpa only [List.drop_drop] using this
theorem DelQ.start {q : Int → Bool} {xs : List Int} {i : Nat} (h : i < xs.length) (hb : ∀ t (ht : t < xs.length), t < i → q xs[t] = false) (hv : q xs[i] = true) : DelQ q xs xs i (i + 1) := by
  have hall : keepQ q (xs.take i) = xs.take i := by
    unfold keepQ
    rw [List.filter_eq_self]
    intro v hv
    obtain ⟨t, ht, rfl⟩ := List.mem_iff_getElem.1 hv
    rw [List.length_take] at ht
    rw [List.getElem_take, hb t (by omega) (by omega)]; rfl
  have hk := keep_snoc q xs i h
  rw [hv, if_pos rfl, List.append_nil, hall] at hk
  exact ⟨rfl, by rw [hk, List.length_take]; omega, by omega, hk.symm, rfl⟩
theorem idxQ_some {q : Int → Bool} {xs : List Int} (h : xs.findIdx? q ≠ none) : ∃ (i : Nat) (hi : i < xs.length), idxQ q xs = (i : Int) ∧ q xs[i] = true ∧ ∀ t (ht : t < xs.length), t < i → q xs[t] = false := by
  cases e : xs.findIdx? q with
  | none => exact absurd e h
  | some i =>
    obtain ⟨h1, h2, h3⟩ := List.findIdx?_eq_some_iff_getElem.1 e
    exact ⟨i, h1, by unfold idxQ; rw [e], h2, fun t ht hti => by simpa using h3 t hti⟩
theorem idxQ_none {q : Int → Bool} {xs : List Int} (h : xs.findIdx? q = none) : idxQ q xs = -1 ∧ keepQ q xs = xs := by
  refine ⟨by unfold idxQ; rw [h], ?_⟩
  unfold keepQ
  rw [List.filter_eq_self]
  intro v hv
  rw [List.findIdx?_eq_none_iff.1 h v hv]; rfl

/-- The function that tells which plates have a change. -/
def LackQ (q : Int → Bool) (p1 p2 : Addr) (v : Int) (W : World) : Prop :=
  Calls Try.prog 91 #[.int .i64 v, .pointer (some p1), .pointer (some p2)] W fun e w' => e = .returned (.bool (q v)) ∧ Below W.heap.size W w'
set_option maxHeartbeats 4000000 in
theorem IndexQ_any (q : Int → Bool) (p1 p2 : Addr) (xa : Option Addr) (xl xc : Nat) (xs : List Int) (w : World) (hx : IntsAt w xa xl xs) (hq : ∀ i (hi : i < xs.length) W, Below w.heap.size w W → LackQ q p1 p2 xs[i] W) :
    Calls Try.prog 104 #[.slice xa xl xc, .func (.func 91) #[] #[.pointer (some p1), .pointer (some p2)]] w fun e w' => e = .returned (.int .i64 (idxQ q xs)) ∧ Below w.heap.size w w' := by
  obtain ⟨hxl, hxm, hxc⟩ := hx
  unfold maxLen at hxm
  have HXL := Lib.hid hxl
  have HXC := Lib.hid hxc
  have HQ := Lib.hid (fun i (hi : i < xs.length) b (hb : q xs[i] = b) W (hw : Below w.heap.size w W) => show Calls Try.prog 91 #[.int .i64 xs[i], .pointer (some p1), .pointer (some p2)] W fun e w' => e = .returned (.bool b) ∧ Below W.heap.size W w' from by have h := hq i hi W hw; unfold LackQ at h; rw [hb] at h; exact h)
  have HAT := Lib.hid (fun k (h : k < xs.length) (hk : q xs[k] = true) (hb : ∀ i (hi : i < xs.length), i < k → q xs[i] = false) => idxQ_at h hk hb)
  have HNO := Lib.hid (fun (hb : ∀ i (hi : i < xs.length), q xs[i] = false) => idxQ_no hb)
  clear hxl hxc hq
  go_enter Try.func104, Try.ntmps104
  go_wp2_with fail
  go_loopw [8] (fun i wr => ∃ k : Nat, k ≤ xl ∧ i = .int .i64 k ∧ (∀ i (hi : i < xs.length), i < k → q xs[i] = false) ∧ Below w.heap.size w wr) (fun i _ => xl - (intOf i).toNat)
  case atStart => exact ⟨0, by omega, rfl, fun i _ h => by omega, Below.refl _ _⟩
  case round =>
    obtain ⟨k, hk, rfl, hall, hB⟩ := hrel
    obtain ⟨W1, rfl⟩ : ∃ W1 : World, W1 = wr := ⟨_, rfl⟩
    have HALL := Lib.hid hall
    have HB := Lib.hid hB
    clear hall
    by_cases hlt : k < xl
    · have hk2 : k < xs.length := by rw [HXL.out]; exact hlt
      obtain ⟨xb, xo, rfl, hxB, hxcell⟩ := HXC.out (by omega)
      have cx := (hB.cell (p := ⟨xb, xo + k, none⟩) hxB).trans (hxcell k hk2)
      have hkl : (k : Int) < (xl : Int) := by omega
      have hk0 : (0 : Int) ≤ (k : Int) := by omega
      have HA := Lib.hid (fun h => HAT.out k hk2 h HALL.out)
      have HN := Lib.hid (fun (h : q xs[k] = false) => show ∀ i (hi : i < xs.length), i < k + 1 → q xs[i] = false from fun i hi hik => by
        by_cases e : i = k
        · subst e; exact h
        · exact HALL.out i hi (by omega))
      have HC0 := Lib.hid (HQ.out k hk2)
      clear hxcell hB HQ
      generalize xs[k] = v at *
      rcases hv : q v with - | -
      · have HN2 := Lib.hid (HN.out hv)
        have HC := Lib.hid (HC0.out false hv W1 HB.out)
        clear HA HN HC0
        go_wp2_with fail
        refine HC.out.mono ?_
        rintro e w' ⟨rfl, hb2⟩
        go_wp2_with fail
        go_roundw
        case rel => exact ⟨k + 1, by omega, by go_num, HN2.out, HB.out.trans (hb2.mono HB.out.size)⟩
        case measure => simp [intOf]; omega
      · have HR := Lib.hid (HA.out hv)
        have HC := Lib.hid (HC0.out true hv W1 HB.out)
        clear HA HN HC0
        go_wp2_with fail
        refine HC.out.mono ?_
        rintro e w' ⟨rfl, hb2⟩
        go_wp2_with fail
        go_ret
        exact ⟨ret_i64 HR.out.symm, HB.out.trans (hb2.mono HB.out.size)⟩
    · obtain rfl : xl = k := by omega
      have HR := Lib.hid (HNO.out (fun i hi => HALL.out i hi (by have := HXL.out; omega)))
      clear hB
      go_wp2_with fail
      go_ret
      exact ⟨ret_i64 HR.out.symm, HB.out⟩
set_option maxHeartbeats 1000000 in
theorem DeleteQ_none (q : Int → Bool) (p1 p2 : Addr) (xa : Option Addr) (xl xc : Nat) (xs : List Int) (w : World) (hx : IntsAt w xa xl xs) (hq : ∀ i (hi : i < xs.length) W, Below w.heap.size w W → LackQ q p1 p2 xs[i] W) (hi : xs.findIdx? q = none) :
    Calls Try.prog 89 #[.slice xa xl xc, .func (.func 91) #[] #[.pointer (some p1), .pointer (some p2)]] w fun e w' => e = .returned (.slice xa xl xc) ∧ Below w.heap.size w w' := by
  have HI := Lib.hid (IndexQ_any q p1 p2 xa xl xc xs w hx hq)
  rw [(idxQ_none hi).1] at HI
  clear hx hq hi
  go_enter Try.func89, Try.ntmps89
  go_wp2_with fail
  refine HI.out.mono ?_
  rintro e w' ⟨rfl, hb⟩
  go_wp2_with fail
  go_ret
  exact ⟨rfl, hb⟩

set_option maxRecDepth 100000 in
set_option maxHeartbeats 8000000 in
theorem DeleteQ_some (q : Int → Bool) (p1 p2 : Addr) (b o xl xc : Nat) (xs : List Int) (w : World) (hxl : xs.length = xl) (hxm : xl ≤ maxLen) (hcap : xl ≤ xc) (hcm : xc ≤ maxLen) (hbw : b < w.heap.size) (hx : OwnI w b o xs) (hq : ∀ i (hi : i < xs.length) W, w.grownBy W (some b) → LackQ q p1 p2 xs[i] W) (hi : xs.findIdx? q ≠ none) :
    Calls Try.prog 89 #[.slice (some ⟨b, o, none⟩) xl xc, .func (.func 91) #[] #[.pointer (some p1), .pointer (some p2)]] w fun e w' => e = .returned (.slice (some ⟨b, o, none⟩) (keepQ q xs).length xc) ∧ w.grownBy w' (some b) ∧ OwnI w' b o (keepQ q xs) := by
  have HI := Lib.hid (IndexQ_any q p1 p2 (some ⟨b, o, none⟩) xl xc xs w ⟨hxl, hxm, fun _ => ⟨b, o, rfl, hbw, fun i h => (hx i h).1⟩⟩ (fun i hi W hb => hq i hi W (grow_gb hb _)))
  obtain ⟨i0, hi0, e0, hh, hall⟩ := idxQ_some hi
  rw [e0] at HI
  have HS := Lib.hid (DelQ.start hi0 hall hh)
  have HX := Lib.hid hx
  have HQ := Lib.hid (fun i (hi : i < xs.length) b' (hb : q xs[i] = b') W (hw : w.grownBy W (some b)) => show Calls Try.prog 91 #[.int .i64 xs[i], .pointer (some p1), .pointer (some p2)] W fun e w' => e = .returned (.bool b') ∧ Below W.heap.size W w' from by have h := hq i hi W hw; unfold LackQ at h; rw [hb] at h; exact h)
  have HXL := Lib.hid hxl
  have hi0x : i0 < xl := by omega
  unfold maxLen at hxm hcm
  have hne : ((i0 : Int) == -1) = false := by simp
  clear hx hq hi hh hall hxl hi0 e0
  go_enter Try.func89, Try.ntmps89
  go_wp2_with fail
  refine HI.out.mono ?_
  rintro e w2 ⟨rfl, hb2⟩
  have HB2 := Lib.hid hb2
  have hz2 := hb2.size
  have hX2 : OwnI w2 b o xs := fun t ht => ⟨(hb2.cell (p := ⟨b, o + t, none⟩) hbw).trans (HX.out t ht).1, (hb2.frozen (p := ⟨b, o + t, none⟩) hbw).trans (HX.out t ht).2⟩
  have HX2 := Lib.hid hX2
  clear hb2 hX2
  go_wp2_with fail
  go_loopw [5, 6] (fun i j wr => ∃ (i' j' : Nat) (ys : List Int), i = .int .i64 i' ∧ j = .int .i64 j' ∧ j' ≤ xl ∧ DelQ q xs ys i' j' ∧ OwnI wr b o ys ∧ w.grownBy wr (some b)) (fun _ j _ => xl - (intOf j).toNat)
  case atStart => exact ⟨i0, i0 + 1, xs, rfl, by go_num, by omega, HS.out, HX2.out, grow_gb HB2.out _⟩
  case round =>
    obtain ⟨i, j, ys, rfl, rfl, hj, hD, hO, hgr⟩ := hrel
    obtain ⟨W1, rfl⟩ : ∃ W1 : World, W1 = wr := ⟨_, rfl⟩
    have HD := Lib.hid hD
    have HO := Lib.hid hO
    have HG := Lib.hid hgr
    have hlt := hD.lt
    have hbz : b < W1.heap.size := Nat.lt_of_lt_of_le hbw hgr.size
    by_cases hlj : j < xl
    · have hj2 : j < xs.length := by rw [HXL.out]; exact hlj
      obtain ⟨hy, hyx⟩ := hD.get hj2
      have cj := (hO j hy).1
      rw [hyx] at cj
      have hiy : i < ys.length := by omega
      obtain ⟨ci, fi⟩ := hO i hiy
      have hjz : (j : Int) < (xl : Int) := by omega
      have hj0 : (0 : Int) ≤ (j : Int) := by omega
      have hiz : (i : Int) < (xl : Int) := by omega
      have hi0 : (0 : Int) ≤ (i : Int) := by omega
      have HK := Lib.hid (HD.out.keep hj2)
      have HSK := Lib.hid (HD.out.skip hj2)
      have HC0 := Lib.hid (HQ.out j hj2)
      clear hD hO hgr hyx HQ
      generalize xs[j] = v at *
      generalize ys[i] = old at *
      rcases hv : q v with - | -
      · have HC := Lib.hid (HC0.out false hv W1 HG.out)
        have HK2 := Lib.hid (HK.out hv)
        clear HK HSK HC0
        go_wp2_with fail
        refine HC.out.mono ?_
        rintro e w3 ⟨rfl, hb3⟩
        have c3 := (hb3.cell (p := ⟨b, o + i, none⟩) hbz).trans ci
        have f3 := (hb3.frozen (p := ⟨b, o + i, none⟩) hbz).trans fi
        have HB3 := Lib.hid hb3
        have HO3 := Lib.hid (show OwnI w3 b o ys from fun t ht => ⟨(hb3.cell (p := ⟨b, o + t, none⟩) hbz).trans (HO.out t ht).1, (hb3.frozen (p := ⟨b, o + t, none⟩) hbz).trans (HO.out t ht).2⟩)
        clear hb3 ci fi cj
        go_wp2_with fail
        go_roundw
        case rel => exact ⟨i + 1, j + 1, _, by go_num, by go_num, by omega, HK2.out, HO3.out.set i v, gbx_set (gbx_below HB3.out HG.out) _ _⟩
        case measure => simp [intOf]; omega
      · have HC := Lib.hid (HC0.out true hv W1 HG.out)
        have HK2 := Lib.hid (HSK.out hv)
        clear HK HSK HC0
        go_wp2_with fail
        refine HC.out.mono ?_
        rintro e w3 ⟨rfl, hb3⟩
        have HB3 := Lib.hid hb3
        have HO3 := Lib.hid (show OwnI w3 b o ys from fun t ht => ⟨(hb3.cell (p := ⟨b, o + t, none⟩) hbz).trans (HO.out t ht).1, (hb3.frozen (p := ⟨b, o + t, none⟩) hbz).trans (HO.out t ht).2⟩)
        clear hb3 ci fi cj
        go_wp2_with fail
        go_roundw
        case rel => exact ⟨i, j + 1, ys, rfl, by go_num, by omega, HK2.out, HO3.out, gbx_below HB3.out HG.out⟩
        case measure => simp [intOf]; omega
    · obtain rfl : xl = j := by omega
      have hlz : ¬ (xl : Int) < (xl : Int) := by omega
      have hyl := hD.len.trans HXL.out
      have hcl : Sem.run Try.prog (Builtin.clear_ #[39] 0 #[.slice (some ⟨b, o + i, none⟩) (xl - i) (xc - i)]) W1 = .ok (.tuple #[]) (W1.setCells b (o + i) (List.replicate (xl - i) (.int .i64 0))) :=
        Lib.run_clear_slice W1 _ 3 _ (.int .i64 0) (by kernel_rfl) (fun w => by kernel_rfl) rfl rfl b (o + i) _ _ (by omega) (fun t ht => by rw [Nat.add_assoc, (hO (i + t) (by omega)).1]; rfl) (fun t ht => by rw [Nat.add_assoc]; exact (hO (i + t) (by omega)).2)
      clear hgr hD hO
      go_wp2_with fail
      go_ret
      have hD := HD.out
      have htk : xs.take xl = xs := List.take_of_length_le (by have := HXL.out; omega)
      have hfr := hD.front
      have hil := hD.i_is
      rw [htk] at hfr hil
      refine ⟨by rw [hil]; rfl, gbx_sets _ _ HG.out, fun t ht => ?_⟩
      have hti : t < i := by omega
      obtain ⟨q1, q2⟩ := HO.out t (by omega)
      refine ⟨?_, (World.frozen?_setCells b _ _ _ _).trans q2⟩
      rw [World.cell?_setCells_out b _ _ _ _ (fun _ _ => .inl (by simp; omega)), q1]
      simp only [← hfr, List.getElem_take]
end Go.Proofs.Ytedfdhpggghjeaa
