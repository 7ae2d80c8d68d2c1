/- Package pages: slices.Index, above. -/
import Derived.Test.YtcklhojeneejiaaYG
namespace Go.Proofs.Ytcklhojeneejiaa
set_option linter.unusedVariables false
set_option linter.unusedSimpArgs false
open Go.RowKit

/-- Where a number is first, -1 if nowhere. -/
def idxI (xs : List Int) (n : Int) : Int := match xs.findIdx? (fun y => y == n) with
  | some i => (i : Int)
  | none => -1
theorem idx_at {xs : List Int} {n : Int} {k : Nat} (h : k < xs.length) (hk : xs[k] = n) (hb : ∀ i (hi : i < xs.length), i < k → xs[i] ≠ n) : idxI xs n = (k : Int) := by
  have : xs.findIdx? (fun y => y == n) = some k := by
    rw [List.findIdx?_eq_some_iff_getElem]
    exact ⟨h, by simpa using hk, fun j hj => by simpa using hb j (by omega) hj⟩
  unfold idxI; rw [this]
theorem idx_no {xs : List Int} {n : Int} (hb : ∀ i (hi : i < xs.length), xs[i] ≠ n) : idxI xs n = -1 := by
  have : xs.findIdx? (fun y => y == n) = none := by
    rw [List.findIdx?_eq_none_iff]
    intro y hy
    obtain ⟨i, hi, rfl⟩ := List.mem_iff_getElem.1 hy
    simpa using hb i hi
  unfold idxI; rw [this]
set_option maxHeartbeats 1000000 in
theorem Index_any (xa : Option Addr) (xl xc : Nat) (xs : List Int) (n : Int) (w : World) (hx : IntsAt w xa xl xs) :
    Calls Try.prog 124 #[.slice xa xl xc, .int .i64 n] w fun e w' => e = .returned (.int .i64 (idxI xs n)) ∧ Below w.heap.size w w' := by
  obtain ⟨hxl, hxm, hxc⟩ := hx
  unfold maxLen at hxm
  have HXL := Lib.hid hxl
  have HXC := Lib.hid hxc
  have HAT := Lib.hid (fun k (h : k < xs.length) (hk : xs[k] = n) (hb : ∀ i (hi : i < xs.length), i < k → xs[i] ≠ n) => idx_at h hk hb)
  have HNO := Lib.hid (fun (hb : ∀ i (hi : i < xs.length), xs[i] ≠ n) => idx_no hb)
  clear hxl hxc
  go_enter Try.func124, Try.ntmps124
  go_wp2_with fail
  go_loopw [8] (fun i wr => ∃ k : Nat, k ≤ xl ∧ i = .int .i64 k ∧ (∀ i (hi : i < xs.length), i < k → xs[i] ≠ n) ∧ w = wr) (fun i _ => xl - (intOf i).toNat)
  case atStart => exact ⟨0, by omega, rfl, fun i _ h => by omega, rfl⟩
  case round =>
    obtain ⟨k, hk, rfl, hall, rfl⟩ := hrel
    have HALL := Lib.hid hall
    clear hall
    by_cases hlt : k < xl
    · have hk2 : k < xs.length := by rw [HXL.out]; exact hlt
      obtain ⟨xb, xo, rfl, hxB, hxcell⟩ := HXC.out (by omega)
      have cx := hxcell k hk2
      have hkl : (k : Int) < (xl : Int) := by omega
      have hk0 : (0 : Int) ≤ (k : Int) := by omega
      have HA := Lib.hid (fun h => HAT.out k hk2 h HALL.out)
      have HN := Lib.hid (fun (h : ¬ xs[k] = n) => show ∀ i (hi : i < xs.length), i < k + 1 → xs[i] ≠ n from fun i hi hik => by
        by_cases e : i = k
        · subst e; exact h
        · exact HALL.out i hi (by omega))
      clear hxcell
      generalize xs[k] = v at *
      by_cases hv : v = n
      · subst hv
        have HR := Lib.hid (HA.out rfl)
        clear HA HN
        go_wp2_with fail
        go_ret
        exact ⟨ret_i64 HR.out.symm, Below.refl _ _⟩
      · have HN2 := Lib.hid (HN.out hv)
        have hv2 : (n == v) = false := by simpa using fun h => hv h.symm
        clear HA HN
        go_wp2_with fail
        go_roundw
        case rel => exact ⟨k + 1, by omega, by go_num, HN2.out, trivial⟩
        case measure => simp [intOf]; omega
    · obtain rfl : xl = k := by omega
      have HR := Lib.hid (HNO.out (fun i hi => HALL.out i hi (by have := HXL.out; omega)))
      go_wp2_with fail
      go_ret
      exact ⟨ret_i64 HR.out.symm, Below.refl _ _⟩

/-- A piece is in a column at a place. -/
def PFrame.at (f : PFrame) (n : Int) (ci k : Nat) : Prop := ∃ (h : ci < f.cols.length) (h2 : k < f.cols[ci].length), f.cols[ci][k] = n
theorem cnt_flat : ∀ (ls : List (List Int)) (ci : Nat) (h : ci < ls.length) (n : Int), ls[ci].count n ≤ ls.flatten.count n
  | [], _, h, _ => by simp at h
  | l :: ls, 0, _, n => by simp
  | l :: ls, ci + 1, h, n => by
    have := cnt_flat ls ci (by simpa using h) n
    rw [List.flatten_cons, List.count_append, List.getElem_cons_succ]; omega
theorem cnt_two : ∀ (ls : List (List Int)) (ci di : Nat) (h1 : ci < ls.length) (h2 : di < ls.length) (n : Int), ci < di → ls[ci].count n + ls[di].count n ≤ ls.flatten.count n
  | [], _, _, h, _, _, _ => by simp at h
  | l :: ls, 0, di + 1, _, h2, n, _ => by
    have := cnt_flat ls di (by simpa using h2) n
    rw [List.flatten_cons, List.count_append, List.getElem_cons_succ, List.getElem_cons_zero]; omega
  | l :: ls, ci + 1, di + 1, h1, h2, n, h => by
    have := cnt_two ls ci di (by simpa using h1) (by simpa using h2) n (by omega)
    rw [List.flatten_cons, List.count_append, List.getElem_cons_succ, List.getElem_cons_succ]; omega
theorem at_col {f : PFrame} (ho : f.ok = true) {n : Int} {ci di k l : Nat} (h1 : f.at n ci k) (h2 : f.at n di l) : ci = di := by
  obtain ⟨a1, a2, a3⟩ := h1
  obtain ⟨b1, b2, b3⟩ := h2
  have hc := (once_le f.flat).1 (PFrame.ok_flat ho).2.1 n
  have p1 : 0 < f.cols[ci].count n := List.count_pos_iff.2 (by rw [← a3]; exact List.getElem_mem _)
  have p2 : 0 < f.cols[di].count n := List.count_pos_iff.2 (by rw [← b3]; exact List.getElem_mem _)
  unfold PFrame.flat at hc
  rcases Nat.lt_trichotomy ci di with h | h | h
  · have := cnt_two f.cols ci di a1 b1 n h; omega
  · exact h
  · have := cnt_two f.cols di ci b1 a1 n h; omega
theorem at_some {f : PFrame} (ho : f.ok = true) {n : Int} (h0 : 0 ≤ n) (hn : n < (f.pieces.length : Int)) : ∃ ci k, f.at n ci k := by
  have hp : f.placed = true := by unfold PFrame.ok at ho; simp only [Bool.and_eq_true] at ho; exact ho.2
  rw [placed_times, Bool.and_eq_true] at hp
  have h1 := List.all_eq_true.1 hp.2 n.toNat (List.mem_range.2 (by omega))
  rw [decide_eq_true_eq, Int.toNat_of_nonneg h0] at h1
  have hm : n ∈ f.flat := List.count_pos_iff.1 (by omega)
  obtain ⟨l, hl, hnl⟩ := List.mem_flatten.1 hm
  obtain ⟨ci, hci, rfl⟩ := List.mem_iff_getElem.1 hl
  obtain ⟨k, hk, e⟩ := List.mem_iff_getElem.1 hnl
  exact ⟨ci, k, hci, hk, e⟩

def AbovePost (f : PFrame) (n : Int) (w : World) (e : Ending) (w' : World) : Prop :=
  Below w.heap.size w w' ∧ ∃ ci k a c, f.at n ci k ∧ e = .returned (.slice a k c) ∧ k ≤ c ∧ c ≤ maxLen ∧ IntsAt w a k ((f.cols[ci]?.getD []).take k)
set_option maxRecDepth 100000 in
set_option maxHeartbeats 4000000 in
theorem above_any (f : PFrame) (sa : Option Addr) (sl sc : Nat) (pa : Option Addr) (pl pc : Nat) (ca : Option Addr) (cl cc : Nat) (n : Int) (ho : f.ok = true) (h0 : 0 ≤ n) (hn : n < (f.pieces.length : Int)) (w : World) (hp : PAt w sa sl sc pa pl pc ca cl cc f) :
    Calls Try.prog 114 #[.agg #[.int .i64 f.len, .int .i64 f.slack, .slice sa sl sc, .slice pa pl pc, .slice ca cl cc], .int .i64 n] w fun e w' => AbovePost f n w e w' := by
  obtain ⟨hcl, hcm, hcc⟩ := hp.2.2
  have hcl3 := (PFrame.ok_parts ho).2.2.2.2.2.2
  obtain ⟨c9, k9, hat⟩ := at_some ho h0 hn
  have HIX := Lib.hid (fun xa xl xc xs W (hx : IntsAt W xa xl xs) r (hr : idxI xs n = r) => show Calls Try.prog 124 #[.slice xa xl xc, .int .i64 n] W fun e w' => e = .returned (.int .i64 r) ∧ Below W.heap.size W w' from hr ▸ Index_any xa xl xc xs n W hx)
  have HC6 := Lib.hid (fun ci (h : ci < f.cols.length) => (PFrame.ok_col ho ci h).2)
  have HCL := Lib.hid hcl
  have HCC := Lib.hid hcc
  have HAT := Lib.hid hat
  have hcl4 : cl ≤ 3 := by omega
  clear hp hcl hcm hcc ho h0 hn hcl3 hat
  go_enter Try.func114, Try.ntmps114
  go_wp2_with fail
  obtain ⟨W0, hW0, hB0, hs0, hz0⟩ := name1k w #[.int .i64 f.len, .int .i64 f.slack, .slice sa sl sc, .slice pa pl pc, .slice ca cl cc] 87
  rw [hW0]
  clear hW0
  have HB0 := Lib.hid hB0
  clear hB0 hs0
  go_loopw [12] (fun i wr => ∃ ci : Nat, ci ≤ cl ∧ i = .int .i64 ci ∧ (∀ k j, j < ci → ¬ f.at n j k) ∧ Below W0.heap.size W0 wr) (fun i _ => cl - (intOf i).toNat)
  case atStart => exact ⟨0, by omega, rfl, fun k j h => by omega, Below.refl _ _⟩
  case round =>
    obtain ⟨ci, hci, rfl, hall, hB⟩ := hrel
    have HALL := Lib.hid hall
    have HB := Lib.hid hB
    have hbw := HB0.out.trans (hB.mono HB0.out.size)
    have HBW := Lib.hid hbw
    clear hall
    by_cases hlt : ci < cl
    · have hci2 : ci < f.cols.length := by rw [HCL.out]; exact hlt
      obtain ⟨cb, co, rfl, hcB, hccell⟩ := HCC.out (by omega)
      obtain ⟨ra, rl, rc, hcell, ⟨hrc1, hrc2⟩, hri⟩ := hccell ci hci2
      have c0 := (hbw.cell (p := ⟨cb, co + ci, none⟩) hcB).trans hcell
      have h6 := HC6.out ci hci2
      have hkl : (ci : Int) < (cl : Int) := by omega
      have hk0 : (0 : Int) ≤ (ci : Int) := by omega
      have hrl := hri.1
      have HRI := Lib.hid hri
      have HXI := Lib.hid (HIX.out ra rl rc _ wr (hri.below hbw))
      clear hB hbw hccell hcell hri
      by_cases hex : ∃ k, ∃ hk : k < f.cols[ci].length, f.cols[ci][k] = n
      · -- the first of them
        obtain ⟨k, hk, hkn, hfst⟩ : ∃ k, ∃ hk : k < f.cols[ci].length, f.cols[ci][k] = n ∧ ∀ i (hi : i < f.cols[ci].length), i < k → f.cols[ci][i] ≠ n := by
          obtain ⟨k0, hk0', hk1⟩ := hex
          have : ∀ m, (∃ hm : m < f.cols[ci].length, f.cols[ci][m] = n) → ∃ k, ∃ hk : k < f.cols[ci].length, f.cols[ci][k] = n ∧ ∀ i (hi : i < f.cols[ci].length), i < k → f.cols[ci][i] ≠ n := by
            intro m
            induction m using Nat.strongRecOn with
            | ind m ih =>
              rintro ⟨hm, e⟩
              by_cases hx : ∃ j, ∃ hj : j < f.cols[ci].length, j < m ∧ f.cols[ci][j] = n
              · obtain ⟨j, hj, h1, h2⟩ := hx
                exact ih j h1 ⟨hj, h2⟩
              · exact ⟨m, hm, e, fun i hi him he => hx ⟨i, hi, him, he⟩⟩
          exact this k0 ⟨hk0', hk1⟩
        have HX1 := Lib.hid (HXI.out k (idx_at hk hkn hfst))
        have HP := Lib.hid (show f.at n ci k from ⟨hci2, hk, hkn⟩)
        have hkr : k ≤ rc := by omega
        have hkr' : (k : Int) ≤ (rc : Int) := by omega
        have hkn0 : (0 : Int) ≤ (k : Int) := by omega
        have hk6 : k ≤ 6 := by omega
        have HIN := Lib.hid (show IntsAt w ra k ((f.cols[ci]?.getD []).take k) from by
          rw [List.getElem?_eq_getElem hci2]
          obtain ⟨e1, e2, e3⟩ := HRI.out
          refine ⟨by simp; omega, by omega, fun hk0 => ?_⟩
          obtain ⟨b, o, ha, hb, hc⟩ := e3 (by omega)
          exact ⟨b, o, ha, hb, fun i hi => by
            have hi2 : i < f.cols[ci].length := by simp at hi; omega
            rw [hc i hi2]; simp [List.getElem_take]⟩)
        have hrl0 : 0 < rl := by omega
        obtain ⟨rb, ro, rfl, -, -⟩ := HRI.out.2.2 hrl0
        clear hex hfst hkn hk HXI
        go_wp2_with fail
        refine HX1.out.mono ?_
        rintro e w2 ⟨rfl, hb2⟩
        have HB2 := Lib.hid (HBW.out.trans (hb2.mono HBW.out.size))
        clear hb2
        go_wp2_with fail
        go_ret
        unfold AbovePost
        exact ⟨HB2.out, ci, k, _, _, HP.out, rfl, hkr, hrc2, HIN.out⟩
      · have HX1 := Lib.hid (HXI.out (-1) (idx_no (fun i hi he => hex ⟨i, hi, he⟩)))
        have HN := Lib.hid (show ∀ k j, j < ci + 1 → ¬ f.at n j k from fun k j hj hat => by
          by_cases e : j = ci
          · subst e
            obtain ⟨_, h2, h3⟩ := hat
            exact hex ⟨k, h2, h3⟩
          · exact HALL.out k j (by omega) hat)
        clear hex HXI
        go_wp2_with fail
        refine HX1.out.mono ?_
        rintro e w2 ⟨rfl, hb2⟩
        have HB2 := Lib.hid (HB.out.trans (hb2.mono HB.out.size))
        clear hb2
        go_wp2_with fail
        go_roundw
        case rel => exact ⟨ci + 1, by omega, by go_num, HN.out, HB2.out⟩
        case measure => simp [intOf]; omega
    · exfalso
      obtain ⟨a1, -, -⟩ := HAT.out
      have := HCL.out
      exact HALL.out k9 c9 (by omega) HAT.out
end Go.Proofs.Ytcklhojeneejiaa
