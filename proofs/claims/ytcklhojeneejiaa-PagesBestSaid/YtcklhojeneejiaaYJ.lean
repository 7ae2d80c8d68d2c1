/- YI YJ, joined. -/
import Derived.Test.YtcklhojeneejiaaYH
/- Package pages: gap. -/
namespace Go.Proofs.Ytcklhojeneejiaa
set_option linter.unusedVariables false
set_option linter.unusedSimpArgs false
open Go.RowKit

/-- Without what is ahead of both. -/
def stripC : List Int → List Int → List Int × List Int
  | x :: xs, y :: ys => if x = y then stripC xs ys else (x :: xs, y :: ys)
  | xs, ys => (xs, ys)
def lenV : Value → Nat
  | .slice _ l _ => l
  | _ => 0
theorem set_same {w : World} {a : Addr} {u v : Value} (h : w.cell? a = some u) : (w.setCell a v).cell? a = some v := World.cell?_setCell_same' w a v (by rw [h]; rfl)
theorem below_drewN (B : Nat) (w : World) (n : Nat) : Below B w (w.drewN n) := ⟨rfl, rfl, rfl, Nat.le_refl _, fun _ _ => rfl⟩
theorem bothS_below {W0 W wA : World} (h : Below W0.heap.size W0 W ∧ ∀ b o, b < W0.heap.size → W.cell? ⟨b, o, none⟩ = W0.cell? ⟨b, o, none⟩) (hb : Below W.heap.size W wA) : Below W0.heap.size W0 wA ∧ ∀ b o, b < W0.heap.size → wA.cell? ⟨b, o, none⟩ = W0.cell? ⟨b, o, none⟩ :=
  ⟨h.1.trans (hb.mono h.1.size), fun b o hbo => (h.1.trans (hb.mono h.1.size)).cell (p := ⟨b, o, none⟩) hbo⟩
theorem strip_sub : ∀ (xs ys : List Int), (∀ x ∈ (stripC xs ys).1, x ∈ xs) ∧ (∀ y ∈ (stripC xs ys).2, y ∈ ys) ∧ (stripC xs ys).1.length ≤ xs.length ∧ (stripC xs ys).2.length ≤ ys.length
  | [], ys => by simp [stripC]
  | x :: xs, [] => by simp [stripC]
  | x :: xs, y :: ys => by
    unfold stripC
    split
    · obtain ⟨h1, h2, h3, h4⟩ := strip_sub xs ys
      exact ⟨fun z hz => List.mem_cons_of_mem _ (h1 z hz), fun z hz => List.mem_cons_of_mem _ (h2 z hz), by simp; omega, by simp; omega⟩
    · exact ⟨fun z hz => hz, fun z hz => hz, Nat.le_refl _, Nat.le_refl _⟩
theorem ints_tail {w : World} {b o l : Nat} {x : Int} {xs : List Int} (h : IntsAt w (some ⟨b, o, none⟩) (l + 1) (x :: xs)) : IntsAt w (some ⟨b, o + 1, none⟩) l xs := by
  obtain ⟨h1, h2, h3⟩ := h
  obtain ⟨b', o', e, hb, hc⟩ := h3 (by omega)
  injection e with e
  injection e with e1 e2
  subst e1 e2
  refine ⟨by simpa using h1, by omega, fun h0 => ⟨b, o + 1, rfl, hb, fun i hi => ?_⟩⟩
  have := hc (i + 1) (by simpa using hi)
  rw [show o + 1 + i = o + (i + 1) by omega]
  simpa using this

theorem ints_tail2 {w : World} {b o l c : Nat} {x : Int} {xs : List Int} (hlc : l + 1 ≤ c) (h : IntsAt w (some ⟨b, o, none⟩) (l + 1) (x :: xs)) : IntsAt w (if c = 1 then some ⟨b, o, none⟩ else some ⟨b, o + 1, none⟩) l xs := by
  have ht := ints_tail h
  by_cases hc : c = 1
  · rw [if_pos hc]
    obtain rfl : l = 0 := by omega
    obtain rfl : xs = [] := List.length_eq_zero_iff.1 ht.1
    exact ⟨rfl, by unfold maxLen; omega, fun h => by omega⟩
  · rw [if_neg hc]; exact ht

def PFrame.gapLo (f : PFrame) (X Y : List Int) : Int := f.loS (stripC X Y).2 - f.hiS (stripC X Y).1
def PFrame.gapHi (f : PFrame) (X Y : List Int) : Int := f.hiS (stripC X Y).2 - f.loS (stripC X Y).1
def PFrame.ahead (f : PFrame) (ci a : Nat) : List Int := (f.cols[ci]?.getD []).take a
def GapPost (f : PFrame) (one other : Int) (e : Ending) : Prop :=
  ∃ ci a di b, f.at one ci a ∧ f.at other di b ∧ e = .returned (.agg #[.int .i64 (f.gapLo (f.ahead ci a) (f.ahead di b)), .int .i64 (f.gapHi (f.ahead ci a) (f.ahead di b))])
theorem ahead_in {f : PFrame} (ho : f.ok = true) {n : Int} {ci a : Nat} (h : f.at n ci a) : (∀ x ∈ f.ahead ci a, 0 ≤ x ∧ x < (f.pieces.length : Int)) ∧ (f.ahead ci a).length ≤ 6 := by
  obtain ⟨h1, h2, -⟩ := h
  obtain ⟨h3, h4⟩ := PFrame.ok_col ho ci h1
  unfold PFrame.ahead
  rw [List.getElem?_eq_getElem h1]
  exact ⟨fun x hx => h3 x (List.mem_of_mem_take hx), by simp; omega⟩

set_option maxRecDepth 100000 in
set_option maxHeartbeats 8000000 in
theorem gap_any (f : PFrame) (sa : Option Addr) (sl sc : Nat) (pa : Option Addr) (pl pc : Nat) (ca : Option Addr) (cl cc : Nat) (one other : Int) (ho : f.ok = true) (h0 : 0 ≤ one) (hn : one < (f.pieces.length : Int)) (h1 : 0 ≤ other) (hn1 : other < (f.pieces.length : Int)) (w : World) (hp : PAt w sa sl sc pa pl pc ca cl cc f) :
    Calls Try.prog 100 #[.agg #[.int .i64 f.len, .int .i64 f.slack, .slice sa sl sc, .slice pa pl pc, .slice ca cl cc], .int .i64 one, .int .i64 other] w fun e w' => GapPost f one other e ∧ Below w.heap.size w w' := by
  have HAB := Lib.hid (fun n (h0 : 0 ≤ n) (hn : n < (f.pieces.length : Int)) W (hb : Below w.heap.size w W) => show Calls Try.prog 114 #[.agg #[.int .i64 f.len, .int .i64 f.slack, .slice sa sl sc, .slice pa pl pc, .slice ca cl cc], .int .i64 n] W fun e w' => (∃ ci k a c, f.at n ci k ∧ e = .returned (.slice a k c) ∧ k ≤ c ∧ c ≤ maxLen ∧ IntsAt W a k (f.ahead ci k)) ∧ Below W.heap.size W w' from
    (above_any f sa sl sc pa pl pc ca cl cc n ho h0 hn W (hp.below hb)).mono fun e w' h => ⟨h.2, h.1⟩)
  have HHE := Lib.hid (fun xa xl xc xs (hin : ∀ x ∈ xs, 0 ≤ x ∧ x < (f.pieces.length : Int)) (h6 : xs.length ≤ 6) W (hb : Below w.heap.size w W) (hx : IntsAt W xa xl xs) => height_any f sa sl sc pa pl pc ca cl cc xa xl xc xs ho hin h6 W (hp.below hb) hx)
  have HIN := Lib.hid (fun n ci a (h : f.at n ci a) => ahead_in ho h)
  have HLB := Lib.hid (fun xs (h6 : xs.length ≤ 6) => PFrame.loS_bd ho xs h6)
  have HHB := Lib.hid (fun xs (h6 : xs.length ≤ 6) => PFrame.hiS_bd ho xs h6)
  have HA1 := Lib.hid (HAB.out one h0 hn)
  have HA2 := Lib.hid (HAB.out other h1 hn1)
  clear hp ho HAB h0 h1 hn hn1
  go_enter Try.func100, Try.ntmps100
  go_wp2_with fail
  obtain ⟨W0, hW0, hB0, ha0, hr0, -, hrf, hz0⟩ := name2 w #[.int .i64 f.len, .int .i64 f.slack, .slice sa sl sc, .slice pa pl pc, .slice ca cl cc] 87 #[.int .i64 0, .int .i64 0] 32
  rw [hW0]
  clear hW0
  have z0 : w.heap.size < W0.heap.size := by omega
  have z1 : w.heap.size + 1 < W0.heap.size := by omega
  have HX1 := Lib.hid (fun W (h : Below W0.heap.size W0 W ∧ ∀ b o, b < W0.heap.size → W.cell? ⟨b, o, none⟩ = W0.cell? ⟨b, o, none⟩) => HA1.out W (hB0.trans (h.1.mono hB0.size)))
  have HX2 := Lib.hid (fun W (h : Below W0.heap.size W0 W ∧ ∀ b o, b < W0.heap.size → W.cell? ⟨b, o, none⟩ = W0.cell? ⟨b, o, none⟩) => HA2.out W (hB0.trans (h.1.mono hB0.size)))
  obtain ⟨x0, x1, x2, x3, x4⟩ : W0.cell? ⟨w.heap.size, 0, none⟩ = some (.int .i64 f.len) ∧ W0.cell? ⟨w.heap.size, 1, none⟩ = some (.int .i64 f.slack) ∧ W0.cell? ⟨w.heap.size, 2, none⟩ = some (.slice sa sl sc) ∧ W0.cell? ⟨w.heap.size, 3, none⟩ = some (.slice pa pl pc) ∧ W0.cell? ⟨w.heap.size, 4, none⟩ = some (.slice ca cl cc) := ⟨ha0 0, ha0 1, ha0 2, ha0 3, ha0 4⟩
  have HB0 := Lib.hid hB0
  have HA0 := Lib.hid ha0
  have HR0 := Lib.hid hr0
  have HRF := Lib.hid hrf
  clear hB0 ha0 hr0 hrf hz0
  go_upto_region 1 with fail
  go_cut [7, 8] (fun v7 v8 wx => ∃ ci a aa ac di b ba bc, f.at one ci a ∧ f.at other di b ∧ v7 = .slice aa a ac ∧ v8 = .slice ba b bc ∧ a ≤ ac ∧ ac ≤ maxLen ∧ b ≤ bc ∧ bc ≤ maxLen ∧ IntsAt wx aa a (f.ahead ci a) ∧ IntsAt wx ba b (f.ahead di b) ∧ Below W0.heap.size W0 wx)
  case first =>
    go_region_held3 (fun w' => Below W0.heap.size W0 w' ∧ ∀ b o, b < W0.heap.size → w'.cell? ⟨b, o, none⟩ = W0.cell? ⟨b, o, none⟩) (first | with_reducible assumption | ((repeat (first | with_reducible refine bothS_drew ?_ | with_reducible refine bothS_alloc _ ?_ | with_reducible refine bothS_set _ _ (by first | omega | (simp; omega) | simp) ?_)); first | with_reducible assumption | with_reducible exact Hid.out (by assumption) | with_reducible exact ⟨Below.refl _ _, fun _ _ _ => rfl⟩)) (first
      | (go_at_call 114; with_reducible refine (HX1.out _ ?_).mono ?_; (· (first | with_reducible assumption | ((repeat (first | with_reducible refine bothS_drew ?_ | with_reducible refine bothS_alloc _ ?_ | with_reducible refine bothS_set _ _ (by first | omega | (simp; omega) | simp) ?_)); first | with_reducible assumption | with_reducible exact Hid.out (by assumption) | with_reducible exact ⟨Below.refl _ _, fun _ _ _ => rfl⟩))); rintro e wA ⟨⟨ci, a, aa, ac, hat, rfl, hac, hacm, hI⟩, hbA⟩; have kA := bothS_below (by assumption) hbA; have HIA := Lib.hid (hI.below hbA); clear hI hbA)
      | (go_at_call 114; with_reducible refine (HX2.out _ ?_).mono ?_; (· (first | with_reducible assumption | ((repeat (first | with_reducible refine bothS_drew ?_ | with_reducible refine bothS_alloc _ ?_ | with_reducible refine bothS_set _ _ (by first | omega | (simp; omega) | simp) ?_)); first | with_reducible assumption | with_reducible exact Hid.out (by assumption) | with_reducible exact ⟨Below.refl _ _, fun _ _ _ => rfl⟩))); rintro e wB ⟨⟨di, b, ba, bc, hbt, rfl, hbc, hbcm, hI⟩, hbB⟩; have kB := bothS_below (by assumption) hbB; have HIB := Lib.hid (hI.below hbB); have HIA2 := Lib.hid (HIA.out.below hbB); clear hI hbB)
      | fail "no arm")
    all_goals (go_wp2_with fail; go_meet; exact ⟨ci, a, aa, ac, di, b, ba, bc, hat, hbt, rfl, rfl, hac, hacm, hbc, hbcm, HIA2.out, HIB.out, And.left (by assumption)⟩)
  case rest =>
  obtain ⟨ci, a, aa, ac, di, b, ba, bc, hat, hbt, rfl, rfl, hac, hacm, hbc, hbcm, hIA, hIB, hB1⟩ := hcut
  obtain ⟨w1, rfl⟩ : ∃ w1 : World, w1 = wc := ⟨_, rfl⟩
  have HPT := Lib.hid (show f.at one ci a ∧ f.at other di b from ⟨hat, hbt⟩)
  obtain ⟨i1, i2⟩ := HIN.out one ci a hat
  obtain ⟨i3, i4⟩ := HIN.out other di b hbt
  have HIX := Lib.hid i1
  have HIY := Lib.hid i3
  have HAA := Lib.hid hIA
  have HBB := Lib.hid hIB
  have HB1 := Lib.hid hB1
  clear x0 x1 x2 x3 x4
  clear hat hbt hIA hIB hB1 i1 i3 HX1 HX2 HA1 HA2 HIN
  generalize hX : f.ahead ci a = X at *
  generalize hY : f.ahead di b = Y at *
  have HX := Lib.hid hX
  have HY := Lib.hid hY
  clear hX hY
  unfold maxLen at hacm hbcm
  go_wp2_with fail
  go_loopw [7, 8] (fun v7 v8 wr => ∃ pa' al ac' xs pb' bl bc' ys, v7 = .slice pa' al ac' ∧ v8 = .slice pb' bl bc' ∧ al ≤ ac' ∧ ac' ≤ 9223372036854775807 ∧ bl ≤ bc' ∧ bc' ≤ 9223372036854775807 ∧ xs.length ≤ 6 ∧ ys.length ≤ 6 ∧ IntsAt w1 pa' al xs ∧ IntsAt w1 pb' bl ys ∧ stripC xs ys = stripC X Y ∧ Below w1.heap.size w1 wr) (fun v7 _ _ => lenV v7)
  case atStart => exact ⟨aa, a, ac, X, ba, b, bc, Y, rfl, rfl, hac, by omega, hbc, by omega, i2, i4, HAA.out, HBB.out, rfl, Below.refl _ _⟩
  case round =>
    obtain ⟨pa', al, ac', xs, pb', bl, bc', ys, rfl, rfl, hl1, hl2, hl3, hl4, hx6, hy6, hxs, hys, hst, hB⟩ := hrel
    have HB := Lib.hid hB
    have HST := Lib.hid hst
    have HXS := Lib.hid hxs
    have HYS := Lib.hid hys
    have HS0 := Lib.hid (show Below w1.heap.size w1 wr ∧ ∀ b o, b < w1.heap.size → wr.cell? ⟨b, o, none⟩ = w1.cell? ⟨b, o, none⟩ from ⟨hB, fun b o hb => hB.cell (p := ⟨b, o, none⟩) hb⟩)
    cases xs with
    | nil =>
      obtain rfl : al = 0 := by have := hxs.1; simpa using this.symm
      have hEX : stripC X Y = ([], ys) := by rw [← hst]; simp [stripC]
      obtain ⟨us, hus⟩ : ∃ us : List Int, us = [] := ⟨_, rfl⟩
      rw [← hus] at hEX HXS hx6
      clear hB hst hxs hys hus HST
      go_wp2_with fail
      go_quiet (fail)
      go_wp2_with fail
      have HSQ := Lib.hid (bothS_below HS0.out (below_drewN _ wr nq))
      generalize wr.drewN nq = wq at HSQ ⊢
      clear HS0
      have hzq : w1.heap.size ≤ wq.heap.size := HSQ.out.1.size
      obtain ⟨x0, x1, x2, x3, x4⟩ : w1.cell? ⟨w.heap.size, 0, none⟩ = some (.int .i64 f.len) ∧ w1.cell? ⟨w.heap.size, 1, none⟩ = some (.int .i64 f.slack) ∧ w1.cell? ⟨w.heap.size, 2, none⟩ = some (.slice sa sl sc) ∧ w1.cell? ⟨w.heap.size, 3, none⟩ = some (.slice pa pl pc) ∧ w1.cell? ⟨w.heap.size, 4, none⟩ = some (.slice ca cl cc) := ⟨(HB1.out.cell (p := ⟨w.heap.size, 0, none⟩) z0).trans (HA0.out 0), (HB1.out.cell (p := ⟨w.heap.size, 1, none⟩) z0).trans (HA0.out 1), (HB1.out.cell (p := ⟨w.heap.size, 2, none⟩) z0).trans (HA0.out 2), (HB1.out.cell (p := ⟨w.heap.size, 3, none⟩) z0).trans (HA0.out 3), (HB1.out.cell (p := ⟨w.heap.size, 4, none⟩) z0).trans (HA0.out 4)⟩
      have y0 : w.heap.size < w1.heap.size := Nat.lt_of_lt_of_le z0 HB1.out.size
      have y1 : w.heap.size + 1 < w1.heap.size := Nat.lt_of_lt_of_le z1 HB1.out.size
      have HBW := Lib.hid (HB0.out.trans (HB1.out.mono HB0.out.size))
      obtain ⟨ss1, ss2, ss3, ss4⟩ := strip_sub X Y
      rw [hEX] at ss1 ss2
      have HGX := Lib.hid (fun W (h : Below w1.heap.size w1 W ∧ ∀ b o, b < w1.heap.size → W.cell? ⟨b, o, none⟩ = w1.cell? ⟨b, o, none⟩) => bothS1 (W0 := w1) (HHE.out _ _ ac' us (fun x hx => HIX.out x (ss1 x hx)) hx6 W (HBW.out.trans (h.1.mono HBW.out.size)) (HXS.out.below h.1)) h)
      have HGY := Lib.hid (fun W (h : Below w1.heap.size w1 W ∧ ∀ b o, b < w1.heap.size → W.cell? ⟨b, o, none⟩ = w1.cell? ⟨b, o, none⟩) => bothS1 (W0 := w1) (HHE.out _ _ bc' ys (fun x hx => HIY.out x (ss2 x hx)) hy6 W (HBW.out.trans (h.1.mono HBW.out.size)) (HYS.out.below h.1)) h)
      have l1 := HLB.out us hx6
      have l2 := HHB.out us hx6
      have l3 := HLB.out ys hy6
      have l4 := HHB.out ys hy6
      have HE := Lib.hid (show f.gapLo X Y = f.loS ys - f.hiS us ∧ f.gapHi X Y = f.hiS ys - f.loS us from by unfold PFrame.gapLo PFrame.gapHi; rw [hEX]; exact ⟨rfl, rfl⟩)
      clear ss1 ss2 ss3 ss4 hEX
      generalize f.loS us = ulo at *
      generalize f.hiS us = uhi at *
      generalize f.loS ys = vlo at *
      generalize f.hiS ys = vhi at *
      go_cut [9, 10] (fun v9 v10 wx => ∃ g1 g2, v9 = .pointer (some ⟨g1, 0, none⟩) ∧ v10 = .pointer (some ⟨g2, 0, none⟩) ∧ wx.cell? ⟨g1, 0, none⟩ = some (.int .i64 ulo) ∧ wx.cell? ⟨g1, 1, none⟩ = some (.int .i64 uhi) ∧ wx.cell? ⟨g2, 0, none⟩ = some (.int .i64 vlo) ∧ wx.cell? ⟨g2, 1, none⟩ = some (.int .i64 vhi) ∧ Below w1.heap.size w1 wx)
      case first =>
        go_region_held3 (fun w' => Below w1.heap.size w1 w' ∧ ∀ b o, b < w1.heap.size → w'.cell? ⟨b, o, none⟩ = w1.cell? ⟨b, o, none⟩) (first | with_reducible assumption | ((repeat (first | with_reducible refine bothS_drew ?_ | with_reducible refine bothS_alloc _ ?_ | with_reducible refine bothS_set _ _ (by first | omega | (simp; omega) | simp) ?_)); first | with_reducible assumption | with_reducible exact Hid.out (by assumption) | with_reducible exact ⟨Below.refl _ _, fun _ _ _ => rfl⟩)) (first | (go_at_call 76; with_reducible refine (HGX.out _ ?_).mono ?_; (first | with_reducible assumption | ((repeat (first | with_reducible refine bothS_drew ?_ | with_reducible refine bothS_alloc _ ?_ | with_reducible refine bothS_set _ _ (by first | omega | (simp; omega) | simp) ?_)); first | with_reducible assumption | with_reducible exact Hid.out (by assumption) | with_reducible exact ⟨Below.refl _ _, fun _ _ _ => rfl⟩)); rintro e w' ⟨rfl, k, k1, k2, k3⟩; have HK := Lib.hid k; (try simp at k3); (try have k6 := Nat.lt_of_succ_le k3); (try have k7 := Nat.lt_of_succ_lt k6); (try have k8 := Nat.lt_of_succ_lt k3)) | (go_at_call 76; with_reducible refine (HGY.out _ ?_).mono ?_; (first | with_reducible assumption | ((repeat (first | with_reducible refine bothS_drew ?_ | with_reducible refine bothS_alloc _ ?_ | with_reducible refine bothS_set _ _ (by first | omega | (simp; omega) | simp) ?_)); first | with_reducible assumption | with_reducible exact Hid.out (by assumption) | with_reducible exact ⟨Below.refl _ _, fun _ _ _ => rfl⟩)); rintro e w' ⟨rfl, k, k1, k2, k3⟩; have HK := Lib.hid k; (try simp at k3); (try have kk6 := Nat.lt_of_lt_of_le k6 k3); (try have kk7 := Nat.lt_of_lt_of_le k6 (Nat.le_of_succ_le k3)); (try have k6 := Nat.lt_of_succ_le k3); (try have k7 := Nat.lt_of_succ_lt k6); (try have k8 := Nat.lt_of_succ_lt k3)) | fail "no arm")
        all_goals (go_wp2_with fail; go_meet; exact ⟨_, _, rfl, rfl, (by first | (go_simp; done) | (go_simp; exact set_same (u := .int .i64 0) (by go_simp; done)) | exact set_same (u := .int .i64 0) (by go_simp; done) | (go_simp; exact set_same (u := .slice none 0 0) (by go_simp; done)) | exact set_same (u := .slice none 0 0) (by go_simp; done)), (by first | (go_simp; done) | (go_simp; exact set_same (u := .int .i64 0) (by go_simp; done)) | exact set_same (u := .int .i64 0) (by go_simp; done) | (go_simp; exact set_same (u := .slice none 0 0) (by go_simp; done)) | exact set_same (u := .slice none 0 0) (by go_simp; done)), (by first | (go_simp; done) | (go_simp; exact set_same (u := .int .i64 0) (by go_simp; done)) | exact set_same (u := .int .i64 0) (by go_simp; done) | (go_simp; exact set_same (u := .slice none 0 0) (by go_simp; done)) | exact set_same (u := .slice none 0 0) (by go_simp; done)), (by first | (go_simp; done) | (go_simp; exact set_same (u := .int .i64 0) (by go_simp; done)) | exact set_same (u := .int .i64 0) (by go_simp; done) | (go_simp; exact set_same (u := .slice none 0 0) (by go_simp; done)) | exact set_same (u := .slice none 0 0) (by go_simp; done)), And.left (by assumption)⟩)
      case rest =>
      obtain ⟨g1, g2, rfl, rfl, e0, e1, e2, e3, hB2⟩ := hcut
      obtain ⟨w2, rfl⟩ : ∃ w2 : World, w2 = wc := ⟨_, rfl⟩
      have r0 := (hB2.cell (p := ⟨w.heap.size + 1, 0, none⟩) y1).trans ((HB1.out.cell (p := ⟨w.heap.size + 1, 0, none⟩) z1).trans (HR0.out 0))
      have r1 := (hB2.cell (p := ⟨w.heap.size + 1, 1, none⟩) y1).trans ((HB1.out.cell (p := ⟨w.heap.size + 1, 1, none⟩) z1).trans (HR0.out 1))
      have r2 := (hB2.frozen (p := ⟨w.heap.size + 1, 0, none⟩) y1).trans ((HB1.out.frozen (p := ⟨w.heap.size + 1, 0, none⟩) z1).trans (HRF.out 0))
      have r3 := (hB2.frozen (p := ⟨w.heap.size + 1, 1, none⟩) y1).trans ((HB1.out.frozen (p := ⟨w.heap.size + 1, 1, none⟩) z1).trans (HRF.out 1))
      have kz := Nat.lt_of_lt_of_le y1 hB2.size
      have HBH := Lib.hid (HBW.out.trans (hB2.mono HBW.out.size))
      clear hB2 x0 x1 x2 x3 x4 HGX HGY
      go_wp2_with fail
      refine bodyPost_ret (v := .agg #[.int .i64 (vlo - uhi), .int .i64 (vhi - ulo)]) (by simp [results, Try.results100, go_sem, *]) rfl ⟨⟨ci, a, di, b, HPT.out.1, HPT.out.2, by rw [HX.out, HY.out, HE.out.1, HE.out.2]⟩, ?_⟩
      have hBB := HBH.out
      exact (by repeat (first | assumption | exact Below.refl _ _ | (refine Below.alloc ?_ (by first | omega | (simp; omega) | simp) _) | (refine Below.setCell ?_ (by first | omega | (simp; omega) | simp) _) | refine Below.drew ?_))
    | cons x xs =>
      obtain ⟨an, rfl⟩ : ∃ an, al = an + 1 := ⟨xs.length, by have := hxs.1; simpa using this.symm⟩
      obtain ⟨xb, xo, rfl, hxB, hxc⟩ := hxs.2.2 (by omega)
      have cx := (hB.cell (p := ⟨xb, xo, none⟩) hxB).trans (by have := hxc 0 (by simp); simpa using this)
      have hal : (0 : Int) < ((an + 1 : Nat) : Int) := by omega
      cases ys with
      | nil =>
        obtain rfl : bl = 0 := by have := hys.1; simpa using this.symm
        have hEX : stripC X Y = (x :: xs, []) := by rw [← hst]; simp [stripC]
        obtain ⟨us, hus⟩ : ∃ us : List Int, us = x :: xs := ⟨_, rfl⟩
        rw [← hus] at hEX HXS hx6
        obtain ⟨ys, hvs⟩ : ∃ ys : List Int, ys = [] := ⟨_, rfl⟩
        rw [← hvs] at hEX HYS hy6
        clear hB hst hxs hys hus hvs HST hxc
        go_wp2_with fail
        go_quiet (fail)
        go_wp2_with fail
        clear cx
        have HSQ := Lib.hid (bothS_below HS0.out (below_drewN _ wr nq))
        generalize wr.drewN nq = wq at HSQ ⊢
        clear HS0
        have hzq : w1.heap.size ≤ wq.heap.size := HSQ.out.1.size
        obtain ⟨x0, x1, x2, x3, x4⟩ : w1.cell? ⟨w.heap.size, 0, none⟩ = some (.int .i64 f.len) ∧ w1.cell? ⟨w.heap.size, 1, none⟩ = some (.int .i64 f.slack) ∧ w1.cell? ⟨w.heap.size, 2, none⟩ = some (.slice sa sl sc) ∧ w1.cell? ⟨w.heap.size, 3, none⟩ = some (.slice pa pl pc) ∧ w1.cell? ⟨w.heap.size, 4, none⟩ = some (.slice ca cl cc) := ⟨(HB1.out.cell (p := ⟨w.heap.size, 0, none⟩) z0).trans (HA0.out 0), (HB1.out.cell (p := ⟨w.heap.size, 1, none⟩) z0).trans (HA0.out 1), (HB1.out.cell (p := ⟨w.heap.size, 2, none⟩) z0).trans (HA0.out 2), (HB1.out.cell (p := ⟨w.heap.size, 3, none⟩) z0).trans (HA0.out 3), (HB1.out.cell (p := ⟨w.heap.size, 4, none⟩) z0).trans (HA0.out 4)⟩
        have y0 : w.heap.size < w1.heap.size := Nat.lt_of_lt_of_le z0 HB1.out.size
        have y1 : w.heap.size + 1 < w1.heap.size := Nat.lt_of_lt_of_le z1 HB1.out.size
        have HBW := Lib.hid (HB0.out.trans (HB1.out.mono HB0.out.size))
        obtain ⟨ss1, ss2, ss3, ss4⟩ := strip_sub X Y
        rw [hEX] at ss1 ss2
        have HGX := Lib.hid (fun W (h : Below w1.heap.size w1 W ∧ ∀ b o, b < w1.heap.size → W.cell? ⟨b, o, none⟩ = w1.cell? ⟨b, o, none⟩) => bothS1 (W0 := w1) (HHE.out _ _ ac' us (fun x hx => HIX.out x (ss1 x hx)) hx6 W (HBW.out.trans (h.1.mono HBW.out.size)) (HXS.out.below h.1)) h)
        have HGY := Lib.hid (fun W (h : Below w1.heap.size w1 W ∧ ∀ b o, b < w1.heap.size → W.cell? ⟨b, o, none⟩ = w1.cell? ⟨b, o, none⟩) => bothS1 (W0 := w1) (HHE.out _ _ bc' ys (fun x hx => HIY.out x (ss2 x hx)) hy6 W (HBW.out.trans (h.1.mono HBW.out.size)) (HYS.out.below h.1)) h)
        have l1 := HLB.out us hx6
        have l2 := HHB.out us hx6
        have l3 := HLB.out ys hy6
        have l4 := HHB.out ys hy6
        have HE := Lib.hid (show f.gapLo X Y = f.loS ys - f.hiS us ∧ f.gapHi X Y = f.hiS ys - f.loS us from by unfold PFrame.gapLo PFrame.gapHi; rw [hEX]; exact ⟨rfl, rfl⟩)
        clear ss1 ss2 ss3 ss4 hEX
        generalize f.loS us = ulo at *
        generalize f.hiS us = uhi at *
        generalize f.loS ys = vlo at *
        generalize f.hiS ys = vhi at *
        go_cut [9, 10] (fun v9 v10 wx => ∃ g1 g2, v9 = .pointer (some ⟨g1, 0, none⟩) ∧ v10 = .pointer (some ⟨g2, 0, none⟩) ∧ wx.cell? ⟨g1, 0, none⟩ = some (.int .i64 ulo) ∧ wx.cell? ⟨g1, 1, none⟩ = some (.int .i64 uhi) ∧ wx.cell? ⟨g2, 0, none⟩ = some (.int .i64 vlo) ∧ wx.cell? ⟨g2, 1, none⟩ = some (.int .i64 vhi) ∧ Below w1.heap.size w1 wx)
        case first =>
          go_region_held3 (fun w' => Below w1.heap.size w1 w' ∧ ∀ b o, b < w1.heap.size → w'.cell? ⟨b, o, none⟩ = w1.cell? ⟨b, o, none⟩) (first | with_reducible assumption | ((repeat (first | with_reducible refine bothS_drew ?_ | with_reducible refine bothS_alloc _ ?_ | with_reducible refine bothS_set _ _ (by first | omega | (simp; omega) | simp) ?_)); first | with_reducible assumption | with_reducible exact Hid.out (by assumption) | with_reducible exact ⟨Below.refl _ _, fun _ _ _ => rfl⟩)) (first | (go_at_call 76; with_reducible refine (HGX.out _ ?_).mono ?_; (first | with_reducible assumption | ((repeat (first | with_reducible refine bothS_drew ?_ | with_reducible refine bothS_alloc _ ?_ | with_reducible refine bothS_set _ _ (by first | omega | (simp; omega) | simp) ?_)); first | with_reducible assumption | with_reducible exact Hid.out (by assumption) | with_reducible exact ⟨Below.refl _ _, fun _ _ _ => rfl⟩)); rintro e w' ⟨rfl, k, k1, k2, k3⟩; have HK := Lib.hid k; (try simp at k3); (try have k6 := Nat.lt_of_succ_le k3); (try have k7 := Nat.lt_of_succ_lt k6); (try have k8 := Nat.lt_of_succ_lt k3)) | (go_at_call 76; with_reducible refine (HGY.out _ ?_).mono ?_; (first | with_reducible assumption | ((repeat (first | with_reducible refine bothS_drew ?_ | with_reducible refine bothS_alloc _ ?_ | with_reducible refine bothS_set _ _ (by first | omega | (simp; omega) | simp) ?_)); first | with_reducible assumption | with_reducible exact Hid.out (by assumption) | with_reducible exact ⟨Below.refl _ _, fun _ _ _ => rfl⟩)); rintro e w' ⟨rfl, k, k1, k2, k3⟩; have HK := Lib.hid k; (try simp at k3); (try have kk6 := Nat.lt_of_lt_of_le k6 k3); (try have kk7 := Nat.lt_of_lt_of_le k6 (Nat.le_of_succ_le k3)); (try have k6 := Nat.lt_of_succ_le k3); (try have k7 := Nat.lt_of_succ_lt k6); (try have k8 := Nat.lt_of_succ_lt k3)) | fail "no arm")
          all_goals (go_wp2_with fail; go_meet; exact ⟨_, _, rfl, rfl, (by first | (go_simp; done) | (go_simp; exact set_same (u := .int .i64 0) (by go_simp; done)) | exact set_same (u := .int .i64 0) (by go_simp; done) | (go_simp; exact set_same (u := .slice none 0 0) (by go_simp; done)) | exact set_same (u := .slice none 0 0) (by go_simp; done)), (by first | (go_simp; done) | (go_simp; exact set_same (u := .int .i64 0) (by go_simp; done)) | exact set_same (u := .int .i64 0) (by go_simp; done) | (go_simp; exact set_same (u := .slice none 0 0) (by go_simp; done)) | exact set_same (u := .slice none 0 0) (by go_simp; done)), (by first | (go_simp; done) | (go_simp; exact set_same (u := .int .i64 0) (by go_simp; done)) | exact set_same (u := .int .i64 0) (by go_simp; done) | (go_simp; exact set_same (u := .slice none 0 0) (by go_simp; done)) | exact set_same (u := .slice none 0 0) (by go_simp; done)), (by first | (go_simp; done) | (go_simp; exact set_same (u := .int .i64 0) (by go_simp; done)) | exact set_same (u := .int .i64 0) (by go_simp; done) | (go_simp; exact set_same (u := .slice none 0 0) (by go_simp; done)) | exact set_same (u := .slice none 0 0) (by go_simp; done)), And.left (by assumption)⟩)
        case rest =>
        obtain ⟨g1, g2, rfl, rfl, e0, e1, e2, e3, hB2⟩ := hcut
        obtain ⟨w2, rfl⟩ : ∃ w2 : World, w2 = wc := ⟨_, rfl⟩
        have r0 := (hB2.cell (p := ⟨w.heap.size + 1, 0, none⟩) y1).trans ((HB1.out.cell (p := ⟨w.heap.size + 1, 0, none⟩) z1).trans (HR0.out 0))
        have r1 := (hB2.cell (p := ⟨w.heap.size + 1, 1, none⟩) y1).trans ((HB1.out.cell (p := ⟨w.heap.size + 1, 1, none⟩) z1).trans (HR0.out 1))
        have r2 := (hB2.frozen (p := ⟨w.heap.size + 1, 0, none⟩) y1).trans ((HB1.out.frozen (p := ⟨w.heap.size + 1, 0, none⟩) z1).trans (HRF.out 0))
        have r3 := (hB2.frozen (p := ⟨w.heap.size + 1, 1, none⟩) y1).trans ((HB1.out.frozen (p := ⟨w.heap.size + 1, 1, none⟩) z1).trans (HRF.out 1))
        have kz := Nat.lt_of_lt_of_le y1 hB2.size
        have HBH := Lib.hid (HBW.out.trans (hB2.mono HBW.out.size))
        clear hB2 x0 x1 x2 x3 x4 HGX HGY
        go_wp2_with fail
        refine bodyPost_ret (v := .agg #[.int .i64 (vlo - uhi), .int .i64 (vhi - ulo)]) (by simp [results, Try.results100, go_sem, *]) rfl ⟨⟨ci, a, di, b, HPT.out.1, HPT.out.2, by rw [HX.out, HY.out, HE.out.1, HE.out.2]⟩, ?_⟩
        have hBB := HBH.out
        exact (by repeat (first | assumption | exact Below.refl _ _ | (refine Below.alloc ?_ (by first | omega | (simp; omega) | simp) _) | (refine Below.setCell ?_ (by first | omega | (simp; omega) | simp) _) | refine Below.drew ?_))
      | cons y ys =>
        obtain ⟨bn, rfl⟩ : ∃ bn, bl = bn + 1 := ⟨ys.length, by have := hys.1; simpa using this.symm⟩
        obtain ⟨yb, yo, rfl, hyB, hyc⟩ := hys.2.2 (by omega)
        have cy := (hB.cell (p := ⟨yb, yo, none⟩) hyB).trans (by have := hyc 0 (by simp); simpa using this)
        have hbl : (0 : Int) < ((bn + 1 : Nat) : Int) := by omega
        by_cases hxy : x = y
        · subst hxy
          have HST2 := Lib.hid (show stripC xs ys = stripC X Y from by rw [← hst]; simp [stripC])
          clear hB hst hxs hys HST hxc hyc HS0
          go_wp2_with fail
          go_quiet (fail)
          go_wp2_with fail
          go_quiet (fail)
          go_wp2_with fail
          go_roundw
          case rel => exact ⟨_, an, ac' - 1, xs, _, bn, bc' - 1, ys, rfl, rfl, by omega, by omega, by omega, by omega, by simp at hx6; omega, by simp at hy6; omega, ints_tail2 hl1 HXS.out, ints_tail2 hl3 HYS.out, HST2.out, HB.out.trans (Below.trans (below_drewN _ _ _) (below_drewN _ _ _))⟩
          case measure => simp [lenV]
        · have hEX : stripC X Y = (x :: xs, y :: ys) := by rw [← hst]; simp [stripC, hxy]
          have hxy2 : (x == y) = false := by simpa using hxy
          obtain ⟨us, hus⟩ : ∃ us : List Int, us = x :: xs := ⟨_, rfl⟩
          rw [← hus] at hEX HXS hx6
          obtain ⟨vs, hvs⟩ : ∃ vs : List Int, vs = y :: ys := ⟨_, rfl⟩
          rw [← hvs] at hEX HYS hy6
          clear hB hst hxs hys hus hvs HST hxc hyc hxy
          go_wp2_with fail
          go_quiet (fail)
          go_wp2_with fail
          clear cx cy
          obtain ⟨ys, rfl⟩ : ∃ ys, ys = vs := ⟨_, rfl⟩
          have HSQ := Lib.hid (bothS_below HS0.out (below_drewN _ wr nq))
          generalize wr.drewN nq = wq at HSQ ⊢
          clear HS0
          have hzq : w1.heap.size ≤ wq.heap.size := HSQ.out.1.size
          obtain ⟨x0, x1, x2, x3, x4⟩ : w1.cell? ⟨w.heap.size, 0, none⟩ = some (.int .i64 f.len) ∧ w1.cell? ⟨w.heap.size, 1, none⟩ = some (.int .i64 f.slack) ∧ w1.cell? ⟨w.heap.size, 2, none⟩ = some (.slice sa sl sc) ∧ w1.cell? ⟨w.heap.size, 3, none⟩ = some (.slice pa pl pc) ∧ w1.cell? ⟨w.heap.size, 4, none⟩ = some (.slice ca cl cc) := ⟨(HB1.out.cell (p := ⟨w.heap.size, 0, none⟩) z0).trans (HA0.out 0), (HB1.out.cell (p := ⟨w.heap.size, 1, none⟩) z0).trans (HA0.out 1), (HB1.out.cell (p := ⟨w.heap.size, 2, none⟩) z0).trans (HA0.out 2), (HB1.out.cell (p := ⟨w.heap.size, 3, none⟩) z0).trans (HA0.out 3), (HB1.out.cell (p := ⟨w.heap.size, 4, none⟩) z0).trans (HA0.out 4)⟩
          have y0 : w.heap.size < w1.heap.size := Nat.lt_of_lt_of_le z0 HB1.out.size
          have y1 : w.heap.size + 1 < w1.heap.size := Nat.lt_of_lt_of_le z1 HB1.out.size
          have HBW := Lib.hid (HB0.out.trans (HB1.out.mono HB0.out.size))
          obtain ⟨ss1, ss2, ss3, ss4⟩ := strip_sub X Y
          rw [hEX] at ss1 ss2
          have HGX := Lib.hid (fun W (h : Below w1.heap.size w1 W ∧ ∀ b o, b < w1.heap.size → W.cell? ⟨b, o, none⟩ = w1.cell? ⟨b, o, none⟩) => bothS1 (W0 := w1) (HHE.out _ _ ac' us (fun x hx => HIX.out x (ss1 x hx)) hx6 W (HBW.out.trans (h.1.mono HBW.out.size)) (HXS.out.below h.1)) h)
          have HGY := Lib.hid (fun W (h : Below w1.heap.size w1 W ∧ ∀ b o, b < w1.heap.size → W.cell? ⟨b, o, none⟩ = w1.cell? ⟨b, o, none⟩) => bothS1 (W0 := w1) (HHE.out _ _ bc' ys (fun x hx => HIY.out x (ss2 x hx)) hy6 W (HBW.out.trans (h.1.mono HBW.out.size)) (HYS.out.below h.1)) h)
          have l1 := HLB.out us hx6
          have l2 := HHB.out us hx6
          have l3 := HLB.out ys hy6
          have l4 := HHB.out ys hy6
          have HE := Lib.hid (show f.gapLo X Y = f.loS ys - f.hiS us ∧ f.gapHi X Y = f.hiS ys - f.loS us from by unfold PFrame.gapLo PFrame.gapHi; rw [hEX]; exact ⟨rfl, rfl⟩)
          clear ss1 ss2 ss3 ss4 hEX
          generalize f.loS us = ulo at *
          generalize f.hiS us = uhi at *
          generalize f.loS ys = vlo at *
          generalize f.hiS ys = vhi at *
          go_cut [9, 10] (fun v9 v10 wx => ∃ g1 g2, v9 = .pointer (some ⟨g1, 0, none⟩) ∧ v10 = .pointer (some ⟨g2, 0, none⟩) ∧ wx.cell? ⟨g1, 0, none⟩ = some (.int .i64 ulo) ∧ wx.cell? ⟨g1, 1, none⟩ = some (.int .i64 uhi) ∧ wx.cell? ⟨g2, 0, none⟩ = some (.int .i64 vlo) ∧ wx.cell? ⟨g2, 1, none⟩ = some (.int .i64 vhi) ∧ Below w1.heap.size w1 wx)
          case first =>
            go_region_held3 (fun w' => Below w1.heap.size w1 w' ∧ ∀ b o, b < w1.heap.size → w'.cell? ⟨b, o, none⟩ = w1.cell? ⟨b, o, none⟩) (first | with_reducible assumption | ((repeat (first | with_reducible refine bothS_drew ?_ | with_reducible refine bothS_alloc _ ?_ | with_reducible refine bothS_set _ _ (by first | omega | (simp; omega) | simp) ?_)); first | with_reducible assumption | with_reducible exact Hid.out (by assumption) | with_reducible exact ⟨Below.refl _ _, fun _ _ _ => rfl⟩)) (first | (go_at_call 76; with_reducible refine (HGX.out _ ?_).mono ?_; (first | with_reducible assumption | ((repeat (first | with_reducible refine bothS_drew ?_ | with_reducible refine bothS_alloc _ ?_ | with_reducible refine bothS_set _ _ (by first | omega | (simp; omega) | simp) ?_)); first | with_reducible assumption | with_reducible exact Hid.out (by assumption) | with_reducible exact ⟨Below.refl _ _, fun _ _ _ => rfl⟩)); rintro e w' ⟨rfl, k, k1, k2, k3⟩; have HK := Lib.hid k; (try simp at k3); (try have k6 := Nat.lt_of_succ_le k3); (try have k7 := Nat.lt_of_succ_lt k6); (try have k8 := Nat.lt_of_succ_lt k3)) | (go_at_call 76; with_reducible refine (HGY.out _ ?_).mono ?_; (first | with_reducible assumption | ((repeat (first | with_reducible refine bothS_drew ?_ | with_reducible refine bothS_alloc _ ?_ | with_reducible refine bothS_set _ _ (by first | omega | (simp; omega) | simp) ?_)); first | with_reducible assumption | with_reducible exact Hid.out (by assumption) | with_reducible exact ⟨Below.refl _ _, fun _ _ _ => rfl⟩)); rintro e w' ⟨rfl, k, k1, k2, k3⟩; have HK := Lib.hid k; (try simp at k3); (try have kk6 := Nat.lt_of_lt_of_le k6 k3); (try have kk7 := Nat.lt_of_lt_of_le k6 (Nat.le_of_succ_le k3)); (try have k6 := Nat.lt_of_succ_le k3); (try have k7 := Nat.lt_of_succ_lt k6); (try have k8 := Nat.lt_of_succ_lt k3)) | fail "no arm")
            all_goals (go_wp2_with fail; go_meet; exact ⟨_, _, rfl, rfl, (by first | (go_simp; done) | (go_simp; exact set_same (u := .int .i64 0) (by go_simp; done)) | exact set_same (u := .int .i64 0) (by go_simp; done) | (go_simp; exact set_same (u := .slice none 0 0) (by go_simp; done)) | exact set_same (u := .slice none 0 0) (by go_simp; done)), (by first | (go_simp; done) | (go_simp; exact set_same (u := .int .i64 0) (by go_simp; done)) | exact set_same (u := .int .i64 0) (by go_simp; done) | (go_simp; exact set_same (u := .slice none 0 0) (by go_simp; done)) | exact set_same (u := .slice none 0 0) (by go_simp; done)), (by first | (go_simp; done) | (go_simp; exact set_same (u := .int .i64 0) (by go_simp; done)) | exact set_same (u := .int .i64 0) (by go_simp; done) | (go_simp; exact set_same (u := .slice none 0 0) (by go_simp; done)) | exact set_same (u := .slice none 0 0) (by go_simp; done)), (by first | (go_simp; done) | (go_simp; exact set_same (u := .int .i64 0) (by go_simp; done)) | exact set_same (u := .int .i64 0) (by go_simp; done) | (go_simp; exact set_same (u := .slice none 0 0) (by go_simp; done)) | exact set_same (u := .slice none 0 0) (by go_simp; done)), And.left (by assumption)⟩)
          case rest =>
          obtain ⟨g1, g2, rfl, rfl, e0, e1, e2, e3, hB2⟩ := hcut
          obtain ⟨w2, rfl⟩ : ∃ w2 : World, w2 = wc := ⟨_, rfl⟩
          have r0 := (hB2.cell (p := ⟨w.heap.size + 1, 0, none⟩) y1).trans ((HB1.out.cell (p := ⟨w.heap.size + 1, 0, none⟩) z1).trans (HR0.out 0))
          have r1 := (hB2.cell (p := ⟨w.heap.size + 1, 1, none⟩) y1).trans ((HB1.out.cell (p := ⟨w.heap.size + 1, 1, none⟩) z1).trans (HR0.out 1))
          have r2 := (hB2.frozen (p := ⟨w.heap.size + 1, 0, none⟩) y1).trans ((HB1.out.frozen (p := ⟨w.heap.size + 1, 0, none⟩) z1).trans (HRF.out 0))
          have r3 := (hB2.frozen (p := ⟨w.heap.size + 1, 1, none⟩) y1).trans ((HB1.out.frozen (p := ⟨w.heap.size + 1, 1, none⟩) z1).trans (HRF.out 1))
          have kz := Nat.lt_of_lt_of_le y1 hB2.size
          have HBH := Lib.hid (HBW.out.trans (hB2.mono HBW.out.size))
          clear hB2 x0 x1 x2 x3 x4 HGX HGY
          go_wp2_with fail
          refine bodyPost_ret (v := .agg #[.int .i64 (vlo - uhi), .int .i64 (vhi - ulo)]) (by simp [results, Try.results100, go_sem, *]) rfl ⟨⟨ci, a, di, b, HPT.out.1, HPT.out.2, by rw [HX.out, HY.out, HE.out.1, HE.out.2]⟩, ?_⟩
          have hBB := HBH.out
          exact (by repeat (first | assumption | exact Below.refl _ _ | (refine Below.alloc ?_ (by first | omega | (simp; omega) | simp) _) | (refine Below.setCell ?_ (by first | omega | (simp; omega) | simp) _) | refine Below.drew ?_))
end Go.Proofs.Ytcklhojeneejiaa

/- Package pages: Gap. -/
namespace Go.Proofs.Ytcklhojeneejiaa
set_option linter.unusedVariables false
set_option linter.unusedSimpArgs false
open Go.RowKit

def PFrame.gapE (f : PFrame) (one other : Int) : Int := f.name (btw one 0 ((f.pieces.length : Int) - 1) && btw other 0 ((f.pieces.length : Int) - 1))
def GapPost2 (f : PFrame) (one other : Int) (e : Ending) : Prop :=
  ∃ ci a di b, f.at one ci a ∧ f.at other di b ∧ e = .returned (.tuple #[.agg #[.int .i64 (f.gapLo (f.ahead ci a) (f.ahead di b)), .int .i64 (f.gapHi (f.ahead ci a) (f.ahead di b))], .int .i64 0])
set_option maxRecDepth 100000 in
set_option maxHeartbeats 4000000 in
theorem Gap_no (f : PFrame) (sa : Option Addr) (sl sc : Nat) (pa : Option Addr) (pl pc : Nat) (ca : Option Addr) (cl cc : Nat) (one other v : Int) (hv : f.gapE one other = v) (h0 : v ≠ 0) (w : World) (hp : PAt w sa sl sc pa pl pc ca cl cc f) :
    Calls Try.prog 44 #[.agg #[.int .i64 f.len, .int .i64 f.slack, .slice sa sl sc, .slice pa pl pc, .slice ca cl cc], .int .i64 one, .int .i64 other] w fun e w' => e = .returned (.tuple #[.agg #[.int .i64 0, .int .i64 0], .int .i64 v]) ∧ Below w.heap.size w w' := by
  have hpm := hp.2.1.2.1
  have hpl := hp.2.1.1
  obtain ⟨r, hr⟩ : ∃ r, btw one 0 ((pl : Int) - 1) = r := ⟨_, rfl⟩
  obtain ⟨q, hq⟩ : ∃ q, btw other 0 ((pl : Int) - 1) = q := ⟨_, rfl⟩
  have HH := Lib.hid (fun W => hasPiece_is f sa sl sc pa pl pc ca cl cc one W hpm r hr)
  have HS := Lib.hid (fun W => hasPiece_is f sa sl sc pa pl pc ca cl cc other W hpm q hq)
  have HA := Lib.hid (fun W (hb : Below w.heap.size w W) => named_is f sa sl sc pa pl pc ca cl cc (r && q) v (by rw [← hv, PFrame.gapE, hpl, hr, hq]) W (hp.below hb))
  have e2 : (v != 0) = true := by simpa using h0
  clear hp hv hpm hpl hr hq
  cases r
  · simp only [Bool.false_and] at HA
    go_enter Try.func44, Try.ntmps44
    go_wp2_with fail
    obtain ⟨W0, hW0, hB0, ha0, hr0, hs0, hrf, -, hz0⟩ := name3 w #[.int .i64 f.len, .int .i64 f.slack, .slice sa sl sc, .slice pa pl pc, .slice ca cl cc] 26 #[.int .i64 0, .int .i64 0] 32 #[.int .i64 f.len, .int .i64 f.slack, .slice sa sl sc, .slice pa pl pc, .slice ca cl cc] 87
    rw [hW0]
    clear hW0
    have HHX := Lib.hid (fun W (h : Below W0.heap.size W0 W ∧ ∀ b o, b < W0.heap.size → W.cell? ⟨b, o, none⟩ = W0.cell? ⟨b, o, none⟩) => bothS1 (W0 := W0) (HH.out W) h)
    have HSX := Lib.hid (fun W (h : Below W0.heap.size W0 W ∧ ∀ b o, b < W0.heap.size → W.cell? ⟨b, o, none⟩ = W0.cell? ⟨b, o, none⟩) => bothS1 (W0 := W0) (HS.out W) h)
    have HAN := Lib.hid (fun W (h : Below W0.heap.size W0 W ∧ ∀ b o, b < W0.heap.size → W.cell? ⟨b, o, none⟩ = W0.cell? ⟨b, o, none⟩) => bothS1 (W0 := W0) (HA.out W (hB0.trans (h.1.mono hB0.size))) h)
    obtain ⟨x0, x1, x2, x3, x4⟩ : W0.cell? ⟨w.heap.size + 1 + 1, 0, none⟩ = some (.int .i64 f.len) ∧ W0.cell? ⟨w.heap.size + 1 + 1, 1, none⟩ = some (.int .i64 f.slack) ∧ W0.cell? ⟨w.heap.size + 1 + 1, 2, none⟩ = some (.slice sa sl sc) ∧ W0.cell? ⟨w.heap.size + 1 + 1, 3, none⟩ = some (.slice pa pl pc) ∧ W0.cell? ⟨w.heap.size + 1 + 1, 4, none⟩ = some (.slice ca cl cc) := ⟨hs0 0, hs0 1, hs0 2, hs0 3, hs0 4⟩
    have z1 : w.heap.size + 1 < W0.heap.size := by omega
    have z2 : w.heap.size + 1 + 1 < W0.heap.size := by omega
    have HB0 := Lib.hid hB0
    have HR0 := Lib.hid hr0
    have HRF := Lib.hid hrf
    have HS0 := Lib.hid hs0
    clear hB0 hr0 hrf ha0 hs0 hz0
    go_upto_region 2 with fail
    go_cut [9] (fun v9 wx => v9 = .int .i64 v ∧ Below W0.heap.size W0 wx)
    case first =>
      refine wp_region_noPanic ?_
      refine wp_region_held_drew (S := (fun w' => Below W0.heap.size W0 w' ∧ ∀ b o, b < W0.heap.size → w'.cell? ⟨b, o, none⟩ = W0.cell? ⟨b, o, none⟩)) (by kernel_rfl) ?_ (fun hHeld => ?_)
      · (first | with_reducible assumption | ((repeat (first | with_reducible refine bothS_drew ?_ | with_reducible refine bothS_alloc _ ?_ | with_reducible refine bothS_set _ _ (by first | omega | (simp; omega) | simp) ?_)); first | with_reducible assumption | with_reducible exact Hid.out (by assumption) | with_reducible exact ⟨Below.refl _ _, fun _ _ _ => rfl⟩))
      refine wpAnyH_take (i := 0) (oi := ?_) (v := ?_) ?_ ?_ ?_ ?_ ?_ ?_ ?_ ?_; rotate_left 2; (· simp only [List.getElem?_toArray, List.getElem?_cons_succ, List.getElem?_cons_zero]; with_reducible rfl); (· kernel_rfl); (· kernel_rfl); (· kernel_rfl); (· exact fun _ _ _ h => h); (· refine Or.inl ⟨by rfl, ?_⟩; intro w hSw; (try dsimp only at hSw); go_simp; try with_reducible rfl); (· assumption); (try simp only [Act.put, List.setIfInBounds_toArray, List.set_cons_zero, List.set_cons_succ])
      refine wpAnyH_take (i := 1) (oi := ?_) (v := ?_) ?_ ?_ ?_ ?_ ?_ ?_ ?_ ?_; rotate_left 2; (· simp only [List.getElem?_toArray, List.getElem?_cons_succ, List.getElem?_cons_zero]; with_reducible rfl); (· kernel_rfl); (· kernel_rfl); (· kernel_rfl); (· exact fun _ _ _ h => h); (· refine Or.inl ⟨by rfl, ?_⟩; intro w hSw; (try dsimp only at hSw); go_simp; try with_reducible rfl); (· assumption); (try simp only [Act.put, List.setIfInBounds_toArray, List.set_cons_zero, List.set_cons_succ])
      refine wpAnyH_take (i := 2) (oi := ?_) (v := ?_) ?_ ?_ ?_ ?_ ?_ ?_ ?_ ?_; rotate_left 2; (· simp only [List.getElem?_toArray, List.getElem?_cons_succ, List.getElem?_cons_zero]; with_reducible rfl); (· kernel_rfl); (· kernel_rfl); (· kernel_rfl); (· exact fun _ _ _ h => h); (· refine Or.inl ⟨by rfl, ?_⟩; intro w hSw; (try dsimp only at hSw); go_simp; try with_reducible rfl); (· assumption); (try simp only [Act.put, List.setIfInBounds_toArray, List.set_cons_zero, List.set_cons_succ])
      refine wpAnyH_ready (rs := [3]) (by kernel_rfl) (by simp) ?_; refine AllReadyH.cons (o := ?_) ?_ (fun K hK => ?_) AllReadyH.nil; rotate_left 1; (· simp only [List.getElem?_toArray, List.getElem?_cons_succ, List.getElem?_cons_zero]; with_reducible rfl); go_simp; (go_at_call 98; with_reducible refine (HHX.out _ ?_).mono ?_; (first | with_reducible assumption | ((repeat (first | with_reducible refine bothS_drew ?_ | with_reducible refine bothS_alloc _ ?_ | with_reducible refine bothS_set _ _ (by first | omega | (simp; omega) | simp) ?_)); first | with_reducible assumption | with_reducible exact Hid.out (by assumption) | with_reducible exact ⟨Below.refl _ _, fun _ _ _ => rfl⟩)); rintro e w' ⟨rfl, k, k1, k2, k3⟩; have HK := Lib.hid k; (try simp at k3); (try have k6 := Nat.lt_of_succ_le k3); (try have k7 := Nat.lt_of_succ_lt k6); (try have k8 := Nat.lt_of_succ_lt k3)); refine hK.out _ _ ?_ (fun hHeld => ?_); (· (first | with_reducible assumption | ((repeat (first | with_reducible refine bothS_drew ?_ | with_reducible refine bothS_alloc _ ?_ | with_reducible refine bothS_set _ _ (by first | omega | (simp; omega) | simp) ?_)); first | with_reducible assumption | with_reducible exact Hid.out (by assumption) | with_reducible exact ⟨Below.refl _ _, fun _ _ _ => rfl⟩))); clear hK K; (try simp only [Act.put, List.setIfInBounds_toArray, List.set_cons_zero, List.set_cons_succ])
      refine wpAnyH_take (i := 4) (oi := ?_) (v := ?_) ?_ ?_ ?_ ?_ ?_ ?_ ?_ ?_; rotate_left 2; (· simp only [List.getElem?_toArray, List.getElem?_cons_succ, List.getElem?_cons_zero]; with_reducible rfl); (· kernel_rfl); (· kernel_rfl); (· kernel_rfl); (· exact fun _ _ _ h => h); (· refine Or.inl ⟨by rfl, ?_⟩; intro w hSw; (try dsimp only at hSw); go_simp; try with_reducible rfl); (· assumption); (try simp only [Act.put, List.setIfInBounds_toArray, List.set_cons_zero, List.set_cons_succ])
      refine wpAnyH_take (i := 5) (oi := ?_) (v := undef) ?_ ?_ ?_ ?_ ?_ ?_ ?_ ?_; rotate_left 1; (· simp only [List.getElem?_toArray, List.getElem?_cons_succ, List.getElem?_cons_zero]; with_reducible rfl); (· kernel_rfl); (· kernel_rfl); (· kernel_rfl); (· exact fun _ _ _ h => h); (· exact Or.inr ⟨by rfl, rfl⟩); (· assumption); (try simp only [Act.put, List.setIfInBounds_toArray, List.set_cons_zero, List.set_cons_succ])
      refine wpAnyH_take (i := 6) (oi := ?_) (v := undef) ?_ ?_ ?_ ?_ ?_ ?_ ?_ ?_; rotate_left 1; (· simp only [List.getElem?_toArray, List.getElem?_cons_succ, List.getElem?_cons_zero]; with_reducible rfl); (· kernel_rfl); (· kernel_rfl); (· kernel_rfl); (· exact fun _ _ _ h => h); (· exact Or.inr ⟨by rfl, rfl⟩); (· assumption); (try simp only [Act.put, List.setIfInBounds_toArray, List.set_cons_zero, List.set_cons_succ])
      refine wpAnyH_take (i := 7) (oi := ?_) (v := undef) ?_ ?_ ?_ ?_ ?_ ?_ ?_ ?_; rotate_left 1; (· simp only [List.getElem?_toArray, List.getElem?_cons_succ, List.getElem?_cons_zero]; with_reducible rfl); (· kernel_rfl); (· kernel_rfl); (· kernel_rfl); (· exact fun _ _ _ h => h); (· exact Or.inr ⟨by rfl, rfl⟩); (· assumption); (try simp only [Act.put, List.setIfInBounds_toArray, List.set_cons_zero, List.set_cons_succ])
      refine wpAnyH_take (i := 8) (oi := ?_) (v := ?_) ?_ ?_ ?_ ?_ ?_ ?_ ?_ ?_; rotate_left 2; (· simp only [List.getElem?_toArray, List.getElem?_cons_succ, List.getElem?_cons_zero]; with_reducible rfl); (· kernel_rfl); (· kernel_rfl); (· kernel_rfl); (· exact fun _ _ _ h => h); (· refine Or.inl ⟨by rfl, ?_⟩; intro w hSw; (try dsimp only at hSw); go_simp; try with_reducible rfl); (· assumption); (try simp only [Act.put, List.setIfInBounds_toArray, List.set_cons_zero, List.set_cons_succ])
      refine wpAnyH_ready (rs := [9]) (by kernel_rfl) (by simp) ?_; refine AllReadyH.cons (o := ?_) ?_ (fun K hK => ?_) AllReadyH.nil; rotate_left 1; (· simp only [List.getElem?_toArray, List.getElem?_cons_succ, List.getElem?_cons_zero]; with_reducible rfl); go_simp; (go_at_call 74; with_reducible refine (HAN.out _ ?_).mono ?_; (first | with_reducible assumption | ((repeat (first | with_reducible refine bothS_drew ?_ | with_reducible refine bothS_alloc _ ?_ | with_reducible refine bothS_set _ _ (by first | omega | (simp; omega) | simp) ?_)); first | with_reducible assumption | with_reducible exact Hid.out (by assumption) | with_reducible exact ⟨Below.refl _ _, fun _ _ _ => rfl⟩)); rintro e w' ⟨rfl, k, k1, k2, k3⟩; have HK := Lib.hid k; (try simp at k3); (try have k6 := Nat.lt_of_succ_le k3); (try have k7 := Nat.lt_of_succ_lt k6); (try have k8 := Nat.lt_of_succ_lt k3)); refine hK.out _ _ ?_ (fun hHeld => ?_); (· (first | with_reducible assumption | ((repeat (first | with_reducible refine bothS_drew ?_ | with_reducible refine bothS_alloc _ ?_ | with_reducible refine bothS_set _ _ (by first | omega | (simp; omega) | simp) ?_)); first | with_reducible assumption | with_reducible exact Hid.out (by assumption) | with_reducible exact ⟨Below.refl _ _, fun _ _ _ => rfl⟩))); clear hK K; (try simp only [Act.put, List.setIfInBounds_toArray, List.set_cons_zero, List.set_cons_succ])
      refine wpAnyH_take (i := 10) (oi := ?_) (v := ?_) ?_ ?_ ?_ ?_ ?_ ?_ ?_ ?_; rotate_left 2; (· simp only [List.getElem?_toArray, List.getElem?_cons_succ, List.getElem?_cons_zero]; with_reducible rfl); (· kernel_rfl); (· kernel_rfl); (· kernel_rfl); (· exact fun _ _ _ h => h); (· refine Or.inl ⟨by rfl, ?_⟩; intro w hSw; (try dsimp only at hSw); go_simp; try with_reducible rfl); (· assumption); (try simp only [Act.put, List.setIfInBounds_toArray, List.set_cons_zero, List.set_cons_succ])
      refine wpAnyH_done (by kernel_rfl) ?_ _
      refine NoPanic.normal ?_
      go_wp2_with fail; go_meet; exact ⟨rfl, And.left (by assumption)⟩
    case rest =>
    obtain ⟨rfl, hB1⟩ := hcut
    obtain ⟨w1, rfl⟩ : ∃ w1 : World, w1 = wc := ⟨_, rfl⟩
    have r0 := (hB1.cell (p := ⟨w.heap.size + 1, 0, none⟩) z1).trans (HR0.out 0)
    have r1 := (hB1.cell (p := ⟨w.heap.size + 1, 1, none⟩) z1).trans (HR0.out 1)
    have r2 := (hB1.frozen (p := ⟨w.heap.size + 1, 0, none⟩) z1).trans (HRF.out 0)
    have r3 := (hB1.frozen (p := ⟨w.heap.size + 1, 1, none⟩) z1).trans (HRF.out 1)
    have HBW := Lib.hid (HB0.out.trans (hB1.mono HB0.out.size))
    clear hB1
    go_wp2_with fail
    refine bodyPost_ret (v := .tuple #[.agg #[.int .i64 0, .int .i64 0], .int .i64 v]) (by simp [results, Try.results44, go_sem, *]) rfl ⟨rfl, ?_⟩
    have hBB := HBW.out
    exact (by repeat (first | assumption | exact Below.refl _ _ | (refine Below.alloc ?_ (by first | omega | (simp; omega) | simp) _) | (refine Below.setCell ?_ (by first | omega | (simp; omega) | simp) _) | refine Below.drew ?_))
  · simp only [Bool.true_and] at HA
    go_enter Try.func44, Try.ntmps44
    go_wp2_with fail
    obtain ⟨W0, hW0, hB0, ha0, hr0, hs0, hrf, -, hz0⟩ := name3 w #[.int .i64 f.len, .int .i64 f.slack, .slice sa sl sc, .slice pa pl pc, .slice ca cl cc] 26 #[.int .i64 0, .int .i64 0] 32 #[.int .i64 f.len, .int .i64 f.slack, .slice sa sl sc, .slice pa pl pc, .slice ca cl cc] 87
    rw [hW0]
    clear hW0
    have HHX := Lib.hid (fun W (h : Below W0.heap.size W0 W ∧ ∀ b o, b < W0.heap.size → W.cell? ⟨b, o, none⟩ = W0.cell? ⟨b, o, none⟩) => bothS1 (W0 := W0) (HH.out W) h)
    have HSX := Lib.hid (fun W (h : Below W0.heap.size W0 W ∧ ∀ b o, b < W0.heap.size → W.cell? ⟨b, o, none⟩ = W0.cell? ⟨b, o, none⟩) => bothS1 (W0 := W0) (HS.out W) h)
    have HAN := Lib.hid (fun W (h : Below W0.heap.size W0 W ∧ ∀ b o, b < W0.heap.size → W.cell? ⟨b, o, none⟩ = W0.cell? ⟨b, o, none⟩) => bothS1 (W0 := W0) (HA.out W (hB0.trans (h.1.mono hB0.size))) h)
    obtain ⟨x0, x1, x2, x3, x4⟩ : W0.cell? ⟨w.heap.size + 1 + 1, 0, none⟩ = some (.int .i64 f.len) ∧ W0.cell? ⟨w.heap.size + 1 + 1, 1, none⟩ = some (.int .i64 f.slack) ∧ W0.cell? ⟨w.heap.size + 1 + 1, 2, none⟩ = some (.slice sa sl sc) ∧ W0.cell? ⟨w.heap.size + 1 + 1, 3, none⟩ = some (.slice pa pl pc) ∧ W0.cell? ⟨w.heap.size + 1 + 1, 4, none⟩ = some (.slice ca cl cc) := ⟨hs0 0, hs0 1, hs0 2, hs0 3, hs0 4⟩
    have z1 : w.heap.size + 1 < W0.heap.size := by omega
    have z2 : w.heap.size + 1 + 1 < W0.heap.size := by omega
    have HB0 := Lib.hid hB0
    have HR0 := Lib.hid hr0
    have HRF := Lib.hid hrf
    have HS0 := Lib.hid hs0
    clear hB0 hr0 hrf ha0 hs0 hz0
    go_upto_region 2 with fail
    go_cut [9] (fun v9 wx => v9 = .int .i64 v ∧ Below W0.heap.size W0 wx)
    case first =>
      go_region_held3 (fun w' => Below W0.heap.size W0 w' ∧ ∀ b o, b < W0.heap.size → w'.cell? ⟨b, o, none⟩ = W0.cell? ⟨b, o, none⟩) (first | with_reducible assumption | ((repeat (first | with_reducible refine bothS_drew ?_ | with_reducible refine bothS_alloc _ ?_ | with_reducible refine bothS_set _ _ (by first | omega | (simp; omega) | simp) ?_)); first | with_reducible assumption | with_reducible exact Hid.out (by assumption) | with_reducible exact ⟨Below.refl _ _, fun _ _ _ => rfl⟩)) (first | (go_at_call 98; with_reducible refine (HHX.out _ ?_).mono ?_; (first | with_reducible assumption | ((repeat (first | with_reducible refine bothS_drew ?_ | with_reducible refine bothS_alloc _ ?_ | with_reducible refine bothS_set _ _ (by first | omega | (simp; omega) | simp) ?_)); first | with_reducible assumption | with_reducible exact Hid.out (by assumption) | with_reducible exact ⟨Below.refl _ _, fun _ _ _ => rfl⟩)); rintro e w' ⟨rfl, k, k1, k2, k3⟩; have HK := Lib.hid k; (try simp at k3); (try have k6 := Nat.lt_of_succ_le k3); (try have k7 := Nat.lt_of_succ_lt k6); (try have k8 := Nat.lt_of_succ_lt k3)) | (go_at_call 98; with_reducible refine (HSX.out _ ?_).mono ?_; (first | with_reducible assumption | ((repeat (first | with_reducible refine bothS_drew ?_ | with_reducible refine bothS_alloc _ ?_ | with_reducible refine bothS_set _ _ (by first | omega | (simp; omega) | simp) ?_)); first | with_reducible assumption | with_reducible exact Hid.out (by assumption) | with_reducible exact ⟨Below.refl _ _, fun _ _ _ => rfl⟩)); rintro e w' ⟨rfl, k, k1, k2, k3⟩; have HK := Lib.hid k; (try simp at k3); (try have k6 := Nat.lt_of_succ_le k3); (try have k7 := Nat.lt_of_succ_lt k6); (try have k8 := Nat.lt_of_succ_lt k3)) | (go_at_call 74; with_reducible refine (HAN.out _ ?_).mono ?_; (first | with_reducible assumption | ((repeat (first | with_reducible refine bothS_drew ?_ | with_reducible refine bothS_alloc _ ?_ | with_reducible refine bothS_set _ _ (by first | omega | (simp; omega) | simp) ?_)); first | with_reducible assumption | with_reducible exact Hid.out (by assumption) | with_reducible exact ⟨Below.refl _ _, fun _ _ _ => rfl⟩)); rintro e w' ⟨rfl, k, k1, k2, k3⟩; have HK := Lib.hid k; (try simp at k3); (try have k6 := Nat.lt_of_succ_le k3); (try have k7 := Nat.lt_of_succ_lt k6); (try have k8 := Nat.lt_of_succ_lt k3)) | fail "no arm")
      all_goals (go_wp2_with fail; go_meet; exact ⟨rfl, And.left (by assumption)⟩)
    case rest =>
    obtain ⟨rfl, hB1⟩ := hcut
    obtain ⟨w1, rfl⟩ : ∃ w1 : World, w1 = wc := ⟨_, rfl⟩
    have r0 := (hB1.cell (p := ⟨w.heap.size + 1, 0, none⟩) z1).trans (HR0.out 0)
    have r1 := (hB1.cell (p := ⟨w.heap.size + 1, 1, none⟩) z1).trans (HR0.out 1)
    have r2 := (hB1.frozen (p := ⟨w.heap.size + 1, 0, none⟩) z1).trans (HRF.out 0)
    have r3 := (hB1.frozen (p := ⟨w.heap.size + 1, 1, none⟩) z1).trans (HRF.out 1)
    have HBW := Lib.hid (HB0.out.trans (hB1.mono HB0.out.size))
    clear hB1
    go_wp2_with fail
    refine bodyPost_ret (v := .tuple #[.agg #[.int .i64 0, .int .i64 0], .int .i64 v]) (by simp [results, Try.results44, go_sem, *]) rfl ⟨rfl, ?_⟩
    have hBB := HBW.out
    exact (by repeat (first | assumption | exact Below.refl _ _ | (refine Below.alloc ?_ (by first | omega | (simp; omega) | simp) _) | (refine Below.setCell ?_ (by first | omega | (simp; omega) | simp) _) | refine Below.drew ?_))

set_option maxRecDepth 100000 in
set_option maxHeartbeats 4000000 in
theorem Gap_yes (f : PFrame) (sa : Option Addr) (sl sc : Nat) (pa : Option Addr) (pl pc : Nat) (ca : Option Addr) (cl cc : Nat) (one other : Int) (ho : f.ok = true) (h0 : 0 ≤ one) (hn : one < (f.pieces.length : Int)) (h1 : 0 ≤ other) (hn1 : other < (f.pieces.length : Int)) (w : World) (hp : PAt w sa sl sc pa pl pc ca cl cc f) :
    Calls Try.prog 44 #[.agg #[.int .i64 f.len, .int .i64 f.slack, .slice sa sl sc, .slice pa pl pc, .slice ca cl cc], .int .i64 one, .int .i64 other] w fun e w' => GapPost2 f one other e ∧ Below w.heap.size w w' := by
  have hpm := hp.2.1.2.1
  have hpl := hp.2.1.1
  obtain ⟨v, hv⟩ : ∃ v : Int, v = 0 := ⟨_, rfl⟩
  have HH := Lib.hid (fun W => hasPiece_is f sa sl sc pa pl pc ca cl cc one W hpm true (by unfold btw; simp; omega))
  have HS := Lib.hid (fun W => hasPiece_is f sa sl sc pa pl pc ca cl cc other W hpm true (by unfold btw; simp; omega))
  have HA := Lib.hid (fun W (hb : Below w.heap.size w W) => named_is f sa sl sc pa pl pc ca cl cc true v (by rw [hv]; simp [PFrame.name, ho]) W (hp.below hb))
  have HG := Lib.hid (fun W (hb : Below w.heap.size w W) => gap_any f sa sl sc pa pl pc ca cl cc one other ho h0 hn h1 hn1 W (hp.below hb))
  have HV := Lib.hid hv
  clear hp hpm hpl ho h0 hn h1 hn1 hv
  go_enter Try.func44, Try.ntmps44
  go_wp2_with fail
  obtain ⟨W0, hW0, hB0, ha0, hr0, hs0, hrf, -, hz0⟩ := name3 w #[.int .i64 f.len, .int .i64 f.slack, .slice sa sl sc, .slice pa pl pc, .slice ca cl cc] 26 #[.int .i64 0, .int .i64 0] 32 #[.int .i64 f.len, .int .i64 f.slack, .slice sa sl sc, .slice pa pl pc, .slice ca cl cc] 87
  rw [hW0]
  clear hW0
  have HHX := Lib.hid (fun W (h : Below W0.heap.size W0 W ∧ ∀ b o, b < W0.heap.size → W.cell? ⟨b, o, none⟩ = W0.cell? ⟨b, o, none⟩) => bothS1 (W0 := W0) (HH.out W) h)
  have HSX := Lib.hid (fun W (h : Below W0.heap.size W0 W ∧ ∀ b o, b < W0.heap.size → W.cell? ⟨b, o, none⟩ = W0.cell? ⟨b, o, none⟩) => bothS1 (W0 := W0) (HS.out W) h)
  have HAN := Lib.hid (fun W (h : Below W0.heap.size W0 W ∧ ∀ b o, b < W0.heap.size → W.cell? ⟨b, o, none⟩ = W0.cell? ⟨b, o, none⟩) => bothS1 (W0 := W0) (HA.out W (hB0.trans (h.1.mono hB0.size))) h)
  obtain ⟨x0, x1, x2, x3, x4⟩ : W0.cell? ⟨w.heap.size + 1 + 1, 0, none⟩ = some (.int .i64 f.len) ∧ W0.cell? ⟨w.heap.size + 1 + 1, 1, none⟩ = some (.int .i64 f.slack) ∧ W0.cell? ⟨w.heap.size + 1 + 1, 2, none⟩ = some (.slice sa sl sc) ∧ W0.cell? ⟨w.heap.size + 1 + 1, 3, none⟩ = some (.slice pa pl pc) ∧ W0.cell? ⟨w.heap.size + 1 + 1, 4, none⟩ = some (.slice ca cl cc) := ⟨hs0 0, hs0 1, hs0 2, hs0 3, hs0 4⟩
  have z1 : w.heap.size + 1 < W0.heap.size := by omega
  have z2 : w.heap.size + 1 + 1 < W0.heap.size := by omega
  have HB0 := Lib.hid hB0
  have HR0 := Lib.hid hr0
  have HRF := Lib.hid hrf
  have HS0 := Lib.hid hs0
  clear hB0 hr0 hrf ha0 hs0 hz0
  go_upto_region 2 with fail
  go_cut [9] (fun v9 wx => v9 = .int .i64 v ∧ Below W0.heap.size W0 wx)
  case first =>
    go_region_held3 (fun w' => Below W0.heap.size W0 w' ∧ ∀ b o, b < W0.heap.size → w'.cell? ⟨b, o, none⟩ = W0.cell? ⟨b, o, none⟩) (first | with_reducible assumption | ((repeat (first | with_reducible refine bothS_drew ?_ | with_reducible refine bothS_alloc _ ?_ | with_reducible refine bothS_set _ _ (by first | omega | (simp; omega) | simp) ?_)); first | with_reducible assumption | with_reducible exact Hid.out (by assumption) | with_reducible exact ⟨Below.refl _ _, fun _ _ _ => rfl⟩)) (first | (go_at_call 98; with_reducible refine (HHX.out _ ?_).mono ?_; (first | with_reducible assumption | ((repeat (first | with_reducible refine bothS_drew ?_ | with_reducible refine bothS_alloc _ ?_ | with_reducible refine bothS_set _ _ (by first | omega | (simp; omega) | simp) ?_)); first | with_reducible assumption | with_reducible exact Hid.out (by assumption) | with_reducible exact ⟨Below.refl _ _, fun _ _ _ => rfl⟩)); rintro e w' ⟨rfl, k, k1, k2, k3⟩; have HK := Lib.hid k; (try simp at k3); (try have k6 := Nat.lt_of_succ_le k3); (try have k7 := Nat.lt_of_succ_lt k6); (try have k8 := Nat.lt_of_succ_lt k3)) | (go_at_call 98; with_reducible refine (HSX.out _ ?_).mono ?_; (first | with_reducible assumption | ((repeat (first | with_reducible refine bothS_drew ?_ | with_reducible refine bothS_alloc _ ?_ | with_reducible refine bothS_set _ _ (by first | omega | (simp; omega) | simp) ?_)); first | with_reducible assumption | with_reducible exact Hid.out (by assumption) | with_reducible exact ⟨Below.refl _ _, fun _ _ _ => rfl⟩)); rintro e w' ⟨rfl, k, k1, k2, k3⟩; have HK := Lib.hid k; (try simp at k3); (try have k6 := Nat.lt_of_succ_le k3); (try have k7 := Nat.lt_of_succ_lt k6); (try have k8 := Nat.lt_of_succ_lt k3)) | (go_at_call 74; with_reducible refine (HAN.out _ ?_).mono ?_; (first | with_reducible assumption | ((repeat (first | with_reducible refine bothS_drew ?_ | with_reducible refine bothS_alloc _ ?_ | with_reducible refine bothS_set _ _ (by first | omega | (simp; omega) | simp) ?_)); first | with_reducible assumption | with_reducible exact Hid.out (by assumption) | with_reducible exact ⟨Below.refl _ _, fun _ _ _ => rfl⟩)); rintro e w' ⟨rfl, k, k1, k2, k3⟩; have HK := Lib.hid k; (try simp at k3); (try have k6 := Nat.lt_of_succ_le k3); (try have k7 := Nat.lt_of_succ_lt k6); (try have k8 := Nat.lt_of_succ_lt k3)) | fail "no arm")
    all_goals (go_wp2_with fail; go_meet; exact ⟨rfl, And.left (by assumption)⟩)
  case rest =>
  obtain ⟨rfl, hB1⟩ := hcut
  obtain ⟨w1, rfl⟩ : ∃ w1 : World, w1 = wc := ⟨_, rfl⟩
  have r0 := (hB1.cell (p := ⟨w.heap.size + 1, 0, none⟩) z1).trans (HR0.out 0)
  have r1 := (hB1.cell (p := ⟨w.heap.size + 1, 1, none⟩) z1).trans (HR0.out 1)
  have r2 := (hB1.frozen (p := ⟨w.heap.size + 1, 0, none⟩) z1).trans (HRF.out 0)
  have r3 := (hB1.frozen (p := ⟨w.heap.size + 1, 1, none⟩) z1).trans (HRF.out 1)
  obtain rfl := HV.out
  clear HV x0 x1 x2 x3 x4
  obtain ⟨x0, x1, x2, x3, x4⟩ : w1.cell? ⟨w.heap.size + 1 + 1, 0, none⟩ = some (.int .i64 f.len) ∧ w1.cell? ⟨w.heap.size + 1 + 1, 1, none⟩ = some (.int .i64 f.slack) ∧ w1.cell? ⟨w.heap.size + 1 + 1, 2, none⟩ = some (.slice sa sl sc) ∧ w1.cell? ⟨w.heap.size + 1 + 1, 3, none⟩ = some (.slice pa pl pc) ∧ w1.cell? ⟨w.heap.size + 1 + 1, 4, none⟩ = some (.slice ca cl cc) := ⟨(hB1.cell (p := ⟨w.heap.size + 1 + 1, 0, none⟩) z2).trans (HS0.out 0), (hB1.cell (p := ⟨w.heap.size + 1 + 1, 1, none⟩) z2).trans (HS0.out 1), (hB1.cell (p := ⟨w.heap.size + 1 + 1, 2, none⟩) z2).trans (HS0.out 2), (hB1.cell (p := ⟨w.heap.size + 1 + 1, 3, none⟩) z2).trans (HS0.out 3), (hB1.cell (p := ⟨w.heap.size + 1 + 1, 4, none⟩) z2).trans (HS0.out 4)⟩
  have y1 : w.heap.size + 1 < w1.heap.size := Nat.lt_of_lt_of_le z1 hB1.size
  have HBW := Lib.hid (HB0.out.trans (hB1.mono HB0.out.size))
  have HGW := Lib.hid (HG.out w1 HBW.out)
  clear hB1 HS0
  go_wp2_with fail
  refine HGW.out.mono ?_
  rintro e w2 ⟨⟨ci, a, di, b, hat, hbt, rfl⟩, hb2⟩
  have q0 := (hb2.cell (p := ⟨w.heap.size + 1, 0, none⟩) y1).trans r0
  have q1 := (hb2.cell (p := ⟨w.heap.size + 1, 1, none⟩) y1).trans r1
  have q2 := (hb2.frozen (p := ⟨w.heap.size + 1, 0, none⟩) y1).trans r2
  have q3 := (hb2.frozen (p := ⟨w.heap.size + 1, 1, none⟩) y1).trans r3
  have kz := Nat.lt_of_lt_of_le y1 hb2.size
  have HBH := Lib.hid (HBW.out.trans (hb2.mono HBW.out.size))
  have HPT := Lib.hid (show f.at one ci a ∧ f.at other di b from ⟨hat, hbt⟩)
  clear hb2 hat hbt x0 x1 x2 x3 x4
  go_wp2_with fail
  refine bodyPost_ret (v := .tuple #[.agg #[.int .i64 (f.gapLo (f.ahead ci a) (f.ahead di b)), .int .i64 (f.gapHi (f.ahead ci a) (f.ahead di b))], .int .i64 0]) (by simp [results, Try.results44, go_sem, *]) rfl ⟨⟨ci, a, di, b, HPT.out.1, HPT.out.2, rfl⟩, ?_⟩
  have hBB := HBH.out
  exact (by repeat (first | assumption | exact Below.refl _ _ | (refine Below.alloc ?_ (by first | omega | (simp; omega) | simp) _) | (refine Below.setCell ?_ (by first | omega | (simp; omega) | simp) _) | refine Below.drew ?_))
end Go.Proofs.Ytcklhojeneejiaa
