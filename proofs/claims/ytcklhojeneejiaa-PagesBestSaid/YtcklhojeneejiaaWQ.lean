/- The reference of pages: sure, KnownOf, Fits. -/
import Derived.Test.YtcklhojeneejiaaWB
import Derived.Test.YtcklhojeneejiaaYP
import Derived.Test.YtcklhojeneejiaaZY
namespace Go.Proofs.Ytcklhojeneejiaa
set_option linter.unusedVariables false
set_option linter.unusedSimpArgs false
open Go.RowKit Go.Shelf

def kR (n all : Int) : Int := if n = 0 then 2 else if n = all then 1 else 3
set_option maxHeartbeats 400000 in
theorem KnownOf_any (n all : Int) (h : 0 < all) (w : World) :
    Calls Try.prog 86 #[.int .i64 n, .int .i64 all] w fun e w' => e = .returned (.int .i64 (kR n all)) ∧ w = w' := by
  have HR := Lib.hid (show kR n all = if n = 0 then 2 else if n = all then 1 else 3 from rfl)
  by_cases h0 : n = 0
  · subst h0
    have h2 : ¬ (0 : Int) = all := by omega
    go_enter Try.func86, Try.ntmps86
    go_wp2
    all_goals (go_ret; exact ⟨ret_i64 (by rw [HR.out]; simp), rfl⟩)
  · by_cases h1 : n = all
    · subst h1
      go_enter Try.func86, Try.ntmps86
      go_wp2
      all_goals (go_ret; exact ⟨ret_i64 (by rw [HR.out, if_neg h0]; simp), rfl⟩)
    · go_enter Try.func86, Try.ntmps86
      go_wp2
      all_goals (go_ret; exact ⟨ret_i64 (by rw [HR.out, if_neg h0, if_neg h1]), rfl⟩)
theorem sumG_le' {g h : Int → Int} : ∀ {xs : List Int}, (∀ x, g x ≤ h x) → sumG g xs ≤ sumG h xs
  | [], _ => Int.le_refl _
  | x :: xs, hh => by
    have h1 := hh x
    have h2 := sumG_le' (xs := xs) hh
    simp only [sumG]; omega
/-- Whether a column of such ends is surely locked with so many points. -/
def PFrame.sureB (f : PFrame) (xs : List Int) (p : Int) : Bool := btw (f.loS xs + p) (f.len - f.slack) f.len && btw (f.hiS xs + p) (f.len - f.slack) f.len

set_option maxRecDepth 100000 in
set_option maxHeartbeats 8000000 in
theorem sure_anyW (f : PFrame) (sa : Option Addr) (sl sc : Nat) (pa : Option Addr) (pl pc : Nat) (ca : Option Addr) (cl cc : Nat) (c : Nat) (hc : c < f.cols.length) (p : Int) (hp0 : -1000 ≤ p) (hp1 : p ≤ 1000) (ho : f.okW) (w : World) (hp : PAt w sa sl sc pa pl pc ca cl cc f) :
    Calls Try.prog 88 #[.agg #[.int .i64 f.len, .int .i64 f.slack, .slice sa sl sc, .slice pa pl pc, .slice ca cl cc], .int .i64 c, .int .i64 p] w fun e w' => e = .returned (.bool (f.sureB f.cols[c] p)) ∧ Below w.heap.size w w' := by
  have hcl := hp.2.2.1
  obtain ⟨cb, co, rfl, hcB, hccell⟩ := hp.2.2.2.2 (by omega)
  obtain ⟨ra, rl, rc, hcell, -, hri⟩ := hccell c hc
  obtain ⟨hin, h6⟩ := PFrame.okW.col ho c hc
  have HG := Lib.hid (fun W (hb : Below w.heap.size w W) => refHigh_anyW f sa sl sc pa pl pc (some ⟨cb, co, none⟩) cl cc ra rl rc f.cols[c] ho hin h6 W (hp.below hb) (hri.below hb))
  have hlb := PFrame.okW.loS_bd ho f.cols[c] h6
  have hhb := PFrame.okW.hiS_bd ho f.cols[c] h6
  have HL := Lib.hid (fun n b (h : btw n (f.len - f.slack) f.len = b) W => Locked_isW f sa sl sc pa pl pc (some ⟨cb, co, none⟩) cl cc n ho b h W)
  have HR := Lib.hid (show f.sureB f.cols[c] p = (btw (f.loS f.cols[c] + p) (f.len - f.slack) f.len && btw (f.hiS f.cols[c] + p) (f.len - f.slack) f.len) from rfl)
  generalize f.sureB f.cols[c] p = r at *
  generalize f.loS f.cols[c] = lo at *
  generalize f.hiS f.cols[c] = hi at *
  have hw1 : IntKind.i64.wrap (lo + p) = lo + p := IntWalk.i64_in _ ⟨by omega, by omega⟩
  have hw2 : IntKind.i64.wrap (hi + p) = hi + p := IntWalk.i64_in _ ⟨by omega, by omega⟩
  have hcl' : (c : Int) < (cl : Int) := by omega
  have hc0 : (0 : Int) ≤ (c : Int) := by omega
  clear hp hri hin h6 hccell ho
  go_enter Try.func88, Try.ntmps88
  go_wp2_with fail
  obtain ⟨W0, hW0, hB0, ⟨g0_0, g0_1, g0_2, g0_3, g0_4⟩, hz0⟩ : ∃ W0, (w.alloc (.cells #[.int .i64 f.len, .int .i64 f.slack, .slice sa sl sc, .slice pa pl pc, .slice (some ⟨cb, co, none⟩) cl cc] 26)) = W0 ∧ Below w.heap.size w W0 ∧ (W0.cell? ⟨w.heap.size, 0, none⟩ = some (.int .i64 f.len) ∧ W0.cell? ⟨w.heap.size, 1, none⟩ = some (.int .i64 f.slack) ∧ W0.cell? ⟨w.heap.size, 2, none⟩ = some (.slice sa sl sc) ∧ W0.cell? ⟨w.heap.size, 3, none⟩ = some (.slice pa pl pc) ∧ W0.cell? ⟨w.heap.size, 4, none⟩ = some (.slice (some ⟨cb, co, none⟩) cl cc)) ∧ W0.heap.size = w.heap.size + 1 :=
    ⟨_, rfl, (by repeat (first | exact Below.refl _ _ | (refine Below.alloc ?_ (by first | omega | (simp; omega) | simp) _) | (refine Below.setCell ?_ (by first | omega | (simp; omega) | simp) _) | refine Below.drew ?_)), ⟨by go_simp, by go_simp, by go_simp, by go_simp, by go_simp⟩, by simp⟩
  rw [hW0]
  clear hW0
  have HBW := Lib.hid hB0
  have q0_0 : w.heap.size < W0.heap.size := by omega
  clear hB0 hz0
  have g0_5 : W0.cell? ⟨cb, co + c, none⟩ = some (.slice ra rl rc) := (HBW.out.cell (p := ⟨cb, co + c, none⟩) hcB).trans hcell
  have q0_1 : cb < W0.heap.size := Nat.lt_of_lt_of_le hcB HBW.out.size
  have HV1 : Below w.heap.size w W0 := (HBW.out.trans (Below.mono (by repeat (first | exact Below.refl _ _ | (refine Below.alloc ?_ (by first | omega | (simp; omega) | simp) _) | (refine Below.setCell ?_ (by first | omega | (simp; omega) | simp) _) | refine Below.drew ?_)) HBW.out.size))
  have HX1 := Lib.hid (fun W (h : Below W0.heap.size W0 W ∧ ∀ b o, b < W0.heap.size → W.cell? ⟨b, o, none⟩ = W0.cell? ⟨b, o, none⟩) => bothM2 (W0 := W0) (HG.out W (HV1.trans (h.1.mono HV1.size))) h)
  clear HV1
  go_upto_region 2 with fail
  go_cut [7] (fun v7x wx => ∃ gb , v7x = .pointer (some ⟨gb, 0, none⟩) ∧ (wx.cell? ⟨gb, 0, none⟩ = some (.int .i64 lo) ∧ wx.cell? ⟨gb, 1, none⟩ = some (.int .i64 hi)) ∧ gb < wx.heap.size ∧ W0.heap.size ≤ gb ∧ Below W0.heap.size W0 wx ∧ True)
  case first =>
    go_region_held3 (fun w' => Below W0.heap.size W0 w' ∧ ∀ b o, b < W0.heap.size → w'.cell? ⟨b, o, none⟩ = W0.cell? ⟨b, o, none⟩) (first | with_reducible assumption | ((repeat (first | with_reducible refine bothS_drew ?_ | with_reducible refine bothS_alloc _ ?_ | with_reducible refine bothS_set _ _ (by first | omega | (simp; omega) | simp) ?_)); first | with_reducible assumption | with_reducible exact Hid.out (by assumption) | with_reducible exact ⟨Below.refl _ _, fun _ _ _ => rfl⟩)) (first
      | (go_at_call 78; with_reducible refine (HX1.out _ ?_).mono ?_; (first | with_reducible assumption | ((repeat (first | with_reducible refine bothS_drew ?_ | with_reducible refine bothS_alloc _ ?_ | with_reducible refine bothS_set _ _ (by first | omega | (simp; omega) | simp) ?_)); first | with_reducible assumption | with_reducible exact Hid.out (by assumption) | with_reducible exact ⟨Below.refl _ _, fun _ _ _ => rfl⟩)); rintro e w' ⟨rfl, k, k1, k2, k3⟩; have HK' := Lib.hid k; (try simp at k3); (try have k6 := Nat.lt_of_succ_le k3); (try have k7 := Nat.lt_of_succ_lt k6))
      | fail "no arm")
    all_goals (go_wp2_with fail; go_meet)
    all_goals refine ⟨_, rfl, ?_, ?_, ?_, And.left (by assumption), trivial⟩
    all_goals first | (refine ⟨?_, ?_⟩ <;> (go_simp; done)) | (with_reducible refine set5 _ _ _ _ _ ?_ ?_ ?_ ?_ ?_ <;> (go_simp; done)) | skip
    all_goals first | omega | (simp; done) | (simp; omega) | skip
  case rest =>
  obtain ⟨gb1, rfl, ⟨c1_0, c1_1⟩, hlt1, hge1, hb1, -⟩ := hcut
  obtain ⟨v1, rfl⟩ : ∃ v1 : World, v1 = wc := ⟨_, rfl⟩
  have hB1_0 : Below W0.heap.size W0 v1 := below_via (Lib.hid hb1) (by first | omega | (simp; done) | (simp; omega)) (by repeat (first | exact Below.refl _ _ | (refine Below.alloc ?_ (by first | omega | (simp; omega) | simp) _) | (refine Below.setCell ?_ (by first | omega | (simp; omega) | simp) _) | refine Below.drew ?_))
  have z1 := hb1.size
  (try simp at z1)
  obtain ⟨g1_0, g1_1, g1_2, g1_3, g1_4, g1_5⟩ : v1.cell? ⟨w.heap.size, 0, none⟩ = some (.int .i64 f.len) ∧ v1.cell? ⟨w.heap.size, 1, none⟩ = some (.int .i64 f.slack) ∧ v1.cell? ⟨w.heap.size, 2, none⟩ = some (.slice sa sl sc) ∧ v1.cell? ⟨w.heap.size, 3, none⟩ = some (.slice pa pl pc) ∧ v1.cell? ⟨w.heap.size, 4, none⟩ = some (.slice (some ⟨cb, co, none⟩) cl cc) ∧ v1.cell? ⟨cb, co + c, none⟩ = some (.slice ra rl rc) :=
    ⟨(hb1.cell (p := ⟨w.heap.size, 0, none⟩) (by first | omega | (simp; done) | (simp; omega))).trans (by first | (go_simp; done) | (go_simp; exact set_same (u := .int .i64 0) (by go_simp; done))), (hb1.cell (p := ⟨w.heap.size, 1, none⟩) (by first | omega | (simp; done) | (simp; omega))).trans (by first | (go_simp; done) | (go_simp; exact set_same (u := .int .i64 0) (by go_simp; done))), (hb1.cell (p := ⟨w.heap.size, 2, none⟩) (by first | omega | (simp; done) | (simp; omega))).trans (by first | (go_simp; done) | (go_simp; exact set_same (u := .int .i64 0) (by go_simp; done))), (hb1.cell (p := ⟨w.heap.size, 3, none⟩) (by first | omega | (simp; done) | (simp; omega))).trans (by first | (go_simp; done) | (go_simp; exact set_same (u := .int .i64 0) (by go_simp; done))), (hb1.cell (p := ⟨w.heap.size, 4, none⟩) (by first | omega | (simp; done) | (simp; omega))).trans (by first | (go_simp; done) | (go_simp; exact set_same (u := .int .i64 0) (by go_simp; done))), (hb1.cell (p := ⟨cb, co + c, none⟩) (by first | omega | (simp; done) | (simp; omega))).trans (by first | (go_simp; done) | (go_simp; exact set_same (u := .int .i64 0) (by go_simp; done)))⟩
  have q1_0 : w.heap.size < v1.heap.size := by first | omega | (simp at *; omega)
  have q1_1 : cb < v1.heap.size := by first | omega | (simp at *; omega)
  have HB1 := Lib.hid hB1_0
  have y1 := hB1_0.size
  clear hb1 hB1_0 g0_0 g0_1 g0_2 g0_3 g0_4 g0_5 q0_0 q0_1
  have g1_6 := c1_0
  have g1_7 := c1_1
  have q1_2 : gb1 < v1.heap.size := hlt1
  clear c1_0 c1_1
  clear HX1
  rcases h1 : btw (lo + p) (f.len - f.slack) f.len with - | -
  · have HL1 := Lib.hid (HL.out _ _ h1)
    rw [h1] at HR
    clear HL h1
    go_wp2_with fail
    refine (HL1.out _).mono ?_
    rintro e v2 ⟨rfl, hb2⟩
    have hB2_0 : Below W0.heap.size W0 v2 := below_via (Lib.hid hb2) (by first | omega | (simp; done) | (simp; omega)) (by repeat (first | exact Below.refl _ _ | with_reducible exact HB1.out | (refine Below.alloc ?_ (by first | omega | (simp; omega) | simp) _) | (refine Below.setCell ?_ (by first | omega | (simp; omega) | simp) _) | refine Below.drew ?_))
    have z2 := hb2.size
    (try simp at z2)
    have HB2 := Lib.hid hB2_0
    have y2 := hB2_0.size
    clear hb2 hB2_0 g1_0 g1_1 g1_2 g1_3 g1_4 g1_5 g1_6 g1_7 q1_0 q1_1 q1_2
    go_wp2_with fail
    go_ret
    exact ⟨ret_bool (by rw [HR.out]; rfl), HBW.out.trans (Below.mono (by repeat (first | exact Below.refl _ _ | with_reducible exact HB2.out | (refine Below.alloc ?_ (by first | omega | (simp; omega) | simp) _) | (refine Below.setCell ?_ (by first | omega | (simp; omega) | simp) _) | refine Below.drew ?_)) HBW.out.size)⟩
  · have HL1 := Lib.hid (HL.out _ _ h1)
    rw [h1, Bool.true_and] at HR
    have HL2 := Lib.hid (HL.out _ _ HR.out.symm)
    clear HL h1
    go_wp2_with fail
    refine (HL1.out _).mono ?_
    rintro e v2 ⟨rfl, hb2⟩
    have hB2_0 : Below W0.heap.size W0 v2 := below_via (Lib.hid hb2) (by first | omega | (simp; done) | (simp; omega)) (by repeat (first | exact Below.refl _ _ | with_reducible exact HB1.out | (refine Below.alloc ?_ (by first | omega | (simp; omega) | simp) _) | (refine Below.setCell ?_ (by first | omega | (simp; omega) | simp) _) | refine Below.drew ?_))
    have z2 := hb2.size
    (try simp at z2)
    obtain ⟨g2_0, g2_1, g2_2, g2_3, g2_4, g2_5, g2_6, g2_7⟩ : v2.cell? ⟨w.heap.size, 0, none⟩ = some (.int .i64 f.len) ∧ v2.cell? ⟨w.heap.size, 1, none⟩ = some (.int .i64 f.slack) ∧ v2.cell? ⟨w.heap.size, 2, none⟩ = some (.slice sa sl sc) ∧ v2.cell? ⟨w.heap.size, 3, none⟩ = some (.slice pa pl pc) ∧ v2.cell? ⟨w.heap.size, 4, none⟩ = some (.slice (some ⟨cb, co, none⟩) cl cc) ∧ v2.cell? ⟨cb, co + c, none⟩ = some (.slice ra rl rc) ∧ v2.cell? ⟨gb1, 0, none⟩ = some (.int .i64 lo) ∧ v2.cell? ⟨gb1, 1, none⟩ = some (.int .i64 hi) :=
      ⟨(hb2.cell (p := ⟨w.heap.size, 0, none⟩) (by first | omega | (simp; done) | (simp; omega))).trans (by first | (go_simp; done) | (go_simp; exact set_same (u := .int .i64 0) (by go_simp; done))), (hb2.cell (p := ⟨w.heap.size, 1, none⟩) (by first | omega | (simp; done) | (simp; omega))).trans (by first | (go_simp; done) | (go_simp; exact set_same (u := .int .i64 0) (by go_simp; done))), (hb2.cell (p := ⟨w.heap.size, 2, none⟩) (by first | omega | (simp; done) | (simp; omega))).trans (by first | (go_simp; done) | (go_simp; exact set_same (u := .int .i64 0) (by go_simp; done))), (hb2.cell (p := ⟨w.heap.size, 3, none⟩) (by first | omega | (simp; done) | (simp; omega))).trans (by first | (go_simp; done) | (go_simp; exact set_same (u := .int .i64 0) (by go_simp; done))), (hb2.cell (p := ⟨w.heap.size, 4, none⟩) (by first | omega | (simp; done) | (simp; omega))).trans (by first | (go_simp; done) | (go_simp; exact set_same (u := .int .i64 0) (by go_simp; done))), (hb2.cell (p := ⟨cb, co + c, none⟩) (by first | omega | (simp; done) | (simp; omega))).trans (by first | (go_simp; done) | (go_simp; exact set_same (u := .int .i64 0) (by go_simp; done))), (hb2.cell (p := ⟨gb1, 0, none⟩) (by first | omega | (simp; done) | (simp; omega))).trans (by first | (go_simp; done) | (go_simp; exact set_same (u := .int .i64 0) (by go_simp; done))), (hb2.cell (p := ⟨gb1, 1, none⟩) (by first | omega | (simp; done) | (simp; omega))).trans (by first | (go_simp; done) | (go_simp; exact set_same (u := .int .i64 0) (by go_simp; done)))⟩
    have q2_0 : w.heap.size < v2.heap.size := by first | omega | (simp at *; omega)
    have q2_1 : cb < v2.heap.size := by first | omega | (simp at *; omega)
    have q2_2 : gb1 < v2.heap.size := by first | omega | (simp at *; omega)
    have HB2 := Lib.hid hB2_0
    have y2 := hB2_0.size
    clear hb2 hB2_0 g1_0 g1_1 g1_2 g1_3 g1_4 g1_5 g1_6 g1_7 q1_0 q1_1 q1_2
    go_wp2_with fail
    refine (HL2.out _).mono ?_
    rintro e v3 ⟨rfl, hb3⟩
    have hB3_0 : Below W0.heap.size W0 v3 := below_via (Lib.hid hb3) (by first | omega | (simp; done) | (simp; omega)) (by repeat (first | exact Below.refl _ _ | with_reducible exact HB2.out | (refine Below.alloc ?_ (by first | omega | (simp; omega) | simp) _) | (refine Below.setCell ?_ (by first | omega | (simp; omega) | simp) _) | refine Below.drew ?_))
    have z3 := hb3.size
    (try simp at z3)
    have HB3 := Lib.hid hB3_0
    have y3 := hB3_0.size
    clear hb3 hB3_0 g2_0 g2_1 g2_2 g2_3 g2_4 g2_5 g2_6 g2_7 q2_0 q2_1 q2_2
    go_wp2_with fail
    go_ret
    exact ⟨rfl, HBW.out.trans (Below.mono (by repeat (first | exact Below.refl _ _ | with_reducible exact HB3.out | (refine Below.alloc ?_ (by first | omega | (simp; omega) | simp) _) | (refine Below.setCell ?_ (by first | omega | (simp; omega) | simp) _) | refine Below.drew ?_)) HBW.out.size)⟩
theorem sure_any (f : PFrame) (sa : Option Addr) (sl sc : Nat) (pa : Option Addr) (pl pc : Nat) (ca : Option Addr) (cl cc : Nat) (c : Nat) (hc : c < f.cols.length) (p : Int) (hp0 : -1000 ≤ p) (hp1 : p ≤ 1000) (ho : f.ok = true) (w : World) (hp : PAt w sa sl sc pa pl pc ca cl cc f) :
    Calls Try.prog 88 #[.agg #[.int .i64 f.len, .int .i64 f.slack, .slice sa sl sc, .slice pa pl pc, .slice ca cl cc], .int .i64 c, .int .i64 p] w fun e w' => e = .returned (.bool (f.sureB f.cols[c] p)) ∧ Below w.heap.size w w' :=
  sure_anyW f sa sl sc pa pl pc ca cl cc c hc p hp0 hp1 (PFrame.okW_of ho) w hp

/-- How many heights from lo on, below h, lock with a to b. -/
def cntR (lo a b h : Int) : Int := max 0 (min (h - 1) b - max lo a + 1)
theorem cntR_zero (lo a b : Int) : cntR lo a b lo = 0 := by unfold cntR; omega
theorem cntR_yes {lo a b h : Int} (h1 : lo ≤ h) (h2 : a ≤ h ∧ h ≤ b) : cntR lo a b (h + 1) = cntR lo a b h + 1 := by unfold cntR; omega
theorem cntR_no {lo a b h : Int} (h1 : lo ≤ h) (h2 : ¬ (a ≤ h ∧ h ≤ b)) : cntR lo a b (h + 1) = cntR lo a b h := by unfold cntR; omega
theorem cntR_bd {lo a b h : Int} (h1 : lo ≤ h) : 0 ≤ cntR lo a b h ∧ cntR lo a b h ≤ h - lo := by unfold cntR; omega
theorem kR_known {len slack lo hi p : Int} (h1 : lo ≤ hi) (h2 : 0 ≤ slack) : kR (cntR lo (len - slack - p) (len - p) (hi + 1)) (hi - lo + 1) = knownR len slack lo hi p := by
  unfold kR knownR cntR
  by_cases c1 : len - slack ≤ lo + p ∧ hi + p ≤ len
  · rw [if_pos c1, if_neg (by omega), if_pos (by omega)]
  · rw [if_neg c1]
    by_cases c2 : hi + p < len - slack ∨ len < lo + p
    · rw [if_pos c2, if_pos (by omega)]
    · rw [if_neg c2, if_neg (by omega), if_neg (by omega)]
theorem ok_hB {f : PFrame} (ho : f.ok = true) : ∀ c ∈ f.cols, c.length ≤ 1000 := fun c hc => by
  obtain ⟨i, hi, rfl⟩ := List.mem_iff_getElem.1 hc
  have := (PFrame.ok_col ho i hi).2
  have := (PFrame.ok_parts ho).2.2.2.2.2.1
  omega
end Go.Proofs.Ytcklhojeneejiaa
