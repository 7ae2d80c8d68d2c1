/- The reference of pages: sure, KnownOf, Fits. -/
import Derived.Test.YtodlfmbfjnldiaaWB
import Derived.Test.YtodlfmbfjnldiaaYP
import Derived.Test.YtodlfmbfjnldiaaZY
namespace Go.Proofs.Ytodlfmbfjnldiaa
set_option linter.unusedVariables false
set_option linter.unusedSimpArgs false
open Go.RowKit Go.Shelf

def kR (n all : Int) : Int := if n = 0 then 2 else if n = all then 1 else 3
set_option maxHeartbeats 400000 in
theorem KnownOf_any (n all : Int) (h : 0 < all) (w : World) :
    Calls Try.prog 86 #[.int .i64 n, .int .i64 all] w fun e w' => e = .returned (.int .i64 (kR n all)) ∧ w = w' := by
  have HR := Lib.hid (show kR n all = if n = 0 then 2 else if n = all then 1 else 3 from rfl)
  by_cases h0 : n = 0
  · subst h0
    have h2 : ¬ (0 : Int) = all := by omega
    go_enter Try.func86, Try.ntmps86
    go_wp2
    all_goals (go_ret; exact ⟨ret_i64 (by rw [HR.out]; simp), rfl⟩)
  · by_cases h1 : n = all
    · subst h1
      go_enter Try.func86, Try.ntmps86
      go_wp2
      all_goals (go_ret; exact ⟨ret_i64 (by rw [HR.out, if_neg h0]; simp), rfl⟩)
    · go_enter Try.func86, Try.ntmps86
      go_wp2
      all_goals (go_ret; exact ⟨ret_i64 (by rw [HR.out, if_neg h0, if_neg h1]), rfl⟩)
theorem sumG_le' {g h : Int → Int} : ∀ {xs : List Int}, (∀ x, g x ≤ h x) → sumG g xs ≤ sumG h xs
  | [], _ => Int.le_refl _
  | x :: xs, hh => by
    have h1 := hh x
    have h2 := sumG_le' (xs := xs) hh
    simp only [sumG]; omega
/-- Whether a column of such ends is surely locked with so many points. -/
def PFrame.sureB (f : PFrame) (xs : List Int) (p : Int) : Bool := btw (f.loS xs + p) (f.len - f.slack) f.len && btw (f.hiS xs + p) (f.len - f.slack) f.len

set_option maxRecDepth 100000 in
set_option maxHeartbeats 8000000 in
theorem sure_any (f : PFrame) (sa : Option Addr) (sl sc : Nat) (pa : Option Addr) (pl pc : Nat) (ca : Option Addr) (cl cc : Nat) (c : Nat) (hc : c < f.cols.length) (p : Int) (hp0 : -1000 ≤ p) (hp1 : p ≤ 1000) (ho : f.ok = true) (w : World) (hp : PAt w sa sl sc pa pl pc ca cl cc f) :
    Calls Try.prog 88 #[.agg #[.int .i64 f.len, .int .i64 f.slack, .slice sa sl sc, .slice pa pl pc, .slice ca cl cc], .int .i64 c, .int .i64 p] w fun e w' => e = .returned (.bool (f.sureB f.cols[c] p)) ∧ Below w.heap.size w w' := by
  have hcl := hp.2.2.1
  obtain ⟨cb, co, rfl, hcB, hccell⟩ := hp.2.2.2.2 (by omega)
  obtain ⟨ra, rl, rc, hcell, -, hri⟩ := hccell c hc
  obtain ⟨hin, h6⟩ := PFrame.ok_col ho c hc
  have HG := Lib.hid (fun W (hb : Below w.heap.size w W) => refHigh_any f sa sl sc pa pl pc (some ⟨cb, co, none⟩) cl cc ra rl rc f.cols[c] ho hin h6 W (hp.below hb) (hri.below hb))
  have hlb := PFrame.loS_bd ho f.cols[c] h6
  have hhb := PFrame.hiS_bd ho f.cols[c] h6
  have HL := Lib.hid (fun n b (h : btw n (f.len - f.slack) f.len = b) W => Locked_is f sa sl sc pa pl pc (some ⟨cb, co, none⟩) cl cc n ho b h W)
  have HR := Lib.hid (show f.sureB f.cols[c] p = (btw (f.loS f.cols[c] + p) (f.len - f.slack) f.len && btw (f.hiS f.cols[c] + p) (f.len - f.slack) f.len) from rfl)
  generalize f.sureB f.cols[c] p = r at *
  generalize f.loS f.cols[c] = lo at *
  generalize f.hiS f.cols[c] = hi at *
  have hw1 : IntKind.i64.wrap (lo + p) = lo + p := IntWalk.i64_in _ ⟨by omega, by omega⟩
  have hw2 : IntKind.i64.wrap (hi + p) = hi + p := IntWalk.i64_in _ ⟨by omega, by omega⟩
  have hcl' : (c : Int) < (cl : Int) := by omega
  have hc0 : (0 : Int) ≤ (c : Int) := by omega
  clear hp hri hin h6 hccell ho
  go_enter Try.func88, Try.ntmps88
  go_wp2_with fail
  obtain ⟨W0, hW0, hB0, ⟨g0_0, g0_1, g0_2, g0_3, g0_4⟩, hz0⟩ : ∃ W0, (w.alloc (.cells #[.int .i64 f.len, .int .i64 f.slack, .slice sa sl sc, .slice pa pl pc, .slice (some ⟨cb, co, none⟩) cl cc] 26)) = W0 ∧ Below w.heap.size w W0 ∧ (W0.cell? ⟨w.heap.size, 0, none⟩ = some (.int .i64 f.len) ∧ W0.cell? ⟨w.heap.size, 1, none⟩ = some (.int .i64 f.slack) ∧ W0.cell? ⟨w.heap.size, 2, none⟩ = some (.slice sa sl sc) ∧ W0.cell? ⟨w.heap.size, 3, none⟩ = some (.slice pa pl pc) ∧ W0.cell? ⟨w.heap.size, 4, none⟩ = some (.slice (some ⟨cb, co, none⟩) cl cc)) ∧ W0.heap.size = w.heap.size + 1 :=
    ⟨_, rfl, (by repeat (first | exact Below.refl _ _ | (refine Below.alloc ?_ (by first | omega | (simp; omega) | simp) _) | (refine Below.setCell ?_ (by first | omega | (simp; omega) | simp) _) | refine Below.drew ?_)), ⟨by go_simp, by go_simp, by go_simp, by go_simp, by go_simp⟩, by simp⟩
  rw [hW0]
  clear hW0
  have HBW := Lib.hid hB0
  have q0_0 : w.heap.size < W0.heap.size := by omega
  clear hB0 hz0
  have g0_5 : W0.cell? ⟨cb, co + c, none⟩ = some (.slice ra rl rc) := (HBW.out.cell (p := ⟨cb, co + c, none⟩) hcB).trans hcell
  have q0_1 : cb < W0.heap.size := Nat.lt_of_lt_of_le hcB HBW.out.size
  have HV1 : Below w.heap.size w W0 := (HBW.out.trans (Below.mono (by repeat (first | exact Below.refl _ _ | (refine Below.alloc ?_ (by first | omega | (simp; omega) | simp) _) | (refine Below.setCell ?_ (by first | omega | (simp; omega) | simp) _) | refine Below.drew ?_)) HBW.out.size))
  have HX1 := Lib.hid (fun W (h : Below W0.heap.size W0 W ∧ ∀ b o, b < W0.heap.size → W.cell? ⟨b, o, none⟩ = W0.cell? ⟨b, o, none⟩) => bothM2 (W0 := W0) (HG.out W (HV1.trans (h.1.mono HV1.size))) h)
  clear HV1
  go_upto_region 2 with fail
  go_cut [7] (fun v7x wx => ∃ gb , v7x = .pointer (some ⟨gb, 0, none⟩) ∧ (wx.cell? ⟨gb, 0, none⟩ = some (.int .i64 lo) ∧ wx.cell? ⟨gb, 1, none⟩ = some (.int .i64 hi)) ∧ gb < wx.heap.size ∧ W0.heap.size ≤ gb ∧ Below W0.heap.size W0 wx ∧ True)
  case first =>
    go_region_held3 (fun w' => Below W0.heap.size W0 w' ∧ ∀ b o, b < W0.heap.size → w'.cell? ⟨b, o, none⟩ = W0.cell? ⟨b, o, none⟩) (first | with_reducible assumption | ((repeat (first | with_reducible refine bothS_drew ?_ | with_reducible refine bothS_alloc _ ?_ | with_reducible refine bothS_set _ _ (by first | omega | (simp; omega) | simp) ?_)); first | with_reducible assumption | with_reducible exact Hid.out (by assumption) | with_reducible exact ⟨Below.refl _ _, fun _ _ _ => rfl⟩)) (first
      | (go_at_call 78; with_reducible refine (HX1.out _ ?_).mono ?_; (first | with_reducible assumption | ((repeat (first | with_reducible refine bothS_drew ?_ | with_reducible refine bothS_alloc _ ?_ | with_reducible refine bothS_set _ _ (by first | omega | (simp; omega) | simp) ?_)); first | with_reducible assumption | with_reducible exact Hid.out (by assumption) | with_reducible exact ⟨Below.refl _ _, fun _ _ _ => rfl⟩)); rintro e w' ⟨rfl, k, k1, k2, k3⟩; have HK' := Lib.hid k; (try simp at k3); (try have k6 := Nat.lt_of_succ_le k3); (try have k7 := Nat.lt_of_succ_lt k6))
      | fail "no arm")
    all_goals (go_wp2_with fail; go_meet)
    all_goals refine ⟨_, rfl, ?_, ?_, ?_, And.left (by assumption), trivial⟩
    all_goals first | (refine ⟨?_, ?_⟩ <;> (go_simp; done)) | (with_reducible refine set5 _ _ _ _ _ ?_ ?_ ?_ ?_ ?_ <;> (go_simp; done)) | skip
    all_goals first | omega | (simp; done) | (simp; omega) | skip
  case rest =>
  obtain ⟨gb1, rfl, ⟨c1_0, c1_1⟩, hlt1, hge1, hb1, -⟩ := hcut
  obtain ⟨v1, rfl⟩ : ∃ v1 : World, v1 = wc := ⟨_, rfl⟩
  have hB1_0 : Below W0.heap.size W0 v1 := below_via (Lib.hid hb1) (by first | omega | (simp; done) | (simp; omega)) (by repeat (first | exact Below.refl _ _ | (refine Below.alloc ?_ (by first | omega | (simp; omega) | simp) _) | (refine Below.setCell ?_ (by first | omega | (simp; omega) | simp) _) | refine Below.drew ?_))
  have z1 := hb1.size
  (try simp at z1)
  obtain ⟨g1_0, g1_1, g1_2, g1_3, g1_4, g1_5⟩ : v1.cell? ⟨w.heap.size, 0, none⟩ = some (.int .i64 f.len) ∧ v1.cell? ⟨w.heap.size, 1, none⟩ = some (.int .i64 f.slack) ∧ v1.cell? ⟨w.heap.size, 2, none⟩ = some (.slice sa sl sc) ∧ v1.cell? ⟨w.heap.size, 3, none⟩ = some (.slice pa pl pc) ∧ v1.cell? ⟨w.heap.size, 4, none⟩ = some (.slice (some ⟨cb, co, none⟩) cl cc) ∧ v1.cell? ⟨cb, co + c, none⟩ = some (.slice ra rl rc) :=
    ⟨(hb1.cell (p := ⟨w.heap.size, 0, none⟩) (by first | omega | (simp; done) | (simp; omega))).trans (by first | (go_simp; done) | (go_simp; exact set_same (u := .int .i64 0) (by go_simp; done))), (hb1.cell (p := ⟨w.heap.size, 1, none⟩) (by first | omega | (simp; done) | (simp; omega))).trans (by first | (go_simp; done) | (go_simp; exact set_same (u := .int .i64 0) (by go_simp; done))), (hb1.cell (p := ⟨w.heap.size, 2, none⟩) (by first | omega | (simp; done) | (simp; omega))).trans (by first | (go_simp; done) | (go_simp; exact set_same (u := .int .i64 0) (by go_simp; done))), (hb1.cell (p := ⟨w.heap.size, 3, none⟩) (by first | omega | (simp; done) | (simp; omega))).trans (by first | (go_simp; done) | (go_simp; exact set_same (u := .int .i64 0) (by go_simp; done))), (hb1.cell (p := ⟨w.heap.size, 4, none⟩) (by first | omega | (simp; done) | (simp; omega))).trans (by first | (go_simp; done) | (go_simp; exact set_same (u := .int .i64 0) (by go_simp; done))), (hb1.cell (p := ⟨cb, co + c, none⟩) (by first | omega | (simp; done) | (simp; omega))).trans (by first | (go_simp; done) | (go_simp; exact set_same (u := .int .i64 0) (by go_simp; done)))⟩
  have q1_0 : w.heap.size < v1.heap.size := by first | omega | (simp at *; omega)
  have q1_1 : cb < v1.heap.size := by first | omega | (simp at *; omega)
  have HB1 := Lib.hid hB1_0
  have y1 := hB1_0.size
  clear hb1 hB1_0 g0_0 g0_1 g0_2 g0_3 g0_4 g0_5 q0_0 q0_1
  have g1_6 := c1_0
  have g1_7 := c1_1
  have q1_2 : gb1 < v1.heap.size := hlt1
  clear c1_0 c1_1
  clear HX1
  rcases h1 : btw (lo + p) (f.len - f.slack) f.len with - | -
  · have HL1 := Lib.hid (HL.out _ _ h1)
    rw [h1] at HR
    clear HL h1
    go_wp2_with fail
    refine (HL1.out _).mono ?_
    rintro e v2 ⟨rfl, hb2⟩
    have hB2_0 : Below W0.heap.size W0 v2 := below_via (Lib.hid hb2) (by first | omega | (simp; done) | (simp; omega)) (by repeat (first | exact Below.refl _ _ | with_reducible exact HB1.out | (refine Below.alloc ?_ (by first | omega | (simp; omega) | simp) _) | (refine Below.setCell ?_ (by first | omega | (simp; omega) | simp) _) | refine Below.drew ?_))
    have z2 := hb2.size
    (try simp at z2)
    have HB2 := Lib.hid hB2_0
    have y2 := hB2_0.size
    clear hb2 hB2_0 g1_0 g1_1 g1_2 g1_3 g1_4 g1_5 g1_6 g1_7 q1_0 q1_1 q1_2
    go_wp2_with fail
    go_ret
    exact ⟨ret_bool (by rw [HR.out]; rfl), HBW.out.trans (Below.mono (by repeat (first | exact Below.refl _ _ | with_reducible exact HB2.out | (refine Below.alloc ?_ (by first | omega | (simp; omega) | simp) _) | (refine Below.setCell ?_ (by first | omega | (simp; omega) | simp) _) | refine Below.drew ?_)) HBW.out.size)⟩
  · have HL1 := Lib.hid (HL.out _ _ h1)
    rw [h1, Bool.true_and] at HR
    have HL2 := Lib.hid (HL.out _ _ HR.out.symm)
    clear HL h1
    go_wp2_with fail
    refine (HL1.out _).mono ?_
    rintro e v2 ⟨rfl, hb2⟩
    have hB2_0 : Below W0.heap.size W0 v2 := below_via (Lib.hid hb2) (by first | omega | (simp; done) | (simp; omega)) (by repeat (first | exact Below.refl _ _ | with_reducible exact HB1.out | (refine Below.alloc ?_ (by first | omega | (simp; omega) | simp) _) | (refine Below.setCell ?_ (by first | omega | (simp; omega) | simp) _) | refine Below.drew ?_))
    have z2 := hb2.size
    (try simp at z2)
    obtain ⟨g2_0, g2_1, g2_2, g2_3, g2_4, g2_5, g2_6, g2_7⟩ : v2.cell? ⟨w.heap.size, 0, none⟩ = some (.int .i64 f.len) ∧ v2.cell? ⟨w.heap.size, 1, none⟩ = some (.int .i64 f.slack) ∧ v2.cell? ⟨w.heap.size, 2, none⟩ = some (.slice sa sl sc) ∧ v2.cell? ⟨w.heap.size, 3, none⟩ = some (.slice pa pl pc) ∧ v2.cell? ⟨w.heap.size, 4, none⟩ = some (.slice (some ⟨cb, co, none⟩) cl cc) ∧ v2.cell? ⟨cb, co + c, none⟩ = some (.slice ra rl rc) ∧ v2.cell? ⟨gb1, 0, none⟩ = some (.int .i64 lo) ∧ v2.cell? ⟨gb1, 1, none⟩ = some (.int .i64 hi) :=
      ⟨(hb2.cell (p := ⟨w.heap.size, 0, none⟩) (by first | omega | (simp; done) | (simp; omega))).trans (by first | (go_simp; done) | (go_simp; exact set_same (u := .int .i64 0) (by go_simp; done))), (hb2.cell (p := ⟨w.heap.size, 1, none⟩) (by first | omega | (simp; done) | (simp; omega))).trans (by first | (go_simp; done) | (go_simp; exact set_same (u := .int .i64 0) (by go_simp; done))), (hb2.cell (p := ⟨w.heap.size, 2, none⟩) (by first | omega | (simp; done) | (simp; omega))).trans (by first | (go_simp; done) | (go_simp; exact set_same (u := .int .i64 0) (by go_simp; done))), (hb2.cell (p := ⟨w.heap.size, 3, none⟩) (by first | omega | (simp; done) | (simp; omega))).trans (by first | (go_simp; done) | (go_simp; exact set_same (u := .int .i64 0) (by go_simp; done))), (hb2.cell (p := ⟨w.heap.size, 4, none⟩) (by first | omega | (simp; done) | (simp; omega))).trans (by first | (go_simp; done) | (go_simp; exact set_same (u := .int .i64 0) (by go_simp; done))), (hb2.cell (p := ⟨cb, co + c, none⟩) (by first | omega | (simp; done) | (simp; omega))).trans (by first | (go_simp; done) | (go_simp; exact set_same (u := .int .i64 0) (by go_simp; done))), (hb2.cell (p := ⟨gb1, 0, none⟩) (by first | omega | (simp; done) | (simp; omega))).trans (by first | (go_simp; done) | (go_simp; exact set_same (u := .int .i64 0) (by go_simp; done))), (hb2.cell (p := ⟨gb1, 1, none⟩) (by first | omega | (simp; done) | (simp; omega))).trans (by first | (go_simp; done) | (go_simp; exact set_same (u := .int .i64 0) (by go_simp; done)))⟩
    have q2_0 : w.heap.size < v2.heap.size := by first | omega | (simp at *; omega)
    have q2_1 : cb < v2.heap.size := by first | omega | (simp at *; omega)
    have q2_2 : gb1 < v2.heap.size := by first | omega | (simp at *; omega)
    have HB2 := Lib.hid hB2_0
    have y2 := hB2_0.size
    clear hb2 hB2_0 g1_0 g1_1 g1_2 g1_3 g1_4 g1_5 g1_6 g1_7 q1_0 q1_1 q1_2
    go_wp2_with fail
    refine (HL2.out _).mono ?_
    rintro e v3 ⟨rfl, hb3⟩
    have hB3_0 : Below W0.heap.size W0 v3 := below_via (Lib.hid hb3) (by first | omega | (simp; done) | (simp; omega)) (by repeat (first | exact Below.refl _ _ | with_reducible exact HB2.out | (refine Below.alloc ?_ (by first | omega | (simp; omega) | simp) _) | (refine Below.setCell ?_ (by first | omega | (simp; omega) | simp) _) | refine Below.drew ?_))
    have z3 := hb3.size
    (try simp at z3)
    have HB3 := Lib.hid hB3_0
    have y3 := hB3_0.size
    clear hb3 hB3_0 g2_0 g2_1 g2_2 g2_3 g2_4 g2_5 g2_6 g2_7 q2_0 q2_1 q2_2
    go_wp2_with fail
    go_ret
    exact ⟨rfl, HBW.out.trans (Below.mono (by repeat (first | exact Below.refl _ _ | with_reducible exact HB3.out | (refine Below.alloc ?_ (by first | omega | (simp; omega) | simp) _) | (refine Below.setCell ?_ (by first | omega | (simp; omega) | simp) _) | refine Below.drew ?_)) HBW.out.size)⟩

/-- How many heights from lo on, below h, lock with a to b. -/
def cntR (lo a b h : Int) : Int := max 0 (min (h - 1) b - max lo a + 1)
theorem cntR_zero (lo a b : Int) : cntR lo a b lo = 0 := by unfold cntR; omega
theorem cntR_yes {lo a b h : Int} (h1 : lo ≤ h) (h2 : a ≤ h ∧ h ≤ b) : cntR lo a b (h + 1) = cntR lo a b h + 1 := by unfold cntR; omega
theorem cntR_no {lo a b h : Int} (h1 : lo ≤ h) (h2 : ¬ (a ≤ h ∧ h ≤ b)) : cntR lo a b (h + 1) = cntR lo a b h := by unfold cntR; omega
theorem cntR_bd {lo a b h : Int} (h1 : lo ≤ h) : 0 ≤ cntR lo a b h ∧ cntR lo a b h ≤ h - lo := by unfold cntR; omega
theorem kR_known {len slack lo hi p : Int} (h1 : lo ≤ hi) (h2 : 0 ≤ slack) : kR (cntR lo (len - slack - p) (len - p) (hi + 1)) (hi - lo + 1) = knownR len slack lo hi p := by
  unfold kR knownR cntR
  by_cases c1 : len - slack ≤ lo + p ∧ hi + p ≤ len
  · rw [if_pos c1, if_neg (by omega), if_pos (by omega)]
  · rw [if_neg c1]
    by_cases c2 : hi + p < len - slack ∨ len < lo + p
    · rw [if_pos c2, if_pos (by omega)]
    · rw [if_neg c2, if_neg (by omega), if_neg (by omega)]
theorem ok_hB {f : PFrame} (ho : f.ok = true) : ∀ c ∈ f.cols, c.length ≤ 1000 := fun c hc => by
  obtain ⟨i, hi, rfl⟩ := List.mem_iff_getElem.1 hc
  have := (PFrame.ok_col ho i hi).2
  have := (PFrame.ok_parts ho).2.2.2.2.2.1
  omega
set_option maxRecDepth 100000 in
set_option maxHeartbeats 8000000 in
theorem refFits_no (f : PFrame) (sa : Option Addr) (sl sc : Nat) (pa : Option Addr) (pl pc : Nat) (ca : Option Addr) (cl cc : Nat) (n v : Int) (xa : Option Addr) (xl xc : Nat) (x : List Int) (hv : f.fitE n x = v) (h0 : v ≠ 0) (hB : ∀ c ∈ f.cols, c.length ≤ 1000) (w : World) (hp : PAt w sa sl sc pa pl pc ca cl cc f) (hx : IntsAt w xa xl x) :
    Calls Try.prog 25 #[.agg #[.int .i64 f.len, .int .i64 f.slack, .slice sa sl sc, .slice pa pl pc, .slice ca cl cc], .int .i64 n, .slice xa xl xc] w fun e w' => e = .returned (.tuple #[.int .i64 0, .int .i64 v]) ∧ Below w.heap.size w w' := by
  have hcm := hp.2.2.2.1
  have hcl := hp.2.2.1
  have HC := Lib.hid (fun c (h : f.chk = c) W (hb : Below w.heap.size w W) => refCheck_is f sa sl sc pa pl pc ca cl cc c h hB W (hp.below hb))
  have HI := Lib.hid (fun r (h : btw n 0 ((cl : Int) - 1) = r) W => IsColumn_is f sa sl sc pa pl pc ca cl cc n W hcm r h)
  have HS := Lib.hid (fun r (h : f.setB x = r) W (hb : Below w.heap.size w W) => refIsSet_is f sa sl sc pa pl pc ca cl cc xa xl xc x r h W (hp.below hb) (hx.below hb))
  unfold PFrame.fitE PFrame.name at hv
  rw [hcl] at hv
  clear hp hx hcm hcl hB
  rcases ho : f.ok with - | -
  · have HC1 := Lib.hid (HC.out 30 (by unfold PFrame.chk; rw [ho]; rfl))
    rw [ho] at hv
    simp at hv
    subst hv
    clear HC HI HS ho
    go_enter Try.func25, Try.ntmps25
    go_wp2_with fail
    obtain ⟨W0, hW0, hB0, ⟨g0_0, g0_1, g0_2, g0_3, g0_4⟩, hz0⟩ : ∃ W0, (w.alloc (.cells #[.int .i64 f.len, .int .i64 f.slack, .slice sa sl sc, .slice pa pl pc, .slice ca cl cc] 26)) = W0 ∧ Below w.heap.size w W0 ∧ (W0.cell? ⟨w.heap.size, 0, none⟩ = some (.int .i64 f.len) ∧ W0.cell? ⟨w.heap.size, 1, none⟩ = some (.int .i64 f.slack) ∧ W0.cell? ⟨w.heap.size, 2, none⟩ = some (.slice sa sl sc) ∧ W0.cell? ⟨w.heap.size, 3, none⟩ = some (.slice pa pl pc) ∧ W0.cell? ⟨w.heap.size, 4, none⟩ = some (.slice ca cl cc)) ∧ W0.heap.size = w.heap.size + 1 :=
      ⟨_, rfl, (by repeat (first | exact Below.refl _ _ | (refine Below.alloc ?_ (by first | omega | (simp; omega) | simp) _) | (refine Below.setCell ?_ (by first | omega | (simp; omega) | simp) _) | refine Below.drew ?_)), ⟨by go_simp, by go_simp, by go_simp, by go_simp, by go_simp⟩, by simp⟩
    rw [hW0]
    clear hW0
    have HBW := Lib.hid hB0
    have q0_0 : w.heap.size < W0.heap.size := by omega
    clear hB0 hz0
    go_wp2_with fail
    refine (HC1.out _ (HBW.out.trans (Below.mono (by repeat (first | exact Below.refl _ _ | (refine Below.alloc ?_ (by first | omega | (simp; omega) | simp) _) | (refine Below.setCell ?_ (by first | omega | (simp; omega) | simp) _) | refine Below.drew ?_)) HBW.out.size))).mono ?_
    rintro e v1 ⟨rfl, hb1⟩
    have hB1_0 : Below W0.heap.size W0 v1 := below_via (Lib.hid hb1) (by first | omega | (simp; done) | (simp; omega)) (by repeat (first | exact Below.refl _ _ | (refine Below.alloc ?_ (by first | omega | (simp; omega) | simp) _) | (refine Below.setCell ?_ (by first | omega | (simp; omega) | simp) _) | refine Below.drew ?_))
    have z1 := hb1.size
    (try simp at z1)
    have HB1 := Lib.hid hB1_0
    have y1 := hB1_0.size
    clear hb1 hB1_0 g0_0 g0_1 g0_2 g0_3 g0_4 q0_0
    go_wp2_with fail
    go_ret2
    exact ⟨rfl, HBW.out.trans (Below.mono (by repeat (first | exact Below.refl _ _ | with_reducible exact HB1.out | (refine Below.alloc ?_ (by first | omega | (simp; omega) | simp) _) | (refine Below.setCell ?_ (by first | omega | (simp; omega) | simp) _) | refine Below.drew ?_)) HBW.out.size)⟩
  · have HC1 := Lib.hid (HC.out 0 (by unfold PFrame.chk; rw [ho]; rfl))
    rw [ho, if_pos rfl] at hv
    rcases h1 : btw n 0 ((cl : Int) - 1) with - | -
    · have HI1 := Lib.hid (HI.out _ h1)
      rw [h1] at hv
      simp at hv
      subst hv
      clear HC HI HS ho h1
      go_enter Try.func25, Try.ntmps25
      go_wp2_with fail
      obtain ⟨W0, hW0, hB0, ⟨g0_0, g0_1, g0_2, g0_3, g0_4⟩, hz0⟩ : ∃ W0, (w.alloc (.cells #[.int .i64 f.len, .int .i64 f.slack, .slice sa sl sc, .slice pa pl pc, .slice ca cl cc] 26)) = W0 ∧ Below w.heap.size w W0 ∧ (W0.cell? ⟨w.heap.size, 0, none⟩ = some (.int .i64 f.len) ∧ W0.cell? ⟨w.heap.size, 1, none⟩ = some (.int .i64 f.slack) ∧ W0.cell? ⟨w.heap.size, 2, none⟩ = some (.slice sa sl sc) ∧ W0.cell? ⟨w.heap.size, 3, none⟩ = some (.slice pa pl pc) ∧ W0.cell? ⟨w.heap.size, 4, none⟩ = some (.slice ca cl cc)) ∧ W0.heap.size = w.heap.size + 1 :=
        ⟨_, rfl, (by repeat (first | exact Below.refl _ _ | (refine Below.alloc ?_ (by first | omega | (simp; omega) | simp) _) | (refine Below.setCell ?_ (by first | omega | (simp; omega) | simp) _) | refine Below.drew ?_)), ⟨by go_simp, by go_simp, by go_simp, by go_simp, by go_simp⟩, by simp⟩
      rw [hW0]
      clear hW0
      have HBW := Lib.hid hB0
      have q0_0 : w.heap.size < W0.heap.size := by omega
      clear hB0 hz0
      go_wp2_with fail
      refine (HC1.out _ (HBW.out.trans (Below.mono (by repeat (first | exact Below.refl _ _ | (refine Below.alloc ?_ (by first | omega | (simp; omega) | simp) _) | (refine Below.setCell ?_ (by first | omega | (simp; omega) | simp) _) | refine Below.drew ?_)) HBW.out.size))).mono ?_
      rintro e v1 ⟨rfl, hb1⟩
      have hB1_0 : Below W0.heap.size W0 v1 := below_via (Lib.hid hb1) (by first | omega | (simp; done) | (simp; omega)) (by repeat (first | exact Below.refl _ _ | (refine Below.alloc ?_ (by first | omega | (simp; omega) | simp) _) | (refine Below.setCell ?_ (by first | omega | (simp; omega) | simp) _) | refine Below.drew ?_))
      have z1 := hb1.size
      (try simp at z1)
      obtain ⟨g1_0, g1_1, g1_2, g1_3, g1_4⟩ : v1.cell? ⟨w.heap.size, 0, none⟩ = some (.int .i64 f.len) ∧ v1.cell? ⟨w.heap.size, 1, none⟩ = some (.int .i64 f.slack) ∧ v1.cell? ⟨w.heap.size, 2, none⟩ = some (.slice sa sl sc) ∧ v1.cell? ⟨w.heap.size, 3, none⟩ = some (.slice pa pl pc) ∧ v1.cell? ⟨w.heap.size, 4, none⟩ = some (.slice ca cl cc) :=
        ⟨(hb1.cell (p := ⟨w.heap.size, 0, none⟩) (by first | omega | (simp; done) | (simp; omega))).trans (by first | (go_simp; done) | (go_simp; exact set_same (u := .int .i64 0) (by go_simp; done))), (hb1.cell (p := ⟨w.heap.size, 1, none⟩) (by first | omega | (simp; done) | (simp; omega))).trans (by first | (go_simp; done) | (go_simp; exact set_same (u := .int .i64 0) (by go_simp; done))), (hb1.cell (p := ⟨w.heap.size, 2, none⟩) (by first | omega | (simp; done) | (simp; omega))).trans (by first | (go_simp; done) | (go_simp; exact set_same (u := .int .i64 0) (by go_simp; done))), (hb1.cell (p := ⟨w.heap.size, 3, none⟩) (by first | omega | (simp; done) | (simp; omega))).trans (by first | (go_simp; done) | (go_simp; exact set_same (u := .int .i64 0) (by go_simp; done))), (hb1.cell (p := ⟨w.heap.size, 4, none⟩) (by first | omega | (simp; done) | (simp; omega))).trans (by first | (go_simp; done) | (go_simp; exact set_same (u := .int .i64 0) (by go_simp; done)))⟩
      have q1_0 : w.heap.size < v1.heap.size := by first | omega | (simp at *; omega)
      have HB1 := Lib.hid hB1_0
      have y1 := hB1_0.size
      clear hb1 hB1_0 g0_0 g0_1 g0_2 g0_3 g0_4 q0_0
      go_wp2_with fail
      refine (HI1.out _).mono ?_
      rintro e v2 ⟨rfl, hb2⟩
      have hB2_0 : Below W0.heap.size W0 v2 := below_via (Lib.hid hb2) (by first | omega | (simp; done) | (simp; omega)) (by repeat (first | exact Below.refl _ _ | with_reducible exact HB1.out | (refine Below.alloc ?_ (by first | omega | (simp; omega) | simp) _) | (refine Below.setCell ?_ (by first | omega | (simp; omega) | simp) _) | refine Below.drew ?_))
      have z2 := hb2.size
      (try simp at z2)
      have HB2 := Lib.hid hB2_0
      have y2 := hB2_0.size
      clear hb2 hB2_0 g1_0 g1_1 g1_2 g1_3 g1_4 q1_0
      go_wp2_with fail
      go_ret2
      exact ⟨rfl, HBW.out.trans (Below.mono (by repeat (first | exact Below.refl _ _ | with_reducible exact HB2.out | (refine Below.alloc ?_ (by first | omega | (simp; omega) | simp) _) | (refine Below.setCell ?_ (by first | omega | (simp; omega) | simp) _) | refine Below.drew ?_)) HBW.out.size)⟩
    · have HI1 := Lib.hid (HI.out _ h1)
      rw [h1, Bool.true_and] at hv
      rcases h2 : f.setB x with - | -
      · have HS1 := Lib.hid (HS.out _ h2)
        rw [h2] at hv
        simp at hv
        subst hv
        clear HC HI HS ho h1 h2
        go_enter Try.func25, Try.ntmps25
        go_wp2_with fail
        obtain ⟨W0, hW0, hB0, ⟨g0_0, g0_1, g0_2, g0_3, g0_4⟩, hz0⟩ : ∃ W0, (w.alloc (.cells #[.int .i64 f.len, .int .i64 f.slack, .slice sa sl sc, .slice pa pl pc, .slice ca cl cc] 26)) = W0 ∧ Below w.heap.size w W0 ∧ (W0.cell? ⟨w.heap.size, 0, none⟩ = some (.int .i64 f.len) ∧ W0.cell? ⟨w.heap.size, 1, none⟩ = some (.int .i64 f.slack) ∧ W0.cell? ⟨w.heap.size, 2, none⟩ = some (.slice sa sl sc) ∧ W0.cell? ⟨w.heap.size, 3, none⟩ = some (.slice pa pl pc) ∧ W0.cell? ⟨w.heap.size, 4, none⟩ = some (.slice ca cl cc)) ∧ W0.heap.size = w.heap.size + 1 :=
          ⟨_, rfl, (by repeat (first | exact Below.refl _ _ | (refine Below.alloc ?_ (by first | omega | (simp; omega) | simp) _) | (refine Below.setCell ?_ (by first | omega | (simp; omega) | simp) _) | refine Below.drew ?_)), ⟨by go_simp, by go_simp, by go_simp, by go_simp, by go_simp⟩, by simp⟩
        rw [hW0]
        clear hW0
        have HBW := Lib.hid hB0
        have q0_0 : w.heap.size < W0.heap.size := by omega
        clear hB0 hz0
        go_wp2_with fail
        refine (HC1.out _ (HBW.out.trans (Below.mono (by repeat (first | exact Below.refl _ _ | (refine Below.alloc ?_ (by first | omega | (simp; omega) | simp) _) | (refine Below.setCell ?_ (by first | omega | (simp; omega) | simp) _) | refine Below.drew ?_)) HBW.out.size))).mono ?_
        rintro e v1 ⟨rfl, hb1⟩
        have hB1_0 : Below W0.heap.size W0 v1 := below_via (Lib.hid hb1) (by first | omega | (simp; done) | (simp; omega)) (by repeat (first | exact Below.refl _ _ | (refine Below.alloc ?_ (by first | omega | (simp; omega) | simp) _) | (refine Below.setCell ?_ (by first | omega | (simp; omega) | simp) _) | refine Below.drew ?_))
        have z1 := hb1.size
        (try simp at z1)
        obtain ⟨g1_0, g1_1, g1_2, g1_3, g1_4⟩ : v1.cell? ⟨w.heap.size, 0, none⟩ = some (.int .i64 f.len) ∧ v1.cell? ⟨w.heap.size, 1, none⟩ = some (.int .i64 f.slack) ∧ v1.cell? ⟨w.heap.size, 2, none⟩ = some (.slice sa sl sc) ∧ v1.cell? ⟨w.heap.size, 3, none⟩ = some (.slice pa pl pc) ∧ v1.cell? ⟨w.heap.size, 4, none⟩ = some (.slice ca cl cc) :=
          ⟨(hb1.cell (p := ⟨w.heap.size, 0, none⟩) (by first | omega | (simp; done) | (simp; omega))).trans (by first | (go_simp; done) | (go_simp; exact set_same (u := .int .i64 0) (by go_simp; done))), (hb1.cell (p := ⟨w.heap.size, 1, none⟩) (by first | omega | (simp; done) | (simp; omega))).trans (by first | (go_simp; done) | (go_simp; exact set_same (u := .int .i64 0) (by go_simp; done))), (hb1.cell (p := ⟨w.heap.size, 2, none⟩) (by first | omega | (simp; done) | (simp; omega))).trans (by first | (go_simp; done) | (go_simp; exact set_same (u := .int .i64 0) (by go_simp; done))), (hb1.cell (p := ⟨w.heap.size, 3, none⟩) (by first | omega | (simp; done) | (simp; omega))).trans (by first | (go_simp; done) | (go_simp; exact set_same (u := .int .i64 0) (by go_simp; done))), (hb1.cell (p := ⟨w.heap.size, 4, none⟩) (by first | omega | (simp; done) | (simp; omega))).trans (by first | (go_simp; done) | (go_simp; exact set_same (u := .int .i64 0) (by go_simp; done)))⟩
        have q1_0 : w.heap.size < v1.heap.size := by first | omega | (simp at *; omega)
        have HB1 := Lib.hid hB1_0
        have y1 := hB1_0.size
        clear hb1 hB1_0 g0_0 g0_1 g0_2 g0_3 g0_4 q0_0
        go_wp2_with fail
        refine (HI1.out _).mono ?_
        rintro e v2 ⟨rfl, hb2⟩
        have hB2_0 : Below W0.heap.size W0 v2 := below_via (Lib.hid hb2) (by first | omega | (simp; done) | (simp; omega)) (by repeat (first | exact Below.refl _ _ | with_reducible exact HB1.out | (refine Below.alloc ?_ (by first | omega | (simp; omega) | simp) _) | (refine Below.setCell ?_ (by first | omega | (simp; omega) | simp) _) | refine Below.drew ?_))
        have z2 := hb2.size
        (try simp at z2)
        obtain ⟨g2_0, g2_1, g2_2, g2_3, g2_4⟩ : v2.cell? ⟨w.heap.size, 0, none⟩ = some (.int .i64 f.len) ∧ v2.cell? ⟨w.heap.size, 1, none⟩ = some (.int .i64 f.slack) ∧ v2.cell? ⟨w.heap.size, 2, none⟩ = some (.slice sa sl sc) ∧ v2.cell? ⟨w.heap.size, 3, none⟩ = some (.slice pa pl pc) ∧ v2.cell? ⟨w.heap.size, 4, none⟩ = some (.slice ca cl cc) :=
          ⟨(hb2.cell (p := ⟨w.heap.size, 0, none⟩) (by first | omega | (simp; done) | (simp; omega))).trans (by first | (go_simp; done) | (go_simp; exact set_same (u := .int .i64 0) (by go_simp; done))), (hb2.cell (p := ⟨w.heap.size, 1, none⟩) (by first | omega | (simp; done) | (simp; omega))).trans (by first | (go_simp; done) | (go_simp; exact set_same (u := .int .i64 0) (by go_simp; done))), (hb2.cell (p := ⟨w.heap.size, 2, none⟩) (by first | omega | (simp; done) | (simp; omega))).trans (by first | (go_simp; done) | (go_simp; exact set_same (u := .int .i64 0) (by go_simp; done))), (hb2.cell (p := ⟨w.heap.size, 3, none⟩) (by first | omega | (simp; done) | (simp; omega))).trans (by first | (go_simp; done) | (go_simp; exact set_same (u := .int .i64 0) (by go_simp; done))), (hb2.cell (p := ⟨w.heap.size, 4, none⟩) (by first | omega | (simp; done) | (simp; omega))).trans (by first | (go_simp; done) | (go_simp; exact set_same (u := .int .i64 0) (by go_simp; done)))⟩
        have q2_0 : w.heap.size < v2.heap.size := by first | omega | (simp at *; omega)
        have HB2 := Lib.hid hB2_0
        have y2 := hB2_0.size
        clear hb2 hB2_0 g1_0 g1_1 g1_2 g1_3 g1_4 q1_0
        go_wp2_with fail
        refine (HS1.out _ (HBW.out.trans (Below.mono (by repeat (first | exact Below.refl _ _ | with_reducible exact HB2.out | (refine Below.alloc ?_ (by first | omega | (simp; omega) | simp) _) | (refine Below.setCell ?_ (by first | omega | (simp; omega) | simp) _) | refine Below.drew ?_)) HBW.out.size))).mono ?_
        rintro e v3 ⟨rfl, hb3⟩
        have hB3_0 : Below W0.heap.size W0 v3 := below_via (Lib.hid hb3) (by first | omega | (simp; done) | (simp; omega)) (by repeat (first | exact Below.refl _ _ | with_reducible exact HB2.out | (refine Below.alloc ?_ (by first | omega | (simp; omega) | simp) _) | (refine Below.setCell ?_ (by first | omega | (simp; omega) | simp) _) | refine Below.drew ?_))
        have z3 := hb3.size
        (try simp at z3)
        have HB3 := Lib.hid hB3_0
        have y3 := hB3_0.size
        clear hb3 hB3_0 g2_0 g2_1 g2_2 g2_3 g2_4 q2_0
        go_wp2_with fail
        go_ret2
        exact ⟨rfl, HBW.out.trans (Below.mono (by repeat (first | exact Below.refl _ _ | with_reducible exact HB3.out | (refine Below.alloc ?_ (by first | omega | (simp; omega) | simp) _) | (refine Below.setCell ?_ (by first | omega | (simp; omega) | simp) _) | refine Below.drew ?_)) HBW.out.size)⟩
      · rw [h2] at hv
        simp at hv
        exact absurd hv.symm h0
set_option maxRecDepth 100000 in
set_option maxHeartbeats 8000000 in
theorem refFits_yes (f : PFrame) (sa : Option Addr) (sl sc : Nat) (pa : Option Addr) (pl pc : Nat) (ca : Option Addr) (cl cc : Nat) (c : Nat) (hc : c < f.cols.length) (xa : Option Addr) (xl xc : Nat) (x : List Int) (hset : f.setB x = true) (ho : f.ok = true) (w : World) (hp : PAt w sa sl sc pa pl pc ca cl cc f) (hx : IntsAt w xa xl x) :
    Calls Try.prog 25 #[.agg #[.int .i64 f.len, .int .i64 f.slack, .slice sa sl sc, .slice pa pl pc, .slice ca cl cc], .int .i64 c, .slice xa xl xc] w fun e w' => e = .returned (.tuple #[.int .i64 (knownR f.len f.slack (f.loS f.cols[c]) (f.hiS f.cols[c]) (f.ptsL x)), .int .i64 0]) ∧ Below w.heap.size w w' := by
  have hcm := hp.2.2.2.1
  have hcl := hp.2.2.1
  obtain ⟨cb, co, rfl, hcB, hccell⟩ := hp.2.2.2.2 (by omega)
  obtain ⟨ra, rl, rc, hcell, -, hri⟩ := hccell c hc
  obtain ⟨hin, h6⟩ := PFrame.ok_col ho c hc
  have HC1 := Lib.hid (fun W (hb : Below w.heap.size w W) => refCheck_is f sa sl sc pa pl pc (some ⟨cb, co, none⟩) cl cc 0 (by unfold PFrame.chk; rw [ho]; rfl) (ok_hB ho) W (hp.below hb))
  have HI1 := Lib.hid (fun W => IsColumn_is f sa sl sc pa pl pc (some ⟨cb, co, none⟩) cl cc c W hcm true (by unfold btw; simp; omega))
  have HS1 := Lib.hid (fun W (hb : Below w.heap.size w W) => refIsSet_is f sa sl sc pa pl pc (some ⟨cb, co, none⟩) cl cc xa xl xc x true hset W (hp.below hb) (hx.below hb))
  have HG := Lib.hid (fun W (hb : Below w.heap.size w W) => refHigh_any f sa sl sc pa pl pc (some ⟨cb, co, none⟩) cl cc ra rl rc f.cols[c] ho hin h6 W (hp.below hb) (hri.below hb))
  have HP := Lib.hid (fun W (hb : Below w.heap.size w W) => refPoints_any f sa sl sc pa pl pc (some ⟨cb, co, none⟩) cl cc xa xl xc x ho (by rw [setB_len hset]; exact Nat.le_refl _) (fun i hi => setB_bd ho hset i hi) W (hp.below hb) (hx.below hb))
  have hpb := ptsL_bd ho (fun i hi => setB_bd ho hset i hi)
  have hlb := PFrame.loS_bd ho f.cols[c] h6
  have hhb := PFrame.hiS_bd ho f.cols[c] h6
  have hlh : f.loS f.cols[c] ≤ f.hiS f.cols[c] := sumG_le' (PFrame.lo_hi ho)
  obtain ⟨l1, l2, l3, l4, -⟩ := PFrame.ok_parts ho
  have HL := Lib.hid (fun n b (h : btw n (f.len - f.slack) f.len = b) W => Locked_is f sa sl sc pa pl pc (some ⟨cb, co, none⟩) cl cc n ho b h W)
  have HR := Lib.hid (kR_known (len := f.len) (p := f.ptsL x) hlh l3)
  generalize f.ptsL x = P at *
  generalize f.loS f.cols[c] = lo at *
  generalize f.hiS f.cols[c] = hi at *
  obtain ⟨R, hR⟩ : ∃ R, knownR f.len f.slack lo hi P = R := ⟨_, rfl⟩
  rw [hR] at HR ⊢
  have hw0 : IntKind.i64.wrap (hi - lo) = hi - lo := IntWalk.i64_in _ ⟨by omega, by omega⟩
  have hw1 : IntKind.i64.wrap (hi - lo + 1) = hi - lo + 1 := IntWalk.i64_in _ ⟨by omega, by omega⟩
  have HKN := Lib.hid (fun n W => KnownOf_any n (hi - lo + 1) (by omega) W)
  obtain ⟨a, ha⟩ : ∃ a, f.len - f.slack - P = a := ⟨_, rfl⟩
  obtain ⟨b, hb⟩ : ∃ b, f.len - P = b := ⟨_, rfl⟩
  rw [ha, hb] at HR
  have hcl' : (c : Int) < (cl : Int) := by omega
  have hc0 : (0 : Int) ≤ (c : Int) := by omega
  clear hp hri hin h6 hccell ho hR hset hx
  go_enter Try.func25, Try.ntmps25
  go_wp2_with fail
  obtain ⟨W0, hW0, hB0, ⟨g0_0, g0_1, g0_2, g0_3, g0_4⟩, hz0⟩ : ∃ W0, (w.alloc (.cells #[.int .i64 f.len, .int .i64 f.slack, .slice sa sl sc, .slice pa pl pc, .slice (some ⟨cb, co, none⟩) cl cc] 26)) = W0 ∧ Below w.heap.size w W0 ∧ (W0.cell? ⟨w.heap.size, 0, none⟩ = some (.int .i64 f.len) ∧ W0.cell? ⟨w.heap.size, 1, none⟩ = some (.int .i64 f.slack) ∧ W0.cell? ⟨w.heap.size, 2, none⟩ = some (.slice sa sl sc) ∧ W0.cell? ⟨w.heap.size, 3, none⟩ = some (.slice pa pl pc) ∧ W0.cell? ⟨w.heap.size, 4, none⟩ = some (.slice (some ⟨cb, co, none⟩) cl cc)) ∧ W0.heap.size = w.heap.size + 1 :=
    ⟨_, rfl, (by repeat (first | exact Below.refl _ _ | (refine Below.alloc ?_ (by first | omega | (simp; omega) | simp) _) | (refine Below.setCell ?_ (by first | omega | (simp; omega) | simp) _) | refine Below.drew ?_)), ⟨by go_simp, by go_simp, by go_simp, by go_simp, by go_simp⟩, by simp⟩
  rw [hW0]
  clear hW0
  have HBW := Lib.hid hB0
  have q0_0 : w.heap.size < W0.heap.size := by omega
  clear hB0 hz0
  have g0_5 : W0.cell? ⟨cb, co + c, none⟩ = some (.slice ra rl rc) := (HBW.out.cell (p := ⟨cb, co + c, none⟩) hcB).trans hcell
  have q0_1 : cb < W0.heap.size := Nat.lt_of_lt_of_le hcB HBW.out.size
  go_wp2_with fail
  refine (HC1.out _ (HBW.out.trans (Below.mono (by repeat (first | exact Below.refl _ _ | (refine Below.alloc ?_ (by first | omega | (simp; omega) | simp) _) | (refine Below.setCell ?_ (by first | omega | (simp; omega) | simp) _) | refine Below.drew ?_)) HBW.out.size))).mono ?_
  rintro e v1 ⟨rfl, hb1⟩
  have hB1_0 : Below W0.heap.size W0 v1 := below_via (Lib.hid hb1) (by first | omega | (simp; done) | (simp; omega)) (by repeat (first | exact Below.refl _ _ | (refine Below.alloc ?_ (by first | omega | (simp; omega) | simp) _) | (refine Below.setCell ?_ (by first | omega | (simp; omega) | simp) _) | refine Below.drew ?_))
  have z1 := hb1.size
  (try simp at z1)
  obtain ⟨g1_0, g1_1, g1_2, g1_3, g1_4, g1_5⟩ : v1.cell? ⟨w.heap.size, 0, none⟩ = some (.int .i64 f.len) ∧ v1.cell? ⟨w.heap.size, 1, none⟩ = some (.int .i64 f.slack) ∧ v1.cell? ⟨w.heap.size, 2, none⟩ = some (.slice sa sl sc) ∧ v1.cell? ⟨w.heap.size, 3, none⟩ = some (.slice pa pl pc) ∧ v1.cell? ⟨w.heap.size, 4, none⟩ = some (.slice (some ⟨cb, co, none⟩) cl cc) ∧ v1.cell? ⟨cb, co + c, none⟩ = some (.slice ra rl rc) :=
    ⟨(hb1.cell (p := ⟨w.heap.size, 0, none⟩) (by first | omega | (simp; done) | (simp; omega))).trans (by first | (go_simp; done) | (go_simp; exact set_same (u := .int .i64 0) (by go_simp; done))), (hb1.cell (p := ⟨w.heap.size, 1, none⟩) (by first | omega | (simp; done) | (simp; omega))).trans (by first | (go_simp; done) | (go_simp; exact set_same (u := .int .i64 0) (by go_simp; done))), (hb1.cell (p := ⟨w.heap.size, 2, none⟩) (by first | omega | (simp; done) | (simp; omega))).trans (by first | (go_simp; done) | (go_simp; exact set_same (u := .int .i64 0) (by go_simp; done))), (hb1.cell (p := ⟨w.heap.size, 3, none⟩) (by first | omega | (simp; done) | (simp; omega))).trans (by first | (go_simp; done) | (go_simp; exact set_same (u := .int .i64 0) (by go_simp; done))), (hb1.cell (p := ⟨w.heap.size, 4, none⟩) (by first | omega | (simp; done) | (simp; omega))).trans (by first | (go_simp; done) | (go_simp; exact set_same (u := .int .i64 0) (by go_simp; done))), (hb1.cell (p := ⟨cb, co + c, none⟩) (by first | omega | (simp; done) | (simp; omega))).trans (by first | (go_simp; done) | (go_simp; exact set_same (u := .int .i64 0) (by go_simp; done)))⟩
  have q1_0 : w.heap.size < v1.heap.size := by first | omega | (simp at *; omega)
  have q1_1 : cb < v1.heap.size := by first | omega | (simp at *; omega)
  have HB1 := Lib.hid hB1_0
  have y1 := hB1_0.size
  clear hb1 hB1_0 g0_0 g0_1 g0_2 g0_3 g0_4 g0_5 q0_0 q0_1
  go_wp2_with fail
  refine (HI1.out _).mono ?_
  rintro e v2 ⟨rfl, hb2⟩
  have hB2_0 : Below W0.heap.size W0 v2 := below_via (Lib.hid hb2) (by first | omega | (simp; done) | (simp; omega)) (by repeat (first | exact Below.refl _ _ | with_reducible exact HB1.out | (refine Below.alloc ?_ (by first | omega | (simp; omega) | simp) _) | (refine Below.setCell ?_ (by first | omega | (simp; omega) | simp) _) | refine Below.drew ?_))
  have z2 := hb2.size
  (try simp at z2)
  obtain ⟨g2_0, g2_1, g2_2, g2_3, g2_4, g2_5⟩ : v2.cell? ⟨w.heap.size, 0, none⟩ = some (.int .i64 f.len) ∧ v2.cell? ⟨w.heap.size, 1, none⟩ = some (.int .i64 f.slack) ∧ v2.cell? ⟨w.heap.size, 2, none⟩ = some (.slice sa sl sc) ∧ v2.cell? ⟨w.heap.size, 3, none⟩ = some (.slice pa pl pc) ∧ v2.cell? ⟨w.heap.size, 4, none⟩ = some (.slice (some ⟨cb, co, none⟩) cl cc) ∧ v2.cell? ⟨cb, co + c, none⟩ = some (.slice ra rl rc) :=
    ⟨(hb2.cell (p := ⟨w.heap.size, 0, none⟩) (by first | omega | (simp; done) | (simp; omega))).trans (by first | (go_simp; done) | (go_simp; exact set_same (u := .int .i64 0) (by go_simp; done))), (hb2.cell (p := ⟨w.heap.size, 1, none⟩) (by first | omega | (simp; done) | (simp; omega))).trans (by first | (go_simp; done) | (go_simp; exact set_same (u := .int .i64 0) (by go_simp; done))), (hb2.cell (p := ⟨w.heap.size, 2, none⟩) (by first | omega | (simp; done) | (simp; omega))).trans (by first | (go_simp; done) | (go_simp; exact set_same (u := .int .i64 0) (by go_simp; done))), (hb2.cell (p := ⟨w.heap.size, 3, none⟩) (by first | omega | (simp; done) | (simp; omega))).trans (by first | (go_simp; done) | (go_simp; exact set_same (u := .int .i64 0) (by go_simp; done))), (hb2.cell (p := ⟨w.heap.size, 4, none⟩) (by first | omega | (simp; done) | (simp; omega))).trans (by first | (go_simp; done) | (go_simp; exact set_same (u := .int .i64 0) (by go_simp; done))), (hb2.cell (p := ⟨cb, co + c, none⟩) (by first | omega | (simp; done) | (simp; omega))).trans (by first | (go_simp; done) | (go_simp; exact set_same (u := .int .i64 0) (by go_simp; done)))⟩
  have q2_0 : w.heap.size < v2.heap.size := by first | omega | (simp at *; omega)
  have q2_1 : cb < v2.heap.size := by first | omega | (simp at *; omega)
  have HB2 := Lib.hid hB2_0
  have y2 := hB2_0.size
  clear hb2 hB2_0 g1_0 g1_1 g1_2 g1_3 g1_4 g1_5 q1_0 q1_1
  go_wp2_with fail
  refine (HS1.out _ (HBW.out.trans (Below.mono (by repeat (first | exact Below.refl _ _ | with_reducible exact HB2.out | (refine Below.alloc ?_ (by first | omega | (simp; omega) | simp) _) | (refine Below.setCell ?_ (by first | omega | (simp; omega) | simp) _) | refine Below.drew ?_)) HBW.out.size))).mono ?_
  rintro e v3 ⟨rfl, hb3⟩
  have hB3_0 : Below W0.heap.size W0 v3 := below_via (Lib.hid hb3) (by first | omega | (simp; done) | (simp; omega)) (by repeat (first | exact Below.refl _ _ | with_reducible exact HB2.out | (refine Below.alloc ?_ (by first | omega | (simp; omega) | simp) _) | (refine Below.setCell ?_ (by first | omega | (simp; omega) | simp) _) | refine Below.drew ?_))
  have z3 := hb3.size
  (try simp at z3)
  obtain ⟨g3_0, g3_1, g3_2, g3_3, g3_4, g3_5⟩ : v3.cell? ⟨w.heap.size, 0, none⟩ = some (.int .i64 f.len) ∧ v3.cell? ⟨w.heap.size, 1, none⟩ = some (.int .i64 f.slack) ∧ v3.cell? ⟨w.heap.size, 2, none⟩ = some (.slice sa sl sc) ∧ v3.cell? ⟨w.heap.size, 3, none⟩ = some (.slice pa pl pc) ∧ v3.cell? ⟨w.heap.size, 4, none⟩ = some (.slice (some ⟨cb, co, none⟩) cl cc) ∧ v3.cell? ⟨cb, co + c, none⟩ = some (.slice ra rl rc) :=
    ⟨(hb3.cell (p := ⟨w.heap.size, 0, none⟩) (by first | omega | (simp; done) | (simp; omega))).trans (by first | (go_simp; done) | (go_simp; exact set_same (u := .int .i64 0) (by go_simp; done))), (hb3.cell (p := ⟨w.heap.size, 1, none⟩) (by first | omega | (simp; done) | (simp; omega))).trans (by first | (go_simp; done) | (go_simp; exact set_same (u := .int .i64 0) (by go_simp; done))), (hb3.cell (p := ⟨w.heap.size, 2, none⟩) (by first | omega | (simp; done) | (simp; omega))).trans (by first | (go_simp; done) | (go_simp; exact set_same (u := .int .i64 0) (by go_simp; done))), (hb3.cell (p := ⟨w.heap.size, 3, none⟩) (by first | omega | (simp; done) | (simp; omega))).trans (by first | (go_simp; done) | (go_simp; exact set_same (u := .int .i64 0) (by go_simp; done))), (hb3.cell (p := ⟨w.heap.size, 4, none⟩) (by first | omega | (simp; done) | (simp; omega))).trans (by first | (go_simp; done) | (go_simp; exact set_same (u := .int .i64 0) (by go_simp; done))), (hb3.cell (p := ⟨cb, co + c, none⟩) (by first | omega | (simp; done) | (simp; omega))).trans (by first | (go_simp; done) | (go_simp; exact set_same (u := .int .i64 0) (by go_simp; done)))⟩
  have q3_0 : w.heap.size < v3.heap.size := by first | omega | (simp at *; omega)
  have q3_1 : cb < v3.heap.size := by first | omega | (simp at *; omega)
  have HB3 := Lib.hid hB3_0
  have y3 := hB3_0.size
  clear hb3 hB3_0 g2_0 g2_1 g2_2 g2_3 g2_4 g2_5 q2_0 q2_1
  have HV4 : Below w.heap.size w v3 := (HBW.out.trans (Below.mono (by repeat (first | exact Below.refl _ _ | with_reducible exact HB3.out | (refine Below.alloc ?_ (by first | omega | (simp; omega) | simp) _) | (refine Below.setCell ?_ (by first | omega | (simp; omega) | simp) _) | refine Below.drew ?_)) HBW.out.size))
  have HX4 := Lib.hid (fun W (h : Below v3.heap.size v3 W ∧ ∀ b o, b < v3.heap.size → W.cell? ⟨b, o, none⟩ = v3.cell? ⟨b, o, none⟩) => bothM2 (W0 := v3) (HG.out W (HV4.trans (h.1.mono HV4.size))) h)
  clear HV4
  go_upto_region 6 with fail
  go_cut [9] (fun v9x wx => ∃ gb , v9x = .pointer (some ⟨gb, 0, none⟩) ∧ (wx.cell? ⟨gb, 0, none⟩ = some (.int .i64 lo) ∧ wx.cell? ⟨gb, 1, none⟩ = some (.int .i64 hi)) ∧ gb < wx.heap.size ∧ v3.heap.size ≤ gb ∧ Below v3.heap.size v3 wx ∧ True)
  case first =>
    go_region_held3 (fun w' => Below v3.heap.size v3 w' ∧ ∀ b o, b < v3.heap.size → w'.cell? ⟨b, o, none⟩ = v3.cell? ⟨b, o, none⟩) (first | with_reducible assumption | ((repeat (first | with_reducible refine bothS_drew ?_ | with_reducible refine bothS_alloc _ ?_ | with_reducible refine bothS_set _ _ (by first | omega | (simp; omega) | simp) ?_)); first | with_reducible assumption | with_reducible exact Hid.out (by assumption) | with_reducible exact ⟨Below.refl _ _, fun _ _ _ => rfl⟩)) (first
      | (go_at_call 78; with_reducible refine (HX4.out _ ?_).mono ?_; (first | with_reducible assumption | ((repeat (first | with_reducible refine bothS_drew ?_ | with_reducible refine bothS_alloc _ ?_ | with_reducible refine bothS_set _ _ (by first | omega | (simp; omega) | simp) ?_)); first | with_reducible assumption | with_reducible exact Hid.out (by assumption) | with_reducible exact ⟨Below.refl _ _, fun _ _ _ => rfl⟩)); rintro e w' ⟨rfl, k, k1, k2, k3⟩; have HK' := Lib.hid k; (try simp at k3); (try have k6 := Nat.lt_of_succ_le k3); (try have k7 := Nat.lt_of_succ_lt k6))
      | fail "no arm")
    all_goals (go_wp2_with fail; go_meet)
    all_goals refine ⟨_, rfl, ?_, ?_, ?_, And.left (by assumption), trivial⟩
    all_goals first | (refine ⟨?_, ?_⟩ <;> (go_simp; done)) | (with_reducible refine set5 _ _ _ _ _ ?_ ?_ ?_ ?_ ?_ <;> (go_simp; done)) | skip
    all_goals first | omega | (simp; done) | (simp; omega) | skip
  case rest =>
  obtain ⟨gb4, rfl, ⟨c4_0, c4_1⟩, hlt4, hge4, hb4, -⟩ := hcut
  obtain ⟨v4, rfl⟩ : ∃ v4 : World, v4 = wc := ⟨_, rfl⟩
  have hB4_0 : Below W0.heap.size W0 v4 := below_via (Lib.hid hb4) (by first | omega | (simp; done) | (simp; omega)) (by repeat (first | exact Below.refl _ _ | with_reducible exact HB3.out | (refine Below.alloc ?_ (by first | omega | (simp; omega) | simp) _) | (refine Below.setCell ?_ (by first | omega | (simp; omega) | simp) _) | refine Below.drew ?_))
  have z4 := hb4.size
  (try simp at z4)
  obtain ⟨g4_0, g4_1, g4_2, g4_3, g4_4, g4_5⟩ : v4.cell? ⟨w.heap.size, 0, none⟩ = some (.int .i64 f.len) ∧ v4.cell? ⟨w.heap.size, 1, none⟩ = some (.int .i64 f.slack) ∧ v4.cell? ⟨w.heap.size, 2, none⟩ = some (.slice sa sl sc) ∧ v4.cell? ⟨w.heap.size, 3, none⟩ = some (.slice pa pl pc) ∧ v4.cell? ⟨w.heap.size, 4, none⟩ = some (.slice (some ⟨cb, co, none⟩) cl cc) ∧ v4.cell? ⟨cb, co + c, none⟩ = some (.slice ra rl rc) :=
    ⟨(hb4.cell (p := ⟨w.heap.size, 0, none⟩) (by first | omega | (simp; done) | (simp; omega))).trans (by first | (go_simp; done) | (go_simp; exact set_same (u := .int .i64 0) (by go_simp; done))), (hb4.cell (p := ⟨w.heap.size, 1, none⟩) (by first | omega | (simp; done) | (simp; omega))).trans (by first | (go_simp; done) | (go_simp; exact set_same (u := .int .i64 0) (by go_simp; done))), (hb4.cell (p := ⟨w.heap.size, 2, none⟩) (by first | omega | (simp; done) | (simp; omega))).trans (by first | (go_simp; done) | (go_simp; exact set_same (u := .int .i64 0) (by go_simp; done))), (hb4.cell (p := ⟨w.heap.size, 3, none⟩) (by first | omega | (simp; done) | (simp; omega))).trans (by first | (go_simp; done) | (go_simp; exact set_same (u := .int .i64 0) (by go_simp; done))), (hb4.cell (p := ⟨w.heap.size, 4, none⟩) (by first | omega | (simp; done) | (simp; omega))).trans (by first | (go_simp; done) | (go_simp; exact set_same (u := .int .i64 0) (by go_simp; done))), (hb4.cell (p := ⟨cb, co + c, none⟩) (by first | omega | (simp; done) | (simp; omega))).trans (by first | (go_simp; done) | (go_simp; exact set_same (u := .int .i64 0) (by go_simp; done)))⟩
  have q4_0 : w.heap.size < v4.heap.size := by first | omega | (simp at *; omega)
  have q4_1 : cb < v4.heap.size := by first | omega | (simp at *; omega)
  have HB4 := Lib.hid hB4_0
  have y4 := hB4_0.size
  clear hb4 hB4_0 g3_0 g3_1 g3_2 g3_3 g3_4 g3_5 q3_0 q3_1
  have g4_6 := c4_0
  have g4_7 := c4_1
  have q4_2 : gb4 < v4.heap.size := hlt4
  clear c4_0 c4_1
  clear HX4
  clear HC1 HI1 HS1 HG HB1 HB2 HB3 y1 y2 y3 z1 z2 z3
  obtain ⟨U, rfl⟩ : ∃ U : World, U = v4 := ⟨_, rfl⟩
  have HU := Lib.hid (show Below w.heap.size w U from (HBW.out.trans (Below.mono (by repeat (first | exact Below.refl _ _ | with_reducible exact HB4.out | (refine Below.alloc ?_ (by first | omega | (simp; omega) | simp) _) | (refine Below.setCell ?_ (by first | omega | (simp; omega) | simp) _) | refine Below.drew ?_)) HBW.out.size)))
  have HFB := Lib.hid (show ∀ W : World, Below U.heap.size U W → W.cell? ⟨w.heap.size, 0, none⟩ = some (.int .i64 f.len) ∧ W.cell? ⟨w.heap.size, 1, none⟩ = some (.int .i64 f.slack) ∧ W.cell? ⟨w.heap.size, 2, none⟩ = some (.slice sa sl sc) ∧ W.cell? ⟨w.heap.size, 3, none⟩ = some (.slice pa pl pc) ∧ W.cell? ⟨w.heap.size, 4, none⟩ = some (.slice (some ⟨cb, co, none⟩) cl cc) from fun W hb => ⟨(hb.cell (p := ⟨w.heap.size, 0, none⟩) q4_0).trans g4_0, (hb.cell (p := ⟨w.heap.size, 1, none⟩) q4_0).trans g4_1, (hb.cell (p := ⟨w.heap.size, 2, none⟩) q4_0).trans g4_2, (hb.cell (p := ⟨w.heap.size, 3, none⟩) q4_0).trans g4_3, (hb.cell (p := ⟨w.heap.size, 4, none⟩) q4_0).trans g4_4⟩)
  have HGB := Lib.hid (show ∀ W : World, Below U.heap.size U W → W.cell? ⟨gb4, 0, none⟩ = some (.int .i64 lo) ∧ W.cell? ⟨gb4, 1, none⟩ = some (.int .i64 hi) from fun W hb => ⟨(hb.cell (p := ⟨gb4, 0, none⟩) q4_2).trans g4_6, (hb.cell (p := ⟨gb4, 1, none⟩) q4_2).trans g4_7⟩)
  have hqf := q4_0
  have hqg := q4_2
  go_wp2_with fail
  clear g4_0 g4_1 g4_2 g4_3 g4_4 g4_5 g4_6 g4_7 q4_0 q4_1 q4_2 HB4
  go_loopw [10, 11] (fun so h wr => ∃ n : Int, lo ≤ n ∧ n ≤ hi + 1 ∧ h = .int .i64 n ∧ so = .int .i64 (cntR lo a b n) ∧ Below U.heap.size U wr) (fun _ h _ => (hi + 1 - intOf h).toNat)
  case atStart => exact ⟨lo, by omega, by omega, rfl, by rw [cntR_zero], Below.refl _ _⟩
  case round =>
    obtain ⟨n, hn1, hn2, rfl, rfl, hB⟩ := hrel
    obtain ⟨W1, rfl⟩ : ∃ W1 : World, W1 = wr := ⟨_, rfl⟩
    have HB := Lib.hid hB
    obtain ⟨x0, x1, x2, x3, x4⟩ := HFB.out W1 hB
    obtain ⟨s0, s1⟩ := HGB.out W1 hB
    have hzf : w.heap.size < W1.heap.size := Nat.lt_of_lt_of_le hqf hB.size
    have hzg : gb4 < W1.heap.size := Nat.lt_of_lt_of_le hqg hB.size
    have hcb := cntR_bd (lo := lo) (a := a) (b := b) hn1
    clear hB
    by_cases hlt : n ≤ hi
    · have hbw : Below w.heap.size w W1 := HU.out.trans (HB.out.mono HU.out.size)
      have HPX := Lib.hid (fun W (h : Below W1.heap.size W1 W ∧ ∀ b o, b < W1.heap.size → W.cell? ⟨b, o, none⟩ = W1.cell? ⟨b, o, none⟩) => bothS1 (W0 := W1) (HP.out W (hbw.trans (h.1.mono hbw.size))) h)
      obtain ⟨r, hr⟩ : ∃ r, btw (n + P) (f.len - f.slack) f.len = r := ⟨_, rfl⟩
      have HLX := Lib.hid (fun W (h : Below W1.heap.size W1 W ∧ ∀ b o, b < W1.heap.size → W.cell? ⟨b, o, none⟩ = W1.cell? ⟨b, o, none⟩) => bothS1 (W0 := W1) (HL.out (n + P) r hr W) h)
      have hwp : IntKind.i64.wrap (n + P) = n + P := IntWalk.i64_in _ ⟨by omega, by omega⟩
      have hwn : IntKind.i64.wrap (n + 1) = n + 1 := IntWalk.i64_in _ ⟨by omega, by omega⟩
      have hst : cntR lo a b (n + 1) = if r then cntR lo a b n + 1 else cntR lo a b n := by
        rw [← hr]
        unfold btw
        by_cases h1 : f.len - f.slack ≤ n + P ∧ n + P ≤ f.len
        · rw [decide_eq_true h1, if_pos rfl]; exact cntR_yes hn1 (by omega)
        · rw [decide_eq_false h1, if_neg (by simp)]; exact cntR_no hn1 (by omega)
      have HST := Lib.hid hst
      have hwc : IntKind.i64.wrap (cntR lo a b n + 1) = cntR lo a b n + 1 := IntWalk.i64_in _ ⟨by omega, by omega⟩
      clear hr hst hbw
      generalize cntR lo a b n = q at *
      go_upto_region 11 with fail
      go_cut [48] (fun v wx => v = .bool r ∧ Below W1.heap.size W1 wx)
      case first =>
        go_region_held3 (fun w' => Below W1.heap.size W1 w' ∧ ∀ b o, b < W1.heap.size → w'.cell? ⟨b, o, none⟩ = W1.cell? ⟨b, o, none⟩) (first | with_reducible assumption | ((repeat (first | with_reducible refine bothS_drew ?_ | with_reducible refine bothS_alloc _ ?_ | with_reducible refine bothS_set _ _ (by first | omega | (simp; omega) | simp) ?_)); first | with_reducible assumption | with_reducible exact Hid.out (by assumption) | with_reducible exact ⟨Below.refl _ _, fun _ _ _ => rfl⟩)) (first | (go_at_call 54; with_reducible refine (HPX.out _ ?_).mono ?_; (first | with_reducible assumption | ((repeat (first | with_reducible refine bothS_drew ?_ | with_reducible refine bothS_alloc _ ?_ | with_reducible refine bothS_set _ _ (by first | omega | (simp; omega) | simp) ?_)); first | with_reducible assumption | with_reducible exact Hid.out (by assumption) | with_reducible exact ⟨Below.refl _ _, fun _ _ _ => rfl⟩)); rintro e w' ⟨rfl, k, k1, k2, k3⟩; have HK := Lib.hid k; (try simp at k3); (try have k6 := Nat.lt_of_succ_le k3); (try have k7 := Nat.lt_of_succ_lt k6); (try have k8 := Nat.lt_of_succ_lt k3)) | (go_at_call 53; with_reducible refine (HLX.out _ ?_).mono ?_; (first | with_reducible assumption | ((repeat (first | with_reducible refine bothS_drew ?_ | with_reducible refine bothS_alloc _ ?_ | with_reducible refine bothS_set _ _ (by first | omega | (simp; omega) | simp) ?_)); first | with_reducible assumption | with_reducible exact Hid.out (by assumption) | with_reducible exact ⟨Below.refl _ _, fun _ _ _ => rfl⟩)); rintro e w' ⟨rfl, k, k1, k2, k3⟩; have HK := Lib.hid k; (try simp at k3); (try have k6 := Nat.lt_of_succ_le k3); (try have k7 := Nat.lt_of_succ_lt k6); (try have k8 := Nat.lt_of_succ_lt k3)) | fail "no arm")
        all_goals (go_wp2_with fail; go_meet; exact ⟨rfl, And.left (by assumption)⟩)
      case rest =>
      obtain ⟨rfl, hB2⟩ := hcut
      have HB2 := Lib.hid (HB.out.trans (hB2.mono HB.out.size))
      clear hB2
      cases r
      all_goals
        go_wp2_with fail
        go_roundw
        case rel => exact ⟨n + 1, by omega, by omega, by go_num, by rw [HST.out]; rfl, HB2.out⟩
        case measure => simp [intOf]; omega
    · obtain rfl : n = hi + 1 := by omega
      generalize cntR lo a b (hi + 1) = q at *
      go_wp2_with fail
      refine (HKN.out _ _).mono ?_
      rintro e v5 ⟨rfl, rfl⟩
      go_wp2_with fail
      go_ret2
      exact ⟨by rw [HR.out]; rfl, HU.out.trans (Below.mono (by have := HB.out; exact (by repeat (first | assumption | exact Below.refl _ _ | (refine Below.alloc ?_ (by first | omega | (simp; omega) | simp) _) | (refine Below.setCell ?_ (by first | omega | (simp; omega) | simp) _) | refine Below.drew ?_))) HU.out.size)⟩

/-- The ends of the room, found so far. -/
def rlo (A B n : Int) : Int := if min (n - 1) B < A then -1 else A
def rhi (A B n : Int) : Int := if min (n - 1) B < A then -1 else min (n - 1) B
theorem rlo_zero {A B : Int} (h : 0 ≤ A) : rlo A B 0 = -1 ∧ rhi A B 0 = -1 := by
  unfold rlo rhi
  rw [if_pos (by omega), if_pos (by omega)]; exact ⟨rfl, rfl⟩
theorem rlo_no {A B n : Int} (h : n < A ∨ B < n) : rlo A B (n + 1) = rlo A B n ∧ rhi A B (n + 1) = rhi A B n := by
  unfold rlo rhi
  by_cases c : min (n - 1) B < A
  · rw [if_pos c, if_pos c, if_pos (by omega), if_pos (by omega)]; exact ⟨rfl, rfl⟩
  · rw [if_neg c, if_neg c, if_neg (by omega), if_neg (by omega)]; omega
theorem rlo_yes {A B n : Int} (h0 : 0 ≤ A) (h : A ≤ n ∧ n ≤ B) : rhi A B (n + 1) = n ∧ (rlo A B n < 0 → rlo A B (n + 1) = n) ∧ (¬ rlo A B n < 0 → rlo A B (n + 1) = rlo A B n) := by
  unfold rlo rhi
  by_cases c : min (n - 1) B < A
  · rw [if_pos c, if_neg (by omega), if_neg (by omega)]; omega
  · rw [if_neg c, if_neg (by omega), if_neg (by omega)]; omega
theorem sureB_is {f : PFrame} {xs : List Int} {n : Int} (h : f.loS xs ≤ f.hiS xs) (hs : 0 ≤ f.slack) : f.sureB xs n = decide (f.len - f.slack - f.loS xs ≤ n ∧ n ≤ f.len - f.hiS xs) := by
  unfold PFrame.sureB btw
  rw [Bool.eq_iff_iff]
  simp only [Bool.and_eq_true, decide_eq_true_eq]
  omega
set_option maxRecDepth 100000 in
set_option maxHeartbeats 8000000 in
theorem refRoom_no (f : PFrame) (sa : Option Addr) (sl sc : Nat) (pa : Option Addr) (pl pc : Nat) (ca : Option Addr) (cl cc : Nat) (n v : Int) (hv : f.colE n = v) (h0 : v ≠ 0) (hB : ∀ c ∈ f.cols, c.length ≤ 1000) (w : World) (hp : PAt w sa sl sc pa pl pc ca cl cc f) :
    Calls Try.prog 27 #[.agg #[.int .i64 f.len, .int .i64 f.slack, .slice sa sl sc, .slice pa pl pc, .slice ca cl cc], .int .i64 n] w fun e w' => e = .returned (.tuple #[.agg #[.int .i64 0, .int .i64 0], .int .i64 v]) ∧ Below w.heap.size w w' := by
  have hcm := hp.2.2.2.1
  have hcl := hp.2.2.1
  obtain ⟨r, hr⟩ : ∃ r, btw n 0 ((cl : Int) - 1) = r := ⟨_, rfl⟩
  have HH := Lib.hid (fun W => IsColumn_is f sa sl sc pa pl pc ca cl cc n W hcm r hr)
  have HA := Lib.hid (fun W (hb : Below w.heap.size w W) => refAsk_is f sa sl sc pa pl pc ca cl cc r v (by rw [← hv, PFrame.colE, hcl, hr]) hB W (hp.below hb))
  have e2 : (v != 0) = true := by simpa using h0
  clear hp hv hcm hcl hr hB
  go_enter Try.func27, Try.ntmps27
  go_wp2_with fail
  obtain ⟨W0, hW0, hB0, ⟨g0_0, g0_1, g0_2, g0_3, g0_4, g0_5, g0_6⟩, hz0⟩ : ∃ W0, ((w.alloc (.cells #[.int .i64 f.len, .int .i64 f.slack, .slice sa sl sc, .slice pa pl pc, .slice ca cl cc] 26)).alloc (.cells #[.int .i64 0, .int .i64 0] 32)) = W0 ∧ Below w.heap.size w W0 ∧ (W0.cell? ⟨w.heap.size, 0, none⟩ = some (.int .i64 f.len) ∧ W0.cell? ⟨w.heap.size, 1, none⟩ = some (.int .i64 f.slack) ∧ W0.cell? ⟨w.heap.size, 2, none⟩ = some (.slice sa sl sc) ∧ W0.cell? ⟨w.heap.size, 3, none⟩ = some (.slice pa pl pc) ∧ W0.cell? ⟨w.heap.size, 4, none⟩ = some (.slice ca cl cc) ∧ W0.cell? ⟨w.heap.size + 1, 0, none⟩ = some (.int .i64 0) ∧ W0.cell? ⟨w.heap.size + 1, 1, none⟩ = some (.int .i64 0)) ∧ W0.heap.size = w.heap.size + 1 + 1 :=
    ⟨_, rfl, (by repeat (first | exact Below.refl _ _ | (refine Below.alloc ?_ (by first | omega | (simp; omega) | simp) _) | (refine Below.setCell ?_ (by first | omega | (simp; omega) | simp) _) | refine Below.drew ?_)), ⟨by go_simp, by go_simp, by go_simp, by go_simp, by go_simp, by go_simp, by go_simp⟩, by simp⟩
  have hfz0 : ∀ i, W0.frozen? ⟨w.heap.size + 1, i, none⟩ = false := by subst hW0; intro i; go_simp
  rw [hW0]
  clear hW0
  have HBW := Lib.hid hB0
  have HFZ := Lib.hid (show ∀ W : World, Below W0.heap.size W0 W → ∀ i, W.frozen? ⟨w.heap.size + 1, i, none⟩ = false from fun W hb i => (hb.frozen (p := ⟨w.heap.size + 1, i, none⟩) (by show w.heap.size + 1 < _; omega)).trans (hfz0 i))
  clear hfz0
  have q0_0 : w.heap.size < W0.heap.size := by omega
  have q0_1 : w.heap.size + 1 < W0.heap.size := by omega
  clear hB0 hz0
  have HHX := Lib.hid (fun W (h : Below W0.heap.size W0 W ∧ ∀ b o, b < W0.heap.size → W.cell? ⟨b, o, none⟩ = W0.cell? ⟨b, o, none⟩) => bothS1 (W0 := W0) (HH.out W) h)
  have HAN := Lib.hid (fun W (h : Below W0.heap.size W0 W ∧ ∀ b o, b < W0.heap.size → W.cell? ⟨b, o, none⟩ = W0.cell? ⟨b, o, none⟩) => bothS1 (W0 := W0) (HA.out W (HBW.out.trans (h.1.mono HBW.out.size))) h)
  go_upto_region 1 with fail
  go_cut [6] (fun v6 wx => v6 = .int .i64 v ∧ Below W0.heap.size W0 wx)
  case first =>
    go_region_held3 (fun w' => Below W0.heap.size W0 w' ∧ ∀ b o, b < W0.heap.size → w'.cell? ⟨b, o, none⟩ = W0.cell? ⟨b, o, none⟩) (first | with_reducible assumption | ((repeat (first | with_reducible refine bothS_drew ?_ | with_reducible refine bothS_alloc _ ?_ | with_reducible refine bothS_set _ _ (by first | omega | (simp; omega) | simp) ?_)); first | with_reducible assumption | with_reducible exact Hid.out (by assumption) | with_reducible exact ⟨Below.refl _ _, fun _ _ _ => rfl⟩)) (first | (go_at_call 70; with_reducible refine (HHX.out _ ?_).mono ?_; (first | with_reducible assumption | ((repeat (first | with_reducible refine bothS_drew ?_ | with_reducible refine bothS_alloc _ ?_ | with_reducible refine bothS_set _ _ (by first | omega | (simp; omega) | simp) ?_)); first | with_reducible assumption | with_reducible exact Hid.out (by assumption) | with_reducible exact ⟨Below.refl _ _, fun _ _ _ => rfl⟩)); rintro e w' ⟨rfl, k, k1, k2, k3⟩; have HK := Lib.hid k; (try simp at k3); (try have k6 := Nat.lt_of_succ_le k3); (try have k7 := Nat.lt_of_succ_lt k6); (try have k8 := Nat.lt_of_succ_lt k3)) | (go_at_call 77; with_reducible refine (HAN.out _ ?_).mono ?_; (first | with_reducible assumption | ((repeat (first | with_reducible refine bothS_drew ?_ | with_reducible refine bothS_alloc _ ?_ | with_reducible refine bothS_set _ _ (by first | omega | (simp; omega) | simp) ?_)); first | with_reducible assumption | with_reducible exact Hid.out (by assumption) | with_reducible exact ⟨Below.refl _ _, fun _ _ _ => rfl⟩)); rintro e w' ⟨rfl, k, k1, k2, k3⟩; have HK := Lib.hid k; (try simp at k3); (try have k6 := Nat.lt_of_succ_le k3); (try have k7 := Nat.lt_of_succ_lt k6); (try have k8 := Nat.lt_of_succ_lt k3)) | fail "no arm")
    all_goals (go_wp2_with fail; go_meet; exact ⟨rfl, And.left (by assumption)⟩)
  case rest =>
  obtain ⟨rfl, hb1⟩ := hcut
  obtain ⟨v1, rfl⟩ : ∃ v1 : World, v1 = wc := ⟨_, rfl⟩
  have hB1_0 : Below W0.heap.size W0 v1 := below_via (Lib.hid hb1) (by first | omega | (simp; done) | (simp; omega)) (by repeat (first | exact Below.refl _ _ | (refine Below.alloc ?_ (by first | omega | (simp; omega) | simp) _) | (refine Below.setCell ?_ (by first | omega | (simp; omega) | simp) _) | refine Below.drew ?_))
  have z1 := hb1.size
  (try simp at z1)
  obtain ⟨g1_0, g1_1, g1_2, g1_3, g1_4, g1_5, g1_6⟩ : v1.cell? ⟨w.heap.size, 0, none⟩ = some (.int .i64 f.len) ∧ v1.cell? ⟨w.heap.size, 1, none⟩ = some (.int .i64 f.slack) ∧ v1.cell? ⟨w.heap.size, 2, none⟩ = some (.slice sa sl sc) ∧ v1.cell? ⟨w.heap.size, 3, none⟩ = some (.slice pa pl pc) ∧ v1.cell? ⟨w.heap.size, 4, none⟩ = some (.slice ca cl cc) ∧ v1.cell? ⟨w.heap.size + 1, 0, none⟩ = some (.int .i64 0) ∧ v1.cell? ⟨w.heap.size + 1, 1, none⟩ = some (.int .i64 0) :=
    ⟨(hb1.cell (p := ⟨w.heap.size, 0, none⟩) (by first | omega | (simp; done) | (simp; omega))).trans (by first | (go_simp; done) | (go_simp; exact set_same (u := .int .i64 0) (by go_simp; done))), (hb1.cell (p := ⟨w.heap.size, 1, none⟩) (by first | omega | (simp; done) | (simp; omega))).trans (by first | (go_simp; done) | (go_simp; exact set_same (u := .int .i64 0) (by go_simp; done))), (hb1.cell (p := ⟨w.heap.size, 2, none⟩) (by first | omega | (simp; done) | (simp; omega))).trans (by first | (go_simp; done) | (go_simp; exact set_same (u := .int .i64 0) (by go_simp; done))), (hb1.cell (p := ⟨w.heap.size, 3, none⟩) (by first | omega | (simp; done) | (simp; omega))).trans (by first | (go_simp; done) | (go_simp; exact set_same (u := .int .i64 0) (by go_simp; done))), (hb1.cell (p := ⟨w.heap.size, 4, none⟩) (by first | omega | (simp; done) | (simp; omega))).trans (by first | (go_simp; done) | (go_simp; exact set_same (u := .int .i64 0) (by go_simp; done))), (hb1.cell (p := ⟨w.heap.size + 1, 0, none⟩) (by first | omega | (simp; done) | (simp; omega))).trans (by first | (go_simp; done) | (go_simp; exact set_same (u := .int .i64 0) (by go_simp; done))), (hb1.cell (p := ⟨w.heap.size + 1, 1, none⟩) (by first | omega | (simp; done) | (simp; omega))).trans (by first | (go_simp; done) | (go_simp; exact set_same (u := .int .i64 0) (by go_simp; done)))⟩
  have q1_0 : w.heap.size < v1.heap.size := by first | omega | (simp at *; omega)
  have q1_1 : w.heap.size + 1 < v1.heap.size := by first | omega | (simp at *; omega)
  have HB1 := Lib.hid hB1_0
  have y1 := hB1_0.size
  clear hb1 hB1_0 g0_0 g0_1 g0_2 g0_3 g0_4 g0_5 g0_6 q0_0 q0_1
  have hf0 : v1.frozen? ⟨w.heap.size + 1, 0, none⟩ = false := HFZ.out _ HB1.out 0
  have hf1 : v1.frozen? ⟨w.heap.size + 1, 1, none⟩ = false := HFZ.out _ HB1.out 1
  go_wp2_with fail
  refine bodyPost_ret (v := .tuple #[.agg #[.int .i64 0, .int .i64 0], .int .i64 v]) (by simp [results, Try.results27, go_sem, *]) rfl ⟨rfl, ?_⟩
  have hBB := HBW.out.trans (HB1.out.mono HBW.out.size)
  exact (by repeat (first | assumption | exact Below.refl _ _ | (refine Below.alloc ?_ (by first | omega | (simp; omega) | simp) _) | (refine Below.setCell ?_ (by first | omega | (simp; omega) | simp) _) | refine Below.drew ?_))
set_option maxRecDepth 100000 in
set_option maxHeartbeats 8000000 in
theorem refRoom_yes (f : PFrame) (sa : Option Addr) (sl sc : Nat) (pa : Option Addr) (pl pc : Nat) (ca : Option Addr) (cl cc : Nat) (c : Nat) (hc : c < f.cols.length) (ho : f.ok = true) (w : World) (hp : PAt w sa sl sc pa pl pc ca cl cc f) :
    Calls Try.prog 27 #[.agg #[.int .i64 f.len, .int .i64 f.slack, .slice sa sl sc, .slice pa pl pc, .slice ca cl cc], .int .i64 c] w fun e w' => RoomPost f f.cols[c] e ∧ Below w.heap.size w w' := by
  have hcm := hp.2.2.2.1
  have hcl := hp.2.2.1
  have h6 := (PFrame.ok_col ho c hc).2
  obtain ⟨v, hv⟩ : ∃ v : Int, v = 0 := ⟨_, rfl⟩
  have HH := Lib.hid (fun W => IsColumn_is f sa sl sc pa pl pc ca cl cc c W hcm true (by unfold btw; simp; omega))
  have HA := Lib.hid (fun W (hb : Below w.heap.size w W) => refAsk_is f sa sl sc pa pl pc ca cl cc true v (by rw [hv]; simp [PFrame.name, ho]) (ok_hB ho) W (hp.below hb))
  have HSU := Lib.hid (fun p h1 h2 W (hb : Below w.heap.size w W) => sure_any f sa sl sc pa pl pc ca cl cc c hc p h1 h2 ho W (hp.below hb))
  have hlb := PFrame.loS_bd ho f.cols[c] h6
  have hhb := PFrame.hiS_bd ho f.cols[c] h6
  have hlh : f.loS f.cols[c] ≤ f.hiS f.cols[c] := sumG_le' (PFrame.lo_hi ho)
  obtain ⟨l1, l2, l3, l4, -⟩ := PFrame.ok_parts ho
  have HSB := Lib.hid (fun n => sureB_is (n := n) hlh l3)
  have HRP := Lib.hid (show ∀ e : Ending, (e = .returned (.tuple (if f.roomHi f.cols[c] < f.roomLo f.cols[c] then #[.agg #[.int .i64 0, .int .i64 0], .int .i64 3] else #[.agg #[.int .i64 (f.roomLo f.cols[c]), .int .i64 (f.roomHi f.cols[c])], .int .i64 0]))) → RoomPost f f.cols[c] e from fun e h => by unfold RoomPost; exact h)
  have eA : f.roomLo f.cols[c] = max 0 (f.len - f.slack - f.loS f.cols[c]) := rfl
  have eB : f.roomHi f.cols[c] = f.len - f.hiS f.cols[c] := rfl
  have HV := Lib.hid hv
  obtain ⟨A, hA⟩ : ∃ A, f.roomLo f.cols[c] = A := ⟨_, rfl⟩
  obtain ⟨B, hB⟩ : ∃ B, f.roomHi f.cols[c] = B := ⟨_, rfl⟩
  rw [hA] at eA HRP
  rw [hB] at eB HRP
  obtain ⟨L, hL⟩ : ∃ L, f.len = L := ⟨_, rfl⟩
  have hA0 : 0 ≤ A := by omega
  have hBL : B ≤ f.len := by omega
  have hAA : ∀ n : Int, 0 ≤ n → (f.sureB f.cols[c] n = true ↔ A ≤ n ∧ n ≤ B) := fun n hn => by
    rw [HSB.out]; simp only [decide_eq_true_eq]; omega
  have HAA := Lib.hid hAA
  clear hp hcm hcl h6 ho hv hlb hhb hlh HSB eA eB hA hB hL hAA
  generalize f.cols[c] = xs at *
  go_enter Try.func27, Try.ntmps27
  go_wp2_with fail
  obtain ⟨W0, hW0, hB0, ⟨g0_0, g0_1, g0_2, g0_3, g0_4, g0_5, g0_6⟩, hz0⟩ : ∃ W0, ((w.alloc (.cells #[.int .i64 f.len, .int .i64 f.slack, .slice sa sl sc, .slice pa pl pc, .slice ca cl cc] 26)).alloc (.cells #[.int .i64 0, .int .i64 0] 32)) = W0 ∧ Below w.heap.size w W0 ∧ (W0.cell? ⟨w.heap.size, 0, none⟩ = some (.int .i64 f.len) ∧ W0.cell? ⟨w.heap.size, 1, none⟩ = some (.int .i64 f.slack) ∧ W0.cell? ⟨w.heap.size, 2, none⟩ = some (.slice sa sl sc) ∧ W0.cell? ⟨w.heap.size, 3, none⟩ = some (.slice pa pl pc) ∧ W0.cell? ⟨w.heap.size, 4, none⟩ = some (.slice ca cl cc) ∧ W0.cell? ⟨w.heap.size + 1, 0, none⟩ = some (.int .i64 0) ∧ W0.cell? ⟨w.heap.size + 1, 1, none⟩ = some (.int .i64 0)) ∧ W0.heap.size = w.heap.size + 1 + 1 :=
    ⟨_, rfl, (by repeat (first | exact Below.refl _ _ | (refine Below.alloc ?_ (by first | omega | (simp; omega) | simp) _) | (refine Below.setCell ?_ (by first | omega | (simp; omega) | simp) _) | refine Below.drew ?_)), ⟨by go_simp, by go_simp, by go_simp, by go_simp, by go_simp, by go_simp, by go_simp⟩, by simp⟩
  have hfz0 : ∀ i, W0.frozen? ⟨w.heap.size + 1, i, none⟩ = false := by subst hW0; intro i; go_simp
  rw [hW0]
  clear hW0
  have HBW := Lib.hid hB0
  have HFZ := Lib.hid (show ∀ W : World, Below W0.heap.size W0 W → ∀ i, W.frozen? ⟨w.heap.size + 1, i, none⟩ = false from fun W hb i => (hb.frozen (p := ⟨w.heap.size + 1, i, none⟩) (by show w.heap.size + 1 < _; omega)).trans (hfz0 i))
  clear hfz0
  have q0_0 : w.heap.size < W0.heap.size := by omega
  have q0_1 : w.heap.size + 1 < W0.heap.size := by omega
  clear hB0 hz0
  have HHX := Lib.hid (fun W (h : Below W0.heap.size W0 W ∧ ∀ b o, b < W0.heap.size → W.cell? ⟨b, o, none⟩ = W0.cell? ⟨b, o, none⟩) => bothS1 (W0 := W0) (HH.out W) h)
  have HAN := Lib.hid (fun W (h : Below W0.heap.size W0 W ∧ ∀ b o, b < W0.heap.size → W.cell? ⟨b, o, none⟩ = W0.cell? ⟨b, o, none⟩) => bothS1 (W0 := W0) (HA.out W (HBW.out.trans (h.1.mono HBW.out.size))) h)
  go_upto_region 1 with fail
  go_cut [6] (fun v6 wx => v6 = .int .i64 v ∧ Below W0.heap.size W0 wx)
  case first =>
    go_region_held3 (fun w' => Below W0.heap.size W0 w' ∧ ∀ b o, b < W0.heap.size → w'.cell? ⟨b, o, none⟩ = W0.cell? ⟨b, o, none⟩) (first | with_reducible assumption | ((repeat (first | with_reducible refine bothS_drew ?_ | with_reducible refine bothS_alloc _ ?_ | with_reducible refine bothS_set _ _ (by first | omega | (simp; omega) | simp) ?_)); first | with_reducible assumption | with_reducible exact Hid.out (by assumption) | with_reducible exact ⟨Below.refl _ _, fun _ _ _ => rfl⟩)) (first | (go_at_call 70; with_reducible refine (HHX.out _ ?_).mono ?_; (first | with_reducible assumption | ((repeat (first | with_reducible refine bothS_drew ?_ | with_reducible refine bothS_alloc _ ?_ | with_reducible refine bothS_set _ _ (by first | omega | (simp; omega) | simp) ?_)); first | with_reducible assumption | with_reducible exact Hid.out (by assumption) | with_reducible exact ⟨Below.refl _ _, fun _ _ _ => rfl⟩)); rintro e w' ⟨rfl, k, k1, k2, k3⟩; have HK := Lib.hid k; (try simp at k3); (try have k6 := Nat.lt_of_succ_le k3); (try have k7 := Nat.lt_of_succ_lt k6); (try have k8 := Nat.lt_of_succ_lt k3)) | (go_at_call 77; with_reducible refine (HAN.out _ ?_).mono ?_; (first | with_reducible assumption | ((repeat (first | with_reducible refine bothS_drew ?_ | with_reducible refine bothS_alloc _ ?_ | with_reducible refine bothS_set _ _ (by first | omega | (simp; omega) | simp) ?_)); first | with_reducible assumption | with_reducible exact Hid.out (by assumption) | with_reducible exact ⟨Below.refl _ _, fun _ _ _ => rfl⟩)); rintro e w' ⟨rfl, k, k1, k2, k3⟩; have HK := Lib.hid k; (try simp at k3); (try have k6 := Nat.lt_of_succ_le k3); (try have k7 := Nat.lt_of_succ_lt k6); (try have k8 := Nat.lt_of_succ_lt k3)) | fail "no arm")
    all_goals (go_wp2_with fail; go_meet; exact ⟨rfl, And.left (by assumption)⟩)
  case rest =>
  obtain ⟨rfl, hb1⟩ := hcut
  obtain ⟨v1, rfl⟩ : ∃ v1 : World, v1 = wc := ⟨_, rfl⟩
  have hB1_0 : Below W0.heap.size W0 v1 := below_via (Lib.hid hb1) (by first | omega | (simp; done) | (simp; omega)) (by repeat (first | exact Below.refl _ _ | (refine Below.alloc ?_ (by first | omega | (simp; omega) | simp) _) | (refine Below.setCell ?_ (by first | omega | (simp; omega) | simp) _) | refine Below.drew ?_))
  have z1 := hb1.size
  (try simp at z1)
  obtain ⟨g1_0, g1_1, g1_2, g1_3, g1_4, g1_5, g1_6⟩ : v1.cell? ⟨w.heap.size, 0, none⟩ = some (.int .i64 f.len) ∧ v1.cell? ⟨w.heap.size, 1, none⟩ = some (.int .i64 f.slack) ∧ v1.cell? ⟨w.heap.size, 2, none⟩ = some (.slice sa sl sc) ∧ v1.cell? ⟨w.heap.size, 3, none⟩ = some (.slice pa pl pc) ∧ v1.cell? ⟨w.heap.size, 4, none⟩ = some (.slice ca cl cc) ∧ v1.cell? ⟨w.heap.size + 1, 0, none⟩ = some (.int .i64 0) ∧ v1.cell? ⟨w.heap.size + 1, 1, none⟩ = some (.int .i64 0) :=
    ⟨(hb1.cell (p := ⟨w.heap.size, 0, none⟩) (by first | omega | (simp; done) | (simp; omega))).trans (by first | (go_simp; done) | (go_simp; exact set_same (u := .int .i64 0) (by go_simp; done))), (hb1.cell (p := ⟨w.heap.size, 1, none⟩) (by first | omega | (simp; done) | (simp; omega))).trans (by first | (go_simp; done) | (go_simp; exact set_same (u := .int .i64 0) (by go_simp; done))), (hb1.cell (p := ⟨w.heap.size, 2, none⟩) (by first | omega | (simp; done) | (simp; omega))).trans (by first | (go_simp; done) | (go_simp; exact set_same (u := .int .i64 0) (by go_simp; done))), (hb1.cell (p := ⟨w.heap.size, 3, none⟩) (by first | omega | (simp; done) | (simp; omega))).trans (by first | (go_simp; done) | (go_simp; exact set_same (u := .int .i64 0) (by go_simp; done))), (hb1.cell (p := ⟨w.heap.size, 4, none⟩) (by first | omega | (simp; done) | (simp; omega))).trans (by first | (go_simp; done) | (go_simp; exact set_same (u := .int .i64 0) (by go_simp; done))), (hb1.cell (p := ⟨w.heap.size + 1, 0, none⟩) (by first | omega | (simp; done) | (simp; omega))).trans (by first | (go_simp; done) | (go_simp; exact set_same (u := .int .i64 0) (by go_simp; done))), (hb1.cell (p := ⟨w.heap.size + 1, 1, none⟩) (by first | omega | (simp; done) | (simp; omega))).trans (by first | (go_simp; done) | (go_simp; exact set_same (u := .int .i64 0) (by go_simp; done)))⟩
  have q1_0 : w.heap.size < v1.heap.size := by first | omega | (simp at *; omega)
  have q1_1 : w.heap.size + 1 < v1.heap.size := by first | omega | (simp at *; omega)
  have HB1 := Lib.hid hB1_0
  have y1 := hB1_0.size
  clear hb1 hB1_0 g0_0 g0_1 g0_2 g0_3 g0_4 g0_5 g0_6 q0_0 q0_1
  obtain rfl := HV.out
  go_wp2_with fail
  obtain ⟨U, hU, hbU, hoU, hgU⟩ := name1k v1 #[.int .i64 (-1), .int .i64 (-1)] 32
  have hfU : ∀ i, U.frozen? ⟨v1.heap.size, i, none⟩ = false := by subst hU; intro i; go_simp
  rw [hU]
  clear hU
  obtain ⟨g, hg⟩ : ∃ g, g = v1.heap.size := ⟨_, rfl⟩
  rw [← hg] at hoU hgU hfU
  rw [← hg]
  have hwg : w.heap.size < g := by omega
  have hwg1 : w.heap.size + 1 < g := by omega
  have HWU := Lib.hid (show Below w.heap.size w U from (HBW.out.trans (HB1.out.mono HBW.out.size)).trans (hbU.mono (by omega)))
  have HCX := Lib.hid (show ∀ W : World, Below g U W → (W.cell? ⟨w.heap.size, 0, none⟩ = some (.int .i64 f.len) ∧ W.cell? ⟨w.heap.size, 1, none⟩ = some (.int .i64 f.slack) ∧ W.cell? ⟨w.heap.size, 2, none⟩ = some (.slice sa sl sc) ∧ W.cell? ⟨w.heap.size, 3, none⟩ = some (.slice pa pl pc) ∧ W.cell? ⟨w.heap.size, 4, none⟩ = some (.slice ca cl cc)) ∧ W.cell? ⟨w.heap.size + 1, 0, none⟩ = some (.int .i64 0) ∧ W.cell? ⟨w.heap.size + 1, 1, none⟩ = some (.int .i64 0) ∧ W.frozen? ⟨w.heap.size + 1, 0, none⟩ = false ∧ W.frozen? ⟨w.heap.size + 1, 1, none⟩ = false from fun W hb => by
    have e : ∀ j i, j < g → W.cell? ⟨j, i, none⟩ = v1.cell? ⟨j, i, none⟩ := fun j i h => (hb.cell (p := ⟨j, i, none⟩) h).trans (hbU.cell (p := ⟨j, i, none⟩) (by show j < _; omega))
    have e' : ∀ j i, j < g → W.frozen? ⟨j, i, none⟩ = v1.frozen? ⟨j, i, none⟩ := fun j i h => (hb.frozen (p := ⟨j, i, none⟩) h).trans (hbU.frozen (p := ⟨j, i, none⟩) (by show j < _; omega))
    exact ⟨⟨(e _ _ hwg).trans g1_0, (e _ _ hwg).trans g1_1, (e _ _ hwg).trans g1_2, (e _ _ hwg).trans g1_3, (e _ _ hwg).trans g1_4⟩, (e _ _ hwg1).trans g1_5, (e _ _ hwg1).trans g1_6, (e' _ _ hwg1).trans (HFZ.out _ HB1.out 0), (e' _ _ hwg1).trans (HFZ.out _ HB1.out 1)⟩)
  clear g1_0 g1_1 g1_2 g1_3 g1_4 g1_5 g1_6 q1_0 q1_1 hbU hg HB1 HFZ z1 y1 HH HA HV
  go_loopw [8] (fun i wr => ∃ n : Int, 0 ≤ n ∧ n ≤ f.len + 1 ∧ i = .int .i64 n ∧ wr.cell? ⟨g, 0, none⟩ = some (.int .i64 (rlo A B n)) ∧ wr.cell? ⟨g, 1, none⟩ = some (.int .i64 (rhi A B n)) ∧ wr.frozen? ⟨g, 0, none⟩ = false ∧ wr.frozen? ⟨g, 1, none⟩ = false ∧ g < wr.heap.size ∧ Below g U wr) (fun i _ => (f.len + 1 - intOf i).toNat)
  case atStart => exact ⟨0, by omega, by omega, rfl, by rw [(rlo_zero hA0).1]; exact hoU 0, by rw [(rlo_zero hA0).2]; exact hoU 1, hfU 0, hfU 1, hgU, Below.refl _ _⟩
  case round =>
    clear hoU hfU
    obtain ⟨n, hn0, hn1, rfl, r0, r1, f0, f1, hzr, hB⟩ := hrel
    have HB := Lib.hid hB
    obtain ⟨⟨x0, x1, x2, x3, x4⟩, s0, s1, t0, t1⟩ := HCX.out wr hB
    have hzf : w.heap.size < wr.heap.size := by omega
    have hzs : w.heap.size + 1 < wr.heap.size := by omega
    have hwn : IntKind.i64.wrap (n + 1) = n + 1 := IntWalk.i64_in _ ⟨by omega, by omega⟩
    by_cases hlt : n ≤ f.len
    · have hsu := (HAA.out n hn0)
      obtain ⟨b, hb⟩ : ∃ b, f.sureB xs n = b := ⟨_, rfl⟩
      have HS1 := Lib.hid (HSU.out n (by omega) (by omega))
      rw [hb] at HS1 hsu
      have hbw : Below w.heap.size w wr := HWU.out.trans (hB.mono (by omega))
      have HBW2 := Lib.hid hbw
      clear hB hb hbw
      go_wp2_with fail
      refine (HS1.out _ (by have := HBW2.out; exact (by repeat (first | assumption | exact Below.refl _ _ | (refine Below.alloc ?_ (by first | omega | (simp; omega) | simp) _) | (refine Below.setCell ?_ (by first | omega | (simp; omega) | simp) _) | refine Below.drew ?_)))).mono ?_
      rintro e v2 ⟨rfl, hb2⟩
      have hb2' : Below wr.heap.size wr v2 := below_via (Lib.hid hb2) (by first | exact Nat.le_refl _ | (simp; done)) (by repeat (first | exact Below.refl _ _ | (refine Below.alloc ?_ (by first | omega | (simp; omega) | simp) _) | (refine Below.setCell ?_ (by first | omega | (simp; omega) | simp) _) | refine Below.drew ?_))
      have r0' := (hb2'.cell (p := ⟨g, 0, none⟩) hzr).trans r0
      have r1' := (hb2'.cell (p := ⟨g, 1, none⟩) hzr).trans r1
      have f0' := (hb2'.frozen (p := ⟨g, 0, none⟩) hzr).trans f0
      have f1' := (hb2'.frozen (p := ⟨g, 1, none⟩) hzr).trans f1
      have hzr' := Nat.lt_of_lt_of_le hzr hb2'.size
      have HB2 := Lib.hid (HB.out.trans (hb2'.mono (Nat.le_of_lt hzr)))
      clear hb2 hb2' r0 r1 f0 f1 x0 x1 x2 x3 x4 s0 s1 t0 t1 HS1
      cases b
      · have hno : rlo A B (n + 1) = rlo A B n ∧ rhi A B (n + 1) = rhi A B n := rlo_no (by
          by_cases hh : A ≤ n ∧ n ≤ B
          · exact absurd (hsu.2 hh) (by simp)
          · omega)
        have HN := Lib.hid hno
        clear hno hsu
        go_wp2_with fail
        go_roundw
        case rel => exact ⟨n + 1, by omega, by omega, by go_num, by rw [HN.out.1]; exact r0', by rw [HN.out.2]; exact r1', f0', f1', hzr', HB2.out⟩
        case measure => simp [intOf]; omega
      · have hab := hsu.1 rfl
        obtain ⟨k1, k2, k3⟩ := rlo_yes hA0 hab
        have HK1 := Lib.hid k1
        clear hsu k1
        by_cases hneg : rlo A B n < 0
        · have HK2 := Lib.hid (k2 hneg)
          clear k2 k3
          generalize rlo A B n = q0 at *
          generalize rhi A B n = q1 at *
          go_wp2_with fail
          go_roundw
          case rel => exact ⟨n + 1, by omega, by omega, by go_num, by rw [HK2.out]; exact (set_cell' (by decide)).trans (set_cell r0'), by rw [HK1.out]; exact set_cell ((set_cell' (by decide)).trans r1'), set_frz (set_frz f0'), set_frz (set_frz f1'), by first | omega | (simp [World.setCell]; omega), (HB2.out.setCell (by exact Nat.le_refl _) _).setCell (by exact Nat.le_refl _) _⟩
          case measure => simp [intOf]; omega
        · have HK2 := Lib.hid (k3 hneg)
          clear k2 k3
          generalize rlo A B n = q0 at *
          generalize rhi A B n = q1 at *
          go_wp2_with fail
          go_roundw
          case rel => exact ⟨n + 1, by omega, by omega, by go_num, by rw [HK2.out]; exact (set_cell' (by decide)).trans r0', by rw [HK1.out]; exact set_cell r1', set_frz f0', set_frz f1', by first | omega | (simp [World.setCell]; omega), HB2.out.setCell (by exact Nat.le_refl _) _⟩
          case measure => simp [intOf]; omega
    · obtain rfl : n = f.len + 1 := by omega
      have hm : min (f.len + 1 - 1) B = B := by omega
      unfold rlo at r0
      unfold rhi at r1
      rw [hm] at r0 r1
      have HBW2 := Lib.hid (show Below w.heap.size w wr from HWU.out.trans (HB.out.mono (by omega)))
      clear hB HB HWU HCX HSU HAA
      by_cases hBA : B < A
      · rw [if_pos hBA] at r0 r1 HRP
        go_wp2_with fail
        refine bodyPost_ret (v := .tuple #[.agg #[.int .i64 0, .int .i64 0], .int .i64 3]) (by simp [results, Try.results27, go_sem, *]) rfl ⟨HRP.out _ rfl, ?_⟩
        have hBB := HBW2.out
        exact (by repeat (first | assumption | exact Below.refl _ _ | (refine Below.alloc ?_ (by first | omega | (simp; omega) | simp) _) | (refine Below.setCell ?_ (by first | omega | (simp; omega) | simp) _) | refine Below.drew ?_))
      · rw [if_neg hBA] at r0 r1 HRP
        have hA1 : ¬ A < 0 := by omega
        have hgw : ¬ w.heap.size + 1 = g := by omega
        go_wp2_with fail
        refine bodyPost_ret (v := .tuple #[.agg #[.int .i64 A, .int .i64 B], .int .i64 0]) (by
          have e0 : World.cell? ((wr.setCell ⟨w.heap.size + 1, 0, none⟩ (.int .i64 A)).setCell ⟨w.heap.size + 1, 1, none⟩ (.int .i64 B)) ⟨w.heap.size + 1, 0, none⟩ = some (.int .i64 A) := (set_cell' (by decide)).trans (set_cell s0)
          have e1 : World.cell? ((wr.setCell ⟨w.heap.size + 1, 0, none⟩ (.int .i64 A)).setCell ⟨w.heap.size + 1, 1, none⟩ (.int .i64 B)) ⟨w.heap.size + 1, 1, none⟩ = some (.int .i64 B) := set_cell ((set_cell' (by decide)).trans s1)
          simp [results, Try.results27, go_sem, e0, e1]) rfl ⟨HRP.out _ rfl, ?_⟩
        have hBB := HBW2.out
        exact (by repeat (first | assumption | exact Below.refl _ _ | (refine Below.alloc ?_ (by first | omega | (simp; omega) | simp) _) | (refine Below.setCell ?_ (by first | omega | (simp; omega) | simp) _) | refine Below.drew ?_))
end Go.Proofs.Ytodlfmbfjnldiaa
