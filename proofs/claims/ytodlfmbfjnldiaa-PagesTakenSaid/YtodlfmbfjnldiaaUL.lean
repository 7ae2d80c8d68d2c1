/- UE UF UA UJ UK UL, joined. -/
import Derived.Test.YtodlfmbfjnldiaaZY
import Derived.Test.YtodlfmbfjnldiaaYG
import Derived.Test.YtodlfmbfjnldiaaYN
/- The laws' isSet and isKnown. -/
namespace Go.Proofs.Ytodlfmbfjnldiaa
set_option linter.unusedVariables false
set_option linter.unusedSimpArgs false
open Go.RowKit

def PFrame.placeB (f : PFrame) (c : Int) (x : List Int) : Bool := btw c 0 ((f.cols.length : Int) - 1) && decide (x.length ≤ 40) && f.setB x
set_option maxRecDepth 100000 in
set_option maxHeartbeats 4000000 in
theorem placeSet_is (f : PFrame) (sa : Option Addr) (sl sc : Nat) (pa : Option Addr) (pl pc : Nat) (ca : Option Addr) (cl cc : Nat) (c : Int) (xa : Option Addr) (xl xc : Nat) (x : List Int) (on ot : Int) (b : Bool) (h : f.placeB c x = b) (w : World) (hp : PAt w sa sl sc pa pl pc ca cl cc f) (hx : IntsAt w xa xl x) :
    Calls Try.prog 50 #[.agg #[.int .i64 f.len, .int .i64 f.slack, .slice sa sl sc, .slice pa pl pc, .slice ca cl cc], .agg #[.int .i64 c, .slice xa xl xc, .int .i64 on, .int .i64 ot]] w fun e w' => e = .returned (.bool b) ∧ Below w.heap.size w w' := by
  have hcm := hp.2.2.2.1
  have hcl := hp.2.2.1
  have hxl := hx.1
  have hxm := hx.2.1
  have HC := Lib.hid (fun b (h : btw c 0 ((cl : Int) - 1) = b) W => IsColumn_is f sa sl sc pa pl pc ca cl cc c W hcm b h)
  have HS := Lib.hid (fun b (h : f.setB x = b) W (hb : Below w.heap.size w W) => refIsSet_is f sa sl sc pa pl pc ca cl cc xa xl xc x b h W (hp.below hb) (hx.below hb))
  unfold PFrame.placeB at h
  rw [hcl, hxl] at h
  unfold maxLen at hxm
  clear hp hx hcm hcl
  rcases h1 : btw c 0 ((cl : Int) - 1) with - | -
  · have HC1 := Lib.hid (HC.out _ h1)
    have HB := Lib.hid (show b = false by rw [← h, h1]; rfl)
    clear HC HS h1 h
    go_enter Try.func50, Try.ntmps50
    go_wp2_with fail
    obtain ⟨W0, hW0, hB0, hs0, ht0, hz0⟩ := name2c w #[.int .i64 f.len, .int .i64 f.slack, .slice sa sl sc, .slice pa pl pc, .slice ca cl cc] 26 #[.int .i64 c, .slice xa xl xc, .int .i64 on, .int .i64 ot] 58
    rw [hW0]
    clear hW0
    refine (HC1.out _).mono ?_
    rintro e v1 ⟨rfl, hb1⟩
    have HB1 := Lib.hid (hB0.trans ((below_via (Lib.hid hb1) (by simp) (by repeat (first | exact Below.refl _ _ | (refine Below.alloc ?_ (by first | omega | (simp; omega) | simp) _) | (refine Below.setCell ?_ (by first | omega | (simp; omega) | simp) _) | refine Below.drew ?_)) : Below W0.heap.size W0 v1).mono hB0.size))
    clear hb1
    go_wp2_with fail
    go_ret
    exact ⟨ret_bool HB.out.symm, HB1.out⟩
  · have HC1 := Lib.hid (HC.out _ h1)
    rw [h1] at h
    by_cases h40 : xl ≤ 40
    · have HB := Lib.hid (show b = f.setB x by rw [← h]; simp [h40])
      have HS1 := Lib.hid (HS.out b HB.out.symm)
      have j40 : (xl : Int) ≤ 40 := by omega
      clear HC HS h1 h HB
      go_enter Try.func50, Try.ntmps50
      go_wp2_with fail
      obtain ⟨W0, hW0, hB0, hs0, ht0, hz0⟩ := name2c w #[.int .i64 f.len, .int .i64 f.slack, .slice sa sl sc, .slice pa pl pc, .slice ca cl cc] 26 #[.int .i64 c, .slice xa xl xc, .int .i64 on, .int .i64 ot] 58
      rw [hW0]
      clear hW0
      refine (HC1.out _).mono ?_
      rintro e v1 ⟨rfl, hb1⟩
      have hb1' : Below W0.heap.size W0 v1 := below_via (Lib.hid hb1) (by simp) (by repeat (first | exact Below.refl _ _ | (refine Below.alloc ?_ (by first | omega | (simp; omega) | simp) _) | (refine Below.setCell ?_ (by first | omega | (simp; omega) | simp) _) | refine Below.drew ?_))
      have c1 : ∀ b o, b < W0.heap.size → v1.cell? ⟨b, o, none⟩ = W0.cell? ⟨b, o, none⟩ := fun b o h => hb1'.cell (p := ⟨b, o, none⟩) h
      have z0 : w.heap.size < W0.heap.size := by omega
      have z1 : w.heap.size + 1 < W0.heap.size := by omega
      obtain ⟨x0, x1, x2, x3, x4⟩ : v1.cell? ⟨w.heap.size, 0, none⟩ = some (.int .i64 f.len) ∧ v1.cell? ⟨w.heap.size, 1, none⟩ = some (.int .i64 f.slack) ∧ v1.cell? ⟨w.heap.size, 2, none⟩ = some (.slice sa sl sc) ∧ v1.cell? ⟨w.heap.size, 3, none⟩ = some (.slice pa pl pc) ∧ v1.cell? ⟨w.heap.size, 4, none⟩ = some (.slice ca cl cc) := ⟨(c1 _ 0 z0).trans (hs0 0), (c1 _ 1 z0).trans (hs0 1), (c1 _ 2 z0).trans (hs0 2), (c1 _ 3 z0).trans (hs0 3), (c1 _ 4 z0).trans (hs0 4)⟩
      have y1 : v1.cell? ⟨w.heap.size + 1, 1, none⟩ = some (.slice xa xl xc) := (c1 _ 1 z1).trans (ht0 1)
      have HB1 := Lib.hid (hB0.trans (hb1'.mono hB0.size))
      clear hb1 hb1' c1 hs0 ht0 hB0 HC1
      go_wp2_with fail
      refine (HS1.out _ (by have := HB1.out; first | exact this | exact this.drew)).mono ?_
      rintro e v2 ⟨rfl, hb2⟩
      have HB2 := Lib.hid (HB1.out.trans (hb2.mono HB1.out.size))
      clear hb2
      go_wp2_with fail
      go_ret
      exact ⟨rfl, HB2.out⟩
    · have HB := Lib.hid (show b = false by rw [← h]; simp [h40])
      have j40 : ¬ (xl : Int) ≤ 40 := by omega
      clear HC HS h1 h
      go_enter Try.func50, Try.ntmps50
      go_wp2_with fail
      obtain ⟨W0, hW0, hB0, hs0, ht0, hz0⟩ := name2c w #[.int .i64 f.len, .int .i64 f.slack, .slice sa sl sc, .slice pa pl pc, .slice ca cl cc] 26 #[.int .i64 c, .slice xa xl xc, .int .i64 on, .int .i64 ot] 58
      rw [hW0]
      clear hW0
      refine (HC1.out _).mono ?_
      rintro e v1 ⟨rfl, hb1⟩
      have hb1' : Below W0.heap.size W0 v1 := below_via (Lib.hid hb1) (by simp) (by repeat (first | exact Below.refl _ _ | (refine Below.alloc ?_ (by first | omega | (simp; omega) | simp) _) | (refine Below.setCell ?_ (by first | omega | (simp; omega) | simp) _) | refine Below.drew ?_))
      have c1 : ∀ b o, b < W0.heap.size → v1.cell? ⟨b, o, none⟩ = W0.cell? ⟨b, o, none⟩ := fun b o h => hb1'.cell (p := ⟨b, o, none⟩) h
      have z1 : w.heap.size + 1 < W0.heap.size := by omega
      have y1 : v1.cell? ⟨w.heap.size + 1, 1, none⟩ = some (.slice xa xl xc) := (c1 _ 1 z1).trans (ht0 1)
      have HB1 := Lib.hid (hB0.trans (hb1'.mono hB0.size))
      clear hb1 hb1' c1 hs0 ht0 hB0 HC1
      go_wp2_with fail
      go_ret
      exact ⟨ret_bool HB.out.symm, HB1.out⟩
theorem isKnown_is (n : Int) (b : Bool) (h : decide (n = 0 ∨ n = 3) = b) (w : World) :
    Calls Try.prog 58 #[.int .i64 n] w fun e w' => e = .returned (.bool b) ∧ w = w' := by
  subst h
  by_cases h0 : n = 0
  · subst h0
    go_enter Try.func58, Try.ntmps58
    go_wp2
    go_ret
    exact ⟨rfl, rfl⟩
  · have e0 : (n == 0) = false := by simpa using h0
    by_cases h3 : n = 3
    · subst h3
      go_enter Try.func58, Try.ntmps58
      go_wp2
      go_ret
      exact ⟨rfl, rfl⟩
    · have e3 : (n == 3) = false := by simpa using h3
      go_enter Try.func58, Try.ntmps58
      go_wp2
      go_ret
      exact ⟨ret_bool (by simp [h0, h3]), rfl⟩
end Go.Proofs.Ytodlfmbfjnldiaa

/- The laws' fits. -/
namespace Go.Proofs.Ytodlfmbfjnldiaa
set_option linter.unusedVariables false
set_option linter.unusedSimpArgs false
open Go.RowKit

theorem ints_srcW {w : World} {a : Option Addr} {len : Nat} {xs : List Int} (h : IntsAt w a len xs) : 0 < len → ∃ pb po, a = some ⟨pb, po, none⟩ ∧ pb < w.heap.size ∧ ∀ j u, (xs.map (Value.int .i64))[j]? = some u → w.cell? ⟨pb, po + j, none⟩ = some u := by
  intro h0
  obtain ⟨b, o, e, hb, hc⟩ := h.2.2 h0
  refine ⟨b, o, e, hb, fun j u hu => ?_⟩
  rw [List.getElem?_map] at hu
  obtain ⟨v, hv, rfl⟩ := Option.map_eq_some_iff.1 hu
  obtain ⟨hj, rfl⟩ := List.getElem?_eq_some_iff.1 hv
  exact hc j hj
theorem knownR_in (a b c d e : Int) : btw (knownR a b c d e) 1 3 = true := by
  unfold knownR btw
  split
  · rfl
  · split <;> rfl
set_option maxRecDepth 100000 in
set_option maxHeartbeats 4000000 in
theorem lawFits_any (f : PFrame) (sa : Option Addr) (sl sc : Nat) (pa : Option Addr) (pl pc : Nat) (ca : Option Addr) (cl cc : Nat) (c : Nat) (hc : c < f.cols.length) (xa : Option Addr) (xl xc : Nat) (x : List Int) (on ot : Int) (hset : f.setB x = true) (ho : f.ok = true) (w : World) (hp : PAt w sa sl sc pa pl pc ca cl cc f) (hx : IntsAt w xa xl x) :
    Calls Try.prog 51 #[.agg #[.int .i64 f.len, .int .i64 f.slack, .slice sa sl sc, .slice pa pl pc, .slice ca cl cc], .agg #[.int .i64 c, .slice xa xl xc, .int .i64 on, .int .i64 ot]] w fun e w' => e = .returned (.tuple #[.int .i64 (knownR f.len f.slack (f.loS f.cols[c]) (f.hiS f.cols[c]) (f.ptsL x)), .bool true]) ∧ Below w.heap.size w w' := by
  have hxl := hx.1
  have h3 := setB_len hset
  have h4 := (PFrame.ok_parts ho).2.2.2.2.1
  have hl3 : xl ≤ 3 := by omega
  have hm1 : xl ≤ 1000 := by omega
  have hmx : xl ≤ maxLen := by unfold maxLen; omega
  have hcs : (x.map (Value.int .i64)).length = xl * 1 := by simp [hxl]
  have HT := Lib.hid (fun W (hb : Below w.heap.size w W) ga gc (hi : IntsAt W ga xl x) => Fits_yes f sa sl sc pa pl pc ca cl cc c hc ga xl gc x hset ho W (hp.below hb) hi)
  have HX := Lib.hid (fun W (hb : Below w.heap.size w W) => ints_srcW (hx.below hb))
  obtain ⟨r, hr⟩ : ∃ r, knownR f.len f.slack (f.loS f.cols[c]) (f.hiS f.cols[c]) (f.ptsL x) = r := ⟨_, rfl⟩
  have hk := knownR_in f.len f.slack (f.loS f.cols[c]) (f.hiS f.cols[c]) (f.ptsL x)
  rw [hr] at hk HT ⊢
  have HW := Lib.hid (fun W => Within_is r 1 3 true hk W)
  generalize hmcs : x.map (Value.int .i64) = mcs at *
  clear hp hx h3 h4 hset ho hr hk
  go_enter Try.func51, Try.ntmps51
  go_wp2_with fail
  obtain ⟨W0, hW0, hB0, hs0, ht0, hz0⟩ := name2c w #[.int .i64 f.len, .int .i64 f.slack, .slice sa sl sc, .slice pa pl pc, .slice ca cl cc] 26 #[.int .i64 c, .slice xa xl xc, .int .i64 on, .int .i64 ot] 58
  rw [hW0]
  clear hW0
  obtain ⟨x0, x1, x2, x3, x4⟩ : W0.cell? ⟨w.heap.size, 0, none⟩ = some (.int .i64 f.len) ∧ W0.cell? ⟨w.heap.size, 1, none⟩ = some (.int .i64 f.slack) ∧ W0.cell? ⟨w.heap.size, 2, none⟩ = some (.slice sa sl sc) ∧ W0.cell? ⟨w.heap.size, 3, none⟩ = some (.slice pa pl pc) ∧ W0.cell? ⟨w.heap.size, 4, none⟩ = some (.slice ca cl cc) := ⟨hs0 0, hs0 1, hs0 2, hs0 3, hs0 4⟩
  have y0 : W0.cell? ⟨w.heap.size + 1, 0, none⟩ = some (.int .i64 c) := ht0 0
  have y1 : W0.cell? ⟨w.heap.size + 1, 1, none⟩ = some (.slice xa xl xc) := ht0 1
  have z0 : w.heap.size < W0.heap.size := by omega
  have z1 : w.heap.size + 1 < W0.heap.size := by omega
  have HB0 := Lib.hid hB0
  have HTX := Lib.hid (fun W (h : Below W0.heap.size W0 W ∧ ∀ b o, b < W0.heap.size → W.cell? ⟨b, o, none⟩ = W0.cell? ⟨b, o, none⟩) ga gc (hi : IntsAt W ga xl x) => bothS1 (W0 := W0) (HT.out W (hB0.trans (h.1.mono hB0.size)) ga gc hi) h)
  have HXX := Lib.hid (fun W (h : Below W0.heap.size W0 W) => HX.out W (hB0.trans (h.mono hB0.size)))
  clear hs0 ht0 hB0 hz0 HT HX
  go_upto_region 1 with fail
  go_cut [6, 7] (fun v6 v7 wx => v6 = .int .i64 r ∧ v7 = .int .i64 0 ∧ Below W0.heap.size W0 wx)
  case first =>
    go_region_held3 (fun w' => Below W0.heap.size W0 w' ∧ ∀ b o, b < W0.heap.size → w'.cell? ⟨b, o, none⟩ = W0.cell? ⟨b, o, none⟩) (first | with_reducible assumption | ((repeat (first | with_reducible refine bothS_drew ?_ | with_reducible refine bothS_alloc _ ?_ | with_reducible refine bothS_set _ _ (by first | omega | (simp; omega) | simp) ?_)); first | with_reducible assumption | with_reducible exact Hid.out (by assumption) | with_reducible exact ⟨Below.refl _ _, fun _ _ _ => rfl⟩)) (first
      | ((with_reducible refine step_append_fresh _ 27 3 _ 1 8 Try.underlying27 Try.info3 rfl (by decide) (by decide) xl xc xa mcs hcs hm1 rfl _ _ rfl ?_ ?_ ?_ ?_); (· exact ⟨_, rfl⟩); (· rfl); (· intro h0; obtain ⟨pb, po, e1, -, e2⟩ := HXX.out _ (And.left (by assumption)) h0; exact ⟨pb, po, e1, e2⟩); intro gm cm wA hfA hbA; have kA := bothS_below (by assumption) hbA; have HFA := Lib.hid hfA; have HBA := Lib.hid hbA; have hzA := hbA.size; obtain ⟨hcA, hfrA⟩ := bcell hbA; (try simp at hzA); (try have yA := Nat.lt_of_succ_le hzA); (try have yA1 := Nat.lt_of_succ_lt yA); (try have yA2 := Nat.lt_of_succ_lt yA1); clear hfA hbA)
      | (go_at_call 24; have hfi := HFA.out; (rw [← hmcs] at hfi); with_reducible refine (HTX.out _ ?_ _ _ (IntsAt.below ?_ (FRow.ints hfi hmx))).mono ?_; (first | with_reducible assumption | ((repeat (first | with_reducible refine bothS_drew ?_ | with_reducible refine bothS_alloc _ ?_ | with_reducible refine bothS_set _ _ (by first | omega | (simp; omega) | simp) ?_)); first | with_reducible assumption | with_reducible exact Hid.out (by assumption) | with_reducible exact ⟨Below.refl _ _, fun _ _ _ => rfl⟩)); exact (by repeat (first | exact Below.refl _ _ | (refine Below.alloc ?_ (by first | omega | (simp; omega) | simp) _) | (refine Below.setCell ?_ (by first | omega | (simp; omega) | simp) _) | refine Below.drew ?_)); rintro e w' ⟨rfl, k, k1, k2, k3⟩; have HK := Lib.hid k)
      | fail "no arm")
    all_goals (go_wp2_with fail; go_meet; exact ⟨rfl, rfl, And.left (by assumption)⟩)
  case rest =>
  obtain ⟨rfl, rfl, hB1⟩ := hcut
  have HB1 := Lib.hid (HB0.out.trans (hB1.mono HB0.out.size))
  clear hB1
  go_wp2_with fail
  refine (HW.out _).mono ?_
  rintro e w2 ⟨rfl, rfl⟩
  go_wp2_with fail
  go_ret2
  exact ⟨rfl, HB1.out⟩
end Go.Proofs.Ytodlfmbfjnldiaa

/- Pages: what the gaps of two tops are, both ways. -/
namespace Go.Proofs.Ytodlfmbfjnldiaa
set_option linter.unusedVariables false
set_option linter.unusedSimpArgs false
open Go.RowKit

theorem stripC_swap : ∀ X Y : List Int, stripC Y X = ((stripC X Y).2, (stripC X Y).1)
  | [], [] => rfl
  | [], y :: ys => rfl
  | x :: xs, [] => rfl
  | x :: xs, y :: ys => by
    unfold stripC
    by_cases h : x = y
    · rw [if_pos h, if_pos h.symm]; exact stripC_swap xs ys
    · rw [if_neg h, if_neg (fun e => h e.symm)]
theorem stripC_same : ∀ X : List Int, stripC X X = ([], [])
  | [] => rfl
  | x :: xs => by unfold stripC; rw [if_pos rfl]; exact stripC_same xs
theorem count_twice {xs : List Int} {n : Int} {k l : Nat} (hkl : k < l) (hl : l < xs.length) (h1 : xs[k] = n) (h2 : xs[l] = n) : 2 ≤ xs.count n := by
  have e : xs.count n = (xs.take l).count n + (xs.drop l).count n := by rw [← List.count_append, List.take_append_drop]
  have p1 : 0 < (xs.take l).count n := List.count_pos_iff.2 (List.mem_take_iff_getElem.2 ⟨k, by omega, h1⟩)
  have p2 : 0 < (xs.drop l).count n := List.count_pos_iff.2 (by
    rw [List.drop_eq_getElem_cons hl, h2]; exact List.mem_cons_self)
  omega
theorem at_one {f : PFrame} (ho : f.ok = true) {n : Int} {ci di k l : Nat} (h1 : f.at n ci k) (h2 : f.at n di l) : ci = di ∧ k = l := by
  obtain rfl := at_col ho h1 h2
  refine ⟨rfl, ?_⟩
  obtain ⟨a1, a2, a3⟩ := h1
  obtain ⟨b1, b2, b3⟩ := h2
  have hc := (once_le f.flat).1 (PFrame.ok_flat ho).2.1 n
  have hd := cnt_flat f.cols ci a1 n
  unfold PFrame.flat at hc
  rcases Nat.lt_trichotomy k l with h | h | h
  · have := count_twice h b2 a3 b3; omega
  · exact h
  · have := count_twice h a2 b3 a3; omega
theorem sumG_le {g h : Int → Int} : ∀ {xs : List Int}, (∀ x, g x ≤ h x) → sumG g xs ≤ sumG h xs
  | [], _ => Int.le_refl _
  | x :: xs, hh => by
    have h1 := hh x
    have h2 := sumG_le (xs := xs) hh
    simp only [sumG]; omega
theorem meet_swap (lo hi : Int) : meetR (-hi) (-lo) = meetR lo hi := by
  unfold meetR
  by_cases h : lo = 0 ∧ hi = 0
  · rw [if_pos h, if_pos (by omega)]
  · rw [if_neg h, if_neg (by omega)]
    by_cases h2 : lo ≤ 0 ∧ 0 ≤ hi
    · rw [if_pos h2, if_pos (by omega)]
    · rw [if_neg h2, if_neg (by omega)]
/-- The gaps of two pieces, both ways. -/
theorem tops_are {f : PFrame} (ho : f.ok = true) {one other : Int} (h0 : 0 ≤ one) (hn : one < (f.pieces.length : Int)) (h1 : 0 ≤ other) (hn1 : other < (f.pieces.length : Int)) :
    ∃ L H : Int, -1000 ≤ L ∧ L ≤ H ∧ H ≤ 1000 ∧
      (∀ e, GapPost2 f one other e → e = .returned (.tuple #[.agg #[.int .i64 L, .int .i64 H], .int .i64 0])) ∧
      (∀ e, GapPost2 f other one e → e = .returned (.tuple #[.agg #[.int .i64 (-H), .int .i64 (-L)], .int .i64 0])) ∧
      (∀ e, GapPost2 f one one e → e = .returned (.tuple #[.agg #[.int .i64 0, .int .i64 0], .int .i64 0])) ∧
      (∀ e, MeetsPost f one other e → e = .returned (.tuple #[.int .i64 (meetR L H), .int .i64 0])) ∧
      (∀ e, MeetsPost f other one e → e = .returned (.tuple #[.int .i64 (meetR L H), .int .i64 0])) := by
  obtain ⟨ci, a, ha⟩ := at_some ho h0 hn
  obtain ⟨di, b, hb⟩ := at_some ho h1 hn1
  have s := stripC_swap (f.ahead ci a) (f.ahead di b)
  have hsub := strip_sub (f.ahead ci a) (f.ahead di b)
  have l1 := (ahead_in ho ha).2
  have l2 := (ahead_in ho hb).2
  have eL : f.gapLo (f.ahead di b) (f.ahead ci a) = - f.gapHi (f.ahead ci a) (f.ahead di b) := by
    unfold PFrame.gapLo PFrame.gapHi; rw [s]; simp only; omega
  have eH : f.gapHi (f.ahead di b) (f.ahead ci a) = - f.gapLo (f.ahead ci a) (f.ahead di b) := by
    unfold PFrame.gapLo PFrame.gapHi; rw [s]; simp only; omega
  have p1 := PFrame.loS_bd ho (stripC (f.ahead ci a) (f.ahead di b)).1 (by omega)
  have p2 := PFrame.loS_bd ho (stripC (f.ahead ci a) (f.ahead di b)).2 (by omega)
  have p3 := PFrame.hiS_bd ho (stripC (f.ahead ci a) (f.ahead di b)).1 (by omega)
  have p4 := PFrame.hiS_bd ho (stripC (f.ahead ci a) (f.ahead di b)).2 (by omega)
  have p5 : f.loS (stripC (f.ahead ci a) (f.ahead di b)).1 ≤ f.hiS (stripC (f.ahead ci a) (f.ahead di b)).1 := sumG_le (PFrame.lo_hi ho)
  have p6 : f.loS (stripC (f.ahead ci a) (f.ahead di b)).2 ≤ f.hiS (stripC (f.ahead ci a) (f.ahead di b)).2 := sumG_le (PFrame.lo_hi ho)
  refine ⟨f.gapLo (f.ahead ci a) (f.ahead di b), f.gapHi (f.ahead ci a) (f.ahead di b), by unfold PFrame.gapLo; omega, by unfold PFrame.gapLo PFrame.gapHi; omega, by unfold PFrame.gapHi; omega, ?_, ?_, ?_, ?_, ?_⟩
  · rintro e ⟨c', a', d', b', q1, q2, rfl⟩
    obtain ⟨rfl, rfl⟩ := at_one ho ha q1
    obtain ⟨rfl, rfl⟩ := at_one ho hb q2
    rfl
  · rintro e ⟨c', a', d', b', q1, q2, rfl⟩
    obtain ⟨rfl, rfl⟩ := at_one ho hb q1
    obtain ⟨rfl, rfl⟩ := at_one ho ha q2
    rw [eL, eH]
  · rintro e ⟨c', a', d', b', q1, q2, rfl⟩
    obtain ⟨rfl, rfl⟩ := at_one ho ha q1
    obtain ⟨rfl, rfl⟩ := at_one ho ha q2
    unfold PFrame.gapLo PFrame.gapHi
    rw [stripC_same]; rfl
  · rintro e ⟨c', a', d', b', q1, q2, rfl⟩
    obtain ⟨rfl, rfl⟩ := at_one ho ha q1
    obtain ⟨rfl, rfl⟩ := at_one ho hb q2
    rfl
  · rintro e ⟨c', a', d', b', q1, q2, rfl⟩
    obtain ⟨rfl, rfl⟩ := at_one ho hb q1
    obtain ⟨rfl, rfl⟩ := at_one ho ha q2
    rw [eL, eH, meet_swap]
end Go.Proofs.Ytodlfmbfjnldiaa

/- The laws' high and isTruth. -/
namespace Go.Proofs.Ytodlfmbfjnldiaa
set_option linter.unusedVariables false
set_option linter.unusedSimpArgs false
open Go.RowKit

/-- What some pieces are high together in a truth. -/
def tall (hs : List Int) (i : Int) : Int := (hs[i.toNat]?).getD 0
def highS (hs xs : List Int) : Int := sumG (tall hs) xs
theorem highS_bd {hs xs : List Int} (hb : ∀ i (h : i < hs.length), 0 ≤ hs[i] ∧ hs[i] ≤ 99) (h6 : xs.length ≤ 6) : 0 ≤ highS hs xs ∧ highS hs xs ≤ 594 := by
  have h := sumG_bd (g := tall hs) (xs := xs) (B := 99) (fun x _ => by
    unfold tall
    by_cases h : x.toNat < hs.length
    · rw [List.getElem?_eq_getElem h]; exact hb _ h
    · rw [List.getElem?_eq_none (by omega)]; simp)
  unfold highS; omega
set_option maxRecDepth 100000 in
set_option maxHeartbeats 4000000 in
theorem high_any (hs xs : List Int) (ha : Option Addr) (hl hc : Nat) (xa : Option Addr) (xl xc : Nat) (hin : ∀ x ∈ xs, 0 ≤ x ∧ x < (hs.length : Int)) (hb : ∀ i (h : i < hs.length), 0 ≤ hs[i] ∧ hs[i] ≤ 99) (h6 : xs.length ≤ 6) (w : World) (hh : IntsAt w ha hl hs) (hx : IntsAt w xa xl xs) :
    Calls Try.prog 52 #[.slice ha hl hc, .slice xa xl xc] w fun e w' => e = .returned (.int .i64 (highS hs xs)) ∧ Below w.heap.size w w' := by
  obtain ⟨hhl, hhm, hhc⟩ := hh
  obtain ⟨hxl, hxm, hxc⟩ := hx
  unfold maxLen at hhm
  have HHL := Lib.hid hhl
  have HHC := Lib.hid hhc
  have HXL := Lib.hid hxl
  have HXC := Lib.hid hxc
  have HIN := Lib.hid (fun k (hk : k < xs.length) => hin xs[k] (List.getElem_mem hk))
  have HN := Lib.hid (fun k (hk : k < xs.length) => show highS hs (xs.take (k + 1)) = highS hs (xs.take k) + tall hs xs[k] from sumG_next hk)
  have HB := Lib.hid (fun k => highS_bd hb (xs := xs.take k) (by rw [List.length_take]; omega))
  have HT := Lib.hid (fun (j : Nat) (hj : j < hs.length) => show tall hs (j : Int) = hs[j] from by unfold tall; simp [hj])
  have HTB := Lib.hid hb
  have HE := Lib.hid (show highS hs (xs.take xl) = highS hs xs from by rw [List.take_of_length_le (by omega)])
  have HE0 := Lib.hid (show highS hs (xs.take 0) = 0 from rfl)
  have hxl6 : xl ≤ 6 := by omega
  clear hhl hhc hxl hxm hxc hin hb h6
  go_enter Try.func52, Try.ntmps52
  go_wp2_with fail
  go_loopw [5, 6] (fun v5 v6 wr => ∃ k : Nat, k ≤ xl ∧ v6 = .int .i64 k ∧ v5 = .int .i64 (highS hs (xs.take k)) ∧ Below w.heap.size w wr) (fun _ v6 _ => xl - (intOf v6).toNat)
  case atStart => exact ⟨0, by omega, rfl, by rw [HE0.out], Below.refl _ _⟩
  case round =>
    obtain ⟨k, hk, rfl, rfl, hbr⟩ := hrel
    have hbd := HB.out k
    by_cases hlt : k < xl
    · have hk2 : k < xs.length := by rw [HXL.out]; exact hlt
      have hxi := HIN.out k hk2
      obtain ⟨xb, xo, rfl, hxB, hxcell⟩ := HXC.out (by omega)
      have cx := (hbr.cell (p := ⟨xb, xo + k, none⟩) hxB).trans (hxcell k hk2)
      have HN1 := Lib.hid (HN.out k hk2)
      obtain ⟨x, hx⟩ : ∃ x, xs[k] = x := ⟨_, rfl⟩
      rw [hx] at cx HN1 hxi
      clear hx hxcell
      obtain ⟨j, rfl⟩ : ∃ j : Nat, x = (j : Int) := ⟨x.toNat, by omega⟩
      have hj : j < hs.length := by omega
      have hjl : j < hl := by have := HHL.out; omega
      obtain ⟨pb, po, rfl, hpB, hpcell⟩ := HHC.out (by omega)
      have cy := (hbr.cell (p := ⟨pb, po + j, none⟩) hpB).trans (hpcell j hj)
      have hyb := HTB.out j hj
      have HN2 := Lib.hid (HN1.out.trans (by rw [HT.out j hj]))
      generalize hs[j] = y at *
      have HBR := Lib.hid hbr
      have hkl : (k : Int) < (xl : Int) := by omega
      have hk0 : (0 : Int) ≤ (k : Int) := by omega
      have hjl2 : (j : Int) < (hl : Int) := by omega
      have hj0 : (0 : Int) ≤ (j : Int) := by omega
      clear hpcell hbr HN1 hxi
      generalize highS hs (xs.take k) = s at *
      go_wp2_with fail
      go_roundw
      case rel => exact ⟨k + 1, by omega, by go_num, by rw [HN2.out], HBR.out⟩
      case measure => simp [intOf]; omega
    · obtain rfl : xl = k := by omega
      have HR := Lib.hid HE.out
      have HBR := Lib.hid hbr
      clear hbr
      go_wp2_with fail
      go_ret
      exact ⟨ret_i64 HR.out, HBR.out⟩

def truthOf (f : PFrame) (hs : List Int) : Bool := decide (hs.length = f.pieces.length) && (List.range hs.length).all fun i => btw (tall hs i) (f.lo i) (f.hi i)
theorem truth_in {f : PFrame} {hs : List Int} (h : truthOf f hs = true) : hs.length = f.pieces.length ∧ ∀ i (hi : i < hs.length), f.lo i ≤ hs[i] ∧ hs[i] ≤ f.hi i := by
  unfold truthOf at h
  simp only [Bool.and_eq_true, decide_eq_true_eq] at h
  refine ⟨h.1, fun i hi => ?_⟩
  have := List.all_eq_true.1 h.2 i (List.mem_range.2 hi)
  unfold btw tall at this
  simpa [hi] using this
set_option maxRecDepth 100000 in
set_option maxHeartbeats 4000000 in
theorem isTruth_is (f : PFrame) (sa : Option Addr) (sl sc : Nat) (pa : Option Addr) (pl pc : Nat) (ca : Option Addr) (cl cc : Nat) (hs : List Int) (ha : Option Addr) (hl hc : Nat) (b : Bool) (h : truthOf f hs = b) (w : World) (hp : PAt w sa sl sc pa pl pc ca cl cc f) (hh : IntsAt w ha hl hs) :
    Calls Try.prog 49 #[.agg #[.int .i64 f.len, .int .i64 f.slack, .slice sa sl sc, .slice pa pl pc, .slice ca cl cc], .slice ha hl hc] w fun e w' => e = .returned (.bool b) ∧ Below w.heap.size w w' := by
  obtain ⟨hhl, hhm, hhc⟩ := hh
  obtain ⟨hpl, hpm, hpc⟩ := hp.2.1
  unfold maxLen at hhm hpm
  by_cases hq : pl = hl
  · subst hq
    have HHL := Lib.hid hhl
    have HPL := Lib.hid hpl
    have HHC := Lib.hid hhc
    have HPC := Lib.hid hpc
    have HW := Lib.hid (fun n lo hi b (h : btw n lo hi = b) W => Within_is n lo hi b h W)
    have HNO := Lib.hid (fun k (hk : k < hs.length) (hk2 : k < f.pieces.length) (h' : btw hs[k] f.pieces[k].lo f.pieces[k].hi = false) => show b = false from by
      rw [← h]; unfold truthOf
      rw [Bool.and_eq_false_iff]; right
      refine List.all_eq_false.2 ⟨k, List.mem_range.2 hk, ?_⟩
      unfold tall PFrame.lo PFrame.hi
      simp [hk, hk2, h'])
    have HYE := Lib.hid (fun (h' : ∀ k (hk : k < hs.length) (hk2 : k < f.pieces.length), btw hs[k] f.pieces[k].lo f.pieces[k].hi = true) => show b = true from by
      rw [← h]; unfold truthOf
      simp only [Bool.and_eq_true, decide_eq_true_eq]
      refine ⟨by omega, List.all_eq_true.2 fun k hk => ?_⟩
      have hk := List.mem_range.1 hk
      have hk2 : k < f.pieces.length := by omega
      have := h' k hk hk2
      unfold tall PFrame.lo PFrame.hi
      simpa [hk, hk2] using this)
    clear hp hhl hpl hhc hpc h
    go_enter Try.func49, Try.ntmps49
    go_wp2_with fail
    obtain ⟨W0, hW0, hB0, hs0, hz0⟩ := name1k w #[.int .i64 f.len, .int .i64 f.slack, .slice sa sl sc, .slice pa pl pc, .slice ca cl cc] 26
    rw [hW0]
    clear hW0
    have HB0 := Lib.hid hB0
    have x3 : W0.cell? ⟨w.heap.size, 3, none⟩ = some (.slice pa pl pc) := hs0 3
    clear hB0 hs0
    go_wp2_with fail
    go_loopw [5] (fun v5 wr => ∃ k : Nat, k ≤ pl ∧ v5 = .int .i64 k ∧ Hid (∀ i (hi : i < hs.length) (hi2 : i < f.pieces.length), i < k → btw hs[i] f.pieces[i].lo f.pieces[i].hi = true) ∧ ∃ wq : World, wq = wr ∧ Below W0.heap.size W0 wq) (fun v5 _ => pl - (intOf v5).toNat)
    case atStart => exact ⟨0, by omega, rfl, Lib.hid (fun i _ _ h => by omega), _, rfl, Below.refl _ _⟩
    case round =>
      obtain ⟨k, hk, rfl, HA, wq, rfl, hbr⟩ := hrel
      have y3 := (hbr.cell (p := ⟨w.heap.size, 3, none⟩) hz0).trans x3
      by_cases hlt : k < pl
      · have hk2 : k < hs.length := by rw [HHL.out]; exact hlt
        have hk3 : k < f.pieces.length := by rw [HPL.out]; exact hlt
        obtain ⟨hb', ho', rfl, hhB, hhcell⟩ := HHC.out (by omega)
        obtain ⟨pb, po, rfl, hpB, hpcell⟩ := HPC.out (by omega)
        obtain ⟨d0, d1, -⟩ := hpcell k hk3
        have cB := HB0.out.trans (hbr.mono HB0.out.size)
        have ch := (cB.cell (p := ⟨hb', ho' + k, none⟩) hhB).trans (hhcell k hk2)
        have c0 := (cB.cell (p := ⟨pb, po + k * 3, none⟩) hpB).trans d0
        have c1 := (cB.cell (p := ⟨pb, po + k * 3 + 1, none⟩) hpB).trans d1
        have hkl : (k : Int) < (pl : Int) := by omega
        have hk0 : (0 : Int) ≤ (k : Int) := by omega
        have HBR := Lib.hid hbr
        have zr : W0.heap.size ≤ W0.heap.size := Nat.le_refl _
        clear hhcell hpcell d0 d1 cB hbr
        obtain ⟨v, hv⟩ : ∃ v, btw hs[k] f.pieces[k].lo f.pieces[k].hi = v := ⟨_, rfl⟩
        have HV := Lib.hid hv
        have HW1 := Lib.hid (HW.out _ _ _ _ hv)
        clear hv
        cases v
        · have HR := Lib.hid (HNO.out k hk2 hk3 HV.out)
          clear HV HA
          generalize hs[k] = n at *
          generalize f.pieces[k].lo = lo at *
          generalize f.pieces[k].hi = hi at *
          have HW2 := Lib.hid (fun W => (HW1.out W).mono fun e w' h => (show e = .returned (.bool false) ∧ Below W.heap.size W w' from ⟨h.1, h.2 ▸ Below.refl _ _⟩))
          clear HW1
          go_upto_region 7 with fail
          obtain ⟨W1, hW1, hB1, hs1, hz1⟩ := name1k wq #[.int .i64 lo, .int .i64 hi] 32
          rw [hW1]
          clear hW1
          have ch1 := (hB1.cell (p := ⟨hb', ho' + k, none⟩) (Nat.lt_of_lt_of_le hhB (HB0.out.trans (HBR.out.mono HB0.out.size)).size)).trans ch
          have g0 : W1.cell? ⟨wq.heap.size, 0, none⟩ = some (.int .i64 lo) := hs1 0
          have g1 : W1.cell? ⟨wq.heap.size, 1, none⟩ = some (.int .i64 hi) := hs1 1
          have hbW : hb' < W1.heap.size := Nat.lt_of_lt_of_le (Nat.lt_of_lt_of_le hhB (HB0.out.trans (HBR.out.mono HB0.out.size)).size) hB1.size
          have HB1 := Lib.hid (HBR.out.trans (hB1.mono HBR.out.size))
          have HWX := Lib.hid (fun W (h : Below W1.heap.size W1 W ∧ ∀ b o, b < W1.heap.size → W.cell? ⟨b, o, none⟩ = W1.cell? ⟨b, o, none⟩) => bothS1 (W0 := W1) (HW2.out W) h)
          clear hB1 hs1 HW2 ch c0 c1 y3 HBR
          go_cut [34] (fun v34 wx => v34 = .bool true ∧ Below W1.heap.size W1 wx)
          case first =>
            go_region_held3 (fun w' => Below W1.heap.size W1 w' ∧ ∀ b o, b < W1.heap.size → w'.cell? ⟨b, o, none⟩ = W1.cell? ⟨b, o, none⟩) (first | with_reducible assumption | ((repeat (first | with_reducible refine bothS_drew ?_ | with_reducible refine bothS_alloc _ ?_ | with_reducible refine bothS_set _ _ (by first | omega | (simp; omega) | simp) ?_)); first | with_reducible assumption | with_reducible exact Hid.out (by assumption) | with_reducible exact ⟨Below.refl _ _, fun _ _ _ => rfl⟩)) (first | (go_at_call 57; with_reducible refine (HWX.out _ ?_).mono ?_; (first | with_reducible assumption | ((repeat (first | with_reducible refine bothS_drew ?_ | with_reducible refine bothS_alloc _ ?_ | with_reducible refine bothS_set _ _ (by first | omega | (simp; omega) | simp) ?_)); first | with_reducible assumption | with_reducible exact Hid.out (by assumption) | with_reducible exact ⟨Below.refl _ _, fun _ _ _ => rfl⟩)); rintro e w' ⟨rfl, k, k1, k2, k3⟩; have HK := Lib.hid k; (try simp at k3); (try have k6 := Nat.lt_of_succ_le k3); (try have k7 := Nat.lt_of_succ_lt k6); (try have k8 := Nat.lt_of_succ_lt k3)) | fail "no arm")
            all_goals (go_wp2_with fail; go_meet; exact ⟨rfl, And.left (by assumption)⟩)
          case rest =>
          obtain ⟨rfl, hbx⟩ := hcut
          have HBX := Lib.hid (HB1.out.trans (hbx.mono HB1.out.size))
          clear hbx
          go_wp2_with fail
          go_ret
          exact ⟨ret_bool HR.out.symm, HB0.out.trans (HBX.out.mono HB0.out.size)⟩
        · have HA2 := Lib.hid (show ∀ i (hi : i < hs.length) (hi2 : i < f.pieces.length), i < k + 1 → btw hs[i] f.pieces[i].lo f.pieces[i].hi = true from fun i hi hi2 h => by
            by_cases e : i = k
            · subst e; exact HV.out
            · exact HA.out i hi hi2 (by omega))
          clear HV HA
          generalize hs[k] = n at *
          generalize f.pieces[k].lo = lo at *
          generalize f.pieces[k].hi = hi at *
          have HW2 := Lib.hid (fun W => (HW1.out W).mono fun e w' h => (show e = .returned (.bool true) ∧ Below W.heap.size W w' from ⟨h.1, h.2 ▸ Below.refl _ _⟩))
          clear HW1
          go_upto_region 7 with fail
          obtain ⟨W1, hW1, hB1, hs1, hz1⟩ := name1k wq #[.int .i64 lo, .int .i64 hi] 32
          rw [hW1]
          clear hW1
          have ch1 := (hB1.cell (p := ⟨hb', ho' + k, none⟩) (Nat.lt_of_lt_of_le hhB (HB0.out.trans (HBR.out.mono HB0.out.size)).size)).trans ch
          have g0 : W1.cell? ⟨wq.heap.size, 0, none⟩ = some (.int .i64 lo) := hs1 0
          have g1 : W1.cell? ⟨wq.heap.size, 1, none⟩ = some (.int .i64 hi) := hs1 1
          have hbW : hb' < W1.heap.size := Nat.lt_of_lt_of_le (Nat.lt_of_lt_of_le hhB (HB0.out.trans (HBR.out.mono HB0.out.size)).size) hB1.size
          have HB1 := Lib.hid (HBR.out.trans (hB1.mono HBR.out.size))
          have HWX := Lib.hid (fun W (h : Below W1.heap.size W1 W ∧ ∀ b o, b < W1.heap.size → W.cell? ⟨b, o, none⟩ = W1.cell? ⟨b, o, none⟩) => bothS1 (W0 := W1) (HW2.out W) h)
          clear hB1 hs1 HW2 ch c0 c1 y3 HBR
          go_cut [34] (fun v34 wx => v34 = .bool false ∧ Below W1.heap.size W1 wx)
          case first =>
            go_region_held3 (fun w' => Below W1.heap.size W1 w' ∧ ∀ b o, b < W1.heap.size → w'.cell? ⟨b, o, none⟩ = W1.cell? ⟨b, o, none⟩) (first | with_reducible assumption | ((repeat (first | with_reducible refine bothS_drew ?_ | with_reducible refine bothS_alloc _ ?_ | with_reducible refine bothS_set _ _ (by first | omega | (simp; omega) | simp) ?_)); first | with_reducible assumption | with_reducible exact Hid.out (by assumption) | with_reducible exact ⟨Below.refl _ _, fun _ _ _ => rfl⟩)) (first | (go_at_call 57; with_reducible refine (HWX.out _ ?_).mono ?_; (first | with_reducible assumption | ((repeat (first | with_reducible refine bothS_drew ?_ | with_reducible refine bothS_alloc _ ?_ | with_reducible refine bothS_set _ _ (by first | omega | (simp; omega) | simp) ?_)); first | with_reducible assumption | with_reducible exact Hid.out (by assumption) | with_reducible exact ⟨Below.refl _ _, fun _ _ _ => rfl⟩)); rintro e w' ⟨rfl, k, k1, k2, k3⟩; have HK := Lib.hid k; (try simp at k3); (try have k6 := Nat.lt_of_succ_le k3); (try have k7 := Nat.lt_of_succ_lt k6); (try have k8 := Nat.lt_of_succ_lt k3)) | fail "no arm")
            all_goals (go_wp2_with fail; go_meet; exact ⟨rfl, And.left (by assumption)⟩)
          case rest =>
          obtain ⟨rfl, hbx⟩ := hcut
          have HBX := Lib.hid (HB1.out.trans (hbx.mono HB1.out.size))
          clear hbx
          go_wp2_with fail
          go_roundw
          case rel => exact ⟨k + 1, by omega, by go_num, HA2, _, rfl, HBX.out⟩
          case measure => simp [intOf]; omega
      · obtain rfl : pl = k := by omega
        have HR := Lib.hid (HYE.out (fun i hi hi2 => HA.out i hi hi2 (by have := HHL.out; omega)))
        have HBR := Lib.hid hbr
        clear hbr
        go_wp2_with fail
        go_ret
        exact ⟨ret_bool HR.out.symm, HB0.out.trans (HBR.out.mono HB0.out.size)⟩
  · have HB := Lib.hid (show b = false by rw [← h]; unfold truthOf; rw [Bool.and_eq_false_iff]; left; simp; omega)
    have e1 : ((hl : Int) == (pl : Int)) = false := by simp; omega
    have e2 : ((hl : Int) != (pl : Int)) = true := by simp; omega
    clear hp hhl hpl hhc hpc h
    go_enter Try.func49, Try.ntmps49
    go_wp2_with fail
    go_ret
    exact ⟨ret_bool HB.out.symm, (by repeat (first | exact Below.refl _ _ | (refine Below.alloc ?_ (by first | omega | (simp; omega) | simp) _) | (refine Below.setCell ?_ (by first | omega | (simp; omega) | simp) _) | refine Below.drew ?_))⟩
end Go.Proofs.Ytodlfmbfjnldiaa

/- The reference's Ahead. -/
namespace Go.Proofs.Ytodlfmbfjnldiaa
set_option linter.unusedVariables false
set_option linter.unusedSimpArgs false
open Go.RowKit

theorem wpList_append_new {ops : Array Oper} {rest : List Oper} {o : Oper} {a : Act} {Q : Exit → Act → World → Prop} (w : World) (xl xc : Nat) (xa : Option Addr) (xs : List Int) (hgd : o.guard = none) (s x : Operand)
    (ho : o.op = .call { callee := .builtin .append, args := #[s, x], argTypes := #[27, 27] }) (hs : ∃ p, a.eval s = .slice (some p) 0 0) (hxv : a.eval x = .slice xa xl xc)
    (hx : IntsAt w xa xl xs) (hl : xl ≤ 1000) (h : ∀ ga c w3, IntsAt w3 (some ga) xl xs → Below w.heap.size w w3 → wpList Try.prog ops Q rest (a.put o.dst (.slice (some ga) xl c)) w3) : wpList Try.prog ops Q (o :: rest) a w := by
  obtain ⟨p, hs⟩ := hs
  obtain ⟨ga, c, w3, hr, hf, hb⟩ := run_append_fresh w 27 o.type 3 _ 1 8 Try.underlying27 Try.info3 rfl (by decide) (by decide) p xl xc xa (xs.map (Value.int .i64)) (by simp [hx.1]) (fun h0 => by
    obtain ⟨pb, po, e1, -, e2⟩ := ints_srcW hx h0; exact ⟨pb, po, e1, e2⟩) hl
  exact wpList_append_run w hgd s x 27 ho _ _ _ _ hs hxv hr (h ga c w3 (FRow.ints hf (by unfold maxLen; omega)) hb)
theorem ints_take {w : World} {a : Option Addr} {len k : Nat} {xs : List Int} (h : IntsAt w a len xs) (hk : k ≤ len) : IntsAt w a k (xs.take k) := by
  obtain ⟨h1, h2, h3⟩ := h
  refine ⟨by rw [List.length_take]; omega, by omega, fun h0 => ?_⟩
  obtain ⟨b, o, e, hb, hc⟩ := h3 (by omega)
  refine ⟨b, o, e, hb, fun i hi => ?_⟩
  rw [List.length_take] at hi
  rw [List.getElem_take]
  exact hc i (by omega)
set_option maxRecDepth 100000 in
set_option maxHeartbeats 4000000 in
theorem refAhead_any (f : PFrame) (sa : Option Addr) (sl sc : Nat) (pa : Option Addr) (pl pc : Nat) (ca : Option Addr) (cl cc : Nat) (n : Int) (ho : f.ok = true) (h0 : 0 ≤ n) (hn : n < (f.pieces.length : Int)) (w : World) (hp : PAt w sa sl sc pa pl pc ca cl cc f) :
    Calls Try.prog 56 #[.agg #[.int .i64 f.len, .int .i64 f.slack, .slice sa sl sc, .slice pa pl pc, .slice ca cl cc], .int .i64 n] w fun e w' => ∃ ci k ga gc, e = .returned (.tuple #[.int .i64 (ci : Nat), .slice ga k gc]) ∧ f.at n ci k ∧ IntsAt w' ga k (f.ahead ci k) ∧ Below w.heap.size w w' := by
  obtain ⟨hcl, hcm, hcc⟩ := hp.2.2
  have HCL := Lib.hid hcl
  have HCC := Lib.hid hcc
  have hc3 : cl ≤ 3 := by have := (PFrame.ok_parts ho).2.2.2.2.2.2; omega
  have HC6 := Lib.hid (fun ci (h : ci < f.cols.length) => (PFrame.ok_col ho ci h).2)
  have h66 := (PFrame.ok_parts ho).2.2.2.2.2.1
  have HSO := Lib.hid (fun (h : ∀ ci (h1 : ci < f.cols.length) k (h2 : k < f.cols[ci].length), f.cols[ci][k] ≠ n) => show False from by
    obtain ⟨ci, k, h1, h2, h3⟩ := at_some ho h0 hn
    exact h ci h1 k h2 h3)
  have HAT := Lib.hid (fun ci (h1 : ci < f.cols.length) k (h2 : k < f.cols[ci].length) (h3 : f.cols[ci][k] = n) => show f.at n ci k from ⟨h1, h2, h3⟩)
  have HAH := Lib.hid (fun ci (h1 : ci < f.cols.length) k => show f.cols[ci].take k = f.ahead ci k from by unfold PFrame.ahead; rw [List.getElem?_eq_getElem h1]; rfl)
  clear hp hcl hcm hcc ho h0 hn
  go_enter Try.func56, Try.ntmps56
  go_wp2_with fail
  obtain ⟨W0, hW0, hB0, hs0, hz0⟩ := name1k w #[.int .i64 f.len, .int .i64 f.slack, .slice sa sl sc, .slice pa pl pc, .slice ca cl cc] 26
  rw [hW0]
  clear hW0
  have HB0 := Lib.hid hB0
  have x4 : W0.cell? ⟨w.heap.size, 4, none⟩ = some (.slice ca cl cc) := hs0 4
  clear hB0 hs0
  go_loopw [6] (fun v6 wr => ∃ ci : Nat, ci ≤ cl ∧ v6 = .int .i64 ci ∧ Hid (∀ i (h1 : i < f.cols.length) k (h2 : k < f.cols[i].length), i < ci → f.cols[i][k] ≠ n) ∧ W0 = wr) (fun v6 _ => cl - (intOf v6).toNat)
  case atStart => exact ⟨0, by omega, rfl, Lib.hid (fun i _ _ _ h => by omega), rfl⟩
  case round =>
    obtain ⟨ci, hci, rfl, HA, rfl⟩ := hrel
    by_cases hlt : ci < cl
    · have hci2 : ci < f.cols.length := by rw [HCL.out]; exact hlt
      obtain ⟨cb, co, rfl, hcB, hccell⟩ := HCC.out (by omega)
      obtain ⟨ra, rl, rc, hcell, hcap, hri⟩ := hccell ci hci2
      have c0 := (HB0.out.cell (p := ⟨cb, co + ci, none⟩) hcB).trans hcell
      have hkl : (ci : Int) < (cl : Int) := by omega
      have hcB0 : cb < W0.heap.size := Nat.lt_of_lt_of_le hcB HB0.out.size
      have hk0 : (0 : Int) ≤ (ci : Int) := by omega
      have HRI := Lib.hid (fun W (hb : Below W0.heap.size W0 W) => hri.below (HB0.out.trans (hb.mono HB0.out.size)))
      have hrl := hri.1
      have h6 := HC6.out ci hci2
      have HRL := Lib.hid hrl
      have HRC := Lib.hid hri.2.2
      have hrl2 : rl ≤ 6 := by omega
      clear hccell hcell hrl hri h6
      go_wp2_with fail
      go_loopw [7] (fun v7 wr => ∃ k : Nat, k ≤ rl ∧ v7 = .int .i64 k ∧ Hid (∀ j (h2 : j < f.cols[ci].length), j < k → f.cols[ci][j] ≠ n) ∧ W0 = wr) (fun v7 _ => rl - (intOf v7).toNat)
      case atStart => exact ⟨0, by omega, rfl, Lib.hid (fun j _ h => by omega), rfl⟩
      case round =>
        obtain ⟨k, hk, rfl, HI, rfl⟩ := hrel
        by_cases hlt2 : k < rl
        · have hk2 : k < f.cols[ci].length := by rw [HRL.out]; exact hlt2
          obtain ⟨rb, ro, rfl, hrB, hrcell⟩ := HRC.out (by omega)
          have cx := (HB0.out.cell (p := ⟨rb, ro + k, none⟩) hrB).trans (hrcell k hk2)
          have hkl2 : (k : Int) < (rl : Int) := by omega
          have hk02 : (0 : Int) ≤ (k : Int) := by omega
          have HAT1 := Lib.hid (HAT.out ci hci2 k hk2)
          have HNE := Lib.hid (fun (h : f.cols[ci][k] ≠ n) => show ∀ j (h2 : j < f.cols[ci].length), j < k + 1 → f.cols[ci][j] ≠ n from fun j h2 hj => by
            by_cases e : j = k
            · subst e; exact h
            · exact HI.out j h2 (by omega))
          clear hrcell
          obtain ⟨x, hx⟩ : ∃ x, f.cols[ci][k] = x := ⟨_, rfl⟩
          rw [hx] at cx HAT1 HNE
          clear hx
          by_cases he : x = n
          · subst he
            have HAT2 := Lib.hid (HAT1.out rfl)
            have HTK := Lib.hid (fun W hb => ints_take (k := k) (HRI.out W hb) (by omega))
            rw [HAH.out ci hci2 k] at HTK
            have hkc : (k : Int) ≤ (rc : Int) := by omega
            clear HAT1 HNE HI HA HRI HSO
            go_wp2_with (at_builtin; refine wpList_append_new _ k rc _ (f.ahead ci k) rfl _ _ rfl ⟨_, rfl⟩ rfl (HTK.out _ (by repeat (first | exact Below.refl _ _ | (refine Below.alloc ?_ (by first | omega | (simp; omega) | simp) _) | (refine Below.setCell ?_ (by first | omega | (simp; omega) | simp) _) | refine Below.drew ?_))) (by omega) ?_; intro ga gc w3 hI3 hb3)
            go_ret2
            exact ⟨ci, k, _, _, rfl, HAT2.out, hI3, HB0.out.trans ((((by repeat (first | exact Below.refl _ _ | (refine Below.alloc ?_ (by first | omega | (simp; omega) | simp) _) | (refine Below.setCell ?_ (by first | omega | (simp; omega) | simp) _) | refine Below.drew ?_)) : Below W0.heap.size W0 _).trans (hb3.mono (by simp))).mono HB0.out.size)⟩
          · have heB : (x == n) = false := by simpa using he
            have HI2 := Lib.hid (HNE.out he)
            clear HAT1 HNE HI
            go_wp2_with fail
            go_roundw
            case rel => exact ⟨k + 1, by omega, by go_num, HI2, trivial⟩
            case measure => simp [intOf]; omega
        · obtain rfl : rl = k := by omega
          have HA2 := Lib.hid (show ∀ i (h1 : i < f.cols.length) k (h2 : k < f.cols[i].length), i < ci + 1 → f.cols[i][k] ≠ n from fun i h1 k h2 hi => by
            by_cases e : i = ci
            · subst e; exact HI.out k h2 (by have := HRL.out; omega)
            · exact HA.out i h1 k h2 (by omega))
          clear HA HI
          go_wp2_with fail
          go_roundw
          case rel => exact ⟨ci + 1, by omega, by go_num, HA2, trivial⟩
          case measure => simp [intOf]; omega
    · exact absurd (HSO.out (fun i h1 k h2 => HA.out i h1 k h2 (by have := HCL.out; omega))) id
end Go.Proofs.Ytodlfmbfjnldiaa

/- Mathematics of PagesEach. -/
namespace Go.Proofs.Ytodlfmbfjnldiaa
set_option linter.unusedVariables false
set_option linter.unusedSimpArgs false
open Go.RowKit

theorem sumG_on {g h : Int → Int} : ∀ {xs : List Int}, (∀ x ∈ xs, g x ≤ h x) → sumG g xs ≤ sumG h xs
  | [], _ => Int.le_refl _
  | x :: xs, hh => by
    have h1 := hh x (by simp)
    have h2 := sumG_on (xs := xs) (fun y hy => hh y (by simp [hy]))
    simp only [sumG]; omega
theorem strip_diff (g : Int → Int) : ∀ X Y : List Int, sumG g Y - sumG g X = sumG g (stripC X Y).2 - sumG g (stripC X Y).1
  | [], [] => rfl
  | [], y :: ys => rfl
  | x :: xs, [] => rfl
  | x :: xs, y :: ys => by
    unfold stripC
    by_cases h : x = y
    · rw [if_pos h, ← strip_diff g xs ys, h]; simp only [sumG]; omega
    · rw [if_neg h]
theorem truth_sum {f : PFrame} {hs : List Int} (ht : truthOf f hs = true) {xs : List Int} (hin : ∀ x ∈ xs, 0 ≤ x ∧ x < (f.pieces.length : Int)) : f.loS xs ≤ highS hs xs ∧ highS hs xs ≤ f.hiS xs := by
  obtain ⟨hl, hb⟩ := truth_in ht
  have key : ∀ x ∈ xs, f.lo x ≤ tall hs x ∧ tall hs x ≤ f.hi x := fun x hx => by
    obtain ⟨h0, h1⟩ := hin x hx
    obtain ⟨j, rfl⟩ : ∃ j : Nat, x = (j : Int) := ⟨x.toNat, by omega⟩
    have hj : j < hs.length := by omega
    have := hb j hj
    unfold tall
    simpa [hj] using this
  exact ⟨sumG_on fun x hx => (key x hx).1, sumG_on fun x hx => (key x hx).2⟩
theorem truth_bd {f : PFrame} (ho : f.ok = true) {hs : List Int} (ht : truthOf f hs = true) : ∀ i (h : i < hs.length), 0 ≤ hs[i] ∧ hs[i] ≤ 99 := by
  intro i hi
  have h1 := (truth_in ht).2 i hi
  have h2 := PFrame.lo_bd ho i
  have h3 := PFrame.hi_bd ho i
  omega
/-- What a column's pieces are high together in a truth, and what Fits says of it. -/
theorem each_col {f : PFrame} (ho : f.ok = true) {hs : List Int} (ht : truthOf f hs = true) {c : Nat} (hc : c < f.cols.length) {P : Int} :
    ∃ lo hi n k : Int, ∃ lk : Bool, f.loS f.cols[c] = lo ∧ f.hiS f.cols[c] = hi ∧ highS hs f.cols[c] = n ∧ knownR f.len f.slack lo hi P = k ∧ btw (n + P) (f.len - f.slack) f.len = lk ∧
      ¬ n < lo ∧ ¬ hi < n ∧ 0 ≤ n ∧ n ≤ 594 ∧ ((k = 1 ∧ lk = true) ∨ (k = 2 ∧ lk = false) ∨ (k = 3)) := by
  have hin := (PFrame.ok_col ho c hc).1
  have h6 := (PFrame.ok_col ho c hc).2
  have h66 := (PFrame.ok_parts ho).2.2.2.2.2.1
  have hs2 := truth_sum ht hin
  have hn := highS_bd (xs := f.cols[c]) (truth_bd ho ht) (by omega)
  refine ⟨_, _, _, _, _, rfl, rfl, rfl, rfl, rfl, by omega, by omega, hn.1, hn.2, ?_⟩
  unfold knownR btw
  by_cases c1 : f.len - f.slack ≤ f.loS f.cols[c] + P ∧ f.hiS f.cols[c] + P ≤ f.len
  · rw [if_pos c1]
    exact .inl ⟨rfl, by simp; omega⟩
  · rw [if_neg c1]
    by_cases c2 : f.hiS f.cols[c] + P < f.len - f.slack ∨ f.len < f.loS f.cols[c] + P
    · rw [if_pos c2]
      exact .inr (.inl ⟨rfl, by simp; omega⟩)
    · rw [if_neg c2]; exact .inr (.inr rfl)
/-- How much further down a piece is in a truth. -/
theorem each_gap {f : PFrame} (ho : f.ok = true) {hs : List Int} (ht : truthOf f hs = true) {one other : Int} (h0 : 0 ≤ one) (hn : one < (f.pieces.length : Int)) (h1 : 0 ≤ other) (hn1 : other < (f.pieces.length : Int)) :
    ∃ (ci a di b : Nat) (L H A B r : Int), f.at one ci a ∧ f.at other di b ∧ highS hs (f.ahead ci a) = A ∧ highS hs (f.ahead di b) = B ∧
      (∀ e, GapPost2 f one other e → e = .returned (.tuple #[.agg #[.int .i64 L, .int .i64 H], .int .i64 0])) ∧
      (∀ e, MeetsPost f one other e → e = .returned (.tuple #[.int .i64 r, .int .i64 0])) ∧
      L ≤ B - A ∧ B - A ≤ H ∧ 0 ≤ A ∧ A ≤ 594 ∧ 0 ≤ B ∧ B ≤ 594 ∧ btw r 1 3 = true ∧ ((r = 1 ∧ B - A = 0) ∨ (r = 2 ∧ ¬ B - A = 0) ∨ r = 3) := by
  obtain ⟨ci, a, ha⟩ := at_some ho h0 hn
  obtain ⟨di, b, hb⟩ := at_some ho h1 hn1
  have q1 := ahead_in ho ha
  have q2 := ahead_in ho hb
  have hsub := strip_sub (f.ahead ci a) (f.ahead di b)
  have t1 := truth_sum ht (xs := (stripC (f.ahead ci a) (f.ahead di b)).1) (fun x hx => q1.1 x (hsub.1 x hx))
  have t2 := truth_sum ht (xs := (stripC (f.ahead ci a) (f.ahead di b)).2) (fun x hx => q2.1 x (hsub.2.1 x hx))
  have hd := strip_diff (tall hs) (f.ahead ci a) (f.ahead di b)
  have b1 := highS_bd (xs := f.ahead ci a) (truth_bd ho ht) q1.2
  have b2 := highS_bd (xs := f.ahead di b) (truth_bd ho ht) q2.2
  have eL : f.gapLo (f.ahead ci a) (f.ahead di b) ≤ highS hs (f.ahead di b) - highS hs (f.ahead ci a) := by unfold PFrame.gapLo highS; unfold highS at t1 t2; omega
  have eH : highS hs (f.ahead di b) - highS hs (f.ahead ci a) ≤ f.gapHi (f.ahead ci a) (f.ahead di b) := by unfold PFrame.gapHi highS; unfold highS at t1 t2; omega
  refine ⟨ci, a, di, b, f.gapLo (f.ahead ci a) (f.ahead di b), f.gapHi (f.ahead ci a) (f.ahead di b), _, _, meetR (f.gapLo (f.ahead ci a) (f.ahead di b)) (f.gapHi (f.ahead ci a) (f.ahead di b)), ha, hb, rfl, rfl, ?_, ?_, eL, eH, b1.1, b1.2, b2.1, b2.2, ?_, ?_⟩
  · rintro e ⟨c', a', d', b', q1, q2, rfl⟩
    obtain ⟨rfl, rfl⟩ := at_one ho ha q1
    obtain ⟨rfl, rfl⟩ := at_one ho hb q2
    rfl
  · rintro e ⟨c', a', d', b', q1, q2, rfl⟩
    obtain ⟨rfl, rfl⟩ := at_one ho ha q1
    obtain ⟨rfl, rfl⟩ := at_one ho hb q2
    rfl
  · unfold meetR btw; split
    · rfl
    · split <;> rfl
  · unfold meetR
    by_cases c1 : f.gapLo (f.ahead ci a) (f.ahead di b) = 0 ∧ f.gapHi (f.ahead ci a) (f.ahead di b) = 0
    · rw [if_pos c1]; exact .inl ⟨rfl, by omega⟩
    · rw [if_neg c1]
      by_cases c2 : f.gapLo (f.ahead ci a) (f.ahead di b) ≤ 0 ∧ 0 ≤ f.gapHi (f.ahead ci a) (f.ahead di b)
      · rw [if_pos c2]; exact .inr (.inr rfl)
      · rw [if_neg c2]; exact .inr (.inl ⟨rfl, by omega⟩)
end Go.Proofs.Ytodlfmbfjnldiaa
