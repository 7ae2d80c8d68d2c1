/- ZO ZP, joined. -/
import Derived.Test.YtcklhojeneejiaaZK
import Derived.Test.YtcklhojeneejiaaZM
import Derived.Test.YtcklhojeneejiaaZN
/- Package pages: refuse. -/
namespace Go.Proofs.Ytcklhojeneejiaa
set_option linter.unusedVariables false
set_option linter.unusedSimpArgs false
open Go.RowKit Go.Shelf

attribute [local go_sem] Oper.semAt_some

/-- Whether a choice is better than the one that was the best so far. -/
def PFrame.better (f : PFrame) (o : Option Nat) (c : Nat) : Bool := match o with
  | none => true
  | some b => decide (cmpR (pickR c f.pieces.length) (f.payTo c f.pieces.length) (pickR b f.pieces.length) (f.payTo b f.pieces.length) < 0)
def PFrame.stepB (f : PFrame) (o : Option Nat) (c : Nat) : Option Nat := if f.better o c && f.locks c then some c else o
/-- The best choice below m without which the page can be locked. -/
def PFrame.bestC (f : PFrame) (m : Nat) : Option Nat := (List.range m).foldl f.stepB none
theorem bestC_succ (f : PFrame) (m : Nat) : f.bestC (m + 1) = f.stepB (f.bestC m) m := by
  unfold PFrame.bestC; rw [List.range_succ, List.foldl_append]; rfl
theorem own_base {w : World} {n0 n1 len sz : Nat} {e : TypeId} {v : Value} {xs : List Value} (h : w.ownsRow n0 e sz v len xs) (hn : n1 ≤ n0) : w.ownsRow n1 e sz v len xs := by
  refine ⟨h.1, ?_⟩
  rcases h.2 with h2 | ⟨g, cap, cur, h2, h3, h4⟩
  · exact .inl h2
  · exact .inr ⟨g, cap, cur, h2, by omega, h4⟩
theorem own_ints {w : World} {n0 len : Nat} {v : Value} {xs : List Int} (h : w.ownsRow n0 3 1 v len (xs.map (Value.int .i64))) (hl : xs.length = len) : ∃ a c, v = .slice a len c ∧ IntsAt w a len xs := by
  rcases h.2 with ⟨rfl, h0⟩ | ⟨g, cap, cur, rfl, h1, h2, h3, h4, h5, h6⟩
  · subst h0
    exact ⟨_, _, rfl, hl, by unfold maxLen; omega, fun h => absurd h (by omega)⟩
  · refine ⟨_, _, rfl, hl, by omega, fun _ => ⟨g, 0, rfl, (Array.getElem?_eq_some_iff.1 h2).1, fun i hi => ?_⟩⟩
    have hx : (cur.toList.take (len * 1))[i]? = some (.int .i64 xs[i]) := by rw [h6]; simp [hi]
    rw [List.getElem?_take] at hx
    split at hx
    · simp only [World.cell?, h2]; simpa using hx
    · cases hx

theorem wrap_pow {pl : Nat} (h : pl ≤ 6) : wrap64 (2 ^ pl) = ((2 ^ pl : Nat) : Int) := by
  have : pl = 0 ∨ pl = 1 ∨ pl = 2 ∨ pl = 3 ∨ pl = 4 ∨ pl = 5 ∨ pl = 6 := by omega
  rcases this with rfl | rfl | rfl | rfl | rfl | rfl | rfl <;> exact IntWalk.wrap64_in _ ⟨by decide, by decide⟩
/-- What the box of the best one holds. -/
def BestR (f : PFrame) (B n0 : Nat) (o : Option Nat) (b : Bool) (w : World) : Prop :=
  (∀ i, w.frozen? ⟨B, i, none⟩ = false) ∧ ∃ v, w.cell? ⟨B, 0, none⟩ = some v ∧
  ((o = none ∧ b = false ∧ v = .slice none 0 0 ∧ w.cell? ⟨B, 1, none⟩ = some (.int .i64 0)) ∨
   ∃ c, o = some c ∧ b = true ∧ w.cell? ⟨B, 1, none⟩ = some (.int .i64 (f.payTo c f.pieces.length)) ∧ w.ownsRow n0 3 1 v (pickR c f.pieces.length).length ((pickR c f.pieces.length).map (Value.int .i64)))
theorem BestR.below {f : PFrame} {B n0 : Nat} {o : Option Nat} {b : Bool} {w w' : World} (h : BestR f B n0 o b w) (hb : Below w.heap.size w w') : BestR f B n0 o b w' := by
  obtain ⟨h1, v, h2, h3⟩ := h
  have hB := World.block_lt_of_cell? _ _ h2
  refine ⟨fun i => (hb.frozen (p := ⟨B, i, none⟩) hB).trans (h1 i), v, (hb.cell (p := ⟨B, 0, none⟩) hB).trans h2, ?_⟩
  rcases h3 with ⟨h4, h5, h6, h7⟩ | ⟨c, h4, h5, h6, h7⟩
  · exact .inl ⟨h4, h5, h6, (hb.cell (p := ⟨B, 1, none⟩) hB).trans h7⟩
  · exact .inr ⟨c, h4, h5, (hb.cell (p := ⟨B, 1, none⟩) hB).trans h6, h7.kept (grow_gb hb none) (Classical.em _)⟩
theorem BestR.put {f : PFrame} {B n0 k : Nat} {o : Option Nat} {b : Bool} {w : World} {a : Option Addr} {l c : Nat} (h : BestR f B n0 o b w) (hrow : w.ownsRow n0 3 1 (.slice a l c) (pickR k f.pieces.length).length ((pickR k f.pieces.length).map (Value.int .i64))) (hB : B < n0) :
    BestR f B n0 (some k) true ((w.setCell ⟨B, 0, none⟩ (.slice a l c)).setCell ⟨B, 1, none⟩ (.int .i64 (f.payTo k f.pieces.length))) := by
  obtain ⟨h1, v, h2, h3⟩ := h
  obtain ⟨u, hu⟩ : ∃ u, w.cell? ⟨B, 1, none⟩ = some u := by
    rcases h3 with ⟨_, _, _, h⟩ | ⟨_, _, _, h, _⟩
    · exact ⟨_, h⟩
    · exact ⟨_, h⟩
  refine ⟨fun i => set_frz (set_frz (h1 i)), .slice a l c, (set_cell' (by decide)).trans (set_cell h2), .inr ⟨k, rfl, rfl, set_cell ((set_cell' (by decide)).trans hu), ?_⟩⟩
  exact hrow.kept (row := some B) (gbx_set (gbx_set (gbx_refl _ _) _ _) _ _) (.inr fun e => by have := own_low hrow _ e; omega)
/-- What refuse ends with. -/
def RefusePost (f : PFrame) (w : World) (e : Ending) (w' : World) : Prop :=
  match (if f.ok then f.bestC (2 ^ f.pieces.length) else none) with
  | none => e = .returned (.tuple #[.agg #[.slice none 0 0, .int .i64 0], .int .i64 (if f.ok then 3 else 30)])
  | some c => ∃ v n0, e = .returned (.tuple #[.agg #[v, .int .i64 (f.payTo c f.pieces.length)], .int .i64 0]) ∧ w.heap.size ≤ n0 ∧ w'.ownsRow n0 3 1 v (pickR c f.pieces.length).length ((pickR c f.pieces.length).map (Value.int .i64))

set_option maxRecDepth 100000 in
set_option maxHeartbeats 16000000 in
theorem refuse_yes (f : PFrame) (sa : Option Addr) (sl sc : Nat) (pa : Option Addr) (pl pc : Nat) (ca : Option Addr) (cl cc : Nat) (ho : f.ok = true) (w : World) (hp : PAt w sa sl sc pa pl pc ca cl cc f) :
    Calls Try.prog 96 #[.agg #[.int .i64 f.len, .int .i64 f.slack, .slice sa sl sc, .slice pa pl pc, .slice ca cl cc]] w fun e w' => RefusePost f w e w' ∧ Below w.heap.size w w' := by
  have hpl := hp.2.1.1
  have hpl6 := (PFrame.ok_parts ho).2.2.2.2.2.1
  have HV := Lib.hid (fun W (hb : Below w.heap.size w W) => valid_is f sa sl sc pa pl pc ca cl cc true ho W (hp.below hb))
  have HREF := Lib.hid (fun c (hc : c < 64) W (hb : Below w.heap.size w W) => refusal_any f sa sl sc pa pl pc ca cl cc ho c hc W (hp.below hb))
  have HLK := Lib.hid (fun c (hc : c < 64) b (h : f.locks c = b) W (hb : Below w.heap.size w W) => (h ▸ locks_any f sa sl sc pa pl pc ca cl cc ho c hc W (hp.below hb) : Calls Try.prog 94 #[.agg #[.int .i64 f.len, .int .i64 f.slack, .slice sa sl sc, .slice pa pl pc, .slice ca cl cc], .int .i64 c] W fun e w' => e = .returned (.bool b) ∧ Below W.heap.size W w'))
  have HPL := Lib.hid hpl
  clear hp
  go_enter Try.func96, Try.ntmps96
  go_upto_region 1 with fail
  obtain ⟨W0, hW0, hB0, hs0, hr0, hz0⟩ := name2c w #[.int .i64 f.len, .int .i64 f.slack, .slice sa sl sc, .slice pa pl pc, .slice ca cl cc] 87 #[.slice none 0 0, .int .i64 0] 112
  have hfr0 : ∀ i, W0.frozen? ⟨w.heap.size + 1, i, none⟩ = false := by subst hW0; intro i; go_simp
  try rw [hW0]
  clear hW0
  obtain ⟨x0, x1, x2, x3, x4⟩ : W0.cell? ⟨w.heap.size, 0, none⟩ = some (.int .i64 f.len) ∧ W0.cell? ⟨w.heap.size, 1, none⟩ = some (.int .i64 f.slack) ∧ W0.cell? ⟨w.heap.size, 2, none⟩ = some (.slice sa sl sc) ∧ W0.cell? ⟨w.heap.size, 3, none⟩ = some (.slice pa pl pc) ∧ W0.cell? ⟨w.heap.size, 4, none⟩ = some (.slice ca cl cc) := ⟨hs0 0, hs0 1, hs0 2, hs0 3, hs0 4⟩
  have HB0 := Lib.hid hB0
  go_upto_region 5 with (go_at_call 79; refine (HV.out _ hB0).mono ?_; rintro e w2 ⟨rfl, hb2⟩)
  obtain ⟨W3, hW3, hB3, hs3, hz3⟩ := name1k w2 #[.slice none 0 0, .int .i64 0] 112
  have hfr3 : ∀ i, W3.frozen? ⟨w2.heap.size, i, none⟩ = false := by subst hW3; intro i; go_simp
  try rw [hW3]
  clear hW3
  have hz2 := hb2.size
  have hB03 : Below W0.heap.size W0 W3 := hb2.trans (hB3.mono hb2.size)
  obtain ⟨x0, x1, x2, x3, x4⟩ : W3.cell? ⟨w.heap.size, 0, none⟩ = some (.int .i64 f.len) ∧ W3.cell? ⟨w.heap.size, 1, none⟩ = some (.int .i64 f.slack) ∧ W3.cell? ⟨w.heap.size, 2, none⟩ = some (.slice sa sl sc) ∧ W3.cell? ⟨w.heap.size, 3, none⟩ = some (.slice pa pl pc) ∧ W3.cell? ⟨w.heap.size, 4, none⟩ = some (.slice ca cl cc) := ⟨(hB03.cell (p := ⟨w.heap.size, 0, none⟩) (by show w.heap.size < _; omega)).trans x0, (hB03.cell (p := ⟨w.heap.size, 1, none⟩) (by show w.heap.size < _; omega)).trans x1, (hB03.cell (p := ⟨w.heap.size, 2, none⟩) (by show w.heap.size < _; omega)).trans x2, (hB03.cell (p := ⟨w.heap.size, 3, none⟩) (by show w.heap.size < _; omega)).trans x3, (hB03.cell (p := ⟨w.heap.size, 4, none⟩) (by show w.heap.size < _; omega)).trans x4⟩
  have HB3 := Lib.hid (HB0.out.trans (hB03.mono HB0.out.size))
  have HRC := Lib.hid (show ∀ i, W3.cell? ⟨w.heap.size + 1, i, none⟩ = (#[.slice none 0 0, .int .i64 0] : Array Value)[i]? from fun i => (hB03.cell (p := ⟨w.heap.size + 1, i, none⟩) (by show w.heap.size + 1 < _; omega)).trans (hr0 i))
  have HRF := Lib.hid (show ∀ i, W3.frozen? ⟨w.heap.size + 1, i, none⟩ = false from fun i => (hB03.frozen (p := ⟨w.heap.size + 1, i, none⟩) (by show w.heap.size + 1 < _; omega)).trans (hfr0 i))
  have HBX := Lib.hid (show W3.cell? ⟨w.heap.size, 0, none⟩ = some (.int .i64 f.len) ∧ W3.cell? ⟨w.heap.size, 1, none⟩ = some (.int .i64 f.slack) ∧ W3.cell? ⟨w.heap.size, 2, none⟩ = some (.slice sa sl sc) ∧ W3.cell? ⟨w.heap.size, 3, none⟩ = some (.slice pa pl pc) ∧ W3.cell? ⟨w.heap.size, 4, none⟩ = some (.slice ca cl cc) from ⟨x0, x1, x2, x3, x4⟩)
  have HBE := Lib.hid (show BestR f w2.heap.size W3.heap.size none false W3 from ⟨hfr3, _, hs3 0, .inl ⟨rfl, rfl, rfl, hs3 1⟩⟩)
  clear hb2 hB3 hs3 hfr3 hB03 hr0 hfr0 hs0 hB0
  obtain ⟨m, hm, hm64⟩ : ∃ m : Nat, m = 2 ^ pl ∧ m ≤ 64 := ⟨_, rfl, by have := Nat.pow_le_pow_right (show 0 < 2 by omega) (show pl ≤ 6 by omega); omega⟩
  have hwm : wrap64 (2 ^ pl) = (m : Int) := by rw [hm]; exact wrap_pow (by omega)
  have HFIN := Lib.hid (show ∀ (o : Option Nat) (b : Bool) (e : Ending) (W' : World), f.bestC m = o → (match o with | none => e = .returned (.tuple #[.agg #[.slice none 0 0, .int .i64 0], .int .i64 3]) | some c => ∃ v n0, e = .returned (.tuple #[.agg #[v, .int .i64 (f.payTo c f.pieces.length)], .int .i64 0]) ∧ w.heap.size ≤ n0 ∧ W'.ownsRow n0 3 1 v (pickR c f.pieces.length).length ((pickR c f.pieces.length).map (Value.int .i64))) → True → RefusePost f w e W' from fun o b e W' h h2 _ => by
    unfold RefusePost
    rw [hpl, ← hm, if_pos ho, h]
    rw [hpl] at h2
    cases o
    · simpa [ho] using h2
    · exact h2)
  clear hm
  go_wp2_with fail
  try rw [hwm]
  clear hwm
  go_loopw [5, 17] (fun b5 i wr => ∃ k : Nat, ∃ b : Bool, k ≤ m ∧ b5 = .bool b ∧ i = .int .i64 k ∧ BestR f w2.heap.size W3.heap.size (f.bestC k) b wr ∧ Below w2.heap.size W3 wr ∧ W3.heap.size ≤ wr.heap.size) (fun _ i _ => m - (intOf i).toNat)
  case atStart => exact ⟨0, false, by omega, rfl, rfl, HBE.out, Below.refl _ _, Nat.le_refl _⟩
  case round =>
    obtain ⟨k, b, hk, rfl, rfl, hbest, hbw, hn⟩ := hrel
    obtain ⟨x0, x1, x2, x3, x4⟩ : wr.cell? ⟨w.heap.size, 0, none⟩ = some (.int .i64 f.len) ∧ wr.cell? ⟨w.heap.size, 1, none⟩ = some (.int .i64 f.slack) ∧ wr.cell? ⟨w.heap.size, 2, none⟩ = some (.slice sa sl sc) ∧ wr.cell? ⟨w.heap.size, 3, none⟩ = some (.slice pa pl pc) ∧ wr.cell? ⟨w.heap.size, 4, none⟩ = some (.slice ca cl cc) := ⟨(hbw.cell (p := ⟨w.heap.size, 0, none⟩) (by show w.heap.size < _; omega)).trans HBX.out.1, (hbw.cell (p := ⟨w.heap.size, 1, none⟩) (by show w.heap.size < _; omega)).trans HBX.out.2.1, (hbw.cell (p := ⟨w.heap.size, 2, none⟩) (by show w.heap.size < _; omega)).trans HBX.out.2.2.1, (hbw.cell (p := ⟨w.heap.size, 3, none⟩) (by show w.heap.size < _; omega)).trans HBX.out.2.2.2.1, (hbw.cell (p := ⟨w.heap.size, 4, none⟩) (by show w.heap.size < _; omega)).trans HBX.out.2.2.2.2⟩
    have HBW := Lib.hid (HB3.out.trans (hbw.mono (show w.heap.size ≤ w2.heap.size by omega)))
    have HBW2 := Lib.hid hbw
    have HBE1 := Lib.hid hbest
    obtain ⟨hf, v, s0, hcase⟩ := hbest
    have g0 := hf 0
    have g1 := hf 1
    have hd1 : w.heap.size < wr.heap.size := by omega
    have hd2 : w2.heap.size < wr.heap.size := World.block_lt_of_cell? _ _ s0
    clear hbw hf
    by_cases hlt : k < m
    · have hkl : (k : Int) < (m : Int) := by omega
      have hk64 : k < 64 := by omega
      have hpk : (pickR k pl).length ≤ 100 := by have := pickR_len k pl; omega
      have HST := Lib.hid (show f.bestC (k + 1) = if f.better (f.bestC k) k && f.locks k then some k else f.bestC k from bestC_succ f k)
      rcases hcase with ⟨hn0, rfl, rfl, s1⟩ | ⟨c0, hs0, rfl, s1, hrow0⟩
      · have HBT := Lib.hid (show f.better (f.bestC k) k = true by rw [hn0]; rfl)
        clear hn0
        rcases hl : f.locks k with - | -
        · have HL := Lib.hid hl
          have HS2 := Lib.hid (show f.bestC (k + 1) = f.bestC k by rw [HST.out, hl]; simp)
          clear hl
          go_wp2_with (first | (go_at_call 112; refine (HREF.out k hk64 _ HBW.out).mono ?_; rintro e wR ⟨v', n0, rfl, hn0, hrow', hbR⟩; obtain ⟨a', c', rfl, hints'⟩ := own_ints hrow' rfl; have hzR := hbR.size; have e1 : w.heap.size < wR.heap.size := (by omega); have e2 : w2.heap.size < wR.heap.size := (by omega); have hcR : ∀ b o, b < wr.heap.size → wR.cell? ⟨b, o, none⟩ = wr.cell? ⟨b, o, none⟩ := (fun b o h => hbR.cell (p := ⟨b, o, none⟩) h); have hfR : ∀ b o, b < wr.heap.size → wR.frozen? ⟨b, o, none⟩ = wr.frozen? ⟨b, o, none⟩ := (fun b o h => hbR.frozen (p := ⟨b, o, none⟩) h); have HROW := Lib.hid hrow'; have HINT := Lib.hid hints'; have HBR := Lib.hid hbR; clear hrow' hints' hbR) | (go_at_call 94; refine (HLK.out k hk64 false HL.out _ ?_).mono ?_; (· exact HBW.out.trans ((HBR.out.trans (((by repeat (first | exact Below.refl _ _ | (refine Below.alloc ?_ (by first | omega | (simp; omega) | simp) _) | (refine Below.setCell ?_ (by first | omega | (simp; omega) | simp) _) | refine Below.drew ?_)) : Below wR.heap.size wR (wR.alloc (.cells #[.slice a' (pickR k pl).length c', .int .i64 (f.payTo k pl)] 112))).mono HBR.out.size)).mono HBW.out.size)); rintro e wL ⟨rfl, hbL⟩; have hzL := hbL.size; have hcL : ∀ b o, b < wR.heap.size + 1 → wL.cell? ⟨b, o, none⟩ = World.cell? (wR.alloc (.cells #[.slice a' (pickR k pl).length c', .int .i64 (f.payTo k pl)] 112)) ⟨b, o, none⟩ := (fun b o h => hbL.cell (p := ⟨b, o, none⟩) (by first | exact h | (simp; omega))); have hfL : ∀ b o, b < wR.heap.size + 1 → wL.frozen? ⟨b, o, none⟩ = World.frozen? (wR.alloc (.cells #[.slice a' (pickR k pl).length c', .int .i64 (f.payTo k pl)] 112)) ⟨b, o, none⟩ := (fun b o h => hbL.frozen (p := ⟨b, o, none⟩) (by first | exact h | (simp; omega))); have HBL := Lib.hid hbL; clear hbL))
          have hallR : Below wR.heap.size wR wL := ((by repeat (first | exact Below.refl _ _ | (refine Below.alloc ?_ (by first | omega | (simp; omega) | simp) _) | (refine Below.setCell ?_ (by first | omega | (simp; omega) | simp) _) | refine Below.drew ?_)) : Below wR.heap.size wR (wR.alloc (.cells #[.slice a' (pickR k pl).length c', .int .i64 (f.payTo k pl)] 112))).trans (HBL.out.mono (by simp))
          have hall := HBR.out.trans (hallR.mono HBR.out.size)
          refine ⟨⟨k + 1, false, by omega, rfl, by go_num, by rw [HS2.out]; exact HBE1.out.below hall, HBW2.out.trans (hall.mono (by omega)), by have := hall.size; omega⟩, by simp [intOf]; omega⟩
        · have HL := Lib.hid hl
          have HS2 := Lib.hid (show f.bestC (k + 1) = some k by rw [HST.out, hl, HBT.out]; rfl)
          clear hl
          go_wp2_with (first | (go_at_call 112; refine (HREF.out k hk64 _ HBW.out).mono ?_; rintro e wR ⟨v', n0, rfl, hn0, hrow', hbR⟩; obtain ⟨a', c', rfl, hints'⟩ := own_ints hrow' rfl; have hzR := hbR.size; have e1 : w.heap.size < wR.heap.size := (by omega); have e2 : w2.heap.size < wR.heap.size := (by omega); have hcR : ∀ b o, b < wr.heap.size → wR.cell? ⟨b, o, none⟩ = wr.cell? ⟨b, o, none⟩ := (fun b o h => hbR.cell (p := ⟨b, o, none⟩) h); have hfR : ∀ b o, b < wr.heap.size → wR.frozen? ⟨b, o, none⟩ = wr.frozen? ⟨b, o, none⟩ := (fun b o h => hbR.frozen (p := ⟨b, o, none⟩) h); have HROW := Lib.hid hrow'; have HINT := Lib.hid hints'; have HBR := Lib.hid hbR; clear hrow' hints' hbR) | (go_at_call 94; refine (HLK.out k hk64 true HL.out _ ?_).mono ?_; (· exact HBW.out.trans ((HBR.out.trans (((by repeat (first | exact Below.refl _ _ | (refine Below.alloc ?_ (by first | omega | (simp; omega) | simp) _) | (refine Below.setCell ?_ (by first | omega | (simp; omega) | simp) _) | refine Below.drew ?_)) : Below wR.heap.size wR (wR.alloc (.cells #[.slice a' (pickR k pl).length c', .int .i64 (f.payTo k pl)] 112))).mono HBR.out.size)).mono HBW.out.size)); rintro e wL ⟨rfl, hbL⟩; have hzL := hbL.size; have hcL : ∀ b o, b < wR.heap.size + 1 → wL.cell? ⟨b, o, none⟩ = World.cell? (wR.alloc (.cells #[.slice a' (pickR k pl).length c', .int .i64 (f.payTo k pl)] 112)) ⟨b, o, none⟩ := (fun b o h => hbL.cell (p := ⟨b, o, none⟩) (by first | exact h | (simp; omega))); have hfL : ∀ b o, b < wR.heap.size + 1 → wL.frozen? ⟨b, o, none⟩ = World.frozen? (wR.alloc (.cells #[.slice a' (pickR k pl).length c', .int .i64 (f.payTo k pl)] 112)) ⟨b, o, none⟩ := (fun b o h => hbL.frozen (p := ⟨b, o, none⟩) (by first | exact h | (simp; omega))); have HBL := Lib.hid hbL; clear hbL))
          have hallR : Below wR.heap.size wR wL := ((by repeat (first | exact Below.refl _ _ | (refine Below.alloc ?_ (by first | omega | (simp; omega) | simp) _) | (refine Below.setCell ?_ (by first | omega | (simp; omega) | simp) _) | refine Below.drew ?_)) : Below wR.heap.size wR (wR.alloc (.cells #[.slice a' (pickR k pl).length c', .int .i64 (f.payTo k pl)] 112))).trans (HBL.out.mono (by simp))
          have hall := HBR.out.trans (hallR.mono HBR.out.size)
          have hrow := (own_base HROW.out (show W3.heap.size ≤ n0 by omega)).kept (grow_gb hallR none) (Classical.em _)
          have hput := BestR.put (k := k) (HBE1.out.below hall) (by rw [hpl]; exact hrow) (by omega)
          rw [hpl] at hput
          have hsz := hall.size
          refine ⟨⟨k + 1, true, by omega, rfl, by go_num, by rw [HS2.out]; exact hput, (HBW2.out.trans (hall.mono (by omega))).trans (((Below.refl w2.heap.size wL).setCell (p := ⟨w2.heap.size, 0, none⟩) (Nat.le_refl _) _).setCell (p := ⟨w2.heap.size, 1, none⟩) (Nat.le_refl _) _), by simp [World.setCell]; omega⟩, by simp [intOf]; omega⟩
      · have hpc : (pickR c0 f.pieces.length).length ≤ 100 := by have := pickR_len c0 f.pieces.length; omega
        obtain ⟨a0, cc0, rfl, hints0⟩ := own_ints hrow0 rfl
        rw [hpl] at s0 s1 hints0 hpc
        have HCM := Lib.hid (fun (aa : Option Addr) (al ac : Nat) (W : World) (hx : IntsAt W aa al (pickR k pl)) (hb : Below wr.heap.size wr W) (h1 : al ≤ 100) => compare_any aa a0 al ac (pickR c0 pl).length cc0 (pickR k pl) (pickR c0 pl) (f.payTo k pl) (f.payTo c0 pl) W hx (hints0.below hb) h1 hpc)
        have HBT := Lib.hid (show f.better (f.bestC k) k = decide (cmpR (pickR k pl) (f.payTo k pl) (pickR c0 pl) (f.payTo c0 pl) < 0) by rw [hs0, PFrame.better, hpl])
        clear hrow0 hints0 hs0
        generalize cmpR (pickR k pl) (f.payTo k pl) (pickR c0 pl) (f.payTo c0 pl) = z at *
        by_cases hz : z < 0
        · have HB2 := Lib.hid (show f.better (f.bestC k) k = true by rw [HBT.out]; simpa using hz)
          rcases hl : f.locks k with - | -
          · have HL := Lib.hid hl
            have HS2 := Lib.hid (show f.bestC (k + 1) = f.bestC k by rw [HST.out, hl]; simp)
            clear hl
            go_wp2_with (first | (go_at_call 112; refine (HREF.out k hk64 _ HBW.out).mono ?_; rintro e wR ⟨v', n0, rfl, hn0, hrow', hbR⟩; obtain ⟨a', c', rfl, hints'⟩ := own_ints hrow' rfl; have hzR := hbR.size; have e1 : w.heap.size < wR.heap.size := (by omega); have e2 : w2.heap.size < wR.heap.size := (by omega); have hcR : ∀ b o, b < wr.heap.size → wR.cell? ⟨b, o, none⟩ = wr.cell? ⟨b, o, none⟩ := (fun b o h => hbR.cell (p := ⟨b, o, none⟩) h); have hfR : ∀ b o, b < wr.heap.size → wR.frozen? ⟨b, o, none⟩ = wr.frozen? ⟨b, o, none⟩ := (fun b o h => hbR.frozen (p := ⟨b, o, none⟩) h); have HROW := Lib.hid hrow'; have HINT := Lib.hid hints'; have HBR := Lib.hid hbR; clear hrow' hints' hbR) | (go_at_call 113; refine (HCM.out a' _ c' (wR.alloc (.cells #[.slice a' (pickR k pl).length c', .int .i64 (f.payTo k pl)] 112)) (HINT.out.below (by repeat (first | exact Below.refl _ _ | (refine Below.alloc ?_ (by first | omega | (simp; omega) | simp) _) | (refine Below.setCell ?_ (by first | omega | (simp; omega) | simp) _) | refine Below.drew ?_))) (HBR.out.trans (((by repeat (first | exact Below.refl _ _ | (refine Below.alloc ?_ (by first | omega | (simp; omega) | simp) _) | (refine Below.setCell ?_ (by first | omega | (simp; omega) | simp) _) | refine Below.drew ?_)) : Below wR.heap.size wR (wR.alloc (.cells #[.slice a' (pickR k pl).length c', .int .i64 (f.payTo k pl)] 112))).mono HBR.out.size)) hpk).mono ?_; rintro e wC ⟨rfl, hbC⟩; have hzC := hbC.size; simp only [World.size_alloc] at hzC; have e3 : wR.heap.size < wC.heap.size := (by omega); have e4 : w2.heap.size < wC.heap.size := (by omega); have e5 : w.heap.size < wC.heap.size := (by omega); have hcC : ∀ b o, b < wR.heap.size + 1 → wC.cell? ⟨b, o, none⟩ = World.cell? (wR.alloc (.cells #[.slice a' (pickR k pl).length c', .int .i64 (f.payTo k pl)] 112)) ⟨b, o, none⟩ := (fun b o h => hbC.cell (p := ⟨b, o, none⟩) (by simp; omega)); have hfC : ∀ b o, b < wR.heap.size + 1 → wC.frozen? ⟨b, o, none⟩ = World.frozen? (wR.alloc (.cells #[.slice a' (pickR k pl).length c', .int .i64 (f.payTo k pl)] 112)) ⟨b, o, none⟩ := (fun b o h => hbC.frozen (p := ⟨b, o, none⟩) (by simp; omega)); have HBC := Lib.hid hbC; clear hbC) | (go_at_call 94; refine (HLK.out k hk64 false HL.out _ ?_).mono ?_; (· exact HBW.out.trans ((HBR.out.trans (((((by repeat (first | exact Below.refl _ _ | (refine Below.alloc ?_ (by first | omega | (simp; omega) | simp) _) | (refine Below.setCell ?_ (by first | omega | (simp; omega) | simp) _) | refine Below.drew ?_)) : Below wR.heap.size wR (wR.alloc (.cells #[.slice a' (pickR k pl).length c', .int .i64 (f.payTo k pl)] 112))).trans (HBC.out.mono (by simp))).mono HBR.out.size))).mono HBW.out.size)); rintro e wL ⟨rfl, hbL⟩; have hzL := hbL.size; have hcL : ∀ b o, b < wC.heap.size → wL.cell? ⟨b, o, none⟩ = World.cell? wC ⟨b, o, none⟩ := (fun b o h => hbL.cell (p := ⟨b, o, none⟩) (by first | exact h | (simp; omega))); have hfL : ∀ b o, b < wC.heap.size → wL.frozen? ⟨b, o, none⟩ = World.frozen? wC ⟨b, o, none⟩ := (fun b o h => hbL.frozen (p := ⟨b, o, none⟩) (by first | exact h | (simp; omega))); have HBL := Lib.hid hbL; clear hbL))
            have hallR : Below wR.heap.size wR wL := (((by repeat (first | exact Below.refl _ _ | (refine Below.alloc ?_ (by first | omega | (simp; omega) | simp) _) | (refine Below.setCell ?_ (by first | omega | (simp; omega) | simp) _) | refine Below.drew ?_)) : Below wR.heap.size wR (wR.alloc (.cells #[.slice a' (pickR k pl).length c', .int .i64 (f.payTo k pl)] 112))).trans (HBC.out.mono (by simp))).trans (HBL.out.mono (by omega))
            have hall := HBR.out.trans (hallR.mono HBR.out.size)
            refine ⟨⟨k + 1, true, by omega, rfl, by go_num, by rw [HS2.out]; exact HBE1.out.below hall, HBW2.out.trans (hall.mono (by omega)), by have := hall.size; omega⟩, by simp [intOf]; omega⟩
          · have HL := Lib.hid hl
            have HS2 := Lib.hid (show f.bestC (k + 1) = some k by rw [HST.out, hl, HB2.out]; rfl)
            clear hl
            go_wp2_with (first | (go_at_call 112; refine (HREF.out k hk64 _ HBW.out).mono ?_; rintro e wR ⟨v', n0, rfl, hn0, hrow', hbR⟩; obtain ⟨a', c', rfl, hints'⟩ := own_ints hrow' rfl; have hzR := hbR.size; have e1 : w.heap.size < wR.heap.size := (by omega); have e2 : w2.heap.size < wR.heap.size := (by omega); have hcR : ∀ b o, b < wr.heap.size → wR.cell? ⟨b, o, none⟩ = wr.cell? ⟨b, o, none⟩ := (fun b o h => hbR.cell (p := ⟨b, o, none⟩) h); have hfR : ∀ b o, b < wr.heap.size → wR.frozen? ⟨b, o, none⟩ = wr.frozen? ⟨b, o, none⟩ := (fun b o h => hbR.frozen (p := ⟨b, o, none⟩) h); have HROW := Lib.hid hrow'; have HINT := Lib.hid hints'; have HBR := Lib.hid hbR; clear hrow' hints' hbR) | (go_at_call 113; refine (HCM.out a' _ c' (wR.alloc (.cells #[.slice a' (pickR k pl).length c', .int .i64 (f.payTo k pl)] 112)) (HINT.out.below (by repeat (first | exact Below.refl _ _ | (refine Below.alloc ?_ (by first | omega | (simp; omega) | simp) _) | (refine Below.setCell ?_ (by first | omega | (simp; omega) | simp) _) | refine Below.drew ?_))) (HBR.out.trans (((by repeat (first | exact Below.refl _ _ | (refine Below.alloc ?_ (by first | omega | (simp; omega) | simp) _) | (refine Below.setCell ?_ (by first | omega | (simp; omega) | simp) _) | refine Below.drew ?_)) : Below wR.heap.size wR (wR.alloc (.cells #[.slice a' (pickR k pl).length c', .int .i64 (f.payTo k pl)] 112))).mono HBR.out.size)) hpk).mono ?_; rintro e wC ⟨rfl, hbC⟩; have hzC := hbC.size; simp only [World.size_alloc] at hzC; have e3 : wR.heap.size < wC.heap.size := (by omega); have e4 : w2.heap.size < wC.heap.size := (by omega); have e5 : w.heap.size < wC.heap.size := (by omega); have hcC : ∀ b o, b < wR.heap.size + 1 → wC.cell? ⟨b, o, none⟩ = World.cell? (wR.alloc (.cells #[.slice a' (pickR k pl).length c', .int .i64 (f.payTo k pl)] 112)) ⟨b, o, none⟩ := (fun b o h => hbC.cell (p := ⟨b, o, none⟩) (by simp; omega)); have hfC : ∀ b o, b < wR.heap.size + 1 → wC.frozen? ⟨b, o, none⟩ = World.frozen? (wR.alloc (.cells #[.slice a' (pickR k pl).length c', .int .i64 (f.payTo k pl)] 112)) ⟨b, o, none⟩ := (fun b o h => hbC.frozen (p := ⟨b, o, none⟩) (by simp; omega)); have HBC := Lib.hid hbC; clear hbC) | (go_at_call 94; refine (HLK.out k hk64 true HL.out _ ?_).mono ?_; (· exact HBW.out.trans ((HBR.out.trans (((((by repeat (first | exact Below.refl _ _ | (refine Below.alloc ?_ (by first | omega | (simp; omega) | simp) _) | (refine Below.setCell ?_ (by first | omega | (simp; omega) | simp) _) | refine Below.drew ?_)) : Below wR.heap.size wR (wR.alloc (.cells #[.slice a' (pickR k pl).length c', .int .i64 (f.payTo k pl)] 112))).trans (HBC.out.mono (by simp))).mono HBR.out.size))).mono HBW.out.size)); rintro e wL ⟨rfl, hbL⟩; have hzL := hbL.size; have hcL : ∀ b o, b < wC.heap.size → wL.cell? ⟨b, o, none⟩ = World.cell? wC ⟨b, o, none⟩ := (fun b o h => hbL.cell (p := ⟨b, o, none⟩) (by first | exact h | (simp; omega))); have hfL : ∀ b o, b < wC.heap.size → wL.frozen? ⟨b, o, none⟩ = World.frozen? wC ⟨b, o, none⟩ := (fun b o h => hbL.frozen (p := ⟨b, o, none⟩) (by first | exact h | (simp; omega))); have HBL := Lib.hid hbL; clear hbL))
            have hallR : Below wR.heap.size wR wL := (((by repeat (first | exact Below.refl _ _ | (refine Below.alloc ?_ (by first | omega | (simp; omega) | simp) _) | (refine Below.setCell ?_ (by first | omega | (simp; omega) | simp) _) | refine Below.drew ?_)) : Below wR.heap.size wR (wR.alloc (.cells #[.slice a' (pickR k pl).length c', .int .i64 (f.payTo k pl)] 112))).trans (HBC.out.mono (by simp))).trans (HBL.out.mono (by omega))
            have hall := HBR.out.trans (hallR.mono HBR.out.size)
            have hrow := (own_base HROW.out (show W3.heap.size ≤ n0 by omega)).kept (grow_gb hallR none) (Classical.em _)
            have hput := BestR.put (k := k) (HBE1.out.below hall) (by rw [hpl]; exact hrow) (by omega)
            rw [hpl] at hput
            have hsz := hall.size
            refine ⟨⟨k + 1, true, by omega, rfl, by go_num, by rw [HS2.out]; exact hput, (HBW2.out.trans (hall.mono (by omega))).trans (((Below.refl w2.heap.size wL).setCell (p := ⟨w2.heap.size, 0, none⟩) (Nat.le_refl _) _).setCell (p := ⟨w2.heap.size, 1, none⟩) (Nat.le_refl _) _), by simp [World.setCell]; omega⟩, by simp [intOf]; omega⟩
        · have HS2 := Lib.hid (show f.bestC (k + 1) = f.bestC k by rw [HST.out, HBT.out]; simp [hz])
          go_wp2_with (first | (go_at_call 112; refine (HREF.out k hk64 _ HBW.out).mono ?_; rintro e wR ⟨v', n0, rfl, hn0, hrow', hbR⟩; obtain ⟨a', c', rfl, hints'⟩ := own_ints hrow' rfl; have hzR := hbR.size; have e1 : w.heap.size < wR.heap.size := (by omega); have e2 : w2.heap.size < wR.heap.size := (by omega); have hcR : ∀ b o, b < wr.heap.size → wR.cell? ⟨b, o, none⟩ = wr.cell? ⟨b, o, none⟩ := (fun b o h => hbR.cell (p := ⟨b, o, none⟩) h); have hfR : ∀ b o, b < wr.heap.size → wR.frozen? ⟨b, o, none⟩ = wr.frozen? ⟨b, o, none⟩ := (fun b o h => hbR.frozen (p := ⟨b, o, none⟩) h); have HROW := Lib.hid hrow'; have HINT := Lib.hid hints'; have HBR := Lib.hid hbR; clear hrow' hints' hbR) | (go_at_call 113; refine (HCM.out a' _ c' (wR.alloc (.cells #[.slice a' (pickR k pl).length c', .int .i64 (f.payTo k pl)] 112)) (HINT.out.below (by repeat (first | exact Below.refl _ _ | (refine Below.alloc ?_ (by first | omega | (simp; omega) | simp) _) | (refine Below.setCell ?_ (by first | omega | (simp; omega) | simp) _) | refine Below.drew ?_))) (HBR.out.trans (((by repeat (first | exact Below.refl _ _ | (refine Below.alloc ?_ (by first | omega | (simp; omega) | simp) _) | (refine Below.setCell ?_ (by first | omega | (simp; omega) | simp) _) | refine Below.drew ?_)) : Below wR.heap.size wR (wR.alloc (.cells #[.slice a' (pickR k pl).length c', .int .i64 (f.payTo k pl)] 112))).mono HBR.out.size)) hpk).mono ?_; rintro e wC ⟨rfl, hbC⟩; have hzC := hbC.size; simp only [World.size_alloc] at hzC; have e3 : wR.heap.size < wC.heap.size := (by omega); have e4 : w2.heap.size < wC.heap.size := (by omega); have e5 : w.heap.size < wC.heap.size := (by omega); have hcC : ∀ b o, b < wR.heap.size + 1 → wC.cell? ⟨b, o, none⟩ = World.cell? (wR.alloc (.cells #[.slice a' (pickR k pl).length c', .int .i64 (f.payTo k pl)] 112)) ⟨b, o, none⟩ := (fun b o h => hbC.cell (p := ⟨b, o, none⟩) (by simp; omega)); have hfC : ∀ b o, b < wR.heap.size + 1 → wC.frozen? ⟨b, o, none⟩ = World.frozen? (wR.alloc (.cells #[.slice a' (pickR k pl).length c', .int .i64 (f.payTo k pl)] 112)) ⟨b, o, none⟩ := (fun b o h => hbC.frozen (p := ⟨b, o, none⟩) (by simp; omega)); have HBC := Lib.hid hbC; clear hbC))
          have hallR : Below wR.heap.size wR wC := ((by repeat (first | exact Below.refl _ _ | (refine Below.alloc ?_ (by first | omega | (simp; omega) | simp) _) | (refine Below.setCell ?_ (by first | omega | (simp; omega) | simp) _) | refine Below.drew ?_)) : Below wR.heap.size wR (wR.alloc (.cells #[.slice a' (pickR k pl).length c', .int .i64 (f.payTo k pl)] 112))).trans (HBC.out.mono (by simp))
          have hall := HBR.out.trans (hallR.mono HBR.out.size)
          refine ⟨⟨k + 1, true, by omega, rfl, by go_num, by rw [HS2.out]; exact HBE1.out.below hall, HBW2.out.trans (hall.mono (by omega)), by have := hall.size; omega⟩, by simp [intOf]; omega⟩
    · obtain rfl : m = k := by omega
      have hmk : ¬ (m : Int) < (m : Int) := by omega
      have hrc : ∀ i, wr.cell? ⟨w.heap.size + 1, i, none⟩ = (#[.slice none 0 0, .int .i64 0] : Array Value)[i]? := fun i => (HBW2.out.cell (p := ⟨w.heap.size + 1, i, none⟩) (by show w.heap.size + 1 < _; omega)).trans (HRC.out i)
      have hrf : ∀ i, wr.frozen? ⟨w.heap.size + 1, i, none⟩ = false := fun i => (HBW2.out.frozen (p := ⟨w.heap.size + 1, i, none⟩) (by show w.heap.size + 1 < _; omega)).trans (HRF.out i)
      have t0 := hrc 0
      have t1 := hrc 1
      have tf0 := hrf 0
      have tf1 := hrf 1
      simp only [List.getElem?_toArray, List.getElem?_cons_zero, List.getElem?_cons_succ] at t0 t1
      clear hrc hrf
      have hwR : w.heap.size ≤ w.heap.size + 1 := by omega
      rcases hcase with ⟨hn0, rfl, rfl, s1⟩ | ⟨c0, hs0, rfl, s1, hrow0⟩
      · have HB4 := Lib.hid (HBW.out.trans (((Below.refl w.heap.size wr).setCell (p := ⟨w.heap.size + 1, 0, none⟩) hwR (.slice none 0 0)).setCell (p := ⟨w.heap.size + 1, 1, none⟩) hwR (.int .i64 0)))
        have hR : World.cell? ((wr.setCell ⟨w.heap.size + 1, 0, none⟩ (.slice none 0 0)).setCell ⟨w.heap.size + 1, 1, none⟩ (.int .i64 0)) ⟨w.heap.size + 1, 0, none⟩ = some (.slice none 0 0) := (set_cell' (by decide)).trans (set_cell t0)
        have hR2 : World.cell? ((wr.setCell ⟨w.heap.size + 1, 0, none⟩ (.slice none 0 0)).setCell ⟨w.heap.size + 1, 1, none⟩ (.int .i64 0)) ⟨w.heap.size + 1, 1, none⟩ = some (.int .i64 0) := set_cell ((set_cell' (by decide)).trans t1)
        have HP := Lib.hid (HFIN.out none true (.returned (.tuple #[.agg #[.slice none 0 0, .int .i64 0], .int .i64 3])) ((wr.setCell ⟨w.heap.size + 1, 0, none⟩ (.slice none 0 0)).setCell ⟨w.heap.size + 1, 1, none⟩ (.int .i64 0)) hn0 rfl trivial)
        clear hn0
        go_wp2_with fail
        refine bodyPost_ret (v := .tuple #[.agg #[.slice none 0 0, .int .i64 0], .int .i64 3]) ?_ rfl ⟨HP.out, HB4.out⟩
        simp [results, Try.results96, go_sem, hR, hR2]
      · obtain ⟨r1, r2, r3, rfl⟩ := own_slice hrow0
        rw [hpl] at s1 hrow0
        have HB4 := Lib.hid (HBW.out.trans (((Below.refl w.heap.size wr).setCell (p := ⟨w.heap.size + 1, 0, none⟩) hwR (.slice r1 r2 r3)).setCell (p := ⟨w.heap.size + 1, 1, none⟩) hwR (.int .i64 (f.payTo c0 pl))))
        have hR : World.cell? ((wr.setCell ⟨w.heap.size + 1, 0, none⟩ (.slice r1 r2 r3)).setCell ⟨w.heap.size + 1, 1, none⟩ (.int .i64 (f.payTo c0 pl))) ⟨w.heap.size + 1, 0, none⟩ = some (.slice r1 r2 r3) := (set_cell' (by decide)).trans (set_cell t0)
        have hR2 : World.cell? ((wr.setCell ⟨w.heap.size + 1, 0, none⟩ (.slice r1 r2 r3)).setCell ⟨w.heap.size + 1, 1, none⟩ (.int .i64 (f.payTo c0 pl))) ⟨w.heap.size + 1, 1, none⟩ = some (.int .i64 (f.payTo c0 pl)) := set_cell ((set_cell' (by decide)).trans t1)
        have hgs : wr.grownBy ((wr.setCell ⟨w.heap.size + 1, 0, none⟩ (.slice r1 r2 r3)).setCell ⟨w.heap.size + 1, 1, none⟩ (.int .i64 (f.payTo c0 pl))) (some (w.heap.size + 1)) := gbx_set (gbx_set (gbx_refl _ _) _ _) _ _
        have HP := Lib.hid (HFIN.out (some c0) true (.returned (.tuple #[.agg #[.slice r1 r2 r3, .int .i64 (f.payTo c0 pl)], .int .i64 0])) ((wr.setCell ⟨w.heap.size + 1, 0, none⟩ (.slice r1 r2 r3)).setCell ⟨w.heap.size + 1, 1, none⟩ (.int .i64 (f.payTo c0 pl))) hs0 ⟨_, W3.heap.size, by rw [hpl], by omega, by rw [hpl]; exact hrow0.kept hgs (.inr fun e => by have := own_low hrow0 _ e; omega)⟩ trivial)
        clear hs0 hrow0 hgs
        go_wp2_with fail
        refine bodyPost_ret (v := .tuple #[.agg #[.slice r1 r2 r3, .int .i64 (f.payTo c0 pl)], .int .i64 0]) ?_ rfl ⟨HP.out, HB4.out⟩
        simp [results, Try.results96, go_sem, hR, hR2]

set_option maxRecDepth 100000 in
set_option maxHeartbeats 4000000 in
theorem refuse_no (f : PFrame) (sa : Option Addr) (sl sc : Nat) (pa : Option Addr) (pl pc : Nat) (ca : Option Addr) (cl cc : Nat) (ho : f.ok = false) (w : World) (hp : PAt w sa sl sc pa pl pc ca cl cc f) :
    Calls Try.prog 96 #[.agg #[.int .i64 f.len, .int .i64 f.slack, .slice sa sl sc, .slice pa pl pc, .slice ca cl cc]] w fun e w' => RefusePost f w e w' ∧ Below w.heap.size w w' := by
  have HV := Lib.hid (fun W (hb : Below w.heap.size w W) => valid_is f sa sl sc pa pl pc ca cl cc false ho W (hp.below hb))
  have HP := Lib.hid (show ∀ W, RefusePost f w (.returned (.tuple #[.agg #[.slice none 0 0, .int .i64 0], .int .i64 30])) W from fun W => by unfold RefusePost; simp [ho])
  clear hp
  go_enter Try.func96, Try.ntmps96
  go_upto_region 1 with fail
  obtain ⟨W0, hW0, hB0, hs0, hr0, hz0⟩ := name2c w #[.int .i64 f.len, .int .i64 f.slack, .slice sa sl sc, .slice pa pl pc, .slice ca cl cc] 87 #[.slice none 0 0, .int .i64 0] 112
  have hfr0 : ∀ i, W0.frozen? ⟨w.heap.size + 1, i, none⟩ = false := by subst hW0; intro i; go_simp
  try rw [hW0]
  clear hW0
  obtain ⟨x0, x1, x2, x3, x4⟩ : W0.cell? ⟨w.heap.size, 0, none⟩ = some (.int .i64 f.len) ∧ W0.cell? ⟨w.heap.size, 1, none⟩ = some (.int .i64 f.slack) ∧ W0.cell? ⟨w.heap.size, 2, none⟩ = some (.slice sa sl sc) ∧ W0.cell? ⟨w.heap.size, 3, none⟩ = some (.slice pa pl pc) ∧ W0.cell? ⟨w.heap.size, 4, none⟩ = some (.slice ca cl cc) := ⟨hs0 0, hs0 1, hs0 2, hs0 3, hs0 4⟩
  have HB0 := Lib.hid hB0
  clear hs0
  go_upto_region 2 with (go_at_call 79; refine (HV.out _ hB0).mono ?_; rintro e w2 ⟨rfl, hb2⟩)
  have t0 := (hb2.cell (p := ⟨w.heap.size + 1, 0, none⟩) (by show w.heap.size + 1 < _; omega)).trans (hr0 0)
  have t1 := (hb2.cell (p := ⟨w.heap.size + 1, 1, none⟩) (by show w.heap.size + 1 < _; omega)).trans (hr0 1)
  have tf0 := (hb2.frozen (p := ⟨w.heap.size + 1, 0, none⟩) (by show w.heap.size + 1 < _; omega)).trans (hfr0 0)
  have tf1 := (hb2.frozen (p := ⟨w.heap.size + 1, 1, none⟩) (by show w.heap.size + 1 < _; omega)).trans (hfr0 1)
  simp only [List.getElem?_toArray, List.getElem?_cons_zero, List.getElem?_cons_succ] at t0 t1
  have hwR : w.heap.size ≤ w.heap.size + 1 := by omega
  have HB4 := Lib.hid ((HB0.out.trans (hb2.mono HB0.out.size)).trans (((Below.refl w.heap.size w2).setCell (p := ⟨w.heap.size + 1, 0, none⟩) hwR (.slice none 0 0)).setCell (p := ⟨w.heap.size + 1, 1, none⟩) hwR (.int .i64 0)))
  have hR : World.cell? ((w2.setCell ⟨w.heap.size + 1, 0, none⟩ (.slice none 0 0)).setCell ⟨w.heap.size + 1, 1, none⟩ (.int .i64 0)) ⟨w.heap.size + 1, 0, none⟩ = some (.slice none 0 0) := (set_cell' (by decide)).trans (set_cell t0)
  have hR2 : World.cell? ((w2.setCell ⟨w.heap.size + 1, 0, none⟩ (.slice none 0 0)).setCell ⟨w.heap.size + 1, 1, none⟩ (.int .i64 0)) ⟨w.heap.size + 1, 1, none⟩ = some (.int .i64 0) := set_cell ((set_cell' (by decide)).trans t1)
  clear hr0 hfr0 x0 x1 x2 x3 x4
  go_wp2_with fail
  refine bodyPost_ret (v := .tuple #[.agg #[.slice none 0 0, .int .i64 0], .int .i64 30]) ?_ rfl ⟨HP.out _, HB4.out⟩
  simp [results, Try.results96, go_sem, hR, hR2]
end Go.Proofs.Ytcklhojeneejiaa

/- Package pages: Refuse, Lost. -/
namespace Go.Proofs.Ytcklhojeneejiaa
set_option linter.unusedVariables false
set_option linter.unusedSimpArgs false
open Go.RowKit Go.Shelf

/-- The best choice of pieces that are left out. -/
def PFrame.out (f : PFrame) : Option Nat := if f.ok then f.bestC (2 ^ f.pieces.length) else none
def PFrame.outErr (f : PFrame) : Int := match f.out with | none => if f.ok then 3 else 30 | some _ => 0
def PFrame.outL (f : PFrame) : List Int := match f.out with | none => [] | some c => pickR c f.pieces.length
def PFrame.outP (f : PFrame) : Int := match f.out with | none => 0 | some c => f.payTo c f.pieces.length
theorem refuse_any (f : PFrame) (sa : Option Addr) (sl sc : Nat) (pa : Option Addr) (pl pc : Nat) (ca : Option Addr) (cl cc : Nat) (w : World) (hp : PAt w sa sl sc pa pl pc ca cl cc f) :
    Calls Try.prog 96 #[.agg #[.int .i64 f.len, .int .i64 f.slack, .slice sa sl sc, .slice pa pl pc, .slice ca cl cc]] w fun e w' => ∃ a len c, e = .returned (.tuple #[.agg #[.slice a len c, .int .i64 f.outP], .int .i64 f.outErr]) ∧ IntsAt w' a len f.outL ∧ Below w.heap.size w w' := by
  have h : Calls Try.prog 96 #[.agg #[.int .i64 f.len, .int .i64 f.slack, .slice sa sl sc, .slice pa pl pc, .slice ca cl cc]] w fun e w' => RefusePost f w e w' ∧ Below w.heap.size w w' := by
    cases ho : f.ok
    · exact refuse_no f sa sl sc pa pl pc ca cl cc ho w hp
    · exact refuse_yes f sa sl sc pa pl pc ca cl cc ho w hp
  refine h.mono ?_
  rintro e w' ⟨h1, h2⟩
  unfold RefusePost at h1
  unfold PFrame.outP PFrame.outErr PFrame.outL
  rw [show (if f.ok then f.bestC (2 ^ f.pieces.length) else none) = f.out from rfl] at h1
  cases hb : f.out with
  | none => rw [hb] at h1; exact ⟨none, 0, 0, h1, ⟨rfl, by unfold maxLen; omega, fun h => absurd h (by omega)⟩, h2⟩
  | some c =>
    rw [hb] at h1
    obtain ⟨v, n0, rfl, -, hrow⟩ := h1
    obtain ⟨a, cc, rfl, hi⟩ := own_ints hrow rfl
    exact ⟨a, _, cc, rfl, hi, h2⟩

set_option maxRecDepth 100000 in
set_option maxHeartbeats 4000000 in
theorem Refuse_any (f : PFrame) (sa : Option Addr) (sl sc : Nat) (pa : Option Addr) (pl pc : Nat) (ca : Option Addr) (cl cc : Nat) (w : World) (hp : PAt w sa sl sc pa pl pc ca cl cc f) :
    Calls Try.prog 38 #[.agg #[.int .i64 f.len, .int .i64 f.slack, .slice sa sl sc, .slice pa pl pc, .slice ca cl cc]] w fun e w' => ∃ a len c, e = .returned (.tuple #[.slice a len c, .int .i64 f.outErr]) ∧ IntsAt w' a len f.outL ∧ Below w.heap.size w w' := by
  have HF := Lib.hid (fun W (hb : Below w.heap.size w W) => refuse_any f sa sl sc pa pl pc ca cl cc W (hp.below hb))
  clear hp
  generalize f.outErr = r at *
  generalize f.outP = p at *
  go_enter Try.func38, Try.ntmps38
  go_wp2_with fail
  refine (HF.out _ (by repeat (first | exact Below.refl _ _ | (refine Below.alloc ?_ (by first | omega | (simp; omega) | simp) _) | (refine Below.setCell ?_ (by first | omega | (simp; omega) | simp) _) | refine Below.drew ?_))).mono ?_
  rintro e w2 ⟨a, len, c, rfl, hi, hb⟩
  have HI := Lib.hid hi
  clear hi
  go_wp2_with fail
  go_ret2
  have hb' : Below w.heap.size w w2 := ((by repeat (first | exact Below.refl _ _ | (refine Below.alloc ?_ (by first | omega | (simp; omega) | simp) _) | (refine Below.setCell ?_ (by first | omega | (simp; omega) | simp) _) | refine Below.drew ?_)) : Below w.heap.size w _).trans (hb.mono (by simp))
  exact ⟨_, _, _, rfl, HI.out.below (by repeat (first | exact Below.refl _ _ | (refine Below.alloc ?_ (by first | omega | (simp; omega) | simp) _) | (refine Below.setCell ?_ (by first | omega | (simp; omega) | simp) _) | refine Below.drew ?_)), hb'.alloc hb'.size _⟩
set_option maxRecDepth 100000 in
set_option maxHeartbeats 4000000 in
theorem Lost_any (f : PFrame) (sa : Option Addr) (sl sc : Nat) (pa : Option Addr) (pl pc : Nat) (ca : Option Addr) (cl cc : Nat) (w : World) (hp : PAt w sa sl sc pa pl pc ca cl cc f) :
    Calls Try.prog 40 #[.agg #[.int .i64 f.len, .int .i64 f.slack, .slice sa sl sc, .slice pa pl pc, .slice ca cl cc]] w fun e w' => e = .returned (.tuple #[.int .i64 f.outP, .int .i64 f.outErr]) ∧ Below w.heap.size w w' := by
  have HF := Lib.hid (fun W (hb : Below w.heap.size w W) => refuse_any f sa sl sc pa pl pc ca cl cc W (hp.below hb))
  clear hp
  generalize f.outErr = r at *
  generalize f.outP = p at *
  go_enter Try.func40, Try.ntmps40
  go_wp2_with fail
  refine (HF.out _ (by repeat (first | exact Below.refl _ _ | (refine Below.alloc ?_ (by first | omega | (simp; omega) | simp) _) | (refine Below.setCell ?_ (by first | omega | (simp; omega) | simp) _) | refine Below.drew ?_))).mono ?_
  rintro e w2 ⟨a, len, c, rfl, hi, hb⟩
  clear hi
  go_wp2_with fail
  go_ret2
  have hb' : Below w.heap.size w w2 := ((by repeat (first | exact Below.refl _ _ | (refine Below.alloc ?_ (by first | omega | (simp; omega) | simp) _) | (refine Below.setCell ?_ (by first | omega | (simp; omega) | simp) _) | refine Below.drew ?_)) : Below w.heap.size w _).trans (hb.mono (by simp))
  exact ⟨rfl, hb'.alloc hb'.size _⟩
end Go.Proofs.Ytcklhojeneejiaa
