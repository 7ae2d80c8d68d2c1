/- All additions, one behind the other. -/
import Derived.Test.YtajabapcmpmboaaQ
import Derived.Test.YtajabapcmpmboaaP
import Derived.Deep.OwnRows
import Derived.Sort.LoopGhostIn
namespace Go.Proofs.Ytajabapcmpmboaa
set_option linter.unusedVariables false
set_option linter.unusedSimpArgs false
open Go.RowKit Go.Shelf

attribute [local go_sem] Oper.semAt_some

theorem allL_few : ∀ (ms x : List Int), x ∈ allL ms → ∀ (k : Nat) (h : k < ms.length) (h' : k < x.length), 0 ≤ x[k] ∧ (0 ≤ ms[k] → x[k] ≤ ms[k])
  | [], x, _, k, h, _ => by simp at h
  | m :: ms, x, hx, k, h, h' => by
    simp only [allL, List.mem_flatMap, List.mem_map, List.mem_range] at hx
    obtain ⟨n, hn, y, hy, rfl⟩ := hx
    cases k with
    | zero => simp only [List.getElem_cons_zero]; omega
    | succ k => simpa using allL_few ms y hy k (by simpa using h) (by simpa using h')
theorem Shop.ok_pig {s : Shop} (ho : s.ok = true) (k : Nat) (h : k < s.pigs.length) : (s.pigs[k]).ok = true := by
  simp only [Shop.ok, Bool.and_eq_true] at ho
  exact List.all_eq_true.1 ho.2 _ (List.getElem_mem h)
theorem Shop.few_all {s : Shop} (ho : s.ok = true) {x : List Int} (hx : x ∈ allL s.most) : Few s.pigs x := by
  intro k h h'
  have hk := Shop.ok_pig ho k h
  have hb := Pig.ok_bd hk
  have := allL_few s.most x hx k (by simpa [Shop.most] using h) h'
  simp only [Shop.most, List.getElem_map] at this
  exact ⟨hk, this.1, this.2 (by omega)⟩
theorem ints_of_holds {w : World} {b : Nat} {x : List Int} (h : Holds w b x) (hm : x.length ≤ maxLen) : IntsAt w (some ⟨b, 0, none⟩) x.length x :=
  ⟨rfl, hm, fun _ => ⟨b, 0, rfl, h.1, fun i hi => by rw [Nat.zero_add]; exact h.2.1 i hi⟩⟩

theorem next_no {ms ns : List Int} {w w' : World} {b : Nat} {e : Ending} (h : NextPost ms ns w b e w') (hn : nextL ms ns = none) : e = .returned (.bool false) ∧ w.grownBy w' (some b) := by
  obtain ⟨ys, _, h1 | h1, hg, _⟩ := h
  · rw [hn] at h1; cases h1.1
  · exact ⟨h1.2, hg⟩
theorem next_yes {ms ns ys : List Int} {w w' : World} {b : Nat} {e : Ending} (h : NextPost ms ns w b e w') (hn : nextL ms ns = some ys) : e = .returned (.bool true) ∧ w.grownBy w' (some b) ∧ Holds w' b ys := by
  obtain ⟨zs, _, h1 | h1, hg, hh⟩ := h
  · rw [hn] at h1; cases h1.1; exact ⟨h1.2, hg, hh⟩
  · rw [hn] at h1; cases h1.1
theorem gb_below {w w' : World} (h : Below w.heap.size w w') (b : Nat) : w.grownBy w' (some b) := ⟨h.os, h.tape, h.output, h.size, fun k hk _ => h.block k hk⟩
theorem Holds.below {w w' : World} {b : Nat} {x : List Int} (h : Holds w b x) (hb : Below w.heap.size w w') : Holds w' b x :=
  ⟨Nat.lt_of_lt_of_le h.1 hb.size, fun i hi => (hb.cell (p := ⟨b, i, none⟩) h.1).trans (h.2.1 i hi), fun i => (hb.frozen (p := ⟨b, i, none⟩) h.1).trans (h.2.2 i)⟩
/-- Where the loop over all lists stands. -/
def AddRel (s : Shop) (J : Nat → List (List Int) → World → Prop) (b : Nat) (k : Nat) (v : Value) (w : World) : Prop :=
  (v = .bool true ∧ ∃ (A : List (List Int)) (x : List Int) (B : List (List Int)), allL s.most = A ++ x :: B ∧ Follows (nextL s.most) x B ∧ B.length + 1 = k ∧ Holds w b x ∧ J b (A.filter s.room?) w) ∨
  (v = .bool false ∧ J b ((allL s.most).filter s.room?) w)

set_option maxRecDepth 100000 in
theorem pre_snoc {l A B : List (List Int)} {x : List Int} {p : List Int → Bool} (h : l = A ++ x :: B) (hp : p x = true) : (A.filter p ++ [x]) <+: l.filter p := by
  rw [h, List.filter_append, List.filter_cons, if_pos hp]
  exact ⟨B.filter p, by simp⟩
set_option maxHeartbeats 4000000 in
theorem additions1_wide (n : Nat) (hn : 2 ≤ n) (l Bs : Nat) (s : Shop) (a : Option Addr) (len cap : Nat) (ho : s.ok = true) (hl : s.pigs.length = len) (J : Nat → List (List Int) → World → Prop)
    (hS : ∀ b pre W, J b pre W → (∀ i, W.cell? ⟨Bs, i, none⟩ = (#[.int .i64 s.P, .int .i64 s.tl, .int .i64 s.th, .int .i64 s.al, .int .i64 s.ah, .int .i64 s.room, .int .i64 s.xl, .int .i64 s.xh, .int .i64 s.yl, .int .i64 s.yh, .slice a len cap] : Array Value)[i]?) ∧ PigsAt W a len s.pigs ∧ (0 < len → ∀ pb po, a = some ⟨pb, po, none⟩ → pb ≠ b))
    (hJ : ∀ b pre W W', J b pre W → W.grownBy W' (some b) → J b pre W')
    (hY : ∀ b pre x W, J b pre W → Holds W b x → x.length = len → x ∈ allL s.most → s.room? x = true → (pre ++ [x]) <+: (allL s.most).filter s.room? → YieldAt Fence.wide (n - 1) Try.prog l #[.slice (some ⟨b, 0, none⟩) len len] W fun e W' => e = .returned (.bool true) ∧ J b (pre ++ [x]) W' ∧ Holds W' b x)
    (W : World) (h0 : ∀ W' b, Below W.heap.size W W' → W.heap.size ≤ b → J b [] W') (hbox : ∀ i, W.cell? ⟨Bs, i, none⟩ = (#[.int .i64 s.P, .int .i64 s.tl, .int .i64 s.th, .int .i64 s.al, .int .i64 s.ah, .int .i64 s.room, .int .i64 s.xl, .int .i64 s.xh, .int .i64 s.yl, .int .i64 s.yh, .slice a len cap] : Array Value)[i]?) :
    CallsIn Fence.wide n Try.prog 112 #[.func (.yield l) #[] #[], .pointer (some ⟨Bs, 0, none⟩)] W fun e W' => (∃ v, e = .returned v) ∧ ∃ b, J b ((allL s.most).filter s.room?) W' := by
  have hbd := Shop.ok_bd ho
  have hl4 : len ≤ 4 := by omega
  have hms : s.most.length = len := by simp [Shop.most, hl]
  obtain ⟨r, hr, hfo⟩ := allL_follows s.most fun m hm => by
    simp only [Shop.most, List.mem_map] at hm
    obtain ⟨p, hp, rfl⟩ := hm
    obtain ⟨k, hk, rfl⟩ := List.getElem_of_mem hp
    have := Pig.ok_bd (Shop.ok_pig ho k hk); omega
  rw [hms] at hr hfo
  have hlen : ∀ x ∈ allL s.most, x.length = len := fun x hx => by rw [allL_len _ _ hx, hms]
  have hmk := fun W1 => run_make_row' (P := Try.prog) 29 3 (.int .i64 0) 8 Try.underlying29 Try.info3 rfl .i64 .i64 len (by omega) (by omega) W1
  have HH := Lib.hid (fun (x : List Int) (hx : x ∈ allL s.most) (b : Nat) (W1 : World) (hp : PigsAt W1 a len s.pigs) (hb : Holds W1 b x) => hasRoom_any s a cap (some ⟨b, 0, none⟩) len len x W1 hp (by have := ints_of_holds hb (by rw [hlen x hx]; unfold maxLen; omega); rwa [hlen x hx] at this) hl4 (Shop.few_all ho hx) hbd.1)
  have HN := Lib.hid (fun (x : List Int) (hx : x ∈ allL s.most) (b : Nat) (W1 : World) (hp : PigsAt W1 a len s.pigs) (hb : Holds W1 b x) (ha : 0 < len → ∀ pb po, a = some ⟨pb, po, none⟩ → pb ≠ b) => next_any s a len cap b x W1 hp hb (hlen x hx) ha (Shop.few_all ho hx))
  have HR := Lib.hid hr
  have HF := Lib.hid hfo
  have HLEN := Lib.hid hlen
  have HS := Lib.hid hS
  have HJ := Lib.hid hJ
  have HY := Lib.hid hY
  have H0 := Lib.hid h0
  clear hbd hms hr hfo hlen hS hJ hY h0 hl
  refine callsIn_of_wp Try.func112 rfl trivial ?_ rfl
  simp only [Try.ntmps112, List.size_toArray, List.length_cons, List.length_nil, Nat.reduceAdd, Nat.reduceSub, Array.replicate_succ, Array.replicate_zero, List.push_toArray, List.append_toArray, List.nil_append, List.cons_append]
  gi_wp2
  gi_loopg [4] (allL s.most).length (fun k v4 wr => AddRel s J W.heap.size k v4 wr)
  case atStart =>
    refine .inl ⟨rfl, [], _, r, HR.out, HF.out, by rw [HR.out]; rfl, ⟨by simp, fun i h => ?_, fun i => by simp⟩, H0.out _ _ ((Below.refl _ _).alloc (Nat.le_refl _) _) (Nat.le_refl _)⟩
    have hi : i < len := by simpa using h
    rw [World.cell?_alloc_new]
    simp [madeCells, hi, Nat.mod_one]
  case round =>
    rcases hrel with ⟨rfl, A, x, B, hall, hfol, hk, hHo, hJw⟩ | ⟨rfl, hJw⟩
    · obtain ⟨hbx, hpg, hne⟩ := HS.out _ _ _ hJw
      have hx : x ∈ allL s.most := by rw [hall]; simp
      have HALL := Lib.hid hall
      have HK := Lib.hid hk
      clear hall hk
      rcases hrm : s.room? x with - | -
      · have HRM := Lib.hid hrm; clear hrm
        cases B with
        | nil =>
          have HNX := Lib.hid (show nextL s.most x = none from hfol)
          clear hfol
          gi_wp2_with (refine ⟨trivial, fun _ => (by omega), ?_⟩; gi_at_call 111; refine (callsIn_wide.2 (HH.out x hx W.heap.size _ hpg hHo)).mono ?_; rintro e w2 ⟨rfl, hb2⟩; rw [HRM.out]; have hg2 := gb_below hb2 W.heap.size; have hJ2 := HJ.out _ _ _ _ hJw hg2; have hH2 := hHo.below hb2; obtain ⟨hbx2, hpg2, -⟩ := HS.out _ _ _ hJ2; skip)
          refine ⟨fun _ h => (by cases h), ?_⟩
          gi_wp2_with (refine ⟨trivial, fun _ => (by omega), ?_⟩; gi_at_call 113; refine (callsIn_wide.2 (HN.out x hx W.heap.size _ hpg2 hH2 hne)).mono ?_; intro e w4 hnp; obtain ⟨rfl, hg4⟩ := next_no hnp HNX.out)
          have hJ4 := HJ.out _ _ _ _ hJ2 hg4
          gi_roundg 0
          case measure => have := HK.out; simp at this; omega
          case rel => exact .inr ⟨rfl, by rw [HALL.out, List.filter_append]; simpa [HRM.out] using hJ4⟩
        | cons y B =>
          have HNX := Lib.hid hfol.1
          have HFOL := Lib.hid hfol.2
          clear hfol
          gi_wp2_with (refine ⟨trivial, fun _ => (by omega), ?_⟩; gi_at_call 111; refine (callsIn_wide.2 (HH.out x hx W.heap.size _ hpg hHo)).mono ?_; rintro e w2 ⟨rfl, hb2⟩; rw [HRM.out]; have hg2 := gb_below hb2 W.heap.size; have hJ2 := HJ.out _ _ _ _ hJw hg2; have hH2 := hHo.below hb2; obtain ⟨hbx2, hpg2, -⟩ := HS.out _ _ _ hJ2; skip)
          refine ⟨fun _ h => (by cases h), ?_⟩
          gi_wp2_with (refine ⟨trivial, fun _ => (by omega), ?_⟩; gi_at_call 113; refine (callsIn_wide.2 (HN.out x hx W.heap.size _ hpg2 hH2 hne)).mono ?_; intro e w4 hnp; obtain ⟨rfl, hg4, hH4⟩ := next_yes hnp HNX.out)
          have hJ4 := HJ.out _ _ _ _ hJ2 hg4
          gi_roundg (B.length + 1)
          case measure => have := HK.out; simp at this; omega
          case rel => exact .inl ⟨rfl, A ++ [x], y, B, by rw [HALL.out]; simp, HFOL.out, rfl, hH4, by rw [List.filter_append]; simpa [HRM.out] using hJ4⟩
      · have HRM := Lib.hid hrm; clear hrm
        cases B with
        | nil =>
          have HNX := Lib.hid (show nextL s.most x = none from hfol)
          clear hfol
          gi_wp2_with (refine ⟨trivial, fun _ => (by omega), ?_⟩; gi_at_call 111; refine (callsIn_wide.2 (HH.out x hx W.heap.size _ hpg hHo)).mono ?_; rintro e w2 ⟨rfl, hb2⟩; rw [HRM.out]; have hg2 := gb_below hb2 W.heap.size; have hJ2 := HJ.out _ _ _ _ hJw hg2; have hH2 := hHo.below hb2; obtain ⟨hbx2, hpg2, -⟩ := HS.out _ _ _ hJ2; obtain ⟨fn, tmps, assign, body, hy, hR⟩ := HY.out _ _ x w2 hJ2 hH2 (HLEN.out x hx) hx HRM.out (pre_snoc HALL.out HRM.out))
          refine ⟨fun _ => by omega, hR.mono ?_⟩
          rintro e w3 ⟨rfl, hJ3, hH3⟩
          obtain ⟨hbx3, hpg3, -⟩ := HS.out _ _ _ hJ3
          gi_wp2_with (refine ⟨trivial, fun _ => (by omega), ?_⟩; gi_at_call 113; refine (callsIn_wide.2 (HN.out x hx W.heap.size _ hpg3 hH3 hne)).mono ?_; intro e w4 hnp; obtain ⟨rfl, hg4⟩ := next_no hnp HNX.out)
          have hJ4 := HJ.out _ _ _ _ hJ3 hg4
          gi_roundg 0
          case measure => have := HK.out; simp at this; omega
          case rel => exact .inr ⟨rfl, by rw [HALL.out, List.filter_append]; simpa [HRM.out] using hJ4⟩
        | cons y B =>
          have HNX := Lib.hid hfol.1
          have HFOL := Lib.hid hfol.2
          clear hfol
          gi_wp2_with (refine ⟨trivial, fun _ => (by omega), ?_⟩; gi_at_call 111; refine (callsIn_wide.2 (HH.out x hx W.heap.size _ hpg hHo)).mono ?_; rintro e w2 ⟨rfl, hb2⟩; rw [HRM.out]; have hg2 := gb_below hb2 W.heap.size; have hJ2 := HJ.out _ _ _ _ hJw hg2; have hH2 := hHo.below hb2; obtain ⟨hbx2, hpg2, -⟩ := HS.out _ _ _ hJ2; obtain ⟨fn, tmps, assign, body, hy, hR⟩ := HY.out _ _ x w2 hJ2 hH2 (HLEN.out x hx) hx HRM.out (pre_snoc HALL.out HRM.out))
          refine ⟨fun _ => by omega, hR.mono ?_⟩
          rintro e w3 ⟨rfl, hJ3, hH3⟩
          obtain ⟨hbx3, hpg3, -⟩ := HS.out _ _ _ hJ3
          gi_wp2_with (refine ⟨trivial, fun _ => (by omega), ?_⟩; gi_at_call 113; refine (callsIn_wide.2 (HN.out x hx W.heap.size _ hpg3 hH3 hne)).mono ?_; intro e w4 hnp; obtain ⟨rfl, hg4, hH4⟩ := next_yes hnp HNX.out)
          have hJ4 := HJ.out _ _ _ _ hJ3 hg4
          gi_roundg (B.length + 1)
          case measure => have := HK.out; simp at this; omega
          case rel => exact .inl ⟨rfl, A ++ [x], y, B, by rw [HALL.out]; simp, HFOL.out, rfl, hH4, by rw [List.filter_append]; simpa [HRM.out] using hJ4⟩
    · gi_wp2
      go_end0
      exact ⟨⟨_, rfl⟩, _, hJw⟩
end Go.Proofs.Ytajabapcmpmboaa
