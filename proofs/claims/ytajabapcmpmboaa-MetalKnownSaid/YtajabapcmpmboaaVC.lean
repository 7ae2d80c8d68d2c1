/- The safe addition of which what is asked is the least, at Cheap. -/
import Derived.Test.YtajabapcmpmboaaT
namespace Go.Proofs.Ytajabapcmpmboaa
set_option linter.unusedVariables false
set_option linter.unusedSimpArgs false
open Go.RowKit Go.Shelf

attribute [local go_sem] Oper.semAt_some

set_option maxRecDepth 100000 in
set_option maxHeartbeats 4000000 in
theorem safest_Cheap (s : Shop) (a : Option Addr) (len cap Wb : Nat) (w : World) (hbx : ∀ i, w.cell? ⟨Wb, i, none⟩ = (#[.int .i64 s.P, .int .i64 s.tl, .int .i64 s.th, .int .i64 s.al, .int .i64 s.ah, .int .i64 s.room, .int .i64 s.xl, .int .i64 s.xh, .int .i64 s.yl, .int .i64 s.yh, .slice a len cap] : Array Value)[i]?) (hp : PigsAt w a len s.pigs) (ho : s.ok = true) :
    Calls Try.prog 82 #[.agg #[.int .i64 s.P, .int .i64 s.tl, .int .i64 s.th, .int .i64 s.al, .int .i64 s.ah, .int .i64 s.room, .int .i64 s.xl, .int .i64 s.xh, .int .i64 s.yl, .int .i64 s.yh, .slice a len cap], .func (.func 83) #[] #[.pointer (some ⟨Wb, 0, none⟩)]] w fun e w' => SafestPost s (askF 0 s) len w e w' := by
  have hWb : Wb < w.heap.size := World.block_lt_of_cell? w _ (hbx 0)
  have hpl := hp.1
  have hl4 : len ≤ 4 := by have := Shop.ok_bd ho; omega
  have HV := Lib.hid (fun w1 (hb : Below w.heap.size w w1) => valid_is s a len cap true ho w1 (hp.below hb))
  refine (callsIn_wide (n := 12)).1 ?_
  refine callsIn_of_wp_marks Try.func82 rfl trivial ?_ rfl
  simp only [Try.ntmps82, List.size_toArray, List.length_cons, List.length_nil, Nat.reduceAdd, Nat.reduceSub, Array.replicate_succ, Array.replicate_zero, List.push_toArray, List.append_toArray, List.nil_append, List.cons_append]
  gi_wp2_with (refine ⟨trivial, ?_⟩; gi_at_call 71; refine (callsIn_wide.2 (HV.out _ (by repeat (first | exact Below.refl _ _ | (refine Below.alloc ?_ (by first | omega | (simp; omega) | simp) _) | (refine Below.setCell ?_ (by first | omega | (simp; omega) | simp) _) | refine Below.drew ?_)))).mono ?_; rintro e w1 ⟨rfl, hb1⟩; obtain ⟨hc1, hf1⟩ := bcell hb1; have hz1 := hb1.size; simp at hz1; have hbw : Below w.heap.size w w1 := (((by repeat (first | exact Below.refl _ _ | (refine Below.alloc ?_ (by first | omega | (simp; omega) | simp) _) | (refine Below.setCell ?_ (by first | omega | (simp; omega) | simp) _) | refine Below.drew ?_)) : Below w.heap.size w _).trans (hb1.mono (by simp; omega))); have q1 : w.heap.size < w1.heap.size := (by omega); have q2 : w.heap.size + 1 < w1.heap.size := (by omega); have r1 : w.heap.size < w1.heap.size + 1 := (by omega); have r2 : w.heap.size < w1.heap.size + 1 + 1 := (by omega); have r3 : w.heap.size < w1.heap.size + 1 + 1 + 1 := (by omega); clear hb1)
  gi_wp2_with (refine ⟨trivial, ?_⟩; gi_at_call 106; refine (additions_in _ s a len cap _).mono ?_; rintro e w2 ⟨rfl, rfl⟩)
  obtain ⟨Wl, hWl⟩ : ∃ Wl, (((w1.alloc (.cells #[.slice none 0 0] 29)).alloc (.cells #[.int .i64 0] 3)).alloc (.cells #[.bool false] 4)).alloc (.cells #[.int .i64 s.P, .int .i64 s.tl, .int .i64 s.th, .int .i64 s.al, .int .i64 s.ah, .int .i64 s.room, .int .i64 s.xl, .int .i64 s.xh, .int .i64 s.yl, .int .i64 s.yh, .slice a len cap] 78) = Wl := ⟨_, rfl⟩
  have hzl : Wl.heap.size = w1.heap.size + 4 := by rw [← hWl]; simp
  have hB1 : Below w1.heap.size w1 Wl := by rw [← hWl]; exact (by repeat (first | exact Below.refl _ _ | (refine Below.alloc ?_ (by first | omega | (simp; omega) | simp) _) | (refine Below.setCell ?_ (by first | omega | (simp; omega) | simp) _) | refine Below.drew ?_))
  have b7 : Boxed Wl w1.heap.size 29 (.slice none 0 0) := by rw [← hWl]; exact ((Boxed.new w1 _ _).alloc _).alloc _ |>.alloc _
  have b8 : Boxed Wl (w1.heap.size + 1) 3 (.int .i64 0) := by
    rw [← hWl]; have h := Boxed.new (w1.alloc (.cells #[.slice none 0 0] 29)) 3 (.int .i64 0); rw [World.size_alloc] at h; exact (h.alloc _).alloc _
  have b9 : Boxed Wl (w1.heap.size + 2) 4 (.bool false) := by
    rw [← hWl]; have h := Boxed.new ((w1.alloc (.cells #[.slice none 0 0] 29)).alloc (.cells #[.int .i64 0] 3)) 4 (.bool false); simp only [World.size_alloc] at h; exact h.alloc _
  have hcl : ∀ i, Wl.cell? ⟨w1.heap.size + 3, i, none⟩ = (#[.int .i64 s.P, .int .i64 s.tl, .int .i64 s.th, .int .i64 s.al, .int .i64 s.ah, .int .i64 s.room, .int .i64 s.xl, .int .i64 s.xh, .int .i64 s.yl, .int .i64 s.yh, .slice a len cap] : Array Value)[i]? := fun i => by rw [← hWl]; exact new4 _ _ _ _ _ _ i
  have hsl : ∀ i, Wl.cell? ⟨w.heap.size, i, none⟩ = (#[.int .i64 s.P, .int .i64 s.tl, .int .i64 s.th, .int .i64 s.al, .int .i64 s.ah, .int .i64 s.room, .int .i64 s.xl, .int .i64 s.xh, .int .i64 s.yl, .int .i64 s.yh, .slice a len cap] : Array Value)[i]? := fun i => by
    rw [hB1.cell (p := ⟨w.heap.size, i, none⟩) q1, hc1 _ _ (by simp; omega)]; go_simp
  have hfl : Wl.cell? ⟨w.heap.size + 1, 0, none⟩ = some (.func (.func 83) #[] #[.pointer (some ⟨Wb, 0, none⟩)]) := by
    rw [hB1.cell (p := ⟨w.heap.size + 1, 0, none⟩) q2, hc1 _ _ (by simp)]; go_simp
  have hBw : Below w.heap.size w Wl := hbw.trans (hB1.mono hbw.size)
  have hwl : ∀ i, Wl.cell? ⟨Wb, i, none⟩ = (#[.int .i64 s.P, .int .i64 s.tl, .int .i64 s.th, .int .i64 s.al, .int .i64 s.ah, .int .i64 s.room, .int .i64 s.xl, .int .i64 s.xh, .int .i64 s.yl, .int .i64 s.yh, .slice a len cap] : Array Value)[i]? := fun i => (hBw.cell (p := ⟨Wb, i, none⟩) hWb).trans (hbx i)
  have hpgl := hp.below hBw
  have hpb : 0 < len → ∀ pb po, a = some ⟨pb, po, none⟩ → pb < w.heap.size := fun h0 pb po e => by
    obtain ⟨b', o', e', hb', _⟩ := hp.2.2 h0; rw [e] at e'; cases e'; exact hb'
  rw [hWl]
  clear hWl hc1 hf1 hp hbx hbw HV r1 r2 r3
  refine wpIn_rangeAdds (n := 12) (by omega) (w1.heap.size + 3) s a len cap rfl rfl ho hpl
    (fun b pre W => BestIs s (askF 0 s) len w1.heap.size w.heap.size b pre W ∧ But3 w1.heap.size Wl W ∧ Wl.heap.size ≤ b)
    ?hI ?hS ?h0 (fun y => { tmps := #[.agg #[.int .i64 s.P, .int .i64 s.tl, .int .i64 s.th, .int .i64 s.al, .int .i64 s.ah, .int .i64 s.room, .int .i64 s.xl, .int .i64 s.xh, .int .i64 s.yl, .int .i64 s.yh, .slice a len cap], .func (.func 83) #[] #[.pointer (some ⟨Wb, 0, none⟩)], .pointer (some ⟨w.heap.size, 0, none⟩), .pointer (some ⟨w.heap.size + 1, 0, none⟩), .slice none 0 0, .int .i64 0, .int .i64 0, .pointer (some ⟨w1.heap.size, 0, none⟩), .pointer (some ⟨w1.heap.size + 1, 0, none⟩), .pointer (some ⟨w1.heap.size + 1 + 1, 0, none⟩), y, undef, .agg #[.int .i64 s.P, .int .i64 s.tl, .int .i64 s.th, .int .i64 s.al, .int .i64 s.ah, .int .i64 s.room, .int .i64 s.xl, .int .i64 s.xh, .int .i64 s.yl, .int .i64 s.yh, .slice a len cap], .bool true, .bool false, .agg #[.int .i64 s.P, .int .i64 s.tl, .int .i64 s.th, .int .i64 s.al, .int .i64 s.ah, .int .i64 s.room, .int .i64 s.xl, .int .i64 s.xh, .int .i64 s.yl, .int .i64 s.yh, .slice a len cap], .func (.func 112) #[] #[.pointer (some ⟨w1.heap.size + 1 + 1 + 1, 0, none⟩)], y, undef, undef, undef, undef, undef, undef, undef, undef, undef, undef, undef, undef, undef, undef, undef, undef, undef, undef, undef, undef, undef, undef, undef], defers := [] }) ?assign ?body ?done
  case hI =>
    rintro b pre W W' row ⟨hb, h3, hbb⟩ hg hr
    exact ⟨hb.kept hg hr (by omega) (by omega), h3.grown hg (fun r e => by rcases hr r e with h1 | h1 <;> omega), hbb⟩
  case hS =>
    rintro b pre W ⟨hb, h3, hbb⟩
    exact ⟨fun i => (h3.cell (by omega) (.inr (by omega)) i).trans (hcl i), h3.pigs hpgl (fun h0 pb po e => .inl (by have := hpb h0 pb po e; omega)), fun h0 pb po e => by have := hpb h0 pb po e; omega⟩
  case h0 =>
    intro W' b hb hle
    exact ⟨.inl ⟨rfl, (hb.block _ (by omega)).trans b7, (hb.block _ (by omega)).trans b8, (hb.block _ (by omega)).trans b9⟩, (But3.refl _ _).below hb, hle⟩
  case assign =>
    intro l y W K hK
    gi_wp2
    exact hK
  case body =>
    rintro l b pre x W ⟨hbest, h3, hbb⟩ hHo hxl hxa hxr
    have hs2 : ∀ i, W.cell? ⟨w.heap.size, i, none⟩ = (#[.int .i64 s.P, .int .i64 s.tl, .int .i64 s.th, .int .i64 s.al, .int .i64 s.ah, .int .i64 s.room, .int .i64 s.xl, .int .i64 s.xh, .int .i64 s.yl, .int .i64 s.yh, .slice a len cap] : Array Value)[i]? := fun i => (h3.cell (by omega) (.inl q1) i).trans (hsl i)
    have hf2 : W.cell? ⟨w.heap.size + 1, 0, none⟩ = some (.func (.func 83) #[] #[.pointer (some ⟨Wb, 0, none⟩)]) := (h3.cell (by omega) (.inl q2) 0).trans hfl
    have hwb : ∀ i, W.cell? ⟨Wb, i, none⟩ = (#[.int .i64 s.P, .int .i64 s.tl, .int .i64 s.th, .int .i64 s.al, .int .i64 s.ah, .int .i64 s.room, .int .i64 s.xl, .int .i64 s.xh, .int .i64 s.yl, .int .i64 s.yh, .slice a len cap] : Array Value)[i]? := fun i => (h3.cell (by omega) (.inl (by omega)) i).trans (hwl i)
    have hpW : PigsAt W a len s.pigs := h3.pigs hpgl (fun h0 pb po e => .inl (by have := hpb h0 pb po e; omega))
    have hzW : Wl.heap.size ≤ W.heap.size := h3.size
    have hzb := hBw.size
    have hxi := ints_len hHo hxl hl4
    have hadd := Shop.isAdd_all ho hxa hxr
    have HA := fun W1 (hb : Below W.heap.size W W1) => after_any s a len cap (some ⟨b, 0, none⟩) len x W1 (hpW.below hb) (hxi.below hb) ho (Shop.fewB_all ho hxa)
    unfold potCells at HA
    replace HA := Lib.hid HA
    have HSF := Lib.hid (fun W1 => safe_any s a len cap (s.P + tot Pig.P s.pigs x) (s.tl + tot Pig.t s.pigs x) (s.th + tot Pig.t s.pigs x) (s.al + tot Pig.a s.pigs x) (s.ah + tot Pig.a s.pigs x) W1 (Shop.tot_P ho hadd) (Shop.lims ho).1 (Shop.lims ho).2)
    have HASK := Lib.hid (fun W1 (hb : Below W.heap.size W W1) => ask_Cheap s a len cap Wb b x W1 (fun i => (hb.cell (p := ⟨Wb, i, none⟩) (show Wb < _ by omega)).trans (hwb i)) (hpW.below hb) (hHo.below hb) hxl hl4 (Shop.few_all ho hxa))
    have HCL := Lib.hid (fun W1 (hb : Below W.heap.size W W1) => Clone_any b len len x W1 (hHo.below hb) hxl hl4)
    have HSV := Lib.hid (show s.safeOf x = safeI s (s.P + tot Pig.P s.pigs x) (s.tl + tot Pig.t s.pigs x) (s.th + tot Pig.t s.pigs x) (s.al + tot Pig.a s.pigs x) (s.ah + tot Pig.a s.pigs x) from rfl)
    have HBS := Lib.hid (bestOf_snoc s (askF 0 s) pre x)
    have HSTEP : ∀ o, stepBest s (askF 0 s) o x = if s.safeOf x = 1 then (match o with | none => some (x, askF 0 s x) | some (y, m) => if askF 0 s x < m then some (x, askF 0 s x) else some (y, m)) else o := fun o => rfl
    rw [show askF 0 s x = tot Pig.c s.pigs x from rfl] at HSTEP
    replace HSTEP := Lib.hid HSTEP
    generalize s.P + tot Pig.P s.pigs x = n1 at *
    generalize s.tl + tot Pig.t s.pigs x = n2 at *
    generalize s.th + tot Pig.t s.pigs x = n3 at *
    generalize s.al + tot Pig.a s.pigs x = n4 at *
    generalize s.ah + tot Pig.a s.pigs x = n5 at *
    generalize safeI s n1 n2 n3 n4 n5 = sv at *
    generalize tot Pig.c s.pigs x = av at *
    have HB3 := Lib.hid h3
    have HHo := Lib.hid hHo
    clear h3 hHo hpW hxi hadd hwb hsl hfl hcl hwl hpgl hpb hxr hxa
    obtain ⟨x0, x1, x2, x3, x4, x5, x6, x7, x8, x9, x10⟩ := box11 hs2
    clear hs2
    have d1 : w.heap.size < W.heap.size := by omega
    have d2 : w.heap.size + 1 < W.heap.size := by omega
    have d3 : w1.heap.size < W.heap.size := by omega
    have d4 : w1.heap.size + 1 < W.heap.size := by omega
    have d5 : w1.heap.size + 1 + 1 < W.heap.size := by omega
    have hmx : Try.prog.follows .mixedOrders = true := by kernel_rfl
    have hW0 : Below W.heap.size W W.drew := (Below.refl _ _).drew
    by_cases h1 : sv = 1
    · have e1 : (sv == 1) = true := by simpa using h1
      have e2 : (sv != 1) = false := by simpa using h1
      have HSV1 := Lib.hid (HSV.out.trans h1)
      clear h1
      rcases hbest with ⟨hn, k7, k8, k9⟩ | ⟨y, m, v, hs, k7, k8, k9, hrow, hne⟩
      · have c9 : W.cell? ⟨w1.heap.size + 1 + 1, 0, none⟩ = some (.bool false) := k9.cell
        have c8 : W.cell? ⟨w1.heap.size + 1, 0, none⟩ = some (.int .i64 0) := k8.cell
        have c7 : W.cell? ⟨w1.heap.size, 0, none⟩ = some (.slice none 0 0) := k7.cell
        have g9 : W.frozen? ⟨w1.heap.size + 1 + 1, 0, none⟩ = false := k9.frozen
        have g8 : W.frozen? ⟨w1.heap.size + 1, 0, none⟩ = false := k8.frozen
        have g7 : W.frozen? ⟨w1.heap.size, 0, none⟩ = false := k7.frozen
        have HNEW := Lib.hid (show bestOf s (askF 0 s) (pre ++ [x]) = some (x, av) by rw [HBS.out, HSTEP.out, HSV1.out, hn]; rfl)
        clear hn
        gi_wp2
        gi_region_with_o (first | (refine ⟨trivial, ?_⟩; gi_at_call 69; refine (CallsIn.inRound l (callsIn_wide.2 (HA.out _ hW0))).mono ?_; rintro e w2 ⟨rfl, hb2⟩; have hBa := hW0.trans hb2; have hz2 := hBa.size; have hc2 : ∀ b o, b < W.heap.size → w2.cell? ⟨b, o, none⟩ = W.cell? ⟨b, o, none⟩ := (fun b o h => hBa.cell (p := ⟨b, o, none⟩) h); clear hb2) | (refine ⟨trivial, ?_⟩; gi_at_call 74; refine (CallsIn.inRound l (callsIn_wide.2 (HSF.out _))).mono ?_; rintro e w3 ⟨rfl, hb3⟩; have hBs := hBa.trans (hb3.mono hz2); have hz3 := hBs.size; have hc3 : ∀ b o, b < W.heap.size → w3.cell? ⟨b, o, none⟩ = W.cell? ⟨b, o, none⟩ := (fun b o h => hBs.cell (p := ⟨b, o, none⟩) h); clear hb3))
        all_goals gi_wp2_with (first | (refine ⟨trivial, ?_⟩; gi_at_call 83; refine (CallsIn.inRound l (callsIn_wide.2 (HASK.out _ hBs))).mono ?_; rintro e w4 ⟨rfl, hb4⟩; have hBd := hBs.trans (hb4.mono hz3); have hz4 := hBd.size; have hc4 : ∀ b o, b < W.heap.size → w4.cell? ⟨b, o, none⟩ = W.cell? ⟨b, o, none⟩ := (fun b o h => hBd.cell (p := ⟨b, o, none⟩) h); clear hb4) | (refine ⟨trivial, ?_⟩; gi_at_call 107; refine (CallsIn.inRound l (callsIn_wide.2 (HCL.out _ hBd))).mono ?_; rintro e w5 ⟨g5, c5, rfl, hown5, hb5⟩; have hBe := hBd.trans (hb5.mono hz4); have hz5 := hBe.size; have hc5 : ∀ b o, b < W.heap.size → w5.cell? ⟨b, o, none⟩ = W.cell? ⟨b, o, none⟩ := (fun b o h => hBe.cell (p := ⟨b, o, none⟩) h); have hf5 : ∀ b o, b < W.heap.size → w5.frozen? ⟨b, o, none⟩ = W.frozen? ⟨b, o, none⟩ := (fun b o h => hBe.frozen (p := ⟨b, o, none⟩) h); clear hb5))
        all_goals exact ⟨((keeps_others hBe).trans (KeepsOthers.setCell _ _ _)).trans (KeepsOthers.setCell _ _ _) |>.trans (KeepsOthers.setCell _ _ _) |>.from _, ⟨BestIs.write (k7.kept (grown_none hBe) (by simp)) (k8.kept (grown_none hBe) (by simp)) (k9.kept (grown_none hBe) (by simp)) (Go.Joins.ownsRow_le hown5 (by omega)) HNEW.out _ hown5 (by omega) (by have := HHo.out.1; omega), ((((HB3.out.below hBe).grown (grownBy_setCell' _ _ _) (fun r e => by cases e; omega)).grown (grownBy_setCell' _ _ _) (fun r e => by cases e; omega)).grown (grownBy_setCell' _ _ _) (fun r e => by cases e; omega)), hbb⟩, (((HHo.out.below hBe).other (grownBy_setCell' _ _ _) (by simp; omega)).other (grownBy_setCell' _ _ _) (by simp; omega)).other (grownBy_setCell' _ _ _) (by simp; omega)⟩
      · have c9 : W.cell? ⟨w1.heap.size + 1 + 1, 0, none⟩ = some (.bool true) := k9.cell
        have c8 : W.cell? ⟨w1.heap.size + 1, 0, none⟩ = some (.int .i64 m) := k8.cell
        have c7 : W.cell? ⟨w1.heap.size, 0, none⟩ = some v := k7.cell
        have g9 : W.frozen? ⟨w1.heap.size + 1 + 1, 0, none⟩ = false := k9.frozen
        have g8 : W.frozen? ⟨w1.heap.size + 1, 0, none⟩ = false := k8.frozen
        have g7 : W.frozen? ⟨w1.heap.size, 0, none⟩ = false := k7.frozen
        rcases Int.lt_or_le av m with hlt | hlt
        · have HNEW := Lib.hid (show bestOf s (askF 0 s) (pre ++ [x]) = some (x, av) by rw [HBS.out, HSTEP.out, HSV1.out, hs, if_pos rfl]; simp [hlt])
          gi_wp2
          gi_region_with_o (first | (refine ⟨trivial, ?_⟩; gi_at_call 69; refine (CallsIn.inRound l (callsIn_wide.2 (HA.out _ hW0))).mono ?_; rintro e w2 ⟨rfl, hb2⟩; have hBa := hW0.trans hb2; have hz2 := hBa.size; have hc2 : ∀ b o, b < W.heap.size → w2.cell? ⟨b, o, none⟩ = W.cell? ⟨b, o, none⟩ := (fun b o h => hBa.cell (p := ⟨b, o, none⟩) h); clear hb2) | (refine ⟨trivial, ?_⟩; gi_at_call 74; refine (CallsIn.inRound l (callsIn_wide.2 (HSF.out _))).mono ?_; rintro e w3 ⟨rfl, hb3⟩; have hBs := hBa.trans (hb3.mono hz2); have hz3 := hBs.size; have hc3 : ∀ b o, b < W.heap.size → w3.cell? ⟨b, o, none⟩ = W.cell? ⟨b, o, none⟩ := (fun b o h => hBs.cell (p := ⟨b, o, none⟩) h); clear hb3))
          all_goals gi_wp2_with (first | (refine ⟨trivial, ?_⟩; gi_at_call 83; refine (CallsIn.inRound l (callsIn_wide.2 (HASK.out _ hBs))).mono ?_; rintro e w4 ⟨rfl, hb4⟩; have hBd := hBs.trans (hb4.mono hz3); have hz4 := hBd.size; have hc4 : ∀ b o, b < W.heap.size → w4.cell? ⟨b, o, none⟩ = W.cell? ⟨b, o, none⟩ := (fun b o h => hBd.cell (p := ⟨b, o, none⟩) h); clear hb4) | (refine ⟨trivial, ?_⟩; gi_at_call 107; refine (CallsIn.inRound l (callsIn_wide.2 (HCL.out _ hBd))).mono ?_; rintro e w5 ⟨g5, c5, rfl, hown5, hb5⟩; have hBe := hBd.trans (hb5.mono hz4); have hz5 := hBe.size; have hc5 : ∀ b o, b < W.heap.size → w5.cell? ⟨b, o, none⟩ = W.cell? ⟨b, o, none⟩ := (fun b o h => hBe.cell (p := ⟨b, o, none⟩) h); have hf5 : ∀ b o, b < W.heap.size → w5.frozen? ⟨b, o, none⟩ = W.frozen? ⟨b, o, none⟩ := (fun b o h => hBe.frozen (p := ⟨b, o, none⟩) h); clear hb5))
          all_goals exact ⟨((keeps_others hBe).trans (KeepsOthers.setCell _ _ _)).trans (KeepsOthers.setCell _ _ _) |>.trans (KeepsOthers.setCell _ _ _) |>.from _, ⟨BestIs.write (k7.kept (grown_none hBe) (by simp)) (k8.kept (grown_none hBe) (by simp)) (k9.kept (grown_none hBe) (by simp)) (Go.Joins.ownsRow_le hown5 (by omega)) HNEW.out _ hown5 (by omega) (by have := HHo.out.1; omega), ((((HB3.out.below hBe).grown (grownBy_setCell' _ _ _) (fun r e => by cases e; omega)).grown (grownBy_setCell' _ _ _) (fun r e => by cases e; omega)).grown (grownBy_setCell' _ _ _) (fun r e => by cases e; omega)), hbb⟩, (((HHo.out.below hBe).other (grownBy_setCell' _ _ _) (by simp; omega)).other (grownBy_setCell' _ _ _) (by simp; omega)).other (grownBy_setCell' _ _ _) (by simp; omega)⟩
        · have HNEW := Lib.hid (show bestOf s (askF 0 s) (pre ++ [x]) = bestOf s (askF 0 s) pre by rw [HBS.out, HSTEP.out, HSV1.out, hs, if_pos rfl]; simp [Int.not_lt.2 hlt])
          have hbest : BestIs s (askF 0 s) len w1.heap.size w.heap.size b pre W := .inr ⟨y, m, v, hs, k7, k8, k9, hrow, hne⟩
          have HBEST := Lib.hid hbest
          clear hbest hs hrow hne
          gi_wp2
          gi_region_with_o (first | (refine ⟨trivial, ?_⟩; gi_at_call 69; refine (CallsIn.inRound l (callsIn_wide.2 (HA.out _ hW0))).mono ?_; rintro e w2 ⟨rfl, hb2⟩; have hBa := hW0.trans hb2; have hz2 := hBa.size; have hc2 : ∀ b o, b < W.heap.size → w2.cell? ⟨b, o, none⟩ = W.cell? ⟨b, o, none⟩ := (fun b o h => hBa.cell (p := ⟨b, o, none⟩) h); clear hb2) | (refine ⟨trivial, ?_⟩; gi_at_call 74; refine (CallsIn.inRound l (callsIn_wide.2 (HSF.out _))).mono ?_; rintro e w3 ⟨rfl, hb3⟩; have hBs := hBa.trans (hb3.mono hz2); have hz3 := hBs.size; have hc3 : ∀ b o, b < W.heap.size → w3.cell? ⟨b, o, none⟩ = W.cell? ⟨b, o, none⟩ := (fun b o h => hBs.cell (p := ⟨b, o, none⟩) h); clear hb3))
          all_goals gi_wp2_with (first | (refine ⟨trivial, ?_⟩; gi_at_call 83; refine (CallsIn.inRound l (callsIn_wide.2 (HASK.out _ hBs))).mono ?_; rintro e w4 ⟨rfl, hb4⟩; have hBd := hBs.trans (hb4.mono hz3); have hz4 := hBd.size; have hc4 : ∀ b o, b < W.heap.size → w4.cell? ⟨b, o, none⟩ = W.cell? ⟨b, o, none⟩ := (fun b o h => hBd.cell (p := ⟨b, o, none⟩) h); clear hb4) | (refine ⟨trivial, ?_⟩; gi_at_call 107; refine (CallsIn.inRound l (callsIn_wide.2 (HCL.out _ hBd))).mono ?_; rintro e w5 ⟨g5, c5, rfl, hown5, hb5⟩; have hBe := hBd.trans (hb5.mono hz4); have hz5 := hBe.size; have hc5 : ∀ b o, b < W.heap.size → w5.cell? ⟨b, o, none⟩ = W.cell? ⟨b, o, none⟩ := (fun b o h => hBe.cell (p := ⟨b, o, none⟩) h); have hf5 : ∀ b o, b < W.heap.size → w5.frozen? ⟨b, o, none⟩ = W.frozen? ⟨b, o, none⟩ := (fun b o h => hBe.frozen (p := ⟨b, o, none⟩) h); clear hb5))
          all_goals exact ⟨(keeps_others hBd).from _, ⟨HBEST.out.of hBd HNEW.out (by omega), HB3.out.below hBd, hbb⟩, HHo.out.below hBd⟩
    · have e1 : (sv == 1) = false := by simpa using h1
      have e2 : (sv != 1) = true := by simpa using h1
      have HNEW := Lib.hid (show bestOf s (askF 0 s) (pre ++ [x]) = bestOf s (askF 0 s) pre by rw [HBS.out, HSTEP.out, HSV.out, if_neg h1])
      gi_wp2
      gi_region_with_o (first | (refine ⟨trivial, ?_⟩; gi_at_call 69; refine (CallsIn.inRound l (callsIn_wide.2 (HA.out _ hW0))).mono ?_; rintro e w2 ⟨rfl, hb2⟩; have hBa := hW0.trans hb2; have hz2 := hBa.size; have hc2 : ∀ b o, b < W.heap.size → w2.cell? ⟨b, o, none⟩ = W.cell? ⟨b, o, none⟩ := (fun b o h => hBa.cell (p := ⟨b, o, none⟩) h); clear hb2) | (refine ⟨trivial, ?_⟩; gi_at_call 74; refine (CallsIn.inRound l (callsIn_wide.2 (HSF.out _))).mono ?_; rintro e w3 ⟨rfl, hb3⟩; have hBs := hBa.trans (hb3.mono hz2); have hz3 := hBs.size; have hc3 : ∀ b o, b < W.heap.size → w3.cell? ⟨b, o, none⟩ = W.cell? ⟨b, o, none⟩ := (fun b o h => hBs.cell (p := ⟨b, o, none⟩) h); clear hb3))
      all_goals gi_wp2
      all_goals exact ⟨(keeps_others hBs).from _, ⟨hbest.of hBs HNEW.out (by omega), HB3.out.below hBs, hbb⟩, HHo.out.below hBs⟩
  case done =>
    rintro D b W hD ⟨hbest, h3, hbb⟩ hK
    have hbel := (hBw.trans (h3.toBelow (by omega) hBw.size)).trans (belowK_b (w := w) (Nat.le_refl _) W D _ (.deferred none) (by omega) hK rfl rfl)
    rcases hbest with ⟨hn, k7, k8, k9⟩ | ⟨y, m, v, hs, k7, k8, k9, hrow, hne⟩
    · have c9 : W.cell? ⟨w1.heap.size + 1 + 1, 0, none⟩ = some (.bool false) := k9.cell
      have HN := Lib.hid hn; clear hn
      gi_wp2
      refine ⟨by simp, .inl ⟨_, _, rfl, run_takeDeferred hK, ?_⟩⟩
      exact ⟨.tuple #[.slice none 0 0, .int .i64 0, .int .i64 3], by simp [results, Try.results82, go_sem], hbel, .inl ⟨HN.out, rfl⟩⟩
    · have c9 : W.cell? ⟨w1.heap.size + 1 + 1, 0, none⟩ = some (.bool true) := k9.cell
      have c8 : W.cell? ⟨w1.heap.size + 1, 0, none⟩ = some (.int .i64 m) := k8.cell
      have c7 : W.cell? ⟨w1.heap.size, 0, none⟩ = some v := k7.cell
      have HS := Lib.hid hs; clear hs
      have hmx : Try.prog.follows .mixedOrders = true := by kernel_rfl
      gi_wp2
      refine wpIn_mono ?_ NoPanic.imp
      gi_region_with_o (fail)
      all_goals (try simp only [NoPanic])
      all_goals (try gi_wp2)
      all_goals refine ⟨by simp, .inl ⟨_, _, rfl, run_takeDeferred hK, ?_⟩⟩
      all_goals exact ⟨.tuple #[v, .int .i64 m, .int .i64 0], by simp [results, Try.results82, go_sem], ((hBw.trans (h3.toBelow (by omega) hBw.size)).drew).trans (belowK_b (w := w) (Nat.le_refl _) _ D _ (.deferred none) (by omega) hK rfl rfl), .inr ⟨y, m, v, HS.out, rfl, ownsRow_putObj (show World.ownsRow W.drew w.heap.size 3 1 v len (y.map (Value.int .i64)) from hrow) _ hK rfl⟩⟩
end Go.Proofs.Ytajabapcmpmboaa
