/- Package flongs: greatest. -/
import Derived.Test.YtigeiaiohdemiaaFO
namespace Go.Proofs.Ytigeiaiohdemiaa
set_option linter.unusedVariables false
set_option linter.unusedSimpArgs false
open Go.RowKit Go.Shelf

attribute [local go_sem] Oper.semAt_some

def GreatestPost (s : FShop) (f : List Int → Int) (len : Nat) (w : World) (e : Ending) (w' : World) : Prop :=
  Below w.heap.size w w' ∧ ((bestF f s.justs = none ∧ e = .returned (.tuple #[.slice none 0 0, .int .i64 0, .bool false])) ∨
    ∃ y m g cc, bestF f s.justs = some (y, m) ∧ e = .returned (.tuple #[.slice (some ⟨g, 0, none⟩) len cc, .int .i64 m, .bool true]) ∧ RowI w' w.heap.size g len cc y)
/-- What the three boxes hold, some lists having come. -/
def BestG (f : List Int → Int) (len B n0 b c : Nat) (pre : List (List Int)) (w : World) : Prop :=
  (bestF f pre = none ∧ Boxed w B 24 (.slice none 0 0) ∧ Boxed w (B + 1) 3 (.int .i64 0) ∧ Boxed w (B + 2) 4 (.bool false)) ∨
  ∃ y m g cc, bestF f pre = some (y, m) ∧ Boxed w B 24 (.slice (some ⟨g, 0, none⟩) len cc) ∧ Boxed w (B + 1) 3 (.int .i64 m) ∧ Boxed w (B + 2) 4 (.bool true) ∧ RowI w n0 g len cc y ∧ g ≠ b ∧ g ≠ c ∧ B + 2 < g
theorem BestG.kept {f : List Int → Int} {len B n0 b c L : Nat} {pre : List (List Int)} {w w' : World} {row : Option Nat} (h : BestG f len B n0 b c pre w) (hg : w.grownBy w' row)
    (hr : ∀ r, row = some r → r = b ∨ r = c ∨ (L ≤ r ∧ ∃ o : Obj, w.heap[r]? = some o ∧ o.isCells = false)) (hL : B + 2 < L) (hb : B + 2 < b) (hc : B + 2 < c) : BestG f len B n0 b c pre w' := by
  have hne : ∀ k, k ≤ B + 2 → some k ≠ row := fun k hk e => by rcases hr k e.symm with h1 | h1 | h1 <;> omega
  rcases h with ⟨h0, h1, h2, h3⟩ | ⟨y, m, g, cc, h0, h1, h2, h3, h4, h5, h6, h7⟩
  · exact .inl ⟨h0, h1.kept hg (hne _ (by omega)), h2.kept hg (hne _ (by omega)), h3.kept hg (hne _ (by omega))⟩
  · refine .inr ⟨y, m, g, cc, h0, h1.kept hg (hne _ (by omega)), h2.kept hg (hne _ (by omega)), h3.kept hg (hne _ (by omega)), h4.other hg fun e => ?_, h5, h6, h7⟩
    rcases hr g e.symm with h8 | h8 | ⟨_, o, ho, hoc⟩
    · exact h5 h8
    · exact h6 h8
    · obtain ⟨_, _, _, cur, hcur, _⟩ := h4.parts
      rw [hcur] at ho; cases ho; cases hoc
theorem BestG.of {f : List Int → Int} {len B n0 b c : Nat} {pre pre' : List (List Int)} {w w' : World} (h : BestG f len B n0 b c pre w) (hb : Below w.heap.size w w') (he : bestF f pre' = bestF f pre) (hbb : B + 2 < b) (hcc : B + 2 < c) : BestG f len B n0 b c pre' w' := by
  have h' := h.kept (L := B + 3) (grown_none hb) (fun r e => by cases e) (by omega) hbb hcc
  unfold BestG at *
  rw [he]
  exact h'
theorem BestG.write {f : List Int → Int} {len B n0 b c g cc : Nat} {pre : List (List Int)} {w : World} {u7 u8 u9 : Value} {y : List Int} {m : Int} (h7 : Boxed w B 24 u7) (h8 : Boxed w (B + 1) 3 u8) (h9 : Boxed w (B + 2) 4 u9)
    (hr : RowI w n0 g len cc y) (hb : bestF f pre = some (y, m)) (h1 : B + 2 < g) (h2 : g ≠ b) (h3 : g ≠ c) :
    BestG f len B n0 b c pre (((w.setCell ⟨B, 0, none⟩ (.slice (some ⟨g, 0, none⟩) len cc)).setCell ⟨B + 1, 0, none⟩ (.int .i64 m)).setCell ⟨B + 2, 0, none⟩ (.bool true)) := by
  refine .inr ⟨y, m, g, cc, hb, ((h7.set _).other (by omega) _).other (by omega) _, ((h8.other (by omega) _).set _).other (by omega) _, ((h9.other (by omega) _).other (by omega) _).set _, ?_, h2, h3, h1⟩
  exact ((hr.other (gb_set0 _ _ _ _) (by simp; omega)).other (gb_set0 _ _ _ _) (by simp; omega)).other (gb_set0 _ _ _ _) (by simp; omega)
theorem KeepsUp.below {N : Nat} {w w' : World} (h : Below w.heap.size w w') : KeepsUp N w w' := ⟨h.size, fun k _ h2 => h.block k h2⟩
theorem KeepsUp.set {N : Nat} {w w' : World} (h : KeepsUp N w w') {b i : Nat} (hb : b < N) (v : Value) : KeepsUp N w (w'.setCell ⟨b, i, none⟩ v) :=
  ⟨by have := (gb_set0 w' b i v).size; have := h.1; omega, fun k h1 h2 => ((gb_set0 w' b i v).block k (Nat.lt_of_lt_of_le h2 h.1) (by simp; omega)).trans (h.2 k h1 h2)⟩

set_option maxRecDepth 100000 in
set_option maxHeartbeats 4000000 in
theorem greatest_D (s : FShop) (ma : Option Addr) (ml mc : Nat) (wa : Option Addr) (wl wc : Nat) (na : Option Addr) (nl nc : Nat) (ho : s.ok = true) (Bs : Nat) (Sb : Nat) (f : List Int → Int) (w : World) (hp : FAt w ma ml mc wa wl wc na nl nc s) (hbox : ∀ i, w.cell? ⟨Bs, i, none⟩ = (#[.slice ma ml mc, .slice wa wl wc, .slice na nl nc, .int .i64 s.fresh] : Array Value)[i]?)
    (HA : ∀ (W : World) (b : Nat) (x : List Int), Below w.heap.size w W → IntsAt W (some ⟨b, 0, none⟩) ml x → x ∈ s.justs → Calls Try.prog 78 #[.slice (some ⟨b, 0, none⟩) ml ml, .pointer (some ⟨Sb, 0, none⟩)] W fun e w' => e = .returned (.int .i64 (f x)) ∧ Below W.heap.size W w') :
    Calls Try.prog 76 #[.func (.func 104) #[] #[.pointer (some ⟨Bs, 0, none⟩)], .func (.func 78) #[] #[.pointer (some ⟨Sb, 0, none⟩)]] w fun e w' => GreatestPost s f ml w e w' := by
  have HA := Lib.hid HA
  have hBsw : Bs < w.heap.size := World.block_lt_of_cell? w _ (hbox 0)
  have hm5 : ml ≤ 5 := by have := (FShop.ok_few ho).2.1; have := hp.1.1; omega
  refine (callsIn_wide (n := 14)).1 ?_
  refine callsIn_of_wp_marks Try.func76 rfl trivial ?_ rfl
  simp only [Try.ntmps76, List.size_toArray, List.length_cons, List.length_nil, Nat.reduceAdd, Nat.reduceSub, Array.replicate_succ, Array.replicate_zero, List.push_toArray, List.append_toArray, List.nil_append, List.cons_append]
  gi_wp2
  obtain ⟨Wl, hWl⟩ : ∃ Wl, (((w.alloc (.cells #[.func (.func 78) #[] #[.pointer (some ⟨Sb, 0, none⟩)]] 83)).alloc (.cells #[.slice none 0 0] 24)).alloc (.cells #[.int .i64 0] 3)).alloc (.cells #[.bool false] 4) = Wl := ⟨_, rfl⟩
  have hzl : Wl.heap.size = w.heap.size + 4 := by rw [← hWl]; simp
  have hBw : Below w.heap.size w Wl := by rw [← hWl]; exact (by repeat (first | exact Below.refl _ _ | (refine Below.alloc ?_ (by first | omega | (simp; omega) | simp) _) | (refine Below.setCell ?_ (by first | omega | (simp; omega) | simp) _) | refine Below.drew ?_))
  have b3 : Boxed Wl w.heap.size 83 (.func (.func 78) #[] #[.pointer (some ⟨Sb, 0, none⟩)]) := by rw [← hWl]; exact (((Boxed.new w _ _).alloc _).alloc _).alloc _
  have b7 : Boxed Wl (w.heap.size + 1) 24 (.slice none 0 0) := by
    rw [← hWl]; have h := Boxed.new (w.alloc (.cells #[.func (.func 78) #[] #[.pointer (some ⟨Sb, 0, none⟩)]] 83)) 24 (.slice none 0 0); rw [World.size_alloc] at h; exact (h.alloc _).alloc _
  have b8 : Boxed Wl (w.heap.size + 1 + 1) 3 (.int .i64 0) := by
    rw [← hWl]; have h := Boxed.new ((w.alloc (.cells #[.func (.func 78) #[] #[.pointer (some ⟨Sb, 0, none⟩)]] 83)).alloc (.cells #[.slice none 0 0] 24)) 3 (.int .i64 0); simp only [World.size_alloc] at h; exact h.alloc _
  have b9 : Boxed Wl (w.heap.size + 1 + 2) 4 (.bool false) := by
    rw [← hWl]; have h := Boxed.new (((w.alloc (.cells #[.func (.func 78) #[] #[.pointer (some ⟨Sb, 0, none⟩)]] 83)).alloc (.cells #[.slice none 0 0] 24)).alloc (.cells #[.int .i64 0] 3)) 4 (.bool false); simp only [World.size_alloc] at h; exact h
  rw [hWl]
  clear hWl
  refine wpIn_rangeJusts Bs s ma ml mc wa wl wc na nl nc rfl rfl ho
    (fun b c pre W => BestG f ml (w.heap.size + 1) w.heap.size b c pre W ∧ Below w.heap.size w W ∧ Boxed W w.heap.size 83 (.func (.func 78) #[] #[.pointer (some ⟨Sb, 0, none⟩)]) ∧ Wl.heap.size ≤ b ∧ Wl.heap.size ≤ c ∧ Wl.heap.size ≤ W.heap.size)
    ?hI ?hS ?h0 (fun y => { tmps := #[.func (.func 104) #[] #[.pointer (some ⟨Bs, 0, none⟩)], .func (.func 78) #[] #[.pointer (some ⟨Sb, 0, none⟩)], undef, .pointer (some ⟨w.heap.size, 0, none⟩), .slice none 0 0, .int .i64 0, .bool false, .pointer (some ⟨w.heap.size + 1, 0, none⟩), .pointer (some ⟨w.heap.size + 1 + 1, 0, none⟩), .pointer (some ⟨w.heap.size + 1 + 1 + 1, 0, none⟩), y, undef, .func (.func 104) #[] #[.pointer (some ⟨Bs, 0, none⟩)], y, undef, undef, undef, undef, undef, undef, undef, undef, undef, undef, undef, undef, undef, undef, undef, undef], defers := [] }) ?assign ?body ?done
  case hI =>
    rintro b c pre W W' row ⟨hb, hbl, h3, hbb, hcc, hz⟩ hg hr
    exact ⟨hb.kept hg hr (by omega) (by omega) (by omega), hbl.grown hg hbl.size (fun r e => by rcases hr r e with h1 | h1 | h1 <;> omega), h3.kept hg (fun e => by rcases hr _ e.symm with h1 | h1 | h1 <;> omega), hbb, hcc, Nat.le_trans hz hg.size⟩
  case hS =>
    rintro b c pre W ⟨hb, hbl, -⟩
    exact ⟨hp.below hbl, fun i => (hbl.cell (p := ⟨Bs, i, none⟩) hBsw).trans (hbox i)⟩
  case h0 =>
    intro W' b c hb hle hlc
    exact ⟨.inl ⟨rfl, (hb.block _ (by omega)).trans b7, (hb.block _ (by omega)).trans b8, (hb.block _ (by omega)).trans b9⟩, hBw.trans (hb.mono (by omega)), (hb.block _ (by omega)).trans b3, hle, hlc, hb.size⟩
  case assign =>
    intro l y W K hK
    gi_wp2
    exact hK
  case body =>
    rintro l b c n0 pre x W ⟨hbest, hbl, h3, hbb, hcc, hz⟩ hrow hcW hxj
    have hxi := hrow.ints
    have c3 := h3.cell
    have HASK := Lib.hid (HA.out W b x hbl hxi hxj)
    have HCL := Lib.hid (fun W1 (hb : Below W.heap.size W W1) => Clone_some ⟨b, 0, none⟩ ml ml x W1 (hxi.below hb) (by omega))
    have HBS := Lib.hid (bestF_snoc f pre x)
    have HSTEP := Lib.hid (show ∀ o, stepF f o x = (match o with | none => some (x, f x) | some (y, m) => if m < f x then some (x, f x) else some (y, m)) from fun o => rfl)
    generalize f x = av at *
    have HRW := Lib.hid hrow
    have HBL := Lib.hid hbl
    have H3 := Lib.hid h3
    have d1 : w.heap.size < W.heap.size := by omega
    have d2 : w.heap.size + 1 < W.heap.size := by omega
    have d3 : w.heap.size + 1 + 1 < W.heap.size := by omega
    have d4 : w.heap.size + 1 + 1 + 1 < W.heap.size := by omega
    have hbW := hrow.lt
    clear hrow hbl h3 hxi
    rcases hbest with ⟨hn, k7, k8, k9⟩ | ⟨y, m, g, cc, hs, k7, k8, k9, hrw, hne1, hne2, hlt2⟩
    · have c9 : W.cell? ⟨w.heap.size + 1 + 1 + 1, 0, none⟩ = some (.bool false) := k9.cell
      have c8 : W.cell? ⟨w.heap.size + 1 + 1, 0, none⟩ = some (.int .i64 0) := k8.cell
      have c7 : W.cell? ⟨w.heap.size + 1, 0, none⟩ = some (.slice none 0 0) := k7.cell
      have g9 : W.frozen? ⟨w.heap.size + 1 + 1 + 1, 0, none⟩ = false := k9.frozen
      have g8 : W.frozen? ⟨w.heap.size + 1 + 1, 0, none⟩ = false := k8.frozen
      have g7 : W.frozen? ⟨w.heap.size + 1, 0, none⟩ = false := k7.frozen
      have HNEW := Lib.hid (show bestF f (pre ++ [x]) = some (x, av) by rw [HBS.out, HSTEP.out, hn])
      clear hn
      gi_wp2_with (first | (refine ⟨trivial, ?_⟩; gi_at_call 78; refine (CallsIn.inRound l (callsIn_wide.2 HASK.out)).mono ?_; rintro e w2 ⟨rfl, hb2⟩; have hz2 := hb2.size; have hc2 : ∀ b o, b < W.heap.size → w2.cell? ⟨b, o, none⟩ = W.cell? ⟨b, o, none⟩ := (fun b o h => hb2.cell (p := ⟨b, o, none⟩) h)) | (refine ⟨trivial, ?_⟩; gi_at_call 103; refine (CallsIn.inRound l (callsIn_wide.2 (HCL.out _ hb2))).mono ?_; rintro e w5 ⟨g5, c5, rfl, hr5, hb5⟩; have hBe := hb2.trans (hb5.mono hz2); have hz5 := hBe.size; have hc5 : ∀ b o, b < W.heap.size → w5.cell? ⟨b, o, none⟩ = W.cell? ⟨b, o, none⟩ := (fun b o h => hBe.cell (p := ⟨b, o, none⟩) h); have hf5 : ∀ b o, b < W.heap.size → w5.frozen? ⟨b, o, none⟩ = W.frozen? ⟨b, o, none⟩ := (fun b o h => hBe.frozen (p := ⟨b, o, none⟩) h); clear hb5))
      exact ⟨((KeepsUp.below hBe).set (by omega) _ |>.set (by omega) _ |>.set (by omega) _),
        BestG.write (k7.kept (grown_none hBe) (by simp)) (k8.kept (grown_none hBe) (by simp)) (k9.kept (grown_none hBe) (by simp)) (hr5.low (by omega)) HNEW.out (by have := hr5.parts.1; omega) (by have := hr5.parts.1; omega) (by have := hr5.parts.1; omega),
        (((HBL.out.trans (hBe.mono HBL.out.size)).setCell (by simp) _).setCell (by simp; omega) _).setCell (by simp; omega) _,
        (((H3.out.kept (grown_none hBe) (by simp)).other (by omega) _).other (by omega) _).other (by omega) _, hbb, hcc, by simp [World.setCell]; omega⟩
    · have c9 : W.cell? ⟨w.heap.size + 1 + 1 + 1, 0, none⟩ = some (.bool true) := k9.cell
      have c8 : W.cell? ⟨w.heap.size + 1 + 1, 0, none⟩ = some (.int .i64 m) := k8.cell
      have c7 : W.cell? ⟨w.heap.size + 1, 0, none⟩ = some (.slice (some ⟨g, 0, none⟩) ml cc) := k7.cell
      have g9 : W.frozen? ⟨w.heap.size + 1 + 1 + 1, 0, none⟩ = false := k9.frozen
      have g8 : W.frozen? ⟨w.heap.size + 1 + 1, 0, none⟩ = false := k8.frozen
      have g7 : W.frozen? ⟨w.heap.size + 1, 0, none⟩ = false := k7.frozen
      have HBEST := Lib.hid (show BestG f ml (w.heap.size + 1) w.heap.size b c pre W from .inr ⟨y, m, g, cc, hs, k7, k8, k9, hrw, hne1, hne2, hlt2⟩)
      clear hrw
      by_cases hlt : m < av
      · have HNEW := Lib.hid (show bestF f (pre ++ [x]) = some (x, av) by rw [HBS.out, HSTEP.out, hs]; simp [hlt])
        clear hs
        gi_wp2_with (first | (refine ⟨trivial, ?_⟩; gi_at_call 78; refine (CallsIn.inRound l (callsIn_wide.2 HASK.out)).mono ?_; rintro e w2 ⟨rfl, hb2⟩; have hz2 := hb2.size; have hc2 : ∀ b o, b < W.heap.size → w2.cell? ⟨b, o, none⟩ = W.cell? ⟨b, o, none⟩ := (fun b o h => hb2.cell (p := ⟨b, o, none⟩) h)) | (refine ⟨trivial, ?_⟩; gi_at_call 103; refine (CallsIn.inRound l (callsIn_wide.2 (HCL.out _ hb2))).mono ?_; rintro e w5 ⟨g5, c5, rfl, hr5, hb5⟩; have hBe := hb2.trans (hb5.mono hz2); have hz5 := hBe.size; have hc5 : ∀ b o, b < W.heap.size → w5.cell? ⟨b, o, none⟩ = W.cell? ⟨b, o, none⟩ := (fun b o h => hBe.cell (p := ⟨b, o, none⟩) h); have hf5 : ∀ b o, b < W.heap.size → w5.frozen? ⟨b, o, none⟩ = W.frozen? ⟨b, o, none⟩ := (fun b o h => hBe.frozen (p := ⟨b, o, none⟩) h); clear hb5))
        exact ⟨((KeepsUp.below hBe).set (by omega) _ |>.set (by omega) _ |>.set (by omega) _),
          BestG.write (k7.kept (grown_none hBe) (by simp)) (k8.kept (grown_none hBe) (by simp)) (k9.kept (grown_none hBe) (by simp)) (hr5.low (by omega)) HNEW.out (by have := hr5.parts.1; omega) (by have := hr5.parts.1; omega) (by have := hr5.parts.1; omega),
          (((HBL.out.trans (hBe.mono HBL.out.size)).setCell (by simp) _).setCell (by simp; omega) _).setCell (by simp; omega) _,
          (((H3.out.kept (grown_none hBe) (by simp)).other (by omega) _).other (by omega) _).other (by omega) _, hbb, hcc, by simp [World.setCell]; omega⟩
      · have HNEW := Lib.hid (show bestF f (pre ++ [x]) = bestF f pre by rw [HBS.out, HSTEP.out, hs]; simp [hlt])
        clear hs
        gi_wp2_with (first | (refine ⟨trivial, ?_⟩; gi_at_call 78; refine (CallsIn.inRound l (callsIn_wide.2 HASK.out)).mono ?_; rintro e w2 ⟨rfl, hb2⟩; have hz2 := hb2.size; have hc2 : ∀ b o, b < W.heap.size → w2.cell? ⟨b, o, none⟩ = W.cell? ⟨b, o, none⟩ := (fun b o h => hb2.cell (p := ⟨b, o, none⟩) h)) | (refine ⟨trivial, ?_⟩; gi_at_call 103; refine (CallsIn.inRound l (callsIn_wide.2 (HCL.out _ hb2))).mono ?_; rintro e w5 ⟨g5, c5, rfl, hr5, hb5⟩; have hBe := hb2.trans (hb5.mono hz2); have hz5 := hBe.size; have hc5 : ∀ b o, b < W.heap.size → w5.cell? ⟨b, o, none⟩ = W.cell? ⟨b, o, none⟩ := (fun b o h => hBe.cell (p := ⟨b, o, none⟩) h); have hf5 : ∀ b o, b < W.heap.size → w5.frozen? ⟨b, o, none⟩ = W.frozen? ⟨b, o, none⟩ := (fun b o h => hBe.frozen (p := ⟨b, o, none⟩) h); clear hb5))
        exact ⟨KeepsUp.below hb2, HBEST.out.of hb2 HNEW.out (by omega) (by omega), HBL.out.trans (hb2.mono HBL.out.size), H3.out.kept (grown_none hb2) (by simp), hbb, hcc, by omega⟩
  case done =>
    rintro D b c W hD ⟨hbest, hbl, h3, hbb, hcc, hz⟩ hK
    have hbel := hbl.drew.trans (belowK_b (w := w) (Nat.le_refl _) W.drew D _ (.deferred none) (by omega) hK rfl rfl)
    rcases hbest with ⟨hn, k7, k8, k9⟩ | ⟨y, m, g, cc, hs, k7, k8, k9, hrw, hne1, hne2, hlt2⟩
    · have c9 : W.cell? ⟨w.heap.size + 1 + 1 + 1, 0, none⟩ = some (.bool false) := k9.cell
      have c8 : W.cell? ⟨w.heap.size + 1 + 1, 0, none⟩ = some (.int .i64 0) := k8.cell
      have c7 : W.cell? ⟨w.heap.size + 1, 0, none⟩ = some (.slice none 0 0) := k7.cell
      have HN := Lib.hid hn; clear hn
      have hmx : Try.prog.follows .mixedOrders = true := by kernel_rfl
      gi_wp2
      refine wpIn_mono ?_ NoPanic.imp
      gi_region_with_o (fail)
      all_goals (try simp only [NoPanic])
      all_goals (try gi_wp2)
      all_goals refine ⟨by simp, .inl ⟨_, _, rfl, run_takeDeferred hK, ?_⟩⟩
      all_goals exact ⟨.tuple #[.slice none 0 0, .int .i64 0, .bool false], by simp [results, Try.results76, go_sem], hbel, .inl ⟨HN.out, rfl⟩⟩
    · have c9 : W.cell? ⟨w.heap.size + 1 + 1 + 1, 0, none⟩ = some (.bool true) := k9.cell
      have c8 : W.cell? ⟨w.heap.size + 1 + 1, 0, none⟩ = some (.int .i64 m) := k8.cell
      have c7 : W.cell? ⟨w.heap.size + 1, 0, none⟩ = some (.slice (some ⟨g, 0, none⟩) ml cc) := k7.cell
      have HS := Lib.hid hs; clear hs
      have hmx : Try.prog.follows .mixedOrders = true := by kernel_rfl
      have hrD := hrw.drew.other (grownBy_putObj' W.drew D (.deferred none)) (by
        intro e; injection e with e
        obtain ⟨_, _, _, cur, hcur, _⟩ := hrw.parts
        rw [e, hK] at hcur; cases hcur)
      gi_wp2
      refine wpIn_mono ?_ NoPanic.imp
      gi_region_with_o (fail)
      all_goals (try simp only [NoPanic])
      all_goals (try gi_wp2)
      all_goals refine ⟨by simp, .inl ⟨_, _, rfl, run_takeDeferred hK, ?_⟩⟩
      all_goals exact ⟨.tuple #[.slice (some ⟨g, 0, none⟩) ml cc, .int .i64 m, .bool true], by simp [results, Try.results76, go_sem], hbel, .inr ⟨y, m, g, cc, HS.out, rfl, hrD⟩⟩

set_option maxRecDepth 100000 in
set_option maxHeartbeats 4000000 in
theorem greatest_H (s : FShop) (ma : Option Addr) (ml mc : Nat) (wa : Option Addr) (wl wc : Nat) (na : Option Addr) (nl nc : Nat) (ho : s.ok = true) (Bs : Nat) (la : Option Addr) (ll lc : Nat) (f : List Int → Int) (w : World) (hp : FAt w ma ml mc wa wl wc na nl nc s) (hbox : ∀ i, w.cell? ⟨Bs, i, none⟩ = (#[.slice ma ml mc, .slice wa wl wc, .slice na nl nc, .int .i64 s.fresh] : Array Value)[i]?)
    (HA : ∀ (W : World) (b : Nat) (x : List Int), Below w.heap.size w W → IntsAt W (some ⟨b, 0, none⟩) ml x → x ∈ s.justs → Calls Try.prog 74 #[.slice la ll lc, .slice (some ⟨b, 0, none⟩) ml ml] W fun e w' => e = .returned (.int .i64 (f x)) ∧ Below W.heap.size W w') :
    Calls Try.prog 76 #[.func (.func 104) #[] #[.pointer (some ⟨Bs, 0, none⟩)], .func (.func 74) #[.slice la ll lc] #[]] w fun e w' => GreatestPost s f ml w e w' := by
  have HA := Lib.hid HA
  have hBsw : Bs < w.heap.size := World.block_lt_of_cell? w _ (hbox 0)
  have hm5 : ml ≤ 5 := by have := (FShop.ok_few ho).2.1; have := hp.1.1; omega
  refine (callsIn_wide (n := 14)).1 ?_
  refine callsIn_of_wp_marks Try.func76 rfl trivial ?_ rfl
  simp only [Try.ntmps76, List.size_toArray, List.length_cons, List.length_nil, Nat.reduceAdd, Nat.reduceSub, Array.replicate_succ, Array.replicate_zero, List.push_toArray, List.append_toArray, List.nil_append, List.cons_append]
  gi_wp2
  obtain ⟨Wl, hWl⟩ : ∃ Wl, (((w.alloc (.cells #[.func (.func 74) #[.slice la ll lc] #[]] 83)).alloc (.cells #[.slice none 0 0] 24)).alloc (.cells #[.int .i64 0] 3)).alloc (.cells #[.bool false] 4) = Wl := ⟨_, rfl⟩
  have hzl : Wl.heap.size = w.heap.size + 4 := by rw [← hWl]; simp
  have hBw : Below w.heap.size w Wl := by rw [← hWl]; exact (by repeat (first | exact Below.refl _ _ | (refine Below.alloc ?_ (by first | omega | (simp; omega) | simp) _) | (refine Below.setCell ?_ (by first | omega | (simp; omega) | simp) _) | refine Below.drew ?_))
  have b3 : Boxed Wl w.heap.size 83 (.func (.func 74) #[.slice la ll lc] #[]) := by rw [← hWl]; exact (((Boxed.new w _ _).alloc _).alloc _).alloc _
  have b7 : Boxed Wl (w.heap.size + 1) 24 (.slice none 0 0) := by
    rw [← hWl]; have h := Boxed.new (w.alloc (.cells #[.func (.func 74) #[.slice la ll lc] #[]] 83)) 24 (.slice none 0 0); rw [World.size_alloc] at h; exact (h.alloc _).alloc _
  have b8 : Boxed Wl (w.heap.size + 1 + 1) 3 (.int .i64 0) := by
    rw [← hWl]; have h := Boxed.new ((w.alloc (.cells #[.func (.func 74) #[.slice la ll lc] #[]] 83)).alloc (.cells #[.slice none 0 0] 24)) 3 (.int .i64 0); simp only [World.size_alloc] at h; exact h.alloc _
  have b9 : Boxed Wl (w.heap.size + 1 + 2) 4 (.bool false) := by
    rw [← hWl]; have h := Boxed.new (((w.alloc (.cells #[.func (.func 74) #[.slice la ll lc] #[]] 83)).alloc (.cells #[.slice none 0 0] 24)).alloc (.cells #[.int .i64 0] 3)) 4 (.bool false); simp only [World.size_alloc] at h; exact h
  rw [hWl]
  clear hWl
  refine wpIn_rangeJusts Bs s ma ml mc wa wl wc na nl nc rfl rfl ho
    (fun b c pre W => BestG f ml (w.heap.size + 1) w.heap.size b c pre W ∧ Below w.heap.size w W ∧ Boxed W w.heap.size 83 (.func (.func 74) #[.slice la ll lc] #[]) ∧ Wl.heap.size ≤ b ∧ Wl.heap.size ≤ c ∧ Wl.heap.size ≤ W.heap.size)
    ?hI ?hS ?h0 (fun y => { tmps := #[.func (.func 104) #[] #[.pointer (some ⟨Bs, 0, none⟩)], .func (.func 74) #[.slice la ll lc] #[], undef, .pointer (some ⟨w.heap.size, 0, none⟩), .slice none 0 0, .int .i64 0, .bool false, .pointer (some ⟨w.heap.size + 1, 0, none⟩), .pointer (some ⟨w.heap.size + 1 + 1, 0, none⟩), .pointer (some ⟨w.heap.size + 1 + 1 + 1, 0, none⟩), y, undef, .func (.func 104) #[] #[.pointer (some ⟨Bs, 0, none⟩)], y, undef, undef, undef, undef, undef, undef, undef, undef, undef, undef, undef, undef, undef, undef, undef, undef], defers := [] }) ?assign ?body ?done
  case hI =>
    rintro b c pre W W' row ⟨hb, hbl, h3, hbb, hcc, hz⟩ hg hr
    exact ⟨hb.kept hg hr (by omega) (by omega) (by omega), hbl.grown hg hbl.size (fun r e => by rcases hr r e with h1 | h1 | h1 <;> omega), h3.kept hg (fun e => by rcases hr _ e.symm with h1 | h1 | h1 <;> omega), hbb, hcc, Nat.le_trans hz hg.size⟩
  case hS =>
    rintro b c pre W ⟨hb, hbl, -⟩
    exact ⟨hp.below hbl, fun i => (hbl.cell (p := ⟨Bs, i, none⟩) hBsw).trans (hbox i)⟩
  case h0 =>
    intro W' b c hb hle hlc
    exact ⟨.inl ⟨rfl, (hb.block _ (by omega)).trans b7, (hb.block _ (by omega)).trans b8, (hb.block _ (by omega)).trans b9⟩, hBw.trans (hb.mono (by omega)), (hb.block _ (by omega)).trans b3, hle, hlc, hb.size⟩
  case assign =>
    intro l y W K hK
    gi_wp2
    exact hK
  case body =>
    rintro l b c n0 pre x W ⟨hbest, hbl, h3, hbb, hcc, hz⟩ hrow hcW hxj
    have hxi := hrow.ints
    have c3 := h3.cell
    have HASK := Lib.hid (HA.out W b x hbl hxi hxj)
    have HCL := Lib.hid (fun W1 (hb : Below W.heap.size W W1) => Clone_some ⟨b, 0, none⟩ ml ml x W1 (hxi.below hb) (by omega))
    have HBS := Lib.hid (bestF_snoc f pre x)
    have HSTEP := Lib.hid (show ∀ o, stepF f o x = (match o with | none => some (x, f x) | some (y, m) => if m < f x then some (x, f x) else some (y, m)) from fun o => rfl)
    generalize f x = av at *
    have HRW := Lib.hid hrow
    have HBL := Lib.hid hbl
    have H3 := Lib.hid h3
    have d1 : w.heap.size < W.heap.size := by omega
    have d2 : w.heap.size + 1 < W.heap.size := by omega
    have d3 : w.heap.size + 1 + 1 < W.heap.size := by omega
    have d4 : w.heap.size + 1 + 1 + 1 < W.heap.size := by omega
    have hbW := hrow.lt
    clear hrow hbl h3 hxi
    rcases hbest with ⟨hn, k7, k8, k9⟩ | ⟨y, m, g, cc, hs, k7, k8, k9, hrw, hne1, hne2, hlt2⟩
    · have c9 : W.cell? ⟨w.heap.size + 1 + 1 + 1, 0, none⟩ = some (.bool false) := k9.cell
      have c8 : W.cell? ⟨w.heap.size + 1 + 1, 0, none⟩ = some (.int .i64 0) := k8.cell
      have c7 : W.cell? ⟨w.heap.size + 1, 0, none⟩ = some (.slice none 0 0) := k7.cell
      have g9 : W.frozen? ⟨w.heap.size + 1 + 1 + 1, 0, none⟩ = false := k9.frozen
      have g8 : W.frozen? ⟨w.heap.size + 1 + 1, 0, none⟩ = false := k8.frozen
      have g7 : W.frozen? ⟨w.heap.size + 1, 0, none⟩ = false := k7.frozen
      have HNEW := Lib.hid (show bestF f (pre ++ [x]) = some (x, av) by rw [HBS.out, HSTEP.out, hn])
      clear hn
      gi_wp2_with (first | (refine ⟨trivial, ?_⟩; gi_at_call 74; refine (CallsIn.inRound l (callsIn_wide.2 HASK.out)).mono ?_; rintro e w2 ⟨rfl, hb2⟩; have hz2 := hb2.size; have hc2 : ∀ b o, b < W.heap.size → w2.cell? ⟨b, o, none⟩ = W.cell? ⟨b, o, none⟩ := (fun b o h => hb2.cell (p := ⟨b, o, none⟩) h)) | (refine ⟨trivial, ?_⟩; gi_at_call 103; refine (CallsIn.inRound l (callsIn_wide.2 (HCL.out _ hb2))).mono ?_; rintro e w5 ⟨g5, c5, rfl, hr5, hb5⟩; have hBe := hb2.trans (hb5.mono hz2); have hz5 := hBe.size; have hc5 : ∀ b o, b < W.heap.size → w5.cell? ⟨b, o, none⟩ = W.cell? ⟨b, o, none⟩ := (fun b o h => hBe.cell (p := ⟨b, o, none⟩) h); have hf5 : ∀ b o, b < W.heap.size → w5.frozen? ⟨b, o, none⟩ = W.frozen? ⟨b, o, none⟩ := (fun b o h => hBe.frozen (p := ⟨b, o, none⟩) h); clear hb5))
      exact ⟨((KeepsUp.below hBe).set (by omega) _ |>.set (by omega) _ |>.set (by omega) _),
        BestG.write (k7.kept (grown_none hBe) (by simp)) (k8.kept (grown_none hBe) (by simp)) (k9.kept (grown_none hBe) (by simp)) (hr5.low (by omega)) HNEW.out (by have := hr5.parts.1; omega) (by have := hr5.parts.1; omega) (by have := hr5.parts.1; omega),
        (((HBL.out.trans (hBe.mono HBL.out.size)).setCell (by simp) _).setCell (by simp; omega) _).setCell (by simp; omega) _,
        (((H3.out.kept (grown_none hBe) (by simp)).other (by omega) _).other (by omega) _).other (by omega) _, hbb, hcc, by simp [World.setCell]; omega⟩
    · have c9 : W.cell? ⟨w.heap.size + 1 + 1 + 1, 0, none⟩ = some (.bool true) := k9.cell
      have c8 : W.cell? ⟨w.heap.size + 1 + 1, 0, none⟩ = some (.int .i64 m) := k8.cell
      have c7 : W.cell? ⟨w.heap.size + 1, 0, none⟩ = some (.slice (some ⟨g, 0, none⟩) ml cc) := k7.cell
      have g9 : W.frozen? ⟨w.heap.size + 1 + 1 + 1, 0, none⟩ = false := k9.frozen
      have g8 : W.frozen? ⟨w.heap.size + 1 + 1, 0, none⟩ = false := k8.frozen
      have g7 : W.frozen? ⟨w.heap.size + 1, 0, none⟩ = false := k7.frozen
      have HBEST := Lib.hid (show BestG f ml (w.heap.size + 1) w.heap.size b c pre W from .inr ⟨y, m, g, cc, hs, k7, k8, k9, hrw, hne1, hne2, hlt2⟩)
      clear hrw
      by_cases hlt : m < av
      · have HNEW := Lib.hid (show bestF f (pre ++ [x]) = some (x, av) by rw [HBS.out, HSTEP.out, hs]; simp [hlt])
        clear hs
        gi_wp2_with (first | (refine ⟨trivial, ?_⟩; gi_at_call 74; refine (CallsIn.inRound l (callsIn_wide.2 HASK.out)).mono ?_; rintro e w2 ⟨rfl, hb2⟩; have hz2 := hb2.size; have hc2 : ∀ b o, b < W.heap.size → w2.cell? ⟨b, o, none⟩ = W.cell? ⟨b, o, none⟩ := (fun b o h => hb2.cell (p := ⟨b, o, none⟩) h)) | (refine ⟨trivial, ?_⟩; gi_at_call 103; refine (CallsIn.inRound l (callsIn_wide.2 (HCL.out _ hb2))).mono ?_; rintro e w5 ⟨g5, c5, rfl, hr5, hb5⟩; have hBe := hb2.trans (hb5.mono hz2); have hz5 := hBe.size; have hc5 : ∀ b o, b < W.heap.size → w5.cell? ⟨b, o, none⟩ = W.cell? ⟨b, o, none⟩ := (fun b o h => hBe.cell (p := ⟨b, o, none⟩) h); have hf5 : ∀ b o, b < W.heap.size → w5.frozen? ⟨b, o, none⟩ = W.frozen? ⟨b, o, none⟩ := (fun b o h => hBe.frozen (p := ⟨b, o, none⟩) h); clear hb5))
        exact ⟨((KeepsUp.below hBe).set (by omega) _ |>.set (by omega) _ |>.set (by omega) _),
          BestG.write (k7.kept (grown_none hBe) (by simp)) (k8.kept (grown_none hBe) (by simp)) (k9.kept (grown_none hBe) (by simp)) (hr5.low (by omega)) HNEW.out (by have := hr5.parts.1; omega) (by have := hr5.parts.1; omega) (by have := hr5.parts.1; omega),
          (((HBL.out.trans (hBe.mono HBL.out.size)).setCell (by simp) _).setCell (by simp; omega) _).setCell (by simp; omega) _,
          (((H3.out.kept (grown_none hBe) (by simp)).other (by omega) _).other (by omega) _).other (by omega) _, hbb, hcc, by simp [World.setCell]; omega⟩
      · have HNEW := Lib.hid (show bestF f (pre ++ [x]) = bestF f pre by rw [HBS.out, HSTEP.out, hs]; simp [hlt])
        clear hs
        gi_wp2_with (first | (refine ⟨trivial, ?_⟩; gi_at_call 74; refine (CallsIn.inRound l (callsIn_wide.2 HASK.out)).mono ?_; rintro e w2 ⟨rfl, hb2⟩; have hz2 := hb2.size; have hc2 : ∀ b o, b < W.heap.size → w2.cell? ⟨b, o, none⟩ = W.cell? ⟨b, o, none⟩ := (fun b o h => hb2.cell (p := ⟨b, o, none⟩) h)) | (refine ⟨trivial, ?_⟩; gi_at_call 103; refine (CallsIn.inRound l (callsIn_wide.2 (HCL.out _ hb2))).mono ?_; rintro e w5 ⟨g5, c5, rfl, hr5, hb5⟩; have hBe := hb2.trans (hb5.mono hz2); have hz5 := hBe.size; have hc5 : ∀ b o, b < W.heap.size → w5.cell? ⟨b, o, none⟩ = W.cell? ⟨b, o, none⟩ := (fun b o h => hBe.cell (p := ⟨b, o, none⟩) h); have hf5 : ∀ b o, b < W.heap.size → w5.frozen? ⟨b, o, none⟩ = W.frozen? ⟨b, o, none⟩ := (fun b o h => hBe.frozen (p := ⟨b, o, none⟩) h); clear hb5))
        exact ⟨KeepsUp.below hb2, HBEST.out.of hb2 HNEW.out (by omega) (by omega), HBL.out.trans (hb2.mono HBL.out.size), H3.out.kept (grown_none hb2) (by simp), hbb, hcc, by omega⟩
  case done =>
    rintro D b c W hD ⟨hbest, hbl, h3, hbb, hcc, hz⟩ hK
    have hbel := hbl.drew.trans (belowK_b (w := w) (Nat.le_refl _) W.drew D _ (.deferred none) (by omega) hK rfl rfl)
    rcases hbest with ⟨hn, k7, k8, k9⟩ | ⟨y, m, g, cc, hs, k7, k8, k9, hrw, hne1, hne2, hlt2⟩
    · have c9 : W.cell? ⟨w.heap.size + 1 + 1 + 1, 0, none⟩ = some (.bool false) := k9.cell
      have c8 : W.cell? ⟨w.heap.size + 1 + 1, 0, none⟩ = some (.int .i64 0) := k8.cell
      have c7 : W.cell? ⟨w.heap.size + 1, 0, none⟩ = some (.slice none 0 0) := k7.cell
      have HN := Lib.hid hn; clear hn
      have hmx : Try.prog.follows .mixedOrders = true := by kernel_rfl
      gi_wp2
      refine wpIn_mono ?_ NoPanic.imp
      gi_region_with_o (fail)
      all_goals (try simp only [NoPanic])
      all_goals (try gi_wp2)
      all_goals refine ⟨by simp, .inl ⟨_, _, rfl, run_takeDeferred hK, ?_⟩⟩
      all_goals exact ⟨.tuple #[.slice none 0 0, .int .i64 0, .bool false], by simp [results, Try.results76, go_sem], hbel, .inl ⟨HN.out, rfl⟩⟩
    · have c9 : W.cell? ⟨w.heap.size + 1 + 1 + 1, 0, none⟩ = some (.bool true) := k9.cell
      have c8 : W.cell? ⟨w.heap.size + 1 + 1, 0, none⟩ = some (.int .i64 m) := k8.cell
      have c7 : W.cell? ⟨w.heap.size + 1, 0, none⟩ = some (.slice (some ⟨g, 0, none⟩) ml cc) := k7.cell
      have HS := Lib.hid hs; clear hs
      have hmx : Try.prog.follows .mixedOrders = true := by kernel_rfl
      have hrD := hrw.drew.other (grownBy_putObj' W.drew D (.deferred none)) (by
        intro e; injection e with e
        obtain ⟨_, _, _, cur, hcur, _⟩ := hrw.parts
        rw [e, hK] at hcur; cases hcur)
      gi_wp2
      refine wpIn_mono ?_ NoPanic.imp
      gi_region_with_o (fail)
      all_goals (try simp only [NoPanic])
      all_goals (try gi_wp2)
      all_goals refine ⟨by simp, .inl ⟨_, _, rfl, run_takeDeferred hK, ?_⟩⟩
      all_goals exact ⟨.tuple #[.slice (some ⟨g, 0, none⟩) ml cc, .int .i64 m, .bool true], by simp [results, Try.results76, go_sem], hbel, .inr ⟨y, m, g, cc, HS.out, rfl, hrD⟩⟩
end Go.Proofs.Ytigeiaiohdemiaa
