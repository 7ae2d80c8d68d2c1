/- VG VH VI VJ, joined. -/
import Derived.Test.YtcklhojeneejiaaVD
import Derived.Test.YtcklhojeneejiaaWA
/- The reference's layouts and the program's are the same ones, in the same order. -/
namespace Go.Proofs.Ytcklhojeneejiaa
set_option linter.unusedVariables false
set_option linter.unusedSimpArgs false
open Go.RowKit

theorem PFrame.okW.lo_hi {f : PFrame} (h : f.okW) (x : Int) : f.lo x ≤ f.hi x := by
  obtain ⟨cs, h1, -⟩ := h
  exact PFrame.lo_hi h1 x
/-- A set of at most three kinds, with none of those that are not there. -/
def padT (x : List Int) : T3 := ⟨x[0]?.getD 0, x[1]?.getD 0, x[2]?.getD 0⟩
theorem rng_z {a : Int} (h : 0 ≤ a) : rng 0 a = (List.range (a + 1).toNat).map fun (n : Nat) => (n : Int) := by
  unfold rng
  rw [show (a + 1 - 0).toNat = (a + 1).toNat by omega]
  exact List.map_congr_left fun i _ => by omega
theorem flatMap_cg {α β : Type} {g h : α → List β} : ∀ {xs : List α}, (∀ x ∈ xs, g x = h x) → xs.flatMap g = xs.flatMap h
  | [], _ => rfl
  | x :: xs, k => by rw [List.flatMap_cons, List.flatMap_cons, k x (by simp), flatMap_cg fun y hy => k y (by simp [hy])]
theorem flatMap_filt {α β : Type} {p : α → Bool} {g : α → List β} : ∀ {xs : List α}, (xs.filter p).flatMap g = xs.flatMap fun x => if p x = true then g x else []
  | [] => rfl
  | x :: xs => by
    rw [List.filter_cons, List.flatMap_cons, ← flatMap_filt]
    by_cases h : p x = true
    · rw [if_pos h, if_pos h, List.flatMap_cons]
    · rw [if_neg h, if_neg h]; rfl
theorem flatMap_mp {α β γ : Type} {p : α → β} {g : β → List γ} : ∀ {xs : List α}, (xs.map p).flatMap g = xs.flatMap fun x => g (p x)
  | [] => rfl
  | x :: xs => by rw [List.map_cons, List.flatMap_cons, List.flatMap_cons, flatMap_mp]
theorem mp_flatMap {α β γ : Type} {p : β → γ} {g : α → List β} : ∀ {xs : List α}, (xs.flatMap g).map p = xs.flatMap fun x => (g x).map p
  | [] => rfl
  | x :: xs => by rw [List.flatMap_cons, List.map_append, List.flatMap_cons, mp_flatMap]
theorem rng_0 : rng 0 0 = [0] := rfl
theorem setsF_pad : ∀ (left : List Int), left.length ≤ 3 → (∀ y ∈ left, 0 ≤ y) → (setsF left []).map padT = allS (padT left)
  | [], _, _ => rfl
  | [a], _, h => by
    have ha := h a (by simp)
    show List.map padT ((List.range (a + 1).toNat).flatMap fun (n : Nat) => [[(n : Int)]]) = allS ⟨a, 0, 0⟩
    unfold allS
    simp only [rng_z ha, rng_0, mp_flatMap, flatMap_mp, List.map_cons, List.map_nil, List.flatMap_cons, List.flatMap_nil, List.append_nil]
    rfl
  | [a, b], _, h => by
    have ha := h a (by simp)
    have hb := h b (by simp)
    show List.map padT ((List.range (a + 1).toNat).flatMap fun (n : Nat) => (List.range (b + 1).toNat).flatMap fun (m : Nat) => [[(n : Int), (m : Int)]]) = allS ⟨a, b, 0⟩
    unfold allS
    simp only [rng_z ha, rng_z hb, rng_0, mp_flatMap, flatMap_mp, List.map_cons, List.map_nil]
    rfl
  | [a, b, c], _, h => by
    have ha := h a (by simp)
    have hb := h b (by simp)
    have hc := h c (by simp)
    show List.map padT ((List.range (a + 1).toNat).flatMap fun (n : Nat) => (List.range (b + 1).toNat).flatMap fun (m : Nat) => (List.range (c + 1).toNat).flatMap fun (k : Nat) => [[(n : Int), (m : Int), (k : Int)]]) = allS ⟨a, b, c⟩
    unfold allS
    simp only [rng_z ha, rng_z hb, rng_z hc, mp_flatMap, flatMap_mp, List.map_cons, List.map_nil, List.map_map]
    refine flatMap_cg fun n _ => flatMap_cg fun m _ => ?_
    rw [List.map_eq_flatMap]
    rfl
  | _ :: _ :: _ :: _ :: _, h, _ => by simp at h
theorem pts_pad {f : PFrame} {s : List Int} (hl : s.length = f.strips.length) (h3 : f.strips.length ≤ 3) : f.pts (padT s) = f.ptsL s := by
  unfold PFrame.pts PFrame.ptsL PFrame.thick padT
  obtain ⟨S, hS⟩ : ∃ S, f.strips = S := ⟨_, rfl⟩
  rw [hS] at hl h3 ⊢
  match S, s, hl, h3 with
  | [], [], _, _ => simp [ptsZ]
  | [p], [x], _, _ => simp [ptsZ]
  | [p, q], [x, y], _, _ => simp [ptsZ]
  | [p, q, r], [x, y, z], _, _ => simp [ptsZ]; omega
  | _ :: _ :: _ :: _ :: _, _, _, h => simp at h
theorem sub_pad {l s : List Int} (hl : s.length = l.length) : subS (padT l) (padT s) = padT (subI l s) := by
  have e : ∀ k : Nat, (subI l s)[k]?.getD 0 = l[k]?.getD 0 - s[k]?.getD 0 := fun k => by
    unfold subI
    rw [List.getElem?_zipWith]
    by_cases hk : k < l.length
    · rw [List.getElem?_eq_getElem hk, List.getElem?_eq_getElem (show k < s.length by omega)]; rfl
    · rw [List.getElem?_eq_none (show l.length ≤ k by omega), List.getElem?_eq_none (show s.length ≤ k by omega)]; rfl
  unfold subS padT
  rw [e, e, e]
theorem keepC_zero (xs : List Int) : keepC 0 xs = xs := by
  unfold keepC
  rw [List.filter_eq_self]
  intro v _
  simp [hasI, hasN]
theorem room_sure {f : PFrame} {x s : List Int} (hlh : f.loS x ≤ f.hiS x) (h0 : 0 ≤ f.ptsL s) (hp : f.pts (padT s) = f.ptsL s) : inRoom f (f.roomLo x, f.roomHi x) (padT s) = f.sureB x (f.ptsL s) := by
  unfold inRoom PFrame.sureB
  rw [hp]
  unfold btw PFrame.roomLo PFrame.roomHi
  rw [← Bool.decide_and, decide_eq_decide]
  constructor
  · rintro ⟨h1, h2⟩
    have := Int.le_trans (Int.le_max_right 0 _) h1
    simp only at h2
    omega
  · rintro ⟨⟨h1, h2⟩, h3, h4⟩
    exact ⟨Int.max_le.2 ⟨h0, by omega⟩, by simp only; omega⟩
/-- The layouts of the columns from one on are those that the program finds. -/
theorem layR_laysF {f : PFrame} (ho : f.okW) : ∀ (d c : Nat) (left : List Int) (begun : List T3), c + d = f.cols.length → left.length = f.strips.length → (∀ y ∈ left, 0 ≤ y ∧ y ≤ 4) →
    laysF f ((f.roomsOf 0).drop c) (padT left) begun = (f.layR d c left).map fun t => begun ++ t.map padT
  | 0, c, left, begun, hc, _, _ => by
    have e : (f.roomsOf 0).drop c = [] := List.drop_eq_nil_of_le (by unfold PFrame.roomsOf; rw [List.length_map]; omega)
    rw [e]
    simp [laysF, PFrame.layR]
  | d + 1, c, left, begun, hc, hl, h4 => by
    have hcl : c < f.cols.length := by omega
    have hst3 := ho.parts.2.2.2.2.1
    have e : (f.roomsOf 0).drop c = (f.roomLo f.cols[c], f.roomHi f.cols[c]) :: (f.roomsOf 0).drop (c + 1) := by
      rw [List.drop_eq_getElem_cons (by unfold PFrame.roomsOf; rw [List.length_map]; exact hcl)]
      unfold PFrame.roomsOf
      rw [List.getElem_map, keepC_zero]
    rw [e, laysF]
    unfold PFrame.setsOf
    rw [← setsF_pad left (by omega) (fun y hy => (h4 y hy).1), flatMap_filt, flatMap_mp]
    unfold PFrame.layR
    rw [mp_flatMap]
    refine flatMap_cg fun s hs => ?_
    obtain ⟨i, hi, rfl⟩ := List.mem_iff_getElem.1 hs
    obtain ⟨g1, g2⟩ := setsF_get (fun r hr => (h4 r hr).1) hi
    obtain ⟨g3, g4⟩ := subI_bd g1 h4 g2
    have hb4 : ∀ k (hk : k < (setsF left [])[i].length), 0 ≤ (setsF left [])[i][k] ∧ (setsF left [])[i][k] ≤ 4 := fun k hk => by
      have := g2 k hk (by omega)
      have := h4 _ (List.getElem_mem (show k < left.length by omega))
      omega
    have hpp := ho.ptsL_bd hb4
    rw [room_sure (sumG_le' ho.lo_hi) hpp.1 (pts_pad (by omega) hst3), List.getElem?_eq_getElem hcl]
    show (if f.sureB f.cols[c] (f.ptsL (setsF left [])[i]) = true then _ else _) = List.map _ (if f.sureB f.cols[c] (f.ptsL (setsF left [])[i]) = true then _ else _)
    split
    · rw [sub_pad g1, layR_laysF ho d (c + 1) _ _ (by omega) (by omega) g4, List.map_map]
      refine List.map_congr_left fun t _ => ?_
      simp
    · rfl
/-- How many strips a layout has, in lists of lists. -/
def cntM (x : List (List Int)) : Int := (x.map List.sum).sum
/-- The one with the fewest strips, the first of several. -/
def bestR (xs : List (List (List Int))) : Option (List (List Int)) := xs.foldl (fun o x => match o with | none => some x | some y => if cntM x < cntM y then some x else some y) none
theorem bestR_snoc (xs : List (List (List Int))) (x : List (List Int)) : bestR (xs ++ [x]) = (match bestR xs with | none => some x | some y => if cntM x < cntM y then some x else some y) := by
  unfold bestR; rw [List.foldl_append]; rfl
theorem best_fold_pad : ∀ (xs : List (List (List Int))) (o : Option (List (List Int))), (∀ x ∈ xs, cntL (x.map padT) = cntM x) → (∀ y, o = some y → cntL (y.map padT) = cntM y) →
    (xs.map (List.map padT)).foldl (fun o x => match o with | none => some x | some y => if cntL x < cntL y then some x else some y) (o.map (List.map padT)) = (xs.foldl (fun o x => match o with | none => some x | some y => if cntM x < cntM y then some x else some y) o).map (List.map padT) ∧
    ∀ y, xs.foldl (fun o x => match o with | none => some x | some y => if cntM x < cntM y then some x else some y) o = some y → o = some y ∨ y ∈ xs
  | [], o, _, _ => ⟨rfl, fun y h => .inl h⟩
  | x :: xs, o, h, ho => by
    have hx := h x (by simp)
    rw [List.map_cons, List.foldl_cons, List.foldl_cons]
    cases o with
    | none =>
      obtain ⟨i1, i2⟩ := best_fold_pad xs (some x) (fun y hy => h y (by simp [hy])) (fun y hy => by injection hy with hy; subst hy; exact hx)
      refine ⟨i1, fun y hy => .inr ?_⟩
      rcases i2 y hy with e | e
      · injection e with e; subst e; simp
      · simp [e]
    | some z =>
      have hz := ho z rfl
      simp only [Option.map_some]
      rw [hx, hz]
      by_cases hc : cntM x < cntM z
      · rw [if_pos hc, if_pos hc]
        obtain ⟨i1, i2⟩ := best_fold_pad xs (some x) (fun y hy => h y (by simp [hy])) (fun y hy => by injection hy with hy; subst hy; exact hx)
        refine ⟨i1, fun y hy => .inr ?_⟩
        rcases i2 y hy with e | e
        · injection e with e; subst e; simp
        · simp [e]
      · rw [if_neg hc, if_neg hc]
        obtain ⟨i1, i2⟩ := best_fold_pad xs (some z) (fun y hy => h y (by simp [hy])) (fun y hy => by injection hy with hy; subst hy; exact hz)
        refine ⟨i1, fun y hy => ?_⟩
        rcases i2 y hy with e | e
        · exact .inl e
        · exact .inr (by simp [e])
theorem bestL_pad (xs : List (List (List Int))) (h : ∀ x ∈ xs, cntL (x.map padT) = cntM x) : bestL (xs.map (List.map padT)) = (bestR xs).map (List.map padT) ∧ ∀ y, bestR xs = some y → y ∈ xs := by
  obtain ⟨h1, h2⟩ := best_fold_pad xs none h (fun y hy => by cases hy)
  exact ⟨h1, fun y hy => (h2 y hy).elim (fun e => by cases e) id⟩
theorem cnt_pad {s : List Int} (h : s.length ≤ 3) : cntS (padT s) = s.sum := by
  unfold cntS padT
  match s, h with
  | [], _ => simp
  | [a], _ => simp
  | [a, b], _ => simp
  | [a, b, c], _ => simp; omega
  | _ :: _ :: _ :: _ :: _, h => simp at h
theorem cntL_pad {x : List (List Int)} (h : ∀ s ∈ x, s.length ≤ 3) : cntL (x.map padT) = cntM x := by
  unfold cntL cntM
  rw [List.map_map]
  congr 1
  exact List.map_congr_left fun s hs => cnt_pad (h s hs)
/-- The sets of a layout that is found are sets of what is there. -/
theorem layR_sets (f : PFrame) : ∀ (d c : Nat) (left : List Int) (t : List (List Int)), (∀ y ∈ left, 0 ≤ y ∧ y ≤ 4) → t ∈ f.layR d c left → ∀ s ∈ t, s.length = left.length ∧ ∀ y ∈ s, 0 ≤ y ∧ y ≤ 4
  | 0, c, left, t, _, h => by simp [PFrame.layR] at h; simp [h]
  | d + 1, c, left, t, h4, h => by
    unfold PFrame.layR at h
    obtain ⟨s, hsm, hs⟩ := List.mem_flatMap.1 h
    obtain ⟨i, hi, rfl⟩ := List.mem_iff_getElem.1 hsm
    obtain ⟨g1, g2⟩ := setsF_get (fun r hr => (h4 r hr).1) hi
    obtain ⟨g3, g4⟩ := subI_bd g1 h4 g2
    split at hs
    · obtain ⟨t', ht', rfl⟩ := List.mem_map.1 hs
      intro s' hs'
      rcases List.mem_cons.1 hs' with rfl | hs'
      · refine ⟨g1, fun y hy => ?_⟩
        obtain ⟨k, hk, rfl⟩ := List.mem_iff_getElem.1 hy
        have := g2 k hk (by omega)
        have := h4 _ (List.getElem_mem (show k < left.length by omega))
        omega
      · have := layR_sets f d (c + 1) _ t' g4 ht' s' hs'
        rw [g3] at this
        exact this
    · simp at hs
/-- What there is of each kind. -/
def PFrame.stockL (f : PFrame) : List Int := f.strips.map Strip.m
theorem stockL_bd {f : PFrame} (ho : f.okW) : ∀ y ∈ f.stockL, 0 ≤ y ∧ y ≤ 4 := by
  intro y hy
  obtain ⟨s, hs, rfl⟩ := List.mem_map.1 hy
  obtain ⟨i, hi, rfl⟩ := List.mem_iff_getElem.1 hs
  have := ho.strip i hi
  omega
theorem stock_pad (f : PFrame) : padT f.stockL = f.stock := by
  unfold padT PFrame.stockL PFrame.stock PFrame.many
  rw [List.getElem?_map, List.getElem?_map, List.getElem?_map]
/-- All layouts, as the reference finds them. -/
def PFrame.layRs (f : PFrame) : List (List (List Int)) := f.layR f.cols.length 0 f.stockL
def PFrame.lockR (f : PFrame) : Option (List (List Int)) := bestR f.layRs
theorem lays_are {f : PFrame} (ho : f.okW) : f.lays 0 = f.layRs.map (List.map padT) := by
  have h := layR_laysF ho f.cols.length 0 f.stockL [] (by omega) (by unfold PFrame.stockL; simp) (stockL_bd ho)
  rw [List.drop_zero, stock_pad] at h
  unfold PFrame.lays PFrame.layRs
  rw [h]
  exact List.map_congr_left fun t _ => by simp
theorem layRs_ok {f : PFrame} (ho : f.okW) {x : List (List Int)} (h : x ∈ f.layRs) : x.length = f.cols.length ∧ ∀ s ∈ x, s.length = f.strips.length ∧ ∀ y ∈ s, 0 ≤ y ∧ y ≤ 4 := by
  refine ⟨layR_len f _ _ _ x h, fun s hs => ?_⟩
  have := layR_sets f _ _ _ x (stockL_bd ho) h s hs
  rw [show f.stockL.length = f.strips.length by unfold PFrame.stockL; simp] at this
  exact this
theorem best_are {f : PFrame} (ho : f.okW) : bestL (f.lays 0) = f.lockR.map (List.map padT) ∧ ∀ y, f.lockR = some y → y ∈ f.layRs := by
  rw [lays_are ho]
  exact bestL_pad f.layRs fun x hx => cntL_pad fun s hs => by
    have := ((layRs_ok ho hx).2 s hs).1
    have := ho.parts.2.2.2.2.1
    omega
theorem sum_bd {x : List Int} {B : Int} : (∀ y ∈ x, 0 ≤ y ∧ y ≤ B) → 0 ≤ x.sum ∧ x.sum ≤ B * x.length := by
  induction x with
  | nil => intro _; simp
  | cons a x ih =>
    intro h
    have h1 := h a (by simp)
    have h2 := ih fun y hy => h y (by simp [hy])
    rw [List.sum_cons, List.length_cons]
    push_cast
    rw [Int.mul_add]
    omega
theorem cntM_bd {f : PFrame} (ho : f.okW) {x : List (List Int)} (h : ∀ s ∈ x, s.length = f.strips.length ∧ ∀ y ∈ s, 0 ≤ y ∧ y ≤ 4) : 0 ≤ cntM x ∧ cntM x ≤ 12 * x.length := by
  unfold cntM
  have h3 := ho.parts.2.2.2.2.1
  have := sum_bd (x := x.map List.sum) (B := 12) fun y hy => by
    obtain ⟨s, hs, rfl⟩ := List.mem_map.1 hy
    obtain ⟨h1, h2⟩ := h s hs
    have := sum_bd h2
    omega
  rwa [List.length_map] at this
theorem take_pad {s : List Int} {k : Nat} (hl : s.length = k) (h3 : k ≤ 3) : [(padT s).a, (padT s).b, (padT s).c].take k = s := by
  subst hl
  unfold padT
  match s, h3 with
  | [], _ => rfl
  | [a], _ => rfl
  | [a, b], _ => rfl
  | [a, b, c], _ => rfl
  | _ :: _ :: _ :: _ :: _, h => simp at h
end Go.Proofs.Ytcklhojeneejiaa

/- The reference: Sum, stock, Many. -/
namespace Go.Proofs.Ytcklhojeneejiaa
set_option linter.unusedVariables false
set_option linter.unusedSimpArgs false
open Go.RowKit Go.Shelf

theorem sum_next {x : List Int} {k : Nat} (h : k < x.length) : (x.take (k + 1)).sum = (x.take k).sum + x[k] := by
  rw [List.take_succ_eq_append_getElem h, List.sum_append]; simp

set_option maxRecDepth 100000 in
set_option maxHeartbeats 4000000 in
theorem refSum_any (xa : Option Addr) (xl xc : Nat) (x : List Int) (hl : xl ≤ 100) (hb : ∀ y ∈ x, 0 ≤ y ∧ y ≤ 1000) (w : World) (hx : IntsAt w xa xl x) :
    Calls Try.prog 103 #[.slice xa xl xc] w fun e w' => e = .returned (.int .i64 x.sum) ∧ Below w.heap.size w w' := by
  obtain ⟨hxl, hxm, hxc⟩ := hx
  have HXL := Lib.hid hxl
  have HXC := Lib.hid hxc
  have HN := Lib.hid (fun k (h : k < x.length) => sum_next (x := x) h)
  have HBD := Lib.hid (fun k => show 0 ≤ (x.take k).sum ∧ (x.take k).sum ≤ 100000 from by
    have := sum_bd (x := x.take k) (B := 1000) (fun y hy => hb y (List.mem_of_mem_take hy))
    rw [List.length_take] at this
    omega)
  have HXB := Lib.hid (fun k (h : k < x.length) => hb x[k] (List.getElem_mem h))
  have HE := Lib.hid (show (x.take xl).sum = x.sum from by rw [List.take_of_length_le (by omega)])
  have HE0 := Lib.hid (show (x.take 0).sum = 0 from by simp)
  clear hxl hxm hxc hb
  go_enter Try.func103, Try.ntmps103
  go_wp2_with fail
  go_loopw [3, 4] (fun n i wr => ∃ k : Nat, k ≤ xl ∧ i = .int .i64 k ∧ n = .int .i64 (x.take k).sum ∧ Below w.heap.size w wr) (fun _ i _ => xl - (intOf i).toNat)
  case atStart => exact ⟨0, by omega, rfl, by rw [HE0.out], Below.refl _ _⟩
  case round =>
    obtain ⟨k, hk, rfl, rfl, hB⟩ := hrel
    obtain ⟨hb1, hb2⟩ := HBD.out k
    have HB := Lib.hid hB
    by_cases hlt : k < xl
    · have hk3 : k < x.length := by rw [HXL.out]; exact hlt
      obtain ⟨b', o', rfl, hbB', hcx'⟩ := HXC.out (by omega)
      have hcx := (hB.cell (p := ⟨b', o' + k, none⟩) hbB').trans (hcx' k hk3)
      have hkl : (k : Int) < (xl : Int) := by omega
      have hk0 : (0 : Int) ≤ (k : Int) := by omega
      have HNK := Lib.hid (HN.out k hk3)
      obtain ⟨v1, v2⟩ := HXB.out k hk3
      clear hcx' hB
      generalize x[k] = v at *
      generalize (x.take k).sum = n at *
      have hw2 : IntKind.i64.wrap (n + v) = n + v := IntWalk.i64_in _ ⟨by omega, by omega⟩
      clear hk3
      go_wp2_with fail
      go_roundw
      case rel => exact ⟨k + 1, by omega, by go_num, by rw [HNK.out], HB.out⟩
      case measure => simp [intOf]; omega
    · obtain rfl : xl = k := by omega
      clear hB
      go_wp2_with fail
      go_ret
      exact ⟨ret_i64 HE.out, HB.out⟩

set_option maxRecDepth 100000 in
set_option maxHeartbeats 4000000 in
theorem refMany_any (xa : Option Addr) (xl xc : Nat) (x : List (List Int)) (hl : xl ≤ 100) (hb : ∀ s ∈ x, s.length ≤ 100 ∧ ∀ y ∈ s, 0 ≤ y ∧ y ≤ 1000) (w : World) (hx : ListsAt w xa xl x) :
    Calls Try.prog 62 #[.slice xa xl xc] w fun e w' => e = .returned (.int .i64 (cntM x)) ∧ Below w.heap.size w w' := by
  obtain ⟨hxl, hxm, hxc⟩ := hx
  have HXL := Lib.hid hxl
  have HXC := Lib.hid hxc
  have HN := Lib.hid (fun k (h : k < x.length) => show cntM (x.take (k + 1)) = cntM (x.take k) + x[k].sum from by
    unfold cntM
    rw [List.take_succ_eq_append_getElem h, List.map_append, List.sum_append]; simp)
  have hsb : ∀ s ∈ x, 0 ≤ s.sum ∧ s.sum ≤ 100000 := fun s hs => by
    obtain ⟨h1, h2⟩ := hb s hs
    have := sum_bd h2
    omega
  have HBD := Lib.hid (fun k => show 0 ≤ cntM (x.take k) ∧ cntM (x.take k) ≤ 10000000 from by
    have := sum_bd (x := (x.take k).map List.sum) (B := 100000) (fun y hy => by
      obtain ⟨s, hs, rfl⟩ := List.mem_map.1 hy
      exact hsb s (List.mem_of_mem_take hs))
    unfold cntM
    rw [List.length_map, List.length_take] at this
    omega)
  have HXB := Lib.hid (fun k (h : k < x.length) => hsb x[k] (List.getElem_mem h))
  have HSM := Lib.hid (fun k (h : k < x.length) ra rl rc W (hi : IntsAt W ra rl x[k]) => refSum_any ra rl rc x[k] (by have := hi.1; have := (hb x[k] (List.getElem_mem h)).1; omega) (hb x[k] (List.getElem_mem h)).2 W hi)
  have HE := Lib.hid (show cntM (x.take xl) = cntM x from by rw [List.take_of_length_le (by omega)])
  have HE0 := Lib.hid (show cntM (x.take 0) = 0 from by simp [cntM])
  clear hxl hxm hxc hb hsb
  go_enter Try.func62, Try.ntmps62
  go_wp2_with fail
  go_loopw [3, 4] (fun n i wr => ∃ k : Nat, k ≤ xl ∧ i = .int .i64 k ∧ n = .int .i64 (cntM (x.take k)) ∧ Below w.heap.size w wr) (fun _ i _ => xl - (intOf i).toNat)
  case atStart => exact ⟨0, by omega, rfl, by rw [HE0.out], Below.refl _ _⟩
  case round =>
    obtain ⟨k, hk, rfl, rfl, hB⟩ := hrel
    obtain ⟨hb1, hb2⟩ := HBD.out k
    have HB := Lib.hid hB
    by_cases hlt : k < xl
    · have hk3 : k < x.length := by rw [HXL.out]; exact hlt
      obtain ⟨b', o', rfl, hbB', hcx'⟩ := HXC.out (by omega)
      obtain ⟨ra, rl, rc, hcx0, hrc, hri⟩ := hcx' k hk3
      have hcx := (hB.cell (p := ⟨b', o' + k, none⟩) hbB').trans hcx0
      have hkl : (k : Int) < (xl : Int) := by omega
      have hk0 : (0 : Int) ≤ (k : Int) := by omega
      have HNK := Lib.hid (HN.out k hk3)
      obtain ⟨v1, v2⟩ := HXB.out k hk3
      have HS := Lib.hid (fun W (h : Below wr.heap.size wr W) => HSM.out k hk3 ra rl rc W (hri.below (hB.trans (h.mono hB.size))))
      clear hcx' hcx0 hri hB HSM HN HXB
      generalize x[k].sum = v at *
      generalize cntM (x.take k) = n at *
      have hw2 : IntKind.i64.wrap (n + v) = n + v := IntWalk.i64_in _ ⟨by omega, by omega⟩
      clear hk3
      go_wp2_with fail
      refine (HS.out _ (by repeat (first | exact Below.refl _ _ | (refine Below.alloc ?_ (by first | omega | (simp; omega) | simp) _) | (refine Below.setCell ?_ (by first | omega | (simp; omega) | simp) _) | refine Below.drew ?_))).mono ?_
      rintro e w2 ⟨rfl, hb3⟩
      go_wp2_with fail
      go_roundw
      case rel => exact ⟨k + 1, by omega, by go_num, by rw [HNK.out], HB.out.trans (hb3.mono HB.out.size)⟩
      case measure => simp [intOf]; omega
    · obtain rfl : xl = k := by omega
      clear hB
      go_wp2_with fail
      go_ret
      exact ⟨ret_i64 HE.out, HB.out⟩

set_option maxRecDepth 100000 in
set_option maxHeartbeats 8000000 in
theorem refStock_any (f : PFrame) (sa : Option Addr) (sl sc : Nat) (pa : Option Addr) (pl pc : Nat) (ca : Option Addr) (cl cc : Nat) (ho : f.okW) (w : World) (hp : PAt w sa sl sc pa pl pc ca cl cc f) :
    Calls Try.prog 92 #[.agg #[.int .i64 f.len, .int .i64 f.slack, .slice sa sl sc, .slice pa pl pc, .slice ca cl cc]] w fun e w' => ∃ v, e = .returned v ∧ w'.ownsRow w.heap.size 3 1 v f.strips.length (f.stockL.map (Value.int .i64)) ∧ Below w.heap.size w w' := by
  obtain ⟨hsl, hsm, hsc⟩ := hp.1
  have hst3 := ho.parts.2.2.2.2.1
  have HSL := Lib.hid hsl
  have HSC := Lib.hid hsc
  have HN := Lib.hid (fun k (h : k < f.strips.length) => show f.stockL.take (k + 1) = f.stockL.take k ++ [f.strips[k].m] from by
    unfold PFrame.stockL
    rw [List.take_succ_eq_append_getElem (by simpa using h)]; simp)
  have HLN := Lib.hid (fun k (h : k ≤ f.strips.length) => show (f.stockL.take k).length = k from by unfold PFrame.stockL; simp; omega)
  have HE := Lib.hid (show f.stockL.take sl = f.stockL from List.take_of_length_le (by unfold PFrame.stockL; simp; omega))
  have hsl3 : sl ≤ 3 := by omega
  clear hp hsl hsm hsc
  go_enter Try.func92, Try.ntmps92
  go_wp2_with fail
  obtain ⟨W0, hW0, hB0, hs0, hz0⟩ := name1k w #[.int .i64 f.len, .int .i64 f.slack, .slice sa sl sc, .slice pa pl pc, .slice ca cl cc] 26
  rw [hW0]
  clear hW0
  have HB0 := Lib.hid hB0
  have HX2 := Lib.hid (show W0.cell? ⟨w.heap.size, 2, none⟩ = some (.slice sa sl sc) from hs0 2)
  clear hB0 hs0
  go_loopw [3, 4] (fun v i wr => ∃ k : Nat, k ≤ sl ∧ i = .int .i64 k ∧ wr.ownsRow W0.heap.size 3 1 v k ((f.stockL.take k).map (Value.int .i64)) ∧ Below W0.heap.size W0 wr) (fun _ i _ => sl - (intOf i).toNat)
  case atStart => exact ⟨0, by omega, rfl, ⟨rfl, .inl ⟨rfl, rfl⟩⟩, Below.refl _ _⟩
  case round =>
    obtain ⟨k, hk, rfl, hO, hB⟩ := hrel
    obtain ⟨o3, rfl⟩ : ∃ o3 : Value, o3 = u3 := ⟨_, rfl⟩
    have HB := Lib.hid hB
    have HO := Lib.hid hO
    have hz1 := hB.size
    have hbw := HB0.out.trans (hB.mono HB0.out.size)
    have x2 := (hB.cell (p := ⟨w.heap.size, 2, none⟩) hz0).trans HX2.out
    by_cases hlt : k < sl
    · have hk2 : k < f.strips.length := by rw [HSL.out]; omega
      obtain ⟨b, o, rfl, hbB, hcm⟩ := HSC.out (by omega)
      obtain ⟨d0, d1⟩ := hcm k hk2
      have c0 := (hbw.cell (p := ⟨b, o + k * 2 + 1, none⟩) hbB).trans d1
      have hks : (k : Int) < (sl : Int) := by omega
      have hk0 : (0 : Int) ≤ (k : Int) := by omega
      have HNK := Lib.hid (HN.out k hk2)
      have hkl := HLN.out k (by omega)
      have HKL := Lib.hid hkl
      clear hcm d0 d1 hB hbw hO hkl
      generalize f.strips[k].m = m at *
      have hk1000 : k ≤ 1000 := by omega
      clear hk2
      go_wp2_with (at_builtin; go_must (refine wpList_append_int _ W0.heap.size k o3 ((f.stockL.take k).map (Value.int .i64)) m rfl _ _ rfl rfl ⟨_, rfl, ?_⟩ ?_ hk1000 ?_ ?_); go_must (focus (simp; done)); go_must (· exact HO.out.kept (grown_none (by repeat (first | exact Below.refl _ _ | (refine Below.alloc ?_ (by first | omega | (simp; omega) | simp) _) | (refine Below.setCell ?_ (by first | omega | (simp; omega) | simp) _) | refine Below.drew ?_))) (Classical.em _)); go_must (focus (first | exact hz1 | (simp; omega))); intro v2 wF hoF hgF hnF; have HOF := Lib.hid hoF; have HGF := Lib.hid (gb_up2 (W := wr) (by repeat (first | exact Below.refl _ _ | (refine Below.alloc ?_ (by first | omega | (simp; omega) | simp) _) | (refine Below.setCell ?_ (by first | omega | (simp; omega) | simp) _) | refine Below.drew ?_)) hgF); clear hoF hgF hnF)
      go_roundw
      case rel =>
        refine ⟨k + 1, by omega, by go_num, ?_, HB.out.trans (grown_low HGF.out HB.out.size (fun r e => own_low HO.out r e))⟩
        rw [HNK.out, List.map_append]
        exact HOF.out
      case measure => simp [intOf]; omega
    · obtain rfl : sl = k := by omega
      clear hB hbw hO
      go_wp2_with fail
      go_ret
      refine ⟨_, rfl, ?_, HB0.out.trans (HB.out.mono HB0.out.size)⟩
      have := HO.out
      rw [HE.out] at this
      rw [HSL.out]
      exact own_base2 this HB0.out.size
end Go.Proofs.Ytcklhojeneejiaa

/- The reference: Lock. -/
namespace Go.Proofs.Ytcklhojeneejiaa
set_option linter.unusedVariables false
set_option linter.unusedSimpArgs false
open Go.RowKit Go.Shelf

theorem crow_lists {w : World} {n0 n c m : Nat} {ga : Option Addr} {us : List Value} {x : List (List Int)} (hn : x.length = n) (hc : n ≤ maxLen) (hF : FRow w m 27 1 ga n c us) (hC : CRow w n0 us x) : ListsAt w ga n x := by
  refine ⟨hn, hc, fun h0 => ?_⟩
  obtain ⟨g, e1, -, hg, hcell, -⟩ := hF.cell h0
  refine ⟨g, 0, e1, hg, fun i hi => ?_⟩
  obtain ⟨ra, rc, h1, h2, h3⟩ := hC.2 i hi
  exact ⟨ra, _, rc, by rw [Nat.zero_add]; exact hcell i _ h1, h2, h3.ints (by omega)⟩
def stepM (o : Option (List (List Int))) (x : List (List Int)) : Option (List (List Int)) := match o with | none => some x | some y => if cntM x < cntM y then some x else some y
theorem bestM_snoc {L : List (List (List Int))} {k : Nat} (h : k < L.length) (o : Option (List (List Int))) : (L.take (k + 1)).foldl stepM o = stepM ((L.take k).foldl stepM o) L[k] := by
  rw [List.take_succ_eq_append_getElem h, List.foldl_append]; rfl
theorem bestM_self {L : List (List (List Int))} (h : 0 < L.length) : L.foldl stepM (some L[0]) = bestR L := by
  cases L with
  | nil => simp at h
  | cons x L =>
    show L.foldl stepM (stepM (some x) x) = L.foldl stepM (stepM none x)
    congr 1
    unfold stepM
    simp
/-- What the reference's Lock gives. -/
def RLockPost (f : PFrame) (w : World) (e : Ending) (w' : World) : Prop :=
  Below w.heap.size w w' ∧ match (if f.ok then f.lockR else none) with
  | none => e = .returned (.tuple #[.slice none 0 0, .int .i64 (if f.ok then 3 else 30)])
  | some x => ∃ ga c, e = .returned (.tuple #[.slice ga x.length c, .int .i64 0]) ∧ ListsAt w' ga x.length x

set_option maxRecDepth 100000 in
set_option maxHeartbeats 8000000 in
theorem refLock_no (f : PFrame) (sa : Option Addr) (sl sc : Nat) (pa : Option Addr) (pl pc : Nat) (ca : Option Addr) (cl cc : Nat) (ho : f.ok = false) (hB : ∀ c ∈ f.cols, c.length ≤ 1000) (w : World) (hp : PAt w sa sl sc pa pl pc ca cl cc f) :
    Calls Try.prog 34 #[.agg #[.int .i64 f.len, .int .i64 f.slack, .slice sa sl sc, .slice pa pl pc, .slice ca cl cc]] w fun e w' => e = .returned (.tuple #[.slice none 0 0, .int .i64 30]) ∧ Below w.heap.size w w' := by
  have HC := Lib.hid (fun W (hb : Below w.heap.size w W) => refCheck_is f sa sl sc pa pl pc ca cl cc 30 (by unfold PFrame.chk; rw [ho]; rfl) hB W (hp.below hb))
  clear hp ho hB
  go_enter Try.func34, Try.ntmps34
  go_wp2_with fail
  obtain ⟨W0, hW0, hB0, hs0, hz0⟩ := name1k w #[.int .i64 f.len, .int .i64 f.slack, .slice sa sl sc, .slice pa pl pc, .slice ca cl cc] 26
  try rw [hW0]
  clear hW0
  obtain ⟨x0, x1, x2, x3, x4⟩ : W0.cell? ⟨w.heap.size, 0, none⟩ = some (.int .i64 f.len) ∧ W0.cell? ⟨w.heap.size, 1, none⟩ = some (.int .i64 f.slack) ∧ W0.cell? ⟨w.heap.size, 2, none⟩ = some (.slice sa sl sc) ∧ W0.cell? ⟨w.heap.size, 3, none⟩ = some (.slice pa pl pc) ∧ W0.cell? ⟨w.heap.size, 4, none⟩ = some (.slice ca cl cc) := ⟨hs0 0, hs0 1, hs0 2, hs0 3, hs0 4⟩
  refine (HC.out _ hB0).mono ?_
  rintro e w1 ⟨rfl, hb1⟩
  go_wp2_with fail
  go_ret2
  exact ⟨rfl, hB0.trans (hb1.mono hB0.size)⟩

set_option maxRecDepth 100000 in
set_option maxHeartbeats 16000000 in
theorem refLock_yes (f : PFrame) (sa : Option Addr) (sl sc : Nat) (pa : Option Addr) (pl pc : Nat) (ca : Option Addr) (cl cc : Nat) (ho : f.ok = true) (w : World) (hp : PAt w sa sl sc pa pl pc ca cl cc f) :
    Calls Try.prog 34 #[.agg #[.int .i64 f.len, .int .i64 f.slack, .slice sa sl sc, .slice pa pl pc, .slice ca cl cc]] w fun e w' => RLockPost f w e w' := by
  have hw := PFrame.okW_of ho
  have HC := Lib.hid (fun W (hb : Below w.heap.size w W) => refCheck_is f sa sl sc pa pl pc ca cl cc 0 (by unfold PFrame.chk; rw [ho]; rfl) (ok_hB ho) W (hp.below hb))
  have HS := Lib.hid (fun W (hb : Below w.heap.size w W) => refStock_any f sa sl sc pa pl pc ca cl cc hw W (hp.below hb))
  have HL := Lib.hid (fun W (hb : Below w.heap.size w W) la lc (hi : IntsAt W la f.strips.length f.stockL) => show Calls Try.prog 91 #[.agg #[.int .i64 f.len, .int .i64 f.slack, .slice sa sl sc, .slice pa pl pc, .slice ca cl cc], .int .i64 0, .slice la f.strips.length lc] W fun e w' => LaysPost (f.layR f.cols.length 0 f.stockL) W e w' from refLayouts_any f sa sl sc pa pl pc ca cl cc hw f.cols.length 0 la f.strips.length lc f.stockL (by omega) (by unfold PFrame.stockL; simp) (stockL_bd hw) W (hp.below hb) hi)
  have HBL := Lib.hid (show (f.layR f.cols.length 0 f.stockL).length ≤ 1953125 from Nat.le_trans (layR_bd f f.cols.length 0 f.stockL (by unfold PFrame.stockL; simp; exact hw.parts.2.2.2.2.1) (stockL_bd hw)) (Nat.le_trans (Nat.pow_le_pow_right (by decide) hw.parts.2.2.2.2.2.2) (by decide)))
  have HOK := Lib.hid (fun x (hx : x ∈ f.layR f.cols.length 0 f.stockL) => show x.length ≤ 3 ∧ ∀ s ∈ x, s.length ≤ 100 ∧ ∀ y ∈ s, 0 ≤ y ∧ y ≤ 1000 from by
    obtain ⟨h1, h2⟩ := layRs_ok hw hx
    refine ⟨by have := hw.parts.2.2.2.2.2.2; omega, fun s hs => ?_⟩
    obtain ⟨h3, h4⟩ := h2 s hs
    exact ⟨by have := hw.parts.2.2.2.2.1; omega, fun y hy => by have := h4 y hy; omega⟩)
  have hR : (if f.ok then f.lockR else none) = bestR (f.layR f.cols.length 0 f.stockL) := by rw [ho, if_pos rfl]; rfl
  have hO3 : (if f.ok = true then (3 : Int) else 30) = 3 := by rw [ho, if_pos rfl]
  unfold RLockPost
  rw [hR, hO3]
  have hst3 : f.strips.length ≤ 3 := hw.parts.2.2.2.2.1
  clear hp ho hw hR hO3
  generalize f.layR f.cols.length 0 f.stockL = L at *
  obtain ⟨R, hRR⟩ : ∃ R, bestR L = R := ⟨_, rfl⟩
  rw [hRR]
  have HRR := Lib.hid hRR
  clear hRR
  go_enter Try.func34, Try.ntmps34
  go_wp2_with fail
  obtain ⟨W0, hW0, hB0, hs0, hz0⟩ := name1k w #[.int .i64 f.len, .int .i64 f.slack, .slice sa sl sc, .slice pa pl pc, .slice ca cl cc] 26
  try rw [hW0]
  clear hW0
  obtain ⟨x0, x1, x2, x3, x4⟩ : W0.cell? ⟨w.heap.size, 0, none⟩ = some (.int .i64 f.len) ∧ W0.cell? ⟨w.heap.size, 1, none⟩ = some (.int .i64 f.slack) ∧ W0.cell? ⟨w.heap.size, 2, none⟩ = some (.slice sa sl sc) ∧ W0.cell? ⟨w.heap.size, 3, none⟩ = some (.slice pa pl pc) ∧ W0.cell? ⟨w.heap.size, 4, none⟩ = some (.slice ca cl cc) := ⟨hs0 0, hs0 1, hs0 2, hs0 3, hs0 4⟩
  refine (HC.out _ hB0).mono ?_
  rintro e w1 ⟨rfl, hb1⟩
  obtain ⟨x0, x1, x2, x3, x4⟩ : w1.cell? ⟨w.heap.size, 0, none⟩ = some (.int .i64 f.len) ∧ w1.cell? ⟨w.heap.size, 1, none⟩ = some (.int .i64 f.slack) ∧ w1.cell? ⟨w.heap.size, 2, none⟩ = some (.slice sa sl sc) ∧ w1.cell? ⟨w.heap.size, 3, none⟩ = some (.slice pa pl pc) ∧ w1.cell? ⟨w.heap.size, 4, none⟩ = some (.slice ca cl cc) := ⟨(hb1.cell (p := ⟨w.heap.size, 0, none⟩) hz0).trans (hs0 0), (hb1.cell (p := ⟨w.heap.size, 1, none⟩) hz0).trans (hs0 1), (hb1.cell (p := ⟨w.heap.size, 2, none⟩) hz0).trans (hs0 2), (hb1.cell (p := ⟨w.heap.size, 3, none⟩) hz0).trans (hs0 3), (hb1.cell (p := ⟨w.heap.size, 4, none⟩) hz0).trans (hs0 4)⟩
  have HB1 := Lib.hid (hB0.trans (hb1.mono hB0.size))
  have hz1 : w.heap.size < w1.heap.size := Nat.lt_of_lt_of_le hz0 hb1.size
  clear hb1 hB0 hs0
  go_upto_region 4 with fail
  go_cut [5] (fun v5 wx => ∃ (ga : Option Addr) (gc : Nat) (vs : List Value), v5 = .slice ga vs.length gc ∧ wx.ownsRow w.heap.size 24 1 (.slice ga vs.length gc) vs.length vs ∧ LayRow wx vs L ∧ Below w.heap.size w wx)
  case first =>
    go_region_law (first
      | (with_reducible refine step_call _ 92 _ Try.func92 (by kernel_rfl) (by kernel_rfl) rfl _ _ rfl #[.agg #[.int .i64 f.len, .int .i64 f.slack, .slice sa sl sc, .slice pa pl pc, .slice ca cl cc]] ?_ ?_; (· with_unfolding_all rfl); refine (HS.out _ ?_).mono ?_; (· exact HB1.out.trans (Below.mono (by repeat (first | exact Below.refl _ _ | (refine Below.alloc ?_ (by first | omega | (simp; omega) | simp) _) | (refine Below.setCell ?_ (by first | omega | (simp; omega) | simp) _) | refine Below.drew ?_)) HB1.out.size)); rintro e wA ⟨v, rfl, hown, hb⟩; refine ⟨_, rfl, ?_⟩; obtain ⟨ga, gc, rfl, hi⟩ := own_ints hown (by unfold PFrame.stockL; simp); have kA : Below w1.heap.size w1 wA := below_via (B := w1.heap.size) (Lib.hid hb) (by first | exact Nat.le_refl _ | (simp; done) | (simp; omega)) (by repeat (first | exact Below.refl _ _ | (refine Below.alloc ?_ (by first | omega | (simp; omega) | simp) _) | (refine Below.setCell ?_ (by first | omega | (simp; omega) | simp) _) | refine Below.drew ?_)); have HA := Lib.hid (HB1.out.trans (kA.mono HB1.out.size)); have HI := Lib.hid hi; have HAZ := Lib.hid kA; have y0 := (kA.cell (p := ⟨w.heap.size, 0, none⟩) hz1).trans x0; have y1 := (kA.cell (p := ⟨w.heap.size, 1, none⟩) hz1).trans x1; have y2 := (kA.cell (p := ⟨w.heap.size, 2, none⟩) hz1).trans x2; have y3 := (kA.cell (p := ⟨w.heap.size, 3, none⟩) hz1).trans x3; have y4 := (kA.cell (p := ⟨w.heap.size, 4, none⟩) hz1).trans x4; clear hown hb kA hi)
      | (with_reducible refine step_call _ 91 _ Try.func91 (by kernel_rfl) (by kernel_rfl) rfl _ _ rfl #[.agg #[.int .i64 f.len, .int .i64 f.slack, .slice sa sl sc, .slice pa pl pc, .slice ca cl cc], .int .i64 0, .slice ga f.strips.length gc] ?_ ?_; (· with_unfolding_all rfl); refine (HL.out _ ?_ ga gc ?_).mono ?_; (· exact HA.out.trans (Below.mono (by repeat (first | exact Below.refl _ _ | (refine Below.alloc ?_ (by first | omega | (simp; omega) | simp) _) | (refine Below.setCell ?_ (by first | omega | (simp; omega) | simp) _) | refine Below.drew ?_)) HA.out.size)); (· exact HI.out.below (by repeat (first | exact Below.refl _ _ | (refine Below.alloc ?_ (by first | omega | (simp; omega) | simp) _) | (refine Below.setCell ?_ (by first | omega | (simp; omega) | simp) _) | refine Below.drew ?_))); intro e wC hPost; unfold LaysPost at hPost; obtain ⟨hb, v, vs, he, hown, hlr⟩ := hPost; obtain ⟨gb, gd, hv⟩ := own_slice1 hown; subst hv; refine ⟨_, he, ?_⟩; have HOW := Lib.hid hown; have HLR := Lib.hid hlr; have kA : Below wA.heap.size wA wC := below_via (B := wA.heap.size) (Lib.hid hb) (by first | exact Nat.le_refl _ | (simp; done) | (simp; omega)) (by repeat (first | exact Below.refl _ _ | (refine Below.alloc ?_ (by first | omega | (simp; omega) | simp) _) | (refine Below.setCell ?_ (by first | omega | (simp; omega) | simp) _) | refine Below.drew ?_)); have HCB := Lib.hid (HA.out.trans (kA.mono HA.out.size)); clear hown hb hlr kA)
      | fail "no arm")
    all_goals (go_wp2_with fail; go_meet)
    all_goals exact ⟨_, _, vs, rfl, own_base2 HOW.out (by first | exact HA.out.size | (have := HA.out.size; simp; omega)), HLR.out, HCB.out⟩
  case rest =>
  obtain ⟨la, lc, vs, rfl, hO, hLR, hB⟩ := hcut
  obtain ⟨w2, rfl⟩ : ∃ w2 : World, w2 = wc := ⟨_, rfl⟩
  have HO := Lib.hid hO
  have HLR := Lib.hid hLR
  have HB := Lib.hid hB
  have hvl := hLR.1
  have h0w : w.heap.size ≤ w2.heap.size := hB.size
  clear hO hLR hB HC HS HL x0 x1 x2 x3 x4
  by_cases h0 : L.length = 0
  · obtain rfl : L = [] := List.eq_nil_of_length_eq_zero h0
    obtain rfl : vs = [] := List.eq_nil_of_length_eq_zero hvl
    obtain rfl : R = none := HRR.out.symm
    go_wp2_with fail
    go_ret2
    exact ⟨HB.out.trans (Below.mono (by repeat (first | exact Below.refl _ _ | (refine Below.alloc ?_ (by first | omega | (simp; omega) | simp) _) | (refine Below.setCell ?_ (by first | omega | (simp; omega) | simp) _) | refine Below.drew ?_)) h0w), rfl⟩
  · have HF := Lib.hid (fun j (hj : j < L.length) W (hb : Below w2.heap.size w2 W) => show ∃ ga c, vs[j]? = some (.slice ga L[j].length c) ∧ ListsAt W ga L[j].length L[j] from by
      obtain ⟨ga, c, us, h1, h2, h3, h4⟩ := (HLR.out.below hb).2 j hj
      exact ⟨ga, c, h1, crow_lists rfl (by omega) h3 h4⟩)
    obtain ⟨gv, vc, hge, hgn⟩ := ownsRow_pos HO.out (by omega)
    injection hge with hge _ hvc
    subst hge hvc
    have HCV := Lib.hid (fun j u (hv : vs[j]? = some u) W (hb : Below w2.heap.size w2 W) => show W.cell? ⟨gv, j, none⟩ = some u from by
      obtain ⟨_, curv, hcurv⟩ := own_parts HO.out
      have hgl : gv < w2.heap.size := (Array.getElem?_eq_some_iff.1 hcurv).1
      have := HO.out.cells (g := gv) rfl j _ hv
      rw [Addr.add_lit] at this
      rw [Nat.zero_add] at this
      exact (hb.cell (p := ⟨gv, j, none⟩) hgl).trans this)
    obtain ⟨g0, c0, hv0, hl0⟩ := HF.out 0 (by omega) w2 (Below.refl _ _)
    have k0 := HCV.out 0 _ hv0 w2 (Below.refl _ _)
    have hvn : ¬ (vs.length : Int) = 0 := by omega
    have hvn2 : ((vs.length : Int) == 0) = false := by simpa using hvn
    have hvp : (0 : Int) < (vs.length : Int) := by omega
    have HL0 := Lib.hid hl0
    clear hl0
    go_wp2_with fail
    go_loopw [6, 7] (fun v6 v7 wr => ∃ (k : Nat) (x : List (List Int)) (ga : Option Addr) (c : Nat), k ≤ vs.length ∧ v7 = .int .i64 k ∧ v6 = .slice ga x.length c ∧ (L.take k).foldl stepM (some L[0]) = some x ∧ x ∈ L ∧ ListsAt wr ga x.length x ∧ Below w2.heap.size w2 wr) (fun _ i _ => vs.length - (intOf i).toNat)
    case atStart => exact ⟨0, L[0], g0, c0, by omega, rfl, rfl, rfl, List.getElem_mem _, HL0.out.below (by repeat (first | exact Below.refl _ _ | (refine Below.alloc ?_ (by first | omega | (simp; omega) | simp) _) | (refine Below.setCell ?_ (by first | omega | (simp; omega) | simp) _) | refine Below.drew ?_)), (by repeat (first | exact Below.refl _ _ | (refine Below.alloc ?_ (by first | omega | (simp; omega) | simp) _) | (refine Below.setCell ?_ (by first | omega | (simp; omega) | simp) _) | refine Below.drew ?_))⟩
    case round =>
      obtain ⟨k, x, ga, c, hk, rfl, rfl, hf, hxL, hxl, hBr⟩ := hrel
      have HBR := Lib.hid hBr
      have HX := Lib.hid hxl
      have HFX := Lib.hid hf
      have hxo := HOK.out x hxL
      have HMX := Lib.hid (fun W (hb : Below wr.heap.size wr W) => refMany_any ga x.length c x (by omega) hxo.2 W (hxl.below hb))
      by_cases hlt : k < vs.length
      · have hkL : k < L.length := by omega
        obtain ⟨gk, ck, hvk, hlk⟩ := HF.out k hkL wr HBR.out
        have kk := HCV.out k _ hvk wr HBR.out
        have hko := HOK.out L[k] (List.getElem_mem hkL)
        have HMK := Lib.hid (fun W (hb : Below wr.heap.size wr W) => refMany_any gk L[k].length ck L[k] (by omega) hko.2 W (hlk.below hb))
        have HLK := Lib.hid (fun W (hb : Below wr.heap.size wr W) => show W.cell? ⟨gv, k, none⟩ = some (.slice gk L[k].length ck) ∧ ListsAt W gk L[k].length L[k] from ⟨HCV.out k _ hvk W (HBR.out.trans (hb.mono HBR.out.size)), hlk.below hb⟩)
        have hkl : (k : Int) < (vs.length : Int) := by omega
        have hk0 : (0 : Int) ≤ (k : Int) := by omega
        have hkb : k ≤ 1953125 := by have := HBL.out; omega
        have hsn : (L.take (k + 1)).foldl stepM (some L[0]) = if cntM L[k] < cntM x then some L[k] else some x := by rw [bestM_snoc hkL, hf]; rfl
        have HSN := Lib.hid hsn
        have HXL := Lib.hid hxL
        have HKX := Lib.hid (List.getElem_mem hkL)
        clear hf hxl hBr hlk hsn hxo hko hxL hv0 k0
        obtain ⟨nk, hnk⟩ : ∃ nk, cntM L[k] = nk := ⟨_, rfl⟩
        obtain ⟨nx, hnx⟩ : ∃ nx, cntM x = nx := ⟨_, rfl⟩
        rw [hnk] at HMK HSN
        rw [hnx] at HMX HSN
        clear hnk hnx
        go_wp2_with fail
        refine (HMK.out _ (by repeat (first | exact Below.refl _ _ | (refine Below.alloc ?_ (by first | omega | (simp; omega) | simp) _) | (refine Below.setCell ?_ (by first | omega | (simp; omega) | simp) _) | refine Below.drew ?_))).mono ?_
        rintro e w4 ⟨rfl, hb4⟩
        have HB4 := Lib.hid (show Below wr.heap.size wr w4 from below_via (Lib.hid hb4) (by first | exact Nat.le_refl _ | (simp; done) | (simp; omega)) (by repeat (first | exact Below.refl _ _ | (refine Below.alloc ?_ (by first | omega | (simp; omega) | simp) _) | (refine Below.setCell ?_ (by first | omega | (simp; omega) | simp) _) | refine Below.drew ?_)))
        clear hb4
        go_wp2_with fail
        refine (HMX.out _ HB4.out).mono ?_
        rintro e w5 ⟨rfl, hb5⟩
        have HB5 := Lib.hid (HB4.out.trans (hb5.mono HB4.out.size))
        clear hb5
        obtain ⟨hc5, hl5⟩ := HLK.out w5 HB5.out
        have HL5 := Lib.hid hl5
        clear hl5
        by_cases hlt2 : nk < nx
        · go_wp2_with fail
          go_roundw
          case rel => exact ⟨k + 1, L[k], gk, ck, by omega, by go_num, rfl, by rw [HSN.out, if_pos hlt2], HKX.out, HL5.out.below (by repeat (first | exact Below.refl _ _ | (refine Below.alloc ?_ (by first | omega | (simp; omega) | simp) _) | (refine Below.setCell ?_ (by first | omega | (simp; omega) | simp) _) | refine Below.drew ?_)), (HBR.out.trans (HB5.out.mono HBR.out.size)).trans (Below.mono (by repeat (first | exact Below.refl _ _ | (refine Below.alloc ?_ (by first | omega | (simp; omega) | simp) _) | (refine Below.setCell ?_ (by first | omega | (simp; omega) | simp) _) | refine Below.drew ?_)) (Nat.le_trans HBR.out.size HB5.out.size))⟩
          case measure => simp [intOf]; omega
        · go_wp2_with fail
          go_roundw
          case rel => exact ⟨k + 1, x, ga, c, by omega, by go_num, rfl, by rw [HSN.out, if_neg (by omega)], HXL.out, (HX.out.below HB5.out).below (by repeat (first | exact Below.refl _ _ | (refine Below.alloc ?_ (by first | omega | (simp; omega) | simp) _) | (refine Below.setCell ?_ (by first | omega | (simp; omega) | simp) _) | refine Below.drew ?_)), (HBR.out.trans (HB5.out.mono HBR.out.size)).trans (Below.mono (by repeat (first | exact Below.refl _ _ | (refine Below.alloc ?_ (by first | omega | (simp; omega) | simp) _) | (refine Below.setCell ?_ (by first | omega | (simp; omega) | simp) _) | refine Below.drew ?_)) (Nat.le_trans HBR.out.size HB5.out.size))⟩
          case measure => simp [intOf]; omega
      · obtain rfl : k = vs.length := by omega
        rw [hvl, List.take_length, bestM_self (by omega)] at hf
        have e := HRR.out
        rw [hf] at e
        subst e
        clear hf hxl hBr
        go_wp2_with fail
        go_ret2
        exact ⟨HB.out.trans ((HBR.out.trans (Below.mono (by repeat (first | exact Below.refl _ _ | (refine Below.alloc ?_ (by first | omega | (simp; omega) | simp) _) | (refine Below.setCell ?_ (by first | omega | (simp; omega) | simp) _) | refine Below.drew ?_)) HBR.out.size)).mono h0w), ⟨ga, ⟨c, rfl⟩, HX.out.below (by repeat (first | exact Below.refl _ _ | (refine Below.alloc ?_ (by first | omega | (simp; omega) | simp) _) | (refine Below.setCell ?_ (by first | omega | (simp; omega) | simp) _) | refine Below.drew ?_))⟩⟩
theorem refLock_any (f : PFrame) (sa : Option Addr) (sl sc : Nat) (pa : Option Addr) (pl pc : Nat) (ca : Option Addr) (cl cc : Nat) (hB : ∀ c ∈ f.cols, c.length ≤ 1000) (w : World) (hp : PAt w sa sl sc pa pl pc ca cl cc f) :
    Calls Try.prog 34 #[.agg #[.int .i64 f.len, .int .i64 f.slack, .slice sa sl sc, .slice pa pl pc, .slice ca cl cc]] w fun e w' => RLockPost f w e w' := by
  cases ho : f.ok
  · refine (refLock_no f sa sl sc pa pl pc ca cl cc ho hB w hp).mono ?_
    rintro e w' ⟨rfl, hb⟩
    unfold RLockPost
    rw [ho]
    exact ⟨hb, rfl⟩
  · exact refLock_yes f sa sl sc pa pl pc ca cl cc ho w hp
end Go.Proofs.Ytcklhojeneejiaa

/- Package pages: Lock. -/
namespace Go.Proofs.Ytcklhojeneejiaa
set_option linter.unusedVariables false
set_option linter.unusedSimpArgs false
open Go.RowKit Go.Shelf

attribute [local go_sem] Oper.semAt_some

theorem strips4_none {f : PFrame} (h : (if f.ok then f.lockR else none) = none) : f.strips4 = (0, if f.ok then 3 else 30) := by
  unfold PFrame.strips4
  cases ho : f.ok with
  | false => rfl
  | true =>
    rw [ho, if_pos rfl] at h
    have := (best_are (PFrame.okW_of ho)).1
    rw [h] at this
    rw [if_pos rfl, this]; rfl
theorem strips4_some {f : PFrame} {x : List (List Int)} (h : (if f.ok then f.lockR else none) = some x) : f.ok = true ∧ f.strips4 = (cntM x, 0) ∧ bestL (f.lays 0) = some (x.map padT) ∧ x.length = f.cols.length ∧ ∀ s ∈ x, s.length = f.strips.length ∧ ∀ y ∈ s, 0 ≤ y ∧ y ≤ 4 := by
  cases ho : f.ok with
  | false => rw [ho] at h; cases h
  | true =>
    rw [ho, if_pos rfl] at h
    have hw := PFrame.okW_of ho
    obtain ⟨h1, h2⟩ := best_are hw
    rw [h] at h1
    obtain ⟨h3, h4⟩ := layRs_ok hw (h2 x h)
    refine ⟨rfl, ?_, h1, h3, h4⟩
    unfold PFrame.strips4
    rw [ho, if_pos rfl, h1]
    show (cntL (x.map padT), (0 : Int)) = _
    rw [cntL_pad fun s hs => by have := (h4 s hs).1; have := hw.parts.2.2.2.2.1; omega]

set_option maxRecDepth 100000 in
set_option maxHeartbeats 8000000 in
theorem Lock_no (f : PFrame) (sa : Option Addr) (sl sc : Nat) (pa : Option Addr) (pl pc : Nat) (ca : Option Addr) (cl cc : Nat) (h : (if f.ok then f.lockR else none) = none) (w : World) (hp : PAt w sa sl sc pa pl pc ca cl cc f) :
    Calls Try.prog 33 #[.agg #[.int .i64 f.len, .int .i64 f.slack, .slice sa sl sc, .slice pa pl pc, .slice ca cl cc]] w fun e w' => e = .returned (.tuple #[.slice none 0 0, .int .i64 (if f.ok then 3 else 30)]) ∧ Below w.heap.size w w' := by
  have HF := Lib.hid (fun W (hb : Below w.heap.size w W) => fewest_any f sa sl sc pa pl pc ca cl cc W (hp.below hb))
  rw [strips4_none h] at HF
  have hc3 : ∃ c : Int, (if f.ok = true then (3 : Int) else 30) = c ∧ (c == 0) = false ∧ ¬ c = 0 := by
    cases f.ok
    · exact ⟨30, rfl, by decide, by decide⟩
    · exact ⟨3, rfl, by decide, by decide⟩
  obtain ⟨c, hc, hcn, hcn2⟩ := hc3
  rw [hc] at HF ⊢
  clear hp h hc
  simp only at HF
  go_enter Try.func33, Try.ntmps33
  go_wp2_with fail
  refine (HF.out _ (by repeat (first | exact Below.refl _ _ | (refine Below.alloc ?_ (by first | omega | (simp; omega) | simp) _) | (refine Below.setCell ?_ (by first | omega | (simp; omega) | simp) _) | refine Below.drew ?_))).mono ?_
  rintro e w2 ⟨l, rfl, -, hb⟩
  have hb' : Below w.heap.size w w2 := ((by repeat (first | exact Below.refl _ _ | (refine Below.alloc ?_ (by first | omega | (simp; omega) | simp) _) | (refine Below.setCell ?_ (by first | omega | (simp; omega) | simp) _) | refine Below.drew ?_)) : Below w.heap.size w _).trans (hb.mono (by simp))
  have HB := Lib.hid hb'
  clear hb hb'
  unfold cells9
  go_wp2_with fail
  go_ret2
  have hz := HB.out.size
  exact ⟨rfl, HB.out.trans (by repeat (first | exact Below.refl _ _ | (refine Below.alloc ?_ (by first | omega | (simp; omega) | simp) _) | (refine Below.setCell ?_ (by first | omega | (simp; omega) | simp) _) | refine Below.drew ?_))⟩

theorem colAt_pad {x : List (List Int)} {k : Nat} (hk : k < x.length) : colAt (x.map padT) k = padT x[k] := by
  unfold colAt
  rw [List.getElem?_map, List.getElem?_eq_getElem hk]; rfl
theorem pad_get {s : List Int} {i : Nat} (h : i < s.length) (h3 : s.length ≤ 3) : [(padT s).a, (padT s).b, (padT s).c][i]? = some s[i] := by
  have := take_pad (s := s) (k := s.length) rfl h3
  have e := List.getElem?_take (l := [(padT s).a, (padT s).b, (padT s).c]) (i := s.length) (j := i)
  rw [this, if_pos h, List.getElem?_eq_getElem h] at e
  exact e.symm
theorem cells9_at {x : List (List Int)} (k : Nat) (hk : k < x.length) (h3 : x.length ≤ 3) (i : Nat) (hi : i < x[k].length) (hi3 : x[k].length ≤ 3) : (cells9 (x.map padT))[k * 3 + i]? = some (.int .i64 x[k][i]) := by
  have e := pad_get hi hi3
  rw [← colAt_pad hk] at e
  unfold cells9
  have hk' : k = 0 ∨ k = 1 ∨ k = 2 := by omega
  have hi' : i = 0 ∨ i = 1 ∨ i = 2 := by omega
  rcases hk' with rfl | rfl | rfl <;> rcases hi' with rfl | rfl | rfl <;> simpa using e

set_option maxRecDepth 100000 in
set_option maxHeartbeats 16000000 in
theorem Lock_yes (f : PFrame) (sa : Option Addr) (sl sc : Nat) (pa : Option Addr) (pl pc : Nat) (ca : Option Addr) (cl cc : Nat) (x : List (List Int)) (h : (if f.ok then f.lockR else none) = some x) (w : World) (hp : PAt w sa sl sc pa pl pc ca cl cc f) :
    Calls Try.prog 33 #[.agg #[.int .i64 f.len, .int .i64 f.slack, .slice sa sl sc, .slice pa pl pc, .slice ca cl cc]] w fun e w' => (∃ ga c, e = .returned (.tuple #[.slice ga x.length c, .int .i64 0]) ∧ ListsAt w' ga x.length x) ∧ Below w.heap.size w w' := by
  obtain ⟨ho, h4, hbl, hxl, hxs⟩ := strips4_some h
  have HF := Lib.hid (fun W (hb : Below w.heap.size w W) => show Calls Try.prog 89 #[.agg #[.int .i64 f.len, .int .i64 f.slack, .slice sa sl sc, .slice pa pl pc, .slice ca cl cc]] W fun e w' => e = .returned (.tuple #[.agg (cells9 (x.map padT)), .int .i64 (cntM x), .int .i64 0]) ∧ Below W.heap.size W w' from by
    refine (fewest_any f sa sl sc pa pl pc ca cl cc W (hp.below hb)).mono ?_
    rintro e w' ⟨l, rfl, hl, hb'⟩
    rw [ho, if_pos rfl] at hl
    rw [← hl _ hbl, h4]
    exact ⟨rfl, hb'⟩)
  have hcl := hp.2.2.1
  have hsl := hp.1.1
  have hst3 := (PFrame.ok_parts ho).2.2.2.2.1
  have hcl3 := (PFrame.ok_parts ho).2.2.2.2.2.2
  clear hp h h4 hbl ho
  go_enter Try.func33, Try.ntmps33
  go_wp2_with fail
  obtain ⟨W0, hW0, hB0, hs0, hz0⟩ := name1k w #[.int .i64 f.len, .int .i64 f.slack, .slice sa sl sc, .slice pa pl pc, .slice ca cl cc] 26
  try rw [hW0]
  clear hW0
  obtain ⟨x0, x1, x2, x3, x4⟩ : W0.cell? ⟨w.heap.size, 0, none⟩ = some (.int .i64 f.len) ∧ W0.cell? ⟨w.heap.size, 1, none⟩ = some (.int .i64 f.slack) ∧ W0.cell? ⟨w.heap.size, 2, none⟩ = some (.slice sa sl sc) ∧ W0.cell? ⟨w.heap.size, 3, none⟩ = some (.slice pa pl pc) ∧ W0.cell? ⟨w.heap.size, 4, none⟩ = some (.slice ca cl cc) := ⟨hs0 0, hs0 1, hs0 2, hs0 3, hs0 4⟩
  go_wp2_with fail
  refine (HF.out _ (by repeat (first | assumption | exact Below.refl _ _ | (refine Below.alloc ?_ (by first | omega | (simp; omega) | simp) _) | (refine Below.setCell ?_ (by first | omega | (simp; omega) | simp) _) | refine Below.drew ?_))).mono ?_
  rintro e w1 ⟨rfl, hb1⟩
  have hb1' : Below W0.heap.size W0 w1 := below_via (Lib.hid hb1) (by first | exact Nat.le_refl _ | (simp; done) | (simp; omega)) (by repeat (first | exact Below.refl _ _ | (refine Below.alloc ?_ (by first | omega | (simp; omega) | simp) _) | (refine Below.setCell ?_ (by first | omega | (simp; omega) | simp) _) | refine Below.drew ?_))
  obtain ⟨x0, x1, x2, x3, x4⟩ : w1.cell? ⟨w.heap.size, 0, none⟩ = some (.int .i64 f.len) ∧ w1.cell? ⟨w.heap.size, 1, none⟩ = some (.int .i64 f.slack) ∧ w1.cell? ⟨w.heap.size, 2, none⟩ = some (.slice sa sl sc) ∧ w1.cell? ⟨w.heap.size, 3, none⟩ = some (.slice pa pl pc) ∧ w1.cell? ⟨w.heap.size, 4, none⟩ = some (.slice ca cl cc) := ⟨(hb1'.cell (p := ⟨w.heap.size, 0, none⟩) hz0).trans (hs0 0), (hb1'.cell (p := ⟨w.heap.size, 1, none⟩) hz0).trans (hs0 1), (hb1'.cell (p := ⟨w.heap.size, 2, none⟩) hz0).trans (hs0 2), (hb1'.cell (p := ⟨w.heap.size, 3, none⟩) hz0).trans (hs0 3), (hb1'.cell (p := ⟨w.heap.size, 4, none⟩) hz0).trans (hs0 4)⟩
  have HB1 := Lib.hid (hB0.trans (hb1'.mono hB0.size))
  have hz1 : w.heap.size < w1.heap.size := Nat.lt_of_lt_of_le hz0 hb1'.size
  clear hb1 hb1' hB0 hs0
  have HC9 := Lib.hid (fun k (hk : k < x.length) i (hi : i < x[k].length) => cells9_at k hk (by omega) i hi (by have := (hxs x[k] (List.getElem_mem hk)).1; omega))
  unfold cells9 at HC9
  unfold cells9
  go_wp2_with fail
  generalize colAt (x.map padT) 0 = l0 at *
  generalize colAt (x.map padT) 1 = l1 at *
  generalize colAt (x.map padT) 2 = l2 at *
  obtain ⟨W2, hW2, hB2, hs2, hz2⟩ := name1k w1 #[.int .i64 l0.a, .int .i64 l0.b, .int .i64 l0.c, .int .i64 l1.a, .int .i64 l1.b, .int .i64 l1.c, .int .i64 l2.a, .int .i64 l2.b, .int .i64 l2.c] 101
  rw [hW2]
  clear hW2
  have HB2 := Lib.hid (HB1.out.trans (hB2.mono HB1.out.size))
  have y2 : W2.cell? ⟨w.heap.size, 2, none⟩ = some (.slice sa sl sc) := (hB2.cell (p := ⟨w.heap.size, 2, none⟩) hz1).trans x2
  have hz3 : w.heap.size < W2.heap.size := Nat.lt_of_lt_of_le hz1 hB2.size
  have HXI := Lib.hid (fun k (hk : k < x.length) W (hb : Below W2.heap.size W2 W) => show IntsAt W (some ⟨w1.heap.size, k * 3, none⟩) sl x[k] from
    ⟨by rw [(hxs x[k] (List.getElem_mem hk)).1, hsl], by unfold maxLen; omega, fun _ => ⟨w1.heap.size, k * 3, rfl, Nat.lt_of_lt_of_le hz2 hb.size, fun i hi => (hb.cell (p := ⟨w1.heap.size, k * 3 + i, none⟩) hz2).trans ((hs2 _).trans (HC9.out k hk i hi))⟩⟩)
  have HCO := Lib.hid (fun k (hk : k < x.length) W (hb : Below W2.heap.size W2 W) => Clone_own (some ⟨w1.heap.size, k * 3, none⟩) sl 3 x[k] W (HXI.out k hk W hb) (by omega))
  have hsl4 : sl ≤ 3 := by omega
  have hcl4 : cl ≤ 3 := by omega
  have HSL := Lib.hid (fun k (hk : k < x.length) => show x[k].length = sl from by rw [(hxs x[k] (List.getElem_mem hk)).1, hsl])
  clear hxs HXI HC9 HF hs2 hB2 x0 x1 x2 x3 x4
  go_loopw [7, 22] (fun v7 v22 wr => ∃ (k : Nat) (us : List Value) (va : Option Addr) (vc : Nat), k ≤ cl ∧ v22 = .int .i64 k ∧ v7 = .slice va us.length vc ∧ wr.ownsRow W2.heap.size 27 1 (.slice va us.length vc) us.length us ∧ CRow wr 0 us (x.take k) ∧ Below W2.heap.size W2 wr) (fun _ i _ => cl - (intOf i).toNat)
  case atStart => exact ⟨0, [], none, 0, by omega, rfl, rfl, ⟨rfl, .inl ⟨rfl, rfl⟩⟩, CRow.nil _ _, Below.refl _ _⟩
  case round =>
    obtain ⟨k, us, va, vc, hk, rfl, rfl, hO, hC, hB⟩ := hrel
    have HO := Lib.hid hO
    have HC := Lib.hid hC
    have HB := Lib.hid hB
    have hzr := hB.size
    have q2 := (hB.cell (p := ⟨w.heap.size, 2, none⟩) hz3).trans y2
    clear hO hC hB
    by_cases hlt : k < cl
    · have hkx : k < x.length := by omega
      have hkl : (k : Int) < (cl : Int) := by omega
      have hk0 : (0 : Int) ≤ (k : Int) := by omega
      have hk3 : (k : Int) < 3 := by omega
      have hul : us.length ≤ 3 := by have e := HC.out.1; rw [List.length_take] at e; omega
      have HCK := Lib.hid (fun W (hb : Below wr.heap.size wr W) => HCO.out k hkx W (HB.out.trans (hb.mono hzr)))
      have hxk := HSL.out k hkx
      have HTK := Lib.hid (show x.take (k + 1) = x.take k ++ [x[k]] from List.take_succ_eq_append_getElem hkx)
      have hsl0 : (0 : Int) ≤ (sl : Int) := by omega
      have hsl5 : (sl : Int) ≤ 3 := by omega
      go_upto_region 8 with fail
      have h3l : us.length + 1 ≤ 4000000 := by omega
      go_region_law (first
        | (with_reducible refine step_call _ 90 _ Try.func90 (by kernel_rfl) (by kernel_rfl) rfl _ _ rfl #[.slice (some ⟨w1.heap.size, k * 3, none⟩) sl 3] ?_ ?_; (· with_unfolding_all rfl); refine (HCK.out _ ?_).mono ?_; (· exact (by repeat (first | exact Below.refl _ _ | (refine Below.alloc ?_ (by first | omega | (simp; omega) | simp) _) | (refine Below.setCell ?_ (by first | omega | (simp; omega) | simp) _) | refine Below.drew ?_))); rintro e wC ⟨v, rfl, hown, hb⟩; refine ⟨_, rfl, ?_⟩; obtain ⟨ga, gc, rfl⟩ := own_slice1 hown; have kA : Below wr.heap.size wr wC := below_via (B := wr.heap.size) (Lib.hid hb) (by first | exact Nat.le_refl _ | (simp; done) | (simp; omega)) (by repeat (first | exact Below.refl _ _ | (refine Below.alloc ?_ (by first | omega | (simp; omega) | simp) _) | (refine Below.setCell ?_ (by first | omega | (simp; omega) | simp) _) | refine Below.drew ?_)); have HOW := Lib.hid hown; have HKA := Lib.hid kA; have hzA := kA.size; clear hown hb kA)
        | ((with_reducible refine step_append_big _ 24 27 (.slice none 0 0) 24 Try.underlying24 Try.info27 rfl (by decide) W2.heap.size us.length (.slice va us.length vc) (.slice ga sl gc) us rfl h3l rfl _ _ rfl ?_ ?_ ?_ ?_ ?_); (· rfl); (· refine ⟨_, rfl, ?_⟩; (go_simp; done)); (· exact HO.out.kept (grown_none (by repeat (first | exact HKA.out | (refine Below.alloc ?_ (by first | omega | (simp; omega) | simp) _) | refine Below.drew ?_))) (Classical.em _)); (· first | omega | (simp; omega)); intro v' wB hownB hgB hatB; obtain ⟨qa, qc, rfl⟩ := own_slice1 hownB; have HG := Lib.hid (gb_up2 (W := wC) (by repeat (first | exact Below.refl _ _ | (refine Below.alloc ?_ (by first | omega | (simp; omega) | simp) _) | (refine Below.setCell ?_ (by first | omega | (simp; omega) | simp) _) | refine Below.drew ?_)) hgB); have HOB := Lib.hid hownB; clear hownB hgB hatB)
        | fail "no arm")
      all_goals
        go_wp2_with fail
        go_roundw
        case rel =>
          have hT : ∀ r, (Value.slice va us.length vc).ownBlock = some r → r < wr.heap.size ∧ ∃ c : Array Value, wr.heap[r]? = some (.cells c 27 (0, 0)) := fun r e => (own_row HO.out r e).2
          refine ⟨k + 1, us ++ [.slice ga sl gc], qa, qc, by omega, by go_num, by rw [List.length_append]; rfl, by rw [List.length_append]; exact HOB.out, ?_, (HB.out.trans (HKA.out.mono hzr)).trans (grown_low HG.out (by omega) (fun r e => own_low HO.out r e))⟩
          rw [HTK.out]
          refine ((HC.out.below HKA.out).kept HG.out (fun r e => .inl ?_)).append ((CRow.nil _ _).cons x[k] hxk (own_cap HOW.out) (((own_frow HOW.out).low (Nat.zero_le _)).kept HG.out (fun r e => .inl ?_)))
          all_goals
            obtain ⟨h1, c, hc⟩ := hT r e
            exact ⟨c, _, (HKA.out.block r h1).trans hc, by decide⟩
        case measure => simp [intOf]; omega
    · obtain rfl : cl = k := by omega
      have hC := HC.out
      rw [List.take_of_length_le (by omega)] at hC
      have hul : us.length = x.length := hC.1
      have HCF := Lib.hid hC
      clear hC
      go_wp2_with fail
      go_ret2
      refine ⟨⟨va, vc, by rw [← hul]; rfl, ?_⟩, HB2.out.trans (HB.out.mono HB2.out.size)⟩
      exact crow_lists rfl (by unfold maxLen; omega) (by rw [← hul]; exact own_frow HO.out) HCF.out
theorem Lock_any (f : PFrame) (sa : Option Addr) (sl sc : Nat) (pa : Option Addr) (pl pc : Nat) (ca : Option Addr) (cl cc : Nat) (w : World) (hp : PAt w sa sl sc pa pl pc ca cl cc f) :
    Calls Try.prog 33 #[.agg #[.int .i64 f.len, .int .i64 f.slack, .slice sa sl sc, .slice pa pl pc, .slice ca cl cc]] w fun e w' => RLockPost f w e w' := by
  unfold RLockPost
  cases h : (if f.ok then f.lockR else none) with
  | none =>
    refine (Lock_no f sa sl sc pa pl pc ca cl cc h w hp).mono ?_
    rintro e w' ⟨rfl, hb⟩
    exact ⟨hb, rfl⟩
  | some x =>
    refine (Lock_yes f sa sl sc pa pl pc ca cl cc x h w hp).mono ?_
    rintro e w' ⟨h1, hb⟩
    exact ⟨hb, h1⟩
end Go.Proofs.Ytcklhojeneejiaa
