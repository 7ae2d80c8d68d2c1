/- VZ XA XB, joined. -/
import Derived.Test.YtlhgoedghojnkaaVW
/- The reference: lists, CanBe. -/
namespace Go.Proofs.Ytlhgoedghojnkaa
set_option linter.unusedVariables false
set_option linter.unusedSimpArgs false
open Go.RowKit Go.Shelf

def lisTo (d lo hi : Nat) (x : List Int) (j : Nat) : List (List Int) := (List.range j).flatMap fun n => lisF d (lo + n + 1) hi (x ++ [((lo + n : Nat) : Int)])
theorem lisTo_next (d lo hi : Nat) (x : List Int) (j : Nat) : lisTo d lo hi x (j + 1) = lisTo d lo hi x j ++ lisF d (lo + j + 1) hi (x ++ [((lo + j : Nat) : Int)]) := by
  unfold lisTo; rw [List.range_succ, List.flatMap_append]; simp
theorem lisF_len : ∀ (d lo hi : Nat) (x : List Int), hi ≤ 6 → (lisF d lo hi x).length ≤ 6 ^ d
  | 0, _, _, _, _ => by simp [lisF]
  | d + 1, lo, hi, x, h => by
    unfold lisF
    refine Nat.le_trans (flatMap_len (fun (n : Nat) => lisF d (lo + n + 1) hi (x ++ [((lo + n : Nat) : Int)])) (6 ^ d) (fun n => lisF_len d _ hi _ h) (hi - lo)) ?_
    rw [Nat.pow_succ, Nat.mul_comm]
    exact Nat.mul_le_mul (Nat.le_refl _) (by omega)

set_option maxRecDepth 100000 in
set_option maxHeartbeats 8000000 in
theorem refLists_end (xa : Option Addr) (k xc : Nat) (x : List Int) (hi : Nat) (hxl : x.length = k) (hm : k ≤ 1000) (hc : k ≤ xc ∧ xc ≤ maxLen) (w : World) (hx : FRow w 0 3 1 xa k xc (x.map (Value.int .i64))) :
    Calls Try.prog 97 #[.slice xa k xc, .int .i64 k, .int .i64 hi] w fun e w' => SetsPost [x] w e w' := by
  have HX := Lib.hid (fun W (hb : Below w.heap.size w W) => hx.kept (grown_none hb) (fun r e => by cases e))
  have HXL := Lib.hid hxl
  have HC := Lib.hid hc
  clear hx hc hxl
  go_enter Try.func97, Try.ntmps97
  go_wp2_with fail
  go_ret
  refine ⟨(by repeat (first | exact Below.refl _ _ | (refine Below.alloc ?_ (by first | omega | (simp; omega) | simp) _) | (refine Below.setCell ?_ (by first | omega | (simp; omega) | simp) _) | refine Below.drew ?_)), _, [.slice xa k xc], rfl, own_lit w _ _ _ (Nat.le_refl _), rfl, fun i hi => ?_⟩
  obtain rfl : i = 0 := by simpa using hi
  refine ⟨xa, xc, by simp [HXL.out], by simp [HXL.out]; exact HC.out, ?_⟩
  show FRow _ 0 3 1 xa x.length xc (x.map (Value.int .i64))
  rw [HXL.out]
  exact HX.out _ (by repeat (first | exact Below.refl _ _ | (refine Below.alloc ?_ (by first | omega | (simp; omega) | simp) _) | (refine Below.setCell ?_ (by first | omega | (simp; omega) | simp) _) | refine Below.drew ?_))

set_option maxRecDepth 100000 in
set_option maxHeartbeats 8000000 in
theorem refLists_step (xa : Option Addr) (k xc : Nat) (x : List Int) (d lo hi q mn : Nat) (hmn : mn = k + d + 1) (hd : k + d + 1 ≤ 6) (hq : q = hi - lo) (hh : hi ≤ 6) (hlo6 : lo ≤ 6) (hxl : x.length = k) (hlo : (k = 0 ∧ lo = 0) ∨ (0 < k ∧ x[k - 1]? = some ((lo : Int) - 1))) (w : World) (hx : FRow w 0 3 1 xa k xc (x.map (Value.int .i64)))
    (IH : ∀ n : Nat, n < q → ∀ W (_ : Below w.heap.size w W) ga c (_ : k + 1 ≤ c ∧ c ≤ maxLen) (_ : FRow W 0 3 1 ga (k + 1) c ((x ++ [((lo + n : Nat) : Int)]).map (Value.int .i64))), Calls Try.prog 97 #[.slice ga (k + 1) c, .int .i64 (mn : Int), .int .i64 hi] W fun e w' => SetsPost (lisF d (lo + n + 1) hi (x ++ [((lo + n : Nat) : Int)])) W e w') :
    Calls Try.prog 97 #[.slice xa k xc, .int .i64 (mn : Int), .int .i64 hi] w fun e w' => SetsPost (lisTo d lo hi x q) w e w' := by
  have HX := Lib.hid (fun W (hb : Below w.heap.size w W) => hx.kept (grown_none hb) (fun r e => by cases e))
  have HIH := Lib.hid IH
  have HXL := Lib.hid hxl
  have HBN := Lib.hid (fun n => show (lisF d (lo + n + 1) hi (x ++ [((lo + n : Nat) : Int)])).length ≤ 7776 from Nat.le_trans (lisF_len d _ hi _ hh) (Nat.le_trans (Nat.pow_le_pow_right (by decide) (show d ≤ 5 by omega)) (by decide)))
  have HBT := Lib.hid (fun j (hj : j ≤ 6) => show (lisTo d lo hi x j).length ≤ 46656 from Nat.le_trans (flatMap_len (fun (n : Nat) => lisF d (lo + n + 1) hi (x ++ [((lo + n : Nat) : Int)])) 7776 (fun n => Nat.le_trans (lisF_len d _ hi _ hh) (Nat.le_trans (Nat.pow_le_pow_right (by decide) (show d ≤ 5 by omega)) (by decide))) j) (by omega))
  have hkne : ¬ (k : Int) = (mn : Int) := by omega
  have hkne2 : ((k : Int) == (mn : Int)) = false := by simpa using hkne
  have hz0 : ¬ (0 : Int) = (mn : Int) := by omega
  have hz1 : ((0 : Int) == (mn : Int)) = false := by simpa using hz0
  have hk1000 : k ≤ 1000 := by omega
  have hq6 : q ≤ 6 := by omega
  have hrd : 0 < k → ∃ g, xa = some ⟨g, 0, none⟩ ∧ w.cell? ⟨g, k - 1, none⟩ = some (.int .i64 ((lo : Int) - 1)) := fun h0 => by
    obtain ⟨g, e1, -, -, hc, -⟩ := hx.cell h0
    rcases hlo with ⟨h, -⟩ | ⟨-, h⟩
    · omega
    · exact ⟨g, e1, hc _ _ (by rw [List.getElem?_map, h]; rfl)⟩
  have HRD := Lib.hid hrd
  have HLO := Lib.hid hlo
  have hwl : IntKind.i64.wrap ((lo : Int) - 1 + 1) = (lo : Int) := by rw [show (lo : Int) - 1 + 1 = (lo : Int) by omega]; exact IntWalk.i64_in _ ⟨by omega, by omega⟩
  clear hx IH hxl hrd hlo hmn
  go_enter Try.func97, Try.ntmps97
  have hqh : (lo : Int) + (q : Int) ≤ 12 := by omega
  have HQQ := Lib.hid (show hi ≤ lo ∧ q = 0 ∨ lo ≤ hi ∧ hi = lo + q by omega)
  have HXS := Lib.hid (fun W (h : Below w.heap.size w W) (h0 : 0 < k) => show ∃ pb po, xa = some ⟨pb, po, none⟩ ∧ ∀ i u, (x.map (Value.int .i64))[i]? = some u → W.cell? ⟨pb, po + i, none⟩ = some u from by
    obtain ⟨g, e1, -, -, hc, -⟩ := (HX.out W h).cell h0
    exact ⟨g, 0, e1, fun i u hi => by rw [Nat.zero_add]; exact hc i u hi⟩)
  clear hq
  rcases Nat.eq_zero_or_pos k with hk0 | hk0
  · have hlo0 : lo = 0 := by rcases HLO.out with ⟨-, h⟩ | ⟨h, -⟩ <;> omega
    have hkn : ¬ (k : Int) > 0 := by omega
    have hkn2 : ¬ 0 < k := by omega
    clear hk0
    have HV7 := Lib.hid (show Value.int .i64 0 = .int .i64 ((lo + 0 : Nat) : Int) from by rw [hlo0]; rfl)
    clear hlo0
    go_wp2_with fail
    go_loopw [8, 9] (fun v8 v9 wr => ∃ (j : Nat) (vs : List Value), j ≤ q ∧ v9 = .int .i64 ((lo + j : Nat) : Int) ∧ wr.ownsRow w.heap.size 27 1 v8 vs.length vs ∧ CRow wr 0 vs (lisTo d lo hi x j) ∧ Below w.heap.size w wr) (fun _ i _ => lo + q - (intOf i).toNat)
    case atStart => exact ⟨0, [], by omega, HV7.out, ⟨rfl, .inl ⟨rfl, rfl⟩⟩, CRow.nil _ _, Below.refl _ _⟩
    case round =>
      clear HV7
      obtain ⟨j, vs, hj, rfl, hO, hJR, hB⟩ := hrel
      have HB := Lib.hid hB
      have h1W : w.heap.size ≤ wr.heap.size := hB.size
      have HO := Lib.hid hO
      have HJR := Lib.hid hJR
      obtain ⟨e, he⟩ : ∃ e, e = lo + j := ⟨_, rfl⟩
      rw [← he]
      by_cases hlt : j < q
      · have hle : (e : Int) < (hi : Int) := by have := HQQ.out; omega
        have hvl : vs.length ≤ 46656 := by rw [hJR.1]; exact HBT.out j (by omega)
        obtain ⟨R, hR⟩ : ∃ R, u8.ownBlock = R := ⟨_, rfl⟩
        have hRb := own_row hO
        rw [hR] at hRb
        have HRB := Lib.hid hRb
        have HXT := Lib.hid (fun W (h : Below wr.heap.size wr W) (h0 : 0 < k) => HXS.out W (HB.out.trans (h.mono h1W)) h0)
        have HRR := Lib.hid hR
        have HIE := Lib.hid (fun W (hb : Below w.heap.size w W) ga c (hc : k + 1 ≤ c ∧ c ≤ maxLen) (hF : FRow W 0 3 1 ga (k + 1) c ((x ++ [(e : Int)]).map (Value.int .i64))) => show Calls Try.prog 97 #[.slice ga (k + 1) c, .int .i64 (mn : Int), .int .i64 hi] W fun e' w' => SetsPost (lisF d (e + 1) hi (x ++ [(e : Int)])) W e' w' from by subst he; exact HIH.out j hlt W hb ga c hc hF)
        have HBE := Lib.hid (show (lisF d (e + 1) hi (x ++ [(e : Int)])).length ≤ 7776 from by subst he; exact HBN.out j)
        have HLT := Lib.hid (show lisTo d lo hi x (j + 1) = lisTo d lo hi x j ++ lisF d (e + 1) hi (x ++ [(e : Int)]) from by rw [lisTo_next, he])
        have HEE := Lib.hid he
        clear hB hO hJR hRb hR he
        go_wp2_with (first
          | (at_builtin; refine wpList_append_copyC _ k xc xa x HXL.out hk1000 rfl _ _ rfl ?_ ?_ ?_ ?_; (· exact ⟨_, rfl⟩); (· rfl); (· intro h0; exact HXT.out _ (by repeat (first | exact Below.refl _ _ | (refine Below.alloc ?_ (by first | omega | (simp; omega) | simp) _) | (refine Below.setCell ?_ (by first | omega | (simp; omega) | simp) _) | refine Below.drew ?_)) h0); intro ga cA wA hfA hcA hbA; have kAb : Below wr.heap.size wr wA := below_via (Lib.hid hbA) (by first | exact Nat.le_refl _ | (simp; done) | (simp; omega)) (by repeat (first | exact Below.refl _ _ | (refine Below.alloc ?_ (by first | omega | (simp; omega) | simp) _) | (refine Below.setCell ?_ (by first | omega | (simp; omega) | simp) _) | refine Below.drew ?_)); have HKA := Lib.hid kAb; have HFA := Lib.hid (hfA.low (n1 := wr.heap.size) (by first | exact Nat.le_refl _ | (simp; done) | (simp; omega))); have HCA := Lib.hid hcA; have hzA := kAb.size; clear hfA hcA hbA kAb)
          | (at_builtin; refine wpList_append_num _ wr.heap.size k cA ga x (e : Int) HCA.out ?_ hk1000 rfl _ _ rfl ?_ ?_ ?_ ?_; (· exact HFA.out.kept (grown_none (by repeat (first | exact Below.refl _ _ | (refine Below.alloc ?_ (by first | omega | (simp; omega) | simp) _) | (refine Below.setCell ?_ (by first | omega | (simp; omega) | simp) _) | refine Below.drew ?_))) (fun r e => by cases e)); (· rfl); (· refine ⟨_, rfl, ?_⟩; (go_simp; done)); (· first | omega | (simp; omega)); intro na nc wB row hownB hgB hrB hbB; have kBb : Below wr.heap.size wr wB := Below.trans (by repeat (first | with_reducible exact HKA.out | exact Below.refl _ _ | (refine Below.alloc ?_ (by first | omega | (simp; omega) | simp) _) | refine Below.drew ?_)) hbB; have HKB := Lib.hid kBb; have HOB := Lib.hid hownB; have hzB := kBb.size; clear hownB hgB hrB hbB kBb)
          | (go_at_call 97; refine (HIE.out _ ?_ na nc (own_cap HOB.out) ((own_frow HOB.out).low (Nat.zero_le _))).mono ?_; (· exact HB.out.trans (HKB.out.mono HB.out.size)); rintro e' wC ⟨hbC, v2, vs2, rfl, hoC, hjC⟩; obtain ⟨va2, vc2, rfl⟩ := own_slice1 hoC; have kCb : Below wr.heap.size wr wC := HKB.out.trans (hbC.mono hzB); have HKC := Lib.hid kCb; have HOC := Lib.hid hoC; have HJC := Lib.hid hjC; have hzC := kCb.size; clear hbC hoC hjC kCb)
          | (at_builtin; refine wpList_append_src _ 24 27 (.slice none 0 0) 1 24 Try.underlying24 Try.info27 rfl (by decide) (by decide) w.heap.size vs.length vs2.length vc2 u8 vs vs2 va2 (by simp) HJC.out.vrow.cells (by have := HBE.out; have := HJC.out.1; omega) rfl _ _ rfl rfl rfl (HO.out.kept (grown_none HKC.out) (Classical.em _)) (own_src HOC.out) (Nat.le_trans h1W HKC.out.size) ?_; intro v' wD hown hgr hat; rw [HRR.out] at hgr; have HOD := Lib.hid hown; have HGD := Lib.hid hgr; clear hown hgr hat)
          | fail "no arm")
        go_roundw
        case rel =>
          have hne : ∀ r, R = some r → (∃ (c : Array Value) (e' : TypeId), wC.heap[r]? = some (.cells c e' (0, 0)) ∧ e' ≠ 3) ∨ r < 0 ∨ wC.heap.size ≤ r := fun r e => .inl (by obtain ⟨-, hr, c, hc⟩ := HRB.out r e; exact ⟨c, _, (HKC.out.block r hr).trans hc, by decide⟩)
          have he := HEE.out
          refine ⟨j + 1, vs ++ vs2, by omega, by subst he; go_num, by rw [List.length_append]; exact HOD.out, ?_, HB.out.trans ((HKC.out.mono h1W).trans (grown_low HGD.out (Nat.le_trans h1W HKC.out.size) (fun r e => (HRB.out r e).1)))⟩
          rw [HLT.out]
          exact ((HJR.out.below HKC.out).kept HGD.out hne).append (HJC.out.kept HGD.out hne)
        case measure => have he := HEE.out; simp [intOf]; omega
      · have hle : ¬ (e : Int) < (hi : Int) := by have := HQQ.out; omega
        obtain rfl : q = j := by omega
        clear hO hJR hB
        go_wp2_with fail
        go_ret
        exact ⟨HB.out, _, vs, rfl, HO.out, HJR.out⟩
  · obtain ⟨g, rfl, hc⟩ := HRD.out hk0
    have hkn : (k : Int) > 0 := by omega
    have hw1 : IntKind.i64.wrap ((k : Int) - 1) = ((k - 1 : Nat) : Int) := by rw [show (k : Int) - 1 = ((k - 1 : Nat) : Int) by omega]; exact IntWalk.i64_in _ ⟨by omega, by omega⟩
    have hkl : ((k - 1 : Nat) : Int) < (k : Int) := by omega
    have hk1 : (0 : Int) ≤ ((k - 1 : Nat) : Int) := by omega
    have HV7 := Lib.hid (show Value.int .i64 (lo : Int) = .int .i64 ((lo + 0 : Nat) : Int) from rfl)
    go_wp2_with fail
    go_loopw [8, 9] (fun v8 v9 wr => ∃ (j : Nat) (vs : List Value), j ≤ q ∧ v9 = .int .i64 ((lo + j : Nat) : Int) ∧ wr.ownsRow w.heap.size 27 1 v8 vs.length vs ∧ CRow wr 0 vs (lisTo d lo hi x j) ∧ Below w.heap.size w wr) (fun _ i _ => lo + q - (intOf i).toNat)
    case atStart => exact ⟨0, [], by omega, HV7.out, ⟨rfl, .inl ⟨rfl, rfl⟩⟩, CRow.nil _ _, Below.refl _ _⟩
    case round =>
      clear HV7
      obtain ⟨j, vs, hj, rfl, hO, hJR, hB⟩ := hrel
      have HB := Lib.hid hB
      have h1W : w.heap.size ≤ wr.heap.size := hB.size
      have HO := Lib.hid hO
      have HJR := Lib.hid hJR
      obtain ⟨e, he⟩ : ∃ e, e = lo + j := ⟨_, rfl⟩
      rw [← he]
      by_cases hlt : j < q
      · have hle : (e : Int) < (hi : Int) := by have := HQQ.out; omega
        have hvl : vs.length ≤ 46656 := by rw [hJR.1]; exact HBT.out j (by omega)
        obtain ⟨R, hR⟩ : ∃ R, u8.ownBlock = R := ⟨_, rfl⟩
        have hRb := own_row hO
        rw [hR] at hRb
        have HRB := Lib.hid hRb
        have HXT := Lib.hid (fun W (h : Below wr.heap.size wr W) (h0 : 0 < k) => HXS.out W (HB.out.trans (h.mono h1W)) h0)
        have HRR := Lib.hid hR
        have HIE := Lib.hid (fun W (hb : Below w.heap.size w W) ga c (hc : k + 1 ≤ c ∧ c ≤ maxLen) (hF : FRow W 0 3 1 ga (k + 1) c ((x ++ [(e : Int)]).map (Value.int .i64))) => show Calls Try.prog 97 #[.slice ga (k + 1) c, .int .i64 (mn : Int), .int .i64 hi] W fun e' w' => SetsPost (lisF d (e + 1) hi (x ++ [(e : Int)])) W e' w' from by subst he; exact HIH.out j hlt W hb ga c hc hF)
        have HBE := Lib.hid (show (lisF d (e + 1) hi (x ++ [(e : Int)])).length ≤ 7776 from by subst he; exact HBN.out j)
        have HLT := Lib.hid (show lisTo d lo hi x (j + 1) = lisTo d lo hi x j ++ lisF d (e + 1) hi (x ++ [(e : Int)]) from by rw [lisTo_next, he])
        have HEE := Lib.hid he
        clear hB hO hJR hRb hR he
        go_wp2_with (first
          | (at_builtin; refine wpList_append_copyC _ k xc (some ⟨g, 0, none⟩) x HXL.out hk1000 rfl _ _ rfl ?_ ?_ ?_ ?_; (· exact ⟨_, rfl⟩); (· rfl); (· intro h0; exact HXT.out _ (by repeat (first | exact Below.refl _ _ | (refine Below.alloc ?_ (by first | omega | (simp; omega) | simp) _) | (refine Below.setCell ?_ (by first | omega | (simp; omega) | simp) _) | refine Below.drew ?_)) h0); intro ga cA wA hfA hcA hbA; have kAb : Below wr.heap.size wr wA := below_via (Lib.hid hbA) (by first | exact Nat.le_refl _ | (simp; done) | (simp; omega)) (by repeat (first | exact Below.refl _ _ | (refine Below.alloc ?_ (by first | omega | (simp; omega) | simp) _) | (refine Below.setCell ?_ (by first | omega | (simp; omega) | simp) _) | refine Below.drew ?_)); have HKA := Lib.hid kAb; have HFA := Lib.hid (hfA.low (n1 := wr.heap.size) (by first | exact Nat.le_refl _ | (simp; done) | (simp; omega))); have HCA := Lib.hid hcA; have hzA := kAb.size; clear hfA hcA hbA kAb)
          | (at_builtin; refine wpList_append_num _ wr.heap.size k cA ga x (e : Int) HCA.out ?_ hk1000 rfl _ _ rfl ?_ ?_ ?_ ?_; (· exact HFA.out.kept (grown_none (by repeat (first | exact Below.refl _ _ | (refine Below.alloc ?_ (by first | omega | (simp; omega) | simp) _) | (refine Below.setCell ?_ (by first | omega | (simp; omega) | simp) _) | refine Below.drew ?_))) (fun r e => by cases e)); (· rfl); (· refine ⟨_, rfl, ?_⟩; (go_simp; done)); (· first | omega | (simp; omega)); intro na nc wB row hownB hgB hrB hbB; have kBb : Below wr.heap.size wr wB := Below.trans (by repeat (first | with_reducible exact HKA.out | exact Below.refl _ _ | (refine Below.alloc ?_ (by first | omega | (simp; omega) | simp) _) | refine Below.drew ?_)) hbB; have HKB := Lib.hid kBb; have HOB := Lib.hid hownB; have hzB := kBb.size; clear hownB hgB hrB hbB kBb)
          | (go_at_call 97; refine (HIE.out _ ?_ na nc (own_cap HOB.out) ((own_frow HOB.out).low (Nat.zero_le _))).mono ?_; (· exact HB.out.trans (HKB.out.mono HB.out.size)); rintro e' wC ⟨hbC, v2, vs2, rfl, hoC, hjC⟩; obtain ⟨va2, vc2, rfl⟩ := own_slice1 hoC; have kCb : Below wr.heap.size wr wC := HKB.out.trans (hbC.mono hzB); have HKC := Lib.hid kCb; have HOC := Lib.hid hoC; have HJC := Lib.hid hjC; have hzC := kCb.size; clear hbC hoC hjC kCb)
          | (at_builtin; refine wpList_append_src _ 24 27 (.slice none 0 0) 1 24 Try.underlying24 Try.info27 rfl (by decide) (by decide) w.heap.size vs.length vs2.length vc2 u8 vs vs2 va2 (by simp) HJC.out.vrow.cells (by have := HBE.out; have := HJC.out.1; omega) rfl _ _ rfl rfl rfl (HO.out.kept (grown_none HKC.out) (Classical.em _)) (own_src HOC.out) (Nat.le_trans h1W HKC.out.size) ?_; intro v' wD hown hgr hat; rw [HRR.out] at hgr; have HOD := Lib.hid hown; have HGD := Lib.hid hgr; clear hown hgr hat)
          | fail "no arm")
        go_roundw
        case rel =>
          have hne : ∀ r, R = some r → (∃ (c : Array Value) (e' : TypeId), wC.heap[r]? = some (.cells c e' (0, 0)) ∧ e' ≠ 3) ∨ r < 0 ∨ wC.heap.size ≤ r := fun r e => .inl (by obtain ⟨-, hr, c, hc⟩ := HRB.out r e; exact ⟨c, _, (HKC.out.block r hr).trans hc, by decide⟩)
          have he := HEE.out
          refine ⟨j + 1, vs ++ vs2, by omega, by subst he; go_num, by rw [List.length_append]; exact HOD.out, ?_, HB.out.trans ((HKC.out.mono h1W).trans (grown_low HGD.out (Nat.le_trans h1W HKC.out.size) (fun r e => (HRB.out r e).1)))⟩
          rw [HLT.out]
          exact ((HJR.out.below HKC.out).kept HGD.out hne).append (HJC.out.kept HGD.out hne)
        case measure => have he := HEE.out; simp [intOf]; omega
      · have hle : ¬ (e : Int) < (hi : Int) := by have := HQQ.out; omega
        obtain rfl : q = j := by omega
        clear hO hJR hB
        go_wp2_with fail
        go_ret
        exact ⟨HB.out, _, vs, rfl, HO.out, HJR.out⟩

/-- Rising lists. -/
theorem refLists_any (hi : Nat) (hh : hi ≤ 6) (mn : Nat) (hm6 : mn ≤ 6) : ∀ (d : Nat) (xa : Option Addr) (k xc : Nat) (x : List Int) (lo : Nat) (_ : lo ≤ 6) (_ : x.length = k) (_ : k + d = mn) (_ : (k = 0 ∧ lo = 0) ∨ (0 < k ∧ x[k - 1]? = some ((lo : Int) - 1))) (_ : k ≤ xc ∧ xc ≤ maxLen) (w : World) (_ : FRow w 0 3 1 xa k xc (x.map (Value.int .i64))),
    Calls Try.prog 97 #[.slice xa k xc, .int .i64 (mn : Int), .int .i64 hi] w fun e w' => SetsPost (lisF d lo hi x) w e w'
  | 0, xa, k, xc, x, lo, hlo, hxl, hkd, hl, hc, w, hx => by
    obtain rfl : k = mn := by omega
    exact refLists_end xa k xc x hi hxl (by omega) hc w hx
  | d + 1, xa, k, xc, x, lo, hlo, hxl, hkd, hl, hc, w, hx => by
    refine refLists_step xa k xc x d lo hi (hi - lo) mn (by omega) (by omega) rfl hh hlo hxl hl w hx fun n hn W hbW ga c hc2 hF => ?_
    exact refLists_any hi hh mn hm6 d ga (k + 1) c (x ++ [((lo + n : Nat) : Int)]) (lo + n + 1) (by omega) (by simp [hxl]) (by omega) (.inr ⟨by omega, by
      rw [List.getElem?_append_right (by omega), hxl]
      simp⟩) hc2 W hF
end Go.Proofs.Ytlhgoedghojnkaa

/- The reference: CanBe. -/
namespace Go.Proofs.Ytlhgoedghojnkaa
set_option linter.unusedVariables false
set_option linter.unusedSimpArgs false
open Go.RowKit Go.Shelf

theorem stockL_len (f : PFrame) : f.stockL.length = f.strips.length := by unfold PFrame.stockL; simp
theorem without_stock (f : PFrame) (x : List Int) : (f.without x).stockL = f.stockL := rfl

set_option maxRecDepth 100000 in
set_option maxHeartbeats 8000000 in
theorem refCanBe_any (f : PFrame) (sa : Option Addr) (sl sc : Nat) (pa : Option Addr) (pl pc : Nat) (ca : Option Addr) (cl cc : Nat) (xa : Option Addr) (xl xc : Nat) (x : List Int) (ho : f.ok = true) (w : World) (hp : PAt w sa sl sc pa pl pc ca cl cc f) (hx : IntsAt w xa xl x) :
    Calls Try.prog 69 #[.agg #[.int .i64 f.len, .int .i64 f.slack, .slice sa sl sc, .slice pa pl pc, .slice ca cl cc], .slice xa xl xc] w fun e w' => e = .returned (.bool (f.canB x)) ∧ Below w.heap.size w w' := by
  have hsl := hp.1.1
  have hw := PFrame.okW_of ho
  have hg := without_ok ho x
  have HWO := Lib.hid (fun W (hb : Below w.heap.size w W) => show Calls Try.prog 104 #[.agg #[.int .i64 f.len, .int .i64 f.slack, .slice sa sl sc, .slice pa pl pc, .slice ca cl cc], .slice xa xl xc] W fun e w' => (∃ ga gc ha hj ia ic, e = .returned (.agg #[.int .i64 f.len, .int .i64 f.slack, .slice ga sl gc, .slice ha pl hj, .slice ia cl ic]) ∧ ∀ W', KeepsUp W.heap.size w' W' → PAt W' ga sl gc ha pl hj ia cl ic (f.without x)) ∧ Below W.heap.size W w' from refWithout_any f sa sl sc pa pl pc ca cl cc xa xl xc x ho W (hp.below hb) (hx.below hb))
  have HST := Lib.hid (fun W (hb : Below w.heap.size w W) => show Calls Try.prog 92 #[.agg #[.int .i64 f.len, .int .i64 f.slack, .slice sa sl sc, .slice pa pl pc, .slice ca cl cc]] W fun e w' => (∃ a c, e = .returned (.slice a sl c) ∧ IntsAt w' a sl f.stockL) ∧ Below W.heap.size W w' from
    (refStock_any f sa sl sc pa pl pc ca cl cc hw W (hp.below hb)).mono fun e w' ⟨v, h1, h2, h3⟩ => by
      rw [hsl] at h2
      obtain ⟨a, c, rfl, h4⟩ := own_ints h2 (by rw [stockL_len, hsl])
      exact ⟨⟨a, c, h1, h4⟩, h3⟩)
  have HLY := Lib.hid (fun ga gc ha hj ia ic la lc W (hg' : PAt W ga sl gc ha pl hj ia cl ic (f.without x)) (hi : IntsAt W la sl f.stockL) => show Calls Try.prog 91 #[.agg #[.int .i64 f.len, .int .i64 f.slack, .slice ga sl gc, .slice ha pl hj, .slice ia cl ic], .int .i64 0, .slice la sl lc] W fun e w' => (∃ a c vs, e = .returned (.slice a (vs : List Value).length c) ∧ vs.length = (f.without x).layRs.length) ∧ Below W.heap.size W w' from
    (refLayouts_any (f.without x) ga sl gc ha pl hj ia cl ic hg (f.without x).cols.length 0 la sl lc f.stockL (by omega) (by rw [stockL_len]; rfl) (stockL_bd hw) W hg' hi).mono fun e w' h => by
      unfold LaysPost at h
      obtain ⟨h1, v, vs, h2, h3, h4⟩ := h
      obtain ⟨a, c, rfl⟩ := own_slice1 h3
      exact ⟨⟨a, c, vs, h2, h4.1⟩, h1⟩)
  rcases hb : f.canB x with - | -
  · have HLN := Lib.hid (show (f.without x).layRs.length = 0 from by unfold PFrame.canB at hb; simpa using hb)
    clear hp hx ho hw hg hb hsl
    go_enter Try.func69, Try.ntmps69
    go_wp2_with fail
    obtain ⟨W0, hW0, hB0, ⟨g0_0, g0_1, g0_2, g0_3, g0_4⟩, hz0⟩ : ∃ W0, (w.alloc (.cells #[.int .i64 f.len, .int .i64 f.slack, .slice sa sl sc, .slice pa pl pc, .slice ca cl cc] 26)) = W0 ∧ Below w.heap.size w W0 ∧ (W0.cell? ⟨w.heap.size, 0, none⟩ = some (.int .i64 f.len) ∧ W0.cell? ⟨w.heap.size, 1, none⟩ = some (.int .i64 f.slack) ∧ W0.cell? ⟨w.heap.size, 2, none⟩ = some (.slice sa sl sc) ∧ W0.cell? ⟨w.heap.size, 3, none⟩ = some (.slice pa pl pc) ∧ W0.cell? ⟨w.heap.size, 4, none⟩ = some (.slice ca cl cc)) ∧ W0.heap.size = w.heap.size + 1 :=
      ⟨_, rfl, (by repeat (first | exact Below.refl _ _ | (refine Below.alloc ?_ (by first | omega | (simp; omega) | simp) _) | (refine Below.setCell ?_ (by first | omega | (simp; omega) | simp) _) | refine Below.drew ?_)), ⟨by go_simp, by go_simp, by go_simp, by go_simp, by go_simp⟩, by simp⟩
    rw [hW0]
    clear hW0
    have HBW := Lib.hid hB0
    have q0_0 : w.heap.size < W0.heap.size := by omega
    clear hB0 hz0
    go_upto_region 1 with fail
    refine wp_region_noPanic ?_
    refine wp_region_held_drew (S := (fun w' => Below W0.heap.size W0 w' ∧ ∀ b o, b < W0.heap.size → w'.cell? ⟨b, o, none⟩ = W0.cell? ⟨b, o, none⟩)) (by kernel_rfl) ?_ (fun hHeld => ?_)
    · (first | with_reducible assumption | ((repeat (first | with_reducible refine bothS_drew ?_ | with_reducible refine bothS_alloc _ ?_ | with_reducible refine bothS_set _ _ (by first | omega | (simp; omega) | simp) ?_)); first | with_reducible assumption | with_reducible exact Hid.out (by assumption) | with_reducible exact ⟨Below.refl _ _, fun _ _ _ => rfl⟩))
    refine wpAnyH_take (i := 0) (oi := ?_) (v := ?_) ?_ ?_ ?_ ?_ ?_ ?_ ?_ ?_; rotate_left 2; (· simp only [List.getElem?_toArray, List.getElem?_cons_succ, List.getElem?_cons_zero]; with_reducible rfl); (· kernel_rfl); (· kernel_rfl); (· kernel_rfl); (· exact fun _ _ _ h => h); (· refine Or.inl ⟨by rfl, ?_⟩; intro w hSw; (try dsimp only at hSw); go_simp; try with_reducible rfl); (· assumption); (try simp only [Act.put, List.setIfInBounds_toArray, List.set_cons_zero, List.set_cons_succ])
    refine wpAnyH_take (i := 1) (oi := ?_) (v := ?_) ?_ ?_ ?_ ?_ ?_ ?_ ?_ ?_; rotate_left 2; (· simp only [List.getElem?_toArray, List.getElem?_cons_succ, List.getElem?_cons_zero]; with_reducible rfl); (· kernel_rfl); (· kernel_rfl); (· kernel_rfl); (· exact fun _ _ _ h => h); (· refine Or.inl ⟨by rfl, ?_⟩; intro w hSw; (try dsimp only at hSw); go_simp; try with_reducible rfl); (· assumption); (try simp only [Act.put, List.setIfInBounds_toArray, List.set_cons_zero, List.set_cons_succ])
    refine wpAnyH_take (i := 3) (oi := ?_) (v := ?_) ?_ ?_ ?_ ?_ ?_ ?_ ?_ ?_; rotate_left 2; (· simp only [List.getElem?_toArray, List.getElem?_cons_succ, List.getElem?_cons_zero]; with_reducible rfl); (· kernel_rfl); (· kernel_rfl); (· kernel_rfl); (· exact fun _ _ _ h => h); (· refine Or.inl ⟨by rfl, ?_⟩; intro w hSw; (try dsimp only at hSw); go_simp; try with_reducible rfl); (· assumption); (try simp only [Act.put, List.setIfInBounds_toArray, List.set_cons_zero, List.set_cons_succ])
    refine wpAnyH_ready (rs := [2]) (by kernel_rfl) (by simp) ?_; refine AllReadyH.cons (o := ?_) ?_ (fun K hK => ?_) AllReadyH.nil; rotate_left 1; (· simp only [List.getElem?_toArray, List.getElem?_cons_succ, List.getElem?_cons_zero]; with_reducible rfl); go_simp; (go_at_call 104; refine (HWO.out _ (HBW.out.trans (hHeld.1.mono HBW.out.size))).mono ?_; rintro e wA ⟨⟨ga, gc, ha, hj, ia, ic, rfl, hKK⟩, hbA⟩; have kA := bothS_below hHeld hbA; have HBA := Lib.hid hbA; have HPA := Lib.hid (fun W (h : Below wA.heap.size wA W) => hKK W (KeepsUp.below h)); clear hKK hbA); refine hK.out _ _ ?_ (fun hHeld => ?_); (· exact kA); clear hK K; (try simp only [Act.put, List.setIfInBounds_toArray, List.set_cons_zero, List.set_cons_succ])
    refine wpAnyH_ready (rs := [4]) (by kernel_rfl) (by simp) ?_; refine AllReadyH.cons (o := ?_) ?_ (fun K hK => ?_) AllReadyH.nil; rotate_left 1; (· simp only [List.getElem?_toArray, List.getElem?_cons_succ, List.getElem?_cons_zero]; with_reducible rfl); go_simp; (go_at_call 92; refine (HST.out _ (HBW.out.trans (hHeld.1.mono HBW.out.size))).mono ?_; rintro e wB ⟨⟨ta, tc, rfl, hI⟩, hbB⟩; have kB := bothS_below hHeld hbB; have HBB := Lib.hid hbB; have HIB := Lib.hid (fun W (h : Below wB.heap.size wB W) => hI.below h); clear hI hbB); refine hK.out _ _ ?_ (fun hHeld => ?_); (· exact kB); clear hK K; (try simp only [Act.put, List.setIfInBounds_toArray, List.set_cons_zero, List.set_cons_succ])
    refine wpAnyH_ready (rs := [5]) (by kernel_rfl) (by simp) ?_; refine AllReadyH.cons (o := ?_) ?_ (fun K hK => ?_) AllReadyH.nil; rotate_left 1; (· simp only [List.getElem?_toArray, List.getElem?_cons_succ, List.getElem?_cons_zero]; with_reducible rfl); go_simp; (go_at_call 91; refine (HLY.out _ _ _ _ _ _ _ _ _ (HPA.out _ HBB.out) (HIB.out _ (Below.refl _ _))).mono ?_; rintro e wC ⟨⟨va, vc, vs, rfl, hl⟩, hbC⟩; have kC := bothS_below hHeld hbC; have hpos : ¬ (vs.length : Int) > 0 := (by have := HLN.out; omega); clear hl hbC); refine hK.out _ _ ?_ (fun hHeld => ?_); (· exact kC); clear hK K; (try simp only [Act.put, List.setIfInBounds_toArray, List.set_cons_zero, List.set_cons_succ])
    refine wpAnyH_take (i := 6) (oi := ?_) (v := ?_) ?_ ?_ ?_ ?_ ?_ ?_ ?_ ?_; rotate_left 2; (· simp only [List.getElem?_toArray, List.getElem?_cons_succ, List.getElem?_cons_zero]; with_reducible rfl); (· kernel_rfl); (· kernel_rfl); (· kernel_rfl); (· exact fun _ _ _ h => h); (· refine Or.inl ⟨by rfl, ?_⟩; intro w hSw; (try dsimp only at hSw); go_simp; try with_reducible rfl); (· assumption); (try simp only [Act.put, List.setIfInBounds_toArray, List.set_cons_zero, List.set_cons_succ])
    refine wpAnyH_take (i := 7) (oi := ?_) (v := ?_) ?_ ?_ ?_ ?_ ?_ ?_ ?_ ?_; rotate_left 2; (· simp only [List.getElem?_toArray, List.getElem?_cons_succ, List.getElem?_cons_zero]; with_reducible rfl); (· kernel_rfl); (· kernel_rfl); (· kernel_rfl); (· exact fun _ _ _ h => h); (· refine Or.inl ⟨by rfl, ?_⟩; intro w hSw; (try dsimp only at hSw); go_simp; try with_reducible rfl); (· assumption); (try simp only [Act.put, List.setIfInBounds_toArray, List.set_cons_zero, List.set_cons_succ])
    refine wpAnyH_take (i := 8) (oi := ?_) (v := ?_) ?_ ?_ ?_ ?_ ?_ ?_ ?_ ?_; rotate_left 2; (· simp only [List.getElem?_toArray, List.getElem?_cons_succ, List.getElem?_cons_zero]; with_reducible rfl); (· kernel_rfl); (· kernel_rfl); (· kernel_rfl); (· exact fun _ _ _ h => h); (· refine Or.inl ⟨by rfl, ?_⟩; intro w hSw; (try dsimp only at hSw); go_simp; try with_reducible rfl); (· assumption); (try simp only [Act.put, List.setIfInBounds_toArray, List.set_cons_zero, List.set_cons_succ])
    refine wpAnyH_done (by kernel_rfl) ?_ _
    refine NoPanic.normal ?_
    go_wp2_with fail
    go_ret
    exact ⟨ret_bool (a := decide (0 < vs.length)) (decide_eq_false (by omega)), HBW.out.trans ((And.left kC).mono HBW.out.size)⟩
  · have HLN := Lib.hid (show 0 < (f.without x).layRs.length from by unfold PFrame.canB at hb; simpa using hb)
    clear hp hx ho hw hg hb hsl
    go_enter Try.func69, Try.ntmps69
    go_wp2_with fail
    obtain ⟨W0, hW0, hB0, ⟨g0_0, g0_1, g0_2, g0_3, g0_4⟩, hz0⟩ : ∃ W0, (w.alloc (.cells #[.int .i64 f.len, .int .i64 f.slack, .slice sa sl sc, .slice pa pl pc, .slice ca cl cc] 26)) = W0 ∧ Below w.heap.size w W0 ∧ (W0.cell? ⟨w.heap.size, 0, none⟩ = some (.int .i64 f.len) ∧ W0.cell? ⟨w.heap.size, 1, none⟩ = some (.int .i64 f.slack) ∧ W0.cell? ⟨w.heap.size, 2, none⟩ = some (.slice sa sl sc) ∧ W0.cell? ⟨w.heap.size, 3, none⟩ = some (.slice pa pl pc) ∧ W0.cell? ⟨w.heap.size, 4, none⟩ = some (.slice ca cl cc)) ∧ W0.heap.size = w.heap.size + 1 :=
      ⟨_, rfl, (by repeat (first | exact Below.refl _ _ | (refine Below.alloc ?_ (by first | omega | (simp; omega) | simp) _) | (refine Below.setCell ?_ (by first | omega | (simp; omega) | simp) _) | refine Below.drew ?_)), ⟨by go_simp, by go_simp, by go_simp, by go_simp, by go_simp⟩, by simp⟩
    rw [hW0]
    clear hW0
    have HBW := Lib.hid hB0
    have q0_0 : w.heap.size < W0.heap.size := by omega
    clear hB0 hz0
    go_upto_region 1 with fail
    refine wp_region_noPanic ?_
    refine wp_region_held_drew (S := (fun w' => Below W0.heap.size W0 w' ∧ ∀ b o, b < W0.heap.size → w'.cell? ⟨b, o, none⟩ = W0.cell? ⟨b, o, none⟩)) (by kernel_rfl) ?_ (fun hHeld => ?_)
    · (first | with_reducible assumption | ((repeat (first | with_reducible refine bothS_drew ?_ | with_reducible refine bothS_alloc _ ?_ | with_reducible refine bothS_set _ _ (by first | omega | (simp; omega) | simp) ?_)); first | with_reducible assumption | with_reducible exact Hid.out (by assumption) | with_reducible exact ⟨Below.refl _ _, fun _ _ _ => rfl⟩))
    refine wpAnyH_take (i := 0) (oi := ?_) (v := ?_) ?_ ?_ ?_ ?_ ?_ ?_ ?_ ?_; rotate_left 2; (· simp only [List.getElem?_toArray, List.getElem?_cons_succ, List.getElem?_cons_zero]; with_reducible rfl); (· kernel_rfl); (· kernel_rfl); (· kernel_rfl); (· exact fun _ _ _ h => h); (· refine Or.inl ⟨by rfl, ?_⟩; intro w hSw; (try dsimp only at hSw); go_simp; try with_reducible rfl); (· assumption); (try simp only [Act.put, List.setIfInBounds_toArray, List.set_cons_zero, List.set_cons_succ])
    refine wpAnyH_take (i := 1) (oi := ?_) (v := ?_) ?_ ?_ ?_ ?_ ?_ ?_ ?_ ?_; rotate_left 2; (· simp only [List.getElem?_toArray, List.getElem?_cons_succ, List.getElem?_cons_zero]; with_reducible rfl); (· kernel_rfl); (· kernel_rfl); (· kernel_rfl); (· exact fun _ _ _ h => h); (· refine Or.inl ⟨by rfl, ?_⟩; intro w hSw; (try dsimp only at hSw); go_simp; try with_reducible rfl); (· assumption); (try simp only [Act.put, List.setIfInBounds_toArray, List.set_cons_zero, List.set_cons_succ])
    refine wpAnyH_take (i := 3) (oi := ?_) (v := ?_) ?_ ?_ ?_ ?_ ?_ ?_ ?_ ?_; rotate_left 2; (· simp only [List.getElem?_toArray, List.getElem?_cons_succ, List.getElem?_cons_zero]; with_reducible rfl); (· kernel_rfl); (· kernel_rfl); (· kernel_rfl); (· exact fun _ _ _ h => h); (· refine Or.inl ⟨by rfl, ?_⟩; intro w hSw; (try dsimp only at hSw); go_simp; try with_reducible rfl); (· assumption); (try simp only [Act.put, List.setIfInBounds_toArray, List.set_cons_zero, List.set_cons_succ])
    refine wpAnyH_ready (rs := [2]) (by kernel_rfl) (by simp) ?_; refine AllReadyH.cons (o := ?_) ?_ (fun K hK => ?_) AllReadyH.nil; rotate_left 1; (· simp only [List.getElem?_toArray, List.getElem?_cons_succ, List.getElem?_cons_zero]; with_reducible rfl); go_simp; (go_at_call 104; refine (HWO.out _ (HBW.out.trans (hHeld.1.mono HBW.out.size))).mono ?_; rintro e wA ⟨⟨ga, gc, ha, hj, ia, ic, rfl, hKK⟩, hbA⟩; have kA := bothS_below hHeld hbA; have HBA := Lib.hid hbA; have HPA := Lib.hid (fun W (h : Below wA.heap.size wA W) => hKK W (KeepsUp.below h)); clear hKK hbA); refine hK.out _ _ ?_ (fun hHeld => ?_); (· exact kA); clear hK K; (try simp only [Act.put, List.setIfInBounds_toArray, List.set_cons_zero, List.set_cons_succ])
    refine wpAnyH_ready (rs := [4]) (by kernel_rfl) (by simp) ?_; refine AllReadyH.cons (o := ?_) ?_ (fun K hK => ?_) AllReadyH.nil; rotate_left 1; (· simp only [List.getElem?_toArray, List.getElem?_cons_succ, List.getElem?_cons_zero]; with_reducible rfl); go_simp; (go_at_call 92; refine (HST.out _ (HBW.out.trans (hHeld.1.mono HBW.out.size))).mono ?_; rintro e wB ⟨⟨ta, tc, rfl, hI⟩, hbB⟩; have kB := bothS_below hHeld hbB; have HBB := Lib.hid hbB; have HIB := Lib.hid (fun W (h : Below wB.heap.size wB W) => hI.below h); clear hI hbB); refine hK.out _ _ ?_ (fun hHeld => ?_); (· exact kB); clear hK K; (try simp only [Act.put, List.setIfInBounds_toArray, List.set_cons_zero, List.set_cons_succ])
    refine wpAnyH_ready (rs := [5]) (by kernel_rfl) (by simp) ?_; refine AllReadyH.cons (o := ?_) ?_ (fun K hK => ?_) AllReadyH.nil; rotate_left 1; (· simp only [List.getElem?_toArray, List.getElem?_cons_succ, List.getElem?_cons_zero]; with_reducible rfl); go_simp; (go_at_call 91; refine (HLY.out _ _ _ _ _ _ _ _ _ (HPA.out _ HBB.out) (HIB.out _ (Below.refl _ _))).mono ?_; rintro e wC ⟨⟨va, vc, vs, rfl, hl⟩, hbC⟩; have kC := bothS_below hHeld hbC; have hpos : (vs.length : Int) > 0 := (by have := HLN.out; omega); clear hl hbC); refine hK.out _ _ ?_ (fun hHeld => ?_); (· exact kC); clear hK K; (try simp only [Act.put, List.setIfInBounds_toArray, List.set_cons_zero, List.set_cons_succ])
    refine wpAnyH_take (i := 6) (oi := ?_) (v := ?_) ?_ ?_ ?_ ?_ ?_ ?_ ?_ ?_; rotate_left 2; (· simp only [List.getElem?_toArray, List.getElem?_cons_succ, List.getElem?_cons_zero]; with_reducible rfl); (· kernel_rfl); (· kernel_rfl); (· kernel_rfl); (· exact fun _ _ _ h => h); (· refine Or.inl ⟨by rfl, ?_⟩; intro w hSw; (try dsimp only at hSw); go_simp; try with_reducible rfl); (· assumption); (try simp only [Act.put, List.setIfInBounds_toArray, List.set_cons_zero, List.set_cons_succ])
    refine wpAnyH_take (i := 7) (oi := ?_) (v := ?_) ?_ ?_ ?_ ?_ ?_ ?_ ?_ ?_; rotate_left 2; (· simp only [List.getElem?_toArray, List.getElem?_cons_succ, List.getElem?_cons_zero]; with_reducible rfl); (· kernel_rfl); (· kernel_rfl); (· kernel_rfl); (· exact fun _ _ _ h => h); (· refine Or.inl ⟨by rfl, ?_⟩; intro w hSw; (try dsimp only at hSw); go_simp; try with_reducible rfl); (· assumption); (try simp only [Act.put, List.setIfInBounds_toArray, List.set_cons_zero, List.set_cons_succ])
    refine wpAnyH_take (i := 8) (oi := ?_) (v := ?_) ?_ ?_ ?_ ?_ ?_ ?_ ?_ ?_; rotate_left 2; (· simp only [List.getElem?_toArray, List.getElem?_cons_succ, List.getElem?_cons_zero]; with_reducible rfl); (· kernel_rfl); (· kernel_rfl); (· kernel_rfl); (· exact fun _ _ _ h => h); (· refine Or.inl ⟨by rfl, ?_⟩; intro w hSw; (try dsimp only at hSw); go_simp; try with_reducible rfl); (· assumption); (try simp only [Act.put, List.setIfInBounds_toArray, List.set_cons_zero, List.set_cons_succ])
    refine wpAnyH_done (by kernel_rfl) ?_ _
    refine NoPanic.normal ?_
    go_wp2_with fail
    go_ret
    exact ⟨ret_bool (a := decide (0 < vs.length)) (decide_eq_true (by omega)), HBW.out.trans ((And.left kC).mono HBW.out.size)⟩
end Go.Proofs.Ytlhgoedghojnkaa

/- The reference: Refuse, Lost. -/
namespace Go.Proofs.Ytlhgoedghojnkaa
set_option linter.unusedVariables false
set_option linter.unusedSimpArgs false
open Go.RowKit Go.Shelf

theorem frow_nil (w : World) : FRow w 0 3 1 none 0 0 (([] : List Int).map (Value.int .i64)) := ⟨by simp, fun h => absurd h (Nat.lt_irrefl 0)⟩
theorem refLists_zero (n m : Nat) (hn : n ≤ 6) (hm : m ≤ 6) (w : World) :
    Calls Try.prog 97 #[.slice none 0 0, .int .i64 (m : Int), .int .i64 n] w fun e w' => SetsPost (lisF m 0 n []) w e w' := by
  have h := refLists_any n hn m hm m none 0 0 [] 0 (Nat.zero_le 6) rfl (Nat.zero_add m) (Or.inl ⟨rfl, rfl⟩) ⟨Nat.le_refl 0, Nat.zero_le _⟩ w (frow_nil w)
  exact h
def lisM (n m : Nat) : List (List Int) := (List.range m).flatMap fun d => lisF d 0 n []
theorem lisM_next (n m : Nat) : lisM n (m + 1) = lisM n m ++ lisF m 0 n [] := by
  unfold lisM; rw [List.range_succ, List.flatMap_append]; simp
theorem lisM_sub {n m : Nat} (h : m ≤ n + 1) {x : List Int} (hx : x ∈ lisM n m) : x ∈ lisA n := by
  unfold lisM at hx
  obtain ⟨d, hd, hx⟩ := List.mem_flatMap.1 hx
  exact List.mem_flatMap.2 ⟨d, List.mem_range.2 (by have := List.mem_range.1 hd; omega), hx⟩
theorem lis_in {n : Nat} (h6 : n ≤ 6) {x : List Int} (hx : x ∈ lisA n) : (∀ y ∈ x, 0 ≤ y ∧ y < (n : Int)) ∧ x.length ≤ 6 := by
  obtain ⟨c, hc, rfl⟩ := (lis_mem h6).1 x hx
  refine ⟨fun y hy => ?_, Nat.le_trans (pickR_len c n) h6⟩
  unfold pickR at hy
  obtain ⟨i, hi, rfl⟩ := List.mem_map.1 hy
  have := List.mem_range.1 (List.mem_filter.1 hi).1
  omega
theorem fold_mem (f : PFrame) (P : List Int → Bool) : ∀ (xs : List (List Int)) (o : Option (List Int)) (b : List Int), xs.foldl (stepK f P) o = some b → o = some b ∨ b ∈ xs
  | [], o, b, h => .inl h
  | x :: xs, o, b, h => by
    rw [List.foldl_cons] at h
    rcases fold_mem f P xs _ b h with e | e
    · unfold stepK at e
      split at e
      · injection e with e; subst e; exact .inr (by simp)
      · exact .inl e
    · exact .inr (by simp [e])
/-- The best one so far, as the two variables hold it. -/
def BestV (o : Option (List Int)) (v5 v6 : Value) (W : World) : Prop :=
  (o = none ∧ v6 = .bool false ∧ v5 = .slice none 0 0) ∨ ∃ b a c, o = some b ∧ v6 = .bool true ∧ v5 = .slice a b.length c ∧ IntsAt W a b.length b
theorem BestV.below {o : Option (List Int)} {v5 v6 : Value} {W W' : World} (h : BestV o v5 v6 W) (hb : Below W.heap.size W W') : BestV o v5 v6 W' := by
  rcases h with h | ⟨b, a, c, h1, h2, h3, h4⟩
  · exact .inl h
  · exact .inr ⟨b, a, c, h1, h2, h3, h4.below hb⟩
/-- What the reference's Refuse gives. -/
def RefPost (f : PFrame) (w : World) (e : Ending) (w' : World) : Prop :=
  Below w.heap.size w w' ∧ match (if f.ok then f.refK else none) with
  | none => e = .returned (.tuple #[.slice none 0 0, .int .i64 (if f.ok then 3 else 30)])
  | some b => ∃ a c, e = .returned (.tuple #[.slice a b.length c, .int .i64 0]) ∧ IntsAt w' a b.length b

set_option maxRecDepth 100000 in
set_option maxHeartbeats 8000000 in
theorem refRefuse_no (f : PFrame) (sa : Option Addr) (sl sc : Nat) (pa : Option Addr) (pl pc : Nat) (ca : Option Addr) (cl cc : Nat) (ho : f.ok = false) (hB : ∀ c ∈ f.cols, c.length ≤ 1000) (w : World) (hp : PAt w sa sl sc pa pl pc ca cl cc f) :
    Calls Try.prog 39 #[.agg #[.int .i64 f.len, .int .i64 f.slack, .slice sa sl sc, .slice pa pl pc, .slice ca cl cc]] w fun e w' => e = .returned (.tuple #[.slice none 0 0, .int .i64 30]) ∧ Below w.heap.size w w' := by
  have HC := Lib.hid (fun W (hb : Below w.heap.size w W) => refCheck_is f sa sl sc pa pl pc ca cl cc 30 (by unfold PFrame.chk; rw [ho]; rfl) hB W (hp.below hb))
  clear hp ho hB
  go_enter Try.func39, Try.ntmps39
  go_wp2_with fail
  obtain ⟨W0, hW0, hB0, ⟨g0_0, g0_1, g0_2, g0_3, g0_4⟩, hz0⟩ : ∃ W0, (w.alloc (.cells #[.int .i64 f.len, .int .i64 f.slack, .slice sa sl sc, .slice pa pl pc, .slice ca cl cc] 26)) = W0 ∧ Below w.heap.size w W0 ∧ (W0.cell? ⟨w.heap.size, 0, none⟩ = some (.int .i64 f.len) ∧ W0.cell? ⟨w.heap.size, 1, none⟩ = some (.int .i64 f.slack) ∧ W0.cell? ⟨w.heap.size, 2, none⟩ = some (.slice sa sl sc) ∧ W0.cell? ⟨w.heap.size, 3, none⟩ = some (.slice pa pl pc) ∧ W0.cell? ⟨w.heap.size, 4, none⟩ = some (.slice ca cl cc)) ∧ W0.heap.size = w.heap.size + 1 :=
    ⟨_, rfl, (by repeat (first | exact Below.refl _ _ | (refine Below.alloc ?_ (by first | omega | (simp; omega) | simp) _) | (refine Below.setCell ?_ (by first | omega | (simp; omega) | simp) _) | refine Below.drew ?_)), ⟨by go_simp, by go_simp, by go_simp, by go_simp, by go_simp⟩, by simp⟩
  rw [hW0]
  clear hW0
  have HBW := Lib.hid hB0
  have q0_0 : w.heap.size < W0.heap.size := by omega
  clear hB0 hz0
  go_wp2_with fail
  refine (HC.out _ (HBW.out.trans (Below.mono (by repeat (first | exact Below.refl _ _ | (refine Below.alloc ?_ (by first | omega | (simp; omega) | simp) _) | (refine Below.setCell ?_ (by first | omega | (simp; omega) | simp) _) | refine Below.drew ?_)) HBW.out.size))).mono ?_
  rintro e v1 ⟨rfl, hb1⟩
  have hB1_0 : Below W0.heap.size W0 v1 := below_via (Lib.hid hb1) (by first | omega | (simp; done) | (simp; omega)) (by repeat (first | exact Below.refl _ _ | (refine Below.alloc ?_ (by first | omega | (simp; omega) | simp) _) | (refine Below.setCell ?_ (by first | omega | (simp; omega) | simp) _) | refine Below.drew ?_))
  have z1 := hb1.size
  (try simp at z1)
  have HB1 := Lib.hid hB1_0
  have y1 := hB1_0.size
  clear hb1 hB1_0 g0_0 g0_1 g0_2 g0_3 g0_4 q0_0
  go_wp2_with fail
  go_ret2
  exact ⟨rfl, HBW.out.trans (Below.mono (by repeat (first | exact Below.refl _ _ | with_reducible exact HB1.out | (refine Below.alloc ?_ (by first | omega | (simp; omega) | simp) _) | (refine Below.setCell ?_ (by first | omega | (simp; omega) | simp) _) | refine Below.drew ?_)) HBW.out.size)⟩
set_option maxRecDepth 100000 in
set_option maxHeartbeats 16000000 in
theorem refRefuse_yes (f : PFrame) (sa : Option Addr) (sl sc : Nat) (pa : Option Addr) (pl pc : Nat) (ca : Option Addr) (cl cc : Nat) (ho : f.ok = true) (w : World) (hp : PAt w sa sl sc pa pl pc ca cl cc f) :
    Calls Try.prog 39 #[.agg #[.int .i64 f.len, .int .i64 f.slack, .slice sa sl sc, .slice pa pl pc, .slice ca cl cc]] w fun e w' => RefPost f w e w' := by
  have HC := Lib.hid (fun W (hb : Below w.heap.size w W) => refCheck_is f sa sl sc pa pl pc ca cl cc 0 (by unfold PFrame.chk; rw [ho]; rfl) (ok_hB ho) W (hp.below hb))
  have hpl := hp.2.1.1
  have h6 := (PFrame.ok_parts ho).2.2.2.2.2.1
  have HPN := Lib.hid (fun xa xl xc x (hin : ∀ y ∈ x, 0 ≤ y ∧ y < (f.pieces.length : Int)) (h40 : xl ≤ 40) W (hb : Below w.heap.size w W) (hx : IntsAt W xa xl x) => refPence_any f sa sl sc pa pl pc ca cl cc xa xl xc x ho hin h40 W (hp.below hb) hx)
  have HCB := Lib.hid (fun xa xl xc x W (hb : Below w.heap.size w W) (hx : IntsAt W xa xl x) => refCanBe_any f sa sl sc pa pl pc ca cl cc xa xl xc x ho W (hp.below hb) hx)
  have hp6 : pl ≤ 6 := by omega
  have HLS := Lib.hid (fun m (hm : m ≤ 6) W => refLists_zero pl m hp6 hm W)
  have HIN := Lib.hid (fun m (hm : m ≤ pl + 1) x (hx : x ∈ lisM pl m) => show (∀ y ∈ x, 0 ≤ y ∧ y < (f.pieces.length : Int)) ∧ x.length ≤ 6 from by rw [hpl]; exact lis_in (by omega) (lisM_sub hm hx))
  have hR : (if f.ok then f.refK else none) = (lisM pl (pl + 1)).foldl (stepK f f.canB) none := by rw [ho, if_pos rfl, ← hpl]; rfl
  have hO3 : (if f.ok = true then (3 : Int) else 30) = 3 := by rw [ho, if_pos rfl]
  unfold RefPost
  rw [hR, hO3]
  have hpl6 : pl ≤ 6 := by omega
  have HST := Lib.hid (fun (xs : List (List Int)) x => show (xs ++ [x]).foldl (stepK f f.canB) none = stepK f f.canB (xs.foldl (stepK f f.canB) none) x from by rw [List.foldl_append]; rfl)
  have HMEM := Lib.hid (fun xs b (h : xs.foldl (stepK f f.canB) none = some b) => show b ∈ xs from (fold_mem f f.canB xs none b h).resolve_left (fun e => by cases e))
  obtain ⟨R, hRR⟩ : ∃ R, (lisM pl (pl + 1)).foldl (stepK f f.canB) none = R := ⟨_, rfl⟩
  rw [hRR]
  have HRR := Lib.hid hRR
  clear hRR hp ho hR hO3 hpl h6
  go_enter Try.func39, Try.ntmps39
  go_wp2_with fail
  obtain ⟨W0, hW0, hB0, hs0, hz0⟩ := name1k w #[.int .i64 f.len, .int .i64 f.slack, .slice sa sl sc, .slice pa pl pc, .slice ca cl cc] 26
  try rw [hW0]
  clear hW0
  obtain ⟨x0, x1, x2, x3, x4⟩ : W0.cell? ⟨w.heap.size, 0, none⟩ = some (.int .i64 f.len) ∧ W0.cell? ⟨w.heap.size, 1, none⟩ = some (.int .i64 f.slack) ∧ W0.cell? ⟨w.heap.size, 2, none⟩ = some (.slice sa sl sc) ∧ W0.cell? ⟨w.heap.size, 3, none⟩ = some (.slice pa pl pc) ∧ W0.cell? ⟨w.heap.size, 4, none⟩ = some (.slice ca cl cc) := ⟨hs0 0, hs0 1, hs0 2, hs0 3, hs0 4⟩
  refine (HC.out _ hB0).mono ?_
  rintro e w1 ⟨rfl, hb1⟩
  have HS1 := Lib.hid (fun i => (hb1.cell (p := ⟨w.heap.size, i, none⟩) hz0).trans (hs0 i))
  have HB1 := Lib.hid (hB0.trans (hb1.mono hB0.size))
  have hz1 : w.heap.size < w1.heap.size := Nat.lt_of_lt_of_le hz0 hb1.size
  clear hb1 hB0 hs0 x0 x1 x2 x3 x4
  go_wp2_with fail
  go_loopw [5, 6, 7] (fun v5 v6 v7 wr => ∃ m : Nat, m ≤ pl + 1 ∧ v7 = .int .i64 m ∧ BestV ((lisM pl m).foldl (stepK f f.canB) none) v5 v6 wr ∧ Below w1.heap.size w1 wr) (fun _ _ i _ => pl + 1 - (intOf i).toNat)
  case atStart => exact ⟨0, by omega, rfl, .inl ⟨rfl, rfl, rfl⟩, Below.refl _ _⟩
  case round =>
    obtain ⟨m, hm, rfl, hV, hBr⟩ := hrel
    obtain ⟨W1, rfl⟩ : ∃ W1 : World, W1 = wr := ⟨_, rfl⟩
    obtain ⟨o5, rfl⟩ : ∃ o5 : Value, o5 = u5 := ⟨_, rfl⟩
    obtain ⟨o6, rfl⟩ : ∃ o6 : Value, o6 = u6 := ⟨_, rfl⟩
    have HV := Lib.hid hV
    have HBR := Lib.hid hBr
    have hz2 : w.heap.size < W1.heap.size := Nat.lt_of_lt_of_le hz1 hBr.size
    have hxr := fun i => (hBr.cell (p := ⟨w.heap.size, i, none⟩) hz1).trans (HS1.out i)
    obtain ⟨x0, x1, x2, x3, x4⟩ : W1.cell? ⟨w.heap.size, 0, none⟩ = some (.int .i64 f.len) ∧ W1.cell? ⟨w.heap.size, 1, none⟩ = some (.int .i64 f.slack) ∧ W1.cell? ⟨w.heap.size, 2, none⟩ = some (.slice sa sl sc) ∧ W1.cell? ⟨w.heap.size, 3, none⟩ = some (.slice pa pl pc) ∧ W1.cell? ⟨w.heap.size, 4, none⟩ = some (.slice ca cl cc) := ⟨hxr 0, hxr 1, hxr 2, hxr 3, hxr 4⟩
    clear hV hBr hxr
    by_cases hlt : m ≤ pl
    · have hle : (m : Int) ≤ (pl : Int) := by omega
      go_upto_region 10 with (go_at_call 97; refine (HLS.out m (by omega) _).mono ?_; rintro e w2 ⟨hb2, v2, vs, rfl, hO, hCR⟩; obtain ⟨va, vc, rfl⟩ := own_slice1 hO; have HB2 := Lib.hid (show Below W1.heap.size W1 w2 from below_via (Lib.hid hb2) (by first | exact Nat.le_refl _ | (simp; done) | (simp; omega)) (by repeat (first | exact Below.refl _ _ | (refine Below.alloc ?_ (by first | omega | (simp; omega) | simp) _) | (refine Below.setCell ?_ (by first | omega | (simp; omega) | simp) _) | refine Below.drew ?_))); have HO := Lib.hid hO; have HCR := Lib.hid hCR; clear hb2 hO hCR)
      obtain ⟨L, hL⟩ : ∃ L, lisF m 0 pl [] = L := ⟨_, rfl⟩
      rw [hL] at HCR
      have HLN := Lib.hid (show lisM pl (m + 1) = lisM pl m ++ L from by rw [lisM_next, hL])
      have HVL := Lib.hid HCR.out.1
      have HLB := Lib.hid (show L.length ≤ 46656 from by rw [← hL]; exact Nat.le_trans (lisF_len m 0 pl [] hpl6) (Nat.le_trans (Nat.pow_le_pow_right (by decide) (show m ≤ 6 by omega)) (by decide)))
      have HBW := Lib.hid ((HB1.out.trans (HBR.out.mono HB1.out.size)).trans (HB2.out.mono (Nat.le_trans HB1.out.size HBR.out.size)))
      have hz3 : w.heap.size < w2.heap.size := Nat.lt_of_lt_of_le hz2 HB2.out.size
      have HX2 := Lib.hid (show w2.cell? ⟨w.heap.size, 0, none⟩ = some (.int .i64 f.len) ∧ w2.cell? ⟨w.heap.size, 1, none⟩ = some (.int .i64 f.slack) ∧ w2.cell? ⟨w.heap.size, 2, none⟩ = some (.slice sa sl sc) ∧ w2.cell? ⟨w.heap.size, 3, none⟩ = some (.slice pa pl pc) ∧ w2.cell? ⟨w.heap.size, 4, none⟩ = some (.slice ca cl cc) from ⟨(HB2.out.cell (p := ⟨w.heap.size, 0, none⟩) hz2).trans x0, (HB2.out.cell (p := ⟨w.heap.size, 1, none⟩) hz2).trans x1, (HB2.out.cell (p := ⟨w.heap.size, 2, none⟩) hz2).trans x2, (HB2.out.cell (p := ⟨w.heap.size, 3, none⟩) hz2).trans x3, (HB2.out.cell (p := ⟨w.heap.size, 4, none⟩) hz2).trans x4⟩)
      have HF := Lib.hid (fun j (hj : j < L.length) => show ∃ g, va = some ⟨g, 0, none⟩ ∧ g < w2.heap.size ∧ ∃ ga c, w2.cell? ⟨g, j, none⟩ = some (.slice ga L[j].length c) ∧ IntsAt w2 ga L[j].length L[j] from by
        obtain ⟨g, vc', hge, -⟩ := ownsRow_pos HO.out (by have := HVL.out; omega)
        injection hge with hge
        subst hge
        obtain ⟨_, cur, hcur⟩ := own_parts HO.out
        obtain ⟨ga, c, h1, h2, h3⟩ := HCR.out.2 j hj
        have := HO.out.cells (g := g) rfl j _ h1
        rw [Addr.add_lit] at this
        rw [Nat.zero_add] at this
        exact ⟨g, rfl, (Array.getElem?_eq_some_iff.1 hcur).1, ga, c, this, h3.ints (by omega)⟩)
      have HVB := Lib.hid (HV.out.below HB2.out)
      have hm1 : m ≤ pl + 1 := by omega
      clear hL x0 x1 x2 x3 x4
      go_wp2_with fail
      go_loopw [5, 6, 9] (fun v5 v6 v9 wr => ∃ k : Nat, k ≤ vs.length ∧ v9 = .int .i64 k ∧ BestV ((lisM pl m ++ L.take k).foldl (stepK f f.canB) none) v5 v6 wr ∧ Below w2.heap.size w2 wr) (fun _ _ i _ => vs.length - (intOf i).toNat)
      case atStart => exact ⟨0, by omega, rfl, by rw [List.take_zero, List.append_nil]; exact HVB.out, Below.refl _ _⟩
      case round =>
        obtain ⟨k, hk, rfl, hV3, hB3⟩ := hrel
        obtain ⟨W3, rfl⟩ : ∃ W3 : World, W3 = wr := ⟨_, rfl⟩
        have hvl := HVL.out
        by_cases hkl : k < vs.length
        · have hkL : k < L.length := by omega
          obtain ⟨g, hga, hg2, ga, c, hcg, hig⟩ := HF.out k hkL
          subst hga
          have hkn : (k : Int) < (vs.length : Int) := by omega
          have hk0 : (0 : Int) ≤ (k : Int) := by omega
          have y0 := (hB3.cell (p := ⟨w.heap.size, 0, none⟩) hz3).trans HX2.out.1
          have y1 := (hB3.cell (p := ⟨w.heap.size, 1, none⟩) hz3).trans HX2.out.2.1
          have y2 := (hB3.cell (p := ⟨w.heap.size, 2, none⟩) hz3).trans HX2.out.2.2.1
          have y3 := (hB3.cell (p := ⟨w.heap.size, 3, none⟩) hz3).trans HX2.out.2.2.2.1
          have y4 := (hB3.cell (p := ⟨w.heap.size, 4, none⟩) hz3).trans HX2.out.2.2.2.2
          have y5 := (hB3.cell (p := ⟨g, k, none⟩) hg2).trans hcg
          have hz4 : w.heap.size < W3.heap.size := Nat.lt_of_lt_of_le hz3 hB3.size
          have hg4 : g < W3.heap.size := Nat.lt_of_lt_of_le hg2 hB3.size
          have hbw3 := HBW.out.trans (hB3.mono HBW.out.size)
          have hmem : L[k] ∈ lisM pl (m + 1) := by rw [HLN.out]; exact List.mem_append_right _ (List.getElem_mem hkL)
          obtain ⟨hin, hl6⟩ := HIN.out (m + 1) (by omega) _ hmem
          have hst := HST.out (lisM pl m ++ L.take k) L[k]
          rw [List.append_assoc, ← List.take_succ_eq_append_getElem hkL] at hst
          have hmb : ∀ b, (lisM pl m ++ L.take k).foldl (stepK f f.canB) none = some b → (∀ y ∈ b, 0 ≤ y ∧ y < (f.pieces.length : Int)) ∧ b.length ≤ 6 := fun b hb => by
            refine HIN.out (m + 1) (by omega) b ?_
            rw [HLN.out]
            rcases List.mem_append.1 (HMEM.out _ b hb) with h | h
            · exact List.mem_append_left _ h
            · exact List.mem_append_right _ (List.mem_of_mem_take h)
          obtain ⟨X, hX⟩ : ∃ X, L[k] = X := ⟨_, rfl⟩
          rw [hX] at y5 hig hin hl6 hst
          obtain ⟨O, hO⟩ : ∃ O, (lisM pl m ++ L.take k).foldl (stepK f f.canB) none = O := ⟨_, rfl⟩
          rw [hO] at hst hV3 hmb
          have HIG := Lib.hid (fun W (h : Below W3.heap.size W3 W) => hig.below (hB3.trans (h.mono hB3.size)))
          have HNX := Lib.hid hst
          have HB3 := Lib.hid hB3
          have HCX := Lib.hid (fun W (h : Below W3.heap.size W3 W ∧ ∀ b o, b < W3.heap.size → W.cell? ⟨b, o, none⟩ = W3.cell? ⟨b, o, none⟩) => bothS1 (W0 := W3) (HCB.out ga X.length c X W (hbw3.trans (h.1.mono hbw3.size)) (HIG.out W h.1)) h)
          have HPX := Lib.hid (fun W (h : Below W3.heap.size W3 W ∧ ∀ b o, b < W3.heap.size → W.cell? ⟨b, o, none⟩ = W3.cell? ⟨b, o, none⟩) => bothS1 (W0 := W3) (HPN.out ga X.length c X hin (by omega) W (hbw3.trans (h.1.mono hbw3.size)) (HIG.out W h.1)) h)
          have HVV := Lib.hid hV3
          have hkb : k ≤ 46656 := by have := HLB.out; omega
          clear hcg hig hB3 hin hmem hst hX hO hvl
          rcases hV3 with ⟨rfl, rfl, rfl⟩ | ⟨b, ba, bc, rfl, rfl, rfl, hbi⟩
          · have HSN := Lib.hid (show stepK f f.canB none X = if f.canB X = true then some X else none from by unfold stepK PFrame.cheap; simp)
            rcases hcb : f.canB X with - | -
            · have HNV := Lib.hid (show stepK f f.canB none X = none from by rw [HSN.out, hcb]; rfl)
              rw [hcb] at HCX
              clear hcb HSN hmb
              go_upto_region 13 with fail
              go_cut [54] (fun v54 wx => v54 = .bool false ∧ Below W3.heap.size W3 wx)
              case first =>
                refine wp_region_noPanic ?_
                refine wp_region_held_drew (S := (fun w' => Below W3.heap.size W3 w' ∧ ∀ b o, b < W3.heap.size → w'.cell? ⟨b, o, none⟩ = W3.cell? ⟨b, o, none⟩)) (by kernel_rfl) ?_ (fun hHeld => ?_)
                · (first | with_reducible assumption | ((repeat (first | with_reducible refine bothS_drew ?_ | with_reducible refine bothS_alloc _ ?_ | with_reducible refine bothS_set _ _ (by first | omega | (simp; omega) | simp) ?_)); first | with_reducible assumption | with_reducible exact Hid.out (by assumption) | with_reducible exact ⟨Below.refl _ _, fun _ _ _ => rfl⟩))
                refine wpAnyH_take (i := 0) (oi := ?_) (v := ?_) ?_ ?_ ?_ ?_ ?_ ?_ ?_ ?_; rotate_left 2; (· simp only [List.getElem?_toArray, List.getElem?_cons_succ, List.getElem?_cons_zero]; with_reducible rfl); (· kernel_rfl); (· kernel_rfl); (· kernel_rfl); (· exact fun _ _ _ h => h); (· refine Or.inl ⟨by rfl, ?_⟩; intro w hSw; (try dsimp only at hSw); go_simp; try with_reducible rfl); (· assumption); (try simp only [Act.put, List.setIfInBounds_toArray, List.set_cons_zero, List.set_cons_succ])
                refine wpAnyH_take (i := 1) (oi := ?_) (v := ?_) ?_ ?_ ?_ ?_ ?_ ?_ ?_ ?_; rotate_left 2; (· simp only [List.getElem?_toArray, List.getElem?_cons_succ, List.getElem?_cons_zero]; with_reducible rfl); (· kernel_rfl); (· kernel_rfl); (· kernel_rfl); (· exact fun _ _ _ h => h); (· refine Or.inl ⟨by rfl, ?_⟩; intro w hSw; (try dsimp only at hSw); go_simp; try with_reducible rfl); (· assumption); (try simp only [Act.put, List.setIfInBounds_toArray, List.set_cons_zero, List.set_cons_succ])
                refine wpAnyH_take (i := 2) (oi := ?_) (v := ?_) ?_ ?_ ?_ ?_ ?_ ?_ ?_ ?_; rotate_left 2; (· simp only [List.getElem?_toArray, List.getElem?_cons_succ, List.getElem?_cons_zero]; with_reducible rfl); (· kernel_rfl); (· kernel_rfl); (· kernel_rfl); (· exact fun _ _ _ h => h); (· refine Or.inl ⟨by rfl, ?_⟩; intro w hSw; (try dsimp only at hSw); go_simp; try with_reducible rfl); (· assumption); (try simp only [Act.put, List.setIfInBounds_toArray, List.set_cons_zero, List.set_cons_succ])
                refine wpAnyH_take (i := 3) (oi := ?_) (v := undef) ?_ ?_ ?_ ?_ ?_ ?_ ?_ ?_; rotate_left 1; (· simp only [List.getElem?_toArray, List.getElem?_cons_succ, List.getElem?_cons_zero]; with_reducible rfl); (· kernel_rfl); (· kernel_rfl); (· kernel_rfl); (· exact fun _ _ _ h => h); (· exact Or.inr ⟨by rfl, rfl⟩); (· assumption); (try simp only [Act.put, List.setIfInBounds_toArray, List.set_cons_zero, List.set_cons_succ])
                refine wpAnyH_take (i := 4) (oi := ?_) (v := undef) ?_ ?_ ?_ ?_ ?_ ?_ ?_ ?_; rotate_left 1; (· simp only [List.getElem?_toArray, List.getElem?_cons_succ, List.getElem?_cons_zero]; with_reducible rfl); (· kernel_rfl); (· kernel_rfl); (· kernel_rfl); (· exact fun _ _ _ h => h); (· exact Or.inr ⟨by rfl, rfl⟩); (· assumption); (try simp only [Act.put, List.setIfInBounds_toArray, List.set_cons_zero, List.set_cons_succ])
                refine wpAnyH_take (i := 5) (oi := ?_) (v := undef) ?_ ?_ ?_ ?_ ?_ ?_ ?_ ?_; rotate_left 1; (· simp only [List.getElem?_toArray, List.getElem?_cons_succ, List.getElem?_cons_zero]; with_reducible rfl); (· kernel_rfl); (· kernel_rfl); (· kernel_rfl); (· exact fun _ _ _ h => h); (· exact Or.inr ⟨by rfl, rfl⟩); (· assumption); (try simp only [Act.put, List.setIfInBounds_toArray, List.set_cons_zero, List.set_cons_succ])
                refine wpAnyH_take (i := 6) (oi := ?_) (v := undef) ?_ ?_ ?_ ?_ ?_ ?_ ?_ ?_; rotate_left 1; (· simp only [List.getElem?_toArray, List.getElem?_cons_succ, List.getElem?_cons_zero]; with_reducible rfl); (· kernel_rfl); (· kernel_rfl); (· kernel_rfl); (· exact fun _ _ _ h => h); (· exact Or.inr ⟨by rfl, rfl⟩); (· assumption); (try simp only [Act.put, List.setIfInBounds_toArray, List.set_cons_zero, List.set_cons_succ])
                refine wpAnyH_take (i := 7) (oi := ?_) (v := undef) ?_ ?_ ?_ ?_ ?_ ?_ ?_ ?_; rotate_left 1; (· simp only [List.getElem?_toArray, List.getElem?_cons_succ, List.getElem?_cons_zero]; with_reducible rfl); (· kernel_rfl); (· kernel_rfl); (· kernel_rfl); (· exact fun _ _ _ h => h); (· exact Or.inr ⟨by rfl, rfl⟩); (· assumption); (try simp only [Act.put, List.setIfInBounds_toArray, List.set_cons_zero, List.set_cons_succ])
                refine wpAnyH_take (i := 8) (oi := ?_) (v := undef) ?_ ?_ ?_ ?_ ?_ ?_ ?_ ?_; rotate_left 1; (· simp only [List.getElem?_toArray, List.getElem?_cons_succ, List.getElem?_cons_zero]; with_reducible rfl); (· kernel_rfl); (· kernel_rfl); (· kernel_rfl); (· exact fun _ _ _ h => h); (· exact Or.inr ⟨by rfl, rfl⟩); (· assumption); (try simp only [Act.put, List.setIfInBounds_toArray, List.set_cons_zero, List.set_cons_succ])
                refine wpAnyH_take (i := 9) (oi := ?_) (v := undef) ?_ ?_ ?_ ?_ ?_ ?_ ?_ ?_; rotate_left 1; (· simp only [List.getElem?_toArray, List.getElem?_cons_succ, List.getElem?_cons_zero]; with_reducible rfl); (· kernel_rfl); (· kernel_rfl); (· kernel_rfl); (· exact fun _ _ _ h => h); (· exact Or.inr ⟨by rfl, rfl⟩); (· assumption); (try simp only [Act.put, List.setIfInBounds_toArray, List.set_cons_zero, List.set_cons_succ])
                refine wpAnyH_take (i := 10) (oi := ?_) (v := undef) ?_ ?_ ?_ ?_ ?_ ?_ ?_ ?_; rotate_left 1; (· simp only [List.getElem?_toArray, List.getElem?_cons_succ, List.getElem?_cons_zero]; with_reducible rfl); (· kernel_rfl); (· kernel_rfl); (· kernel_rfl); (· exact fun _ _ _ h => h); (· exact Or.inr ⟨by rfl, rfl⟩); (· assumption); (try simp only [Act.put, List.setIfInBounds_toArray, List.set_cons_zero, List.set_cons_succ])
                refine wpAnyH_take (i := 11) (oi := ?_) (v := undef) ?_ ?_ ?_ ?_ ?_ ?_ ?_ ?_; rotate_left 1; (· simp only [List.getElem?_toArray, List.getElem?_cons_succ, List.getElem?_cons_zero]; with_reducible rfl); (· kernel_rfl); (· kernel_rfl); (· kernel_rfl); (· exact fun _ _ _ h => h); (· exact Or.inr ⟨by rfl, rfl⟩); (· assumption); (try simp only [Act.put, List.setIfInBounds_toArray, List.set_cons_zero, List.set_cons_succ])
                refine wpAnyH_take (i := 12) (oi := ?_) (v := undef) ?_ ?_ ?_ ?_ ?_ ?_ ?_ ?_; rotate_left 1; (· simp only [List.getElem?_toArray, List.getElem?_cons_succ, List.getElem?_cons_zero]; with_reducible rfl); (· kernel_rfl); (· kernel_rfl); (· kernel_rfl); (· exact fun _ _ _ h => h); (· exact Or.inr ⟨by rfl, rfl⟩); (· assumption); (try simp only [Act.put, List.setIfInBounds_toArray, List.set_cons_zero, List.set_cons_succ])
                refine wpAnyH_take (i := 13) (oi := ?_) (v := ?_) ?_ ?_ ?_ ?_ ?_ ?_ ?_ ?_; rotate_left 2; (· simp only [List.getElem?_toArray, List.getElem?_cons_succ, List.getElem?_cons_zero]; with_reducible rfl); (· kernel_rfl); (· kernel_rfl); (· kernel_rfl); (· exact fun _ _ _ h => h); (· refine Or.inl ⟨by rfl, ?_⟩; intro w hSw; (try dsimp only at hSw); go_simp; try with_reducible rfl); (· assumption); (try simp only [Act.put, List.setIfInBounds_toArray, List.set_cons_zero, List.set_cons_succ])
                refine wpAnyH_take (i := 14) (oi := ?_) (v := ?_) ?_ ?_ ?_ ?_ ?_ ?_ ?_ ?_; rotate_left 2; (· simp only [List.getElem?_toArray, List.getElem?_cons_succ, List.getElem?_cons_zero]; with_reducible rfl); (· kernel_rfl); (· kernel_rfl); (· kernel_rfl); (· exact fun _ _ _ h => h); (· refine Or.inl ⟨by rfl, ?_⟩; intro w hSw; (try dsimp only at hSw); go_simp; try with_reducible rfl); (· assumption); (try simp only [Act.put, List.setIfInBounds_toArray, List.set_cons_zero, List.set_cons_succ])
                refine wpAnyH_take (i := 15) (oi := ?_) (v := ?_) ?_ ?_ ?_ ?_ ?_ ?_ ?_ ?_; rotate_left 2; (· simp only [List.getElem?_toArray, List.getElem?_cons_succ, List.getElem?_cons_zero]; with_reducible rfl); (· kernel_rfl); (· kernel_rfl); (· kernel_rfl); (· exact fun _ _ _ h => h); (· refine Or.inl ⟨by rfl, ?_⟩; intro w hSw; (try dsimp only at hSw); go_simp; try with_reducible rfl); (· assumption); (try simp only [Act.put, List.setIfInBounds_toArray, List.set_cons_zero, List.set_cons_succ])
                refine wpAnyH_take (i := 16) (oi := ?_) (v := ?_) ?_ ?_ ?_ ?_ ?_ ?_ ?_ ?_; rotate_left 2; (· simp only [List.getElem?_toArray, List.getElem?_cons_succ, List.getElem?_cons_zero]; with_reducible rfl); (· kernel_rfl); (· kernel_rfl); (· kernel_rfl); (· exact fun _ _ _ h => h); (· refine Or.inl ⟨by rfl, ?_⟩; intro w hSw; (try dsimp only at hSw); go_simp; try with_reducible rfl); (· assumption); (try simp only [Act.put, List.setIfInBounds_toArray, List.set_cons_zero, List.set_cons_succ])
                refine wpAnyH_take (i := 17) (oi := ?_) (v := ?_) ?_ ?_ ?_ ?_ ?_ ?_ ?_ ?_; rotate_left 2; (· simp only [List.getElem?_toArray, List.getElem?_cons_succ, List.getElem?_cons_zero]; with_reducible rfl); (· kernel_rfl); (· kernel_rfl); (· kernel_rfl); (· exact fun _ _ _ h => h); (· refine Or.inl ⟨by rfl, ?_⟩; intro w hSw; (try dsimp only at hSw); go_simp; try with_reducible rfl); (· assumption); (try simp only [Act.put, List.setIfInBounds_toArray, List.set_cons_zero, List.set_cons_succ])
                refine wpAnyH_take (i := 18) (oi := ?_) (v := ?_) ?_ ?_ ?_ ?_ ?_ ?_ ?_ ?_; rotate_left 2; (· simp only [List.getElem?_toArray, List.getElem?_cons_succ, List.getElem?_cons_zero]; with_reducible rfl); (· kernel_rfl); (· kernel_rfl); (· kernel_rfl); (· exact fun _ _ _ h => h); (· refine Or.inl ⟨by rfl, ?_⟩; intro w hSw; (try dsimp only at hSw); go_simp; try with_reducible rfl); (· assumption); (try simp only [Act.put, List.setIfInBounds_toArray, List.set_cons_zero, List.set_cons_succ])
                refine wpAnyH_take (i := 19) (oi := ?_) (v := ?_) ?_ ?_ ?_ ?_ ?_ ?_ ?_ ?_; rotate_left 2; (· simp only [List.getElem?_toArray, List.getElem?_cons_succ, List.getElem?_cons_zero]; with_reducible rfl); (· kernel_rfl); (· kernel_rfl); (· kernel_rfl); (· exact fun _ _ _ h => h); (· refine Or.inl ⟨by rfl, ?_⟩; intro w hSw; (try dsimp only at hSw); go_simp; try with_reducible rfl); (· assumption); (try simp only [Act.put, List.setIfInBounds_toArray, List.set_cons_zero, List.set_cons_succ])
                refine wpAnyH_ready (rs := [20]) (by kernel_rfl) (by simp) ?_; refine AllReadyH.cons (o := ?_) ?_ (fun K hK => ?_) AllReadyH.nil; rotate_left 1; (· simp only [List.getElem?_toArray, List.getElem?_cons_succ, List.getElem?_cons_zero]; with_reducible rfl); go_simp; (go_at_call 69; with_reducible refine (HCX.out _ ?_).mono ?_; (first | with_reducible assumption | ((repeat (first | with_reducible refine bothS_drew ?_ | with_reducible refine bothS_alloc _ ?_ | with_reducible refine bothS_set _ _ (by first | omega | (simp; omega) | simp) ?_)); first | with_reducible assumption | with_reducible exact Hid.out (by assumption) | with_reducible exact ⟨Below.refl _ _, fun _ _ _ => rfl⟩)); rintro e w' ⟨rfl, k, k1, k2, k3⟩; have HK := Lib.hid k; (try simp at k3); (try have k6 := Nat.lt_of_succ_le k3); (try have k7 := Nat.lt_of_succ_lt k6); (try have k8 := Nat.lt_of_succ_lt k3)); refine hK.out _ _ ?_ (fun hHeld => ?_); (· (first | with_reducible assumption | ((repeat (first | with_reducible refine bothS_drew ?_ | with_reducible refine bothS_alloc _ ?_ | with_reducible refine bothS_set _ _ (by first | omega | (simp; omega) | simp) ?_)); first | with_reducible assumption | with_reducible exact Hid.out (by assumption) | with_reducible exact ⟨Below.refl _ _, fun _ _ _ => rfl⟩))); clear hK K; (try simp only [Act.put, List.setIfInBounds_toArray, List.set_cons_zero, List.set_cons_succ])
                refine wpAnyH_take (i := 21) (oi := ?_) (v := ?_) ?_ ?_ ?_ ?_ ?_ ?_ ?_ ?_; rotate_left 2; (· simp only [List.getElem?_toArray, List.getElem?_cons_succ, List.getElem?_cons_zero]; with_reducible rfl); (· kernel_rfl); (· kernel_rfl); (· kernel_rfl); (· exact fun _ _ _ h => h); (· refine Or.inl ⟨by rfl, ?_⟩; intro w hSw; (try dsimp only at hSw); go_simp; try with_reducible rfl); (· assumption); (try simp only [Act.put, List.setIfInBounds_toArray, List.set_cons_zero, List.set_cons_succ])
                refine wpAnyH_done (by kernel_rfl) ?_ _
                refine NoPanic.normal ?_
                go_wp2_with fail; go_meet; exact ⟨rfl, And.left (by assumption)⟩
              case rest =>
              obtain ⟨rfl, hB4⟩ := hcut
              obtain ⟨W4, rfl⟩ : ∃ W4 : World, W4 = wc := ⟨_, rfl⟩
              have HB4 := Lib.hid hB4
              have z5 := (hB4.cell (p := ⟨g, k, none⟩) hg4).trans y5
              clear hB4 y0 y1 y2 y3 y4 y5
              go_wp2_with fail
              go_roundw
              case rel => exact ⟨k + 1, by omega, by go_num, by rw [HNX.out, HNV.out]; exact HVV.out.below HB4.out, HB3.out.trans (HB4.out.mono HB3.out.size)⟩
              case measure => simp [intOf]; omega
            · have HNV := Lib.hid (show stepK f f.canB none X = some X from by rw [HSN.out, hcb]; rfl)
              rw [hcb] at HCX
              clear hcb HSN hmb
              go_upto_region 13 with fail
              go_cut [54] (fun v54 wx => v54 = .bool true ∧ Below W3.heap.size W3 wx)
              case first =>
                refine wp_region_noPanic ?_
                refine wp_region_held_drew (S := (fun w' => Below W3.heap.size W3 w' ∧ ∀ b o, b < W3.heap.size → w'.cell? ⟨b, o, none⟩ = W3.cell? ⟨b, o, none⟩)) (by kernel_rfl) ?_ (fun hHeld => ?_)
                · (first | with_reducible assumption | ((repeat (first | with_reducible refine bothS_drew ?_ | with_reducible refine bothS_alloc _ ?_ | with_reducible refine bothS_set _ _ (by first | omega | (simp; omega) | simp) ?_)); first | with_reducible assumption | with_reducible exact Hid.out (by assumption) | with_reducible exact ⟨Below.refl _ _, fun _ _ _ => rfl⟩))
                refine wpAnyH_take (i := 0) (oi := ?_) (v := ?_) ?_ ?_ ?_ ?_ ?_ ?_ ?_ ?_; rotate_left 2; (· simp only [List.getElem?_toArray, List.getElem?_cons_succ, List.getElem?_cons_zero]; with_reducible rfl); (· kernel_rfl); (· kernel_rfl); (· kernel_rfl); (· exact fun _ _ _ h => h); (· refine Or.inl ⟨by rfl, ?_⟩; intro w hSw; (try dsimp only at hSw); go_simp; try with_reducible rfl); (· assumption); (try simp only [Act.put, List.setIfInBounds_toArray, List.set_cons_zero, List.set_cons_succ])
                refine wpAnyH_take (i := 1) (oi := ?_) (v := ?_) ?_ ?_ ?_ ?_ ?_ ?_ ?_ ?_; rotate_left 2; (· simp only [List.getElem?_toArray, List.getElem?_cons_succ, List.getElem?_cons_zero]; with_reducible rfl); (· kernel_rfl); (· kernel_rfl); (· kernel_rfl); (· exact fun _ _ _ h => h); (· refine Or.inl ⟨by rfl, ?_⟩; intro w hSw; (try dsimp only at hSw); go_simp; try with_reducible rfl); (· assumption); (try simp only [Act.put, List.setIfInBounds_toArray, List.set_cons_zero, List.set_cons_succ])
                refine wpAnyH_take (i := 2) (oi := ?_) (v := ?_) ?_ ?_ ?_ ?_ ?_ ?_ ?_ ?_; rotate_left 2; (· simp only [List.getElem?_toArray, List.getElem?_cons_succ, List.getElem?_cons_zero]; with_reducible rfl); (· kernel_rfl); (· kernel_rfl); (· kernel_rfl); (· exact fun _ _ _ h => h); (· refine Or.inl ⟨by rfl, ?_⟩; intro w hSw; (try dsimp only at hSw); go_simp; try with_reducible rfl); (· assumption); (try simp only [Act.put, List.setIfInBounds_toArray, List.set_cons_zero, List.set_cons_succ])
                refine wpAnyH_take (i := 3) (oi := ?_) (v := undef) ?_ ?_ ?_ ?_ ?_ ?_ ?_ ?_; rotate_left 1; (· simp only [List.getElem?_toArray, List.getElem?_cons_succ, List.getElem?_cons_zero]; with_reducible rfl); (· kernel_rfl); (· kernel_rfl); (· kernel_rfl); (· exact fun _ _ _ h => h); (· exact Or.inr ⟨by rfl, rfl⟩); (· assumption); (try simp only [Act.put, List.setIfInBounds_toArray, List.set_cons_zero, List.set_cons_succ])
                refine wpAnyH_take (i := 4) (oi := ?_) (v := undef) ?_ ?_ ?_ ?_ ?_ ?_ ?_ ?_; rotate_left 1; (· simp only [List.getElem?_toArray, List.getElem?_cons_succ, List.getElem?_cons_zero]; with_reducible rfl); (· kernel_rfl); (· kernel_rfl); (· kernel_rfl); (· exact fun _ _ _ h => h); (· exact Or.inr ⟨by rfl, rfl⟩); (· assumption); (try simp only [Act.put, List.setIfInBounds_toArray, List.set_cons_zero, List.set_cons_succ])
                refine wpAnyH_take (i := 5) (oi := ?_) (v := undef) ?_ ?_ ?_ ?_ ?_ ?_ ?_ ?_; rotate_left 1; (· simp only [List.getElem?_toArray, List.getElem?_cons_succ, List.getElem?_cons_zero]; with_reducible rfl); (· kernel_rfl); (· kernel_rfl); (· kernel_rfl); (· exact fun _ _ _ h => h); (· exact Or.inr ⟨by rfl, rfl⟩); (· assumption); (try simp only [Act.put, List.setIfInBounds_toArray, List.set_cons_zero, List.set_cons_succ])
                refine wpAnyH_take (i := 6) (oi := ?_) (v := undef) ?_ ?_ ?_ ?_ ?_ ?_ ?_ ?_; rotate_left 1; (· simp only [List.getElem?_toArray, List.getElem?_cons_succ, List.getElem?_cons_zero]; with_reducible rfl); (· kernel_rfl); (· kernel_rfl); (· kernel_rfl); (· exact fun _ _ _ h => h); (· exact Or.inr ⟨by rfl, rfl⟩); (· assumption); (try simp only [Act.put, List.setIfInBounds_toArray, List.set_cons_zero, List.set_cons_succ])
                refine wpAnyH_take (i := 7) (oi := ?_) (v := undef) ?_ ?_ ?_ ?_ ?_ ?_ ?_ ?_; rotate_left 1; (· simp only [List.getElem?_toArray, List.getElem?_cons_succ, List.getElem?_cons_zero]; with_reducible rfl); (· kernel_rfl); (· kernel_rfl); (· kernel_rfl); (· exact fun _ _ _ h => h); (· exact Or.inr ⟨by rfl, rfl⟩); (· assumption); (try simp only [Act.put, List.setIfInBounds_toArray, List.set_cons_zero, List.set_cons_succ])
                refine wpAnyH_take (i := 8) (oi := ?_) (v := undef) ?_ ?_ ?_ ?_ ?_ ?_ ?_ ?_; rotate_left 1; (· simp only [List.getElem?_toArray, List.getElem?_cons_succ, List.getElem?_cons_zero]; with_reducible rfl); (· kernel_rfl); (· kernel_rfl); (· kernel_rfl); (· exact fun _ _ _ h => h); (· exact Or.inr ⟨by rfl, rfl⟩); (· assumption); (try simp only [Act.put, List.setIfInBounds_toArray, List.set_cons_zero, List.set_cons_succ])
                refine wpAnyH_take (i := 9) (oi := ?_) (v := undef) ?_ ?_ ?_ ?_ ?_ ?_ ?_ ?_; rotate_left 1; (· simp only [List.getElem?_toArray, List.getElem?_cons_succ, List.getElem?_cons_zero]; with_reducible rfl); (· kernel_rfl); (· kernel_rfl); (· kernel_rfl); (· exact fun _ _ _ h => h); (· exact Or.inr ⟨by rfl, rfl⟩); (· assumption); (try simp only [Act.put, List.setIfInBounds_toArray, List.set_cons_zero, List.set_cons_succ])
                refine wpAnyH_take (i := 10) (oi := ?_) (v := undef) ?_ ?_ ?_ ?_ ?_ ?_ ?_ ?_; rotate_left 1; (· simp only [List.getElem?_toArray, List.getElem?_cons_succ, List.getElem?_cons_zero]; with_reducible rfl); (· kernel_rfl); (· kernel_rfl); (· kernel_rfl); (· exact fun _ _ _ h => h); (· exact Or.inr ⟨by rfl, rfl⟩); (· assumption); (try simp only [Act.put, List.setIfInBounds_toArray, List.set_cons_zero, List.set_cons_succ])
                refine wpAnyH_take (i := 11) (oi := ?_) (v := undef) ?_ ?_ ?_ ?_ ?_ ?_ ?_ ?_; rotate_left 1; (· simp only [List.getElem?_toArray, List.getElem?_cons_succ, List.getElem?_cons_zero]; with_reducible rfl); (· kernel_rfl); (· kernel_rfl); (· kernel_rfl); (· exact fun _ _ _ h => h); (· exact Or.inr ⟨by rfl, rfl⟩); (· assumption); (try simp only [Act.put, List.setIfInBounds_toArray, List.set_cons_zero, List.set_cons_succ])
                refine wpAnyH_take (i := 12) (oi := ?_) (v := undef) ?_ ?_ ?_ ?_ ?_ ?_ ?_ ?_; rotate_left 1; (· simp only [List.getElem?_toArray, List.getElem?_cons_succ, List.getElem?_cons_zero]; with_reducible rfl); (· kernel_rfl); (· kernel_rfl); (· kernel_rfl); (· exact fun _ _ _ h => h); (· exact Or.inr ⟨by rfl, rfl⟩); (· assumption); (try simp only [Act.put, List.setIfInBounds_toArray, List.set_cons_zero, List.set_cons_succ])
                refine wpAnyH_take (i := 13) (oi := ?_) (v := ?_) ?_ ?_ ?_ ?_ ?_ ?_ ?_ ?_; rotate_left 2; (· simp only [List.getElem?_toArray, List.getElem?_cons_succ, List.getElem?_cons_zero]; with_reducible rfl); (· kernel_rfl); (· kernel_rfl); (· kernel_rfl); (· exact fun _ _ _ h => h); (· refine Or.inl ⟨by rfl, ?_⟩; intro w hSw; (try dsimp only at hSw); go_simp; try with_reducible rfl); (· assumption); (try simp only [Act.put, List.setIfInBounds_toArray, List.set_cons_zero, List.set_cons_succ])
                refine wpAnyH_take (i := 14) (oi := ?_) (v := ?_) ?_ ?_ ?_ ?_ ?_ ?_ ?_ ?_; rotate_left 2; (· simp only [List.getElem?_toArray, List.getElem?_cons_succ, List.getElem?_cons_zero]; with_reducible rfl); (· kernel_rfl); (· kernel_rfl); (· kernel_rfl); (· exact fun _ _ _ h => h); (· refine Or.inl ⟨by rfl, ?_⟩; intro w hSw; (try dsimp only at hSw); go_simp; try with_reducible rfl); (· assumption); (try simp only [Act.put, List.setIfInBounds_toArray, List.set_cons_zero, List.set_cons_succ])
                refine wpAnyH_take (i := 15) (oi := ?_) (v := ?_) ?_ ?_ ?_ ?_ ?_ ?_ ?_ ?_; rotate_left 2; (· simp only [List.getElem?_toArray, List.getElem?_cons_succ, List.getElem?_cons_zero]; with_reducible rfl); (· kernel_rfl); (· kernel_rfl); (· kernel_rfl); (· exact fun _ _ _ h => h); (· refine Or.inl ⟨by rfl, ?_⟩; intro w hSw; (try dsimp only at hSw); go_simp; try with_reducible rfl); (· assumption); (try simp only [Act.put, List.setIfInBounds_toArray, List.set_cons_zero, List.set_cons_succ])
                refine wpAnyH_take (i := 16) (oi := ?_) (v := ?_) ?_ ?_ ?_ ?_ ?_ ?_ ?_ ?_; rotate_left 2; (· simp only [List.getElem?_toArray, List.getElem?_cons_succ, List.getElem?_cons_zero]; with_reducible rfl); (· kernel_rfl); (· kernel_rfl); (· kernel_rfl); (· exact fun _ _ _ h => h); (· refine Or.inl ⟨by rfl, ?_⟩; intro w hSw; (try dsimp only at hSw); go_simp; try with_reducible rfl); (· assumption); (try simp only [Act.put, List.setIfInBounds_toArray, List.set_cons_zero, List.set_cons_succ])
                refine wpAnyH_take (i := 17) (oi := ?_) (v := ?_) ?_ ?_ ?_ ?_ ?_ ?_ ?_ ?_; rotate_left 2; (· simp only [List.getElem?_toArray, List.getElem?_cons_succ, List.getElem?_cons_zero]; with_reducible rfl); (· kernel_rfl); (· kernel_rfl); (· kernel_rfl); (· exact fun _ _ _ h => h); (· refine Or.inl ⟨by rfl, ?_⟩; intro w hSw; (try dsimp only at hSw); go_simp; try with_reducible rfl); (· assumption); (try simp only [Act.put, List.setIfInBounds_toArray, List.set_cons_zero, List.set_cons_succ])
                refine wpAnyH_take (i := 18) (oi := ?_) (v := ?_) ?_ ?_ ?_ ?_ ?_ ?_ ?_ ?_; rotate_left 2; (· simp only [List.getElem?_toArray, List.getElem?_cons_succ, List.getElem?_cons_zero]; with_reducible rfl); (· kernel_rfl); (· kernel_rfl); (· kernel_rfl); (· exact fun _ _ _ h => h); (· refine Or.inl ⟨by rfl, ?_⟩; intro w hSw; (try dsimp only at hSw); go_simp; try with_reducible rfl); (· assumption); (try simp only [Act.put, List.setIfInBounds_toArray, List.set_cons_zero, List.set_cons_succ])
                refine wpAnyH_take (i := 19) (oi := ?_) (v := ?_) ?_ ?_ ?_ ?_ ?_ ?_ ?_ ?_; rotate_left 2; (· simp only [List.getElem?_toArray, List.getElem?_cons_succ, List.getElem?_cons_zero]; with_reducible rfl); (· kernel_rfl); (· kernel_rfl); (· kernel_rfl); (· exact fun _ _ _ h => h); (· refine Or.inl ⟨by rfl, ?_⟩; intro w hSw; (try dsimp only at hSw); go_simp; try with_reducible rfl); (· assumption); (try simp only [Act.put, List.setIfInBounds_toArray, List.set_cons_zero, List.set_cons_succ])
                refine wpAnyH_ready (rs := [20]) (by kernel_rfl) (by simp) ?_; refine AllReadyH.cons (o := ?_) ?_ (fun K hK => ?_) AllReadyH.nil; rotate_left 1; (· simp only [List.getElem?_toArray, List.getElem?_cons_succ, List.getElem?_cons_zero]; with_reducible rfl); go_simp; (go_at_call 69; with_reducible refine (HCX.out _ ?_).mono ?_; (first | with_reducible assumption | ((repeat (first | with_reducible refine bothS_drew ?_ | with_reducible refine bothS_alloc _ ?_ | with_reducible refine bothS_set _ _ (by first | omega | (simp; omega) | simp) ?_)); first | with_reducible assumption | with_reducible exact Hid.out (by assumption) | with_reducible exact ⟨Below.refl _ _, fun _ _ _ => rfl⟩)); rintro e w' ⟨rfl, k, k1, k2, k3⟩; have HK := Lib.hid k; (try simp at k3); (try have k6 := Nat.lt_of_succ_le k3); (try have k7 := Nat.lt_of_succ_lt k6); (try have k8 := Nat.lt_of_succ_lt k3)); refine hK.out _ _ ?_ (fun hHeld => ?_); (· (first | with_reducible assumption | ((repeat (first | with_reducible refine bothS_drew ?_ | with_reducible refine bothS_alloc _ ?_ | with_reducible refine bothS_set _ _ (by first | omega | (simp; omega) | simp) ?_)); first | with_reducible assumption | with_reducible exact Hid.out (by assumption) | with_reducible exact ⟨Below.refl _ _, fun _ _ _ => rfl⟩))); clear hK K; (try simp only [Act.put, List.setIfInBounds_toArray, List.set_cons_zero, List.set_cons_succ])
                refine wpAnyH_take (i := 21) (oi := ?_) (v := ?_) ?_ ?_ ?_ ?_ ?_ ?_ ?_ ?_; rotate_left 2; (· simp only [List.getElem?_toArray, List.getElem?_cons_succ, List.getElem?_cons_zero]; with_reducible rfl); (· kernel_rfl); (· kernel_rfl); (· kernel_rfl); (· exact fun _ _ _ h => h); (· refine Or.inl ⟨by rfl, ?_⟩; intro w hSw; (try dsimp only at hSw); go_simp; try with_reducible rfl); (· assumption); (try simp only [Act.put, List.setIfInBounds_toArray, List.set_cons_zero, List.set_cons_succ])
                refine wpAnyH_done (by kernel_rfl) ?_ _
                refine NoPanic.normal ?_
                go_wp2_with fail; go_meet; exact ⟨rfl, And.left (by assumption)⟩
              case rest =>
              obtain ⟨rfl, hB4⟩ := hcut
              obtain ⟨W4, rfl⟩ : ∃ W4 : World, W4 = wc := ⟨_, rfl⟩
              have HB4 := Lib.hid hB4
              have z5 := (hB4.cell (p := ⟨g, k, none⟩) hg4).trans y5
              clear hB4 y0 y1 y2 y3 y4 y5
              have HIX := Lib.hid (HIG.out W4 HB4.out)
              go_wp2_with fail
              go_roundw
              case rel => exact ⟨k + 1, by omega, by go_num, by rw [HNX.out, HNV.out]; exact .inr ⟨X, ga, c, rfl, rfl, rfl, HIX.out.below (by repeat (first | exact Below.refl _ _ | (refine Below.alloc ?_ (by first | omega | (simp; omega) | simp) _) | (refine Below.setCell ?_ (by first | omega | (simp; omega) | simp) _) | refine Below.drew ?_))⟩, (HB3.out.trans (HB4.out.mono HB3.out.size)).trans (Below.mono (by repeat (first | exact Below.refl _ _ | (refine Below.alloc ?_ (by first | omega | (simp; omega) | simp) _) | (refine Below.setCell ?_ (by first | omega | (simp; omega) | simp) _) | refine Below.drew ?_)) (Nat.le_trans HB3.out.size HB4.out.size))⟩
              case measure => simp [intOf]; omega
          · have HBI := Lib.hid hbi
            obtain ⟨hbin, hb6⟩ := hmb b rfl
            have HPB := Lib.hid (fun W (h : Below W3.heap.size W3 W ∧ ∀ b o, b < W3.heap.size → W.cell? ⟨b, o, none⟩ = W3.cell? ⟨b, o, none⟩) => bothS1 (W0 := W3) (HPN.out ba b.length bc b hbin (by omega) W (hbw3.trans (h.1.mono hbw3.size)) (hbi.below h.1)) h)
            have HSN := Lib.hid (show stepK f f.canB (some b) X = if decide (f.penL X < f.penL b) && f.canB X then some X else some b from rfl)
            obtain ⟨px, hpx⟩ : ∃ px, f.penL X = px := ⟨_, rfl⟩
            obtain ⟨pb, hpb⟩ : ∃ pb, f.penL b = pb := ⟨_, rfl⟩
            rw [hpx] at HPX HSN
            rw [hpb] at HPB HSN
            clear hbi hmb hbin hb6 hpx hpb
            by_cases hlp : px < pb
            · rcases hcb : f.canB X with - | -
              · have HNV := Lib.hid (show stepK f f.canB (some b) X = some b from by rw [HSN.out, hcb, decide_eq_true hlp]; rfl)
                rw [hcb] at HCX
                clear hcb HSN
                go_upto_region 13 with fail
                go_cut [54] (fun v54 wx => v54 = .bool false ∧ Below W3.heap.size W3 wx)
                case first =>
                  refine wp_region_noPanic ?_
                  refine wp_region_held_drew (S := (fun w' => Below W3.heap.size W3 w' ∧ ∀ b o, b < W3.heap.size → w'.cell? ⟨b, o, none⟩ = W3.cell? ⟨b, o, none⟩)) (by kernel_rfl) ?_ (fun hHeld => ?_)
                  · (first | with_reducible assumption | ((repeat (first | with_reducible refine bothS_drew ?_ | with_reducible refine bothS_alloc _ ?_ | with_reducible refine bothS_set _ _ (by first | omega | (simp; omega) | simp) ?_)); first | with_reducible assumption | with_reducible exact Hid.out (by assumption) | with_reducible exact ⟨Below.refl _ _, fun _ _ _ => rfl⟩))
                  refine wpAnyH_take (i := 0) (oi := ?_) (v := ?_) ?_ ?_ ?_ ?_ ?_ ?_ ?_ ?_; rotate_left 2; (· simp only [List.getElem?_toArray, List.getElem?_cons_succ, List.getElem?_cons_zero]; with_reducible rfl); (· kernel_rfl); (· kernel_rfl); (· kernel_rfl); (· exact fun _ _ _ h => h); (· refine Or.inl ⟨by rfl, ?_⟩; intro w hSw; (try dsimp only at hSw); go_simp; try with_reducible rfl); (· assumption); (try simp only [Act.put, List.setIfInBounds_toArray, List.set_cons_zero, List.set_cons_succ])
                  refine wpAnyH_take (i := 1) (oi := ?_) (v := ?_) ?_ ?_ ?_ ?_ ?_ ?_ ?_ ?_; rotate_left 2; (· simp only [List.getElem?_toArray, List.getElem?_cons_succ, List.getElem?_cons_zero]; with_reducible rfl); (· kernel_rfl); (· kernel_rfl); (· kernel_rfl); (· exact fun _ _ _ h => h); (· refine Or.inl ⟨by rfl, ?_⟩; intro w hSw; (try dsimp only at hSw); go_simp; try with_reducible rfl); (· assumption); (try simp only [Act.put, List.setIfInBounds_toArray, List.set_cons_zero, List.set_cons_succ])
                  refine wpAnyH_take (i := 2) (oi := ?_) (v := ?_) ?_ ?_ ?_ ?_ ?_ ?_ ?_ ?_; rotate_left 2; (· simp only [List.getElem?_toArray, List.getElem?_cons_succ, List.getElem?_cons_zero]; with_reducible rfl); (· kernel_rfl); (· kernel_rfl); (· kernel_rfl); (· exact fun _ _ _ h => h); (· refine Or.inl ⟨by rfl, ?_⟩; intro w hSw; (try dsimp only at hSw); go_simp; try with_reducible rfl); (· assumption); (try simp only [Act.put, List.setIfInBounds_toArray, List.set_cons_zero, List.set_cons_succ])
                  refine wpAnyH_take (i := 3) (oi := ?_) (v := ?_) ?_ ?_ ?_ ?_ ?_ ?_ ?_ ?_; rotate_left 2; (· simp only [List.getElem?_toArray, List.getElem?_cons_succ, List.getElem?_cons_zero]; with_reducible rfl); (· kernel_rfl); (· kernel_rfl); (· kernel_rfl); (· exact fun _ _ _ h => h); (· refine Or.inl ⟨by rfl, ?_⟩; intro w hSw; (try dsimp only at hSw); go_simp; try with_reducible rfl); (· assumption); (try simp only [Act.put, List.setIfInBounds_toArray, List.set_cons_zero, List.set_cons_succ])
                  refine wpAnyH_take (i := 4) (oi := ?_) (v := ?_) ?_ ?_ ?_ ?_ ?_ ?_ ?_ ?_; rotate_left 2; (· simp only [List.getElem?_toArray, List.getElem?_cons_succ, List.getElem?_cons_zero]; with_reducible rfl); (· kernel_rfl); (· kernel_rfl); (· kernel_rfl); (· exact fun _ _ _ h => h); (· refine Or.inl ⟨by rfl, ?_⟩; intro w hSw; (try dsimp only at hSw); go_simp; try with_reducible rfl); (· assumption); (try simp only [Act.put, List.setIfInBounds_toArray, List.set_cons_zero, List.set_cons_succ])
                  refine wpAnyH_take (i := 5) (oi := ?_) (v := ?_) ?_ ?_ ?_ ?_ ?_ ?_ ?_ ?_; rotate_left 2; (· simp only [List.getElem?_toArray, List.getElem?_cons_succ, List.getElem?_cons_zero]; with_reducible rfl); (· kernel_rfl); (· kernel_rfl); (· kernel_rfl); (· exact fun _ _ _ h => h); (· refine Or.inl ⟨by rfl, ?_⟩; intro w hSw; (try dsimp only at hSw); go_simp; try with_reducible rfl); (· assumption); (try simp only [Act.put, List.setIfInBounds_toArray, List.set_cons_zero, List.set_cons_succ])
                  refine wpAnyH_take (i := 6) (oi := ?_) (v := ?_) ?_ ?_ ?_ ?_ ?_ ?_ ?_ ?_; rotate_left 2; (· simp only [List.getElem?_toArray, List.getElem?_cons_succ, List.getElem?_cons_zero]; with_reducible rfl); (· kernel_rfl); (· kernel_rfl); (· kernel_rfl); (· exact fun _ _ _ h => h); (· refine Or.inl ⟨by rfl, ?_⟩; intro w hSw; (try dsimp only at hSw); go_simp; try with_reducible rfl); (· assumption); (try simp only [Act.put, List.setIfInBounds_toArray, List.set_cons_zero, List.set_cons_succ])
                  refine wpAnyH_take (i := 7) (oi := ?_) (v := ?_) ?_ ?_ ?_ ?_ ?_ ?_ ?_ ?_; rotate_left 2; (· simp only [List.getElem?_toArray, List.getElem?_cons_succ, List.getElem?_cons_zero]; with_reducible rfl); (· kernel_rfl); (· kernel_rfl); (· kernel_rfl); (· exact fun _ _ _ h => h); (· refine Or.inl ⟨by rfl, ?_⟩; intro w hSw; (try dsimp only at hSw); go_simp; try with_reducible rfl); (· assumption); (try simp only [Act.put, List.setIfInBounds_toArray, List.set_cons_zero, List.set_cons_succ])
                  refine wpAnyH_take (i := 9) (oi := ?_) (v := ?_) ?_ ?_ ?_ ?_ ?_ ?_ ?_ ?_; rotate_left 2; (· simp only [List.getElem?_toArray, List.getElem?_cons_succ, List.getElem?_cons_zero]; with_reducible rfl); (· kernel_rfl); (· kernel_rfl); (· kernel_rfl); (· exact fun _ _ _ h => h); (· refine Or.inl ⟨by rfl, ?_⟩; intro w hSw; (try dsimp only at hSw); go_simp; try with_reducible rfl); (· assumption); (try simp only [Act.put, List.setIfInBounds_toArray, List.set_cons_zero, List.set_cons_succ])
                  refine wpAnyH_take (i := 10) (oi := ?_) (v := ?_) ?_ ?_ ?_ ?_ ?_ ?_ ?_ ?_; rotate_left 2; (· simp only [List.getElem?_toArray, List.getElem?_cons_succ, List.getElem?_cons_zero]; with_reducible rfl); (· kernel_rfl); (· kernel_rfl); (· kernel_rfl); (· exact fun _ _ _ h => h); (· refine Or.inl ⟨by rfl, ?_⟩; intro w hSw; (try dsimp only at hSw); go_simp; try with_reducible rfl); (· assumption); (try simp only [Act.put, List.setIfInBounds_toArray, List.set_cons_zero, List.set_cons_succ])
                  refine wpAnyH_ready (rs := [8]) (by kernel_rfl) (by simp) ?_; refine AllReadyH.cons (o := ?_) ?_ (fun K hK => ?_) AllReadyH.nil; rotate_left 1; (· simp only [List.getElem?_toArray, List.getElem?_cons_succ, List.getElem?_cons_zero]; with_reducible rfl); go_simp; (go_at_call 68; with_reducible refine (HPX.out _ ?_).mono ?_; (first | with_reducible assumption | ((repeat (first | with_reducible refine bothS_drew ?_ | with_reducible refine bothS_alloc _ ?_ | with_reducible refine bothS_set _ _ (by first | omega | (simp; omega) | simp) ?_)); first | with_reducible assumption | with_reducible exact Hid.out (by assumption) | with_reducible exact ⟨Below.refl _ _, fun _ _ _ => rfl⟩)); rintro e w' ⟨rfl, k, k1, k2, k3⟩; have HK := Lib.hid k; (try simp at k3); (try have k6 := Nat.lt_of_succ_le k3); (try have k7 := Nat.lt_of_succ_lt k6); (try have k8 := Nat.lt_of_succ_lt k3)); refine hK.out _ _ ?_ (fun hHeld => ?_); (· (first | with_reducible assumption | ((repeat (first | with_reducible refine bothS_drew ?_ | with_reducible refine bothS_alloc _ ?_ | with_reducible refine bothS_set _ _ (by first | omega | (simp; omega) | simp) ?_)); first | with_reducible assumption | with_reducible exact Hid.out (by assumption) | with_reducible exact ⟨Below.refl _ _, fun _ _ _ => rfl⟩))); clear hK K; (try simp only [Act.put, List.setIfInBounds_toArray, List.set_cons_zero, List.set_cons_succ])
                  refine wpAnyH_ready (rs := [11]) (by kernel_rfl) (by simp) ?_; refine AllReadyH.cons (o := ?_) ?_ (fun K hK => ?_) AllReadyH.nil; rotate_left 1; (· simp only [List.getElem?_toArray, List.getElem?_cons_succ, List.getElem?_cons_zero]; with_reducible rfl); go_simp; (go_at_call 68; with_reducible refine (HPB.out _ ?_).mono ?_; (first | with_reducible assumption | ((repeat (first | with_reducible refine bothS_drew ?_ | with_reducible refine bothS_alloc _ ?_ | with_reducible refine bothS_set _ _ (by first | omega | (simp; omega) | simp) ?_)); first | with_reducible assumption | with_reducible exact Hid.out (by assumption) | with_reducible exact ⟨Below.refl _ _, fun _ _ _ => rfl⟩)); rintro e w' ⟨rfl, k, k1, k2, k3⟩; have HK := Lib.hid k; (try simp at k3); (try have k6 := Nat.lt_of_succ_le k3); (try have k7 := Nat.lt_of_succ_lt k6); (try have k8 := Nat.lt_of_succ_lt k3)); refine hK.out _ _ ?_ (fun hHeld => ?_); (· (first | with_reducible assumption | ((repeat (first | with_reducible refine bothS_drew ?_ | with_reducible refine bothS_alloc _ ?_ | with_reducible refine bothS_set _ _ (by first | omega | (simp; omega) | simp) ?_)); first | with_reducible assumption | with_reducible exact Hid.out (by assumption) | with_reducible exact ⟨Below.refl _ _, fun _ _ _ => rfl⟩))); clear hK K; (try simp only [Act.put, List.setIfInBounds_toArray, List.set_cons_zero, List.set_cons_succ])
                  refine wpAnyH_take (i := 12) (oi := ?_) (v := ?_) ?_ ?_ ?_ ?_ ?_ ?_ ?_ ?_; rotate_left 2; (· simp only [List.getElem?_toArray, List.getElem?_cons_succ, List.getElem?_cons_zero]; with_reducible rfl); (· kernel_rfl); (· kernel_rfl); (· kernel_rfl); (· exact fun _ _ _ h => h); (· refine Or.inl ⟨by rfl, ?_⟩; intro w hSw; (try dsimp only at hSw); go_simp; try with_reducible rfl); (· assumption); (try simp only [Act.put, List.setIfInBounds_toArray, List.set_cons_zero, List.set_cons_succ])
                  refine wpAnyH_take (i := 13) (oi := ?_) (v := ?_) ?_ ?_ ?_ ?_ ?_ ?_ ?_ ?_; rotate_left 2; (· simp only [List.getElem?_toArray, List.getElem?_cons_succ, List.getElem?_cons_zero]; with_reducible rfl); (· kernel_rfl); (· kernel_rfl); (· kernel_rfl); (· exact fun _ _ _ h => h); (· refine Or.inl ⟨by rfl, ?_⟩; intro w hSw; (try dsimp only at hSw); go_simp; try with_reducible rfl); (· assumption); (try simp only [Act.put, List.setIfInBounds_toArray, List.set_cons_zero, List.set_cons_succ])
                  refine wpAnyH_take (i := 14) (oi := ?_) (v := ?_) ?_ ?_ ?_ ?_ ?_ ?_ ?_ ?_; rotate_left 2; (· simp only [List.getElem?_toArray, List.getElem?_cons_succ, List.getElem?_cons_zero]; with_reducible rfl); (· kernel_rfl); (· kernel_rfl); (· kernel_rfl); (· exact fun _ _ _ h => h); (· refine Or.inl ⟨by rfl, ?_⟩; intro w hSw; (try dsimp only at hSw); go_simp; try with_reducible rfl); (· assumption); (try simp only [Act.put, List.setIfInBounds_toArray, List.set_cons_zero, List.set_cons_succ])
                  refine wpAnyH_take (i := 15) (oi := ?_) (v := ?_) ?_ ?_ ?_ ?_ ?_ ?_ ?_ ?_; rotate_left 2; (· simp only [List.getElem?_toArray, List.getElem?_cons_succ, List.getElem?_cons_zero]; with_reducible rfl); (· kernel_rfl); (· kernel_rfl); (· kernel_rfl); (· exact fun _ _ _ h => h); (· refine Or.inl ⟨by rfl, ?_⟩; intro w hSw; (try dsimp only at hSw); go_simp; try with_reducible rfl); (· assumption); (try simp only [Act.put, List.setIfInBounds_toArray, List.set_cons_zero, List.set_cons_succ])
                  refine wpAnyH_take (i := 16) (oi := ?_) (v := ?_) ?_ ?_ ?_ ?_ ?_ ?_ ?_ ?_; rotate_left 2; (· simp only [List.getElem?_toArray, List.getElem?_cons_succ, List.getElem?_cons_zero]; with_reducible rfl); (· kernel_rfl); (· kernel_rfl); (· kernel_rfl); (· exact fun _ _ _ h => h); (· refine Or.inl ⟨by rfl, ?_⟩; intro w hSw; (try dsimp only at hSw); go_simp; try with_reducible rfl); (· assumption); (try simp only [Act.put, List.setIfInBounds_toArray, List.set_cons_zero, List.set_cons_succ])
                  refine wpAnyH_take (i := 17) (oi := ?_) (v := ?_) ?_ ?_ ?_ ?_ ?_ ?_ ?_ ?_; rotate_left 2; (· simp only [List.getElem?_toArray, List.getElem?_cons_succ, List.getElem?_cons_zero]; with_reducible rfl); (· kernel_rfl); (· kernel_rfl); (· kernel_rfl); (· exact fun _ _ _ h => h); (· refine Or.inl ⟨by rfl, ?_⟩; intro w hSw; (try dsimp only at hSw); go_simp; try with_reducible rfl); (· assumption); (try simp only [Act.put, List.setIfInBounds_toArray, List.set_cons_zero, List.set_cons_succ])
                  refine wpAnyH_take (i := 18) (oi := ?_) (v := ?_) ?_ ?_ ?_ ?_ ?_ ?_ ?_ ?_; rotate_left 2; (· simp only [List.getElem?_toArray, List.getElem?_cons_succ, List.getElem?_cons_zero]; with_reducible rfl); (· kernel_rfl); (· kernel_rfl); (· kernel_rfl); (· exact fun _ _ _ h => h); (· refine Or.inl ⟨by rfl, ?_⟩; intro w hSw; (try dsimp only at hSw); go_simp; try with_reducible rfl); (· assumption); (try simp only [Act.put, List.setIfInBounds_toArray, List.set_cons_zero, List.set_cons_succ])
                  refine wpAnyH_take (i := 19) (oi := ?_) (v := ?_) ?_ ?_ ?_ ?_ ?_ ?_ ?_ ?_; rotate_left 2; (· simp only [List.getElem?_toArray, List.getElem?_cons_succ, List.getElem?_cons_zero]; with_reducible rfl); (· kernel_rfl); (· kernel_rfl); (· kernel_rfl); (· exact fun _ _ _ h => h); (· refine Or.inl ⟨by rfl, ?_⟩; intro w hSw; (try dsimp only at hSw); go_simp; try with_reducible rfl); (· assumption); (try simp only [Act.put, List.setIfInBounds_toArray, List.set_cons_zero, List.set_cons_succ])
                  refine wpAnyH_ready (rs := [20]) (by kernel_rfl) (by simp) ?_; refine AllReadyH.cons (o := ?_) ?_ (fun K hK => ?_) AllReadyH.nil; rotate_left 1; (· simp only [List.getElem?_toArray, List.getElem?_cons_succ, List.getElem?_cons_zero]; with_reducible rfl); go_simp; (go_at_call 69; with_reducible refine (HCX.out _ ?_).mono ?_; (first | with_reducible assumption | ((repeat (first | with_reducible refine bothS_drew ?_ | with_reducible refine bothS_alloc _ ?_ | with_reducible refine bothS_set _ _ (by first | omega | (simp; omega) | simp) ?_)); first | with_reducible assumption | with_reducible exact Hid.out (by assumption) | with_reducible exact ⟨Below.refl _ _, fun _ _ _ => rfl⟩)); rintro e w' ⟨rfl, k, k1, k2, k3⟩; have HK := Lib.hid k; (try simp at k3); (try have k6 := Nat.lt_of_succ_le k3); (try have k7 := Nat.lt_of_succ_lt k6); (try have k8 := Nat.lt_of_succ_lt k3)); refine hK.out _ _ ?_ (fun hHeld => ?_); (· (first | with_reducible assumption | ((repeat (first | with_reducible refine bothS_drew ?_ | with_reducible refine bothS_alloc _ ?_ | with_reducible refine bothS_set _ _ (by first | omega | (simp; omega) | simp) ?_)); first | with_reducible assumption | with_reducible exact Hid.out (by assumption) | with_reducible exact ⟨Below.refl _ _, fun _ _ _ => rfl⟩))); clear hK K; (try simp only [Act.put, List.setIfInBounds_toArray, List.set_cons_zero, List.set_cons_succ])
                  refine wpAnyH_take (i := 21) (oi := ?_) (v := ?_) ?_ ?_ ?_ ?_ ?_ ?_ ?_ ?_; rotate_left 2; (· simp only [List.getElem?_toArray, List.getElem?_cons_succ, List.getElem?_cons_zero]; with_reducible rfl); (· kernel_rfl); (· kernel_rfl); (· kernel_rfl); (· exact fun _ _ _ h => h); (· refine Or.inl ⟨by rfl, ?_⟩; intro w hSw; (try dsimp only at hSw); go_simp; try with_reducible rfl); (· assumption); (try simp only [Act.put, List.setIfInBounds_toArray, List.set_cons_zero, List.set_cons_succ])
                  refine wpAnyH_done (by kernel_rfl) ?_ _
                  refine NoPanic.normal ?_
                  go_wp2_with fail; go_meet; exact ⟨rfl, And.left (by assumption)⟩
                case rest =>
                obtain ⟨rfl, hB4⟩ := hcut
                obtain ⟨W4, rfl⟩ : ∃ W4 : World, W4 = wc := ⟨_, rfl⟩
                have HB4 := Lib.hid hB4
                have z5 := (hB4.cell (p := ⟨g, k, none⟩) hg4).trans y5
                clear hB4 y0 y1 y2 y3 y4 y5
                go_wp2_with fail
                go_roundw
                case rel => exact ⟨k + 1, by omega, by go_num, by rw [HNX.out, HNV.out]; exact HVV.out.below HB4.out, HB3.out.trans (HB4.out.mono HB3.out.size)⟩
                case measure => simp [intOf]; omega
              · have HNV := Lib.hid (show stepK f f.canB (some b) X = some X from by rw [HSN.out, hcb, decide_eq_true hlp]; rfl)
                rw [hcb] at HCX
                clear hcb HSN
                go_upto_region 13 with fail
                go_cut [54] (fun v54 wx => v54 = .bool true ∧ Below W3.heap.size W3 wx)
                case first =>
                  refine wp_region_noPanic ?_
                  refine wp_region_held_drew (S := (fun w' => Below W3.heap.size W3 w' ∧ ∀ b o, b < W3.heap.size → w'.cell? ⟨b, o, none⟩ = W3.cell? ⟨b, o, none⟩)) (by kernel_rfl) ?_ (fun hHeld => ?_)
                  · (first | with_reducible assumption | ((repeat (first | with_reducible refine bothS_drew ?_ | with_reducible refine bothS_alloc _ ?_ | with_reducible refine bothS_set _ _ (by first | omega | (simp; omega) | simp) ?_)); first | with_reducible assumption | with_reducible exact Hid.out (by assumption) | with_reducible exact ⟨Below.refl _ _, fun _ _ _ => rfl⟩))
                  refine wpAnyH_take (i := 0) (oi := ?_) (v := ?_) ?_ ?_ ?_ ?_ ?_ ?_ ?_ ?_; rotate_left 2; (· simp only [List.getElem?_toArray, List.getElem?_cons_succ, List.getElem?_cons_zero]; with_reducible rfl); (· kernel_rfl); (· kernel_rfl); (· kernel_rfl); (· exact fun _ _ _ h => h); (· refine Or.inl ⟨by rfl, ?_⟩; intro w hSw; (try dsimp only at hSw); go_simp; try with_reducible rfl); (· assumption); (try simp only [Act.put, List.setIfInBounds_toArray, List.set_cons_zero, List.set_cons_succ])
                  refine wpAnyH_take (i := 1) (oi := ?_) (v := ?_) ?_ ?_ ?_ ?_ ?_ ?_ ?_ ?_; rotate_left 2; (· simp only [List.getElem?_toArray, List.getElem?_cons_succ, List.getElem?_cons_zero]; with_reducible rfl); (· kernel_rfl); (· kernel_rfl); (· kernel_rfl); (· exact fun _ _ _ h => h); (· refine Or.inl ⟨by rfl, ?_⟩; intro w hSw; (try dsimp only at hSw); go_simp; try with_reducible rfl); (· assumption); (try simp only [Act.put, List.setIfInBounds_toArray, List.set_cons_zero, List.set_cons_succ])
                  refine wpAnyH_take (i := 2) (oi := ?_) (v := ?_) ?_ ?_ ?_ ?_ ?_ ?_ ?_ ?_; rotate_left 2; (· simp only [List.getElem?_toArray, List.getElem?_cons_succ, List.getElem?_cons_zero]; with_reducible rfl); (· kernel_rfl); (· kernel_rfl); (· kernel_rfl); (· exact fun _ _ _ h => h); (· refine Or.inl ⟨by rfl, ?_⟩; intro w hSw; (try dsimp only at hSw); go_simp; try with_reducible rfl); (· assumption); (try simp only [Act.put, List.setIfInBounds_toArray, List.set_cons_zero, List.set_cons_succ])
                  refine wpAnyH_take (i := 3) (oi := ?_) (v := ?_) ?_ ?_ ?_ ?_ ?_ ?_ ?_ ?_; rotate_left 2; (· simp only [List.getElem?_toArray, List.getElem?_cons_succ, List.getElem?_cons_zero]; with_reducible rfl); (· kernel_rfl); (· kernel_rfl); (· kernel_rfl); (· exact fun _ _ _ h => h); (· refine Or.inl ⟨by rfl, ?_⟩; intro w hSw; (try dsimp only at hSw); go_simp; try with_reducible rfl); (· assumption); (try simp only [Act.put, List.setIfInBounds_toArray, List.set_cons_zero, List.set_cons_succ])
                  refine wpAnyH_take (i := 4) (oi := ?_) (v := ?_) ?_ ?_ ?_ ?_ ?_ ?_ ?_ ?_; rotate_left 2; (· simp only [List.getElem?_toArray, List.getElem?_cons_succ, List.getElem?_cons_zero]; with_reducible rfl); (· kernel_rfl); (· kernel_rfl); (· kernel_rfl); (· exact fun _ _ _ h => h); (· refine Or.inl ⟨by rfl, ?_⟩; intro w hSw; (try dsimp only at hSw); go_simp; try with_reducible rfl); (· assumption); (try simp only [Act.put, List.setIfInBounds_toArray, List.set_cons_zero, List.set_cons_succ])
                  refine wpAnyH_take (i := 5) (oi := ?_) (v := ?_) ?_ ?_ ?_ ?_ ?_ ?_ ?_ ?_; rotate_left 2; (· simp only [List.getElem?_toArray, List.getElem?_cons_succ, List.getElem?_cons_zero]; with_reducible rfl); (· kernel_rfl); (· kernel_rfl); (· kernel_rfl); (· exact fun _ _ _ h => h); (· refine Or.inl ⟨by rfl, ?_⟩; intro w hSw; (try dsimp only at hSw); go_simp; try with_reducible rfl); (· assumption); (try simp only [Act.put, List.setIfInBounds_toArray, List.set_cons_zero, List.set_cons_succ])
                  refine wpAnyH_take (i := 6) (oi := ?_) (v := ?_) ?_ ?_ ?_ ?_ ?_ ?_ ?_ ?_; rotate_left 2; (· simp only [List.getElem?_toArray, List.getElem?_cons_succ, List.getElem?_cons_zero]; with_reducible rfl); (· kernel_rfl); (· kernel_rfl); (· kernel_rfl); (· exact fun _ _ _ h => h); (· refine Or.inl ⟨by rfl, ?_⟩; intro w hSw; (try dsimp only at hSw); go_simp; try with_reducible rfl); (· assumption); (try simp only [Act.put, List.setIfInBounds_toArray, List.set_cons_zero, List.set_cons_succ])
                  refine wpAnyH_take (i := 7) (oi := ?_) (v := ?_) ?_ ?_ ?_ ?_ ?_ ?_ ?_ ?_; rotate_left 2; (· simp only [List.getElem?_toArray, List.getElem?_cons_succ, List.getElem?_cons_zero]; with_reducible rfl); (· kernel_rfl); (· kernel_rfl); (· kernel_rfl); (· exact fun _ _ _ h => h); (· refine Or.inl ⟨by rfl, ?_⟩; intro w hSw; (try dsimp only at hSw); go_simp; try with_reducible rfl); (· assumption); (try simp only [Act.put, List.setIfInBounds_toArray, List.set_cons_zero, List.set_cons_succ])
                  refine wpAnyH_take (i := 9) (oi := ?_) (v := ?_) ?_ ?_ ?_ ?_ ?_ ?_ ?_ ?_; rotate_left 2; (· simp only [List.getElem?_toArray, List.getElem?_cons_succ, List.getElem?_cons_zero]; with_reducible rfl); (· kernel_rfl); (· kernel_rfl); (· kernel_rfl); (· exact fun _ _ _ h => h); (· refine Or.inl ⟨by rfl, ?_⟩; intro w hSw; (try dsimp only at hSw); go_simp; try with_reducible rfl); (· assumption); (try simp only [Act.put, List.setIfInBounds_toArray, List.set_cons_zero, List.set_cons_succ])
                  refine wpAnyH_take (i := 10) (oi := ?_) (v := ?_) ?_ ?_ ?_ ?_ ?_ ?_ ?_ ?_; rotate_left 2; (· simp only [List.getElem?_toArray, List.getElem?_cons_succ, List.getElem?_cons_zero]; with_reducible rfl); (· kernel_rfl); (· kernel_rfl); (· kernel_rfl); (· exact fun _ _ _ h => h); (· refine Or.inl ⟨by rfl, ?_⟩; intro w hSw; (try dsimp only at hSw); go_simp; try with_reducible rfl); (· assumption); (try simp only [Act.put, List.setIfInBounds_toArray, List.set_cons_zero, List.set_cons_succ])
                  refine wpAnyH_ready (rs := [8]) (by kernel_rfl) (by simp) ?_; refine AllReadyH.cons (o := ?_) ?_ (fun K hK => ?_) AllReadyH.nil; rotate_left 1; (· simp only [List.getElem?_toArray, List.getElem?_cons_succ, List.getElem?_cons_zero]; with_reducible rfl); go_simp; (go_at_call 68; with_reducible refine (HPX.out _ ?_).mono ?_; (first | with_reducible assumption | ((repeat (first | with_reducible refine bothS_drew ?_ | with_reducible refine bothS_alloc _ ?_ | with_reducible refine bothS_set _ _ (by first | omega | (simp; omega) | simp) ?_)); first | with_reducible assumption | with_reducible exact Hid.out (by assumption) | with_reducible exact ⟨Below.refl _ _, fun _ _ _ => rfl⟩)); rintro e w' ⟨rfl, k, k1, k2, k3⟩; have HK := Lib.hid k; (try simp at k3); (try have k6 := Nat.lt_of_succ_le k3); (try have k7 := Nat.lt_of_succ_lt k6); (try have k8 := Nat.lt_of_succ_lt k3)); refine hK.out _ _ ?_ (fun hHeld => ?_); (· (first | with_reducible assumption | ((repeat (first | with_reducible refine bothS_drew ?_ | with_reducible refine bothS_alloc _ ?_ | with_reducible refine bothS_set _ _ (by first | omega | (simp; omega) | simp) ?_)); first | with_reducible assumption | with_reducible exact Hid.out (by assumption) | with_reducible exact ⟨Below.refl _ _, fun _ _ _ => rfl⟩))); clear hK K; (try simp only [Act.put, List.setIfInBounds_toArray, List.set_cons_zero, List.set_cons_succ])
                  refine wpAnyH_ready (rs := [11]) (by kernel_rfl) (by simp) ?_; refine AllReadyH.cons (o := ?_) ?_ (fun K hK => ?_) AllReadyH.nil; rotate_left 1; (· simp only [List.getElem?_toArray, List.getElem?_cons_succ, List.getElem?_cons_zero]; with_reducible rfl); go_simp; (go_at_call 68; with_reducible refine (HPB.out _ ?_).mono ?_; (first | with_reducible assumption | ((repeat (first | with_reducible refine bothS_drew ?_ | with_reducible refine bothS_alloc _ ?_ | with_reducible refine bothS_set _ _ (by first | omega | (simp; omega) | simp) ?_)); first | with_reducible assumption | with_reducible exact Hid.out (by assumption) | with_reducible exact ⟨Below.refl _ _, fun _ _ _ => rfl⟩)); rintro e w' ⟨rfl, k, k1, k2, k3⟩; have HK := Lib.hid k; (try simp at k3); (try have k6 := Nat.lt_of_succ_le k3); (try have k7 := Nat.lt_of_succ_lt k6); (try have k8 := Nat.lt_of_succ_lt k3)); refine hK.out _ _ ?_ (fun hHeld => ?_); (· (first | with_reducible assumption | ((repeat (first | with_reducible refine bothS_drew ?_ | with_reducible refine bothS_alloc _ ?_ | with_reducible refine bothS_set _ _ (by first | omega | (simp; omega) | simp) ?_)); first | with_reducible assumption | with_reducible exact Hid.out (by assumption) | with_reducible exact ⟨Below.refl _ _, fun _ _ _ => rfl⟩))); clear hK K; (try simp only [Act.put, List.setIfInBounds_toArray, List.set_cons_zero, List.set_cons_succ])
                  refine wpAnyH_take (i := 12) (oi := ?_) (v := ?_) ?_ ?_ ?_ ?_ ?_ ?_ ?_ ?_; rotate_left 2; (· simp only [List.getElem?_toArray, List.getElem?_cons_succ, List.getElem?_cons_zero]; with_reducible rfl); (· kernel_rfl); (· kernel_rfl); (· kernel_rfl); (· exact fun _ _ _ h => h); (· refine Or.inl ⟨by rfl, ?_⟩; intro w hSw; (try dsimp only at hSw); go_simp; try with_reducible rfl); (· assumption); (try simp only [Act.put, List.setIfInBounds_toArray, List.set_cons_zero, List.set_cons_succ])
                  refine wpAnyH_take (i := 13) (oi := ?_) (v := ?_) ?_ ?_ ?_ ?_ ?_ ?_ ?_ ?_; rotate_left 2; (· simp only [List.getElem?_toArray, List.getElem?_cons_succ, List.getElem?_cons_zero]; with_reducible rfl); (· kernel_rfl); (· kernel_rfl); (· kernel_rfl); (· exact fun _ _ _ h => h); (· refine Or.inl ⟨by rfl, ?_⟩; intro w hSw; (try dsimp only at hSw); go_simp; try with_reducible rfl); (· assumption); (try simp only [Act.put, List.setIfInBounds_toArray, List.set_cons_zero, List.set_cons_succ])
                  refine wpAnyH_take (i := 14) (oi := ?_) (v := ?_) ?_ ?_ ?_ ?_ ?_ ?_ ?_ ?_; rotate_left 2; (· simp only [List.getElem?_toArray, List.getElem?_cons_succ, List.getElem?_cons_zero]; with_reducible rfl); (· kernel_rfl); (· kernel_rfl); (· kernel_rfl); (· exact fun _ _ _ h => h); (· refine Or.inl ⟨by rfl, ?_⟩; intro w hSw; (try dsimp only at hSw); go_simp; try with_reducible rfl); (· assumption); (try simp only [Act.put, List.setIfInBounds_toArray, List.set_cons_zero, List.set_cons_succ])
                  refine wpAnyH_take (i := 15) (oi := ?_) (v := ?_) ?_ ?_ ?_ ?_ ?_ ?_ ?_ ?_; rotate_left 2; (· simp only [List.getElem?_toArray, List.getElem?_cons_succ, List.getElem?_cons_zero]; with_reducible rfl); (· kernel_rfl); (· kernel_rfl); (· kernel_rfl); (· exact fun _ _ _ h => h); (· refine Or.inl ⟨by rfl, ?_⟩; intro w hSw; (try dsimp only at hSw); go_simp; try with_reducible rfl); (· assumption); (try simp only [Act.put, List.setIfInBounds_toArray, List.set_cons_zero, List.set_cons_succ])
                  refine wpAnyH_take (i := 16) (oi := ?_) (v := ?_) ?_ ?_ ?_ ?_ ?_ ?_ ?_ ?_; rotate_left 2; (· simp only [List.getElem?_toArray, List.getElem?_cons_succ, List.getElem?_cons_zero]; with_reducible rfl); (· kernel_rfl); (· kernel_rfl); (· kernel_rfl); (· exact fun _ _ _ h => h); (· refine Or.inl ⟨by rfl, ?_⟩; intro w hSw; (try dsimp only at hSw); go_simp; try with_reducible rfl); (· assumption); (try simp only [Act.put, List.setIfInBounds_toArray, List.set_cons_zero, List.set_cons_succ])
                  refine wpAnyH_take (i := 17) (oi := ?_) (v := ?_) ?_ ?_ ?_ ?_ ?_ ?_ ?_ ?_; rotate_left 2; (· simp only [List.getElem?_toArray, List.getElem?_cons_succ, List.getElem?_cons_zero]; with_reducible rfl); (· kernel_rfl); (· kernel_rfl); (· kernel_rfl); (· exact fun _ _ _ h => h); (· refine Or.inl ⟨by rfl, ?_⟩; intro w hSw; (try dsimp only at hSw); go_simp; try with_reducible rfl); (· assumption); (try simp only [Act.put, List.setIfInBounds_toArray, List.set_cons_zero, List.set_cons_succ])
                  refine wpAnyH_take (i := 18) (oi := ?_) (v := ?_) ?_ ?_ ?_ ?_ ?_ ?_ ?_ ?_; rotate_left 2; (· simp only [List.getElem?_toArray, List.getElem?_cons_succ, List.getElem?_cons_zero]; with_reducible rfl); (· kernel_rfl); (· kernel_rfl); (· kernel_rfl); (· exact fun _ _ _ h => h); (· refine Or.inl ⟨by rfl, ?_⟩; intro w hSw; (try dsimp only at hSw); go_simp; try with_reducible rfl); (· assumption); (try simp only [Act.put, List.setIfInBounds_toArray, List.set_cons_zero, List.set_cons_succ])
                  refine wpAnyH_take (i := 19) (oi := ?_) (v := ?_) ?_ ?_ ?_ ?_ ?_ ?_ ?_ ?_; rotate_left 2; (· simp only [List.getElem?_toArray, List.getElem?_cons_succ, List.getElem?_cons_zero]; with_reducible rfl); (· kernel_rfl); (· kernel_rfl); (· kernel_rfl); (· exact fun _ _ _ h => h); (· refine Or.inl ⟨by rfl, ?_⟩; intro w hSw; (try dsimp only at hSw); go_simp; try with_reducible rfl); (· assumption); (try simp only [Act.put, List.setIfInBounds_toArray, List.set_cons_zero, List.set_cons_succ])
                  refine wpAnyH_ready (rs := [20]) (by kernel_rfl) (by simp) ?_; refine AllReadyH.cons (o := ?_) ?_ (fun K hK => ?_) AllReadyH.nil; rotate_left 1; (· simp only [List.getElem?_toArray, List.getElem?_cons_succ, List.getElem?_cons_zero]; with_reducible rfl); go_simp; (go_at_call 69; with_reducible refine (HCX.out _ ?_).mono ?_; (first | with_reducible assumption | ((repeat (first | with_reducible refine bothS_drew ?_ | with_reducible refine bothS_alloc _ ?_ | with_reducible refine bothS_set _ _ (by first | omega | (simp; omega) | simp) ?_)); first | with_reducible assumption | with_reducible exact Hid.out (by assumption) | with_reducible exact ⟨Below.refl _ _, fun _ _ _ => rfl⟩)); rintro e w' ⟨rfl, k, k1, k2, k3⟩; have HK := Lib.hid k; (try simp at k3); (try have k6 := Nat.lt_of_succ_le k3); (try have k7 := Nat.lt_of_succ_lt k6); (try have k8 := Nat.lt_of_succ_lt k3)); refine hK.out _ _ ?_ (fun hHeld => ?_); (· (first | with_reducible assumption | ((repeat (first | with_reducible refine bothS_drew ?_ | with_reducible refine bothS_alloc _ ?_ | with_reducible refine bothS_set _ _ (by first | omega | (simp; omega) | simp) ?_)); first | with_reducible assumption | with_reducible exact Hid.out (by assumption) | with_reducible exact ⟨Below.refl _ _, fun _ _ _ => rfl⟩))); clear hK K; (try simp only [Act.put, List.setIfInBounds_toArray, List.set_cons_zero, List.set_cons_succ])
                  refine wpAnyH_take (i := 21) (oi := ?_) (v := ?_) ?_ ?_ ?_ ?_ ?_ ?_ ?_ ?_; rotate_left 2; (· simp only [List.getElem?_toArray, List.getElem?_cons_succ, List.getElem?_cons_zero]; with_reducible rfl); (· kernel_rfl); (· kernel_rfl); (· kernel_rfl); (· exact fun _ _ _ h => h); (· refine Or.inl ⟨by rfl, ?_⟩; intro w hSw; (try dsimp only at hSw); go_simp; try with_reducible rfl); (· assumption); (try simp only [Act.put, List.setIfInBounds_toArray, List.set_cons_zero, List.set_cons_succ])
                  refine wpAnyH_done (by kernel_rfl) ?_ _
                  refine NoPanic.normal ?_
                  go_wp2_with fail; go_meet; exact ⟨rfl, And.left (by assumption)⟩
                case rest =>
                obtain ⟨rfl, hB4⟩ := hcut
                obtain ⟨W4, rfl⟩ : ∃ W4 : World, W4 = wc := ⟨_, rfl⟩
                have HB4 := Lib.hid hB4
                have z5 := (hB4.cell (p := ⟨g, k, none⟩) hg4).trans y5
                clear hB4 y0 y1 y2 y3 y4 y5
                have HIX := Lib.hid (HIG.out W4 HB4.out)
                go_wp2_with fail
                go_roundw
                case rel => exact ⟨k + 1, by omega, by go_num, by rw [HNX.out, HNV.out]; exact .inr ⟨X, ga, c, rfl, rfl, rfl, HIX.out.below (by repeat (first | exact Below.refl _ _ | (refine Below.alloc ?_ (by first | omega | (simp; omega) | simp) _) | (refine Below.setCell ?_ (by first | omega | (simp; omega) | simp) _) | refine Below.drew ?_))⟩, (HB3.out.trans (HB4.out.mono HB3.out.size)).trans (Below.mono (by repeat (first | exact Below.refl _ _ | (refine Below.alloc ?_ (by first | omega | (simp; omega) | simp) _) | (refine Below.setCell ?_ (by first | omega | (simp; omega) | simp) _) | refine Below.drew ?_)) (Nat.le_trans HB3.out.size HB4.out.size))⟩
                case measure => simp [intOf]; omega
            · have HNV := Lib.hid (show stepK f f.canB (some b) X = some b from by rw [HSN.out, decide_eq_false hlp]; rfl)
              clear HSN
              go_upto_region 13 with fail
              go_cut [54] (fun v54 wx => v54 = .bool false ∧ Below W3.heap.size W3 wx)
              case first =>
                refine wp_region_noPanic ?_
                refine wp_region_held_drew (S := (fun w' => Below W3.heap.size W3 w' ∧ ∀ b o, b < W3.heap.size → w'.cell? ⟨b, o, none⟩ = W3.cell? ⟨b, o, none⟩)) (by kernel_rfl) ?_ (fun hHeld => ?_)
                · (first | with_reducible assumption | ((repeat (first | with_reducible refine bothS_drew ?_ | with_reducible refine bothS_alloc _ ?_ | with_reducible refine bothS_set _ _ (by first | omega | (simp; omega) | simp) ?_)); first | with_reducible assumption | with_reducible exact Hid.out (by assumption) | with_reducible exact ⟨Below.refl _ _, fun _ _ _ => rfl⟩))
                refine wpAnyH_take (i := 0) (oi := ?_) (v := ?_) ?_ ?_ ?_ ?_ ?_ ?_ ?_ ?_; rotate_left 2; (· simp only [List.getElem?_toArray, List.getElem?_cons_succ, List.getElem?_cons_zero]; with_reducible rfl); (· kernel_rfl); (· kernel_rfl); (· kernel_rfl); (· exact fun _ _ _ h => h); (· refine Or.inl ⟨by rfl, ?_⟩; intro w hSw; (try dsimp only at hSw); go_simp; try with_reducible rfl); (· assumption); (try simp only [Act.put, List.setIfInBounds_toArray, List.set_cons_zero, List.set_cons_succ])
                refine wpAnyH_take (i := 1) (oi := ?_) (v := ?_) ?_ ?_ ?_ ?_ ?_ ?_ ?_ ?_; rotate_left 2; (· simp only [List.getElem?_toArray, List.getElem?_cons_succ, List.getElem?_cons_zero]; with_reducible rfl); (· kernel_rfl); (· kernel_rfl); (· kernel_rfl); (· exact fun _ _ _ h => h); (· refine Or.inl ⟨by rfl, ?_⟩; intro w hSw; (try dsimp only at hSw); go_simp; try with_reducible rfl); (· assumption); (try simp only [Act.put, List.setIfInBounds_toArray, List.set_cons_zero, List.set_cons_succ])
                refine wpAnyH_take (i := 2) (oi := ?_) (v := ?_) ?_ ?_ ?_ ?_ ?_ ?_ ?_ ?_; rotate_left 2; (· simp only [List.getElem?_toArray, List.getElem?_cons_succ, List.getElem?_cons_zero]; with_reducible rfl); (· kernel_rfl); (· kernel_rfl); (· kernel_rfl); (· exact fun _ _ _ h => h); (· refine Or.inl ⟨by rfl, ?_⟩; intro w hSw; (try dsimp only at hSw); go_simp; try with_reducible rfl); (· assumption); (try simp only [Act.put, List.setIfInBounds_toArray, List.set_cons_zero, List.set_cons_succ])
                refine wpAnyH_take (i := 3) (oi := ?_) (v := ?_) ?_ ?_ ?_ ?_ ?_ ?_ ?_ ?_; rotate_left 2; (· simp only [List.getElem?_toArray, List.getElem?_cons_succ, List.getElem?_cons_zero]; with_reducible rfl); (· kernel_rfl); (· kernel_rfl); (· kernel_rfl); (· exact fun _ _ _ h => h); (· refine Or.inl ⟨by rfl, ?_⟩; intro w hSw; (try dsimp only at hSw); go_simp; try with_reducible rfl); (· assumption); (try simp only [Act.put, List.setIfInBounds_toArray, List.set_cons_zero, List.set_cons_succ])
                refine wpAnyH_take (i := 4) (oi := ?_) (v := ?_) ?_ ?_ ?_ ?_ ?_ ?_ ?_ ?_; rotate_left 2; (· simp only [List.getElem?_toArray, List.getElem?_cons_succ, List.getElem?_cons_zero]; with_reducible rfl); (· kernel_rfl); (· kernel_rfl); (· kernel_rfl); (· exact fun _ _ _ h => h); (· refine Or.inl ⟨by rfl, ?_⟩; intro w hSw; (try dsimp only at hSw); go_simp; try with_reducible rfl); (· assumption); (try simp only [Act.put, List.setIfInBounds_toArray, List.set_cons_zero, List.set_cons_succ])
                refine wpAnyH_take (i := 5) (oi := ?_) (v := ?_) ?_ ?_ ?_ ?_ ?_ ?_ ?_ ?_; rotate_left 2; (· simp only [List.getElem?_toArray, List.getElem?_cons_succ, List.getElem?_cons_zero]; with_reducible rfl); (· kernel_rfl); (· kernel_rfl); (· kernel_rfl); (· exact fun _ _ _ h => h); (· refine Or.inl ⟨by rfl, ?_⟩; intro w hSw; (try dsimp only at hSw); go_simp; try with_reducible rfl); (· assumption); (try simp only [Act.put, List.setIfInBounds_toArray, List.set_cons_zero, List.set_cons_succ])
                refine wpAnyH_take (i := 6) (oi := ?_) (v := ?_) ?_ ?_ ?_ ?_ ?_ ?_ ?_ ?_; rotate_left 2; (· simp only [List.getElem?_toArray, List.getElem?_cons_succ, List.getElem?_cons_zero]; with_reducible rfl); (· kernel_rfl); (· kernel_rfl); (· kernel_rfl); (· exact fun _ _ _ h => h); (· refine Or.inl ⟨by rfl, ?_⟩; intro w hSw; (try dsimp only at hSw); go_simp; try with_reducible rfl); (· assumption); (try simp only [Act.put, List.setIfInBounds_toArray, List.set_cons_zero, List.set_cons_succ])
                refine wpAnyH_take (i := 7) (oi := ?_) (v := ?_) ?_ ?_ ?_ ?_ ?_ ?_ ?_ ?_; rotate_left 2; (· simp only [List.getElem?_toArray, List.getElem?_cons_succ, List.getElem?_cons_zero]; with_reducible rfl); (· kernel_rfl); (· kernel_rfl); (· kernel_rfl); (· exact fun _ _ _ h => h); (· refine Or.inl ⟨by rfl, ?_⟩; intro w hSw; (try dsimp only at hSw); go_simp; try with_reducible rfl); (· assumption); (try simp only [Act.put, List.setIfInBounds_toArray, List.set_cons_zero, List.set_cons_succ])
                refine wpAnyH_take (i := 9) (oi := ?_) (v := ?_) ?_ ?_ ?_ ?_ ?_ ?_ ?_ ?_; rotate_left 2; (· simp only [List.getElem?_toArray, List.getElem?_cons_succ, List.getElem?_cons_zero]; with_reducible rfl); (· kernel_rfl); (· kernel_rfl); (· kernel_rfl); (· exact fun _ _ _ h => h); (· refine Or.inl ⟨by rfl, ?_⟩; intro w hSw; (try dsimp only at hSw); go_simp; try with_reducible rfl); (· assumption); (try simp only [Act.put, List.setIfInBounds_toArray, List.set_cons_zero, List.set_cons_succ])
                refine wpAnyH_take (i := 10) (oi := ?_) (v := ?_) ?_ ?_ ?_ ?_ ?_ ?_ ?_ ?_; rotate_left 2; (· simp only [List.getElem?_toArray, List.getElem?_cons_succ, List.getElem?_cons_zero]; with_reducible rfl); (· kernel_rfl); (· kernel_rfl); (· kernel_rfl); (· exact fun _ _ _ h => h); (· refine Or.inl ⟨by rfl, ?_⟩; intro w hSw; (try dsimp only at hSw); go_simp; try with_reducible rfl); (· assumption); (try simp only [Act.put, List.setIfInBounds_toArray, List.set_cons_zero, List.set_cons_succ])
                refine wpAnyH_ready (rs := [8]) (by kernel_rfl) (by simp) ?_; refine AllReadyH.cons (o := ?_) ?_ (fun K hK => ?_) AllReadyH.nil; rotate_left 1; (· simp only [List.getElem?_toArray, List.getElem?_cons_succ, List.getElem?_cons_zero]; with_reducible rfl); go_simp; (go_at_call 68; with_reducible refine (HPX.out _ ?_).mono ?_; (first | with_reducible assumption | ((repeat (first | with_reducible refine bothS_drew ?_ | with_reducible refine bothS_alloc _ ?_ | with_reducible refine bothS_set _ _ (by first | omega | (simp; omega) | simp) ?_)); first | with_reducible assumption | with_reducible exact Hid.out (by assumption) | with_reducible exact ⟨Below.refl _ _, fun _ _ _ => rfl⟩)); rintro e w' ⟨rfl, k, k1, k2, k3⟩; have HK := Lib.hid k; (try simp at k3); (try have k6 := Nat.lt_of_succ_le k3); (try have k7 := Nat.lt_of_succ_lt k6); (try have k8 := Nat.lt_of_succ_lt k3)); refine hK.out _ _ ?_ (fun hHeld => ?_); (· (first | with_reducible assumption | ((repeat (first | with_reducible refine bothS_drew ?_ | with_reducible refine bothS_alloc _ ?_ | with_reducible refine bothS_set _ _ (by first | omega | (simp; omega) | simp) ?_)); first | with_reducible assumption | with_reducible exact Hid.out (by assumption) | with_reducible exact ⟨Below.refl _ _, fun _ _ _ => rfl⟩))); clear hK K; (try simp only [Act.put, List.setIfInBounds_toArray, List.set_cons_zero, List.set_cons_succ])
                refine wpAnyH_ready (rs := [11]) (by kernel_rfl) (by simp) ?_; refine AllReadyH.cons (o := ?_) ?_ (fun K hK => ?_) AllReadyH.nil; rotate_left 1; (· simp only [List.getElem?_toArray, List.getElem?_cons_succ, List.getElem?_cons_zero]; with_reducible rfl); go_simp; (go_at_call 68; with_reducible refine (HPB.out _ ?_).mono ?_; (first | with_reducible assumption | ((repeat (first | with_reducible refine bothS_drew ?_ | with_reducible refine bothS_alloc _ ?_ | with_reducible refine bothS_set _ _ (by first | omega | (simp; omega) | simp) ?_)); first | with_reducible assumption | with_reducible exact Hid.out (by assumption) | with_reducible exact ⟨Below.refl _ _, fun _ _ _ => rfl⟩)); rintro e w' ⟨rfl, k, k1, k2, k3⟩; have HK := Lib.hid k; (try simp at k3); (try have k6 := Nat.lt_of_succ_le k3); (try have k7 := Nat.lt_of_succ_lt k6); (try have k8 := Nat.lt_of_succ_lt k3)); refine hK.out _ _ ?_ (fun hHeld => ?_); (· (first | with_reducible assumption | ((repeat (first | with_reducible refine bothS_drew ?_ | with_reducible refine bothS_alloc _ ?_ | with_reducible refine bothS_set _ _ (by first | omega | (simp; omega) | simp) ?_)); first | with_reducible assumption | with_reducible exact Hid.out (by assumption) | with_reducible exact ⟨Below.refl _ _, fun _ _ _ => rfl⟩))); clear hK K; (try simp only [Act.put, List.setIfInBounds_toArray, List.set_cons_zero, List.set_cons_succ])
                refine wpAnyH_take (i := 12) (oi := ?_) (v := ?_) ?_ ?_ ?_ ?_ ?_ ?_ ?_ ?_; rotate_left 2; (· simp only [List.getElem?_toArray, List.getElem?_cons_succ, List.getElem?_cons_zero]; with_reducible rfl); (· kernel_rfl); (· kernel_rfl); (· kernel_rfl); (· exact fun _ _ _ h => h); (· refine Or.inl ⟨by rfl, ?_⟩; intro w hSw; (try dsimp only at hSw); go_simp; try with_reducible rfl); (· assumption); (try simp only [Act.put, List.setIfInBounds_toArray, List.set_cons_zero, List.set_cons_succ])
                refine wpAnyH_take (i := 13) (oi := ?_) (v := ?_) ?_ ?_ ?_ ?_ ?_ ?_ ?_ ?_; rotate_left 2; (· simp only [List.getElem?_toArray, List.getElem?_cons_succ, List.getElem?_cons_zero]; with_reducible rfl); (· kernel_rfl); (· kernel_rfl); (· kernel_rfl); (· exact fun _ _ _ h => h); (· refine Or.inl ⟨by rfl, ?_⟩; intro w hSw; (try dsimp only at hSw); go_simp; try with_reducible rfl); (· assumption); (try simp only [Act.put, List.setIfInBounds_toArray, List.set_cons_zero, List.set_cons_succ])
                refine wpAnyH_take (i := 14) (oi := ?_) (v := ?_) ?_ ?_ ?_ ?_ ?_ ?_ ?_ ?_; rotate_left 2; (· simp only [List.getElem?_toArray, List.getElem?_cons_succ, List.getElem?_cons_zero]; with_reducible rfl); (· kernel_rfl); (· kernel_rfl); (· kernel_rfl); (· exact fun _ _ _ h => h); (· refine Or.inl ⟨by rfl, ?_⟩; intro w hSw; (try dsimp only at hSw); go_simp; try with_reducible rfl); (· assumption); (try simp only [Act.put, List.setIfInBounds_toArray, List.set_cons_zero, List.set_cons_succ])
                refine wpAnyH_take (i := 15) (oi := ?_) (v := undef) ?_ ?_ ?_ ?_ ?_ ?_ ?_ ?_; rotate_left 1; (· simp only [List.getElem?_toArray, List.getElem?_cons_succ, List.getElem?_cons_zero]; with_reducible rfl); (· kernel_rfl); (· kernel_rfl); (· kernel_rfl); (· exact fun _ _ _ h => h); (· exact Or.inr ⟨by rfl, rfl⟩); (· assumption); (try simp only [Act.put, List.setIfInBounds_toArray, List.set_cons_zero, List.set_cons_succ])
                refine wpAnyH_take (i := 16) (oi := ?_) (v := undef) ?_ ?_ ?_ ?_ ?_ ?_ ?_ ?_; rotate_left 1; (· simp only [List.getElem?_toArray, List.getElem?_cons_succ, List.getElem?_cons_zero]; with_reducible rfl); (· kernel_rfl); (· kernel_rfl); (· kernel_rfl); (· exact fun _ _ _ h => h); (· exact Or.inr ⟨by rfl, rfl⟩); (· assumption); (try simp only [Act.put, List.setIfInBounds_toArray, List.set_cons_zero, List.set_cons_succ])
                refine wpAnyH_take (i := 17) (oi := ?_) (v := undef) ?_ ?_ ?_ ?_ ?_ ?_ ?_ ?_; rotate_left 1; (· simp only [List.getElem?_toArray, List.getElem?_cons_succ, List.getElem?_cons_zero]; with_reducible rfl); (· kernel_rfl); (· kernel_rfl); (· kernel_rfl); (· exact fun _ _ _ h => h); (· exact Or.inr ⟨by rfl, rfl⟩); (· assumption); (try simp only [Act.put, List.setIfInBounds_toArray, List.set_cons_zero, List.set_cons_succ])
                refine wpAnyH_take (i := 18) (oi := ?_) (v := undef) ?_ ?_ ?_ ?_ ?_ ?_ ?_ ?_; rotate_left 1; (· simp only [List.getElem?_toArray, List.getElem?_cons_succ, List.getElem?_cons_zero]; with_reducible rfl); (· kernel_rfl); (· kernel_rfl); (· kernel_rfl); (· exact fun _ _ _ h => h); (· exact Or.inr ⟨by rfl, rfl⟩); (· assumption); (try simp only [Act.put, List.setIfInBounds_toArray, List.set_cons_zero, List.set_cons_succ])
                refine wpAnyH_take (i := 19) (oi := ?_) (v := undef) ?_ ?_ ?_ ?_ ?_ ?_ ?_ ?_; rotate_left 1; (· simp only [List.getElem?_toArray, List.getElem?_cons_succ, List.getElem?_cons_zero]; with_reducible rfl); (· kernel_rfl); (· kernel_rfl); (· kernel_rfl); (· exact fun _ _ _ h => h); (· exact Or.inr ⟨by rfl, rfl⟩); (· assumption); (try simp only [Act.put, List.setIfInBounds_toArray, List.set_cons_zero, List.set_cons_succ])
                refine wpAnyH_take (i := 20) (oi := ?_) (v := undef) ?_ ?_ ?_ ?_ ?_ ?_ ?_ ?_; rotate_left 1; (· simp only [List.getElem?_toArray, List.getElem?_cons_succ, List.getElem?_cons_zero]; with_reducible rfl); (· kernel_rfl); (· kernel_rfl); (· kernel_rfl); (· exact fun _ _ _ h => h); (· exact Or.inr ⟨by rfl, rfl⟩); (· assumption); (try simp only [Act.put, List.setIfInBounds_toArray, List.set_cons_zero, List.set_cons_succ])
                refine wpAnyH_take (i := 21) (oi := ?_) (v := ?_) ?_ ?_ ?_ ?_ ?_ ?_ ?_ ?_; rotate_left 2; (· simp only [List.getElem?_toArray, List.getElem?_cons_succ, List.getElem?_cons_zero]; with_reducible rfl); (· kernel_rfl); (· kernel_rfl); (· kernel_rfl); (· exact fun _ _ _ h => h); (· refine Or.inl ⟨by rfl, ?_⟩; intro w hSw; (try dsimp only at hSw); go_simp; try with_reducible rfl); (· assumption); (try simp only [Act.put, List.setIfInBounds_toArray, List.set_cons_zero, List.set_cons_succ])
                refine wpAnyH_done (by kernel_rfl) ?_ _
                refine NoPanic.normal ?_
                go_wp2_with fail; go_meet; exact ⟨rfl, And.left (by assumption)⟩
              case rest =>
              obtain ⟨rfl, hB4⟩ := hcut
              obtain ⟨W4, rfl⟩ : ∃ W4 : World, W4 = wc := ⟨_, rfl⟩
              have HB4 := Lib.hid hB4
              have z5 := (hB4.cell (p := ⟨g, k, none⟩) hg4).trans y5
              clear hB4 y0 y1 y2 y3 y4 y5
              go_wp2_with fail
              go_roundw
              case rel => exact ⟨k + 1, by omega, by go_num, by rw [HNX.out, HNV.out]; exact HVV.out.below HB4.out, HB3.out.trans (HB4.out.mono HB3.out.size)⟩
              case measure => simp [intOf]; omega
        · obtain rfl : k = vs.length := by omega
          have hV4 := hV3
          rw [hvl, List.take_length, ← HLN.out] at hV4
          have HV4 := Lib.hid hV4
          have HB3 := Lib.hid hB3
          clear hV3 hV4 hB3
          go_wp2_with fail
          go_roundw
          case rel => exact ⟨m + 1, by omega, by go_num, HV4.out, HBR.out.trans ((HB2.out.mono HBR.out.size).trans (HB3.out.mono (Nat.le_trans HBR.out.size HB2.out.size)))⟩
          case measure => simp [intOf]; omega
    · obtain rfl : m = pl + 1 := by omega
      have hle : ¬ ((pl + 1 : Nat) : Int) ≤ (pl : Int) := by omega
      have hV := HV.out
      rw [HRR.out] at hV
      have HBX := Lib.hid (HB1.out.trans (HBR.out.mono HB1.out.size))
      clear HV HRR
      rcases hV with ⟨rfl, rfl, rfl⟩ | ⟨b, ba, bc, rfl, rfl, rfl, hbi⟩
      · go_wp2_with fail
        go_ret2
        exact ⟨HBX.out, rfl⟩
      · go_wp2_with fail
        go_ret2
        exact ⟨HBX.out, ⟨ba, ⟨bc, rfl⟩, hbi⟩⟩
end Go.Proofs.Ytlhgoedghojnkaa
