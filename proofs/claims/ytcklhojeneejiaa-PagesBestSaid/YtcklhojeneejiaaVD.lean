/- VD VE VF, joined. -/
import Derived.Test.YtcklhojeneejiaaWX
import Derived.Test.YtcklhojeneejiaaWQ
/- The reference's sets of strips. -/
namespace Go.Proofs.Ytcklhojeneejiaa
set_option linter.unusedVariables false
set_option linter.unusedSimpArgs false
open Go.RowKit Go.Shelf

theorem CRow.below {w w' : World} {n0 : Nat} {vs : List Value} {xs : List (List Int)} (h : CRow w n0 vs xs) (hb : Below w.heap.size w w') : CRow w' n0 vs xs := h.kept (grown_none hb) (fun r e => by cases e)
theorem CRow.nil (w : World) (n0 : Nat) : CRow w n0 [] [] := ⟨rfl, fun i hi => by simp at hi⟩
theorem CRow.append {w : World} {n0 : Nat} {vs us : List Value} {xs ys : List (List Int)} (h : CRow w n0 vs xs) (h2 : CRow w n0 us ys) : CRow w n0 (vs ++ us) (xs ++ ys) := by
  refine ⟨by simp [h.1, h2.1], fun i hi => ?_⟩
  rcases Nat.lt_or_ge i xs.length with hl | hl
  · obtain ⟨ga', c', h1, h3⟩ := h.2 i hl
    exact ⟨ga', c', by rw [List.getElem?_append_left (by rw [h.1]; exact hl), List.getElem_append_left hl]; exact h1, by rw [List.getElem_append_left hl]; exact h3⟩
  · have hi2 : i - xs.length < ys.length := by simp at hi; omega
    obtain ⟨ga', c', h1, h3⟩ := h2.2 (i - xs.length) hi2
    exact ⟨ga', c', by rw [List.getElem?_append_right (by rw [h.1]; exact hl), h.1, List.getElem_append_right hl]; exact h1, by rw [List.getElem_append_right hl]; exact h3⟩
theorem own_row {w : World} {n0 n : Nat} {e : TypeId} {v : Value} {vs : List Value} (h : w.ownsRow n0 e 1 v n vs) : ∀ r, v.ownBlock = some r → n0 ≤ r ∧ r < w.heap.size ∧ ∃ c : Array Value, w.heap[r]? = some (.cells c e (0, 0)) := by
  intro r hr
  rcases h.2 with ⟨rfl, -⟩ | ⟨g, cap, cur, rfl, hg, hb, -⟩
  · simp [Value.ownBlock] at hr
  · simp [Value.ownBlock] at hr
    subst hr
    exact ⟨hg, (Array.getElem?_eq_some_iff.1 hb).1, cur, hb⟩
theorem own_lit (w : World) (n0 : Nat) (e : TypeId) (v : Value) (h : n0 ≤ w.heap.size) : (w.alloc (.cells #[v] e)).ownsRow n0 e 1 (.slice (some ⟨w.heap.size, 0, none⟩) 1 1) 1 [v] :=
  ⟨rfl, .inr ⟨w.heap.size, 1, #[v], rfl, h, World.alloc_heap_new _ _, Nat.le_refl _, by unfold maxLen; omega, rfl, rfl⟩⟩
/-- append([]int{}, xs...) of a row that is there. -/
theorem wpList_append_copyC {ops : Array Oper} {rest : List Oper} {o : Oper} {a : Act} {Q : Exit → Act → World → Prop} (w : World) (xl xc : Nat) (xa : Option Addr) (xs : List Int) (hxl : xs.length = xl) (hl : xl ≤ 1000) (hgd : o.guard = none) (s x : Operand)
    (ho : o.op = .call { callee := .builtin .append, args := #[s, x], argTypes := #[27, 27] }) (hs : ∃ p, a.eval s = .slice (some p) 0 0) (hxv : a.eval x = .slice xa xl xc)
    (hsrc : 0 < xl → ∃ pb po, xa = some ⟨pb, po, none⟩ ∧ ∀ j u, (xs.map (Value.int .i64))[j]? = some u → w.cell? ⟨pb, po + j, none⟩ = some u)
    (h : ∀ ga c w3, FRow w3 w.heap.size 3 1 (some ga) xl c (xs.map (Value.int .i64)) → CapOk xl c → Below w.heap.size w w3 → wpList Try.prog ops Q rest (a.put o.dst (.slice (some ga) xl c)) w3) : wpList Try.prog ops Q (o :: rest) a w := by
  obtain ⟨p, hs⟩ := hs
  obtain ⟨ga, c, w3, hr, hf, hc, hb⟩ := run_append_freshC (P := Try.prog) w 27 o.type 3 _ 1 8 Try.underlying27 Try.info3 rfl (by decide) (by decide) p xl xc xa (xs.map (Value.int .i64)) (by simp [hxl]) hsrc hl
  exact wpList_append_run w hgd s x 27 ho _ _ _ _ hs hxv hr (h ga c w3 hf hc hb)
/-- append of one number that was built for it. -/
theorem wpList_append_num {ops : Array Oper} {rest : List Oper} {o : Oper} {a : Act} {Q : Exit → Act → World → Prop} (w : World) (n0 rl rc : Nat) (ga : Addr) (x : List Int) (n : Int) (hcap : CapOk rl rc) (hF : FRow w n0 3 1 (some ga) rl rc (x.map (Value.int .i64))) (hl : rl ≤ 1000) (hgd : o.guard = none) (s y : Operand)
    (ho : o.op = .call { callee := .builtin .append, args := #[s, y], argTypes := #[27, 27] }) (hs : a.eval s = .slice (some ga) rl rc) (hxv : ∃ p, a.eval y = .slice (some ⟨p, 0, none⟩) 1 1 ∧ w.cell? ⟨p, 0, none⟩ = some (.int .i64 n)) (hnw : n0 ≤ w.heap.size)
    (h : ∀ na nc w' row, w'.ownsRow n0 3 1 (.slice na (rl + 1) nc) (rl + 1) ((x ++ [n]).map (Value.int .i64)) → w.grownBy w' row → (∀ r, row = some r → 0 < rl ∧ ga = ⟨r, 0, none⟩) → Below n0 w w' → wpList Try.prog ops Q rest (a.put o.dst (.slice na (rl + 1) nc)) w') : wpList Try.prog ops Q (o :: rest) a w := by
  obtain ⟨p, hx1, hx2⟩ := hxv
  obtain ⟨na, nc, w3, row, hr, h1, h2, h3, h4⟩ := run_append_frow (P := Try.prog) w 27 o.type 3 _ 1 8 Try.underlying27 Try.info3 rfl (by decide) (by decide) n0 rl rc ga _ [.int .i64 n] hcap hF hl rfl (by intro u hu; simp at hu; subst hu; rfl) p (src1 hx2) hnw
  exact wpList_append_run w hgd s y 27 ho _ _ _ _ hs hx1 hr (h na nc w3 row (by rw [List.map_append]; exact h1) h2 h3 h4)

/-- All lists that begin with x, the least first; what is left of each further kind. -/
def setsF : List Int → List Int → List (List Int)
  | [], x => [x]
  | r :: rs, x => (List.range (r + 1).toNat).flatMap fun (n : Nat) => setsF rs (x ++ [(n : Int)])
def setsTo (rs x : List Int) (j : Nat) : List (List Int) := (List.range j).flatMap fun (n : Nat) => setsF rs (x ++ [(n : Int)])
theorem setsTo_next (rs x : List Int) (j : Nat) : setsTo rs x (j + 1) = setsTo rs x j ++ setsF rs (x ++ [(j : Int)]) := by
  unfold setsTo; rw [List.range_succ, List.flatMap_append]; simp
theorem flatMap_len {α : Type} (f : Nat → List α) (B : Nat) (h : ∀ n, (f n).length ≤ B) : ∀ j, ((List.range j).flatMap f).length ≤ j * B
  | 0 => by simp
  | j + 1 => by
    rw [List.range_succ, List.flatMap_append, List.length_append]
    have h1 := flatMap_len f B h j
    have h2 := h j
    simp only [List.flatMap_cons, List.flatMap_nil, List.append_nil]
    rw [Nat.succ_mul]
    omega
theorem setsF_bd : ∀ (rs : List Int), (∀ r ∈ rs, r ≤ 4) → ∀ x, (setsF rs x).length ≤ 5 ^ rs.length
  | [], _, x => by simp [setsF]
  | r :: rs, h, x => by
    have hr := h r (by simp)
    have h1 := flatMap_len (fun (n : Nat) => setsF rs (x ++ [(n : Int)])) (5 ^ rs.length) (fun n => setsF_bd rs (fun y hy => h y (by simp [hy])) _) (r + 1).toNat
    unfold setsF
    refine Nat.le_trans h1 ?_
    rw [List.length_cons, Nat.pow_succ, Nat.mul_comm]
    exact Nat.mul_le_mul (Nat.le_refl _) (by omega)
def SetsPost (xs : List (List Int)) (w : World) (e : Ending) (w' : World) : Prop :=
  Below w.heap.size w w' ∧ ∃ (v : Value) (vs : List Value), e = .returned v ∧ w'.ownsRow w.heap.size 27 1 v vs.length vs ∧ CRow w' 0 vs xs

set_option maxRecDepth 100000 in
set_option maxHeartbeats 8000000 in
theorem refSets_end (la : Option Addr) (ll lc : Nat) (xa : Option Addr) (xc : Nat) (x : List Int) (hxl : x.length = ll) (hm : ll ≤ 1000) (hc : ll ≤ xc ∧ xc ≤ maxLen) (w : World) (hx : FRow w 0 3 1 xa ll xc (x.map (Value.int .i64))) :
    Calls Try.prog 109 #[.slice la ll lc, .slice xa ll xc] w fun e w' => SetsPost [x] w e w' := by
  have HX := Lib.hid (fun W (hb : Below w.heap.size w W) => hx.kept (grown_none hb) (fun r e => by cases e))
  have HXL := Lib.hid hxl
  have HC := Lib.hid hc
  clear hx hc hxl
  go_enter Try.func109, Try.ntmps109
  go_wp2_with fail
  go_ret
  refine ⟨(by repeat (first | exact Below.refl _ _ | (refine Below.alloc ?_ (by first | omega | (simp; omega) | simp) _) | (refine Below.setCell ?_ (by first | omega | (simp; omega) | simp) _) | refine Below.drew ?_)), _, [.slice xa ll xc], rfl, own_lit w _ _ _ (Nat.le_refl _), rfl, fun i hi => ?_⟩
  obtain rfl : i = 0 := by simpa using hi
  refine ⟨xa, xc, by simp [HXL.out], by simp [HXL.out]; exact HC.out, ?_⟩
  show FRow _ 0 3 1 xa x.length xc (x.map (Value.int .i64))
  rw [HXL.out]
  exact HX.out _ (by repeat (first | exact Below.refl _ _ | (refine Below.alloc ?_ (by first | omega | (simp; omega) | simp) _) | (refine Below.setCell ?_ (by first | omega | (simp; omega) | simp) _) | refine Below.drew ?_))

set_option maxRecDepth 100000 in
set_option maxHeartbeats 8000000 in
theorem refSets_step (la : Option Addr) (ll lc : Nat) (left : List Int) (xa : Option Addr) (k xc : Nat) (x : List Int) (r q : Nat) (rs : List Int) (hkl : k < left.length) (hr : left[k] = (r : Int)) (hr4 : r ≤ 4) (hq : q = r + 1) (hxl : x.length = k) (hk3 : k ≤ 3) (hrs : rs.length ≤ 2) (hr44 : ∀ y ∈ rs, y ≤ 4) (w : World) (hl : IntsAt w la ll left) (hx : FRow w 0 3 1 xa k xc (x.map (Value.int .i64)))
    (IH : ∀ n : Nat, n < q → ∀ W (_ : Below w.heap.size w W) ga c (_ : k + 1 ≤ c ∧ c ≤ maxLen) (_ : FRow W 0 3 1 ga (k + 1) c ((x ++ [(n : Int)]).map (Value.int .i64))), Calls Try.prog 109 #[.slice la ll lc, .slice ga (k + 1) c] W fun e w' => SetsPost (setsF rs (x ++ [(n : Int)])) W e w') :
    Calls Try.prog 109 #[.slice la ll lc, .slice xa k xc] w fun e w' => SetsPost (setsTo rs x q) w e w' := by
  obtain ⟨hll, hlm, hlc⟩ := hl
  unfold maxLen at hlm
  obtain ⟨lb, lo, rfl, hlb, hcell⟩ := hlc (by omega)
  have c0 := hcell k hkl
  rw [hr] at c0
  have HX := Lib.hid (fun W (hb : Below w.heap.size w W) => hx.kept (grown_none hb) (fun r e => by cases e))
  have HIH := Lib.hid IH
  have HXL := Lib.hid hxl
  have HBD := Lib.hid (fun n => setsF_bd rs hr44 (x ++ [n]))
  have HBT := Lib.hid (fun j (hj : j ≤ 5) => show (setsTo rs x j).length ≤ 125 from Nat.le_trans (flatMap_len _ 25 (fun n => Nat.le_trans (setsF_bd rs hr44 _) (Nat.pow_le_pow_right (by decide) hrs)) j) (by omega))
  have HBN := Lib.hid (fun n => show (setsF rs (x ++ [n])).length ≤ 25 from Nat.le_trans (setsF_bd rs hr44 _) (Nat.pow_le_pow_right (by decide) hrs))
  have HCL := Lib.hid (And.intro hlb c0)
  have hklt : (k : Int) < (ll : Int) := by omega
  have hk0 : (0 : Int) ≤ (k : Int) := by omega
  have hkne : ¬ (k : Int) = (ll : Int) := by omega
  have hkne2 : ((k : Int) == (ll : Int)) = false := by simpa using hkne
  have hk1000 : k ≤ 1000 := by omega
  have hq5 : q ≤ 5 := by omega
  have hqi : (q : Int) = (r : Int) + 1 := by omega
  clear hq
  clear hx IH hxl hr hcell hlc hr44 hrs hll hlm hlb
  go_enter Try.func109, Try.ntmps109
  go_wp2_with fail
  go_loopw [5, 6] (fun v5 v6 wr => ∃ (j : Nat) (vs : List Value), j ≤ q ∧ v6 = .int .i64 j ∧ wr.ownsRow w.heap.size 27 1 v5 vs.length vs ∧ CRow wr 0 vs (setsTo rs x j) ∧ Below w.heap.size w wr) (fun _ i _ => q - (intOf i).toNat)
  case atStart => exact ⟨0, [], by omega, rfl, ⟨rfl, .inl ⟨rfl, rfl⟩⟩, CRow.nil _ _, Below.refl _ _⟩
  case round =>
    obtain ⟨j, vs, hj, rfl, hO, hJR, hB⟩ := hrel
    have c0' := (hB.cell (p := ⟨lb, lo + k, none⟩) HCL.out.1).trans HCL.out.2
    have HB := Lib.hid hB
    have h1W : w.heap.size ≤ wr.heap.size := hB.size
    have HO := Lib.hid hO
    have HJR := Lib.hid hJR
    by_cases hlt : j < q
    · have hle : (j : Int) ≤ (r : Int) := by omega
      have hvl : vs.length ≤ 125 := by rw [hJR.1]; exact HBT.out j (by omega)
      obtain ⟨R, hR⟩ : ∃ R, u5.ownBlock = R := ⟨_, rfl⟩
      have hRb := own_row hO
      rw [hR] at hRb
      have HRB := Lib.hid hRb
      have HXS := Lib.hid (fun W (h : Below wr.heap.size wr W) (h0 : 0 < k) => show ∃ pb po, xa = some ⟨pb, po, none⟩ ∧ ∀ i u, (x.map (Value.int .i64))[i]? = some u → W.cell? ⟨pb, po + i, none⟩ = some u from by
        obtain ⟨g, e1, -, -, hc, -⟩ := (HX.out W (HB.out.trans (h.mono h1W))).cell h0
        exact ⟨g, 0, e1, fun i u hi => by rw [Nat.zero_add]; exact hc i u hi⟩)
      have HRR := Lib.hid hR
      clear hB hO hJR hRb hR c0
      go_wp2_with (first
        | (at_builtin; refine wpList_append_copyC _ k xc xa x HXL.out hk1000 rfl _ _ rfl ?_ ?_ ?_ ?_; (· exact ⟨_, rfl⟩); (· rfl); (· intro h0; exact HXS.out _ (by repeat (first | exact Below.refl _ _ | (refine Below.alloc ?_ (by first | omega | (simp; omega) | simp) _) | (refine Below.setCell ?_ (by first | omega | (simp; omega) | simp) _) | refine Below.drew ?_)) h0); intro ga cA wA hfA hcA hbA; have kAb : Below wr.heap.size wr wA := below_via (Lib.hid hbA) (by first | exact Nat.le_refl _ | (simp; done) | (simp; omega)) (by repeat (first | exact Below.refl _ _ | (refine Below.alloc ?_ (by first | omega | (simp; omega) | simp) _) | (refine Below.setCell ?_ (by first | omega | (simp; omega) | simp) _) | refine Below.drew ?_)); have HKA := Lib.hid kAb; have HFA := Lib.hid (hfA.low (n1 := wr.heap.size) (by first | exact Nat.le_refl _ | (simp; done) | (simp; omega))); have HCA := Lib.hid hcA; have hzA := kAb.size; clear hfA hcA hbA kAb)
        | (at_builtin; refine wpList_append_num _ wr.heap.size k cA ga x (j : Int) HCA.out ?_ hk1000 rfl _ _ rfl ?_ ?_ ?_ ?_; (· exact HFA.out.kept (grown_none (by repeat (first | exact Below.refl _ _ | (refine Below.alloc ?_ (by first | omega | (simp; omega) | simp) _) | (refine Below.setCell ?_ (by first | omega | (simp; omega) | simp) _) | refine Below.drew ?_))) (fun r e => by cases e)); (· rfl); (· refine ⟨_, rfl, ?_⟩; (go_simp; done)); (· first | omega | (simp; omega)); intro na nc wB row hownB hgB hrB hbB; have kBb : Below wr.heap.size wr wB := Below.trans (by repeat (first | with_reducible exact HKA.out | exact Below.refl _ _ | (refine Below.alloc ?_ (by first | omega | (simp; omega) | simp) _) | refine Below.drew ?_)) hbB; have HKB := Lib.hid kBb; have HOB := Lib.hid hownB; have hzB := kBb.size; clear hownB hgB hrB hbB kBb)
        | (go_at_call 109; refine (HIH.out j hlt _ ?_ na nc (own_cap HOB.out) ((own_frow HOB.out).low (Nat.zero_le _))).mono ?_; (· exact HB.out.trans (HKB.out.mono HB.out.size)); rintro e wC ⟨hbC, v2, vs2, rfl, hoC, hjC⟩; obtain ⟨va2, vc2, rfl⟩ := own_slice1 hoC; have kCb : Below wr.heap.size wr wC := HKB.out.trans (hbC.mono hzB); have HKC := Lib.hid kCb; have HOC := Lib.hid hoC; have HJC := Lib.hid hjC; have hzC := kCb.size; clear hbC hoC hjC kCb)
        | (at_builtin; refine wpList_append_src _ 24 27 (.slice none 0 0) 1 24 Try.underlying24 Try.info27 rfl (by decide) (by decide) w.heap.size vs.length vs2.length vc2 u5 vs vs2 va2 (by simp) HJC.out.vrow.cells (by have := HBN.out j; have := HJC.out.1; omega) rfl _ _ rfl rfl rfl (HO.out.kept (grown_none HKC.out) (Classical.em _)) (own_src HOC.out) (Nat.le_trans h1W HKC.out.size) ?_; intro v' wD hown hgr hat; rw [HRR.out] at hgr; have HOD := Lib.hid hown; have HGD := Lib.hid hgr; clear hown hgr hat)
        | fail "no arm")
      go_roundw
      case rel =>
        have hne : ∀ r, R = some r → (∃ (c : Array Value) (e' : TypeId), wC.heap[r]? = some (.cells c e' (0, 0)) ∧ e' ≠ 3) ∨ r < 0 ∨ wC.heap.size ≤ r := fun r e => .inl (by obtain ⟨-, hr, c, hc⟩ := HRB.out r e; exact ⟨c, _, (HKC.out.block r hr).trans hc, by decide⟩)
        refine ⟨j + 1, vs ++ vs2, by omega, by go_num, by rw [List.length_append]; exact HOD.out, ?_, HB.out.trans ((HKC.out.mono h1W).trans (grown_low HGD.out (Nat.le_trans h1W HKC.out.size) (fun r e => (HRB.out r e).1)))⟩
        rw [setsTo_next]
        exact ((HJR.out.below HKC.out).kept HGD.out hne).append (HJC.out.kept HGD.out hne)
      case measure => simp [intOf]; omega
    · obtain rfl : q = j := by omega
      have hle : ¬ (q : Int) ≤ (r : Int) := by omega
      clear hO hJR hB
      go_wp2_with fail
      go_ret
      exact ⟨HB.out, u5, vs, rfl, HO.out, HJR.out⟩

/-- The lists of numbers at most those of left, the least first. -/
theorem refSets_any (la : Option Addr) (ll lc : Nat) (left : List Int) (hb : ∀ y ∈ left, 0 ≤ y ∧ y ≤ 4) (h3 : left.length ≤ 3) : ∀ (d : Nat) (xa : Option Addr) (k xc : Nat) (x : List Int) (_ : x.length = k) (_ : k + d = ll) (_ : k ≤ xc ∧ xc ≤ maxLen) (w : World) (_ : IntsAt w la ll left) (_ : FRow w 0 3 1 xa k xc (x.map (Value.int .i64))),
    Calls Try.prog 109 #[.slice la ll lc, .slice xa k xc] w fun e w' => SetsPost (setsF (left.drop k) x) w e w'
  | 0, xa, k, xc, x, hxl, hkd, hc, w, hl, hx => by
    have hll := hl.1
    obtain rfl : k = ll := by omega
    rw [List.drop_eq_nil_of_le (by omega)]
    exact refSets_end la k lc xa xc x hxl (by omega) hc w hx
  | d + 1, xa, k, xc, x, hxl, hkd, hc, w, hl, hx => by
    have hll := hl.1
    have hkl : k < left.length := by omega
    have hbk := hb _ (List.getElem_mem hkl)
    obtain ⟨r, hr⟩ : ∃ r : Nat, left[k] = (r : Int) := ⟨left[k].toNat, by omega⟩
    have e1 : setsF (left.drop k) x = setsTo (left.drop (k + 1)) x (r + 1) := by
      rw [List.drop_eq_getElem_cons hkl, hr]
      unfold setsF setsTo
      have : ((r : Int) + 1).toNat = r + 1 := by omega
      rw [this]
    rw [e1]
    exact refSets_step la ll lc left xa k xc x r (r + 1) (left.drop (k + 1)) hkl hr (by omega) rfl hxl (by omega) (by rw [List.length_drop]; omega) (fun y hy => (hb y (List.mem_of_mem_drop hy)).2) w hl hx
      (fun n _ W hbW ga c hc2 hF => refSets_any la ll lc left hb h3 d ga (k + 1) c (x ++ [(n : Int)]) (by simp [hxl]) (by omega) hc2 W (hl.below hbW) hF)
end Go.Proofs.Ytcklhojeneejiaa

/- Layouts as lists of lists of lists: how they lie; what the reference's layouts are. -/
namespace Go.Proofs.Ytcklhojeneejiaa
set_option linter.unusedVariables false
set_option linter.unusedSimpArgs false
open Go.RowKit Go.Shelf

/-- As run_append_src, up to four million elements. -/
theorem run_append_big {P : Program} (w : World) (t ty e : TypeId) (z : Value) (size bytes : Nat) (ht : P.underlying t = some (.slice e)) (hinfo : (P.info? e).map (fun i => (i.zero, i.size, i.bytes)) = some (some z, size, bytes)) (hz : z.cells.size = size) (hs0 : 0 < size)
    (hby : bytes ≤ 1000) (n0 n xcap p : Nat) (v : Value) (xs cs : List Value) (hrow : w.ownsRow n0 e size v n xs) (hcs : cs.length = 1 * size) (h1c : ∀ u ∈ cs, u.oneCell' = true)
    (hat : ∀ j u, cs[j]? = some u → w.cell? ⟨p, j, none⟩ = some u) (hl : n + 1 ≤ 4000000) (hnw : n0 ≤ w.heap.size) :
    ∃ v' w', (Builtin.append_ #[t, t] ty #[v, .slice (some ⟨p, 0, none⟩) 1 xcap]).run P w = .ok v' w' ∧ w'.ownsRow n0 e size v' (n + 1) (xs ++ cs) ∧ w.grownBy w' v.ownBlock ∧ (v'.ownBlock = v.ownBlock ∨ v'.ownBlock = some w.heap.size) := by
  obtain ⟨i0, hi, hy0, hy1, hy2⟩ := info_parts hinfo
  obtain ⟨v', w3, hr, hown, hgrow, _, hat'⟩ := run_append_own_at (P := P) w n0 t ty e i0 z size bytes ht hi hy0 hy1 hy2 hz hs0 v n xs hrow ⟨p, 0, none⟩ 1 xcap cs hcs (by
    intro j u hj
    rw [Addr.add_lit, Nat.zero_add]
    exact hat j u hj) h1c (by unfold maxLen; omega) (by
      have : (n + 1) * bytes ≤ 4000000 * 1000 := Nat.mul_le_mul hl hby
      omega) hnw
  exact ⟨v', w3, hr, hown, hgrow, hat'⟩
/-- append of one element that was built for it, as a step of a drawn region. -/
theorem step_append_big {P : Program} {ops : Array Oper} {o : Oper} {a : Act} {K : Act → World → Prop} {Q : Exit → Act → World → Prop} {E : Prop} (w : World) (t e : TypeId) (z : Value) (bytes : Nat) (ht : P.underlying t = some (.slice e)) (hinfo : (P.info? e).map (fun i => (i.zero, i.size, i.bytes)) = some (some z, 1, bytes)) (hz : z.cells.size = 1)
    (hby : bytes ≤ 1000) (n0 n : Nat) (v u : Value) (xs : List Value) (h1c : u.oneCell' = true) (hl : n + 1 ≤ 4000000) (hgd : o.guard = none) (s x : Operand)
    (ho : o.op = .call { callee := .builtin .append, args := #[s, x], argTypes := #[t, t] }) (hs : a.eval s = v) (hxv : ∃ p, a.eval x = .slice (some ⟨p, 0, none⟩) 1 1 ∧ w.cell? ⟨p, 0, none⟩ = some u)
    (hrow : w.ownsRow n0 e 1 v n xs) (hnw : n0 ≤ w.heap.size)
    (h : ∀ v' w', w'.ownsRow n0 e 1 v' (n + 1) (xs ++ [u]) → w.grownBy w' v.ownBlock → (v'.ownBlock = v.ownBlock ∨ v'.ownBlock = some w.heap.size) → K (a.put o.dst v') w') : if Region.wanted o (yielded ops a.tmps) = true then Oper.wp P o a w K Q else E := by
  obtain ⟨p, hx1, hx2⟩ := hxv
  obtain ⟨v', w', hr, h1, h2, h3⟩ := run_append_big w t o.type e z 1 bytes ht hinfo hz (by decide) hby n0 n 1 p v xs [u] hrow rfl (by intro y hy; simp at hy; subst hy; exact h1c) (src1 hx2) hl hnw
  exact step_append_run w w' _ _ _ t hgd s x ho hs hx1 hr (h v' w' h1 h2 h3)

/-- Layouts that lie: each a row of slices of numbers. -/
def LayRow (w : World) (vs : List Value) (xs : List (List (List Int))) : Prop :=
  vs.length = xs.length ∧ ∀ i (h : i < xs.length), ∃ (ga : Option Addr) (c : Nat) (us : List Value), vs[i]? = some (.slice ga xs[i].length c) ∧ (xs[i].length ≤ c ∧ c ≤ maxLen) ∧ FRow w 0 27 1 ga xs[i].length c us ∧ CRow w 0 us xs[i]
theorem LayRow.kept {w w' : World} {vs : List Value} {xs : List (List (List Int))} {row : Option Nat} (h : LayRow w vs xs) (hg : w.grownBy w' row)
    (hne : ∀ r, row = some r → (∃ (c : Array Value) (e' : TypeId), w.heap[r]? = some (.cells c e' (0, 0)) ∧ e' ≠ 3 ∧ e' ≠ 27) ∨ w.heap.size ≤ r) : LayRow w' vs xs :=
  ⟨h.1, fun i hi => by
    obtain ⟨ga, c, us, h1, h3, h2, h4⟩ := h.2 i hi
    exact ⟨ga, c, us, h1, h3, h2.kept hg (fun r e => (hne r e).elim (fun ⟨c, e', a, _, b⟩ => .inl ⟨c, e', a, b⟩) (fun b => .inr (.inr b))), h4.kept hg (fun r e => (hne r e).elim (fun ⟨c, e', a, b, _⟩ => .inl ⟨c, e', a, b⟩) (fun b => .inr (.inr b)))⟩⟩
theorem LayRow.below {w w' : World} {vs : List Value} {xs : List (List (List Int))} (h : LayRow w vs xs) (hb : Below w.heap.size w w') : LayRow w' vs xs := h.kept (grown_none hb) (fun r e => by cases e)
theorem LayRow.nil (w : World) : LayRow w [] [] := ⟨rfl, fun i hi => by simp at hi⟩
theorem LayRow.cells {w : World} {vs : List Value} {xs : List (List (List Int))} (h : LayRow w vs xs) : ∀ u ∈ vs, u.oneCell' = true := by
  intro u hu
  obtain ⟨i, hi, rfl⟩ := List.mem_iff_getElem.1 hu
  obtain ⟨ga, c, us, h1, -⟩ := h.2 i (by rw [← h.1]; exact hi)
  rw [List.getElem?_eq_getElem hi] at h1
  injection h1 with h1
  rw [h1]; rfl
theorem LayRow.snoc {w : World} {vs : List Value} {xs : List (List (List Int))} (h : LayRow w vs xs) {ga : Option Addr} {n c : Nat} {us : List Value} (x : List (List Int)) (hn : x.length = n) (hc : n ≤ c ∧ c ≤ maxLen) (hF : FRow w 0 27 1 ga n c us) (hC : CRow w 0 us x) : LayRow w (vs ++ [.slice ga n c]) (xs ++ [x]) := by
  subst hn
  refine ⟨by simp [h.1], fun i hi => ?_⟩
  rcases Nat.lt_or_ge i xs.length with hl | hl
  · obtain ⟨ga', c', us', h1, h3⟩ := h.2 i hl
    exact ⟨ga', c', us', by rw [List.getElem?_append_left (by rw [h.1]; exact hl), List.getElem_append_left hl]; exact h1, by rw [List.getElem_append_left hl]; exact h3⟩
  · have hi2 : i = xs.length := by simp at hi; omega
    subst hi2
    refine ⟨ga, c, us, ?_, ?_⟩
    · rw [List.getElem?_append_right (by rw [h.1]; exact Nat.le_refl _), h.1, List.getElem_append_right (Nat.le_refl _)]; simp
    · rw [List.getElem_append_right (Nat.le_refl _)]; simp only [Nat.sub_self, List.getElem_cons_zero]; exact ⟨hc, hF, hC⟩

/-- What is left of each kind behind a set. -/
def subI (left s : List Int) : List Int := List.zipWith (· - ·) left s
/-- The layouts that lock the columns from one on, as the reference finds them. -/
def PFrame.layR (f : PFrame) : Nat → Nat → List Int → List (List (List Int))
  | 0, _, _ => [[]]
  | d + 1, c, left => (setsF left []).flatMap fun s => if f.sureB (f.cols[c]?.getD []) (f.ptsL s) then (f.layR d (c + 1) (subI left s)).map (fun t => s :: t) else []
/-- Those of the first i sets. -/
def PFrame.layI (f : PFrame) (d c : Nat) (left : List Int) (i : Nat) : List (List (List Int)) :=
  ((setsF left []).take i).flatMap fun s => if f.sureB (f.cols[c]?.getD []) (f.ptsL s) then (f.layR d (c + 1) (subI left s)).map (fun t => s :: t) else []
theorem layI_next {f : PFrame} {d c : Nat} {left : List Int} {i : Nat} (h : i < (setsF left []).length) : f.layI d c left (i + 1) = f.layI d c left i ++ (if f.sureB (f.cols[c]?.getD []) (f.ptsL (setsF left [])[i]) then (f.layR d (c + 1) (subI left (setsF left [])[i])).map (fun t => (setsF left [])[i] :: t) else []) := by
  unfold PFrame.layI
  rw [List.take_succ_eq_append_getElem h, List.flatMap_append]
  simp only [List.flatMap_cons, List.flatMap_nil, List.append_nil]
theorem layI_all {f : PFrame} {d c : Nat} {left : List Int} : f.layI d c left (setsF left []).length = f.layR (d + 1) c left := by
  unfold PFrame.layI
  rw [List.take_of_length_le (Nat.le_refl _)]
  rfl
/-- A set that is found takes no more than is left. -/
theorem setsF_in : ∀ (rs x s : List Int), (∀ r ∈ rs, 0 ≤ r) → s ∈ setsF rs x → ∃ y, s = x ++ y ∧ y.length = rs.length ∧ ∀ i (h : i < y.length) (h' : i < rs.length), 0 ≤ y[i] ∧ y[i] ≤ rs[i]
  | [], x, s, _, h => by
    simp [setsF] at h
    exact ⟨[], by simp [h], rfl, fun i hi => by simp at hi⟩
  | r :: rs, x, s, hr, h => by
    have h0 := hr r (by simp)
    unfold setsF at h
    obtain ⟨n, hn, hs⟩ := List.mem_flatMap.1 h
    have hn' := List.mem_range.1 hn
    obtain ⟨y, rfl, hl, hy⟩ := setsF_in rs _ s (fun q hq => hr q (by simp [hq])) hs
    refine ⟨(n : Int) :: y, by simp, by simp [hl], fun i h1 h2 => ?_⟩
    match i, h1, h2 with
    | 0, _, _ => simp; omega
    | i + 1, h1, h2 => simpa using hy i (by simpa using h1) (by simpa using h2)
theorem setsF_get {rs : List Int} (h0 : ∀ r ∈ rs, 0 ≤ r) {i : Nat} (hi : i < (setsF rs []).length) : (setsF rs [])[i].length = rs.length ∧ ∀ k (h : k < (setsF rs [])[i].length) (h' : k < rs.length), 0 ≤ (setsF rs [])[i][k] ∧ (setsF rs [])[i][k] ≤ rs[k] := by
  obtain ⟨y, e, h1, h2⟩ := setsF_in rs [] _ h0 (List.getElem_mem hi)
  rw [List.nil_append] at e
  rw [e]
  exact ⟨h1, h2⟩
theorem subI_bd {left s : List Int} (hl : s.length = left.length) (h4 : ∀ y ∈ left, 0 ≤ y ∧ y ≤ 4) (h : ∀ k (h : k < s.length) (h' : k < left.length), 0 ≤ s[k] ∧ s[k] ≤ left[k]) : (subI left s).length = left.length ∧ ∀ y ∈ subI left s, 0 ≤ y ∧ y ≤ 4 := by
  refine ⟨by unfold subI; simp [hl], fun y hy => ?_⟩
  obtain ⟨k, hk, rfl⟩ := List.mem_iff_getElem.1 hy
  have hk1 : k < left.length := by unfold subI at hk; simp at hk; omega
  have := h k (by omega) hk1
  have := h4 _ (List.getElem_mem hk1)
  have e : (subI left s)[k] = left[k] - s[k]'(by omega) := List.getElem_zipWith
  rw [e]
  omega
theorem flatMap_sum {α β : Type} {g : α → List β} {B : Nat} : ∀ {xs : List α}, (∀ x ∈ xs, (g x).length ≤ B) → (xs.flatMap g).length ≤ xs.length * B
  | [], _ => by simp
  | x :: xs, h => by
    have h1 := h x (by simp)
    have h2 := flatMap_sum (g := g) (xs := xs) (fun y hy => h y (by simp [hy]))
    rw [List.flatMap_cons, List.length_append, List.length_cons, Nat.succ_mul]
    omega
theorem layR_bd (f : PFrame) : ∀ (d c : Nat) (left : List Int), left.length ≤ 3 → (∀ y ∈ left, 0 ≤ y ∧ y ≤ 4) → (f.layR d c left).length ≤ 125 ^ d
  | 0, c, left, _, _ => by simp [PFrame.layR]
  | d + 1, c, left, h3, h4 => by
    have hs := setsF_bd left (fun r hr => (h4 r hr).2) []
    have hs' : (setsF left []).length ≤ 125 := Nat.le_trans hs (Nat.le_trans (Nat.pow_le_pow_right (by decide) h3) (by decide))
    unfold PFrame.layR
    refine Nat.le_trans (flatMap_sum (B := 125 ^ d) fun s hsm => ?_) ?_
    · obtain ⟨i, hi, rfl⟩ := List.mem_iff_getElem.1 hsm
      obtain ⟨g1, g2⟩ := setsF_get (fun r hr => (h4 r hr).1) hi
      obtain ⟨g3, g4⟩ := subI_bd g1 h4 g2
      split
      · rw [List.length_map]; exact layR_bd f d (c + 1) _ (by omega) g4
      · simp
    · rw [Nat.pow_succ, Nat.mul_comm]; exact Nat.mul_le_mul (Nat.le_refl _) hs'
end Go.Proofs.Ytcklhojeneejiaa

/- The reference's layouts. -/
namespace Go.Proofs.Ytcklhojeneejiaa
set_option linter.unusedVariables false
set_option linter.unusedSimpArgs false
open Go.RowKit Go.Shelf

theorem Try.info24 : (Try.prog.info? 24).map (fun i => (i.zero, i.size, i.bytes)) = some (some (.slice none 0 0), 1, 24) := by kernel_rfl
def LaysPost (xs : List (List (List Int))) (w : World) (e : Ending) (w' : World) : Prop :=
  Below w.heap.size w w' ∧ ∃ (v : Value) (vs : List Value), e = .returned v ∧ w'.ownsRow w.heap.size 24 1 v vs.length vs ∧ LayRow w' vs xs

set_option maxRecDepth 100000 in
set_option maxHeartbeats 8000000 in
theorem refLayouts_end (f : PFrame) (sa : Option Addr) (sl sc : Nat) (pa : Option Addr) (pl pc : Nat) (ca : Option Addr) (cl cc : Nat) (la : Option Addr) (ll lc : Nat) (w : World) (hp : PAt w sa sl sc pa pl pc ca cl cc f) :
    Calls Try.prog 91 #[.agg #[.int .i64 f.len, .int .i64 f.slack, .slice sa sl sc, .slice pa pl pc, .slice ca cl cc], .int .i64 cl, .slice la ll lc] w fun e w' => LaysPost [[]] w e w' := by
  clear hp
  go_enter Try.func91, Try.ntmps91
  go_upto_region 2 with fail
  obtain ⟨W0, hW0, hB0, -, hz0⟩ := name1k w #[.int .i64 f.len, .int .i64 f.slack, .slice sa sl sc, .slice pa pl pc, .slice ca cl cc] 26
  try rw [hW0]
  clear hW0
  have HB0 := Lib.hid hB0
  clear hB0
  go_wp2_with fail
  go_ret
  refine ⟨HB0.out.alloc HB0.out.size _, _, [.slice none 0 0], rfl, own_base2 (own_lit W0 W0.heap.size 24 (.slice none 0 0) (Nat.le_refl _)) HB0.out.size, rfl, fun i hi => ?_⟩
  obtain rfl : i = 0 := by simpa using hi
  exact ⟨none, 0, [], rfl, ⟨Nat.le_refl _, by unfold maxLen; omega⟩, ⟨rfl, fun h => absurd h (Nat.lt_irrefl 0)⟩, rfl, fun i hi => absurd hi (Nat.not_lt_zero _)⟩

/-- The number of strips left, k kinds being done. -/
def mixI (left s : List Int) (k : Nat) : List Int := (subI left s).take k ++ left.drop k
theorem mixI_zero (left s : List Int) : mixI left s 0 = left := by unfold mixI; simp
theorem mixI_all {left s : List Int} (h : s.length = left.length) : mixI left s left.length = subI left s := by
  unfold mixI
  rw [List.take_of_length_le (by unfold subI; simp [h]), List.drop_eq_nil_of_le (Nat.le_refl _), List.append_nil]
theorem mixI_next {left s : List Int} (h : s.length = left.length) {k : Nat} (hk : k < left.length) : (mixI left s k).set k (left[k] - s[k]'(by omega)) = mixI left s (k + 1) := by
  have hl : (subI left s).length = left.length := by unfold subI; simp [h]
  unfold mixI
  rw [List.drop_eq_getElem_cons hk, List.take_succ_eq_append_getElem (by omega)]
  have e : (subI left s)[k]'(by omega) = left[k] - s[k]'(by omega) := List.getElem_zipWith
  rw [e, List.set_append_right _ _ (by simp; omega)]
  have : k - ((subI left s).take k).length = 0 := by simp; omega
  rw [this, List.set_cons_zero, List.append_assoc]
  rfl
theorem mixI_get {left s : List Int} (h : s.length = left.length) {k : Nat} (hk : k < left.length) : (mixI left s k)[k]? = some left[k] := by
  have hl : (subI left s).length = left.length := by unfold subI; simp [h]
  unfold mixI
  rw [List.getElem?_append_right (by simp; omega)]
  have : k - ((subI left s).take k).length = 0 := by simp; omega
  rw [this]
  simp [hk]
theorem mixI_len {left s : List Int} (h : s.length = left.length) {k : Nat} (hk : k ≤ left.length) : (mixI left s k).length = left.length := by
  unfold mixI subI; simp [h]; omega

theorem CRow.cons {w : World} {n0 : Nat} {us : List Value} {xs : List (List Int)} (h : CRow w n0 us xs) {ga : Option Addr} {n c : Nat} (X : List Int) (hn : X.length = n) (hc : n ≤ c ∧ c ≤ maxLen) (hF : FRow w n0 3 1 ga n c (X.map (Value.int .i64))) : CRow w n0 (.slice ga n c :: us) (X :: xs) := by
  subst hn
  refine ⟨by simp [h.1], fun i hi => ?_⟩
  match i, hi with
  | 0, _ => exact ⟨ga, c, rfl, hc, hF⟩
  | i + 1, hi =>
    obtain ⟨ga', c', h1, h2, h3⟩ := h.2 i (by simpa using hi)
    exact ⟨ga', c', by simpa using h1, by simpa using h2, by simpa using h3⟩
theorem layR_len (f : PFrame) : ∀ (d c : Nat) (left : List Int) (t : List (List Int)), t ∈ f.layR d c left → t.length = d
  | 0, c, left, t, h => by simp [PFrame.layR] at h; simp [h]
  | d + 1, c, left, t, h => by
    unfold PFrame.layR at h
    obtain ⟨s, _, hs⟩ := List.mem_flatMap.1 h
    split at hs
    · obtain ⟨t', ht', rfl⟩ := List.mem_map.1 hs
      rw [List.length_cons, layR_len f d _ _ t' ht']
    · simp at hs
theorem layI_bd (f : PFrame) (d c : Nat) (left : List Int) (h3 : left.length ≤ 3) (h4 : ∀ y ∈ left, 0 ≤ y ∧ y ≤ 4) (hd : d ≤ 2) (i : Nat) : (f.layI d c left i).length ≤ 1953125 := by
  have hs' : (setsF left []).length ≤ 125 := Nat.le_trans (setsF_bd left (fun r hr => (h4 r hr).2) []) (Nat.le_trans (Nat.pow_le_pow_right (by decide) h3) (by decide))
  unfold PFrame.layI
  refine Nat.le_trans (flatMap_sum (B := 15625) fun s hsm => ?_) ?_
  · obtain ⟨i, hi, rfl⟩ := List.mem_iff_getElem.1 (List.mem_of_mem_take hsm)
    obtain ⟨g1, g2⟩ := setsF_get (fun r hr => (h4 r hr).1) hi
    obtain ⟨g3, g4⟩ := subI_bd g1 h4 g2
    split
    · rw [List.length_map]; exact Nat.le_trans (layR_bd f d (c + 1) _ (by omega) g4) (Nat.le_trans (Nat.pow_le_pow_right (by decide) hd) (by decide))
    · simp
  · rw [List.length_take]; omega
/-- append of a row to a row of one that was built for it. -/
theorem step_append_lit {ops : Array Oper} {o : Oper} {a : Act} {K : Act → World → Prop} {Q : Exit → Act → World → Prop} {E : Prop} (w : World) (n0 xlen xcap : Nat) (u : Value) (cs : List Value) (xa : Option Addr) (hcs : cs.length = xlen) (h1c : ∀ u ∈ cs, u.oneCell' = true) (hl : 1 + xlen ≤ 1000000) (hgd : o.guard = none) (s x : Operand)
    (ho : o.op = .call { callee := .builtin .append, args := #[s, x], argTypes := #[24, 24] }) (hs : ∃ p, a.eval s = .slice (some ⟨p, 0, none⟩) 1 1 ∧ w.ownsRow n0 27 1 (.slice (some ⟨p, 0, none⟩) 1 1) 1 [u]) (hxv : a.eval x = .slice xa xlen xcap)
    (hsrc : 0 < xlen → ∃ pb po, xa = some ⟨pb, po, none⟩ ∧ ∀ j u, cs[j]? = some u → w.cell? ⟨pb, po + j, none⟩ = some u) (hnw : n0 ≤ w.heap.size)
    (h : ∀ ga gc w', w'.ownsRow n0 27 1 (.slice ga (1 + xlen) gc) (1 + xlen) (u :: cs) → Below n0 w w' → K (a.put o.dst (.slice ga (1 + xlen) gc)) w') : if Region.wanted o (yielded ops a.tmps) = true then Oper.wp Try.prog o a w K Q else E := by
  obtain ⟨p, hs1, hs2⟩ := hs
  exact step_append_srcB (P := Try.prog) w 24 27 (.slice none 0 0) 1 24 Try.underlying24 Try.info27 rfl (by decide) (by decide) n0 1 xlen xcap _ [u] cs xa (by rw [hcs, Nat.mul_one]) h1c hl hgd s x ho hs1 hxv hs2 hsrc hnw h
theorem gb_up2 {W X Y : World} {R : Option Nat} (hb : Below W.heap.size W X) (h : X.grownBy Y R) : W.grownBy Y R :=
  ⟨h.os.trans hb.os, h.tape.trans hb.tape, h.output.trans hb.output, Nat.le_trans hb.size h.size, fun k hk hne => (h.block k (Nat.lt_of_lt_of_le hk hb.size) hne).trans (hb.block k hk)⟩

set_option maxRecDepth 100000 in
set_option maxHeartbeats 16000000 in
theorem refLayouts_step (f : PFrame) (sa : Option Addr) (sl sc : Nat) (pa : Option Addr) (pl pc : Nat) (ca : Option Addr) (cl cc : Nat) (d c : Nat) (hcd : c + (d + 1) = f.cols.length) (la : Option Addr) (ll lc : Nat) (left : List Int) (hls : left.length = f.strips.length) (h4 : ∀ y ∈ left, 0 ≤ y ∧ y ≤ 4) (ho : f.okW) (w : World) (hp : PAt w sa sl sc pa pl pc ca cl cc f) (hl : IntsAt w la ll left)
    (IH : ∀ (rest : List Int) (_ : rest.length = left.length) (_ : ∀ y ∈ rest, 0 ≤ y ∧ y ≤ 4) W (_ : Below w.heap.size w W) ra rc (_ : IntsAt W ra ll rest), Calls Try.prog 91 #[.agg #[.int .i64 f.len, .int .i64 f.slack, .slice sa sl sc, .slice pa pl pc, .slice ca cl cc], .int .i64 ((c : Int) + 1), .slice ra ll rc] W fun e w' => LaysPost (f.layR d (c + 1) rest) W e w') :
    Calls Try.prog 91 #[.agg #[.int .i64 f.len, .int .i64 f.slack, .slice sa sl sc, .slice pa pl pc, .slice ca cl cc], .int .i64 c, .slice la ll lc] w fun e w' => LaysPost (f.layR (d + 1) c left) w e w' := by
  have hcl := hp.2.2.1
  have hcm := hp.2.2.2.1
  have hst3 := (PFrame.okW.parts ho).2.2.2.2.1
  have hl3 : left.length ≤ 3 := by omega
  have hll := hl.1
  have HLB := Lib.hid (fun i => layI_bd f d c left hl3 h4 (by have := (PFrame.okW.parts ho).2.2.2.2.2.2; omega) i)
  have hd2 : d ≤ 2 := by have := (PFrame.okW.parts ho).2.2.2.2.2.2; omega
  have HSE := Lib.hid (fun W (hb : Below w.heap.size w W) => show Calls Try.prog 109 #[.slice la ll lc, .slice none 0 0] W fun e w' => SetsPost (setsF left []) W e w' from
    (refSets_any la ll lc left h4 hl3 ll none 0 0 [] rfl (by omega) ⟨Nat.le_refl _, by unfold maxLen; omega⟩ W (hl.below hb) ⟨rfl, fun h => absurd h (by decide)⟩))
  have hg := fun i (hi : i < (setsF left []).length) => setsF_get (rs := left) (fun r hr => (h4 r hr).1) hi
  have hb4 : ∀ i (hi : i < (setsF left []).length) k (hk : k < (setsF left [])[i].length), 0 ≤ (setsF left [])[i][k] ∧ (setsF left [])[i][k] ≤ 4 := fun i hi k hk => by
    have h1 := (hg i hi).1
    have h2 := (hg i hi).2 k hk (by omega)
    have h3 := h4 _ (List.getElem_mem (show k < left.length by omega))
    omega
  have HPT := Lib.hid (fun i (hi : i < (setsF left []).length) xa xc W (hb : Below w.heap.size w W) (hx : IntsAt W xa (setsF left [])[i].length (setsF left [])[i]) => refPoints_anyW f sa sl sc pa pl pc ca cl cc xa (setsF left [])[i].length xc (setsF left [])[i] ho (by rw [(hg i hi).1, hls]; exact Nat.le_refl _) (fun k hk => hb4 i hi k hk) W (hp.below hb) hx)
  have hpb := fun i (hi : i < (setsF left []).length) => PFrame.okW.ptsL_bd (f := f) ho (x := (setsF left [])[i]) (fun k hk => hb4 i hi k hk)
  have HPB := Lib.hid hpb
  have HSU := Lib.hid (fun P (h0 : 0 ≤ P ∧ P ≤ 360) W (hb : Below w.heap.size w W) => sure_anyW f sa sl sc pa pl pc ca cl cc c (by omega) P (by omega) (by omega) ho W (hp.below hb))
  have HG := Lib.hid hg
  have HIH := Lib.hid IH
  have HL := Lib.hid (fun W (hb : Below w.heap.size w W) => hl.below hb)
  have HH4 := Lib.hid h4
  have hbt : (setsF left []).length ≤ 125 := Nat.le_trans (setsF_bd left (fun r hr => (h4 r hr).2) []) (Nat.le_trans (Nat.pow_le_pow_right (by decide) hl3) (by decide))
  have HCG := Lib.hid (show f.cols[c]? = some (f.cols[c]'(by omega)) from List.getElem?_eq_getElem _)
  have hcc : c < f.cols.length := by omega
  have hc3 : c ≤ 3 := by have := (PFrame.okW.parts ho).2.2.2.2.2.2; omega
  have hcne : ¬ (c : Int) = (cl : Int) := by omega
  have hcne2 : ((c : Int) == (cl : Int)) = false := by simpa using hcne
  have HDR := Lib.hid (show setsF (left.drop 0) [] = setsF left [] from by rw [List.drop_zero])
  clear hp hl IH h4 hg hb4 hpb
  go_enter Try.func91, Try.ntmps91
  go_upto_region 4 with fail
  obtain ⟨W0, hW0, hB0, hs0, hz0⟩ := name1k w #[.int .i64 f.len, .int .i64 f.slack, .slice sa sl sc, .slice pa pl pc, .slice ca cl cc] 26
  try rw [hW0]
  clear hW0
  have HS0 := Lib.hid hs0
  go_upto_region 5 with (go_at_call 109; refine (HSE.out _ hB0).mono ?_; rintro e w1 ⟨hb1, v1, vs, rfl, hoS, hcS⟩; obtain ⟨va, vc, rfl⟩ := own_slice1 hoS; have HB1 := Lib.hid hb1; have HOS := Lib.hid hoS; have HCS := Lib.hid hcS; clear hb1 hoS hcS)
  have HB01 := Lib.hid (hB0.trans (HB1.out.mono hB0.size))
  have z1 : w.heap.size < w1.heap.size := Nat.lt_of_lt_of_le hz0 HB1.out.size
  have HX1 := Lib.hid (fun i => (HB1.out.cell (p := ⟨w.heap.size, i, none⟩) hz0).trans (HS0.out i))
  clear hB0 hs0 hz0 HS0
  go_wp2_with fail
  go_loopw [7, 9] (fun v7 v9 wr => ∃ (i : Nat) (us : List Value), i ≤ vs.length ∧ v9 = .int .i64 i ∧ wr.ownsRow w1.heap.size 24 1 v7 us.length us ∧ LayRow wr us (f.layI d c left i) ∧ Below w1.heap.size w1 wr) (fun _ i _ => vs.length - (intOf i).toNat)
  case atStart => exact ⟨0, [], by omega, rfl, ⟨rfl, .inl ⟨rfl, rfl⟩⟩, LayRow.nil _, Below.refl _ _⟩
  case round =>
    obtain ⟨i, us, hi, rfl, hO, hLR, hB⟩ := hrel
    obtain ⟨wo, rfl⟩ : ∃ wo : World, wo = wr := ⟨_, rfl⟩
    obtain ⟨o7, rfl⟩ : ∃ o7 : Value, o7 = u7 := ⟨_, rfl⟩
    have HB := Lib.hid hB
    have HO := Lib.hid hO
    have HLR := Lib.hid hLR
    have h1W := hB.size
    have hxr := fun i => (hB.cell (p := ⟨w.heap.size, i, none⟩) z1).trans (HX1.out i)
    obtain ⟨x0, x1, x2, x3, x4⟩ : wo.cell? ⟨w.heap.size, 0, none⟩ = some (.int .i64 f.len) ∧ wo.cell? ⟨w.heap.size, 1, none⟩ = some (.int .i64 f.slack) ∧ wo.cell? ⟨w.heap.size, 2, none⟩ = some (.slice sa sl sc) ∧ wo.cell? ⟨w.heap.size, 3, none⟩ = some (.slice pa pl pc) ∧ wo.cell? ⟨w.heap.size, 4, none⟩ = some (.slice ca cl cc) := ⟨hxr 0, hxr 1, hxr 2, hxr 3, hxr 4⟩
    have z2 : w.heap.size < wo.heap.size := Nat.lt_of_lt_of_le z1 h1W
    clear hB hO hLR hxr
    by_cases hlt : i < vs.length
    · have hiL : i < (setsF left []).length := by rw [← HCS.out.1]; exact hlt
      obtain ⟨ga, sc', hv, hsc, hF⟩ := HCS.out.2 i hiL
      have hgi := HG.out i hiL
      have hpt := HPT.out i hiL
      have hpb := HPB.out i hiL
      have hnx := layI_next (f := f) (d := d) (c := c) hiL
      rw [HCG.out] at hnx
      obtain ⟨X, hX⟩ : ∃ X, (setsF left [])[i] = X := ⟨_, rfl⟩
      rw [hX] at hv hsc hF hgi hpt hpb hnx
      obtain ⟨hXl, hXb⟩ := hgi
      have hXll : X.length = ll := by omega
      rw [hXll] at hv hsc hF hpt
      obtain ⟨P, hP⟩ : ∃ P, f.ptsL X = P := ⟨_, rfl⟩
      rw [hP] at hpt hpb hnx
      have hsu := HSU.out P hpb
      obtain ⟨b, hb⟩ : ∃ b, f.sureB f.cols[c] P = b := ⟨_, rfl⟩
      rw [hb] at hsu
      have hnx' : f.layI d c left (i + 1) = f.layI d c left i ++ (if b = true then (f.layR d (c + 1) (subI left X)).map (fun t => X :: t) else []) := by rw [hnx, ← hb]; rfl
      obtain ⟨gv, vc', hge, hgn⟩ := ownsRow_pos HOS.out (by omega)
      injection hge with hge _ hvc
      subst hge hvc
      have hcv : w1.cell? ⟨gv, i, none⟩ = some (.slice ga ll sc') := by
        have := HOS.out.cells (g := gv) rfl i _ hv
        rw [Addr.add_lit] at this
        rwa [Nat.zero_add] at this
      obtain ⟨_, curv, hcurv⟩ := own_parts HOS.out
      have hgl : gv < w1.heap.size := (Array.getElem?_eq_some_iff.1 hcurv).1
      have v0 := (HB.out.cell (p := ⟨gv, i, none⟩) hgl).trans hcv
      have hgr : gv < wo.heap.size := Nat.lt_of_lt_of_le hgl h1W
      have HXF := Lib.hid (fun W (hb : Below w1.heap.size w1 W) => hF.kept (grown_none hb) (fun r e => by cases e))
      have HPX := Lib.hid (fun W (h : Below wo.heap.size wo W ∧ ∀ b o, b < wo.heap.size → W.cell? ⟨b, o, none⟩ = wo.cell? ⟨b, o, none⟩) => bothS1 (W0 := wo) (hpt ga sc' W (HB01.out.trans ((HB.out.trans (h.1.mono h1W)).mono HB01.out.size)) ((HXF.out W (HB.out.trans (h.1.mono h1W))).ints (by unfold maxLen; omega))) h)
      have HSX := Lib.hid (fun W (h : Below wo.heap.size wo W ∧ ∀ b o, b < wo.heap.size → W.cell? ⟨b, o, none⟩ = wo.cell? ⟨b, o, none⟩) => bothS1 (W0 := wo) (hsu W (HB01.out.trans ((HB.out.trans (h.1.mono h1W)).mono HB01.out.size))) h)
      have HNX := Lib.hid hnx'
      have HCV := Lib.hid hcv
      have HSC := Lib.hid hsc
      have HXL := Lib.hid hXl
      have HXB := Lib.hid hXb
      have HHX := Lib.hid hX
      have hi0 : (0 : Int) ≤ (i : Int) := by omega
      have hil : (i : Int) < (vs.length : Int) := by omega
      clear hv hF hpt hpb hnx hnx' hX hXb hP hb hsu hcv hcurv hgn hsc
      go_upto_region 8 with fail
      go_cut [37] (fun v37 wx => v37 = .bool (!b) ∧ Below wo.heap.size wo wx)
      case first =>
        go_region_held3 (fun w' => Below wo.heap.size wo w' ∧ ∀ b o, b < wo.heap.size → w'.cell? ⟨b, o, none⟩ = wo.cell? ⟨b, o, none⟩) (first | with_reducible assumption | ((repeat (first | with_reducible refine bothS_drew ?_ | with_reducible refine bothS_alloc _ ?_ | with_reducible refine bothS_set _ _ (by first | omega | (simp; omega) | simp) ?_)); first | with_reducible assumption | with_reducible exact Hid.out (by assumption) | with_reducible exact ⟨Below.refl _ _, fun _ _ _ => rfl⟩)) (first | (go_at_call 54; with_reducible refine (HPX.out _ ?_).mono ?_; (first | with_reducible assumption | ((repeat (first | with_reducible refine bothS_drew ?_ | with_reducible refine bothS_alloc _ ?_ | with_reducible refine bothS_set _ _ (by first | omega | (simp; omega) | simp) ?_)); first | with_reducible assumption | with_reducible exact Hid.out (by assumption) | with_reducible exact ⟨Below.refl _ _, fun _ _ _ => rfl⟩)); rintro e w' ⟨rfl, k, k1, k2, k3⟩; have HK := Lib.hid k; (try simp at k3); (try have k6 := Nat.lt_of_succ_le k3); (try have k7 := Nat.lt_of_succ_lt k6); (try have k8 := Nat.lt_of_succ_lt k3)) | (go_at_call 88; with_reducible refine (HSX.out _ ?_).mono ?_; (first | with_reducible assumption | ((repeat (first | with_reducible refine bothS_drew ?_ | with_reducible refine bothS_alloc _ ?_ | with_reducible refine bothS_set _ _ (by first | omega | (simp; omega) | simp) ?_)); first | with_reducible assumption | with_reducible exact Hid.out (by assumption) | with_reducible exact ⟨Below.refl _ _, fun _ _ _ => rfl⟩)); rintro e w' ⟨rfl, k, k1, k2, k3⟩; have HK := Lib.hid k; (try simp at k3); (try have k6 := Nat.lt_of_succ_le k3); (try have k7 := Nat.lt_of_succ_lt k6); (try have k8 := Nat.lt_of_succ_lt k3)) | fail "no arm")
        all_goals (go_wp2_with fail; go_meet; exact ⟨rfl, And.left (by assumption)⟩)
      case rest =>
      obtain ⟨rfl, hB2⟩ := hcut
      obtain ⟨w2, rfl⟩ : ∃ w2 : World, w2 = wc := ⟨_, rfl⟩
      have HB2 := Lib.hid (HB.out.trans (hB2.mono h1W))
      have HB2r := Lib.hid hB2
      clear hB2
      rcases b with - | -
      · go_wp2_with fail
        go_roundw
        case rel =>
          refine ⟨i + 1, us, by omega, by go_num, HO.out.kept (grown_none HB2r.out) (Classical.em _), ?_, HB2.out⟩
          rw [HNX.out, if_neg (by decide), List.append_nil]
          exact HLR.out.below HB2r.out
        case measure => simp [intOf]; omega
      · have HBW2 := Lib.hid (HB01.out.trans (HB2.out.mono HB01.out.size))
        have HLS := Lib.hid (fun W (hb : Below w2.heap.size w2 W) => ints_src2 (HL.out W (HBW2.out.trans (hb.mono HBW2.out.size))))
        have hlr := hll
        have hl1k : ll ≤ 1000 := by omega
        have hz2 := HB2r.out.size
        go_upto_region 10 with (at_builtin; go_must (refine wpList_append_copyC _ ll lc la left hlr hl1k rfl _ _ rfl ⟨_, rfl⟩ rfl ?_ ?_); go_must (focus (intro h0; exact HLS.out _ (by repeat (first | exact Below.refl _ _ | (refine Below.alloc ?_ (by first | omega | (simp; omega) | simp) _) | (refine Below.setCell ?_ (by first | omega | (simp; omega) | simp) _) | refine Below.drew ?_)) h0)); intro g3 c3 w3 hF3 hC3 hb3; have HB3 := Lib.hid (show Below w2.heap.size w2 w3 from below_via (Lib.hid hb3) (by first | exact Nat.le_refl _ | (simp; done) | (simp; omega)) (by repeat (first | exact Below.refl _ _ | (refine Below.alloc ?_ (by first | omega | (simp; omega) | simp) _) | (refine Below.setCell ?_ (by first | omega | (simp; omega) | simp) _) | refine Below.drew ?_))); have HF3 := Lib.hid (hF3.low (n1 := w2.heap.size) (by first | exact Nat.le_refl _ | (simp; done) | (simp; omega))); have HC3 := Lib.hid hC3; clear hF3 hC3 hb3)
        go_wp2_with fail
        go_loopw [11] (fun v11 wk => ∃ k : Nat, k ≤ ll ∧ v11 = .int .i64 k ∧ FRow wk w2.heap.size 3 1 (some g3) ll c3 ((mixI left X k).map (Value.int .i64)) ∧ Below w2.heap.size w2 wk) (fun i _ => ll - (intOf i).toNat)
        case atStart => exact ⟨0, by omega, rfl, by rw [mixI_zero]; exact HF3.out, HB3.out⟩
        case round =>
          obtain ⟨k, hk, rfl, hFk, hBk⟩ := hrel
          have HFK := Lib.hid hFk
          have HBK := Lib.hid hBk
          by_cases hkl : k < ll
          · obtain ⟨g, e1, hown⟩ := hFk.2 (by omega)
            injection e1 with e1
            subst e1
            have hkL : k < left.length := by omega
            have hkX : k < X.length := by omega
            have r0 : wr.cell? ⟨g, k, none⟩ = some (.int .i64 left[k]) := by
              have := hown.cells (g := g) rfl k (.int .i64 left[k]) (by rw [List.getElem?_map, mixI_get HXL.out hkL]; rfl)
              rw [Addr.add_lit] at this
              rwa [Nat.zero_add] at this
            obtain ⟨hg2, cg, hcg⟩ := own_parts hown
            have hgk : g < wr.heap.size := (Array.getElem?_eq_some_iff.1 hcg).1
            have rf : wr.frozen? ⟨g, k, none⟩ = false := by simp [World.frozen?, hcg]
            have v2 := (HB2r.out.trans (hBk.mono hz2)).cell (p := ⟨gv, i, none⟩) hgr |>.trans v0
            obtain ⟨gx, e2, -, hgx, hcx, -⟩ := (HXF.out wr (HB2.out.trans (hBk.mono HB2.out.size))).cell (by omega)
            have sx : wr.cell? ⟨gx, k, none⟩ = some (.int .i64 X[k]) := hcx k _ (by rw [List.getElem?_map, List.getElem?_eq_getElem hkX]; rfl)
            have hxb := HXB.out k hkX hkL
            have hl4 := HH4.out _ (List.getElem_mem hkL)
            have hw : IntKind.i64.wrap (left[k] - X[k]) = left[k] - X[k] := IntWalk.i64_in _ ⟨by omega, by omega⟩
            have hmn := mixI_next HXL.out hkL
            have HMN := Lib.hid hmn
            have HOW := Lib.hid hown
            have hk0 : (0 : Int) ≤ (k : Int) := by omega
            have hki : (k : Int) < (ll : Int) := by omega
            clear hFk hBk hown hcg hcx hxb hl4 hmn
            generalize left[k] = lk at *
            generalize X[k] = xk at *
            subst e2
            go_upto_region 13 with fail
            go_region_law (fail "no arm")
            all_goals
              go_wp2_with fail
              go_roundw
              case rel =>
                refine ⟨k + 1, by omega, by go_num, ?_, (by repeat (first | exact HBK.out | (refine Below.setCell ?_ (by exact hg2) _) | refine Below.drew ?_))⟩
                have h := own_set (HOW.out.kept (grown_none (by repeat (first | exact Below.refl _ _ | (refine Below.alloc ?_ (by first | omega | (simp; omega) | simp) _) | (refine Below.setCell ?_ (by first | omega | (simp; omega) | simp) _) | refine Below.drew ?_))) (Classical.em _)) k (.int .i64 (lk - xk))
                rw [← List.map_set, HMN.out] at h
                exact own_frow h
              case measure => simp [intOf]; omega
          · obtain rfl : ll = k := by omega
            have e := mixI_all HXL.out
            rw [hll] at e
            rw [e] at hFk
            clear e
            have hsb := subI_bd HXL.out HH4.out HXB.out
            have HSB := Lib.hid hsb
            have HIK := Lib.hid (fun W (hb : Below wr.heap.size wr W) => (hFk.kept (grown_none hb) (fun r e => by cases e)).ints (by unfold maxLen; omega))
            have HWK := Lib.hid (HBW2.out.trans (hBk.mono HBW2.out.size))
            have HOK := Lib.hid (HB2r.out.trans (hBk.mono hz2))
            have hwc : IntKind.i64.wrap ((c : Int) + 1) = (c : Int) + 1 := IntWalk.i64_in _ ⟨by omega, by omega⟩
            have hxk := fun i => (HOK.out.cell (p := ⟨w.heap.size, i, none⟩) z2)
            obtain ⟨t0, t1, t2, t3, t4⟩ : wr.cell? ⟨w.heap.size, 0, none⟩ = some (.int .i64 f.len) ∧ wr.cell? ⟨w.heap.size, 1, none⟩ = some (.int .i64 f.slack) ∧ wr.cell? ⟨w.heap.size, 2, none⟩ = some (.slice sa sl sc) ∧ wr.cell? ⟨w.heap.size, 3, none⟩ = some (.slice pa pl pc) ∧ wr.cell? ⟨w.heap.size, 4, none⟩ = some (.slice ca cl cc) := ⟨(hxk 0).trans x0, (hxk 1).trans x1, (hxk 2).trans x2, (hxk 3).trans x3, (hxk 4).trans x4⟩
            have hzk := HOK.out.size
            clear hFk hBk hsb hxk HFK HBK
            obtain ⟨wk, rfl⟩ : ∃ wk : World, wk = wr := ⟨_, rfl⟩
            go_upto_region 15 with (go_at_call 91; refine (HIH.out (subI left X) HSB.out.1 HSB.out.2 _ ?_ (some g3) c3 ?_).mono ?_; (· exact HWK.out.trans (Below.mono (by repeat (first | exact Below.refl _ _ | (refine Below.alloc ?_ (by first | omega | (simp; omega) | simp) _) | (refine Below.setCell ?_ (by first | omega | (simp; omega) | simp) _) | refine Below.drew ?_)) HWK.out.size)); (· exact HIK.out _ (by repeat (first | exact Below.refl _ _ | (refine Below.alloc ?_ (by first | omega | (simp; omega) | simp) _) | (refine Below.setCell ?_ (by first | omega | (simp; omega) | simp) _) | refine Below.drew ?_))); rintro e w4 ⟨hb4, v4, vs4, rfl, ho4, hl4⟩; obtain ⟨va4, vc4, rfl⟩ := own_slice1 ho4; have HB4 := Lib.hid hb4; have HO4 := Lib.hid ho4; have HL4 := Lib.hid hl4; clear hb4 ho4 hl4)
            obtain ⟨M, hM⟩ : ∃ M, f.layR d (c + 1) (subI left X) = M := ⟨_, rfl⟩
            rw [hM] at HL4 HNX
            have HMB := Lib.hid (show M.length ≤ 15625 from by rw [← hM]; exact Nat.le_trans (layR_bd f d (c + 1) _ (by have := HSB.out.1; omega) HSB.out.2) (Nat.le_trans (Nat.pow_le_pow_right (by decide) hd2) (by decide)))
            have HML := Lib.hid (show ∀ t ∈ M, t.length = d from fun t ht => by rw [← hM] at ht; exact layR_len f d _ _ t ht)
            have HHM := Lib.hid hM
            have hw1k : w1.heap.size ≤ wk.heap.size := Nat.le_trans h1W hzk
            have HBw := Lib.hid (show Below w1.heap.size w1 w4 from HB.out.trans ((HOK.out.mono h1W).trans (HB4.out.mono hw1k)))
            have HOo := Lib.hid (HO.out.kept (grown_none (HOK.out.trans (HB4.out.mono hzk))) (Classical.em _))
            have HLo := Lib.hid (HLR.out.below (HOK.out.trans (HB4.out.mono hzk)))
            have HNE := Lib.hid (show ∀ r, o7.ownBlock = some r → (Value.slice va4 vs4.length vc4).ownBlock ≠ some r from fun r e e' => by
              have h1 := own_low HO4.out _ e'
              have h2 := (own_row HO.out r e).2.1
              omega)
            clear hM t0 t1 t2 t3 t4 v0 x0 x1 x2 x3 x4
            go_wp2_with fail
            go_loopw [7, 13] (fun v7 v13 wr => ∃ (m : Nat) (us3 : List Value), m ≤ vs4.length ∧ v13 = .int .i64 m ∧ wr.ownsRow w1.heap.size 24 1 v7 us3.length us3 ∧ LayRow wr us3 (f.layI d c left i ++ (M.take m).map (fun t => X :: t)) ∧ Below w1.heap.size w1 wr ∧ wr.ownsRow wk.heap.size 24 1 (.slice va4 vs4.length vc4) vs4.length vs4 ∧ LayRow wr vs4 M ∧ (∀ r, v7.ownBlock = some r → (Value.slice va4 vs4.length vc4).ownBlock ≠ some r)) (fun _ i _ => vs4.length - (intOf i).toNat)
            case atStart => exact ⟨0, us, by omega, rfl, HOo.out, by rw [List.take_zero, List.map_nil, List.append_nil]; exact HLo.out, HBw.out, HO4.out, HL4.out, HNE.out⟩
            case round =>
              obtain ⟨m, us3, hm, rfl, hO3, hL3, hB3, hV4, hM4, hNE⟩ := hrel
              by_cases hml : m < vs4.length
              · have hmM : m < M.length := by rw [← hM4.1]; exact hml
                obtain ⟨ga4, c4, us4, hv4, hc4, hF4, hC4⟩ := hM4.2 m hmM
                have hdl := HML.out _ (List.getElem_mem hmM)
                obtain ⟨Y, hY⟩ : ∃ Y, M[m] = Y := ⟨_, rfl⟩
                rw [hY] at hv4 hc4 hF4 hC4 hdl
                rw [hdl] at hv4 hc4 hF4
                obtain ⟨g4, vc4', hge4, hgn4⟩ := ownsRow_pos hV4 (by omega)
                injection hge4 with hge4 _ hvc4
                subst hge4 hvc4
                have k4 : wr.cell? ⟨g4, m, none⟩ = some (.slice ga4 d c4) := by
                  have := hV4.cells (g := g4) rfl m _ hv4
                  rw [Addr.add_lit] at this
                  rwa [Nat.zero_add] at this
                have v5 : wr.cell? ⟨gv, i, none⟩ = some (.slice ga ll sc') := (hB3.cell (p := ⟨gv, i, none⟩) hgl).trans HCV.out
                obtain ⟨_, cur4, hcur4⟩ := own_parts hV4
                have hg4 : g4 < wr.heap.size := (Array.getElem?_eq_some_iff.1 hcur4).1
                have hgvr : gv < wr.heap.size := Nat.lt_of_lt_of_le hgl hB3.size
                have hul : us4.length = d := by have := hF4.1; simpa using this
                have hu1 : ∀ u ∈ us4, u.oneCell' = true := hC4.vrow.cells
                have h3l : us3.length + 1 ≤ 4000000 := by
                  have e1 := hL3.1
                  have e2 := HLB.out i
                  have e3 := HMB.out
                  rw [List.length_append, List.length_map, List.length_take] at e1
                  omega
                have hd1 : 1 + d ≤ 1000000 := by omega
                have hm15 : m ≤ 15625 := by have := HMB.out; omega
                have h1r := hB3.size
                have HF4 := Lib.hid hF4
                have HFS := Lib.hid (fun W (h : Below wr.heap.size wr W) (h0 : 0 < d) => show ∃ pb po, ga4 = some ⟨pb, po, none⟩ ∧ ∀ j u, us4[j]? = some u → W.cell? ⟨pb, po + j, none⟩ = some u from by
                  obtain ⟨g, e1, -, -, hc, -⟩ := (hF4.kept (grown_none h) (fun r e => by cases e)).cell h0
                  exact ⟨g, 0, e1, fun j u hj => by rw [Nat.zero_add]; exact hc j u hj⟩)
                have HC4 := Lib.hid hC4
                have HO3 := Lib.hid hO3
                have HL3 := Lib.hid hL3
                have HBR := Lib.hid hB3
                have HV4 := Lib.hid hV4
                have HM4 := Lib.hid hM4
                have HNE4 := Lib.hid hNE
                have HYM := Lib.hid hY
                have hm0 : (0 : Int) ≤ (m : Int) := by omega
                have hmn : (m : Int) < (vs4.length : Int) := by omega
                have hRW := own_row hO3
                have HRW := Lib.hid hRW
                clear hO3 hL3 hB3 hV4 hM4 hNE hv4 hF4 hC4 hcur4 hY hRW
                go_upto_region 18 with fail
                go_region_law (first
                  | ((with_reducible refine step_append_lit _ wr.heap.size d c4 (.slice ga ll sc') us4 ga4 hul hu1 hd1 rfl _ _ rfl ?_ ?_ ?_ ?_ ?_); (· refine ⟨_, rfl, ?_⟩; first | exact own_lit _ _ _ _ (by first | exact Nat.le_refl _ | (simp; done) | (simp; omega)) | exact (own_lit _ _ _ _ (by first | exact Nat.le_refl _ | (simp; done) | (simp; omega))).kept (grown_none (by repeat (first | exact Below.refl _ _ | (refine Below.alloc ?_ (by first | omega | (simp; omega) | simp) _) | (refine Below.setCell ?_ (by first | omega | (simp; omega) | simp) _) | refine Below.drew ?_))) (Classical.em _)); (· rfl); (· intro h0; exact HFS.out _ (by repeat (first | exact Below.refl _ _ | (refine Below.alloc ?_ (by first | omega | (simp; omega) | simp) _) | (refine Below.setCell ?_ (by first | omega | (simp; omega) | simp) _) | refine Below.drew ?_)) h0); (· first | exact Nat.le_refl _ | (simp; done) | (simp; omega)); intro na nc wA hownA hBA; have kAb : Below wr.heap.size wr wA := Below.trans (by repeat (first | exact Below.refl _ _ | (refine Below.alloc ?_ (by first | omega | (simp; omega) | simp) _) | (refine Below.setCell ?_ (by first | omega | (simp; omega) | simp) _) | refine Below.drew ?_)) hBA; have HKA := Lib.hid kAb; have HOA := Lib.hid hownA; have hzA := kAb.size; clear hownA hBA kAb)
                  | ((with_reducible refine step_append_big _ 105 24 (.slice none 0 0) 24 Try.underlying105 Try.info24 rfl (by decide) w1.heap.size us3.length u7 (.slice na (1 + d) nc) us3 rfl h3l rfl _ _ rfl ?_ ?_ ?_ ?_ ?_); (· rfl); (· refine ⟨_, rfl, ?_⟩; (go_simp; done)); (· exact HO3.out.kept (grown_none (by repeat (first | exact HKA.out | (refine Below.alloc ?_ (by first | omega | (simp; omega) | simp) _) | refine Below.drew ?_))) (Classical.em _)); (· first | omega | (simp; omega)); intro v' wB hownB hgB hatB; have HG := Lib.hid (gb_up2 (W := wA) (by repeat (first | exact Below.refl _ _ | (refine Below.alloc ?_ (by first | omega | (simp; omega) | simp) _) | (refine Below.setCell ?_ (by first | omega | (simp; omega) | simp) _) | refine Below.drew ?_)) hgB); have HAT := Lib.hid (show ∀ r, v'.ownBlock = some r → u7.ownBlock = some r ∨ wA.heap.size ≤ r from fun r e => hatB.elim (fun h => .inl (by rw [← h]; exact e)) (fun h => .inr (by rw [h] at e; injection e with e; subst e; first | (simp; done) | (simp; omega)))); have HOB := Lib.hid hownB; clear hownB hgB hatB)
                  | fail "no arm")
                all_goals
                  go_wp2_with fail
                  go_roundw
                  case rel =>
                    have HGW := Lib.hid (gb_up2 (W := wr) HKA.out HG.out)
                    have hne : ∀ r, u7.ownBlock = some r → (∃ (c : Array Value) (e' : TypeId), wr.heap[r]? = some (.cells c e' (0, 0)) ∧ e' ≠ 3 ∧ e' ≠ 27) ∨ wr.heap.size ≤ r := fun r e => .inl (by obtain ⟨-, -, c, hc⟩ := HRW.out r e; exact ⟨c, _, hc, by decide, by decide⟩)
                    have hneA : ∀ {T : TypeId}, 24 ≠ T → ∀ r, u7.ownBlock = some r → (∃ (c : Array Value) (e' : TypeId), wA.heap[r]? = some (.cells c e' (0, 0)) ∧ e' ≠ T) ∨ r < 0 ∨ wA.heap.size ≤ r := fun hT r e => .inl (by obtain ⟨-, hr, c, hc⟩ := HRW.out r e; exact ⟨c, _, (HKA.out.block r hr).trans hc, hT⟩)
                    refine ⟨m + 1, us3 ++ [.slice na (1 + d) nc], by omega, by go_num, by rw [List.length_append]; exact HOB.out, ?_, HBR.out.trans (grown_low HGW.out h1r (fun r e => (HRW.out r e).1)), HV4.out.kept HGW.out (.inr fun e => HNE4.out g4 (by rw [← e]; rfl) rfl), HM4.out.kept HGW.out hne, fun r e => ?_⟩
                    · rw [List.take_succ_eq_append_getElem hmM, List.map_append, ← List.append_assoc, HYM.out]
                      refine (HL3.out.kept HGW.out hne).snoc (X :: Y) (by rw [List.length_cons, hdl]; omega) (own_cap HOA.out) (((own_frow HOA.out).low (Nat.zero_le _)).kept HG.out (hneA (by decide))) ?_
                      exact ((HC4.out.below HKA.out).kept HG.out (hneA (by decide))).cons X (by omega) HSC.out (((HXF.out wr HBR.out).kept (grown_none HKA.out) (fun r e => by cases e)).kept HG.out (hneA (by decide)))
                    · rcases HAT.out r e with h | h
                      · exact HNE4.out r h
                      · intro e'
                        have := (own_row HV4.out r e').2.1
                        omega
                  case measure => simp [intOf]; omega
              · obtain rfl : vs4.length = m := by omega
                have e1 := hL3
                rw [hM4.1, List.take_length] at e1
                have HE := Lib.hid e1
                have HO3 := Lib.hid hO3
                have HBR := Lib.hid hB3
                clear e1 hL3 hO3 hB3 hV4 hM4 hNE
                go_wp2_with fail
                go_roundw
                case rel => exact ⟨i + 1, us3, by omega, by go_num, HO3.out, by first | (rw [HNX.out, if_pos rfl]; exact HE.out) | (rw [HNX.out, if_pos trivial]; exact HE.out), HBR.out⟩
                case measure => simp [intOf]; omega
    · obtain rfl : i = vs.length := by omega
      go_wp2_with fail
      go_ret
      exact ⟨HB01.out.trans (HB.out.mono HB01.out.size), o7, us, rfl, own_base2 HO.out HB01.out.size, by rw [← layI_all, ← HCS.out.1]; exact HLR.out⟩

/-- The layouts that lock the columns from one on. -/
theorem refLayouts_any (f : PFrame) (sa : Option Addr) (sl sc : Nat) (pa : Option Addr) (pl pc : Nat) (ca : Option Addr) (cl cc : Nat) (ho : f.okW) : ∀ (d c : Nat) (la : Option Addr) (ll lc : Nat) (left : List Int) (_ : c + d = f.cols.length) (_ : left.length = f.strips.length) (_ : ∀ y ∈ left, 0 ≤ y ∧ y ≤ 4) (w : World) (_ : PAt w sa sl sc pa pl pc ca cl cc f) (_ : IntsAt w la ll left),
    Calls Try.prog 91 #[.agg #[.int .i64 f.len, .int .i64 f.slack, .slice sa sl sc, .slice pa pl pc, .slice ca cl cc], .int .i64 c, .slice la ll lc] w fun e w' => LaysPost (f.layR d c left) w e w'
  | 0, c, la, ll, lc, left, hcd, hls, h4, w, hp, hl => by
    have hcl := hp.2.2.1
    obtain rfl : cl = c := by omega
    exact refLayouts_end f sa sl sc pa pl pc ca cl cc la ll lc w hp
  | d + 1, c, la, ll, lc, left, hcd, hls, h4, w, hp, hl =>
    refLayouts_step f sa sl sc pa pl pc ca cl cc d c hcd la ll lc left hls h4 ho w hp hl fun rest hrl hr4 W hb ra rc hr =>
      refLayouts_any f sa sl sc pa pl pc ca cl cc ho d (c + 1) ra ll rc rest (by omega) (by omega) hr4 W (hp.below hb) hr
end Go.Proofs.Ytcklhojeneejiaa
