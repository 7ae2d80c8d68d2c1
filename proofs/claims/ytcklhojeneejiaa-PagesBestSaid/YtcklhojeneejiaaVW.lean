/- VW VX VY, joined. -/
import Derived.Test.YtcklhojeneejiaaVG
import Derived.Test.YtcklhojeneejiaaWG
/- What is refused: the reference's lists and the program's choices find the same one. -/
namespace Go.Proofs.Ytcklhojeneejiaa
set_option linter.unusedVariables false
set_option linter.unusedSimpArgs false
open Go.RowKit

/-- Rising lists of so many further numbers from one on, below another, that begin with x. -/
def lisF : Nat → Nat → Nat → List Int → List (List Int)
  | 0, _, _, x => [x]
  | d + 1, lo, hi, x => (List.range (hi - lo)).flatMap fun n => lisF d (lo + n + 1) hi (x ++ [((lo + n : Nat) : Int)])
/-- All of them, the shorter ones first. -/
def lisA (n : Nat) : List (List Int) := (List.range (n + 1)).flatMap fun d => lisF d 0 n []
def ltK (x y : List Int) : Bool := decide (x.length < y.length) || (x.length == y.length && decide (cmpL x y < 0))
def sortK : List (List Int) → Bool
  | [] => true
  | x :: xs => xs.all (ltK x) && sortK xs
def checkK (n : Nat) : Bool := (lisA n).all (fun x => (List.range (2 ^ n)).any fun c => pickR c n == x) && (List.range (2 ^ n)).all (fun c => (lisA n).contains (pickR c n)) && sortK (lisA n)
set_option maxRecDepth 100000 in
theorem check_seven : (checkK 0 && checkK 1 && checkK 2 && checkK 3 && checkK 4 && checkK 5 && checkK 6) = true := by kernel_rfl
theorem check_all (n : Nat) (h : n ≤ 6) : checkK n = true := by
  have h7 := check_seven
  simp only [Bool.and_eq_true] at h7
  obtain ⟨⟨⟨⟨⟨⟨a0, a1⟩, a2⟩, a3⟩, a4⟩, a5⟩, a6⟩ := h7
  have : n = 0 ∨ n = 1 ∨ n = 2 ∨ n = 3 ∨ n = 4 ∨ n = 5 ∨ n = 6 := by omega
  rcases this with e | e | e | e | e | e | e <;> (rw [e]; assumption)
theorem lis_mem {n : Nat} (h : n ≤ 6) : (∀ x ∈ lisA n, ∃ c, c < 2 ^ n ∧ x = pickR c n) ∧ (∀ c, c < 2 ^ n → pickR c n ∈ lisA n) ∧ sortK (lisA n) = true := by
  have h1 := check_all n h
  unfold checkK at h1
  simp only [Bool.and_eq_true, List.all_eq_true, List.any_eq_true, List.mem_range, beq_iff_eq, List.contains_iff_mem] at h1
  exact ⟨fun x hx => by obtain ⟨c, h2, h3⟩ := h1.1.1 x hx; exact ⟨c, h2, h3.symm⟩, h1.1.2, h1.2⟩
/-- What some pieces cost together. -/
def PFrame.penL (f : PFrame) (x : List Int) : Int := (x.map fun i => f.pay i.toNat).sum
theorem pay_pen (f : PFrame) (c : Nat) : ∀ n, f.payTo c n = f.penL (pickR c n)
  | 0 => rfl
  | n + 1 => by
    rw [PFrame.payTo, pickR_snoc, pay_pen f c n]
    cases hasN c n
    · simp
    · simp [PFrame.penL]
def PFrame.cheap (f : PFrame) (o : Option (List Int)) (x : List Int) : Bool := match o with | none => true | some b => decide (f.penL x < f.penL b)
def stepK (f : PFrame) (P : List Int → Bool) (o : Option (List Int)) (x : List Int) : Option (List Int) := if f.cheap o x && P x then some x else o
/-- The reference's choice is the least one by pence, then by number, then in the order of lists. -/
theorem stepK_spec (f : PFrame) (P : List Int → Bool) : ∀ (xs : List (List Int)) (o r : Option (List Int)), sortK xs = true → (∀ a, o = some a → ∀ x ∈ xs, ltK a x = true) → xs.foldl (stepK f P) o = r →
    (r = none ↔ o = none ∧ ∀ x ∈ xs, P x = false) ∧ ∀ b, r = some b → (o = some b ∨ (b ∈ xs ∧ P b = true)) ∧ (∀ a, o = some a → f.penL b < f.penL a ∨ b = a) ∧ ∀ y ∈ xs, P y = true → f.penL b < f.penL y ∨ (f.penL b = f.penL y ∧ (b = y ∨ ltK b y = true))
  | [], o, r, _, _, h => by
    rw [List.foldl_nil] at h
    subst h
    exact ⟨by simp, fun b hb => ⟨.inl hb, fun a ha => .inr (by rw [hb] at ha; injection ha), by simp⟩⟩
  | x :: xs, o, r, hs, ho, h => by
    rw [sortK, Bool.and_eq_true, List.all_eq_true] at hs
    rw [List.foldl_cons] at h
    by_cases hc : (f.cheap o x && P x) = true
    · have e : stepK f P o x = some x := by unfold stepK; rw [if_pos hc]
      rw [e] at h
      rw [Bool.and_eq_true] at hc
      obtain ⟨h1, h2⟩ := stepK_spec f P xs (some x) r hs.2 (fun a ha => by injection ha with ha; subst ha; exact hs.1) h
      refine ⟨⟨fun e => by have := h1.1 e; simp at this, fun e => by have := e.2 x (by simp); rw [this] at hc; simp at hc⟩, fun b hb => ?_⟩
      obtain ⟨k1, k2, k3⟩ := h2 b hb
      have kx := k2 x rfl
      refine ⟨.inr ?_, fun a ha => ?_, fun y hy hP => ?_⟩
      · rcases k1 with k | k
        · injection k with k; subst k; exact ⟨by simp, hc.2⟩
        · exact ⟨by simp [k.1], k.2⟩
      · rw [ha] at hc
        have := hc.1
        unfold PFrame.cheap at this
        simp only [decide_eq_true_eq] at this
        left
        rcases kx with k | k
        · omega
        · subst k; exact this
      · rcases List.mem_cons.1 hy with rfl | hy
        · rcases kx with k | k
          · exact .inl k
          · exact .inr ⟨by rw [k], .inl k⟩
        · exact k3 y hy hP
    · have e : stepK f P o x = o := by unfold stepK; rw [if_neg hc]
      rw [e] at h
      obtain ⟨h1, h2⟩ := stepK_spec f P xs o r hs.2 (fun a ha y hy => ho a ha y (by simp [hy])) h
      have hx : ∀ {a}, o = some a → P x = true → f.penL a ≤ f.penL x := fun {a} ha hP => by
        rw [ha, hP] at hc
        unfold PFrame.cheap at hc
        simp at hc
        exact hc
      have hn : o = none → P x = false := fun hn => by
        rw [hn] at hc
        unfold PFrame.cheap at hc
        simpa using hc
      refine ⟨⟨fun e => ?_, fun e => h1.2 ⟨e.1, fun y hy => e.2 y (by simp [hy])⟩⟩, fun b hb => ?_⟩
      · obtain ⟨q1, q2⟩ := h1.1 e
        exact ⟨q1, fun y hy => (List.mem_cons.1 hy).elim (fun e => e ▸ hn q1) (q2 y)⟩
      · obtain ⟨k1, k2, k3⟩ := h2 b hb
        refine ⟨k1.imp id (fun k => ⟨by simp [k.1], k.2⟩), k2, fun y hy hP => ?_⟩
        rcases List.mem_cons.1 hy with rfl | hy
        · cases o with
          | none => rw [hn rfl] at hP; cases hP
          | some a =>
            have q := hx rfl hP
            rcases k2 a rfl with k | k
            · exact .inl (by omega)
            · subst k
              rcases Int.lt_or_eq_of_le q with q' | q'
              · exact .inl q'
              · exact .inr ⟨q', .inr (ho _ rfl _ (by simp))⟩
        · exact k3 y hy hP
theorem cmpZ_neg {a b : Int} : cmpZ a b < 0 ↔ a < b := by
  unfold cmpZ
  by_cases h1 : a < b
  · rw [if_pos h1]; simp [h1]
  · rw [if_neg h1]
    by_cases h2 : b < a
    · rw [if_pos h2]; simp [h1]
    · rw [if_neg h2]; simp [h1]
theorem cmpZ_zero {a b : Int} : cmpZ a b = 0 ↔ a = b := by
  unfold cmpZ
  by_cases h1 : a < b
  · rw [if_pos h1]; simp; omega
  · rw [if_neg h1]
    by_cases h2 : b < a
    · rw [if_pos h2]; simp; omega
    · rw [if_neg h2]; simp; omega
theorem cmpL_neg {x y : Int} {xs ys : List Int} : cmpL (x :: xs) (y :: ys) < 0 ↔ x < y ∨ (x = y ∧ cmpL xs ys < 0) := by
  rw [cmpL]
  by_cases h : cmpZ x y = 0
  · rw [if_pos h]
    have := cmpZ_zero.1 h
    subst this
    simp
  · rw [if_neg h, cmpZ_neg]
    have : ¬ x = y := fun e => h (cmpZ_zero.2 e)
    simp [this]
theorem cmpL_trans : ∀ {x y z : List Int}, cmpL x y < 0 → cmpL y z < 0 → cmpL x z < 0
  | [], [], z, h, _ => by simp [cmpL] at h
  | [], _ :: _, [], _, h => by simp [cmpL] at h
  | [], _ :: _, _ :: _, _, _ => by simp [cmpL]
  | _ :: _, [], z, h, _ => by simp [cmpL] at h
  | _ :: _, _ :: _, [], _, h => by simp [cmpL] at h
  | x :: xs, y :: ys, z :: zs, h1, h2 => by
    rw [cmpL_neg] at h1 h2 ⊢
    rcases h1 with h1 | ⟨h1, h1'⟩ <;> rcases h2 with h2 | ⟨h2, h2'⟩
    · left; omega
    · left; omega
    · left; omega
    · right; exact ⟨h1.trans h2, cmpL_trans h1' h2'⟩
theorem cmpL_irr : ∀ {x : List Int}, ¬ cmpL x x < 0
  | [] => by simp [cmpL]
  | x :: xs => by rw [cmpL_neg]; rintro (h | h); omega; exact cmpL_irr h.2
def ltR (x : List Int) (p : Int) (y : List Int) (q : Int) : Prop := p < q ∨ (p = q ∧ (x.length < y.length ∨ (x.length = y.length ∧ cmpL x y < 0)))
theorem cmpR_neg {x y : List Int} {p q : Int} : cmpR x p y q < 0 ↔ ltR x p y q := by
  unfold cmpR ltR
  simp only [orL]
  by_cases h1 : cmpZ p q = 0
  · have e := cmpZ_zero.1 h1
    subst e
    by_cases h2 : cmpZ (x.length : Int) (y.length : Int) = 0
    · have e := cmpZ_zero.1 h2
      have e' : x.length = y.length := by omega
      have e0 : cmpZ (y.length : Int) (y.length : Int) = 0 := cmpZ_zero.2 rfl
      simp [h1, h2, e', e0]
      by_cases h3 : cmpL x y = 0
      · simp [h3]
      · simp [h3]
    · have n : ¬ x.length = y.length := fun e => h2 (cmpZ_zero.2 (by omega))
      simp [h1, h2, n, cmpZ_neg]
  · have n : ¬ p = q := fun e => h1 (cmpZ_zero.2 e)
    simp [h1, n, cmpZ_neg]
theorem ltR_trans {x y z : List Int} {p q r : Int} (h1 : ltR x p y q) (h2 : ltR y q z r) : ltR x p z r := by
  unfold ltR at *
  rcases h1 with h1 | ⟨h1, h1' | ⟨h1', h1''⟩⟩ <;> rcases h2 with h2 | ⟨h2, h2' | ⟨h2', h2''⟩⟩
  · left; omega
  · left; omega
  · left; omega
  · left; omega
  · right; exact ⟨h1.trans h2, .inl (by omega)⟩
  · right; exact ⟨h1.trans h2, .inl (by omega)⟩
  · left; omega
  · right; exact ⟨h1.trans h2, .inl (by omega)⟩
  · right; exact ⟨h1.trans h2, .inr ⟨h1'.trans h2', cmpL_trans h1'' h2''⟩⟩
theorem ltR_irr {x : List Int} {p : Int} : ¬ ltR x p x p := by
  unfold ltR
  rintro (h | ⟨-, h | ⟨-, h⟩⟩)
  · omega
  · omega
  · exact cmpL_irr h
/-- The program's choice is the least one. -/
theorem bestC_least (f : PFrame) : ∀ m : Nat, (f.bestC m = none ∧ ∀ c, c < m → f.locks c = false) ∨ ∃ b, f.bestC m = some b ∧ b < m ∧ f.locks b = true ∧ ∀ c, c < m → f.locks c = true → ¬ ltR (pickR c f.pieces.length) (f.payTo c f.pieces.length) (pickR b f.pieces.length) (f.payTo b f.pieces.length)
  | 0 => .inl ⟨rfl, fun c h => absurd h (by omega)⟩
  | m + 1 => by
    rw [bestC_succ]
    unfold PFrame.stepB
    rcases bestC_least f m with ⟨h1, h2⟩ | ⟨b, h1, h2, h3, h4⟩
    · rw [h1]
      cases hl : f.locks m with
      | false => exact .inl ⟨by simp [PFrame.better], fun c hc => (Nat.lt_or_eq_of_le (Nat.le_of_lt_succ hc)).elim (h2 c) (fun e => e ▸ hl)⟩
      | true => exact .inr ⟨m, by simp [PFrame.better], by omega, hl, fun c hc hlc => (Nat.lt_or_eq_of_le (Nat.le_of_lt_succ hc)).elim (fun e => by rw [h2 c e] at hlc; cases hlc) (fun e => by subst e; exact ltR_irr)⟩
    · rw [h1]
      by_cases hc : (f.better (some b) m && f.locks m) = true
      · rw [if_pos hc]
        rw [Bool.and_eq_true] at hc
        have hb := hc.1
        unfold PFrame.better at hb
        simp only [decide_eq_true_eq] at hb
        rw [cmpR_neg] at hb
        exact .inr ⟨m, rfl, by omega, hc.2, fun c hcm hlc => (Nat.lt_or_eq_of_le (Nat.le_of_lt_succ hcm)).elim (fun e h => h4 c e hlc (ltR_trans h hb)) (fun e => by subst e; exact ltR_irr)⟩
      · rw [if_neg hc]
        refine .inr ⟨b, rfl, by omega, h3, fun c hcm hlc => (Nat.lt_or_eq_of_le (Nat.le_of_lt_succ hcm)).elim (fun e => h4 c e hlc) (fun e h => ?_)⟩
        subst e
        apply hc
        rw [Bool.and_eq_true]
        refine ⟨?_, hlc⟩
        unfold PFrame.better
        simp only [decide_eq_true_eq]
        exact cmpR_neg.2 h
/-- A frame without some pieces. -/
def PFrame.without (f : PFrame) (x : List Int) : PFrame := { f with cols := f.cols.map (List.filter fun v => !x.contains v) }
/-- Whether the page can be locked without them. -/
def PFrame.canB (f : PFrame) (x : List Int) : Bool := decide (0 < (f.without x).layRs.length)
theorem without_ok {f : PFrame} (ho : f.ok = true) (x : List Int) : (f.without x).okW := by
  refine ⟨f.cols, ho, by unfold PFrame.without; simp, fun i hi => ?_⟩
  have hi' : i < f.cols.length := by unfold PFrame.without at hi; simpa using hi
  have e : (f.without x).cols[i] = (f.cols[i]).filter fun v => !x.contains v := by unfold PFrame.without; simp
  obtain ⟨h1, h2⟩ := PFrame.ok_col ho i hi'
  rw [e]
  refine ⟨fun y hy => h1 y (List.mem_filter.1 hy).1, Nat.le_trans (List.length_filter_le _ _) h2⟩
theorem laysF_cols (f : PFrame) (cs : List (List Int)) : ∀ (rs : List (Int × Int)) (l : T3) (b : List T3), laysF { f with cols := cs } rs l b = laysF f rs l b
  | [], l, b => rfl
  | r :: rs, l, b => by
    rw [laysF, laysF]
    exact flatMap_cg fun s _ => laysF_cols f cs rs _ _
theorem mem_pick {c n : Nat} {v : Int} (h0 : 0 ≤ v) (h1 : v < (n : Int)) : (pickR c n).contains v = hasI c v := by
  unfold pickR hasI
  rw [Bool.eq_iff_iff, List.contains_iff_mem, List.mem_map]
  constructor
  · rintro ⟨i, hi, rfl⟩
    exact (List.mem_filter.1 hi).2
  · intro h
    exact ⟨v.toNat, List.mem_filter.2 ⟨List.mem_range.2 (by omega), h⟩, by omega⟩
theorem can_locks {f : PFrame} (ho : f.ok = true) (c : Nat) : f.canB (pickR c f.pieces.length) = f.locks c := by
  have hw := without_ok ho (pickR c f.pieces.length)
  have e : (f.without (pickR c f.pieces.length)).lays 0 = f.lays c := by
    have hr : (f.without (pickR c f.pieces.length)).roomsOf 0 = f.roomsOf c := by
      unfold PFrame.roomsOf
      rw [show (f.without (pickR c f.pieces.length)).cols = f.cols.map (List.filter fun v => !(pickR c f.pieces.length).contains v) from rfl, List.map_map]
      refine List.map_congr_left fun x hx => ?_
      obtain ⟨i, hi, rfl⟩ := List.mem_iff_getElem.1 hx
      have hf : (f.cols[i]).filter (fun v => !(pickR c f.pieces.length).contains v) = keepC c f.cols[i] := by
        unfold keepC
        exact List.filter_congr fun v hv => by
          obtain ⟨h0, h1⟩ := (PFrame.ok_col ho i hi).1 v hv
          rw [mem_pick h0 h1]
      show ((f.without _).roomLo (keepC 0 (List.filter _ f.cols[i])), (f.without _).roomHi (keepC 0 (List.filter _ f.cols[i]))) = _
      rw [keepC_zero, hf]
      rfl
    unfold PFrame.lays
    rw [hr]
    exact laysF_cols f _ _ _ _
  unfold PFrame.canB PFrame.locks
  rw [← e, lays_are hw]
  cases (f.without (pickR c f.pieces.length)).layRs <;> simp
/-- What the reference refuses. -/
def PFrame.refK (f : PFrame) : Option (List Int) := (lisA f.pieces.length).foldl (stepK f f.canB) none
theorem refuse_are {f : PFrame} (ho : f.ok = true) : (f.refK = none ∧ f.out = none) ∨ ∃ c, c < 2 ^ f.pieces.length ∧ f.out = some c ∧ f.refK = some (pickR c f.pieces.length) := by
  have h6 := (PFrame.ok_parts ho).2.2.2.2.2.1
  obtain ⟨m1, m2, m3⟩ := lis_mem h6
  obtain ⟨s1, s2⟩ := stepK_spec f f.canB (lisA f.pieces.length) none f.refK m3 (fun a ha => by cases ha) rfl
  unfold PFrame.out
  rw [if_pos ho]
  rcases bestC_least f (2 ^ f.pieces.length) with ⟨h1, h2⟩ | ⟨b, h1, h2, h3, h4⟩
  · refine .inl ⟨s1.2 ⟨rfl, fun x hx => ?_⟩, h1⟩
    obtain ⟨c, hc, rfl⟩ := m1 x hx
    rw [can_locks ho]
    exact h2 c hc
  · refine .inr ⟨b, h2, h1, ?_⟩
    cases hr : f.refK with
    | none =>
      have := (s1.1 hr).2 _ (m2 b h2)
      rw [can_locks ho, h3] at this
      cases this
    | some y =>
      obtain ⟨k1, -, k3⟩ := s2 y hr
      rcases k1 with k1 | ⟨k1, k1'⟩
      · cases k1
      · obtain ⟨c, hc, rfl⟩ := m1 y k1
        rw [can_locks ho] at k1'
        have hn := h4 c hc k1'
        rw [pay_pen, pay_pen] at hn
        rcases k3 _ (m2 b h2) (by rw [can_locks ho]; exact h3) with q | ⟨q, q' | q'⟩
        · exact absurd (Or.inl q) hn
        · rw [q']
        · refine absurd (Or.inr ⟨q, ?_⟩) hn
          unfold ltK at q'
          simp only [Bool.or_eq_true, Bool.and_eq_true, decide_eq_true_eq, beq_iff_eq] at q'
          exact q'
end Go.Proofs.Ytcklhojeneejiaa

/- The reference: In, PenceOf; what a copy holds whose columns are made anew. -/
namespace Go.Proofs.Ytcklhojeneejiaa
set_option linter.unusedVariables false
set_option linter.unusedSimpArgs false
open Go.RowKit Go.Shelf

set_option maxRecDepth 100000 in
set_option maxHeartbeats 4000000 in
theorem refIn_any (xa : Option Addr) (xl xc : Nat) (x : List Int) (v : Int) (b : Bool) (h : x.contains v = b) (w : World) (hx : IntsAt w xa xl x) :
    Calls Try.prog 115 #[.slice xa xl xc, .int .i64 v] w fun e w' => e = .returned (.bool b) ∧ Below w.heap.size w w' := by
  obtain ⟨hxl, hxm, hxc⟩ := hx
  unfold maxLen at hxm
  have HXL := Lib.hid hxl
  have HXC := Lib.hid hxc
  have HN := Lib.hid (fun k (h : k < x.length) (hv : (x.take k).contains v = false) => show (x.take (k + 1)).contains v = decide (x[k] = v) from by
    rw [List.take_succ_eq_append_getElem h, List.contains_append, hv, Bool.false_or]
    simp [eq_comm])
  have HT := Lib.hid (fun k (hk : k < x.length) (hv : x[k] = v) => show b = true from by
    rw [← h, List.contains_iff_mem, ← hv]; exact List.getElem_mem hk)
  have HF := Lib.hid (fun (hv : (x.take xl).contains v = false) => show b = false from by
    rw [List.take_of_length_le (by omega)] at hv; rw [← h, hv])
  clear hxl hxc h
  go_enter Try.func115, Try.ntmps115
  go_wp2_with fail
  go_loopw [5] (fun i wr => ∃ k : Nat, k ≤ xl ∧ i = .int .i64 k ∧ (x.take k).contains v = false ∧ Below w.heap.size w wr) (fun i _ => xl - (intOf i).toNat)
  case atStart => exact ⟨0, by omega, rfl, by simp, Below.refl _ _⟩
  case round =>
    obtain ⟨k, hk, rfl, hc, hB⟩ := hrel
    have HB := Lib.hid hB
    by_cases hlt : k < xl
    · have hk3 : k < x.length := by rw [HXL.out]; exact hlt
      obtain ⟨b', o', rfl, hbB', hcx'⟩ := HXC.out (by omega)
      have hcx := (hB.cell (p := ⟨b', o' + k, none⟩) hbB').trans (hcx' k hk3)
      have hkl : (k : Int) < (xl : Int) := by omega
      have hk0 : (0 : Int) ≤ (k : Int) := by omega
      have HNK := Lib.hid (HN.out k hk3 hc)
      have HTK := Lib.hid (HT.out k hk3)
      clear hcx' hB hc HN HT
      generalize x[k] = u at *
      clear hk3
      by_cases he : u = v
      · subst he
        obtain rfl := HTK.out rfl
        go_wp2_with fail
        go_ret
        exact ⟨rfl, HB.out⟩
      · have hne : (u == v) = false := by simpa using he
        go_wp2_with fail
        go_roundw
        case rel => exact ⟨k + 1, by omega, by go_num, by rw [HNK.out]; simpa using he, HB.out⟩
        case measure => simp [intOf]; omega
    · obtain rfl : xl = k := by omega
      obtain rfl := HF.out hc
      clear hB hc
      go_wp2_with fail
      go_ret
      exact ⟨rfl, HB.out⟩

set_option maxRecDepth 100000 in
set_option maxHeartbeats 4000000 in
theorem refPence_any (f : PFrame) (sa : Option Addr) (sl sc : Nat) (pa : Option Addr) (pl pc : Nat) (ca : Option Addr) (cl cc : Nat) (xa : Option Addr) (xl xc : Nat) (x : List Int) (ho : f.ok = true) (hin : ∀ y ∈ x, 0 ≤ y ∧ y < (f.pieces.length : Int)) (h40 : xl ≤ 40) (w : World) (hp : PAt w sa sl sc pa pl pc ca cl cc f) (hx : IntsAt w xa xl x) :
    Calls Try.prog 68 #[.agg #[.int .i64 f.len, .int .i64 f.slack, .slice sa sl sc, .slice pa pl pc, .slice ca cl cc], .slice xa xl xc] w fun e w' => e = .returned (.int .i64 (f.penL x)) ∧ Below w.heap.size w w' := by
  obtain ⟨hpl, hpm, hpc⟩ := hp.2.1
  obtain ⟨hxl, hxm, hxc⟩ := hx
  have HPL := Lib.hid hpl
  have HPC := Lib.hid hpc
  have HXL := Lib.hid hxl
  have HXC := Lib.hid hxc
  have HIN := Lib.hid (fun k (hk : k < x.length) => hin x[k] (List.getElem_mem hk))
  have HN := Lib.hid (fun k (hk : k < x.length) => show f.penL (x.take (k + 1)) = f.penL (x.take k) + f.pay x[k].toNat from by
    unfold PFrame.penL
    rw [List.take_succ_eq_append_getElem hk, List.map_append, List.sum_append]; simp)
  have HBD := Lib.hid (fun k => show 0 ≤ f.penL (x.take k) ∧ f.penL (x.take k) ≤ 4000 from by
    unfold PFrame.penL
    have := sum_bd (x := (x.take k).map fun i => f.pay i.toNat) (B := 99) (fun y hy => by
      obtain ⟨i, -, rfl⟩ := List.mem_map.1 hy
      exact pay_bd ho i.toNat)
    rw [List.length_map, List.length_take] at this
    omega)
  have HP1 := Lib.hid (fun (j : Nat) (hj : j < f.pieces.length) => show f.pay j = f.pieces[j].pe from by unfold PFrame.pay; simp [hj])
  have HPB := Lib.hid (fun (j : Nat) => pay_bd ho j)
  have HE := Lib.hid (show f.penL (x.take xl) = f.penL x from by rw [List.take_of_length_le (by omega)])
  have hpl6 := (PFrame.ok_parts ho).2.2.2.2.2.1
  have hpl7 : pl ≤ 6 := by omega
  clear hp hpl hpm hpc hxl hxm hxc hin ho hpl6
  go_enter Try.func68, Try.ntmps68
  go_wp2_with fail
  obtain ⟨W0, hW0, hB0, hs0, hz0⟩ := name1k w #[.int .i64 f.len, .int .i64 f.slack, .slice sa sl sc, .slice pa pl pc, .slice ca cl cc] 26
  rw [hW0]
  clear hW0
  have HB0 := Lib.hid hB0
  have HX3 := Lib.hid (show W0.cell? ⟨w.heap.size, 3, none⟩ = some (.slice pa pl pc) from hs0 3)
  clear hB0 hs0
  go_loopw [5, 6] (fun n i wr => ∃ k : Nat, k ≤ xl ∧ i = .int .i64 k ∧ n = .int .i64 (f.penL (x.take k)) ∧ Below W0.heap.size W0 wr) (fun _ i _ => xl - (intOf i).toNat)
  case atStart => exact ⟨0, by omega, rfl, rfl, Below.refl _ _⟩
  case round =>
    obtain ⟨k, hk, rfl, rfl, hB⟩ := hrel
    obtain ⟨hb1, hb2⟩ := HBD.out k
    have HB := Lib.hid hB
    have hbw := HB0.out.trans (hB.mono HB0.out.size)
    have HBW := Lib.hid hbw
    have x3 := (hB.cell (p := ⟨w.heap.size, 3, none⟩) hz0).trans HX3.out
    by_cases hlt : k < xl
    · have hk3 : k < x.length := by rw [HXL.out]; exact hlt
      obtain ⟨v1, v2⟩ := HIN.out k hk3
      obtain ⟨j, hj⟩ : ∃ j : Nat, x[k] = (j : Int) := ⟨x[k].toNat, by omega⟩
      have hjl : j < f.pieces.length := by omega
      obtain ⟨b, o, rfl, hbB, hcm⟩ := HPC.out (by have := HPL.out; omega)
      obtain ⟨b', o', rfl, hbB', hcx'⟩ := HXC.out (by omega)
      have d2 := (hcm j hjl).2.2
      have c0 := (hbw.cell (p := ⟨b, o + j * 3 + 2, none⟩) hbB).trans d2
      have hcx := (hbw.cell (p := ⟨b', o' + k, none⟩) hbB').trans (hcx' k hk3)
      rw [hj] at hcx v1 v2
      rw [← HP1.out j hjl] at c0
      have HNK := Lib.hid (show f.penL (x.take (k + 1)) = f.penL (x.take k) + f.pay j from by rw [HN.out k hk3, hj]; rfl)
      have hkl : (k : Int) < (xl : Int) := by omega
      have hk0 : (0 : Int) ≤ (k : Int) := by omega
      have hjp : (j : Int) < (pl : Int) := by have := HPL.out; omega
      obtain ⟨t1, t2⟩ := HPB.out j
      clear hcm hcx' d2 hB hbw hj
      generalize f.pay j = t at *
      generalize f.penL (x.take k) = n at *
      have hw2 : IntKind.i64.wrap (n + t) = n + t := IntWalk.i64_in _ ⟨by omega, by omega⟩
      clear hk3 hjl
      go_wp2_with fail
      go_quiet (fail)
      go_wp2_with fail
      go_roundw
      case rel => exact ⟨k + 1, by omega, by go_num, by rw [HNK.out], HB.out.trans (show Below _ wr (wr.drewN _) from ⟨rfl, rfl, rfl, Nat.le_refl _, fun _ _ => rfl⟩)⟩
      case measure => simp [intOf]; omega
    · obtain rfl : xl = k := by omega
      clear hB hbw
      go_wp2_with fail
      go_ret
      exact ⟨ret_i64 HE.out, HBW.out⟩

/-- What a copy holds whose columns are rows of any kind. -/
def WRow (f : PFrame) (n0 sl pl cl : Nat) (gs : Addr) (gsc : Nat) (gp : Addr) (gpc : Nat) (va : Option Addr) (vc : Nat) (vs : List Value) (xs : List (List Int)) (w : World) : Prop :=
  FRow w n0 80 2 (some gs) sl gsc (f.strips.flatMap Strip.cells) ∧ FRow w n0 43 3 (some gp) pl gpc (f.pieces.flatMap Piece.cells) ∧
    w.ownsRow n0 27 1 (.slice va cl vc) cl vs ∧ CRow w n0 vs xs
section
variable {f : PFrame} {n0 sl pl cl : Nat} {gs : Addr} {gsc : Nat} {gp : Addr} {gpc : Nat} {va : Option Addr} {vc : Nat} {vs : List Value} {xs : List (List Int)} {N1 : Nat} {w w' : World}
theorem WRow.of (h : PRow f n0 sl pl cl gs gsc gp gpc va vc vs N1 w) : WRow f n0 sl pl cl gs gsc gp gpc va vc vs f.cols w := by
  obtain ⟨h1, h2, h4, h5, h6⟩ := h
  refine ⟨h1, h2, h4, h5.1, fun i hi => ?_⟩
  obtain ⟨ga, c, e1, e2, e3⟩ := h5.2 i hi
  exact ⟨some ga, c, e1, e2.fits, e3.low h6⟩
theorem WRow.below (h : WRow f n0 sl pl cl gs gsc gp gpc va vc vs xs w) (hb : Below w.heap.size w w') : WRow f n0 sl pl cl gs gsc gp gpc va vc vs xs w' := by
  obtain ⟨h1, h2, h4, h5⟩ := h
  exact ⟨h1.kept (grown_none hb) (fun r e => by cases e), h2.kept (grown_none hb) (fun r e => by cases e), h4.kept (grown_none hb) (Classical.em _), h5.kept (grown_none hb) (fun r e => by cases e)⟩
theorem WRow.up {N : Nat} (h : WRow f n0 sl pl cl gs gsc gp gpc va vc vs xs w) (hk : KeepsUp N w w') (hn : N ≤ n0) : WRow f n0 sl pl cl gs gsc gp gpc va vc vs xs w' := by
  obtain ⟨h1, h2, h4, h5⟩ := h
  exact ⟨h1.up hk hn, h2.up hk hn, own_up h4 hk hn, h5.up hk hn⟩
theorem WRow.out {r : Nat} (h : WRow f n0 sl pl cl gs gsc gp gpc va vc vs xs w) (hg : w.grownBy w' (some r)) (hr : r < n0) : WRow f n0 sl pl cl gs gsc gp gpc va vc vs xs w' := by
  obtain ⟨h1, h2, h4, h5⟩ := h
  exact ⟨h1.kept hg (fun r' e => by injection e with e; exact .inr (.inl (by omega))), h2.kept hg (fun r' e => by injection e with e; exact .inr (.inl (by omega))), h4.kept hg (.inr (fun e => own_geP h4 hr e.symm)), h5.kept hg (fun r' e => by injection e with e; exact .inr (.inl (by omega)))⟩
theorem WRow.at (h : WRow f n0 sl pl cl gs gsc gp gpc va vc vs xs w) (hm : sl ≤ 1000) (hw : cl ≤ 1000) (hn : pl ≤ 1000) (hcl : xs.length = cl) : PAt w (some gs) sl gsc (some gp) pl gpc va cl vc { f with cols := xs } := by
  obtain ⟨h1, h2, h4, h5⟩ := h
  exact ⟨h1.strips (by unfold maxLen; omega), h2.pieces (by unfold maxLen; omega), crow_lists hcl (by unfold maxLen; omega) (own_frow h4) h5⟩
theorem CRow.setv (h : CRow w n0 vs xs) {k n c : Nat} {ga : Option Addr} {X : List Int} (hX : X.length = n) (hc : n ≤ c ∧ c ≤ maxLen) (hF : FRow w n0 3 1 ga n c (X.map (Value.int .i64))) : CRow w n0 (vs.set k (.slice ga n c)) (xs.set k X) := by
  subst hX
  refine ⟨by rw [List.length_set, List.length_set]; exact h.1, fun i hi => ?_⟩
  have hi' : i < xs.length := by rwa [List.length_set] at hi
  by_cases e : k = i
  · subst e
    rw [List.getElem_set_self]
    exact ⟨ga, c, List.getElem?_set_self (by rw [h.1]; exact hi'), hc, hF⟩
  · rw [List.getElem_set_ne e]
    obtain ⟨ga', c', h1, h2⟩ := h.2 i hi'
    exact ⟨ga', c', by rw [List.getElem?_set_ne e]; exact h1, h2⟩
/-- A column is made anew. -/
theorem WRow.setv {gv k n c n2 : Nat} {ga : Option Addr} {X : List Int} {W : World} (h : WRow f n0 sl pl cl gs gsc gp gpc (some ⟨gv, 0, none⟩) vc vs xs w) (hg : w.grownBy W (some gv)) (hO : W.ownsRow n0 27 1 (.slice (some ⟨gv, 0, none⟩) cl vc) cl (vs.set k (.slice ga n c))) (hX : X.length = n) (hR : W.ownsRow n2 3 1 (.slice ga n c) n (X.map (Value.int .i64))) (hn : n0 ≤ n2) :
    WRow f n0 sl pl cl gs gsc gp gpc (some ⟨gv, 0, none⟩) vc (vs.set k (.slice ga n c)) (xs.set k X) W := by
  obtain ⟨h1, h2, h4, h5⟩ := h
  obtain ⟨hg0, cur, hc⟩ := own_parts h4
  have hne : ∀ {e : TypeId} {N : Nat}, 27 ≠ e → ∀ r, some gv = some r → (∃ (c : Array Value) (e' : TypeId), w.heap[r]? = some (.cells c e' (0, 0)) ∧ e' ≠ e) ∨ r < N ∨ w.heap.size ≤ r := fun he r hr => by
    injection hr with hr; subst hr; exact .inl ⟨cur, _, hc, he⟩
  exact ⟨h1.kept hg (hne (by decide)), h2.kept hg (hne (by decide)), hO, (h5.kept hg (hne (by decide))).setv hX (own_cap hR) ((own_frow hR).low hn)⟩
end
theorem gb_chain {X Y Z : World} {r row : Option Nat} (h : X.grownBy Y r) (h2 : Y.grownBy Z row) (hr : ∀ b, row = some b → X.heap.size ≤ b) : X.grownBy Z r :=
  ⟨h2.os.trans h.os, h2.tape.trans h.tape, h2.output.trans h.output, Nat.le_trans h.size h2.size, fun k hk hne => (h2.block k (Nat.lt_of_lt_of_le hk h.size) (fun e => by have := hr k e.symm; omega)).trans (h.block k hk hne)⟩
theorem gb_both {X Y Z : World} {r : Option Nat} (h : X.grownBy Y r) (h2 : Y.grownBy Z r) : X.grownBy Z r :=
  ⟨h2.os.trans h.os, h2.tape.trans h.tape, h2.output.trans h.output, Nat.le_trans h.size h2.size, fun k hk hne => (h2.block k (Nat.lt_of_lt_of_le hk h.size) hne).trans (h.block k hk hne)⟩
/-- The columns, the first k of them without some pieces. -/
def colsTo (x : List Int) (cs : List (List Int)) (k : Nat) : List (List Int) := (cs.take k).map (List.filter fun v => !x.contains v) ++ cs.drop k
theorem colsTo_zero (x : List Int) (cs : List (List Int)) : colsTo x cs 0 = cs := by unfold colsTo; simp
theorem colsTo_all (x : List Int) (cs : List (List Int)) : colsTo x cs cs.length = cs.map (List.filter fun v => !x.contains v) := by
  unfold colsTo
  rw [List.take_of_length_le (Nat.le_refl _), List.drop_eq_nil_of_le (Nat.le_refl _), List.append_nil]
theorem colsTo_next (x : List Int) (cs : List (List Int)) {k : Nat} (hk : k < cs.length) : (colsTo x cs k).set k ((cs[k]).filter fun v => !x.contains v) = colsTo x cs (k + 1) := by
  unfold colsTo
  rw [List.drop_eq_getElem_cons hk, List.take_succ_eq_append_getElem hk, List.map_append, List.set_append_right _ _ (by simp; omega)]
  have : k - ((cs.take k).map (List.filter fun v => !x.contains v)).length = 0 := by simp; omega
  rw [this, List.set_cons_zero, List.append_assoc]
  rfl
theorem colsTo_len (x : List Int) (cs : List (List Int)) (k : Nat) : (colsTo x cs k).length = cs.length := by
  unfold colsTo; simp; omega
theorem filt_next {x xs : List Int} {k : Nat} (h : k < xs.length) : (xs.take (k + 1)).filter (fun v => !x.contains v) = (xs.take k).filter (fun v => !x.contains v) ++ (if x.contains xs[k] then [] else [xs[k]]) := by
  rw [List.take_succ_eq_append_getElem h, List.filter_append]
  by_cases hc : xs[k] ∈ x
  · simp [hc]
  · simp [hc]
end Go.Proofs.Ytcklhojeneejiaa

/- The reference: Without. -/
namespace Go.Proofs.Ytcklhojeneejiaa
set_option linter.unusedVariables false
set_option linter.unusedSimpArgs false
open Go.RowKit Go.Shelf

attribute [local go_sem] Oper.semAt_some

set_option maxRecDepth 100000 in
set_option maxHeartbeats 16000000 in
theorem refWithout_any (f : PFrame) (sa : Option Addr) (sl sc : Nat) (pa : Option Addr) (pl pc : Nat) (ca : Option Addr) (cl cc : Nat) (xa : Option Addr) (xl xc : Nat) (x : List Int) (ho : f.ok = true) (w : World) (hp : PAt w sa sl sc pa pl pc ca cl cc f) (hx : IntsAt w xa xl x) :
    Calls Try.prog 104 #[.agg #[.int .i64 f.len, .int .i64 f.slack, .slice sa sl sc, .slice pa pl pc, .slice ca cl cc], .slice xa xl xc] w fun e w' => NewOf (f.without x) sl pl cl w e w' ∧ Below w.heap.size w w' := by
  obtain ⟨s1, s2, s3, s4⟩ := ok_sizes sa sl sc pa pl pc ca cl cc ho hp
  have hcl := hp.2.2.1
  have HCL := Lib.hid (fun w1 (hb : Below w.heap.size w w1) => Copy_of f sa sl sc pa pl pc ca cl cc w1 (hp.below hb) s1 s2 s3 s4)
  have HIN := Lib.hid (fun v b (h : x.contains v = b) W (hb : Below w.heap.size w W) => refIn_any xa xl xc x v b h W (hx.below hb))
  have HWC := Lib.hid hp.2.2.2.2
  have hcl3 : cl ≤ 3 := by have := (PFrame.ok_parts ho).2.2.2.2.2.2; omega
  have HC6 := Lib.hid (fun k (hk : k < f.cols.length) => (PFrame.ok_col ho k hk).2)
  have HFN := Lib.hid (fun k (hk : k < f.cols.length) j (hj : j < f.cols[k].length) => filt_next (x := x) (xs := f.cols[k]) hj)
  have HCT := Lib.hid (fun k (hk : k < f.cols.length) => colsTo_next x f.cols hk)
  have HCL0 := Lib.hid (fun k => colsTo_len x f.cols k)
  have HEQ := Lib.hid (show { f with cols := colsTo x f.cols cl } = f.without x from by rw [← hcl, colsTo_all]; rfl)
  clear hp hx
  go_enter Try.func104, Try.ntmps104
  go_upto_region 1 with fail
  obtain ⟨W0, hW0, hB0, hs0, hr0, hz0⟩ := name2c w #[.int .i64 f.len, .int .i64 f.slack, .slice sa sl sc, .slice pa pl pc, .slice ca cl cc] 26 #[.int .i64 0, .int .i64 0, .slice none 0 0, .slice none 0 0, .slice none 0 0] 26
  have hfr1 : ∀ i, W0.frozen? ⟨w.heap.size + 1, i, none⟩ = false := by subst hW0; intro i; go_simp
  try rw [hW0]
  clear hW0
  obtain ⟨x0, x1, x2, x3, x4⟩ : W0.cell? ⟨w.heap.size, 0, none⟩ = some (.int .i64 f.len) ∧ W0.cell? ⟨w.heap.size, 1, none⟩ = some (.int .i64 f.slack) ∧ W0.cell? ⟨w.heap.size, 2, none⟩ = some (.slice sa sl sc) ∧ W0.cell? ⟨w.heap.size, 3, none⟩ = some (.slice pa pl pc) ∧ W0.cell? ⟨w.heap.size, 4, none⟩ = some (.slice ca cl cc) := ⟨hs0 0, hs0 1, hs0 2, hs0 3, hs0 4⟩
  have hd1 : w.heap.size < W0.heap.size := by omega
  have hd2 : w.heap.size + 1 < W0.heap.size := by omega
  go_upto_region 2 with (go_at_call 19; refine (HCL.out _ hB0).mono ?_; rintro e w2 ⟨gs, gsc, gp, gpc, va, vc, vs, N1, rfl, hPR, hb2⟩; have HPR := Lib.hid (WRow.of hPR); have HB2 := Lib.hid hb2; clear hPR hb2)
  have hz2 := HB2.out.size
  obtain ⟨w3, hw3, hB3, ho3, hz3⟩ := name1k w2 #[.int .i64 f.len, .int .i64 f.slack, .slice (some gs) sl gsc, .slice (some gp) pl gpc, .slice va cl vc] 26
  try rw [hw3]
  clear hw3
  have HW3 := Lib.hid (HPR.out.below hB3)
  have hB03 : Below W0.heap.size W0 w3 := HB2.out.trans (hB3.mono hz2)
  have HSB := Lib.hid (show w3.cell? ⟨w.heap.size, 0, none⟩ = some (.int .i64 f.len) ∧ w3.cell? ⟨w.heap.size, 1, none⟩ = some (.int .i64 f.slack) ∧ w3.cell? ⟨w.heap.size, 2, none⟩ = some (.slice sa sl sc) ∧ w3.cell? ⟨w.heap.size, 3, none⟩ = some (.slice pa pl pc) ∧ w3.cell? ⟨w.heap.size, 4, none⟩ = some (.slice ca cl cc) from ⟨(hB03.cell (p := ⟨w.heap.size, 0, none⟩) hd1).trans x0, (hB03.cell (p := ⟨w.heap.size, 1, none⟩) hd1).trans x1, (hB03.cell (p := ⟨w.heap.size, 2, none⟩) hd1).trans x2, (hB03.cell (p := ⟨w.heap.size, 3, none⟩) hd1).trans x3, (hB03.cell (p := ⟨w.heap.size, 4, none⟩) hd1).trans x4⟩)
  have HOB := Lib.hid (show w3.cell? ⟨w2.heap.size, 0, none⟩ = some (.int .i64 f.len) ∧ w3.cell? ⟨w2.heap.size, 1, none⟩ = some (.int .i64 f.slack) ∧ w3.cell? ⟨w2.heap.size, 2, none⟩ = some (.slice (some gs) sl gsc) ∧ w3.cell? ⟨w2.heap.size, 3, none⟩ = some (.slice (some gp) pl gpc) ∧ w3.cell? ⟨w2.heap.size, 4, none⟩ = some (.slice va cl vc) from ⟨ho3 0, ho3 1, ho3 2, ho3 3, ho3 4⟩)
  have HRB := Lib.hid (fun i => show w3.cell? ⟨w.heap.size + 1, i, none⟩ = #[Value.int .i64 0, .int .i64 0, .slice none 0 0, .slice none 0 0, .slice none 0 0][i]? ∧ w3.frozen? ⟨w.heap.size + 1, i, none⟩ = false from ⟨(hB03.cell (p := ⟨w.heap.size + 1, i, none⟩) hd2).trans (hr0 i), (hB03.frozen (p := ⟨w.heap.size + 1, i, none⟩) hd2).trans (hfr1 i)⟩)
  have HBW := Lib.hid (hB0.trans (hB03.mono hB0.size))
  have hs3 : w.heap.size < w3.heap.size := Nat.lt_of_lt_of_le hd1 hB03.size
  have hr3 : w.heap.size + 1 < w3.heap.size := Nat.lt_of_lt_of_le hd2 hB03.size
  obtain ⟨gO, hgO⟩ : ∃ gO, gO = w2.heap.size := ⟨_, rfl⟩
  rw [← hgO] at HOB hz3
  rw [← hgO]
  have hgW : W0.heap.size ≤ gO := by omega
  obtain ⟨R, hR⟩ : ∃ R, (Value.slice va cl vc).ownBlock = R := ⟨_, rfl⟩
  have hRb : ∀ r, R = some r → W0.heap.size ≤ r ∧ r < gO := fun r hr => by
    have := own_span HPR.out.2.2.1 r (by rw [hR]; exact hr)
    omega
  have HRBB := Lib.hid hRb
  have hRw : ¬ some w.heap.size = R := fun e => by have := (hRb _ e.symm).1; omega
  have hRx : ¬ some (w.heap.size + 1) = R := fun e => by have := (hRb _ e.symm).1; omega
  have hRg : ¬ some gO = R := fun e => by have := (hRb _ e.symm).2; omega
  have HRR := Lib.hid hR
  clear hB0 hB3 hB03 ho3 hr0 hs0 hfr1 HPR HB2 hRb hR hgO hz2 x0 x1 x2 x3 x4
  go_wp2_with fail
  go_loopw [6] (fun i wr => ∃ (k : Nat) (vs' : List Value), k ≤ cl ∧ i = .int .i64 k ∧ WRow f W0.heap.size sl pl cl gs gsc gp gpc va vc vs' (colsTo x f.cols k) wr ∧ w3.grownBy wr R) (fun i _ => cl - (intOf i).toNat)
  case atStart => exact ⟨0, vs, by omega, rfl, by rw [colsTo_zero]; exact HW3.out, gbx_refl _ _⟩
  case round =>
    obtain ⟨k, vs', hk, rfl, hWR, hG⟩ := hrel
    obtain ⟨W1, rfl⟩ : ∃ W1 : World, W1 = wr := ⟨_, rfl⟩
    have hcell : ∀ b i, b < w3.heap.size → ¬ some b = R → W1.cell? ⟨b, i, none⟩ = w3.cell? ⟨b, i, none⟩ := fun b i h1 h2 => World.cell?_of_block (w := w3) (a := ⟨b, i, none⟩) (hG.block b h1 h2)
    obtain ⟨x0, x1, x2, x3, x4⟩ : W1.cell? ⟨w.heap.size, 0, none⟩ = some (.int .i64 f.len) ∧ W1.cell? ⟨w.heap.size, 1, none⟩ = some (.int .i64 f.slack) ∧ W1.cell? ⟨w.heap.size, 2, none⟩ = some (.slice sa sl sc) ∧ W1.cell? ⟨w.heap.size, 3, none⟩ = some (.slice pa pl pc) ∧ W1.cell? ⟨w.heap.size, 4, none⟩ = some (.slice ca cl cc) := ⟨(hcell _ 0 hs3 hRw).trans HSB.out.1, (hcell _ 1 hs3 hRw).trans HSB.out.2.1, (hcell _ 2 hs3 hRw).trans HSB.out.2.2.1, (hcell _ 3 hs3 hRw).trans HSB.out.2.2.2.1, (hcell _ 4 hs3 hRw).trans HSB.out.2.2.2.2⟩
    obtain ⟨o0, o1, o2, o3, o4⟩ : W1.cell? ⟨gO, 0, none⟩ = some (.int .i64 f.len) ∧ W1.cell? ⟨gO, 1, none⟩ = some (.int .i64 f.slack) ∧ W1.cell? ⟨gO, 2, none⟩ = some (.slice (some gs) sl gsc) ∧ W1.cell? ⟨gO, 3, none⟩ = some (.slice (some gp) pl gpc) ∧ W1.cell? ⟨gO, 4, none⟩ = some (.slice va cl vc) := ⟨(hcell _ 0 hz3 hRg).trans HOB.out.1, (hcell _ 1 hz3 hRg).trans HOB.out.2.1, (hcell _ 2 hz3 hRg).trans HOB.out.2.2.1, (hcell _ 3 hz3 hRg).trans HOB.out.2.2.2.1, (hcell _ 4 hz3 hRg).trans HOB.out.2.2.2.2⟩
    have hbw : Below w.heap.size w W1 := HBW.out.grown hG HBW.out.size (fun r hr => by have := (HRBB.out r hr).1; omega)
    have HBW1 := Lib.hid hbw
    have HG := Lib.hid hG
    have HWR := Lib.hid hWR
    have hzg := hG.size
    have hg1 : gO < W1.heap.size := by omega
    have hs1 : w.heap.size < W1.heap.size := by omega
    have hcl' := hcl
    clear hcell hG hWR
    by_cases hlt : k < cl
    · obtain ⟨gv, rfl⟩ : ∃ gv, va = some ⟨gv, 0, none⟩ := by
        rcases HWR.out.2.2.1.2 with ⟨_, h0⟩ | ⟨g, c, cur, e1, _⟩
        · omega
        · injection e1 with e1; exact ⟨g, e1⟩
      obtain rfl : some gv = R := HRR.out
      have hgv := HRBB.out gv rfl
      obtain ⟨hv0, cur, hvc⟩ := own_parts HWR.out.2.2.1
      have hgvW : gv < W1.heap.size := (Array.getElem?_eq_some_iff.1 hvc).1
      have hks : k < f.cols.length := by omega
      obtain ⟨wb, wo, rfl, hwb, hwc⟩ := HWC.out (by omega)
      obtain ⟨ra, rl, rc, hcc, -, hints⟩ := hwc k hks
      have hcx := (hbw.cell (p := ⟨wb, wo + k, none⟩) hwb).trans hcc
      have hvl : vs'.length = cl := by have := HWR.out.2.2.2.1; rw [this, HCL0.out]; exact hcl
      have hvk : ∃ u, vs'[k]? = some u := ⟨vs'[k]'(by omega), List.getElem?_eq_getElem _⟩
      obtain ⟨u0, hu0⟩ := hvk
      have hcv : W1.cell? ⟨gv, k, none⟩ = some u0 := by
        have := HWR.out.2.2.1.cells (g := gv) rfl k u0 hu0
        rw [Addr.add_lit] at this
        rwa [Nat.zero_add] at this
      have hfv : W1.frozen? ⟨gv, k, none⟩ = false := by simp [World.frozen?, hvc]
      have hkl : (k : Int) < (cl : Int) := by omega
      have hk0 : (0 : Int) ≤ (k : Int) := by omega
      clear hbw
      go_upto_region 6 with fail
      have hBg : W1.grownBy (W1.setCell ⟨gv, k, none⟩ (.slice none 0 0)) (some gv) := gbx_set (gbx_refl _ _) _ _
      obtain ⟨W2, hW2, hg2, hO2, hc2⟩ : ∃ W2, W1.setCell ⟨gv, k, none⟩ (.slice none 0 0) = W2 ∧ W1.grownBy W2 (some gv) ∧ W2.ownsRow W0.heap.size 27 1 (.slice (some ⟨gv, 0, none⟩) cl vc) cl (vs'.set k (.slice none 0 0)) ∧ W2.heap.size = W1.heap.size :=
        ⟨_, rfl, hBg, own_set HWR.out.2.2.1 k _, by simp [World.setCell]⟩
      rw [hW2]
      clear hW2 hBg
      have HG2 := Lib.hid hg2
      have HO2 := Lib.hid hO2
      have hni : ∀ b, b < gv ∨ gv < b → ¬ some b = some gv := fun b h e => by injection e with e; omega
      have hc1 : ∀ b i, b < W1.heap.size → (b < gv ∨ gv < b) → W2.cell? ⟨b, i, none⟩ = W1.cell? ⟨b, i, none⟩ := fun b i h1 h2 => World.cell?_of_block (w := W1) (a := ⟨b, i, none⟩) (hg2.block b h1 (hni b h2))
      have HBW2 := Lib.hid (HBW1.out.grown hg2 HBW1.out.size (fun r hr => by injection hr with hr; omega))
      have y4 := (hc1 _ 4 hs1 (by omega)).trans x4
      have oo4 := (hc1 _ 4 hg1 (by omega)).trans o4
      have HXX := Lib.hid (And.intro y4 oo4)
      have hs2 : w.heap.size < W2.heap.size := by omega
      have hg2z : gO < W2.heap.size := by omega
      have hgv2 : gv < W2.heap.size := by omega
      have HCK := Lib.hid hcc
      have HII := Lib.hid hints
      have hrl := hints.1
      have hrl6 : rl ≤ 6 := by have := HC6.out k hks; omega
      clear hg2 hO2 hc1 y4 oo4 x0 x1 x2 x3 x4 o0 o1 o2 o3 o4 hcx hcc hints hcv hfv hvc hc2
      obtain ⟨X, hX⟩ : ∃ X, f.cols[k] = X := ⟨_, rfl⟩
      have HFX := Lib.hid (fun j (hj : j < X.length) => show (X.take (j + 1)).filter (fun v => !x.contains v) = (X.take j).filter (fun v => !x.contains v) ++ (if x.contains X[j] then [] else [X[j]]) from filt_next hj)
      rw [hX] at HII hrl
      have HHX := Lib.hid hX
      clear hX
      go_wp2_with fail
      go_loopw [7] (fun i wr => ∃ (j : Nat) (va' : Option Addr) (m vc' : Nat), j ≤ rl ∧ i = .int .i64 j ∧ m = ((X.take j).filter fun v => !x.contains v).length ∧ W2.grownBy wr (some gv) ∧ wr.ownsRow W0.heap.size 27 1 (.slice (some ⟨gv, 0, none⟩) cl vc) cl (vs'.set k (.slice va' m vc')) ∧ wr.ownsRow W2.heap.size 3 1 (.slice va' m vc') m (((X.take j).filter fun v => !x.contains v).map (Value.int .i64))) (fun i _ => rl - (intOf i).toNat)
      case atStart => exact ⟨0, none, 0, 0, by omega, rfl, rfl, gbx_refl _ _, HO2.out, rfl, .inl ⟨rfl, rfl⟩⟩
      case round =>
        obtain ⟨j, va', m, vc', hj, rfl, hm, hG3, hO3, hR3⟩ := hrel
        obtain ⟨W3, rfl⟩ : ∃ W3 : World, W3 = wr := ⟨_, rfl⟩
        have hc3 : ∀ b i, b < W2.heap.size → (b < gv ∨ gv < b) → W3.cell? ⟨b, i, none⟩ = W2.cell? ⟨b, i, none⟩ := fun b i h1 h2 => World.cell?_of_block (w := W2) (a := ⟨b, i, none⟩) (hG3.block b h1 (hni b h2))
        have z4 := (hc3 _ 4 hs2 (by omega)).trans HXX.out.1
        have zo4 := (hc3 _ 4 hg2z (by omega)).trans HXX.out.2
        have hbw3 := HBW2.out.grown hG3 HBW2.out.size (fun r hr => by injection hr with hr; omega)
        have z5 := (hbw3.cell (p := ⟨wb, wo + k, none⟩) hwb).trans HCK.out
        have hz23 := hG3.size
        have HG3 := Lib.hid hG3
        have HO3 := Lib.hid hO3
        have HR3 := Lib.hid hR3
        have HBW3 := Lib.hid hbw3
        by_cases hjl : j < rl
        · have hjX : j < X.length := by omega
          obtain ⟨rb, ro, rfl, hrb, hrc⟩ := HII.out.2.2 (by omega)
          have z6 := (hbw3.cell (p := ⟨rb, ro + j, none⟩) hrb).trans (hrc j hjX)
          have z7 : W3.cell? ⟨gv, k, none⟩ = some (.slice va' m vc') := by
            have := hO3.cells (g := gv) rfl k (.slice va' m vc') (List.getElem?_set_self (by omega))
            rw [Addr.add_lit] at this
            rwa [Nat.zero_add] at this
          have z8 : W3.frozen? ⟨gv, k, none⟩ = false := by
            obtain ⟨-, cu, hcu⟩ := own_parts hO3
            simp [World.frozen?, hcu]
          have hfx := HFX.out j hjX
          obtain ⟨y, hy⟩ : ∃ y, X[j] = y := ⟨_, rfl⟩
          have hyy := hy
          rw [hy] at z6 hfx
          obtain ⟨b, hb⟩ : ∃ b, x.contains y = b := ⟨_, rfl⟩
          have HINY := Lib.hid (fun W (h : Below W3.heap.size W3 W) => HIN.out y b hb W (HBW3.out.trans (h.mono HBW3.out.size)))
          rw [hb] at hfx
          have HFY := Lib.hid hfx
          have HMM := Lib.hid hm
          have HRJ := Lib.hid (show w.cell? ⟨rb, ro + j, none⟩ = some (.int .i64 y) from by rw [← hyy]; exact hrc j hjX)
          have hml : m ≤ 6 := by
            rw [hm]
            refine Nat.le_trans (List.length_filter_le _ _) ?_
            rw [List.length_take]; omega
          have hjr : (j : Int) < (rl : Int) := by omega
          have hj0 : (0 : Int) ≤ (j : Int) := by omega
          have hgv3 : gv < W3.heap.size := by omega
          have hgO3 : gO < W3.heap.size := by omega
          have hmg : ∀ r, (Value.slice va' m vc').ownBlock = some r → W2.heap.size ≤ r := fun r e => own_low hR3 r e
          have HMG := Lib.hid hmg
          clear hc3 hbw3 hG3 hO3 hR3 hrc hy hyy hb hfx hm hmg
          go_wp2_with fail
          refine (HINY.out _ (by repeat (first | exact Below.refl _ _ | (refine Below.alloc ?_ (by first | omega | (simp; omega) | simp) _) | (refine Below.setCell ?_ (by first | omega | (simp; omega) | simp) _) | refine Below.drew ?_))).mono ?_
          rintro e w5 ⟨rfl, hb5⟩
          have HB5 := Lib.hid (show Below W3.heap.size W3 w5 from below_via (Lib.hid hb5) (by first | exact Nat.le_refl _ | (simp; done) | (simp; omega)) (by repeat (first | exact Below.refl _ _ | (refine Below.alloc ?_ (by first | omega | (simp; omega) | simp) _) | (refine Below.setCell ?_ (by first | omega | (simp; omega) | simp) _) | refine Below.drew ?_)))
          clear hb5
          rcases b with - | -
          · have a7 := (HB5.out.cell (p := ⟨gv, k, none⟩) hgv3).trans z7
            have a8 := (HB5.out.frozen (p := ⟨gv, k, none⟩) hgv3).trans z8
            have hS5 := gS_of (gb_chain (row := none) HG3.out (grown_none HB5.out) (fun r e => by cases e))
            have c4 := HXX.out.1
            have co4 := HXX.out.2
            have c5 := (HBW2.out.cell (p := ⟨wb, wo + k, none⟩) hwb).trans HCK.out
            have c6 : W2.cell? ⟨rb, ro + j, none⟩ = some (.int .i64 y) := (HBW2.out.cell (p := ⟨rb, ro + j, none⟩) hrb).trans HRJ.out
            have m1 : ¬ w.heap.size = gv := by omega
            have m2 : ¬ gO = gv := by omega
            have m3 : ¬ wb = gv := by omega
            have m4 : ¬ rb = gv := by omega
            have l4 : wb < W2.heap.size := Nat.lt_of_lt_of_le hwb HBW2.out.size
            have l5 : rb < W2.heap.size := Nat.lt_of_lt_of_le hrb HBW2.out.size
            have hz5 := HB5.out.size
            have l1 : gv < w5.heap.size := by omega
            have HZ7 := Lib.hid (And.intro z7 z8)
            clear z4 zo4 z5 z6 z7 z8
            go_upto_region 10 with fail
            have h3l : m + 1 ≤ 4000000 := by omega
            refine wp_region_noPanic ?_
            refine wp_region_held_drew (S := (fun w' => W2.grownBy w' (some gv) ∧ ∀ b o, b < W2.heap.size → ¬ b = gv → w'.cell? ⟨b, o, none⟩ = W2.cell? ⟨b, o, none⟩)) (by kernel_rfl) ?_ (fun hHeld => ?_)
            · (first | with_reducible assumption | ((repeat (first | with_reducible refine gS_drew ?_ | with_reducible refine gS_alloc _ ?_ | with_reducible refine gS_set _ _ ?_)); first | with_reducible assumption | with_reducible exact gS_of (gbx_refl _ _)))
            refine wpAnyH_take (i := 0) (oi := ?_) (v := ?_) ?_ ?_ ?_ ?_ ?_ ?_ ?_ ?_; rotate_left 2; (· simp only [List.getElem?_toArray, List.getElem?_cons_succ, List.getElem?_cons_zero]; with_reducible rfl); (· kernel_rfl); (· kernel_rfl); (· kernel_rfl); (· exact fun _ _ _ h => h); (· refine Or.inl ⟨by rfl, ?_⟩; intro w hSw; (try dsimp only at hSw); go_simp; try with_reducible rfl); (· assumption); (try simp only [Act.put, List.setIfInBounds_toArray, List.set_cons_zero, List.set_cons_succ])
            refine wpAnyH_take (i := 1) (oi := ?_) (v := ?_) ?_ ?_ ?_ ?_ ?_ ?_ ?_ ?_; rotate_left 2; (· simp only [List.getElem?_toArray, List.getElem?_cons_succ, List.getElem?_cons_zero]; with_reducible rfl); (· kernel_rfl); (· kernel_rfl); (· kernel_rfl); (· exact fun _ _ _ h => h); (· refine Or.inl ⟨by rfl, ?_⟩; intro w hSw; (try dsimp only at hSw); go_simp; try with_reducible rfl); (· assumption); (try simp only [Act.put, List.setIfInBounds_toArray, List.set_cons_zero, List.set_cons_succ])
            refine wpAnyH_take (i := 2) (oi := ?_) (v := ?_) ?_ ?_ ?_ ?_ ?_ ?_ ?_ ?_; rotate_left 2; (· simp only [List.getElem?_toArray, List.getElem?_cons_succ, List.getElem?_cons_zero]; with_reducible rfl); (· kernel_rfl); (· kernel_rfl); (· kernel_rfl); (· exact fun _ _ _ h => h); (· refine Or.inl ⟨by rfl, ?_⟩; intro w hSw; (try dsimp only at hSw); go_simp; try with_reducible rfl); (· assumption); (try simp only [Act.put, List.setIfInBounds_toArray, List.set_cons_zero, List.set_cons_succ])
            refine wpAnyH_take (i := 3) (oi := ?_) (v := ?_) ?_ ?_ ?_ ?_ ?_ ?_ ?_ ?_; rotate_left 2; (· simp only [List.getElem?_toArray, List.getElem?_cons_succ, List.getElem?_cons_zero]; with_reducible rfl); (· kernel_rfl); (· kernel_rfl); (· kernel_rfl); (· exact fun _ _ _ h => h); (· refine Or.inl ⟨by rfl, ?_⟩; intro w hSw; (try dsimp only at hSw); go_simp; try with_reducible rfl); (· assumption); (try simp only [Act.put, List.setIfInBounds_toArray, List.set_cons_zero, List.set_cons_succ])
            refine wpAnyH_take (i := 4) (oi := ?_) (v := ?_) ?_ ?_ ?_ ?_ ?_ ?_ ?_ ?_; rotate_left 2; (· simp only [List.getElem?_toArray, List.getElem?_cons_succ, List.getElem?_cons_zero]; with_reducible rfl); (· kernel_rfl); (· kernel_rfl); (· kernel_rfl); (· exact fun _ _ _ h => h); (· refine Or.inl ⟨by rfl, ?_⟩; intro w hSw; (try dsimp only at hSw); go_simp; try with_reducible rfl); (· assumption); (try simp only [Act.put, List.setIfInBounds_toArray, List.set_cons_zero, List.set_cons_succ])
            refine wpAnyH_take (i := 5) (oi := ?_) (v := ?_) ?_ ?_ ?_ ?_ ?_ ?_ ?_ ?_; rotate_left 2; (· simp only [List.getElem?_toArray, List.getElem?_cons_succ, List.getElem?_cons_zero]; with_reducible rfl); (· kernel_rfl); (· kernel_rfl); (· kernel_rfl); (· exact fun _ _ _ h => h); (· refine Or.inl ⟨by rfl, ?_⟩; intro w hSw; (try dsimp only at hSw); go_simp; try with_reducible rfl); (· assumption); (try simp only [Act.put, List.setIfInBounds_toArray, List.set_cons_zero, List.set_cons_succ])
            refine wpAnyH_take (i := 6) (oi := ?_) (v := ?_) ?_ ?_ ?_ ?_ ?_ ?_ ?_ ?_; rotate_left 2; (· simp only [List.getElem?_toArray, List.getElem?_cons_succ, List.getElem?_cons_zero]; with_reducible rfl); (· kernel_rfl); (· kernel_rfl); (· kernel_rfl); (· exact fun _ _ _ h => h); (· refine Or.inl ⟨by rfl, ?_⟩; intro w hSw; (try dsimp only at hSw); go_simp; try with_reducible rfl); (· assumption); (try simp only [Act.put, List.setIfInBounds_toArray, List.set_cons_zero, List.set_cons_succ])
            refine wpAnyH_take (i := 8) (oi := ?_) (v := ?_) ?_ ?_ ?_ ?_ ?_ ?_ ?_ ?_; rotate_left 2; (· simp only [List.getElem?_toArray, List.getElem?_cons_succ, List.getElem?_cons_zero]; with_reducible rfl); (· kernel_rfl); (· kernel_rfl); (· kernel_rfl); (· exact fun _ _ _ h => h); (· refine Or.inl ⟨by rfl, ?_⟩; intro w hSw; (try dsimp only at hSw); go_simp; try with_reducible rfl); (· assumption); (try simp only [Act.put, List.setIfInBounds_toArray, List.set_cons_zero, List.set_cons_succ])
            refine wpAnyH_take (i := 9) (oi := ?_) (v := ?_) ?_ ?_ ?_ ?_ ?_ ?_ ?_ ?_; rotate_left 2; (· simp only [List.getElem?_toArray, List.getElem?_cons_succ, List.getElem?_cons_zero]; with_reducible rfl); (· kernel_rfl); (· kernel_rfl); (· kernel_rfl); (· exact fun _ _ _ h => h); (· refine Or.inl ⟨by rfl, ?_⟩; intro w hSw; (try dsimp only at hSw); go_simp; try with_reducible rfl); (· assumption); (try simp only [Act.put, List.setIfInBounds_toArray, List.set_cons_zero, List.set_cons_succ])
            refine wpAnyH_take (i := 10) (oi := ?_) (v := ?_) ?_ ?_ ?_ ?_ ?_ ?_ ?_ ?_; rotate_left 2; (· simp only [List.getElem?_toArray, List.getElem?_cons_succ, List.getElem?_cons_zero]; with_reducible rfl); (· kernel_rfl); (· kernel_rfl); (· kernel_rfl); (· exact fun _ _ _ h => h); (· refine Or.inl ⟨by rfl, ?_⟩; intro w hSw; (try dsimp only at hSw); go_simp; try with_reducible rfl); (· assumption); (try simp only [Act.put, List.setIfInBounds_toArray, List.set_cons_zero, List.set_cons_succ])
            refine wpAnyH_take (i := 11) (oi := ?_) (v := ?_) ?_ ?_ ?_ ?_ ?_ ?_ ?_ ?_; rotate_left 2; (· simp only [List.getElem?_toArray, List.getElem?_cons_succ, List.getElem?_cons_zero]; with_reducible rfl); (· kernel_rfl); (· kernel_rfl); (· kernel_rfl); (· exact fun _ _ _ h => h); (· refine Or.inl ⟨by rfl, ?_⟩; intro w hSw; (try dsimp only at hSw); go_simp; try with_reducible rfl); (· assumption); (try simp only [Act.put, List.setIfInBounds_toArray, List.set_cons_zero, List.set_cons_succ])
            refine wpAnyH_take (i := 12) (oi := ?_) (v := ?_) ?_ ?_ ?_ ?_ ?_ ?_ ?_ ?_; rotate_left 2; (· simp only [List.getElem?_toArray, List.getElem?_cons_succ, List.getElem?_cons_zero]; with_reducible rfl); (· kernel_rfl); (· kernel_rfl); (· kernel_rfl); (· exact fun _ _ _ h => h); (· refine Or.inl ⟨by rfl, ?_⟩; intro w hSw; (try dsimp only at hSw); go_simp; try with_reducible rfl); (· assumption); (try simp only [Act.put, List.setIfInBounds_toArray, List.set_cons_zero, List.set_cons_succ])
            refine wpAnyH_take (i := 13) (oi := ?_) (v := ?_) ?_ ?_ ?_ ?_ ?_ ?_ ?_ ?_; rotate_left 2; (· simp only [List.getElem?_toArray, List.getElem?_cons_succ, List.getElem?_cons_zero]; with_reducible rfl); (· kernel_rfl); (· kernel_rfl); (· kernel_rfl); (· exact fun _ _ _ h => h); (· refine Or.inl ⟨by rfl, ?_⟩; intro w hSw; (try dsimp only at hSw); go_simp; try with_reducible rfl); (· assumption); (try simp only [Act.put, List.setIfInBounds_toArray, List.set_cons_zero, List.set_cons_succ])
            refine wpAnyH_take (i := 14) (oi := ?_) (v := ?_) ?_ ?_ ?_ ?_ ?_ ?_ ?_ ?_; rotate_left 2; (· simp only [List.getElem?_toArray, List.getElem?_cons_succ, List.getElem?_cons_zero]; with_reducible rfl); (· kernel_rfl); (· kernel_rfl); (· kernel_rfl); (· exact fun _ _ _ h => h); (· refine Or.inl ⟨by rfl, ?_⟩; intro w hSw; (try dsimp only at hSw); go_simp; try with_reducible rfl); (· assumption); (try simp only [Act.put, List.setIfInBounds_toArray, List.set_cons_zero, List.set_cons_succ])
            refine wpAnyH_take (i := 15) (oi := ?_) (v := ?_) ?_ ?_ ?_ ?_ ?_ ?_ ?_ ?_; rotate_left 2; (· simp only [List.getElem?_toArray, List.getElem?_cons_succ, List.getElem?_cons_zero]; with_reducible rfl); (· kernel_rfl); (· kernel_rfl); (· kernel_rfl); (· exact fun _ _ _ h => h); (· refine Or.inl ⟨by rfl, ?_⟩; intro w hSw; (try dsimp only at hSw); go_simp; try with_reducible rfl); (· assumption); (try simp only [Act.put, List.setIfInBounds_toArray, List.set_cons_zero, List.set_cons_succ])
            refine wpAnyH_ready (rs := [7, 16]) (by kernel_rfl) (by simp) ?_; refine AllReadyH.cons (o := ?_) ?_ (fun K hK => ?_) ?_; rotate_left 1; (· simp only [List.getElem?_toArray, List.getElem?_cons_succ, List.getElem?_cons_zero]; with_reducible rfl); rotate_left 1; refine AllReadyH.cons (o := ?_) ?_ (fun K hK => ?_) AllReadyH.nil; rotate_left 1; (· simp only [List.getElem?_toArray, List.getElem?_cons_succ, List.getElem?_cons_zero]; with_reducible rfl); rotate_left 1
            · go_simp; refine hK.out _ _ ?_ (fun hHeld => ?_); (· (first | with_reducible assumption | ((repeat (first | with_reducible refine gS_drew ?_ | with_reducible refine gS_alloc _ ?_ | with_reducible refine gS_set _ _ ?_)); first | with_reducible assumption | with_reducible exact gS_of (gbx_refl _ _)))); clear hK K; (try simp only [Act.put, List.setIfInBounds_toArray, List.set_cons_zero, List.set_cons_succ])
              refine wpAnyH_ready (rs := [16]) (by kernel_rfl) (by simp) ?_; refine AllReadyH.cons (o := ?_) ?_ (fun K hK => ?_) AllReadyH.nil; rotate_left 1; (· simp only [List.getElem?_toArray, List.getElem?_cons_succ, List.getElem?_cons_zero]; with_reducible rfl); go_simp; skip; refine hK.out _ _ ?_ (fun hHeld => ?_); (· (first | with_reducible assumption | ((repeat (first | with_reducible refine gS_drew ?_ | with_reducible refine gS_alloc _ ?_ | with_reducible refine gS_set _ _ ?_)); first | with_reducible assumption | with_reducible exact gS_of (gbx_refl _ _)))); clear hK K; (try simp only [Act.put, List.setIfInBounds_toArray, List.set_cons_zero, List.set_cons_succ])
              refine wpAnyH_ready (rs := [17]) (by kernel_rfl) (by simp) ?_; refine AllReadyH.cons (o := ?_) ?_ (fun K hK => ?_) AllReadyH.nil; rotate_left 1; (· simp only [List.getElem?_toArray, List.getElem?_cons_succ, List.getElem?_cons_zero]; with_reducible rfl); ((with_reducible refine step_append_big _ 27 3 (.int .i64 0) 8 Try.underlying27 Try.info3 rfl (by decide) W2.heap.size m (.slice va' m vc') (.int .i64 y) (((X.take j).filter fun v => !x.contains v).map (Value.int .i64)) rfl h3l rfl _ _ rfl ?_ ?_ ?_ ?_ ?_); (· rfl); (· refine ⟨_, rfl, ?_⟩; (go_simp; done)); (· exact HR3.out.kept (grown_none (by repeat (first | exact HB5.out | (refine Below.alloc ?_ (by first | omega | (simp; omega) | simp) _) | refine Below.drew ?_))) (Classical.em _)); (· first | omega | (simp; omega)); intro v' wB hownB hgB hatB; have HGB := Lib.hid (gb_up2 (W := W3) (by repeat (first | exact HB5.out | (refine Below.alloc ?_ (by first | omega | (simp; omega) | simp) _) | refine Below.drew ?_)) hgB); obtain ⟨qa, qc, rfl⟩ := own_slice1 hownB; have hnq : ¬ some gv = (Value.slice va' m vc').ownBlock := (fun e => by have := HMG.out gv e.symm; omega); have b7 : wB.cell? ⟨gv, k, none⟩ = some (.slice va' m vc') := (World.cell?_of_block (w := W3) (a := ⟨gv, k, none⟩) (HGB.out.block gv hgv3 hnq)).trans HZ7.out.1; have b8 : wB.frozen? ⟨gv, k, none⟩ = false := (World.frozen?_of_block (w := W3) (a := ⟨gv, k, none⟩) (HGB.out.block gv hgv3 hnq)).trans HZ7.out.2; have kS := gS_of (gb_chain HG3.out HGB.out (HMG.out)); have HNQ := Lib.hid hnq; have HOB' := Lib.hid hownB; clear hownB hgB hatB hnq); refine hK.out _ _ ?_ (fun hHeld => ?_); (· (first | with_reducible assumption | ((repeat (first | with_reducible refine gS_drew ?_ | with_reducible refine gS_alloc _ ?_ | with_reducible refine gS_set _ _ ?_)); first | with_reducible assumption | with_reducible exact gS_of (gbx_refl _ _)))); clear hK K; (try simp only [Act.put, List.setIfInBounds_toArray, List.set_cons_zero, List.set_cons_succ])
              refine wpAnyH_take (i := 18) (oi := ?_) (v := ?_) ?_ ?_ ?_ ?_ ?_ ?_ ?_ ?_; rotate_left 2; (· simp only [List.getElem?_toArray, List.getElem?_cons_succ, List.getElem?_cons_zero]; with_reducible rfl); (· kernel_rfl); (· kernel_rfl); (· kernel_rfl); (· exact fun _ _ _ h => h); (· refine Or.inl ⟨by rfl, ?_⟩; intro w hSw; (try dsimp only at hSw); go_simp; try with_reducible rfl); (· assumption); (try simp only [Act.put, List.setIfInBounds_toArray, List.set_cons_zero, List.set_cons_succ])
              refine wpAnyH_ready (rs := [19]) (by kernel_rfl) (by simp) ?_; refine AllReadyH.cons (o := ?_) ?_ (fun K hK => ?_) AllReadyH.nil; rotate_left 1; (· simp only [List.getElem?_toArray, List.getElem?_cons_succ, List.getElem?_cons_zero]; with_reducible rfl); go_simp; skip; refine hK.out _ _ ?_ (fun hHeld => ?_); (· (first | with_reducible assumption | ((repeat (first | with_reducible refine gS_drew ?_ | with_reducible refine gS_alloc _ ?_ | with_reducible refine gS_set _ _ ?_)); first | with_reducible assumption | with_reducible exact gS_of (gbx_refl _ _)))); clear hK K; (try simp only [Act.put, List.setIfInBounds_toArray, List.set_cons_zero, List.set_cons_succ])
              refine wpAnyH_done (by kernel_rfl) ?_ _
              refine NoPanic.normal ?_
              go_wp2_with fail
              go_roundw
              case rel =>
                refine ⟨j + 1, qa, m + 1, qc, by omega, by go_num, ?_, gbx_set (gb_chain HG3.out HGB.out (HMG.out)) _ _, ?_, ?_⟩
                · rw [HFY.out, List.length_append, ← HMM.out]; rfl
                · have h := own_set (HO3.out.kept HGB.out (.inr HNQ.out)) k (.slice qa (m + 1) qc)
                  rw [List.set_set] at h
                  exact h
                · rw [HFY.out, List.map_append]
                  exact HOB'.out.kept (gbx_set (gbx_refl _ _) _ _) (.inr fun e => by have := own_low HOB'.out gv e; omega)
              case measure => simp [intOf]; omega
            · go_simp; refine hK.out _ _ ?_ (fun hHeld => ?_); (· (first | with_reducible assumption | ((repeat (first | with_reducible refine gS_drew ?_ | with_reducible refine gS_alloc _ ?_ | with_reducible refine gS_set _ _ ?_)); first | with_reducible assumption | with_reducible exact gS_of (gbx_refl _ _)))); clear hK K; (try simp only [Act.put, List.setIfInBounds_toArray, List.set_cons_zero, List.set_cons_succ])
              refine wpAnyH_ready (rs := [7]) (by kernel_rfl) (by simp) ?_; refine AllReadyH.cons (o := ?_) ?_ (fun K hK => ?_) AllReadyH.nil; rotate_left 1; (· simp only [List.getElem?_toArray, List.getElem?_cons_succ, List.getElem?_cons_zero]; with_reducible rfl); go_simp; skip; refine hK.out _ _ ?_ (fun hHeld => ?_); (· (first | with_reducible assumption | ((repeat (first | with_reducible refine gS_drew ?_ | with_reducible refine gS_alloc _ ?_ | with_reducible refine gS_set _ _ ?_)); first | with_reducible assumption | with_reducible exact gS_of (gbx_refl _ _)))); clear hK K; (try simp only [Act.put, List.setIfInBounds_toArray, List.set_cons_zero, List.set_cons_succ])
              refine wpAnyH_ready (rs := [17]) (by kernel_rfl) (by simp) ?_; refine AllReadyH.cons (o := ?_) ?_ (fun K hK => ?_) AllReadyH.nil; rotate_left 1; (· simp only [List.getElem?_toArray, List.getElem?_cons_succ, List.getElem?_cons_zero]; with_reducible rfl); ((with_reducible refine step_append_big _ 27 3 (.int .i64 0) 8 Try.underlying27 Try.info3 rfl (by decide) W2.heap.size m (.slice va' m vc') (.int .i64 y) (((X.take j).filter fun v => !x.contains v).map (Value.int .i64)) rfl h3l rfl _ _ rfl ?_ ?_ ?_ ?_ ?_); (· rfl); (· refine ⟨_, rfl, ?_⟩; (go_simp; done)); (· exact HR3.out.kept (grown_none (by repeat (first | exact HB5.out | (refine Below.alloc ?_ (by first | omega | (simp; omega) | simp) _) | refine Below.drew ?_))) (Classical.em _)); (· first | omega | (simp; omega)); intro v' wB hownB hgB hatB; have HGB := Lib.hid (gb_up2 (W := W3) (by repeat (first | exact HB5.out | (refine Below.alloc ?_ (by first | omega | (simp; omega) | simp) _) | refine Below.drew ?_)) hgB); obtain ⟨qa, qc, rfl⟩ := own_slice1 hownB; have hnq : ¬ some gv = (Value.slice va' m vc').ownBlock := (fun e => by have := HMG.out gv e.symm; omega); have b7 : wB.cell? ⟨gv, k, none⟩ = some (.slice va' m vc') := (World.cell?_of_block (w := W3) (a := ⟨gv, k, none⟩) (HGB.out.block gv hgv3 hnq)).trans HZ7.out.1; have b8 : wB.frozen? ⟨gv, k, none⟩ = false := (World.frozen?_of_block (w := W3) (a := ⟨gv, k, none⟩) (HGB.out.block gv hgv3 hnq)).trans HZ7.out.2; have kS := gS_of (gb_chain HG3.out HGB.out (HMG.out)); have HNQ := Lib.hid hnq; have HOB' := Lib.hid hownB; clear hownB hgB hatB hnq); refine hK.out _ _ ?_ (fun hHeld => ?_); (· (first | with_reducible assumption | ((repeat (first | with_reducible refine gS_drew ?_ | with_reducible refine gS_alloc _ ?_ | with_reducible refine gS_set _ _ ?_)); first | with_reducible assumption | with_reducible exact gS_of (gbx_refl _ _)))); clear hK K; (try simp only [Act.put, List.setIfInBounds_toArray, List.set_cons_zero, List.set_cons_succ])
              refine wpAnyH_take (i := 18) (oi := ?_) (v := ?_) ?_ ?_ ?_ ?_ ?_ ?_ ?_ ?_; rotate_left 2; (· simp only [List.getElem?_toArray, List.getElem?_cons_succ, List.getElem?_cons_zero]; with_reducible rfl); (· kernel_rfl); (· kernel_rfl); (· kernel_rfl); (· exact fun _ _ _ h => h); (· refine Or.inl ⟨by rfl, ?_⟩; intro w hSw; (try dsimp only at hSw); go_simp; try with_reducible rfl); (· assumption); (try simp only [Act.put, List.setIfInBounds_toArray, List.set_cons_zero, List.set_cons_succ])
              refine wpAnyH_ready (rs := [19]) (by kernel_rfl) (by simp) ?_; refine AllReadyH.cons (o := ?_) ?_ (fun K hK => ?_) AllReadyH.nil; rotate_left 1; (· simp only [List.getElem?_toArray, List.getElem?_cons_succ, List.getElem?_cons_zero]; with_reducible rfl); go_simp; skip; refine hK.out _ _ ?_ (fun hHeld => ?_); (· (first | with_reducible assumption | ((repeat (first | with_reducible refine gS_drew ?_ | with_reducible refine gS_alloc _ ?_ | with_reducible refine gS_set _ _ ?_)); first | with_reducible assumption | with_reducible exact gS_of (gbx_refl _ _)))); clear hK K; (try simp only [Act.put, List.setIfInBounds_toArray, List.set_cons_zero, List.set_cons_succ])
              refine wpAnyH_done (by kernel_rfl) ?_ _
              refine NoPanic.normal ?_
              go_wp2_with fail
              go_roundw
              case rel =>
                refine ⟨j + 1, qa, m + 1, qc, by omega, by go_num, ?_, gbx_set (gb_chain HG3.out HGB.out (HMG.out)) _ _, ?_, ?_⟩
                · rw [HFY.out, List.length_append, ← HMM.out]; rfl
                · have h := own_set (HO3.out.kept HGB.out (.inr HNQ.out)) k (.slice qa (m + 1) qc)
                  rw [List.set_set] at h
                  exact h
                · rw [HFY.out, List.map_append]
                  exact HOB'.out.kept (gbx_set (gbx_refl _ _) _ _) (.inr fun e => by have := own_low HOB'.out gv e; omega)
              case measure => simp [intOf]; omega
          · have HFY2 := Lib.hid (show (X.take (j + 1)).filter (fun v => !x.contains v) = (X.take j).filter (fun v => !x.contains v) from HFY.out.trans (List.append_nil _))
            go_wp2_with fail
            go_roundw
            case rel =>
              refine ⟨j + 1, va', m, vc', by omega, by go_num, ?_, gb_chain (row := none) HG3.out (grown_none HB5.out) (fun r e => by cases e), HO3.out.kept (grown_none HB5.out) (Classical.em _), ?_⟩
              · rw [HFY2.out]; exact HMM.out
              · rw [HFY2.out]
                exact HR3.out.kept (grown_none HB5.out) (Classical.em _)
            case measure => simp [intOf]; omega
        · obtain rfl : rl = j := by omega
          have hXT : X.take rl = X := List.take_of_length_le (by omega)
          rw [hXT] at hm hR3
          have hfin := HWR.out.setv (k := k) (W := W3) (gb_both HG2.out hG3) hO3 hm.symm hR3 (by omega)
          have e := HCT.out k hks
          rw [HHX.out] at e
          rw [e] at hfin
          have HFIN := Lib.hid hfin
          clear hfin e hc3 hbw3 hG3 hO3 hR3 hm hXT
          go_wp2_with fail
          go_roundw
          case rel => exact ⟨k + 1, _, by omega, by go_num, HFIN.out, gb_both HG.out (gb_both HG2.out HG3.out)⟩
          case measure => simp [intOf]; omega
    · obtain rfl : cl = k := by omega
      have hW1 : w.heap.size + 1 < W1.heap.size := by omega
      have hrb : ∀ i, W1.cell? ⟨w.heap.size + 1, i, none⟩ = #[Value.int .i64 0, .int .i64 0, .slice none 0 0, .slice none 0 0, .slice none 0 0][i]? ∧ W1.frozen? ⟨w.heap.size + 1, i, none⟩ = false := fun i => ⟨(World.cell?_of_block (w := w3) (a := ⟨w.heap.size + 1, i, none⟩) (HG.out.block _ hr3 hRx)).trans (HRB.out i).1, (World.frozen?_of_block (w := w3) (a := ⟨w.heap.size + 1, i, none⟩) (HG.out.block _ hr3 hRx)).trans (HRB.out i).2⟩
      have t0 := (hrb 0).1
      have t1 := (hrb 1).1
      have t2 := (hrb 2).1
      have t3 := (hrb 3).1
      have t4 := (hrb 4).1
      simp only [List.getElem?_toArray, List.getElem?_cons_zero, List.getElem?_cons_succ] at t0 t1 t2 t3 t4
      have u0 := (hrb 0).2
      have u1 := (hrb 1).2
      have u2 := (hrb 2).2
      have u3 := (hrb 3).2
      have u4 := (hrb 4).2
      have hg7 : W1.grownBy (((((W1.setCell ⟨w.heap.size + 1, 0, none⟩ (.int .i64 f.len)).setCell ⟨w.heap.size + 1, 1, none⟩ (.int .i64 f.slack)).setCell ⟨w.heap.size + 1, 2, none⟩ (.slice (some gs) sl gsc)).setCell ⟨w.heap.size + 1, 3, none⟩ (.slice (some gp) pl gpc)).setCell ⟨w.heap.size + 1, 4, none⟩ (.slice va cl vc)) (some (w.heap.size + 1)) := gbx_set (gbx_set (gbx_set (gbx_set (gbx_set (gbx_refl _ _) _ _) _ _) _ _) _ _) _ _
      obtain ⟨r0, r1, r2, r3, r4⟩ := set5 (.int .i64 f.len) (.int .i64 f.slack) (.slice (some gs) sl gsc) (.slice (some gp) pl gpc) (.slice va cl vc) t0 t1 t2 t3 t4
      have HPA := Lib.hid (show (∀ W', KeepsUp w.heap.size (((((W1.setCell ⟨w.heap.size + 1, 0, none⟩ (.int .i64 f.len)).setCell ⟨w.heap.size + 1, 1, none⟩ (.int .i64 f.slack)).setCell ⟨w.heap.size + 1, 2, none⟩ (.slice (some gs) sl gsc)).setCell ⟨w.heap.size + 1, 3, none⟩ (.slice (some gp) pl gpc)).setCell ⟨w.heap.size + 1, 4, none⟩ (.slice va cl vc)) W' → PAt W' (some gs) sl gsc (some gp) pl gpc va cl vc (f.without x)) ∧ Below w.heap.size w (((((W1.setCell ⟨w.heap.size + 1, 0, none⟩ (.int .i64 f.len)).setCell ⟨w.heap.size + 1, 1, none⟩ (.int .i64 f.slack)).setCell ⟨w.heap.size + 1, 2, none⟩ (.slice (some gs) sl gsc)).setCell ⟨w.heap.size + 1, 3, none⟩ (.slice (some gp) pl gpc)).setCell ⟨w.heap.size + 1, 4, none⟩ (.slice va cl vc)) from
        ⟨fun W' hkk => by rw [← HEQ.out]; exact ((HWR.out.out hg7 hd2).up hkk (by omega)).at s1 s2 s3 (by rw [HCL0.out]; exact hcl), HBW1.out.trans (low_grown (N := w.heap.size) hg7 (by omega) (by omega))⟩)
      clear hg7 hrb
      go_wp2_with fail
      refine bodyPost_ret (v := .agg #[.int .i64 f.len, .int .i64 f.slack, .slice (some gs) sl gsc, .slice (some gp) pl gpc, .slice va cl vc]) ?_ rfl ⟨⟨_, _, _, _, _, _, rfl, HPA.out.1⟩, HPA.out.2⟩
      simp [results, Try.results104, go_sem, r0, r1, r2, r3, r4]
end Go.Proofs.Ytcklhojeneejiaa
