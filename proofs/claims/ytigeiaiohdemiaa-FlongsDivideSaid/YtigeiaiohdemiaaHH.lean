/- Flongs: worlds in another order: mathematics; a copy's worlds written; Divide, Bold and Test in one contract for any shop. -/
import Derived.Test.YtigeiaiohdemiaaHB
import Derived.Test.YtigeiaiohdemiaaFQ
import Derived.Test.YtigeiaiohdemiaaGU
namespace Go.Proofs.Ytigeiaiohdemiaa
set_option linter.unusedVariables false
set_option linter.unusedSimpArgs false
open Go.RowKit

theorem loOf_nil (m : Nat) : loOf [] m = 0 := rfl
theorem hiOf_nil (m : Nat) : hiOf [] m = 0 := rfl
theorem lo_perm {L M : List (Nat → Int)} (h : L.Perm M) : loOf L = loOf M := by
  funext m
  rcases Nat.eq_zero_or_pos L.length with h0 | h0
  · have e1 : L = [] := List.length_eq_zero_iff.1 h0
    subst e1
    have e2 : M = [] := h.nil_eq.symm
    rw [e2]
  · have h1 : 0 < M.length := by rw [← h.length_eq]; exact h0
    have a := (lo_sub h1 (fun c hc => h.mem_iff.2 hc) m).1
    have b := (lo_sub h0 (fun c hc => h.mem_iff.1 hc) m).1
    omega
theorem hi_perm {L M : List (Nat → Int)} (h : L.Perm M) : hiOf L = hiOf M := by
  funext m
  rcases Nat.eq_zero_or_pos L.length with h0 | h0
  · have e1 : L = [] := List.length_eq_zero_iff.1 h0
    subst e1
    have e2 : M = [] := h.nil_eq.symm
    rw [e2]
  · have h1 : 0 < M.length := by rw [← h.length_eq]; exact h0
    have a := (lo_sub h1 (fun c hc => h.mem_iff.2 hc) m).2
    have b := (lo_sub h0 (fun c hc => h.mem_iff.1 hc) m).2
    omega
/-- A shop whose worlds are others. -/
def FShop.with (s : FShop) (ws : List (List Int)) : FShop := { s with worlds := ws }
theorem with_left {s : FShop} {ws : List (List Int)} (h : ws.Perm s.worlds) : (s.with ws).left.Perm s.left := (h.filter (agreeB s.moulds)).map (cst s.moulds)
theorem with_ok {s : FShop} {ws : List (List Int)} (h : ws.Perm s.worlds) : (s.with ws).ok = s.ok := by
  unfold FShop.ok FShop.few
  have e1 : (s.with ws).worlds.length = s.worlds.length := h.length_eq
  rw [e1]
  have e2 : (s.with ws).worlds.all (worldB (s.with ws).moulds.length) = s.worlds.all (worldB s.moulds.length) := by
    rw [Bool.eq_iff_iff, List.all_eq_true, List.all_eq_true]
    exact ⟨fun hh x hx => hh x (h.mem_iff.2 hx), fun hh x hx => hh x (h.mem_iff.1 hx)⟩
  rw [e2]
  rfl
theorem with_lo {s : FShop} {ws : List (List Int)} (h : ws.Perm s.worlds) : loOf (s.with ws).left = loOf s.left := lo_perm (with_left h)
theorem with_len {s : FShop} {ws : List (List Int)} (h : ws.Perm s.worlds) : (s.with ws).left.length = s.left.length := (with_left h).length_eq
theorem with_hold {s : FShop} {ws : List (List Int)} (h : ws.Perm s.worlds) : holdN (s.with ws).left = holdN s.left := by funext x; exact (with_left h).countP_eq _
theorem with_tired {s : FShop} {ws : List (List Int)} (h : ws.Perm s.worlds) (j : Nat) : worstOf (s.with ws).left j = worstOf s.left j := by
  unfold worstOf
  rw [with_len h, show tiredN (s.with ws).left j = tiredN s.left j from (with_left h).countP_eq _]
theorem with_ask {s : FShop} {ws : List (List Int)} (h : ws.Perm s.worlds) (r : Bool) : (s.with ws).ask r = s.ask r := by unfold FShop.ask; rw [with_ok h, with_len h]
theorem with_newTo {s : FShop} {ws : List (List Int)} (h : ws.Perm s.worlds) : (s.with ws).newAll = s.newAll := by
  have e : newFor (s.with ws) = newFor s := by
    funext v p
    unfold newFor
    rw [with_lo h]
    rfl
  unfold FShop.newAll newTo
  rw [e]
  rfl
theorem with_divide {s : FShop} {ws : List (List Int)} (h : ws.Perm s.worlds) : (s.with ws).divide = s.divide := by
  unfold FShop.divide
  rw [with_lo h]
  rfl
theorem with_bold {s : FShop} {ws : List (List Int)} (h : ws.Perm s.worlds) : (s.with ws).bold = s.bold := by
  unfold FShop.bold
  rw [with_hold h]
  rfl
theorem with_test {s : FShop} {ws : List (List Int)} (h : ws.Perm s.worlds) : (s.with ws).test = s.test := by
  unfold FShop.test testTo
  rw [with_len h]
  have e : worstOf (s.with ws).left = worstOf s.left := funext (with_tired h)
  rw [e]
  rfl
/-- The worlds from one on, the others behind them. -/
def rotL (f : Nat) (xs : List (List Int)) : List (List Int) := xs.drop (f % xs.length) ++ xs.take (f % xs.length)
theorem rot_perm (f : Nat) (xs : List (List Int)) : (rotL f xs).Perm xs := by
  have h := List.perm_append_comm (l₁ := xs.drop (f % xs.length)) (l₂ := xs.take (f % xs.length))
  rwa [List.take_append_drop] at h
theorem rot_len (f : Nat) (xs : List (List Int)) : (rotL f xs).length = xs.length := (rot_perm f xs).length_eq
theorem rot_get? (f : Nat) (xs : List (List Int)) (k : Nat) (hk : k < xs.length) : (rotL f xs)[k]? = xs[(k + f) % xs.length]? := by
  have hr : f % xs.length < xs.length := Nat.mod_lt _ (by omega)
  unfold rotL
  have e : (k + f) % xs.length = if k < xs.length - f % xs.length then f % xs.length + k else k - (xs.length - f % xs.length) := by
    rw [Nat.add_mod, Nat.mod_eq_of_lt hk]
    split
    · rw [Nat.mod_eq_of_lt (by omega)]; omega
    · rw [Nat.mod_eq_sub_mod (by omega), Nat.mod_eq_of_lt (by omega)]; omega
  by_cases h : k < xs.length - f % xs.length
  · rw [if_pos h] at e
    rw [List.getElem?_append_left (by rw [List.length_drop]; exact h), List.getElem?_drop, e]
  · rw [if_neg h] at e
    rw [List.getElem?_append_right (by rw [List.length_drop]; omega), List.length_drop, List.getElem?_take, if_pos (by omega), e]
theorem rot_get (f : Nat) (xs : List (List Int)) (k : Nat) (hk : k < xs.length) (h1 : k < (rotL f xs).length) (h2 : (k + f) % xs.length < xs.length) : (rotL f xs)[k] = xs[(k + f) % xs.length] := by
  have h := rot_get? f xs k hk
  rw [List.getElem?_eq_getElem h1, List.getElem?_eq_getElem h2] at h
  exact Option.some.inj h
def mixL (f : Nat) (xs : List (List Int)) (k : Nat) : List (List Int) := (rotL f xs).take k ++ xs.drop k
theorem mix_zero (f : Nat) (xs : List (List Int)) : mixL f xs 0 = xs := by simp [mixL]
theorem mix_all (f : Nat) (xs : List (List Int)) : mixL f xs xs.length = rotL f xs := by
  unfold mixL
  rw [List.take_of_length_le (by rw [rot_len]; exact Nat.le_refl _), List.drop_of_length_le (Nat.le_refl _), List.append_nil]
theorem mix_len (f : Nat) (xs : List (List Int)) (k : Nat) : (mixL f xs k).length = xs.length := by
  unfold mixL; rw [List.length_append, List.length_take, rot_len, List.length_drop]; omega
theorem mix_next (f : Nat) (xs : List (List Int)) (k : Nat) (hk : k < xs.length) (h2 : (k + f) % xs.length < xs.length) : mixL f xs (k + 1) = (mixL f xs k).set k xs[(k + f) % xs.length] := by
  have h1 : k < (rotL f xs).length := by rw [rot_len]; exact hk
  unfold mixL
  rw [List.take_succ_eq_append_getElem h1, rot_get f xs k hk h1 h2, List.append_assoc]
  have hl : ((rotL f xs).take k).length = k := by rw [List.length_take]; omega
  rw [List.set_append_right _ _ (by omega), hl, Nat.sub_self, List.drop_eq_getElem_cons hk, List.set_cons_zero]
  rfl
theorem mix_mem (f : Nat) (xs : List (List Int)) (k : Nat) : ∀ x ∈ mixL f xs k, x ∈ xs := by
  intro x hx
  rcases List.mem_append.1 hx with h | h
  · exact (rot_perm f xs).mem_iff.1 (List.mem_of_mem_take h)
  · exact List.mem_of_mem_drop h

theorem CopyRow.cap {s : FShop} {n0 ml wl nl : Nat} {gm : Addr} {cm : Nat} {va : Option Addr} {vc : Nat} {gw : Addr} {cw : Nat} {vs : List Value} {N1 : Nat} {w : World} (h : CopyRow s n0 ml wl nl gm cm va vc gw cw vs N1 w) (hn : n0 ≤ w.heap.size) : CopyRow s n0 ml wl nl gm cm va vc gw cw vs (min N1 w.heap.size) w := by
  obtain ⟨h1, h2, h3, h4, h5, h6⟩ := h
  refine ⟨h1, h2, fun h0 => ?_, h4, ⟨h5.1, fun i hi => ?_⟩, by omega⟩
  · obtain ⟨g, e, _, hg, _⟩ := h2.cell h0
    injection e with e
    subst e
    have := h3 h0
    simp only at this ⊢
    omega
  · obtain ⟨ga, c, e1, e2⟩ := h5.2 i hi
    exact ⟨ga, c, e1, e2.low (Nat.min_le_left _ _)⟩
theorem CopyRow.setWorld {s : FShop} {n0 ml wl nl : Nat} {gm : Addr} {cm : Nat} {gv vc : Nat} {gw : Addr} {cw : Nat} {vs : List Value} {N1 n2 : Nat} {w : World} (h : CopyRow s n0 ml wl nl gm cm (some ⟨gv, 0, none⟩) vc gw cw vs N1 w) (i : Nat) (ga : Addr) (x : List Int) (c : Nat) (hx : FRow w n2 3 1 (some ga) x.length c (x.map (Value.int .i64))) (hn : N1 ≤ n2) :
    CopyRow (s.with (s.worlds.set i x)) n0 ml wl nl gm cm (some ⟨gv, 0, none⟩) vc gw cw (vs.set i (.slice (some ga) x.length c)) N1 (w.setCell ⟨gv, i, none⟩ (.slice (some ga) x.length c)) := by
  obtain ⟨h1, h2, h3, h4, h5, h6⟩ := h
  obtain ⟨hg0, cur, hc⟩ := own_parts h4
  have hg : w.grownBy (w.setCell ⟨gv, i, none⟩ (.slice (some ga) x.length c)) (some gv) := gbx_set (gbx_refl _ _) _ _
  have hne : ∀ {e : TypeId} {N : Nat}, 24 ≠ e → ∀ r, some gv = some r → (∃ (c : Array Value) (e' : TypeId), w.heap[r]? = some (.cells c e' (0, 0)) ∧ e' ≠ e) ∨ r < N ∨ w.heap.size ≤ r := fun he r hr => by
    injection hr with hr; subst hr; exact .inl ⟨cur, _, hc, he⟩
  refine ⟨h1.kept hg (hne (by decide)), h2.kept hg (hne (by decide)), h3, own_set h4 i _, ⟨by show (vs.set i _).length = (s.worlds.set i x).length; rw [List.length_set, List.length_set]; exact h5.1, fun q hq => ?_⟩, h6⟩
  have hq' : q < s.worlds.length := by have : q < (s.worlds.set i x).length := hq; rwa [List.length_set] at this
  by_cases e : i = q
  · subst e
    have e1 : (s.with (s.worlds.set i x)).worlds[i] = x := by simp [FShop.with]
    rw [e1]
    exact ⟨ga, c, by rw [List.getElem?_set_self (by rw [h5.1]; exact hq')], (hx.kept hg (hne (by decide))).low hn⟩
  · have e1 : (s.with (s.worlds.set i x)).worlds[q] = s.worlds[q] := by simp [FShop.with, List.getElem_set_ne e]
    rw [e1]
    obtain ⟨gb, cb, f1, f2⟩ := h5.2 q hq'
    exact ⟨gb, cb, by rw [List.getElem?_set_ne e]; exact f1, f2.kept hg (hne (by decide))⟩

/-- The answers of Divide, Bold and Test, for any shop. -/
def optL (o : Option (List Int)) : List Int := o.getD []
def optE (o : Option (List Int)) : Int := if o.isSome then 0 else 3
def FShop.divideL (s : FShop) : List Int := if s.ask true = 0 then optL s.divide else []
def FShop.divideE (s : FShop) : Int := if s.ask true = 0 then optE s.divide else s.ask true
theorem Divide_all (s : FShop) (ma : Option Addr) (ml mc : Nat) (wa : Option Addr) (wl wc : Nat) (na : Option Addr) (nl nc : Nat) (l : List Int) (e0 : Int) (h1 : s.divideL = l) (h3 : s.divideE = e0) (w : World) (hp : FAt w ma ml mc wa wl wc na nl nc s) :
    Calls Try.prog 35 #[.agg #[.slice ma ml mc, .slice wa wl wc, .slice na nl nc, .int .i64 s.fresh]] w fun e w' => (∃ a len c, e = .returned (.tuple #[.slice a len c, .int .i64 e0]) ∧ IntsAt w' a len l) ∧ Below w.heap.size w w' := by
  subst h1 h3
  unfold FShop.divideL FShop.divideE
  by_cases h0 : s.ask true = 0
  · obtain ⟨ho, -, hl0⟩ := ask_zero h0
    rw [if_pos h0, if_pos h0]
    refine (Divide_yes s ma ml mc wa wl wc na nl nc w hp ho hl0).mono ?_
    rintro e w' ⟨hb, ⟨h1, rfl⟩ | ⟨y, g, cc, h1, rfl, hr⟩⟩
    · rw [h1]
      exact ⟨⟨none, 0, 0, rfl, ints_nil w'⟩, hb⟩
    · rw [h1]
      exact ⟨⟨_, _, _, rfl, hr.ints⟩, hb⟩
  · rw [if_neg h0, if_neg h0]
    refine (Divide_no s ma ml mc wa wl wc na nl nc _ rfl h0 w hp).mono ?_
    rintro e w' ⟨rfl, hb⟩
    exact ⟨⟨none, 0, 0, rfl, ints_nil w'⟩, hb⟩
def FShop.boldL (s : FShop) : List Int := if s.ask true = 0 then optL s.bold else []
def FShop.boldE (s : FShop) : Int := if s.ask true = 0 then optE s.bold else s.ask true
theorem Bold_all (s : FShop) (ma : Option Addr) (ml mc : Nat) (wa : Option Addr) (wl wc : Nat) (na : Option Addr) (nl nc : Nat) (l : List Int) (e0 : Int) (h1 : s.boldL = l) (h3 : s.boldE = e0) (w : World) (hp : FAt w ma ml mc wa wl wc na nl nc s) :
    Calls Try.prog 36 #[.agg #[.slice ma ml mc, .slice wa wl wc, .slice na nl nc, .int .i64 s.fresh]] w fun e w' => (∃ a len c, e = .returned (.tuple #[.slice a len c, .int .i64 e0]) ∧ IntsAt w' a len l) ∧ Below w.heap.size w w' := by
  subst h1 h3
  unfold FShop.boldL FShop.boldE
  by_cases h0 : s.ask true = 0
  · obtain ⟨ho, -, hl0⟩ := ask_zero h0
    rw [if_pos h0, if_pos h0]
    refine (Bold_yes s ma ml mc wa wl wc na nl nc w hp ho hl0).mono ?_
    rintro e w' ⟨hb, ⟨h1, rfl⟩ | ⟨y, g, cc, h1, rfl, hr⟩⟩
    · rw [h1]
      exact ⟨⟨none, 0, 0, rfl, ints_nil w'⟩, hb⟩
    · rw [h1]
      exact ⟨⟨_, _, _, rfl, hr.ints⟩, hb⟩
  · rw [if_neg h0, if_neg h0]
    refine (Bold_no s ma ml mc wa wl wc na nl nc _ rfl h0 w hp).mono ?_
    rintro e w' ⟨rfl, hb⟩
    exact ⟨⟨none, 0, 0, rfl, ints_nil w'⟩, hb⟩
def FShop.testN (s : FShop) : Int := if s.ask true = 0 then (if s.test.2 = s.left.length then 0 else (s.test.1 : Nat)) else 0
def FShop.testE (s : FShop) : Int := if s.ask true = 0 then (if s.test.2 = s.left.length then 3 else 0) else s.ask true
theorem Test_all (s : FShop) (ma : Option Addr) (ml mc : Nat) (wa : Option Addr) (wl wc : Nat) (na : Option Addr) (nl nc : Nat) (n e0 : Int) (h1 : s.testN = n) (h3 : s.testE = e0) (w : World) (hp : FAt w ma ml mc wa wl wc na nl nc s) :
    Calls Try.prog 46 #[.agg #[.slice ma ml mc, .slice wa wl wc, .slice na nl nc, .int .i64 s.fresh]] w fun e w' => e = .returned (.tuple #[.int .i64 n, .int .i64 e0]) ∧ Below w.heap.size w w' := by
  subst h1 h3
  unfold FShop.testN FShop.testE
  by_cases h0 : s.ask true = 0
  · obtain ⟨ho, -, hl0⟩ := ask_zero h0
    rw [if_pos h0, if_pos h0]
    have h := Test_yes s ma ml mc wa wl wc na nl nc w hp ho hl0
    unfold testRet at h
    by_cases h2 : s.test.2 = s.left.length
    · rw [if_pos h2] at h ⊢
      rw [if_pos h2]
      exact h
    · rw [if_neg h2] at h ⊢
      rw [if_neg h2]
      exact h
  · rw [if_neg h0, if_neg h0]
    exact Test_no s ma ml mc wa wl wc na nl nc _ rfl h0 w hp
theorem with_answers {s : FShop} {ws : List (List Int)} (h : ws.Perm s.worlds) (x : List Int) :
    (s.with ws).divideL = s.divideL ∧ (s.with ws).divideE = s.divideE ∧ (s.with ws).boldL = s.boldL ∧ (s.with ws).boldE = s.boldE ∧ (s.with ws).testN = s.testN ∧ (s.with ws).testE = s.testE ∧ (s.with ws).newN = s.newN ∧ (s.with ws).ask true = s.ask true ∧
    (s.with ws).chanceP x = s.chanceP x ∧ (s.with ws).chanceQ x = s.chanceQ x ∧ (s.with ws).ask (sharesB s.moulds x) = s.ask (sharesB s.moulds x) := by
  have e0 : (s.with ws).moulds = s.moulds := rfl
  refine ⟨?_, ?_, ?_, ?_, ?_, ?_, ?_, with_ask h _, ?_, ?_, with_ask h _⟩
  · unfold FShop.divideL; rw [with_ask h, with_divide h]
  · unfold FShop.divideE; rw [with_ask h, with_divide h]
  · unfold FShop.boldL; rw [with_ask h, with_bold h]
  · unfold FShop.boldE; rw [with_ask h, with_bold h]
  · unfold FShop.testN; rw [with_ask h, with_test h, with_len h]
  · unfold FShop.testE; rw [with_ask h, with_test h, with_len h]
  · unfold FShop.newN; rw [with_ask h, with_newTo h]
  · unfold FShop.chanceP; rw [e0, with_ask h, with_hold h, with_len h]
  · unfold FShop.chanceQ; rw [e0, with_ask h, with_hold h, with_len h]
end Go.Proofs.Ytigeiaiohdemiaa
