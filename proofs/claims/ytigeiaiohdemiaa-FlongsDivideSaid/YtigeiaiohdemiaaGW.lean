/- Flongs: the laws' fresh and sure; a copy whose worlds may be cut; fewer worlds say more. -/
import Derived.Test.YtigeiaiohdemiaaGP
namespace Go.Proofs.Ytigeiaiohdemiaa
set_option linter.unusedVariables false
set_option linter.unusedSimpArgs false
open Go.RowKit

def CopyAtW (s : FShop) (ml wl nl : Nat) (w : World) (e : Ending) (w' : World) : Prop :=
  ∃ (ga : Option Addr) (cm : Nat) (va : Option Addr) (vc : Nat) (gw : Option Addr) (cw : Nat), e = .returned (.agg #[.slice ga ml cm, .slice va wl vc, .slice gw nl cw, .int .i64 s.fresh]) ∧ FAt w' ga ml cm va wl vc gw nl cw s ∧
    ((va = none ∧ wl = 0 ∧ vc = 0) ∨ ∃ g, va = some ⟨g, 0, none⟩ ∧ wl ≤ vc ∧ vc ≤ maxLen) ∧ Below w.heap.size w w'
theorem Copy_atW (s : FShop) (ma : Option Addr) (ml mc : Nat) (wa : Option Addr) (wl wc : Nat) (na : Option Addr) (nl nc : Nat) (w : World) (hp : FAt w ma ml mc wa wl wc na nl nc s) (hh : s.huge = false) :
    Calls Try.prog 32 #[.agg #[.slice ma ml mc, .slice wa wl wc, .slice na nl nc, .int .i64 s.fresh]] w fun e w' => CopyAtW s ml wl nl w e w' := by
  obtain ⟨h1, h2, h3, h4⟩ := huge_bd hh
  have e1 := hp.1.1
  have e2 := hp.2.1.1
  have e3 := hp.2.2.1
  refine (Copy_any s ma ml mc wa wl wc na nl nc w hp (by omega) (by omega) (by omega) (fun x hx => by have := h4 x hx; omega)).mono ?_
  rintro e w' ⟨gm, cm, va, vc, gw, cw, vs, N1, he, hM, hW, -, hO, hL, -, hB⟩
  refine ⟨some gm, cm, va, vc, some gw, cw, he, ⟨hM.moulds ?_, hL.lists hO ?_ ?_, hW.ints ?_⟩, ?_, hB⟩
  · unfold maxLen; omega
  · unfold maxLen; omega
  · intro x hx; have := h4 x hx; unfold maxLen; omega
  · unfold maxLen; omega
  · rcases hO.2 with ⟨e, h0⟩ | ⟨g, cap, cur, e, -, -, h5, h6, -, -⟩
    · injection e with i1 i2 i3
      exact .inl ⟨i1, i2, i3⟩
    · injection e with i1 i2 i3
      exact .inr ⟨g, i1, by omega, by omega⟩

theorem ListsAt.sub {w : World} {g wl : Nat} {xs : List (List Int)} (h : ListsAt w (some ⟨g, 0, none⟩) wl xs) {i j : Nat} (hij : i ≤ j) (hj : j ≤ wl) : ListsAt w (some ⟨g, i, none⟩) (j - i) ((xs.take j).drop i) := by
  obtain ⟨h1, h2, h3⟩ := h
  refine ⟨by simp; omega, by omega, fun h0 => ?_⟩
  obtain ⟨b, o, e, hb, hc⟩ := h3 (by omega)
  injection e with e
  injection e with e1 e2
  subst e1 e2
  refine ⟨g, i, rfl, hb, fun k hk => ?_⟩
  have hk2 : k < j - i := by simpa [h1, Nat.min_eq_left hj] using hk
  obtain ⟨ra, rl, rc, hcell, hi⟩ := hc (i + k) (by omega)
  refine ⟨ra, rl, rc, ?_, ?_⟩
  · rw [← hcell, Nat.zero_add]
  · rw [List.getElem_drop, List.getElem_take]; exact hi
theorem ListsAt.none {w : World} {a : Option Addr} : ListsAt w a 0 [] := ⟨rfl, by unfold maxLen; omega, fun h => by omega⟩

/-- A shop without some worlds. -/
def FShop.sub (s : FShop) (i j : Nat) : FShop := { s with worlds := (s.worlds.take j).drop i }
theorem sub_left (s : FShop) (i j : Nat) : ∀ c ∈ (s.sub i j).left, c ∈ s.left := by
  intro c hc
  have h : ((s.sub i j).left).Sublist s.left := (((List.drop_sublist i _).trans (List.take_sublist j s.worlds)).filter (agreeB s.moulds)).map (cst s.moulds)
  exact h.mem hc
theorem hiTo_att {L : List (Nat → Int)} (h0 : 0 < L.length) (m : Nat) : ∀ k, k ≤ L.length → ∃ c ∈ L, hiTo L m k = c m
  | 0, _ => ⟨L[0], List.getElem_mem h0, headD_get h0 m⟩
  | k + 1, hk => by
    have hk2 : k < L.length := by omega
    rw [hiTo_next hk2]
    obtain ⟨c, hc, e⟩ := hiTo_att h0 m k (by omega)
    rcases Int.lt_or_le (hiTo L m k) (L[k] m) with h | h
    · exact ⟨L[k], List.getElem_mem hk2, by omega⟩
    · exact ⟨c, hc, by omega⟩
theorem hi_att {L : List (Nat → Int)} (h0 : 0 < L.length) (m : Nat) : ∃ c ∈ L, hiOf L m = c m := hiTo_att h0 m _ (Nat.le_refl _)
theorem lo_sub {L M : List (Nat → Int)} (h0 : 0 < M.length) (h : ∀ c ∈ M, c ∈ L) (m : Nat) : loOf L m ≤ loOf M m ∧ hiOf M m ≤ hiOf L m := by
  obtain ⟨c, hc, e⟩ := lo_att h0 m
  obtain ⟨d, hd, f⟩ := hi_att h0 m
  exact ⟨by rw [e]; exact (lo_mem m (h c hc)).1, by rw [f]; exact (lo_mem m (h d hd)).2⟩
theorem sumTo_mono {ms : List Mould} {c d : Nat → Int} (h : ∀ t, c t ≤ d t) (p : Int) : ∀ k, k ≤ ms.length → sumTo ms c p k ≤ sumTo ms d p k
  | 0, _ => by simp [sumTo]
  | k + 1, hk => by
    have := sumTo_mono (ms := ms) h p k (by omega)
    have hk2 : k < ms.length := by omega
    rw [sumTo_next hk2, sumTo_next hk2]
    have := h k
    split <;> omega
theorem sumOf_mono {ms : List Mould} {c d : Nat → Int} (h : ∀ t, c t ≤ d t) (p : Int) : sumOf ms c p ≤ sumOf ms d p := sumTo_mono h p _ (Nat.le_refl _)
theorem ceil_mono {x y f : Int} (h : x ≤ y) (hf : 1 ≤ f) : ceilF x f ≤ ceilF y f := Int.ediv_le_ediv (by omega) (by omega)
theorem newTo_mono {s t : FShop} (hw : s.wants = t.wants) (hf : s.fresh = t.fresh) (h1 : 1 ≤ s.fresh) (h : ∀ p : Nat, sumOf s.moulds (loOf s.left) p ≤ sumOf t.moulds (loOf t.left) p) : ∀ k, k ≤ s.wants.length → newTo t k ≤ newTo s k
  | 0, _ => Int.le_refl _
  | k + 1, hk => by
    have hk2 : k < s.wants.length := by omega
    have hk3 : k < t.wants.length := by rw [← hw]; exact hk2
    have h2 := newTo_mono hw hf h1 h k (by omega)
    rw [newTo_next hk2, newTo_next hk3]
    have h3 : newFor t t.wants[k] k ≤ newFor s s.wants[k] k := by
      show ceilF _ _ ≤ ceilF _ _
      rw [← hf]
      refine ceil_mono ?_ h1
      have e : t.wants[k] = s.wants[k] := by simp only [hw]
      have := h k
      omega
    omega
theorem newAll_mono {s t : FShop} (hw : s.wants = t.wants) (hf : s.fresh = t.fresh) (h1 : 1 ≤ s.fresh) (h : ∀ p : Nat, sumOf s.moulds (loOf s.left) p ≤ sumOf t.moulds (loOf t.left) p) : t.newAll ≤ s.newAll := by
  have := newTo_mono hw hf h1 h s.wants.length (Nat.le_refl _)
  unfold FShop.newAll
  rwa [← hw]

set_option maxRecDepth 100000 in
set_option maxHeartbeats 1000000 in
theorem lawFresh_is (s : FShop) (ma : Option Addr) (ml mc : Nat) (wa : Option Addr) (wl wc : Nat) (na : Option Addr) (nl nc : Nat) (ho : s.ok = true) (hl0 : 0 < s.left.length) (w : World) (hp : FAt w ma ml mc wa wl wc na nl nc s) :
    Calls Try.prog 31 #[.agg #[.slice ma ml mc, .slice wa wl wc, .slice na nl nc, .int .i64 s.fresh]] w fun e w' => e = .returned (.int .i64 s.newAll) ∧ Below w.heap.size w w' := by
  have HN := Lib.hid (fun W (hb : Below w.heap.size w W) => New_yes s ma ml mc wa wl wc na nl nc W (hp.below hb) ho hl0)
  obtain ⟨h1, h2⟩ := newTo_bd ho s.wants.length (Nat.le_refl _)
  have hw3 := (FShop.ok_few ho).1
  have h1' : 0 ≤ s.newAll := h1
  have h2' : s.newAll ≤ 36 := by have : s.newAll ≤ 12 * (s.wants.length : Int) := h2; omega
  clear hp ho hl0 h1 h2 hw3
  generalize s.newAll = n at *
  go_enter Try.func31, Try.ntmps31
  go_wp2_with fail
  refine (HN.out _ (by repeat (first | exact Below.refl _ _ | (refine Below.alloc ?_ (by first | omega | (simp; omega) | simp) _) | (refine Below.setCell ?_ (by first | omega | (simp; omega) | simp) _) | refine Below.drew ?_))).mono ?_
  rintro e w1 ⟨rfl, hb1⟩
  have hw1 := ((by repeat (first | exact Below.refl _ _ | (refine Below.alloc ?_ (by first | omega | (simp; omega) | simp) _) | (refine Below.setCell ?_ (by first | omega | (simp; omega) | simp) _) | refine Below.drew ?_)) : Below w.heap.size w _).trans (hb1.mono (by first | (simp; done) | (simp; omega) | omega))
  clear hb1
  go_wp2_with fail
  go_ret
  exact ⟨rfl, hw1⟩
set_option maxRecDepth 100000 in
set_option maxHeartbeats 1000000 in
theorem lawSure_is (s : FShop) (ma : Option Addr) (ml mc : Nat) (wa : Option Addr) (wl wc : Nat) (na : Option Addr) (nl nc : Nat) (p : Nat) (hpn : p < nl) (ho : s.ok = true) (hl0 : 0 < s.left.length) (w : World) (hp : FAt w ma ml mc wa wl wc na nl nc s) :
    Calls Try.prog 34 #[.agg #[.slice ma ml mc, .slice wa wl wc, .slice na nl nc, .int .i64 s.fresh], .int .i64 p] w fun e w' => e = .returned (.int .i64 (sumOf s.moulds (loOf s.left) p)) ∧ Below w.heap.size w w' := by
  have HN := Lib.hid (fun W (hb : Below w.heap.size w W) => Sure_yes s ma ml mc wa wl wc na nl nc p hpn W (hp.below hb) ho hl0)
  obtain ⟨h1, h2⟩ := sure_bd ho (p : Int)
  clear hp ho hl0
  generalize sumOf s.moulds (loOf s.left) (p : Int) = n at *
  go_enter Try.func34, Try.ntmps34
  go_wp2_with fail
  refine (HN.out _ (by repeat (first | exact Below.refl _ _ | (refine Below.alloc ?_ (by first | omega | (simp; omega) | simp) _) | (refine Below.setCell ?_ (by first | omega | (simp; omega) | simp) _) | refine Below.drew ?_))).mono ?_
  rintro e w1 ⟨rfl, hb1⟩
  have hw1 := ((by repeat (first | exact Below.refl _ _ | (refine Below.alloc ?_ (by first | omega | (simp; omega) | simp) _) | (refine Below.setCell ?_ (by first | omega | (simp; omega) | simp) _) | refine Below.drew ?_)) : Below w.heap.size w _).trans (hb1.mono (by first | (simp; done) | (simp; omega) | omega))
  clear hb1
  go_wp2_with fail
  go_ret
  exact ⟨rfl, hw1⟩
end Go.Proofs.Ytigeiaiohdemiaa
