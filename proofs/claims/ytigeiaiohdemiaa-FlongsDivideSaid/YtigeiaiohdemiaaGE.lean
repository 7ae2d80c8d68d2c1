/- The laws' lefts. -/
import Derived.Test.YtigeiaiohdemiaaGD
namespace Go.Proofs.Ytigeiaiohdemiaa
set_option linter.unusedVariables false
set_option linter.unusedSimpArgs false
open Go.RowKit

theorem loOf_le {L : List (Nat → Int)} (m : Nat) : ∀ k, k ≤ L.length → ∀ i (_ : i < k) (h : i < L.length), loTo L m k ≤ L[i] m
  | 0, _, _, hi, _ => by omega
  | k + 1, hk, i, hi, h => by
    rw [loTo_next (by omega)]
    by_cases e : i = k
    · subst e; omega
    · have := loOf_le m k (by omega) i (by omega) h; omega
theorem hiOf_ge {L : List (Nat → Int)} (m : Nat) : ∀ k, k ≤ L.length → ∀ i (_ : i < k) (h : i < L.length), L[i] m ≤ hiTo L m k
  | 0, _, _, hi, _ => by omega
  | k + 1, hk, i, hi, h => by
    rw [hiTo_next (by omega)]
    by_cases e : i = k
    · subst e; omega
    · have := hiOf_ge m k (by omega) i (by omega) h; omega
theorem lo_mem {L : List (Nat → Int)} (m : Nat) {c : Nat → Int} (hc : c ∈ L) : loOf L m ≤ c m ∧ c m ≤ hiOf L m := by
  obtain ⟨i, hi, rfl⟩ := List.getElem_of_mem hc
  exact ⟨loOf_le m _ (Nat.le_refl _) i hi hi, hiOf_ge m _ (Nat.le_refl _) i hi hi⟩
theorem hiTo_bd {L : List (Nat → Int)} (h : ∀ c ∈ L, ∀ t, 0 ≤ c t ∧ c t ≤ 12) (m : Nat) : ∀ k, k ≤ L.length → 0 ≤ hiTo L m k ∧ hiTo L m k ≤ 12
  | 0, _ => by
    show 0 ≤ (L.headD fun _ => 0) m ∧ (L.headD fun _ => 0) m ≤ 12
    cases L with
    | nil => simp
    | cons c L => exact h c (List.mem_cons_self ..) m
  | k + 1, hk => by
    have h1 := hiTo_bd h m k (by omega)
    have h2 := h L[k] (List.getElem_mem (by omega)) m
    rw [hiTo_next (by omega)]
    omega
theorem hi_bd {s : FShop} (ho : s.ok = true) (t : Nat) : 0 ≤ hiOf s.left t ∧ hiOf s.left t ≤ 12 := hiTo_bd (left_bd ho) t _ (Nat.le_refl _)
theorem lo_hi {s : FShop} (h0 : 0 < s.left.length) (t : Nat) : loOf s.left t ≤ hiOf s.left t := by
  have := lo_mem t (List.getElem_mem h0); omega

/-- The spans of the first moulds. -/
def spansTo (L : List (Nat → Int)) (k : Nat) : List Value := (List.range k).flatMap fun i => [.int .i64 (loOf L i), .int .i64 (hiOf L i)]
theorem spansTo_next (L : List (Nat → Int)) (k : Nat) : spansTo L (k + 1) = spansTo L k ++ [.int .i64 (loOf L k), .int .i64 (hiOf L k)] := by
  unfold spansTo; rw [List.range_succ, List.flatMap_append]; simp
theorem spansTo_len (L : List (Nat → Int)) : ∀ k, (spansTo L k).length = k * 2
  | 0 => rfl
  | k + 1 => by rw [spansTo_next, List.length_append, spansTo_len L k]; simp; omega
theorem spansTo_get (L : List (Nat → Int)) : ∀ k i, i < k → (spansTo L k)[i * 2]? = some (.int .i64 (loOf L i)) ∧ (spansTo L k)[i * 2 + 1]? = some (.int .i64 (hiOf L i))
  | 0, i, h => by omega
  | k + 1, i, h => by
    rw [spansTo_next]
    by_cases e : i = k
    · subst e
      rw [List.getElem?_append_right (by rw [spansTo_len]; omega), List.getElem?_append_right (by rw [spansTo_len]; omega), spansTo_len]
      refine ⟨?_, ?_⟩
      · rw [show i * 2 - i * 2 = 0 by omega]; rfl
      · rw [show i * 2 + 1 - i * 2 = 1 by omega]; rfl
    · have h' := spansTo_get L k i (by omega)
      rw [List.getElem?_append_left (by rw [spansTo_len]; omega), List.getElem?_append_left (by rw [spansTo_len]; omega)]
      exact h'
/-- A slice of spans reads so. -/
def SpansAt (w : World) (a : Option Addr) (len : Nat) (L : List (Nat → Int)) : Prop :=
  0 < len → ∃ b o, a = some ⟨b, o, none⟩ ∧ b < w.heap.size ∧ ∀ i, i < len → w.cell? ⟨b, o + i * 2, none⟩ = some (.int .i64 (loOf L i)) ∧ w.cell? ⟨b, o + i * 2 + 1, none⟩ = some (.int .i64 (hiOf L i))
theorem SpansAt.below {w w1 : World} {a : Option Addr} {len : Nat} {L : List (Nat → Int)} (hb : Below w.heap.size w w1) (h : SpansAt w a len L) : SpansAt w1 a len L := by
  intro hl
  obtain ⟨b, o, ha, hB, hc⟩ := h hl
  exact ⟨b, o, ha, Nat.lt_of_lt_of_le hB hb.size, fun i hi => ⟨(hb.cell (p := ⟨b, _, none⟩) hB).trans (hc i hi).1, (hb.cell (p := ⟨b, _, none⟩) hB).trans (hc i hi).2⟩⟩
theorem spans_own {w : World} {n0 len : Nat} {v : Value} {L : List (Nat → Int)} (h : w.ownsRow n0 39 2 v len (spansTo L len)) : ∃ a cap, v = .slice a len cap ∧ SpansAt w a len L := by
  rcases h.2 with ⟨h0, h1⟩ | ⟨g, cap', cur, hv, hg, hb, hn, hc, hcs, ht⟩
  · exact ⟨none, 0, h1 ▸ h0, fun h => by omega⟩
  · refine ⟨_, _, hv, fun _ => ⟨g, 0, rfl, (Array.getElem?_eq_some_iff.1 hb).1, fun i hi => ?_⟩⟩
    subst hv
    obtain ⟨e1, e2⟩ := spansTo_get L len i hi
    have t1 := h.cells (g := g) rfl (i * 2) _ e1
    have t2 := h.cells (g := g) rfl (i * 2 + 1) _ e2
    rw [Addr.add_lit] at t1 t2
    rw [show 0 + i * 2 + 1 = 0 + (i * 2 + 1) by omega]
    exact ⟨t1, t2⟩
theorem two_newF (w : World) (v0 v1 : Value) (T : TypeId) : ∀ j u, [v0, v1][j]? = some u → (w.alloc (.cells #[v0, v1] T)).cell? ((⟨w.heap.size, 0, none⟩ : Addr).add j) = some u := fun j u h => by
  have hj : j < 2 := (List.getElem?_eq_some_iff.1 h).1
  have : j = 0 ∨ j = 1 := by omega
  rcases this with rfl | rfl <;> (rw [Addr.add_lit]; simp at h; subst h; go_simp)
theorem Try.info39 : (Try.prog.info? 39).map (fun i => (i.zero, i.size, i.bytes)) = some (some (.agg #[.int .i64 0, .int .i64 0]), 2, 16) := by kernel_rfl

set_option maxRecDepth 100000 in
set_option maxHeartbeats 4000000 in
theorem lawLefts_yes (s : FShop) (ma : Option Addr) (ml mc : Nat) (wa : Option Addr) (wl wc : Nat) (na : Option Addr) (nl nc : Nat) (w : World) (hp : FAt w ma ml mc wa wl wc na nl nc s) (ho : s.ok = true) (hl0 : 0 < s.left.length) :
    Calls Try.prog 19 #[.agg #[.slice ma ml mc, .slice wa wl wc, .slice na nl nc, .int .i64 s.fresh]] w fun e w' => ∃ a c, e = .returned (.tuple #[.slice a ml c, .bool true]) ∧ SpansAt w' a ml s.left ∧ Below w.heap.size w w' := by
  obtain ⟨i0, hi0, hy0, hy1, hy2⟩ := info_parts Try.info39
  have HLF := Lib.hid (fun n (hn : n < ml) lo (h1 : loOf s.left n = lo) hi (h2 : hiOf s.left n = hi) W (hb : Below w.heap.size w W) => show Calls Try.prog 43 #[.agg #[.slice ma ml mc, .slice wa wl wc, .slice na nl nc, .int .i64 s.fresh], .int .i64 n] W fun e w' => e = .returned (.tuple #[.agg #[.int .i64 lo, .int .i64 hi], .int .i64 0]) ∧ Below W.heap.size W w' from h1 ▸ h2 ▸ Left_yes s ma ml mc wa wl wc na nl nc n hn W (hp.below hb) ho hl0)
  have HBD := Lib.hid (fun n => show 0 ≤ loOf s.left n ∧ loOf s.left n ≤ hiOf s.left n ∧ hiOf s.left n ≤ 12 from ⟨(lo_bd ho n).1, lo_hi hl0 n, (hi_bd ho n).2⟩)
  have hm5 : ml ≤ 5 := by have := (FShop.ok_few ho).2.1; have := hp.1.1; omega
  clear hp ho hl0
  go_enter Try.func19, Try.ntmps19
  go_wp2_with fail
  obtain ⟨W0, hW0, hB0, hs0, hz0⟩ := name1k w #[.slice ma ml mc, .slice wa wl wc, .slice na nl nc, .int .i64 s.fresh] 26
  rw [hW0]
  clear hW0
  have HB0 := Lib.hid hB0
  have HS0 := Lib.hid hs0
  clear hB0 hs0
  go_loopw [4, 5] (fun v i wr => ∃ k : Nat, k ≤ ml ∧ i = .int .i64 k ∧ wr.ownsRow W0.heap.size 39 2 v k (spansTo s.left k) ∧ Below W0.heap.size W0 wr) (fun _ i _ => ml - (intOf i).toNat)
  case atStart => exact ⟨0, by omega, rfl, World.ownsRow_nil _ _ _ _, Below.refl _ _⟩
  case round =>
    obtain ⟨k, hk, rfl, hrow, hB⟩ := hrel
    have HROW := Lib.hid hrow
    have HB := Lib.hid hB
    clear hrow
    obtain ⟨W1, rfl⟩ : ∃ W1 : World, W1 = wr := ⟨_, rfl⟩
    have hbx := fun i => (hB.cell (p := ⟨w.heap.size, i, none⟩) hz0).trans (HS0.out i)
    obtain ⟨x0, x1, x2, x3⟩ : W1.cell? ⟨w.heap.size, 0, none⟩ = some (.slice ma ml mc) ∧ W1.cell? ⟨w.heap.size, 1, none⟩ = some (.slice wa wl wc) ∧ W1.cell? ⟨w.heap.size, 2, none⟩ = some (.slice na nl nc) ∧ W1.cell? ⟨w.heap.size, 3, none⟩ = some (.int .i64 s.fresh) := ⟨hbx 0, hbx 1, hbx 2, hbx 3⟩
    have hzr := hB.size
    clear hbx hB
    by_cases hlt : k < ml
    · have hkl : (k : Int) < (ml : Int) := by omega
      have HN := Lib.hid (spansTo_next s.left k)
      obtain ⟨hb1, hb2, hb3⟩ := HBD.out k
      obtain ⟨lo, hlo⟩ : ∃ lo, loOf s.left k = lo := ⟨_, rfl⟩
      obtain ⟨hi, hhi⟩ : ∃ hi, hiOf s.left k = hi := ⟨_, rfl⟩
      have HL1 := Lib.hid (HLF.out k hlt lo hlo hi hhi W1 (HB0.out.trans (HB.out.mono HB0.out.size)))
      rw [hlo] at hb1 hb2
      rw [hhi] at hb2 hb3
      rw [hlo, hhi] at HN
      have HIN := Lib.hid (fun W => inside_is lo hi 0 12 true (by simp; omega) W)
      clear hlo hhi
      go_wp2_with fail
      refine HL1.out.mono ?_
      rintro e w2 ⟨rfl, hb2'⟩
      have HB2 := Lib.hid (HB.out.trans (hb2'.mono hzr))
      have HROW2 := Lib.hid (HROW.out.kept (grown_none hb2') (Classical.em _))
      have hz2 := hb2'.size
      clear hb2'
      go_wp2_with fail
      refine (HIN.out _).mono ?_
      rintro e w3 ⟨rfl, hb3'⟩
      have y0 := (hb3'.cell (p := ⟨w2.heap.size, 0, none⟩) (by simp)).trans (show _ = some (Value.int .i64 lo) by go_simp)
      have y1 := (hb3'.cell (p := ⟨w2.heap.size, 1, none⟩) (by simp)).trans (show _ = some (Value.int .i64 hi) by go_simp)
      have hzz := hb3'.size
      have HB3 := Lib.hid ((HB2.out.alloc HB2.out.size _).trans (hb3'.mono (by simp; omega)))
      have HROW3 := Lib.hid ((HROW2.out.alloc _).kept (grown_none hb3') (Classical.em _))
      clear hb3'
      simp at hzz
      go_wp2_with (at_builtin; refine wpList_append_own _ rfl _ _ 30 rfl W0.heap.size 39 i0 (.agg #[.int .i64 0, .int .i64 0]) 2 16 Try.underlying30 hi0 hy0 hy1 hy2 rfl (by decide) _ _ _ rfl (HROW3.out.alloc _) ⟨w3.heap.size, 0, none⟩ 1 1 [.int .i64 lo, .int .i64 hi] rfl rfl (two_newF _ _ _ _) (by simp [Value.oneCell']) (by unfold maxLen; omega) (by omega) (by simp; omega) ?_; intro v' w5 hown' hgrow _; have HO5 := Lib.hid hown'; have HG5 := Lib.hid hgrow; clear hown' hgrow)
      go_roundw
      case rel =>
        refine ⟨k + 1, by omega, by go_num, by rw [HN.out]; exact HO5.out, ?_⟩
        refine Below.grown (HB3.out.alloc HB3.out.size _) HG5.out (by simp; omega) (fun r hr => ?_)
        rcases Nat.lt_or_ge r W0.heap.size with h | h
        · exact absurd hr (own_ge HROW3.out h)
        · exact h
      case measure => simp [intOf]; omega
    · obtain rfl : ml = k := by omega
      have HBW := Lib.hid (HB0.out.trans (HB.out.mono HB0.out.size))
      obtain ⟨la, lc, rfl, hsp⟩ := spans_own HROW.out
      have HSP := Lib.hid hsp
      clear hsp
      go_wp2_with fail
      exact bodyPost_ret (v := .tuple #[.slice la ml lc, .bool true]) (by simp [results, Try.results19, go_sem]) rfl ⟨la, lc, rfl, HSP.out, HBW.out⟩
end Go.Proofs.Ytigeiaiohdemiaa
