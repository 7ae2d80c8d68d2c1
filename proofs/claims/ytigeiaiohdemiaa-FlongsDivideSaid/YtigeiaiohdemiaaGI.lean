/- Flongs: a copy read as a shop; the reference's ask, known, given, Agrees, Worlds, Good; each call of both sides in one contract for any shop. -/
import Derived.Test.YtigeiaiohdemiaaGF
namespace Go.Proofs.Ytigeiaiohdemiaa
set_option linter.unusedVariables false
set_option linter.unusedSimpArgs false
open Go.RowKit

def CopyAt (s : FShop) (ml wl nl : Nat) (w : World) (e : Ending) (w' : World) : Prop :=
  ∃ (ga : Option Addr) (cm : Nat) (va : Option Addr) (vc : Nat) (gw : Option Addr) (cw : Nat), e = .returned (.agg #[.slice ga ml cm, .slice va wl vc, .slice gw nl cw, .int .i64 s.fresh]) ∧ FAt w' ga ml cm va wl vc gw nl cw s ∧ Below w.heap.size w w'
theorem huge_bd {s : FShop} (h : s.huge = false) : s.moulds.length ≤ 40 ∧ s.worlds.length ≤ 40 ∧ s.wants.length ≤ 40 ∧ ∀ x ∈ s.worlds, x.length ≤ 40 := by
  simp only [FShop.huge, Bool.or_eq_false_iff, decide_eq_false_iff_not, List.any_eq_false] at h
  obtain ⟨⟨⟨h1, h2⟩, h3⟩, h4⟩ := h
  exact ⟨by omega, by omega, by omega, fun x hx => by have := h4 x hx; simp at this; omega⟩
theorem Copy_at (s : FShop) (ma : Option Addr) (ml mc : Nat) (wa : Option Addr) (wl wc : Nat) (na : Option Addr) (nl nc : Nat) (w : World) (hp : FAt w ma ml mc wa wl wc na nl nc s) (hh : s.huge = false) :
    Calls Try.prog 32 #[.agg #[.slice ma ml mc, .slice wa wl wc, .slice na nl nc, .int .i64 s.fresh]] w fun e w' => CopyAt s ml wl nl w e w' := by
  obtain ⟨h1, h2, h3, h4⟩ := huge_bd hh
  have e1 := hp.1.1
  have e2 := hp.2.1.1
  have e3 := hp.2.2.1
  refine (Copy_any s ma ml mc wa wl wc na nl nc w hp (by omega) (by omega) (by omega) (fun x hx => by have := h4 x hx; omega)).mono ?_
  rintro e w' ⟨gm, cm, va, vc, gw, cw, vs, N1, he, hM, hW, -, hO, hL, -, hB⟩
  refine ⟨some gm, cm, va, vc, some gw, cw, he, ⟨hM.moulds ?_, hL.lists hO ?_ ?_, hW.ints ?_⟩, hB⟩
  · unfold maxLen; omega
  · unfold maxLen; omega
  · intro x hx; have := h4 x hx; unfold maxLen; omega
  · unfold maxLen; omega

set_option maxHeartbeats 1000000 in
theorem refAsk_is (s : FShop) (ma : Option Addr) (ml mc : Nat) (wa : Option Addr) (wl wc : Nat) (na : Option Addr) (nl nc : Nat) (r : Bool) (v : Int) (h : s.name r = v) (w : World) (hp : FAt w ma ml mc wa wl wc na nl nc s) :
    Calls Try.prog 89 #[.agg #[.slice ma ml mc, .slice wa wl wc, .slice na nl nc, .int .i64 s.fresh], .bool r] w fun e w' => e = .returned (.int .i64 v) ∧ Below w.heap.size w w' := by
  subst h
  have HV := Lib.hid (fun v (h : s.chk = v) w1 (hb : Below w.heap.size w w1) => refCheck_is s ma ml mc wa wl wc na nl nc v h w1 (hp.below hb))
  unfold FShop.name
  rcases ho : s.ok with - | -
  · have HV1 := Lib.hid (HV.out 20 (by simp [FShop.chk, ho]))
    clear hp ho
    cases r
    all_goals
      go_enter Try.func89, Try.ntmps89
      go_wp2_with fail
      refine (HV1.out _ (by repeat (first | exact Below.refl _ _ | (refine Below.alloc ?_ (by first | omega | (simp; omega) | simp) _) | (refine Below.setCell ?_ (by first | omega | (simp; omega) | simp) _) | refine Below.drew ?_))).mono ?_
      rintro e w1 ⟨rfl, hb1⟩
      have HB := Lib.hid hb1
      clear hb1
      go_wp2_with fail
      go_ret
      exact ⟨rfl, (by repeat (first | exact Below.refl _ _ | (refine Below.alloc ?_ (by first | omega | (simp; omega) | simp) _) | (refine Below.setCell ?_ (by first | omega | (simp; omega) | simp) _) | refine Below.drew ?_ | (refine below_via (by assumption) (by first | omega | (simp; omega) | simp) ?_)))⟩
  · have HV1 := Lib.hid (HV.out 0 (by simp [FShop.chk, ho]))
    clear hp ho
    cases r
    all_goals
      go_enter Try.func89, Try.ntmps89
      go_wp2_with fail
      refine (HV1.out _ (by repeat (first | exact Below.refl _ _ | (refine Below.alloc ?_ (by first | omega | (simp; omega) | simp) _) | (refine Below.setCell ?_ (by first | omega | (simp; omega) | simp) _) | refine Below.drew ?_))).mono ?_
      rintro e w1 ⟨rfl, hb1⟩
      have HB := Lib.hid hb1
      clear hb1
      go_wp2_with fail
      go_ret
      exact ⟨rfl, (by repeat (first | exact Below.refl _ _ | (refine Below.alloc ?_ (by first | omega | (simp; omega) | simp) _) | (refine Below.setCell ?_ (by first | omega | (simp; omega) | simp) _) | refine Below.drew ?_ | (refine below_via (by assumption) (by first | omega | (simp; omega) | simp) ?_)))⟩

set_option maxHeartbeats 1000000 in
theorem refKnown_is (s : FShop) (ma : Option Addr) (ml mc : Nat) (wa : Option Addr) (wl wc : Nat) (na : Option Addr) (nl nc : Nat) (r : Bool) (v : Int) (h : s.ask r = v) (w : World) (hp : FAt w ma ml mc wa wl wc na nl nc s) :
    Calls Try.prog 90 #[.agg #[.slice ma ml mc, .slice wa wl wc, .slice na nl nc, .int .i64 s.fresh], .bool r] w fun e w' => e = .returned (.int .i64 v) ∧ Below w.heap.size w w' := by
  have HV := Lib.hid (fun v (h : s.name r = v) w1 (hb : Below w.heap.size w w1) => refAsk_is s ma ml mc wa wl wc na nl nc r v h w1 (hp.below hb))
  have HK := Lib.hid (fun (h : s.ok = true) w1 (hb : Below w.heap.size w w1) => refWorldsOf_any s ma ml mc wa wl wc na nl nc w1 (hp.below hb) h)
  by_cases hz : s.name r = 0
  · obtain ⟨ho, rfl⟩ : s.ok = true ∧ r = true := by
      unfold FShop.name at hz
      rcases h1 : s.ok with - | -
      · rw [h1] at hz; simp at hz
      · refine ⟨rfl, ?_⟩
        cases r
        · rw [h1] at hz; simp at hz
        · rfl
    have HV1 := Lib.hid (HV.out 0 hz)
    have HK1 := Lib.hid (HK.out ho)
    have hv : v = if s.which.length = 0 then 3 else 0 := by rw [← h, FShop.ask, ho, which_left]; simp
    have HN := Lib.hid hv
    clear hp ho h hz hv
    generalize s.which = wh at *
    rcases Nat.eq_zero_or_pos wh.length with h0 | h0
    · have HE := Lib.hid (show v = 3 by rw [HN.out, if_pos h0])
      have h0' : (wh.length : Int) = 0 := by omega
      have HL0 := Lib.hid h0
      clear h0 HN
      go_enter Try.func90, Try.ntmps90
      go_wp2_with fail
      refine (HV1.out _ (by repeat (first | exact Below.refl _ _ | (refine Below.alloc ?_ (by first | omega | (simp; omega) | simp) _) | (refine Below.setCell ?_ (by first | omega | (simp; omega) | simp) _) | refine Below.drew ?_))).mono ?_
      rintro e w1 ⟨rfl, hb1⟩
      obtain ⟨hc1, hf1⟩ := bcell hb1
      have hz1 := hb1.size
      simp at hz1
      have hw1 := ((by repeat (first | exact Below.refl _ _ | (refine Below.alloc ?_ (by first | omega | (simp; omega) | simp) _) | (refine Below.setCell ?_ (by first | omega | (simp; omega) | simp) _) | refine Below.drew ?_)) : Below w.heap.size w _).trans (hb1.mono (by first | (simp; done) | (simp; omega) | omega))
      have q1 : w.heap.size < w1.heap.size := by omega
      clear hb1
      go_wp2_with fail
      refine (HK1.out _ (by repeat (first | assumption | exact Below.refl _ _ | (refine Below.alloc ?_ (by first | omega | (simp; omega) | simp) _) | (refine Below.setCell ?_ (by first | omega | (simp; omega) | simp) _) | refine Below.drew ?_))).mono ?_
      rintro e w2 ⟨la, lc, rfl, -, hb2⟩
      have hw2 := hw1.trans (hb2.mono hw1.size)
      have h0 := HL0.out
      go_wp2_with fail
      all_goals first
        | (go_ret; exact ⟨ret_i64 HE.out.symm, hw2⟩)
        | (exfalso; omega)
    · have HE := Lib.hid (show v = 0 by rw [HN.out, if_neg (by omega)])
      have h0' : ¬ (wh.length : Int) = 0 := by omega
      clear HN
      go_enter Try.func90, Try.ntmps90
      go_wp2_with fail
      refine (HV1.out _ (by repeat (first | exact Below.refl _ _ | (refine Below.alloc ?_ (by first | omega | (simp; omega) | simp) _) | (refine Below.setCell ?_ (by first | omega | (simp; omega) | simp) _) | refine Below.drew ?_))).mono ?_
      rintro e w1 ⟨rfl, hb1⟩
      obtain ⟨hc1, hf1⟩ := bcell hb1
      have hz1 := hb1.size
      simp at hz1
      have hw1 := ((by repeat (first | exact Below.refl _ _ | (refine Below.alloc ?_ (by first | omega | (simp; omega) | simp) _) | (refine Below.setCell ?_ (by first | omega | (simp; omega) | simp) _) | refine Below.drew ?_)) : Below w.heap.size w _).trans (hb1.mono (by first | (simp; done) | (simp; omega) | omega))
      have q1 : w.heap.size < w1.heap.size := by omega
      clear hb1
      go_wp2_with fail
      refine (HK1.out _ (by repeat (first | assumption | exact Below.refl _ _ | (refine Below.alloc ?_ (by first | omega | (simp; omega) | simp) _) | (refine Below.setCell ?_ (by first | omega | (simp; omega) | simp) _) | refine Below.drew ?_))).mono ?_
      rintro e w2 ⟨la, lc, rfl, -, hb2⟩
      have hw2 := hw1.trans (hb2.mono hw1.size)
      go_wp2_with fail
      all_goals first
        | (go_ret; exact ⟨ret_i64 HE.out.symm, hw2⟩)
        | (exfalso; omega)
  · have hv : s.name r = v := by
      rw [← h]
      unfold FShop.name at hz ⊢
      unfold FShop.ask
      rcases h1 : s.ok with - | -
      · simp
      · cases r
        · simp
        · rw [h1] at hz; simp at hz
    rw [hv] at hz
    have HV1 := Lib.hid (HV.out v hv)
    have e2 : (v != 0) = true := by simpa using hz
    clear hp h hv hz
    go_enter Try.func90, Try.ntmps90
    go_wp2_with fail
    refine (HV1.out _ (by repeat (first | exact Below.refl _ _ | (refine Below.alloc ?_ (by first | omega | (simp; omega) | simp) _) | (refine Below.setCell ?_ (by first | omega | (simp; omega) | simp) _) | refine Below.drew ?_))).mono ?_
    rintro e w1 ⟨rfl, hb1⟩
    have HB := Lib.hid hb1
    clear hb1
    go_wp2_with fail
    go_ret
    exact ⟨rfl, (by repeat (first | exact Below.refl _ _ | (refine Below.alloc ?_ (by first | omega | (simp; omega) | simp) _) | (refine Below.setCell ?_ (by first | omega | (simp; omega) | simp) _) | refine Below.drew ?_ | (refine below_via (by assumption) (by first | omega | (simp; omega) | simp) ?_)))⟩
end Go.Proofs.Ytigeiaiohdemiaa
