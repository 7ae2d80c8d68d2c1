/- MetalAnalysis: what Known and Worth say of a truth. -/
import Derived.Test.YtajabapcmpmboaaPG
import Derived.Test.YtajabapcmpmboaaPE
import Derived.Test.YtajabapcmpmboaaMO
namespace Go.Proofs.Ytajabapcmpmboaa
set_option linter.unusedVariables false
set_option linter.unusedSimpArgs false
open Go.RowKit

theorem safe_does {s : Shop} {x : List Int} (h : s.safeOf x = 1) {t a : Int} (hi : s.inT t a) : s.does t a x := by
  rw [safeOf_verdict, verdict_1] at h
  obtain ⟨⟨h1, h2⟩, h3, h4⟩ := hi
  unfold Shop.does
  omega
theorem narrow_does (s : Shop) (t a : Int) (x : List Int) : (s.narrow t t a a).safeOf x = 1 ↔ s.does t a x := by
  rw [safeOf_verdict, verdict_1]
  exact Iff.rfl
theorem truth_in {s : Shop} {t a : Int} (h : truthB s t a = true) : s.inT t a ∧ insideB t t s.tl s.th = true ∧ insideB a a s.al s.ah = true := by
  simp only [truthB, btw, Bool.and_eq_true, decide_eq_true_eq] at h
  refine ⟨h, ?_, ?_⟩ <;> simp only [insideB, decide_eq_true_eq] <;> omega
theorem cost_fair {s : Shop} (ho : s.ok = true) {x : List Int} (hx : x ∈ s.adds) : 0 ≤ s.cost x ∧ s.cost x ≤ 2000 := by
  have h2 := (List.mem_filter.1 hx).1
  have hl := allL_len _ _ h2
  simp only [Shop.most, List.length_map] at hl
  have := tot_all Pig.c bd_pence s.pigs x (Shop.few_all ho h2) rfl hl
  have hbd := Shop.ok_bd ho
  unfold Shop.cost
  omega
/-- What MetalAnalysis asks of the answers. -/
structure AnaOk (m n kc lo hi wc wo : Int) : Prop where
  less : m ≤ n
  known : kc = 0 ∨ kc = 3
  worth : (wc = 0 ∧ n < 100000) ∨ (wc = 3 ∧ n = 100000)
  both : wc = 0 → kc = 0
  inside : kc = 0 → m < 100000 ∧ lo ≤ m ∧ m ≤ hi ∧ 0 ≤ lo ∧ hi ≤ 2000
  gain : wc = 0 → 0 ≤ wo ∧ wo = n - hi
  low : 0 ≤ m
theorem ana_ok {s : Shop} (ho : s.ok = true) {t a : Int} (ht : truthB s t a = true) :
    ∃ lo hi, knownCells s = #[.int .i64 lo, .int .i64 hi] ∧ AnaOk ((s.narrow t t a a).costN 0) (s.costN 0) s.knownCode lo hi s.worthOf.2 s.worthOf.1 := by
  obtain ⟨hin, hi1, hi2⟩ := truth_in ht
  have hno := narrow_ok s t t a a hi1 hi2 ho
  have hle : (s.narrow t t a a).costN 0 ≤ s.costN 0 := by
    have := narrow_less s t t a a hi1 hi2 ho
    simp only [lessB, Bool.and_eq_true, decide_eq_true_eq] at this
    exact this.1
  have hk := known_spec ho
  have hb := best_spec s (askF 0 s) s.adds
  have hbn := best_spec (s.narrow t t a a) (askF 0 (s.narrow t t a a)) (s.narrow t t a a).adds
  change BestSpec _ _ _ (s.best 0) at hb
  change BestSpec _ _ _ ((s.narrow t t a a).best 0) at hbn
  have had : (s.narrow t t a a).adds = s.adds := rfl
  have hask : ∀ x, askF 0 (s.narrow t t a a) x = s.cost x := fun _ => rfl
  have hask0 : ∀ x, askF 0 s x = s.cost x := fun _ => rfl
  unfold Shop.costN at hle ⊢
  unfold knownCells Shop.knownCode Shop.worthOf
  simp only [ho, if_true]
  cases hR : s.knownR with
  | none =>
    rw [hR] at hk
    obtain ⟨t', a', hin', hnone⟩ := hk
    refine ⟨0, 0, rfl, ?_⟩
    cases hB : s.best 0 with
    | some p =>
      obtain ⟨y, m⟩ := p
      rw [hB] at hb
      rcases hb with ⟨h, _⟩ | ⟨y', m', he, hy, hs, _, _⟩
      · cases h
      · exact absurd (safe_does hs hin') (hnone y' hy)
    | none =>
      rw [hB] at hle
      simp only at hle ⊢
      refine ⟨hle, .inr rfl, .inr ⟨rfl, rfl⟩, by intro h; simp at h, by intro h; simp at h, by intro h; simp at h, ?_⟩
      cases hN : (s.narrow t t a a).best 0 with
      | none => simp
      | some p => have := (cheap_fair (y := p.1) (m := p.2) hno (by rw [hN])).1; simpa using this
  | some p =>
    obtain ⟨lo, hi⟩ := p
    rw [hR] at hk
    obtain ⟨k1, ⟨t1, a1, i1, k2⟩, ⟨t2, a2, x2, i2, c1, c2, c3⟩, k4⟩ := hk
    refine ⟨lo, hi, rfl, ?_⟩
    obtain ⟨x, hx, hdx, hcx⟩ := k1 t a hin
    have hlo : 0 ≤ lo := by rw [← c3]; exact (cost_fair ho c1).1
    have hhi : hi ≤ 2000 := by
      obtain ⟨z, hz, hdz, hcz⟩ := k1 t1 a1 i1
      have := k2 z hz hdz
      have := (cost_fair ho hz).2
      omega
    have hm : ∃ m, (s.narrow t t a a).best 0 = some m ∧ lo ≤ m.2 ∧ m.2 ≤ hi := by
      rcases hbn with ⟨he, hn⟩ | ⟨y, m, he, hy, hs, hmy, hmin⟩
      · exact absurd ((narrow_does s t a x).2 hdx) (hn x (had ▸ hx))
      · refine ⟨_, he, ?_, ?_⟩
        · have := k4 t a y hin (had ▸ hy) ((narrow_does s t a y).1 hs)
          rw [hmy]; exact this
        · have := hmin x (had ▸ hx) ((narrow_does s t a x).2 hdx)
          rw [hask] at this
          exact Int.le_trans this hcx
    obtain ⟨⟨y, m⟩, hN, hm1, hm2⟩ := hm
    rw [hN] at hle ⊢
    simp only at hm1 hm2 hle ⊢
    cases hB : s.best 0 with
    | none =>
      simp only
      exact ⟨by omega, .inl rfl, .inr ⟨rfl, rfl⟩, by intro h; simp at h, fun _ => ⟨by omega, hm1, hm2, hlo, hhi⟩, by intro h; simp at h, by omega⟩
    | some p =>
      obtain ⟨y', n⟩ := p
      rw [hB] at hle hb
      simp only at hle ⊢
      have hn := cheap_fair ho hB
      have hge : hi ≤ n := by
        rcases hb with ⟨h, _⟩ | ⟨y2, m2, he, hy, hs, hmy, _⟩
        · cases h
        · cases he
          have := k2 _ hy (safe_does hs i1)
          rw [hmy]; exact this
      exact ⟨hle, .inl rfl, .inl ⟨rfl, by omega⟩, fun _ => rfl, fun _ => ⟨by omega, hm1, hm2, hlo, hhi⟩, fun _ => ⟨by omega, rfl⟩, by omega⟩

set_option maxHeartbeats 2000000 in
theorem InTruth_any (s : Shop) (a : Option Addr) (len cap : Nat) (t u : Int) (w : World) (hp : PigsAt w a len s.pigs) (hl : len ≤ 1000) :
    Calls Try.prog 66 #[.agg #[.int .i64 s.P, .int .i64 s.tl, .int .i64 s.th, .int .i64 s.al, .int .i64 s.ah, .int .i64 s.room, .int .i64 s.xl, .int .i64 s.xh, .int .i64 s.yl, .int .i64 s.yh, .slice a len cap], .int .i64 t, .int .i64 u] w fun e w' => ∃ a' cap', e = .returned (.agg #[.int .i64 s.P, .int .i64 t, .int .i64 t, .int .i64 u, .int .i64 u, .int .i64 s.room, .int .i64 s.xl, .int .i64 s.xh, .int .i64 s.yl, .int .i64 s.yh, .slice a' len cap']) ∧ PigsAt w' a' len s.pigs ∧ Below w.heap.size w w' := by
  have HC := Lib.hid (fun w1 (hb : Below w.heap.size w w1) => Copy_any s a len cap w1 (hp.below hb) hl)
  have hm : len ≤ maxLen := hp.2.1
  clear hp
  go_enter Try.func66, Try.ntmps66
  go_wp2_with fail
  refine (HC.out _ (by repeat (first | exact Below.refl _ _ | (refine Below.alloc ?_ (by first | omega | (simp; omega) | simp) _) | (refine Below.setCell ?_ (by first | omega | (simp; omega) | simp) _) | refine Below.drew ?_))).mono ?_
  rintro e w1 ⟨hb1, a', cap', rfl, hown⟩
  obtain ⟨hP, hfar⟩ := pigs_own hown hm
  obtain ⟨hc1, hf1⟩ := bcell hb1
  have hz1 := hb1.size
  simp at hz1 hfar
  have HB := Lib.hid (((by repeat (first | exact Below.refl _ _ | (refine Below.alloc ?_ (by first | omega | (simp; omega) | simp) _) | (refine Below.setCell ?_ (by first | omega | (simp; omega) | simp) _) | refine Below.drew ?_)) : Below w.heap.size w _).trans (hb1.mono (by simp; omega)))
  have HP := Lib.hid hP
  have HF := Lib.hid hfar
  clear hb1 hown hP hfar
  have q2 : w.heap.size < w1.heap.size := by omega
  have q3 : w.heap.size + 1 < w1.heap.size := by omega
  go_wp2_with fail
  refine bodyPost_ret (v := .agg #[.int .i64 s.P, .int .i64 t, .int .i64 t, .int .i64 u, .int .i64 u, .int .i64 s.room, .int .i64 s.xl, .int .i64 s.xh, .int .i64 s.yl, .int .i64 s.yh, .slice a' len cap']) (by simp [results, Try.results66, go_sem, hc1, hf1, q2, q3]) rfl ⟨_, _, rfl, ?_, ?_⟩
  · refine PigsAt.below ((Below.refl _ _).alloc (Nat.le_refl _) _) ?_
    repeat (with_reducible refine PigsAt.kept ?_ (gb_setCell _ _ _ _) (fun h0 b o e => (by have hh := HF.out h0 b o e; simp; omega)))
    exact HP.out
  · refine Below.alloc ?_ (by first | (simp; done) | (simp; omega) | omega) _
    repeat (with_reducible refine Below.setCell ?_ (by first | (simp; done) | (simp; omega) | omega) _)
    exact HB.out
end Go.Proofs.Ytajabapcmpmboaa
