/- The reference's failed: what a pot fails in some truth. -/
import Derived.Test.YtajabapcmpmboaaPE
namespace Go.Proofs.Ytajabapcmpmboaa
set_option linter.unusedVariables false
set_option linter.unusedSimpArgs false
open Go.RowKit

/-- What is kept by both ends is kept by all between. -/
theorem keeps_rect (s : Shop) (P tl th al ah l t a : Int) (ht : tl ≤ t ∧ t ≤ th) (ha : al ≤ a ∧ a ≤ ah) (h : keepsB s P tl th al ah l = true) : keepsR s l P t a = true := by
  unfold keepsB at h
  unfold keepsR
  generalize P * s.xl = e1 at *
  generalize P * s.xh = e2 at *
  generalize P * s.yl = e3 at *
  generalize P * s.yh = e4 at *
  split at h
  · rw [if_pos (by assumption)]; have h := of_decide_eq_true h; exact decide_eq_true (by omega)
  · rw [if_neg (by assumption)]
    split at h
    · rw [if_pos (by assumption)]; have h := of_decide_eq_true h; exact decide_eq_true (by omega)
    · rw [if_neg (by assumption)]
      split at h
      · rw [if_pos (by assumption)]; have h := of_decide_eq_true h; exact decide_eq_true (by omega)
      · rw [if_neg (by assumption)]; have h := of_decide_eq_true h; exact decide_eq_true (by omega)
/-- What all truths keep is kept by both ends. -/
theorem rect_keeps (s : Shop) (P tl th al ah l : Int) (ht : tl ≤ th) (ha : al ≤ ah) (h : ∀ t a, tl ≤ t → t ≤ th → al ≤ a → a ≤ ah → keepsR s l P t a = true) : keepsB s P tl th al ah l = true := by
  have h1 := h tl al (Int.le_refl _) ht (Int.le_refl _) ha
  have h2 := h th ah ht (Int.le_refl _) ha (Int.le_refl _)
  unfold keepsB
  unfold keepsR at h1 h2
  generalize P * s.xl = e1 at *
  generalize P * s.xh = e2 at *
  generalize P * s.yl = e3 at *
  generalize P * s.yh = e4 at *
  split
  · rw [if_pos (by assumption)] at h1; exact h1
  · rw [if_neg (by assumption)] at h1 h2
    split
    · rw [if_pos (by assumption)] at h2; exact h2
    · rw [if_neg (by assumption)] at h1 h2
      split
      · rw [if_pos (by assumption)] at h1; exact h1
      · rw [if_neg (by assumption)] at h2; exact h2

/-- What is known of a limit behind the truths with less tin, and those with so much and less antimony. -/
def FailInv (s : Shop) (P tl al ah : Int) (kb : Bool) (l t a : Int) (f : Bool) : Prop :=
  (f = true → kb = false) ∧ (f = false → (∀ t' a', tl ≤ t' → t' < t → al ≤ a' → a' ≤ ah → keepsR s l P t' a' = true) ∧ ∀ a', al ≤ a' → a' < a → keepsR s l P t a' = true)
theorem FailInv.start (s : Shop) (P tl al ah : Int) (kb : Bool) (l : Int) : FailInv s P tl al ah kb l tl al false :=
  ⟨(by intro h; cases h), fun _ => ⟨fun t' a' h1 h2 => by omega, fun a' h1 h2 => by omega⟩⟩
theorem FailInv.next {s : Shop} {P tl th al ah : Int} {l t a : Int} {f : Bool} (h : FailInv s P tl al ah (keepsB s P tl th al ah l) l t a f) (ht : tl ≤ t ∧ t ≤ th) (ha : al ≤ a ∧ a ≤ ah) :
    FailInv s P tl al ah (keepsB s P tl th al ah l) l t (a + 1) (f || !keepsR s l P t a) := by
  refine ⟨fun hf => ?_, fun hf => ?_⟩
  · cases f
    · rcases hk : keepsB s P tl th al ah l with - | -
      · rfl
      · rw [keeps_rect s P tl th al ah l t a ht ha hk] at hf; cases hf
    · exact h.1 rfl
  · cases f
    · have h2 := h.2 rfl
      refine ⟨h2.1, fun a' h3 h4 => ?_⟩
      by_cases e : a' = a
      · rw [e]; simpa using hf
      · exact h2.2 a' h3 (by omega)
    · cases hf
theorem FailInv.row {s : Shop} {P tl al ah : Int} {kb : Bool} {l t a : Int} {f : Bool} (h : FailInv s P tl al ah kb l t a f) (ha : ah < a) : FailInv s P tl al ah kb l (t + 1) al f :=
  ⟨h.1, fun hf => ⟨fun t' a' h1 h2 h3 h4 => by
    by_cases e : t' = t
    · rw [e]; exact (h.2 hf).2 a' h3 (by omega)
    · exact (h.2 hf).1 t' a' h1 (by omega) h3 h4, fun a' h1 h2 => by omega⟩⟩
theorem FailInv.done {s : Shop} {P tl th al ah : Int} {l t a : Int} {f : Bool} (h : FailInv s P tl al ah (keepsB s P tl th al ah l) l t a f) (ht : th < t) (h1 : tl ≤ th) (h2 : al ≤ ah) : f = !keepsB s P tl th al ah l := by
  cases f
  · rw [rect_keeps s P tl th al ah l h1 h2 (fun t' a' k1 k2 k3 k4 => (h.2 rfl).1 t' a' k1 (by omega) k3 k4)]; rfl
  · rw [h.1 rfl]; rfl

def failsOf (s : Shop) (P tl th al ah : Int) (l : List Int) : List Int := l.filter fun x => !keepsB s P tl th al ah x
theorem failsOf_snoc (s : Shop) (P tl th al ah : Int) (k : Nat) (h : k < 4) : failsOf s P tl th al ah ([1, 2, 3, 4].take (k + 1)) = failsOf s P tl th al ah ([1, 2, 3, 4].take k) ++ (if keepsB s P tl th al ah ((k : Int) + 1) then [] else [(k : Int) + 1]) := by
  have e : ([1, 2, 3, 4] : List Int).take (k + 1) = ([1, 2, 3, 4] : List Int).take k ++ [(k : Int) + 1] := by
    have : k = 0 ∨ k = 1 ∨ k = 2 ∨ k = 3 := by omega
    rcases this with rfl | rfl | rfl | rfl <;> rfl
  unfold failsOf
  rw [e, List.filter_append]
  cases hb : keepsB s P tl th al ah ((k : Int) + 1) <;> simp [hb]

set_option maxRecDepth 100000 in
set_option maxHeartbeats 8000000 in
theorem failed_any (s : Shop) (a : Option Addr) (len cap : Nat) (P tl th al ah : Int) (w : World) (hP : 0 ≤ P ∧ P ≤ 2000) (hL : ((0 ≤ s.xl ∧ s.xl ≤ 1000) ∧ (0 ≤ s.xh ∧ s.xh ≤ 1000)) ∧ ((0 ≤ s.yl ∧ s.yl ≤ 1000) ∧ (0 ≤ s.yh ∧ s.yh ≤ 1000))) (f1 : Fair tl) (f2 : Fair th) (f3 : Fair al) (f4 : Fair ah) (ht : tl ≤ th) (ha : al ≤ ah) :
    Calls Try.prog 78 #[.agg #[.int .i64 s.P, .int .i64 s.tl, .int .i64 s.th, .int .i64 s.al, .int .i64 s.ah, .int .i64 s.room, .int .i64 s.xl, .int .i64 s.xh, .int .i64 s.yl, .int .i64 s.yh, .slice a len cap], .agg #[.int .i64 P, .int .i64 tl, .int .i64 th, .int .i64 al, .int .i64 ah]] w fun e w' => ∃ v, e = .returned v ∧ w'.ownsRow w.heap.size 3 1 v (failsOf s P tl th al ah [1, 2, 3, 4]).length ((failsOf s P tl th al ah [1, 2, 3, 4]).map (Value.int .i64)) ∧ Below w.heap.size w w' := by
  obtain ⟨i0, hi, hy0, hy1, hy2⟩ := info_parts Try.info3
  have HK := Lib.hid (fun l (hl : 1 ≤ l ∧ l ≤ 4) t x b h w1 (g1 : Fair t) (g2 : Fair x) => refKeeps_is s a len cap l P t x hl b h w1 hP hL g1 g2)
  unfold Fair at f1 f2 f3 f4
  obtain ⟨f1a, f1b⟩ := f1
  obtain ⟨f2a, f2b⟩ := f2
  obtain ⟨f3a, f3b⟩ := f3
  obtain ⟨f4a, f4b⟩ := f4
  have HS := Lib.hid (failsOf_snoc s P tl th al ah)
  have H0 := Lib.hid (show failsOf s P tl th al ah (([1, 2, 3, 4] : List Int).take 0) = [] from rfl)
  have HL := Lib.hid (fun k => show (failsOf s P tl th al ah (([1, 2, 3, 4] : List Int).take k)).length ≤ 4 from Nat.le_trans (List.length_filter_le _ _) (by simp; omega))
  have HST := Lib.hid (fun l => FailInv.start s P tl al ah (keepsB s P tl th al ah l) l)
  have HNX := Lib.hid (fun l t x f (h : FailInv s P tl al ah (keepsB s P tl th al ah l) l t x f) (h1 : tl ≤ t ∧ t ≤ th) (h2 : al ≤ x ∧ x ≤ ah) => h.next h1 h2)
  have HRW := Lib.hid (fun l t x f (h : FailInv s P tl al ah (keepsB s P tl th al ah l) l t x f) (h1 : ah < x) => h.row h1)
  have HDN := Lib.hid (fun l t x f (h : FailInv s P tl al ah (keepsB s P tl th al ah l) l t x f) (h1 : th < t) => h.done h1 ht ha)
  clear hP hL
  go_enter Try.func78, Try.ntmps78
  go_wp2_with fail
  obtain ⟨W0, hW0⟩ : ∃ W0, (w.alloc (.cells #[.int .i64 s.P, .int .i64 s.tl, .int .i64 s.th, .int .i64 s.al, .int .i64 s.ah, .int .i64 s.room, .int .i64 s.xl, .int .i64 s.xh, .int .i64 s.yl, .int .i64 s.yh, .slice a len cap] 28)).alloc (.cells #[.int .i64 P, .int .i64 tl, .int .i64 th, .int .i64 al, .int .i64 ah] 25) = W0 := ⟨_, rfl⟩
  have hB0 : Below w.heap.size w W0 := by rw [← hW0]; exact (by repeat (first | exact Below.refl _ _ | (refine Below.alloc ?_ (by first | omega | (simp; omega) | simp) _) | (refine Below.setCell ?_ (by first | omega | (simp; omega) | simp) _) | refine Below.drew ?_))
  have hz0 : w.heap.size + 1 < W0.heap.size := by rw [← hW0]; simp
  have hbx : ∀ i, W0.cell? ⟨w.heap.size, i, none⟩ = (#[.int .i64 s.P, .int .i64 s.tl, .int .i64 s.th, .int .i64 s.al, .int .i64 s.ah, .int .i64 s.room, .int .i64 s.xl, .int .i64 s.xh, .int .i64 s.yl, .int .i64 s.yh, .slice a len cap] : Array Value)[i]? := fun i => by rw [← hW0]; clear hW0; go_simp
  have hbp : ∀ i, W0.cell? ⟨w.heap.size + 1, i, none⟩ = (#[.int .i64 P, .int .i64 tl, .int .i64 th, .int .i64 al, .int .i64 ah] : Array Value)[i]? := fun i => by rw [← hW0]; clear hW0; go_simp
  rw [hW0]
  clear hW0
  have HBX := Lib.hid hbx
  have HBP := Lib.hid hbp
  clear hbx hbp
  go_loopw [5, 6] (fun v5 v6 wr => ∃ k : Nat, k ≤ 4 ∧ v6 = .int .i64 ((k : Int) + 1) ∧ wr.ownsRow W0.heap.size 3 1 v5 (failsOf s P tl th al ah ([1, 2, 3, 4].take k)).length ((failsOf s P tl th al ah ([1, 2, 3, 4].take k)).map (Value.int .i64)) ∧ Below W0.heap.size W0 wr) (fun _ i _ => 5 - (intOf i).toNat)
  case atStart => exact ⟨0, Nat.zero_le _, rfl, by rw [H0.out]; exact World.ownsRow_nil _ _ _ _, Below.refl _ _⟩
  case round =>
    obtain ⟨k, hk, rfl, hrow, hBr⟩ := hrel
    obtain ⟨wo, rfl⟩ : ∃ wo : World, wo = wr := ⟨_, rfl⟩
    have hzr := hBr.size
    by_cases hlt : k < 4
    · have hk4 : (k : Int) + 1 ≤ 4 := by omega
      have hbp := fun i => (hBr.cell (p := ⟨w.heap.size + 1, i, none⟩) hz0).trans (HBP.out i)
      have c1 : wo.cell? ⟨w.heap.size + 1, 1, none⟩ = some (.int .i64 tl) := hbp 1
      have HB := Lib.hid hBr
      have HROW := Lib.hid hrow
      clear hbp hrow
      go_wp2_with fail
      go_loopw [7, 8] (fun v7 v8 wm => ∃ (f : Bool) (t : Int), tl ≤ t ∧ t ≤ th + 1 ∧ v7 = .bool f ∧ v8 = .int .i64 t ∧ FailInv s P tl al ah (keepsB s P tl th al ah ((k : Int) + 1)) ((k : Int) + 1) t al f ∧ Below wo.heap.size wo wm) (fun _ t _ => (th + 1 - intOf t).toNat)
      case atStart => exact ⟨false, tl, by omega, by omega, rfl, rfl, HST.out _, Below.refl _ _⟩
      case round =>
        obtain ⟨f, t, ht1, ht2, rfl, rfl, hinv, hBm⟩ := hrel
        obtain ⟨wm, rfl⟩ : ∃ wm : World, wm = wr := ⟨_, rfl⟩
        have hzm := hBm.size
        have hBm0 := HB.out.trans (hBm.mono hzr)
        have hbpm := fun i => (hBm0.cell (p := ⟨w.heap.size + 1, i, none⟩) hz0).trans (HBP.out i)
        have c2 : wm.cell? ⟨w.heap.size + 1, 2, none⟩ = some (.int .i64 th) := hbpm 2
        have c3 : wm.cell? ⟨w.heap.size + 1, 3, none⟩ = some (.int .i64 al) := hbpm 3
        have HINV := Lib.hid hinv
        have HBM := Lib.hid hBm
        have HBM0 := Lib.hid hBm0
        clear hbpm hinv hBm hBm0
        by_cases htt : t ≤ th
        · go_wp2_with fail
          go_loopw [7, 9] (fun v7 v9 wi => ∃ (f' : Bool) (x : Int), al ≤ x ∧ x ≤ ah + 1 ∧ v7 = .bool f' ∧ v9 = .int .i64 x ∧ FailInv s P tl al ah (keepsB s P tl th al ah ((k : Int) + 1)) ((k : Int) + 1) t x f' ∧ Below wm.heap.size wm wi) (fun _ x _ => (ah + 1 - intOf x).toNat)
          case atStart => exact ⟨f, al, by omega, by omega, rfl, rfl, HINV.out, Below.refl _ _⟩
          case round =>
            obtain ⟨f', x, hx1, hx2, rfl, rfl, hinv, hBi⟩ := hrel
            have hzi := hBi.size
            have hBi0 := HBM0.out.trans (hBi.mono (by omega))
            have hbi := fun i => (hBi0.cell (p := ⟨w.heap.size + 1, i, none⟩) hz0).trans (HBP.out i)
            have d4 : wr.cell? ⟨w.heap.size + 1, 4, none⟩ = some (.int .i64 ah) := hbi 4
            have d0 : wr.cell? ⟨w.heap.size + 1, 0, none⟩ = some (.int .i64 P) := hbi 0
            have hbx := fun i => (hBi0.cell (p := ⟨w.heap.size, i, none⟩) (show w.heap.size < W0.heap.size by omega)).trans (HBX.out i)
            obtain ⟨x0, x1, x2, x3, x4, x5, x6, x7, x8, x9, x10⟩ : wr.cell? ⟨w.heap.size, 0, none⟩ = some (.int .i64 s.P) ∧ wr.cell? ⟨w.heap.size, 1, none⟩ = some (.int .i64 s.tl) ∧ wr.cell? ⟨w.heap.size, 2, none⟩ = some (.int .i64 s.th) ∧ wr.cell? ⟨w.heap.size, 3, none⟩ = some (.int .i64 s.al) ∧ wr.cell? ⟨w.heap.size, 4, none⟩ = some (.int .i64 s.ah) ∧ wr.cell? ⟨w.heap.size, 5, none⟩ = some (.int .i64 s.room) ∧ wr.cell? ⟨w.heap.size, 6, none⟩ = some (.int .i64 s.xl) ∧ wr.cell? ⟨w.heap.size, 7, none⟩ = some (.int .i64 s.xh) ∧ wr.cell? ⟨w.heap.size, 8, none⟩ = some (.int .i64 s.yl) ∧ wr.cell? ⟨w.heap.size, 9, none⟩ = some (.int .i64 s.yh) ∧ wr.cell? ⟨w.heap.size, 10, none⟩ = some (.slice a len cap) := ⟨hbx 0, hbx 1, hbx 2, hbx 3, hbx 4, hbx 5, hbx 6, hbx 7, hbx 8, hbx 9, hbx 10⟩
            clear hbi hbx hBi0
            by_cases hxx : x ≤ ah
            · have HN := Lib.hid (HNX.out _ _ _ _ hinv ⟨ht1, htt⟩ ⟨hx1, hxx⟩)
              clear hinv
              cases f'
              · obtain ⟨b, hb⟩ : ∃ b, keepsR s ((k : Int) + 1) P t x = b := ⟨_, rfl⟩
                have HC := Lib.hid (HK.out ((k : Int) + 1) ⟨by omega, hk4⟩ t x b hb wr ⟨by omega, by omega⟩ ⟨by omega, by omega⟩)
                rw [hb] at HN
                clear hb
                go_wp2_with fail
                refine HC.out.mono ?_
                rintro e w5 ⟨rfl, hb5⟩
                have HB5 := Lib.hid (hBi.trans (hb5.mono hzi))
                clear hb5 x0 x1 x2 x3 x4 x5 x6 x7 x8 x9 x10 d0 d4
                cases b
                all_goals
                  go_wp2_with fail
                  go_roundw
                  case rel => exact ⟨_, x + 1, by omega, by omega, rfl, rfl, HN.out, HB5.out⟩
                  case measure => simp [intOf]; omega
              · go_wp2_with fail
                go_roundw
                case rel => exact ⟨true, x + 1, by omega, by omega, rfl, rfl, HN.out, hBi⟩
                case measure => simp [intOf]; omega
            · have HR := Lib.hid (HRW.out _ _ _ _ hinv (by omega))
              have HB6 := Lib.hid (HBM.out.trans (hBi.mono hzm))
              clear hinv x0 x1 x2 x3 x4 x5 x6 x7 x8 x9 x10
              go_wp2_with fail
              go_roundw
              case rel => exact ⟨f', t + 1, by omega, by omega, rfl, rfl, HR.out, HB6.out⟩
              case measure => simp [intOf]; omega
        · have hf := HDN.out _ _ _ _ HINV.out (by omega)
          have HSN := Lib.hid (HS.out k hlt)
          have hrm := HROW.out.kept (grown_none HBM.out) (Classical.em _)
          have hlen := HL.out k
          have HROWM := Lib.hid hrm
          generalize keepsB s P tl th al ah ((k : Int) + 1) = kb at *
          subst hf
          cases kb
          · go_wp2_with (at_builtin; refine wpList_append_own _ rfl _ _ 29 rfl W0.heap.size 3 i0 (.int .i64 0) 1 8 Try.underlying29 hi hy0 hy1 hy2 rfl (by decide) _ _ _ rfl (hrm.alloc _) ⟨wm.heap.size, 0, none⟩ 1 1 [.int .i64 ((k : Int) + 1)] rfl rfl (cell_one_new _ _ _) (by simp [Value.oneCell']) (by unfold maxLen; omega) (by omega) (by simp; omega) ?_; intro v' w5 hown' hgrow _; have HO5 := Lib.hid hown'; have HG5 := Lib.hid hgrow; clear hown' hgrow)
            go_roundw
            case rel =>
              refine ⟨k + 1, by omega, by go_num, by rw [HSN.out]; simpa using HO5.out, ?_⟩
              refine Below.grown (HBM0.out.alloc HBM0.out.size _) HG5.out (by simp; omega) (fun r hr => ?_)
              rcases Nat.lt_or_ge r W0.heap.size with h | h
              · exact absurd hr (own_ge HROW.out h)
              · exact h
            case measure => simp [intOf]; omega
          · go_wp2_with fail
            go_roundw
            case rel => exact ⟨k + 1, by omega, by go_num, by rw [HSN.out]; simpa using HROWM.out, HBM0.out⟩
            case measure => simp [intOf]; omega
    · have hk4 : ¬ (k : Int) + 1 ≤ 4 := by omega
      obtain rfl : k = 4 := by omega
      have hBw := hB0.trans (hBr.mono hB0.size)
      go_wp2_with fail
      go_ret
      exact ⟨_, rfl, Go.Joins.ownsRow_le hrow hB0.size, hBw⟩
end Go.Proofs.Ytajabapcmpmboaa
