/- Package pages: count. -/
import Derived.Test.YtcklhojeneejiaaYL
namespace Go.Proofs.Ytcklhojeneejiaa
set_option linter.unusedVariables false
set_option linter.unusedSimpArgs false
open Go.RowKit

def fewS (t : T3) : Prop := (0 ≤ t.a ∧ t.a ≤ 4) ∧ (0 ≤ t.b ∧ t.b ≤ 4) ∧ (0 ≤ t.c ∧ t.c ≤ 4)
theorem fewS_sum {t : T3} (h : fewS t) : 0 ≤ cntS t ∧ cntS t ≤ 12 := by unfold fewS at h; unfold cntS; omega

set_option maxRecDepth 100000 in
@[local go_sem] theorem row0 (a b c d e f g h k : Int) (w : World) : Sem.run Try.prog (Instr.index 101 (.agg #[.int .i64 a, .int .i64 b, .int .i64 c, .int .i64 d, .int .i64 e, .int .i64 f, .int .i64 g, .int .i64 h, .int .i64 k]) (.int .i64 0)) w = .ok (.agg #[.int .i64 a, .int .i64 b, .int .i64 c]) w := by kernel_rfl
set_option maxRecDepth 100000 in
@[local go_sem] theorem row1 (a b c d e f g h k : Int) (w : World) : Sem.run Try.prog (Instr.index 101 (.agg #[.int .i64 a, .int .i64 b, .int .i64 c, .int .i64 d, .int .i64 e, .int .i64 f, .int .i64 g, .int .i64 h, .int .i64 k]) (.int .i64 1)) w = .ok (.agg #[.int .i64 d, .int .i64 e, .int .i64 f]) w := by kernel_rfl
set_option maxRecDepth 100000 in
@[local go_sem] theorem row2 (a b c d e f g h k : Int) (w : World) : Sem.run Try.prog (Instr.index 101 (.agg #[.int .i64 a, .int .i64 b, .int .i64 c, .int .i64 d, .int .i64 e, .int .i64 f, .int .i64 g, .int .i64 h, .int .i64 k]) (.int .i64 2)) w = .ok (.agg #[.int .i64 g, .int .i64 h, .int .i64 k]) w := by kernel_rfl
set_option maxRecDepth 100000 in
@[local go_sem] theorem idx0 (a b c : Int) (w : World) : Sem.run Try.prog (Instr.index 99 (.agg #[.int .i64 a, .int .i64 b, .int .i64 c]) (.int .i64 0)) w = .ok (.int .i64 a) w := by kernel_rfl
set_option maxRecDepth 100000 in
@[local go_sem] theorem idx1 (a b c : Int) (w : World) : Sem.run Try.prog (Instr.index 99 (.agg #[.int .i64 a, .int .i64 b, .int .i64 c]) (.int .i64 1)) w = .ok (.int .i64 b) w := by kernel_rfl
set_option maxRecDepth 100000 in
@[local go_sem] theorem idx2 (a b c : Int) (w : World) : Sem.run Try.prog (Instr.index 99 (.agg #[.int .i64 a, .int .i64 b, .int .i64 c]) (.int .i64 2)) w = .ok (.int .i64 c) w := by kernel_rfl

def InC (c : Int) (t : T3) (s n : Value) : Prop :=
  (n = .int .i64 0 ∧ s = .int .i64 c) ∨ (n = .int .i64 1 ∧ s = .int .i64 (c + t.a)) ∨ (n = .int .i64 2 ∧ s = .int .i64 (c + t.a + t.b)) ∨ (n = .int .i64 3 ∧ s = .int .i64 (c + t.a + t.b + t.c))
def OutC (x y z : T3) (s i : Value) : Prop :=
  (i = .int .i64 0 ∧ s = .int .i64 0) ∨ (i = .int .i64 1 ∧ s = .int .i64 (cntS x)) ∨ (i = .int .i64 2 ∧ s = .int .i64 (cntS x + cntS y)) ∨ (i = .int .i64 3 ∧ s = .int .i64 (cntS x + cntS y + cntS z))

theorem int_eq {a b : Int} (h : a = b) : Value.int .i64 a = Value.int .i64 b := h ▸ rfl
theorem out1 {x y z : T3} {s : Value} (h : s = .int .i64 (cntS x)) : OutC x y z s (.int .i64 1) := .inr (.inl ⟨rfl, h⟩)
theorem out2 {x y z : T3} {s : Value} (h : s = .int .i64 (cntS x + cntS y)) : OutC x y z s (.int .i64 2) := .inr (.inr (.inl ⟨rfl, h⟩))
theorem out3 {x y z : T3} {s : Value} (h : s = .int .i64 (cntS x + cntS y + cntS z)) : OutC x y z s (.int .i64 3) := .inr (.inr (.inr ⟨rfl, h⟩))

set_option maxRecDepth 100000 in
set_option maxHeartbeats 4000000 in
theorem count_any (x y z : T3) (hx : fewS x) (hy : fewS y) (hz : fewS z) (w : World) :
    Calls Try.prog 108 #[.agg #[.int .i64 x.a, .int .i64 x.b, .int .i64 x.c, .int .i64 y.a, .int .i64 y.b, .int .i64 y.c, .int .i64 z.a, .int .i64 z.b, .int .i64 z.c]] w fun e w' => e = .returned (.int .i64 (cntS x + cntS y + cntS z)) ∧ Below w.heap.size w w' := by
  have HSX := Lib.hid (fewS_sum hx)
  have HSY := Lib.hid (fewS_sum hy)
  have HSZ := Lib.hid (fewS_sum hz)
  have HX := Lib.hid hx
  have HY := Lib.hid hy
  have HZ := Lib.hid hz
  clear hx hy hz
  go_enter Try.func108, Try.ntmps108
  go_wp2_with fail
  go_loopw [3, 9] (fun s i wr => OutC x y z s i ∧ Below w.heap.size w wr) (fun _ i _ => (3 - intOf i).toNat)
  case atStart => exact ⟨.inl ⟨rfl, rfl⟩, (by repeat (first | exact Below.refl _ _ | (refine Below.alloc ?_ (by first | omega | (simp; omega) | simp) _) | (refine Below.setCell ?_ (by first | omega | (simp; omega) | simp) _) | refine Below.drew ?_))⟩
  case round =>
    obtain ⟨hcase, hbw⟩ := hrel
    have HBW := Lib.hid hbw
    rcases hcase with ⟨rfl, rfl⟩ | ⟨rfl, rfl⟩ | ⟨rfl, rfl⟩ | ⟨rfl, rfl⟩
    · clear hbw
      go_wp2_with fail
      go_loopw [3, 13] (fun s n wi => InC 0 x s n ∧ Below w.heap.size w wi) (fun _ n _ => (3 - intOf n).toNat)
      case atStart =>
        have hbB := HBW.out
        exact ⟨.inl ⟨rfl, rfl⟩, hbB.alloc hbB.size _⟩
      case round =>
        obtain ⟨hin, hbi⟩ := hrel
        have HBI := Lib.hid hbi
        have hb := HSX.out
        have h0 := HSX.out
        have h1 := HSY.out
        obtain ⟨h2, h3, h4⟩ := HX.out
        rcases hin with ⟨rfl, rfl⟩ | ⟨rfl, rfl⟩ | ⟨rfl, rfl⟩ | ⟨rfl, rfl⟩
        · clear hbi
          go_wp2_with fail
          exact ⟨⟨.inr (.inl ⟨rfl, int_eq (by omega)⟩), HBI.out⟩, by simp [intOf]⟩
        · clear hbi
          go_wp2_with fail
          exact ⟨⟨.inr (.inr (.inl ⟨rfl, int_eq (by omega)⟩)), HBI.out⟩, by simp [intOf]⟩
        · clear hbi
          go_wp2_with fail
          exact ⟨⟨.inr (.inr (.inr ⟨rfl, int_eq (by omega)⟩)), HBI.out⟩, by simp [intOf]⟩
        · clear hbi
          go_wp2_with fail
          exact ⟨⟨out1 (int_eq (by unfold cntS; omega)), HBI.out⟩, by simp [intOf]⟩
    · clear hbw
      go_wp2_with fail
      go_loopw [3, 13] (fun s n wi => InC (cntS x) y s n ∧ Below w.heap.size w wi) (fun _ n _ => (3 - intOf n).toNat)
      case atStart =>
        have hbB := HBW.out
        exact ⟨.inl ⟨rfl, rfl⟩, hbB.alloc hbB.size _⟩
      case round =>
        obtain ⟨hin, hbi⟩ := hrel
        have HBI := Lib.hid hbi
        have hb := HSY.out
        have h0 := HSX.out
        have h1 := HSY.out
        obtain ⟨h2, h3, h4⟩ := HY.out
        rcases hin with ⟨rfl, rfl⟩ | ⟨rfl, rfl⟩ | ⟨rfl, rfl⟩ | ⟨rfl, rfl⟩
        · clear hbi
          go_wp2_with fail
          exact ⟨⟨.inr (.inl ⟨rfl, int_eq (by omega)⟩), HBI.out⟩, by simp [intOf]⟩
        · clear hbi
          go_wp2_with fail
          exact ⟨⟨.inr (.inr (.inl ⟨rfl, int_eq (by omega)⟩)), HBI.out⟩, by simp [intOf]⟩
        · clear hbi
          go_wp2_with fail
          exact ⟨⟨.inr (.inr (.inr ⟨rfl, int_eq (by omega)⟩)), HBI.out⟩, by simp [intOf]⟩
        · clear hbi
          go_wp2_with fail
          exact ⟨⟨out2 (int_eq (by unfold cntS; omega)), HBI.out⟩, by simp [intOf]⟩
    · clear hbw
      go_wp2_with fail
      go_loopw [3, 13] (fun s n wi => InC (cntS x + cntS y) z s n ∧ Below w.heap.size w wi) (fun _ n _ => (3 - intOf n).toNat)
      case atStart =>
        have hbB := HBW.out
        exact ⟨.inl ⟨rfl, rfl⟩, hbB.alloc hbB.size _⟩
      case round =>
        obtain ⟨hin, hbi⟩ := hrel
        have HBI := Lib.hid hbi
        have hb := HSZ.out
        have h0 := HSX.out
        have h1 := HSY.out
        obtain ⟨h2, h3, h4⟩ := HZ.out
        rcases hin with ⟨rfl, rfl⟩ | ⟨rfl, rfl⟩ | ⟨rfl, rfl⟩ | ⟨rfl, rfl⟩
        · clear hbi
          go_wp2_with fail
          exact ⟨⟨.inr (.inl ⟨rfl, int_eq (by omega)⟩), HBI.out⟩, by simp [intOf]⟩
        · clear hbi
          go_wp2_with fail
          exact ⟨⟨.inr (.inr (.inl ⟨rfl, int_eq (by omega)⟩)), HBI.out⟩, by simp [intOf]⟩
        · clear hbi
          go_wp2_with fail
          exact ⟨⟨.inr (.inr (.inr ⟨rfl, int_eq (by omega)⟩)), HBI.out⟩, by simp [intOf]⟩
        · clear hbi
          go_wp2_with fail
          exact ⟨⟨out3 (int_eq (by unfold cntS; omega)), HBI.out⟩, by simp [intOf]⟩
    · clear hbw
      go_wp2_with fail
      refine bodyPost_ret (v := .int .i64 (cntS x + cntS y + cntS z)) (by simp [results, Try.results108, go_sem, *]) rfl ⟨rfl, ?_⟩
      have hBB := HBW.out
      exact (by repeat (first | assumption | exact Below.refl _ _ | (refine Below.alloc ?_ (by first | omega | (simp; omega) | simp) _) | (refine Below.setCell ?_ (by first | omega | (simp; omega) | simp) _) | refine Below.drew ?_))
end Go.Proofs.Ytcklhojeneejiaa
