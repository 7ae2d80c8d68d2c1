/- The chapter's examples. -/
import Derived.Test.YtojmimfjnnibdaaLC
namespace Go.Proofs.Ytojmimfjnnibdaa
set_option linter.unusedVariables false
set_option linter.unusedSimpArgs false
open Go.RowKit

theorem okM : shopM.ok = true := by decide
theorem safeM : shopM.safeOf [1, 1, 1] = 1 := by decide
theorem codeM1 : shopM.code [1, 1, 1] = 0 ∧ shopM.code [0, 1, 0] = 0 ∧ shopM.code [1, 1, 0] = 0 := by decide
theorem badM : shopM.bad [0, 1, 0] [1, 2, 3, 4] = [1, 4] := by decide
theorem leadM : shopM.leadsOf [1, 1, 0] = (4, 53, true) := by decide +kernel
theorem cheapM : shopM.least 0 = (60, 0) := by decide +kernel
theorem tinM : shopM.least 1 = (6, 0) := by decide +kernel
def ins (o : Offer) : List Offer → List Offer
  | [] => [o]
  | p :: l => if o.c ≤ p.c then o :: p :: l else p :: ins o l
def isort : List Offer → List Offer
  | [] => []
  | o :: l => ins o (isort l)
theorem ins_perm (o : Offer) : ∀ l, (ins o l).Perm (o :: l)
  | [] => .refl _
  | p :: l => by
    unfold ins; split
    · exact .refl _
    · exact ((ins_perm o l).cons p).trans (.swap _ _ _)
theorem isort_perm : ∀ l, (isort l).Perm l
  | [] => .refl _
  | o :: l => (ins_perm o _).trans ((isort_perm l).cons o)
theorem ins_sorted (o : Offer) : ∀ l : List Offer, (l.Pairwise fun x y => x.c ≤ y.c) → (ins o l).Pairwise fun x y => x.c ≤ y.c
  | [], _ => by simp [ins]
  | p :: l, h => by
    obtain ⟨h1, h2⟩ := List.pairwise_cons.1 h
    unfold ins; split
    · rename_i hc
      exact List.pairwise_cons.2 ⟨fun y hy => by rcases List.mem_cons.1 hy with rfl | hy; exact hc; have := h1 y hy; omega, h⟩
    · rename_i hc
      refine List.pairwise_cons.2 ⟨fun y hy => ?_, ins_sorted o l h2⟩
      rcases List.mem_cons.1 ((ins_perm o l).mem_iff.1 hy) with rfl | hy
      · omega
      · exact h1 y hy
theorem isort_sorted : ∀ l : List Offer, (isort l).Pairwise fun x y => x.c ≤ y.c
  | [] => by simp [isort]
  | o :: l => ins_sorted o _ (isort_sorted l)
theorem known_isort {s : Shop} (ho : s.ok = true) : s.knownR = knownOf s (isort (s.offersOf ((allL s.most).filter s.room?))) :=
  known_perm ho (sorted_is s) ⟨isort_perm _, isort_sorted _⟩
theorem knownM : knownOf shopM (isort (shopM.offersOf ((allL shopM.most).filter shopM.room?))) = some (0, 30) := by decide +kernel
theorem bestM : shopM.best 0 = some ([1, 1, 1], 60) := by decide +kernel
theorem worthM : shopM.worthOf = (30, 0) := by
  unfold Shop.worthOf
  rw [okM, known_isort okM, knownM, bestM]; rfl

theorem ints3 (w : World) (x y z : Int) (b : Nat) (hb : b = w.heap.size) : IntsAt (w.alloc (.cells #[.int .i64 x, .int .i64 y, .int .i64 z] 3)) (some ⟨b, 0, none⟩) 3 [x, y, z] := by
  subst hb
  refine ⟨rfl, by decide, fun _ => ⟨w.heap.size, 0, rfl, by simp, fun i hi => ?_⟩⟩
  have hi3 : i < 3 := hi
  have h := World.cell?_alloc_new w #[.int .i64 x, .int .i64 y, .int .i64 z] 3 i
  rw [Nat.zero_add, h]
  match i, hi3 with
  | 0, _ => rfl
  | 1, _ => rfl
  | 2, _ => rfl
theorem ints2 (w : World) (x y : Int) (b : Nat) (hb : b = w.heap.size) : IntsAt (w.alloc (.cells #[.int .i64 x, .int .i64 y] 3)) (some ⟨b, 0, none⟩) 2 [x, y] := by
  subst hb
  refine ⟨rfl, by decide, fun _ => ⟨w.heap.size, 0, rfl, by simp, fun i hi => ?_⟩⟩
  have hi3 : i < 2 := hi
  have h := World.cell?_alloc_new w #[.int .i64 x, .int .i64 y] 3 i
  rw [Nat.zero_add, h]
  match i, hi3 with
  | 0, _ => rfl
  | 1, _ => rfl
theorem ints_own {w : World} {n0 len cap : Nat} {a : Option Addr} {xs : List Int} (h : w.ownsRow n0 3 1 (.slice a len cap) len (xs.map (Value.int .i64))) (hm : len ≤ maxLen) : IntsAt w a len xs := by
  have hl : xs.length = len := by have := h.1; simp at this; omega
  rcases h.2 with ⟨h0, h1⟩ | ⟨g, cap', cur, hv, hg, hb, hn, hc, hcs, ht⟩
  · exact ⟨hl, hm, fun h => by omega⟩
  · cases hv
    refine ⟨hl, hm, fun _ => ⟨g, 0, rfl, (Array.getElem?_eq_some_iff.1 hb).1, fun i hi => ?_⟩⟩
    have := h.cells (g := g) rfl i (.int .i64 xs[i]) (by simp [hi])
    rw [addr_add] at this
    rwa [Nat.zero_add]

theorem Safe_M (a x : Option Addr) (cap xc : Nat) (w : World) (hp : PigsAt w a 3 shopM.pigs) (hx : IntsAt w x 3 [1, 1, 1]) :
    Calls Try.prog 22 #[.agg (cellsM a cap), .slice x 3 xc] w fun e w' => e = .returned (.tuple #[.int .i64 1, .int .i64 0]) ∧ Below w.heap.size w w' := by
  have h := Safe_yes shopM a 3 cap x 3 xc [1, 1, 1] w hp hx codeM1.1
  rw [safeM] at h; exact h
theorem Fails_M (a x : Option Addr) (cap xc : Nat) (w : World) (hp : PigsAt w a 3 shopM.pigs) (hx : IntsAt w x 3 [0, 1, 0]) :
    Calls Try.prog 24 #[.agg (cellsM a cap), .slice x 3 xc] w fun e w' => ∃ f fc, e = .returned (.tuple #[.slice f 2 fc, .int .i64 0]) ∧ w'.ownsRow w.heap.size 3 1 (.slice f 2 fc) 2 ([1, 4].map (Value.int .i64)) ∧ Below w.heap.size w w' := by
  have h := Fails_yes shopM a 3 cap x 3 xc [0, 1, 0] w hp hx codeM1.2.1
  rw [badM] at h
  refine h.mono ?_
  rintro e w' ⟨v, rfl, hr, -, hb⟩
  obtain ⟨g, fc, rfl, -⟩ := ownsRow_pos hr (by decide)
  exact ⟨_, _, rfl, hr, hb⟩
theorem Lead_M (a x : Option Addr) (cap xc : Nat) (w : World) (hp : PigsAt w a 3 shopM.pigs) (hx : IntsAt w x 3 [1, 1, 0]) :
    Calls Try.prog 26 #[.agg (cellsM a cap), .slice x 3 xc] w fun e w' => e = .returned (.tuple #[.agg #[.int .i64 4, .int .i64 53], .int .i64 0]) ∧ Below w.heap.size w w' := by
  have h := Lead_yes shopM a 3 cap x 3 xc [1, 1, 0] w hp hx codeM1.2.2 4 53 true leadM
  exact h
theorem Cheap_M (a : Option Addr) (cap : Nat) (w : World) (hp : PigsAt w a 3 shopM.pigs) :
    Calls Try.prog 32 #[.agg (cellsM a cap)] w fun e w' => e = .returned (.tuple #[.int .i64 60, .int .i64 0]) ∧ Below w.heap.size w w' := by
  have h := Cheap_any shopM a 3 cap w hp
  rw [cheapM] at h; exact h
theorem Tin_M (a : Option Addr) (cap : Nat) (w : World) (hp : PigsAt w a 3 shopM.pigs) :
    Calls Try.prog 36 #[.agg (cellsM a cap)] w fun e w' => e = .returned (.tuple #[.int .i64 6, .int .i64 0]) ∧ Below w.heap.size w w' := by
  have h := Tin_any shopM a 3 cap w hp
  rw [tinM] at h; exact h
theorem Worth_M (a : Option Addr) (cap : Nat) (w : World) (hp : PigsAt w a 3 shopM.pigs) :
    Calls Try.prog 41 #[.agg (cellsM a cap)] w fun e w' => e = .returned (.tuple #[.int .i64 30, .int .i64 0]) ∧ Below w.heap.size w w' := by
  have h := Worth_any shopM a 3 cap w hp
  rw [worthM] at h; exact h
end Go.Proofs.Ytojmimfjnnibdaa
