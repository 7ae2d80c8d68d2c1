/- LC LD LE, joined. -/
import Derived.Test.YtajabapcmpmboaaLA
import Derived.Test.YtajabapcmpmboaaRJ
import Derived.Test.YtajabapcmpmboaaG
import Derived.Test.YtajabapcmpmboaaN
import Derived.Test.YtajabapcmpmboaaQ
/- The examples' shop. -/
namespace Go.Proofs.Ytajabapcmpmboaa
set_option linter.unusedVariables false
set_option linter.unusedSimpArgs false
open Go.RowKit
set_option linter.unnecessarySimpa false

def shopM : Shop := { P := 200, tl := 6, th := 8, al := 28, ah := 30, room := 300, xl := 40, xh := 60, yl := 120, yh := 160, pigs := [{ P := 10, t := 5, a := 0, c := 30, m := 3 }, { P := 20, t := 1, a := 6, c := 25, m := 2 }, { P := 25, t := 0, a := 0, c := 5, m := 2 }] }
def cellsM (a : Option Addr) (cap : Nat) : Array Value := #[.int .i64 200, .int .i64 6, .int .i64 8, .int .i64 28, .int .i64 30, .int .i64 300, .int .i64 40, .int .i64 60, .int .i64 120, .int .i64 160, .slice a 3 cap]

theorem frozen_new (w : World) (cs : Array Value) (T : TypeId) (i : Nat) : (w.alloc (.cells cs T)).frozen? ⟨w.heap.size, i, none⟩ = false := by
  have h : (w.alloc (.cells cs T)).heap[w.heap.size]? = some (.cells cs T (0, 0)) := World.alloc_heap_new _ _
  unfold World.frozen?; rw [h]; simp

theorem pigs_kept {w w' : World} {a : Option Addr} {len : Nat} {ps : List Pig} (h : PigsAt w a len ps) (hs : w.heap.size ≤ w'.heap.size) (hk : ∀ b o, a = some ⟨b, o, none⟩ → w'.heap[b]? = w.heap[b]?) : PigsAt w' a len ps := by
  obtain ⟨h1, h2, h3⟩ := h
  refine ⟨h1, h2, fun hl => ?_⟩
  obtain ⟨b, o, ha, hb, hc⟩ := h3 hl
  refine ⟨b, o, ha, Nat.lt_of_lt_of_le hb hs, fun i hi => ?_⟩
  obtain ⟨c0, c1, c2, c3, c4⟩ := hc i hi
  have e := fun j => World.cell?_of_block (w := w) (w' := w') (a := ⟨b, j, none⟩) (hk b o ha)
  exact ⟨(e _).trans c0, (e _).trans c1, (e _).trans c2, (e _).trans c3, (e _).trans c4⟩

set_option maxHeartbeats 2000000 in
theorem Example_any (w : World) :
    Calls Try.prog 67 #[] w fun e w' => Below w.heap.size w w' ∧ ∃ a cap a2 cap2, e = .returned (.tuple #[.agg (cellsM a cap), .agg (cellsM a2 cap2)]) ∧ PigsAt w' a 3 shopM.pigs := by
  go_enter Try.func67, Try.ntmps67
  go_wp2
  obtain ⟨W0, hW0⟩ : ∃ W0, (((w.alloc (.cells (cellsM (some ⟨w.heap.size + 1 + 1, 0, none⟩) 3) 28)).alloc (.cells #[.int .i64 0, .int .i64 0, .int .i64 0, .int .i64 0, .int .i64 0, .int .i64 0, .int .i64 0, .int .i64 0, .int .i64 0, .int .i64 0, .slice none 0 0] 28)).alloc (.cells #[.int .i64 10, .int .i64 5, .int .i64 0, .int .i64 30, .int .i64 3, .int .i64 20, .int .i64 1, .int .i64 6, .int .i64 25, .int .i64 2, .int .i64 25, .int .i64 0, .int .i64 0, .int .i64 5, .int .i64 2] 70)) = W0 := ⟨_, rfl⟩
  have hz0 : W0.heap.size = w.heap.size + 1 + 1 + 1 := by rw [← hW0]; simp
  have hB0 : Below w.heap.size w W0 := by rw [← hW0]; exact (by repeat (first | exact Below.refl _ _ | (refine Below.alloc ?_ (by first | omega | (simp; omega) | simp) _) | (refine Below.setCell ?_ (by first | omega | (simp; omega) | simp) _) | refine Below.drew ?_))
  have hp : PigsAt W0 (some ⟨w.heap.size + 1 + 1, 0, none⟩) 3 shopM.pigs := by
    refine ⟨rfl, by decide, fun _ => ⟨w.heap.size + 1 + 1, 0, rfl, by omega, fun i hi => ?_⟩⟩
    have hi3 : i < 3 := hi
    have hr : ∀ j, W0.cell? ⟨w.heap.size + 1 + 1, j, none⟩ = (#[.int .i64 10, .int .i64 5, .int .i64 0, .int .i64 30, .int .i64 3, .int .i64 20, .int .i64 1, .int .i64 6, .int .i64 25, .int .i64 2, .int .i64 25, .int .i64 0, .int .i64 0, .int .i64 5, .int .i64 2] : Array Value)[j]? := fun j => by
      rw [← hW0]; have h := World.cell?_alloc_new ((w.alloc (.cells (cellsM (some ⟨w.heap.size + 1 + 1, 0, none⟩) 3) 28)).alloc (.cells #[.int .i64 0, .int .i64 0, .int .i64 0, .int .i64 0, .int .i64 0, .int .i64 0, .int .i64 0, .int .i64 0, .int .i64 0, .int .i64 0, .slice none 0 0] 28)) #[.int .i64 10, .int .i64 5, .int .i64 0, .int .i64 30, .int .i64 3, .int .i64 20, .int .i64 1, .int .i64 6, .int .i64 25, .int .i64 2, .int .i64 25, .int .i64 0, .int .i64 0, .int .i64 5, .int .i64 2] 70 j; simpa using h
    match i, hi3 with
    | 0, _ => exact ⟨hr 0, hr 1, hr 2, hr 3, hr 4⟩
    | 1, _ => exact ⟨hr 5, hr 6, hr 7, hr 8, hr 9⟩
    | 2, _ => exact ⟨hr 10, hr 11, hr 12, hr 13, hr 14⟩
  have hb0 : ∀ i, W0.cell? ⟨w.heap.size, i, none⟩ = (cellsM (some ⟨w.heap.size + 1 + 1, 0, none⟩) 3)[i]? := fun i => by
    have e1 : Below (w.heap.size + 1) (w.alloc (.cells (cellsM (some ⟨w.heap.size + 1 + 1, 0, none⟩) 3) 28)) W0 := by rw [← hW0]; exact (by repeat (first | exact Below.refl _ _ | (refine Below.alloc ?_ (by first | omega | (simp; omega) | simp) _) | (refine Below.setCell ?_ (by first | omega | (simp; omega) | simp) _) | refine Below.drew ?_))
    rw [e1.cell (p := ⟨w.heap.size, i, none⟩) (show w.heap.size < w.heap.size + 1 by omega)]
    exact World.cell?_alloc_new w _ _ i
  have hb1 : ∀ i, W0.cell? ⟨w.heap.size + 1, i, none⟩ = (#[.int .i64 0, .int .i64 0, .int .i64 0, .int .i64 0, .int .i64 0, .int .i64 0, .int .i64 0, .int .i64 0, .int .i64 0, .int .i64 0, .slice none 0 0] : Array Value)[i]? := fun i => by
    have e1 : Below (w.heap.size + 2) ((w.alloc (.cells (cellsM (some ⟨w.heap.size + 1 + 1, 0, none⟩) 3) 28)).alloc (.cells #[.int .i64 0, .int .i64 0, .int .i64 0, .int .i64 0, .int .i64 0, .int .i64 0, .int .i64 0, .int .i64 0, .int .i64 0, .int .i64 0, .slice none 0 0] 28)) W0 := by rw [← hW0]; exact (by repeat (first | exact Below.refl _ _ | (refine Below.alloc ?_ (by first | omega | (simp; omega) | simp) _) | (refine Below.setCell ?_ (by first | omega | (simp; omega) | simp) _) | refine Below.drew ?_))
    rw [e1.cell (p := ⟨w.heap.size + 1, i, none⟩) (show w.heap.size + 1 < w.heap.size + 2 by omega)]
    have h := World.cell?_alloc_new (w.alloc (.cells (cellsM (some ⟨w.heap.size + 1 + 1, 0, none⟩) 3) 28)) #[.int .i64 0, .int .i64 0, .int .i64 0, .int .i64 0, .int .i64 0, .int .i64 0, .int .i64 0, .int .i64 0, .int .i64 0, .int .i64 0, .slice none 0 0] 28 i
    simpa using h
  have hf0 : ∀ i, W0.frozen? ⟨w.heap.size, i, none⟩ = false := fun i => by
    have e1 : Below (w.heap.size + 1) (w.alloc (.cells (cellsM (some ⟨w.heap.size + 1 + 1, 0, none⟩) 3) 28)) W0 := by rw [← hW0]; exact (by repeat (first | exact Below.refl _ _ | (refine Below.alloc ?_ (by first | omega | (simp; omega) | simp) _) | (refine Below.setCell ?_ (by first | omega | (simp; omega) | simp) _) | refine Below.drew ?_))
    rw [e1.frozen (p := ⟨w.heap.size, i, none⟩) (show w.heap.size < w.heap.size + 1 by omega)]
    exact frozen_new w _ _ i
  have hf1 : ∀ i, W0.frozen? ⟨w.heap.size + 1, i, none⟩ = false := fun i => by
    have e1 : Below (w.heap.size + 2) ((w.alloc (.cells (cellsM (some ⟨w.heap.size + 1 + 1, 0, none⟩) 3) 28)).alloc (.cells #[.int .i64 0, .int .i64 0, .int .i64 0, .int .i64 0, .int .i64 0, .int .i64 0, .int .i64 0, .int .i64 0, .int .i64 0, .int .i64 0, .slice none 0 0] 28)) W0 := by rw [← hW0]; exact (by repeat (first | exact Below.refl _ _ | (refine Below.alloc ?_ (by first | omega | (simp; omega) | simp) _) | (refine Below.setCell ?_ (by first | omega | (simp; omega) | simp) _) | refine Below.drew ?_))
    rw [e1.frozen (p := ⟨w.heap.size + 1, i, none⟩) (show w.heap.size + 1 < w.heap.size + 2 by omega)]
    have h := frozen_new (w.alloc (.cells (cellsM (some ⟨w.heap.size + 1 + 1, 0, none⟩) 3) 28)) #[.int .i64 0, .int .i64 0, .int .i64 0, .int .i64 0, .int .i64 0, .int .i64 0, .int .i64 0, .int .i64 0, .int .i64 0, .int .i64 0, .slice none 0 0] 28 i
    simpa using h
  unfold cellsM at hW0
  rw [hW0]
  clear hW0
  obtain ⟨x0, x1, x2, x3, x4, x5, x6, x7, x8, x9, x10⟩ : W0.cell? ⟨w.heap.size, 0, none⟩ = some (.int .i64 200) ∧ W0.cell? ⟨w.heap.size, 1, none⟩ = some (.int .i64 6) ∧ W0.cell? ⟨w.heap.size, 2, none⟩ = some (.int .i64 8) ∧ W0.cell? ⟨w.heap.size, 3, none⟩ = some (.int .i64 28) ∧ W0.cell? ⟨w.heap.size, 4, none⟩ = some (.int .i64 30) ∧ W0.cell? ⟨w.heap.size, 5, none⟩ = some (.int .i64 300) ∧ W0.cell? ⟨w.heap.size, 6, none⟩ = some (.int .i64 40) ∧ W0.cell? ⟨w.heap.size, 7, none⟩ = some (.int .i64 60) ∧ W0.cell? ⟨w.heap.size, 8, none⟩ = some (.int .i64 120) ∧ W0.cell? ⟨w.heap.size, 9, none⟩ = some (.int .i64 160) ∧ W0.cell? ⟨w.heap.size, 10, none⟩ = some (.slice (some ⟨w.heap.size + 1 + 1, 0, none⟩) 3 3) :=
    ⟨hb0 0, hb0 1, hb0 2, hb0 3, hb0 4, hb0 5, hb0 6, hb0 7, hb0 8, hb0 9, hb0 10⟩
  obtain ⟨y0, y1, y2, y3, y4, y5, y6, y7, y8, y9, y10⟩ : W0.cell? ⟨w.heap.size + 1, 0, none⟩ = some (.int .i64 0) ∧ W0.cell? ⟨w.heap.size + 1, 1, none⟩ = some (.int .i64 0) ∧ W0.cell? ⟨w.heap.size + 1, 2, none⟩ = some (.int .i64 0) ∧ W0.cell? ⟨w.heap.size + 1, 3, none⟩ = some (.int .i64 0) ∧ W0.cell? ⟨w.heap.size + 1, 4, none⟩ = some (.int .i64 0) ∧ W0.cell? ⟨w.heap.size + 1, 5, none⟩ = some (.int .i64 0) ∧ W0.cell? ⟨w.heap.size + 1, 6, none⟩ = some (.int .i64 0) ∧ W0.cell? ⟨w.heap.size + 1, 7, none⟩ = some (.int .i64 0) ∧ W0.cell? ⟨w.heap.size + 1, 8, none⟩ = some (.int .i64 0) ∧ W0.cell? ⟨w.heap.size + 1, 9, none⟩ = some (.int .i64 0) ∧ W0.cell? ⟨w.heap.size + 1, 10, none⟩ = some (.slice none 0 0) :=
    ⟨hb1 0, hb1 1, hb1 2, hb1 3, hb1 4, hb1 5, hb1 6, hb1 7, hb1 8, hb1 9, hb1 10⟩
  have HP := Lib.hid (fun w1 (hb : Below W0.heap.size W0 w1) => Pigged_any shopM (some ⟨w.heap.size + 1 + 1, 0, none⟩) 3 3 0 0 w1 (hp.below hb) (by omega) (by omega))
  have HPG := Lib.hid hp
  clear hb0 hb1 hp
  have q1 : w.heap.size < W0.heap.size := by omega
  have q2 : w.heap.size + 1 < W0.heap.size := by omega
  have HQ := Lib.hid (show ∀ w1, Below W0.heap.size W0 w1 → (∀ b o, b < W0.heap.size → w1.cell? ⟨b, o, none⟩ = W0.cell? ⟨b, o, none⟩) ∧ (∀ b o, b < W0.heap.size → w1.frozen? ⟨b, o, none⟩ = W0.frozen? ⟨b, o, none⟩) from fun w1 h => bcell h)
  have hdr : ∀ n, Below W0.heap.size W0 (W0.drewN n) := fun n => Go.Joins.below_draws _ _ _
  have hmx : Try.prog.follows .mixedOrders = true := by kernel_rfl
  go_region_with (go_at_call 62; refine (HP.out _ (Below.refl _ W0).drew).mono ?_; rintro e w1 ⟨hb1, a', cap', rfl, -⟩; have hBw := (Below.refl _ W0).drew.trans hb1; obtain ⟨hc1, hg1⟩ := HQ.out w1 hBw; have hz1 := hBw.size; have q3 : w.heap.size < w1.heap.size := (by omega); have q4 : w.heap.size + 1 < w1.heap.size := (by omega); clear hb1)
  all_goals go_wp2
  all_goals refine bodyPost_ret (v := .tuple #[.agg (cellsM (some ⟨w.heap.size + 1 + 1, 0, none⟩) 3), .agg #[.int .i64 shopM.P, .int .i64 shopM.tl, .int .i64 shopM.th, .int .i64 shopM.al, .int .i64 shopM.ah, .int .i64 shopM.room, .int .i64 shopM.xl, .int .i64 shopM.xh, .int .i64 shopM.yl, .int .i64 shopM.yh, .slice a' 3 cap']]) (by simp [results, Try.results67, go_sem, cellsM, hc1, hg1, q1, q2, q3, q4, hf0, hf1, x0, y0, x1, y1, x2, y2, x3, y3, x4, y4, x5, y5, x6, y6, x7, y7, x8, y8, x9, y9, x10, y10]) rfl ⟨?_, _, _, _, _, rfl, ?_⟩
  all_goals first
    | (repeat (refine Below.setCell ?_ (by first | (simp; done) | (simp; omega) | omega) _)
       exact hB0.trans (hBw.mono hB0.size))
    | (refine pigs_kept HPG.out (by simpa using hz1) (fun b o e => ?_)
       cases e
       repeat (refine (Below.heap_setCell _ _ _ _ (by first | (simp; done) | (simp; omega))).trans ?_)
       exact hBw.block (w.heap.size + 1 + 1) (show w.heap.size + 1 + 1 < W0.heap.size by omega))
end Go.Proofs.Ytajabapcmpmboaa

/- The chapter's examples. -/
namespace Go.Proofs.Ytajabapcmpmboaa
set_option linter.unusedVariables false
set_option linter.unusedSimpArgs false
open Go.RowKit

theorem okM : shopM.ok = true := by decide
theorem safeM : shopM.safeOf [1, 1, 1] = 1 := by decide
theorem codeM1 : shopM.code [1, 1, 1] = 0 ∧ shopM.code [0, 1, 0] = 0 ∧ shopM.code [1, 1, 0] = 0 := by decide
theorem badM : shopM.bad [0, 1, 0] [1, 2, 3, 4] = [1, 4] := by decide
theorem leadM : shopM.leadsOf [1, 1, 0] = (4, 53, true) := by decide +kernel
theorem cheapM : shopM.least 0 = (60, 0) := by decide +kernel
theorem tinM : shopM.least 1 = (6, 0) := by decide +kernel
def ins (o : Offer) : List Offer → List Offer
  | [] => [o]
  | p :: l => if o.c ≤ p.c then o :: p :: l else p :: ins o l
def isort : List Offer → List Offer
  | [] => []
  | o :: l => ins o (isort l)
theorem ins_perm (o : Offer) : ∀ l, (ins o l).Perm (o :: l)
  | [] => .refl _
  | p :: l => by
    unfold ins; split
    · exact .refl _
    · exact ((ins_perm o l).cons p).trans (.swap _ _ _)
theorem isort_perm : ∀ l, (isort l).Perm l
  | [] => .refl _
  | o :: l => (ins_perm o _).trans ((isort_perm l).cons o)
theorem ins_sorted (o : Offer) : ∀ l : List Offer, (l.Pairwise fun x y => x.c ≤ y.c) → (ins o l).Pairwise fun x y => x.c ≤ y.c
  | [], _ => by simp [ins]
  | p :: l, h => by
    obtain ⟨h1, h2⟩ := List.pairwise_cons.1 h
    unfold ins; split
    · rename_i hc
      exact List.pairwise_cons.2 ⟨fun y hy => by rcases List.mem_cons.1 hy with rfl | hy; exact hc; have := h1 y hy; omega, h⟩
    · rename_i hc
      refine List.pairwise_cons.2 ⟨fun y hy => ?_, ins_sorted o l h2⟩
      rcases List.mem_cons.1 ((ins_perm o l).mem_iff.1 hy) with rfl | hy
      · omega
      · exact h1 y hy
theorem isort_sorted : ∀ l : List Offer, (isort l).Pairwise fun x y => x.c ≤ y.c
  | [] => by simp [isort]
  | o :: l => ins_sorted o _ (isort_sorted l)
theorem known_isort {s : Shop} (ho : s.ok = true) : s.knownR = knownOf s (isort (s.offersOf ((allL s.most).filter s.room?))) :=
  known_perm ho (sorted_is s) ⟨isort_perm _, isort_sorted _⟩
theorem knownM : knownOf shopM (isort (shopM.offersOf ((allL shopM.most).filter shopM.room?))) = some (0, 30) := by decide +kernel
theorem bestM : shopM.best 0 = some ([1, 1, 1], 60) := by decide +kernel
theorem worthM : shopM.worthOf = (30, 0) := by
  unfold Shop.worthOf
  rw [okM, known_isort okM, knownM, bestM]; rfl

theorem ints3 (w : World) (x y z : Int) (b : Nat) (hb : b = w.heap.size) : IntsAt (w.alloc (.cells #[.int .i64 x, .int .i64 y, .int .i64 z] 3)) (some ⟨b, 0, none⟩) 3 [x, y, z] := by
  subst hb
  refine ⟨rfl, by decide, fun _ => ⟨w.heap.size, 0, rfl, by simp, fun i hi => ?_⟩⟩
  have hi3 : i < 3 := hi
  have h := World.cell?_alloc_new w #[.int .i64 x, .int .i64 y, .int .i64 z] 3 i
  rw [Nat.zero_add, h]
  match i, hi3 with
  | 0, _ => rfl
  | 1, _ => rfl
  | 2, _ => rfl
theorem ints2 (w : World) (x y : Int) (b : Nat) (hb : b = w.heap.size) : IntsAt (w.alloc (.cells #[.int .i64 x, .int .i64 y] 3)) (some ⟨b, 0, none⟩) 2 [x, y] := by
  subst hb
  refine ⟨rfl, by decide, fun _ => ⟨w.heap.size, 0, rfl, by simp, fun i hi => ?_⟩⟩
  have hi3 : i < 2 := hi
  have h := World.cell?_alloc_new w #[.int .i64 x, .int .i64 y] 3 i
  rw [Nat.zero_add, h]
  match i, hi3 with
  | 0, _ => rfl
  | 1, _ => rfl
theorem ints_own {w : World} {n0 len cap : Nat} {a : Option Addr} {xs : List Int} (h : w.ownsRow n0 3 1 (.slice a len cap) len (xs.map (Value.int .i64))) (hm : len ≤ maxLen) : IntsAt w a len xs := by
  have hl : xs.length = len := by have := h.1; simp at this; omega
  rcases h.2 with ⟨h0, h1⟩ | ⟨g, cap', cur, hv, hg, hb, hn, hc, hcs, ht⟩
  · exact ⟨hl, hm, fun h => by omega⟩
  · cases hv
    refine ⟨hl, hm, fun _ => ⟨g, 0, rfl, (Array.getElem?_eq_some_iff.1 hb).1, fun i hi => ?_⟩⟩
    have := h.cells (g := g) rfl i (.int .i64 xs[i]) (by simp [hi])
    rw [addr_add] at this
    rwa [Nat.zero_add]

theorem Safe_M (a x : Option Addr) (cap xc : Nat) (w : World) (hp : PigsAt w a 3 shopM.pigs) (hx : IntsAt w x 3 [1, 1, 1]) :
    Calls Try.prog 22 #[.agg (cellsM a cap), .slice x 3 xc] w fun e w' => e = .returned (.tuple #[.int .i64 1, .int .i64 0]) ∧ Below w.heap.size w w' := by
  have h := Safe_yes shopM a 3 cap x 3 xc [1, 1, 1] w hp hx codeM1.1
  rw [safeM] at h; exact h
theorem Fails_M (a x : Option Addr) (cap xc : Nat) (w : World) (hp : PigsAt w a 3 shopM.pigs) (hx : IntsAt w x 3 [0, 1, 0]) :
    Calls Try.prog 24 #[.agg (cellsM a cap), .slice x 3 xc] w fun e w' => ∃ f fc, e = .returned (.tuple #[.slice f 2 fc, .int .i64 0]) ∧ w'.ownsRow w.heap.size 3 1 (.slice f 2 fc) 2 ([1, 4].map (Value.int .i64)) ∧ Below w.heap.size w w' := by
  have h := Fails_yes shopM a 3 cap x 3 xc [0, 1, 0] w hp hx codeM1.2.1
  rw [badM] at h
  refine h.mono ?_
  rintro e w' ⟨v, rfl, hr, -, hb⟩
  obtain ⟨g, fc, rfl, -⟩ := ownsRow_pos hr (by decide)
  exact ⟨_, _, rfl, hr, hb⟩
theorem Lead_M (a x : Option Addr) (cap xc : Nat) (w : World) (hp : PigsAt w a 3 shopM.pigs) (hx : IntsAt w x 3 [1, 1, 0]) :
    Calls Try.prog 26 #[.agg (cellsM a cap), .slice x 3 xc] w fun e w' => e = .returned (.tuple #[.agg #[.int .i64 4, .int .i64 53], .int .i64 0]) ∧ Below w.heap.size w w' := by
  have h := Lead_yes shopM a 3 cap x 3 xc [1, 1, 0] w hp hx codeM1.2.2 4 53 true leadM
  exact h
theorem Cheap_M (a : Option Addr) (cap : Nat) (w : World) (hp : PigsAt w a 3 shopM.pigs) :
    Calls Try.prog 32 #[.agg (cellsM a cap)] w fun e w' => e = .returned (.tuple #[.int .i64 60, .int .i64 0]) ∧ Below w.heap.size w w' := by
  have h := Cheap_any shopM a 3 cap w hp
  rw [cheapM] at h; exact h
theorem Tin_M (a : Option Addr) (cap : Nat) (w : World) (hp : PigsAt w a 3 shopM.pigs) :
    Calls Try.prog 36 #[.agg (cellsM a cap)] w fun e w' => e = .returned (.tuple #[.int .i64 6, .int .i64 0]) ∧ Below w.heap.size w w' := by
  have h := Tin_any shopM a 3 cap w hp
  rw [tinM] at h; exact h
theorem Worth_M (a : Option Addr) (cap : Nat) (w : World) (hp : PigsAt w a 3 shopM.pigs) :
    Calls Try.prog 41 #[.agg (cellsM a cap)] w fun e w' => e = .returned (.tuple #[.int .i64 30, .int .i64 0]) ∧ Below w.heap.size w w' := by
  have h := Worth_any shopM a 3 cap w hp
  rw [worthM] at h; exact h
end Go.Proofs.Ytajabapcmpmboaa

/- The chapter's examples: the walk. -/
namespace Go.Proofs.Ytajabapcmpmboaa
set_option linter.unusedVariables false
set_option linter.unusedSimpArgs false
open Go.RowKit

set_option maxHeartbeats 2000000 in
theorem works_any (w : World) : Calls Try.prog 16 #[] w fun e w' => e = .returned (.bool true) ∧ Below w.heap.size w w' := by
  go_enter Try.func16, Try.ntmps16
  go_wp2_with fail
  refine (Example_any w).mono ?_
  rintro e w1 ⟨hb1, a, cap, a2, cap2, rfl, hp⟩
  unfold cellsM
  go_wp2_with fail
  obtain ⟨W0, hW0⟩ : ∃ W0, (w1.alloc (.cells (cellsM a cap) 28)).alloc (.cells (cellsM a2 cap2) 28) = W0 := ⟨_, rfl⟩
  have hz0 : W0.heap.size = w1.heap.size + 1 + 1 := by rw [← hW0]; simp
  have hB0 : Below w1.heap.size w1 W0 := by rw [← hW0]; exact (by repeat (first | exact Below.refl _ _ | (refine Below.alloc ?_ (by first | omega | (simp; omega) | simp) _) | (refine Below.setCell ?_ (by first | omega | (simp; omega) | simp) _) | refine Below.drew ?_))
  have hb0 : ∀ i, W0.cell? ⟨w1.heap.size, i, none⟩ = (cellsM a cap)[i]? := fun i => by
    have e1 : Below (w1.heap.size + 1) (w1.alloc (.cells (cellsM a cap) 28)) W0 := by rw [← hW0]; exact (by repeat (first | exact Below.refl _ _ | (refine Below.alloc ?_ (by first | omega | (simp; omega) | simp) _) | (refine Below.setCell ?_ (by first | omega | (simp; omega) | simp) _) | refine Below.drew ?_))
    rw [e1.cell (p := ⟨w1.heap.size, i, none⟩) (show w1.heap.size < w1.heap.size + 1 by omega)]
    exact World.cell?_alloc_new w1 _ _ i
  unfold cellsM at hW0
  rw [hW0]
  clear hW0
  have hp0 := hp.below hB0
  have hbw : Below w.heap.size w W0 := hb1.trans (hB0.mono hb1.size)
  have HP := Lib.hid (fun W (h : Below W0.heap.size W0 W) => hp0.below h)
  obtain ⟨x0, x1, x2, x3, x4, x5, x6, x7, x8, x9, x10⟩ : W0.cell? ⟨w1.heap.size, 0, none⟩ = some (.int .i64 200) ∧ W0.cell? ⟨w1.heap.size, 1, none⟩ = some (.int .i64 6) ∧ W0.cell? ⟨w1.heap.size, 2, none⟩ = some (.int .i64 8) ∧ W0.cell? ⟨w1.heap.size, 3, none⟩ = some (.int .i64 28) ∧ W0.cell? ⟨w1.heap.size, 4, none⟩ = some (.int .i64 30) ∧ W0.cell? ⟨w1.heap.size, 5, none⟩ = some (.int .i64 300) ∧ W0.cell? ⟨w1.heap.size, 6, none⟩ = some (.int .i64 40) ∧ W0.cell? ⟨w1.heap.size, 7, none⟩ = some (.int .i64 60) ∧ W0.cell? ⟨w1.heap.size, 8, none⟩ = some (.int .i64 120) ∧ W0.cell? ⟨w1.heap.size, 9, none⟩ = some (.int .i64 160) ∧ W0.cell? ⟨w1.heap.size, 10, none⟩ = some (.slice a 3 cap) :=
    ⟨hb0 0, hb0 1, hb0 2, hb0 3, hb0 4, hb0 5, hb0 6, hb0 7, hb0 8, hb0 9, hb0 10⟩
  clear hb0 hp hp0 hb1 hB0
  have q0 : w1.heap.size < W0.heap.size := by omega
  go_wp2_with fail
  refine (Safe_M _ _ _ _ _ (HP.out _ (by repeat (first | exact Below.refl _ _ | (refine Below.alloc ?_ (by first | omega | (simp; omega) | simp) _) | (refine Below.setCell ?_ (by first | omega | (simp; omega) | simp) _) | refine Below.drew ?_))) (ints3 W0 1 1 1 _ (by omega))).mono ?_
  rintro e w2 ⟨rfl, hb2⟩
  have hB2 : Below W0.heap.size W0 w2 := ((by repeat (first | exact Below.refl _ _ | (refine Below.alloc ?_ (by first | omega | (simp; omega) | simp) _) | (refine Below.setCell ?_ (by first | omega | (simp; omega) | simp) _) | refine Below.drew ?_)) : Below W0.heap.size W0 _).trans (hb2.mono (by simp))
  obtain ⟨hc2, hf2⟩ := bcell hB2
  have q2 : w1.heap.size < w2.heap.size := Nat.lt_of_lt_of_le q0 hB2.size
  clear hb2
  go_wp2_with fail
  refine (Fails_M _ _ _ _ _ (HP.out _ (hB2.alloc hB2.size _)) (ints3 w2 0 1 0 _ rfl)).mono ?_
  rintro e w3 ⟨f, fc, rfl, hr3, hb3⟩
  have hB3 : Below W0.heap.size W0 w3 := (hB2.alloc hB2.size _).trans (hb3.mono (by have := hB2.size; simp; omega))
  obtain ⟨hc3, hf3⟩ := bcell hB3
  have q3 : w1.heap.size < w3.heap.size := Nat.lt_of_lt_of_le q0 hB3.size
  clear hb3 hc2 hf2 hB2
  have HR3 := Lib.hid hr3
  clear hr3
  go_wp2_with fail
  refine (Lead_M _ _ _ _ _ (HP.out _ (hB3.alloc hB3.size _)) (ints3 w3 1 1 0 _ rfl)).mono ?_
  rintro e w4 ⟨rfl, hb4⟩
  have hB4 : Below W0.heap.size W0 w4 := (hB3.alloc hB3.size _).trans (hb4.mono (by have := hB3.size; simp; omega))
  have hr4 := (HR3.out.kept (World.grownBy_alloc _ _ none) (Classical.em _)).kept (grown_none hb4) (Classical.em _)
  have HR4 := Lib.hid hr4
  obtain ⟨hc4, hf4⟩ := bcell hB4
  have q4 : w1.heap.size < w4.heap.size := Nat.lt_of_lt_of_le q0 hB4.size
  clear hb4 hc3 hf3 hB3 hr4
  go_wp2_with fail
  obtain ⟨W4, hW4⟩ : ∃ W4, w4.alloc (.cells #[.int .i64 4, .int .i64 53] 23) = W4 := ⟨_, rfl⟩
  have s0 : W4.cell? ⟨w4.heap.size, 0, none⟩ = some (.int .i64 4) := by rw [← hW4, World.cell?_alloc_new]; rfl
  have s1 : W4.cell? ⟨w4.heap.size, 1, none⟩ = some (.int .i64 53) := by rw [← hW4, World.cell?_alloc_new]; rfl
  have hz4 : W4.heap.size = w4.heap.size + 1 := by rw [← hW4]; simp
  have hB5 : Below W0.heap.size W0 W4 := by rw [← hW4]; exact hB4.alloc hB4.size _
  have hr5 : W4.ownsRow w2.heap.size.succ 3 1 (.slice f 2 fc) 2 ([1, 4].map (Value.int .i64)) := by rw [← hW4]; exact (Go.Joins.ownsRow_le HR4.out (by simp)).alloc _
  rw [hW4]
  clear hW4 hc4 hf4 hB4 HR4 HR3
  obtain ⟨hc5, hf5⟩ := bcell hB5
  have q5 : w1.heap.size < W4.heap.size := Nat.lt_of_lt_of_le q0 hB5.size
  refine (Cheap_M _ _ _ (HP.out _ hB5)).mono ?_
  rintro e w5 ⟨rfl, hb5⟩
  have hB6 : Below W4.heap.size W4 w5 := hb5
  obtain ⟨hc6, hf6⟩ := bcell hB6
  have q6 : w1.heap.size < w5.heap.size := Nat.lt_of_lt_of_le q5 hB6.size
  have q6' : w4.heap.size < W4.heap.size := by omega
  clear hb5
  go_wp2_with fail
  refine (Tin_M _ _ _ (HP.out _ (hB5.trans (hB6.mono hB5.size)))).mono ?_
  rintro e w6 ⟨rfl, hb6⟩
  have hB7 : Below W4.heap.size W4 w6 := hB6.trans (hb6.mono hB6.size)
  clear hB6 hc6 hf6 hb6
  obtain ⟨hc7, hf7⟩ := bcell hB7
  go_wp2_with fail
  refine (Worth_M _ _ _ (HP.out _ (hB5.trans (hB7.mono hB5.size)))).mono ?_
  rintro e w7 ⟨rfl, hb7⟩
  have hB8 : Below W4.heap.size W4 w7 := hB7.trans (hb7.mono hB7.size)
  clear hB7 hc7 hf7 hb7
  obtain ⟨hc8, hf8⟩ := bcell hB8
  have hr8 := hr5.kept (grown_none hB8) (Classical.em _)
  have HR8 := Lib.hid hr8
  have hbw8 : Below w.heap.size w w7 := (hbw.trans (hB5.mono hbw.size)).trans (hB8.mono (by have := hB5.size; have := hbw.size; omega))
  clear hr5 hr8
  go_wp2_with fail
  refine (SameInts_any f 2 fc (some ⟨w7.heap.size, 0, none⟩) 2 2 [1, 4] [1, 4] _ (ints_own (HR8.out.alloc _) (by decide)) (ints2 w7 1 4 _ rfl)).mono ?_
  rintro e w8 ⟨rfl, hb8⟩
  rw [show sameB [1, 4] [1, 4] = true from by decide]
  have hB9 : Below W4.heap.size W4 w8 := (hB8.alloc hB8.size _).trans (hb8.mono (by have := hB8.size; simp; omega))
  have hbw9 : Below w.heap.size w w8 := (hbw8.alloc hbw8.size _).trans (hb8.mono (by have := hbw8.size; simp; omega))
  clear hB8 hc8 hf8 hb8
  obtain ⟨hc9, hf9⟩ := bcell hB9
  go_wp2_with fail
  go_ret
  exact ⟨rfl, hbw9⟩
end Go.Proofs.Ytajabapcmpmboaa
