/- Package pages: layouts: an iterator over all layouts that lock the page without a choice's pieces. -/
import Derived.Test.YtcklhojeneejiaaZH
import Derived.Test.YtcklhojeneejiaaZD
namespace Go.Proofs.Ytcklhojeneejiaa
set_option linter.unusedVariables false
set_option linter.unusedSimpArgs false
open Go.RowKit Go.Shelf

def PFrame.roomsOf (f : PFrame) (c : Nat) : List (Int × Int) := f.cols.map fun x => (f.roomLo (keepC c x), f.roomHi (keepC c x))
/-- All layouts that lock the page without a choice's pieces. -/
def PFrame.lays (f : PFrame) (c : Nat) : List (List T3) := laysF f (f.roomsOf c) f.stock []
theorem mem_lays {f : PFrame} : ∀ {rs : List (Int × Int)} {left : T3} {begun x : List T3}, fewS left → x ∈ laysF f rs left begun → ∃ t, x = begun ++ t ∧ t.length = rs.length ∧ ∀ s ∈ t, fewS s
  | [], left, begun, x, hl, h => by
    rw [laysF, List.mem_singleton] at h
    exact ⟨[], by simp [h], rfl, by simp⟩
  | r :: rs, left, begun, x, hl, h => by
    rw [laysF] at h
    obtain ⟨s, hs, hx⟩ := List.mem_flatMap.1 h
    have hle := mem_allS.1 (List.mem_filter.1 hs).1
    obtain ⟨t, rfl, ht, hf⟩ := mem_lays (fewS_sub hl hle) hx
    refine ⟨s :: t, by simp, by simp [ht], fun u hu => ?_⟩
    rcases List.mem_cons.1 hu with rfl | hu
    · exact fewS_le hl hle
    · exact hf u hu
theorem many_bd {f : PFrame} (ho : f.ok = true) (k : Nat) : 0 ≤ f.many k ∧ f.many k ≤ 4 := by
  unfold PFrame.many
  by_cases hk : k < f.strips.length
  · have := PFrame.ok_strip ho k hk
    rw [List.getElem?_eq_getElem hk]; simp; omega
  · rw [List.getElem?_eq_none (by omega)]; simp
theorem stock_few {f : PFrame} (ho : f.ok = true) : fewS f.stock := ⟨many_bd ho 0, many_bd ho 1, many_bd ho 2⟩
theorem flat2 : ∀ (rs : List (Int × Int)) (i : Nat) (h : i < rs.length), ((rs.map fun r => [Value.int .i64 r.1, Value.int .i64 r.2]).flatten)[i * 2]? = some (.int .i64 rs[i].1) ∧ ((rs.map fun r => [Value.int .i64 r.1, Value.int .i64 r.2]).flatten)[i * 2 + 1]? = some (.int .i64 rs[i].2)
  | [], i, h => by simp at h
  | r :: rs, 0, h => by simp
  | r :: rs, i + 1, h => by
    have := flat2 rs i (by simpa using h)
    rw [show (i + 1) * 2 = i * 2 + 1 + 1 by omega]
    simpa using this
theorem rooms_of {f : PFrame} {c cl n0 N : Nat} {w : World} {v : Value} (h : w.ownsRow n0 32 2 v cl (roomCells f c cl)) (hcl : f.cols.length = cl) (hN : N ≤ n0) : ∃ ra rc, v = .slice ra cl rc ∧ RoomsAt N w ra cl (f.roomsOf c) := by
  have hl : (f.roomsOf c).length = cl := by unfold PFrame.roomsOf; simpa using hcl
  have hcells : roomCells f c cl = ((f.roomsOf c).map fun r => [Value.int .i64 r.1, Value.int .i64 r.2]).flatten := by
    unfold roomCells PFrame.roomsOf
    rw [List.take_of_length_le (by omega), List.map_map]
    rfl
  rcases h.2 with ⟨rfl, hc0⟩ | ⟨g, rc, cur, rfl, h1, h2, h3, h4, h5, h6⟩
  · subst hc0
    exact ⟨_, _, rfl, hl, fun h => absurd h (by omega)⟩
  · refine ⟨_, rc, rfl, hl, fun hpos => ⟨g, rfl, by omega, (Array.getElem?_eq_some_iff.1 h2).1, fun i hi => ?_⟩⟩
    have hf := flat2 (f.roomsOf c) i hi
    rw [← hcells, ← h6] at hf
    have e : ∀ j u, (cur.toList.take (cl * 2))[j]? = some u → w.cell? ⟨g, j, none⟩ = some u := fun j u hu => by
      rw [List.getElem?_take] at hu
      split at hu
      · simp only [World.cell?, h2]; simpa using hu
      · cases hu
    exact ⟨e _ _ hf.1, e _ _ hf.2⟩

/-- What layouts$1 reads. -/
def LaysEnv (f : PFrame) (sa : Option Addr) (sl sc : Nat) (pa : Option Addr) (pl pc : Nat) (ca : Option Addr) (cl cc : Nat) (c : Nat) (bf bo : Nat) (w : World) : Prop :=
  PAt w sa sl sc pa pl pc ca cl cc f ∧ (∀ i, w.cell? ⟨bf, i, none⟩ = (#[.int .i64 f.len, .int .i64 f.slack, .slice sa sl sc, .slice pa pl pc, .slice ca cl cc] : Array Value)[i]?) ∧ w.cell? ⟨bo, 0, none⟩ = some (.int .i64 c)

set_option maxRecDepth 100000 in
set_option maxHeartbeats 8000000 in
theorem layouts1_it (f : PFrame) (sa : Option Addr) (sl sc : Nat) (pa : Option Addr) (pl pc : Nat) (ca : Option Addr) (cl cc : Nat) (ho : f.ok = true) (c : Nat) (hc : c < 64) (bf bo : Nat) :
    Iterates Try.prog 116 #[.pointer (some ⟨bf, 0, none⟩), .pointer (some ⟨bo, 0, none⟩)] encL (LaysEnv f sa sl sc pa pl pc ca cl cc c bf bo) (fun x => x ∈ f.lays c) (f.lays c) := by
  intro l J Stop W hJ hStop hEnv hEnvS hY h0
  obtain ⟨hp, hbf, hbo⟩ := hEnv _ _ h0
  obtain ⟨hcl, hcm, hcc⟩ := hp.2.2
  have hcl3 := (PFrame.ok_parts ho).2.2.2.2.2.2
  obtain ⟨x0, x1, x2, x3, x4⟩ : W.cell? ⟨bf, 0, none⟩ = some (.int .i64 f.len) ∧ W.cell? ⟨bf, 1, none⟩ = some (.int .i64 f.slack) ∧ W.cell? ⟨bf, 2, none⟩ = some (.slice sa sl sc) ∧ W.cell? ⟨bf, 3, none⟩ = some (.slice pa pl pc) ∧ W.cell? ⟨bf, 4, none⟩ = some (.slice ca cl cc) := ⟨hbf 0, hbf 1, hbf 2, hbf 3, hbf 4⟩
  have HRM := Lib.hid (fun w1 (hb : Below W.heap.size W w1) => rooms_any f sa sl sc pa pl pc ca cl cc ho c hc w1 (hp.below hb))
  have HSP := Lib.hid (fun w1 (hb : Below W.heap.size W w1) => strips_any f sa sl sc pa pl pc ca cl cc ho w1 (hp.below hb))
  have hly : ∀ (w1 : World), Below W.heap.size W w1 → ∀ (ra : Option Addr) (rc : Nat), RoomsAt W.heap.size w1 ra cl (f.roomsOf c) →
      Calls Try.prog 117 #[.agg #[.int .i64 f.len, .int .i64 f.slack, .slice sa sl sc, .slice pa pl pc, .slice ca cl cc], .agg #[.int .i64 0, .int .i64 0, .int .i64 0, .int .i64 0, .int .i64 0, .int .i64 0, .int .i64 0, .int .i64 0, .int .i64 0], .int .i64 0, .slice ra cl rc, .agg #[.int .i64 f.stock.a, .int .i64 f.stock.b, .int .i64 f.stock.c], .func (.yield l) #[] #[]] w1
        fun e w' => ∃ b : Bool, e = .returned (.bool b) ∧ (J (f.lays c) w' ∨ Stop w') ∧ (w'.cell? ⟨bf, 0, none⟩ = some (.int .i64 f.len) ∧ w'.cell? ⟨bf, 1, none⟩ = some (.int .i64 f.slack) ∧ w'.cell? ⟨bf, 2, none⟩ = some (.slice sa sl sc) ∧ w'.cell? ⟨bf, 3, none⟩ = some (.slice pa pl pc) ∧ w'.cell? ⟨bf, 4, none⟩ = some (.slice ca cl cc)) ∧ w'.cell? ⟨bo, 0, none⟩ = some (.int .i64 c) := fun w1 hb ra rc hr =>
    (lay_all f sa sl sc pa pl pc ca cl cc ho l W.heap.size (fun x => x ∈ f.lays c) J Stop hJ hStop (fun pre w h => (hEnv pre w h).1) (fun w h => (hEnvS w h).1) (fun pre x w h1 h2 h3 => hY pre x w h1 h2 h3) ra cl rc (f.roomsOf c) (by unfold PFrame.roomsOf; simpa using hcl) (by omega)
      (f.roomsOf c) 0 rfl (Nat.zero_le _) [] f.stock [] w1 rfl (stock_few ho) (fun y hy => hy) (hJ _ _ _ h0 hb) hb.size hr).mono
      (fun e w' h => by
        rcases h with ⟨rfl, h1, -⟩ | ⟨rfl, h1, -⟩
        · have hE := hEnv _ _ h1
          exact ⟨true, rfl, .inl h1, ⟨hE.2.1 0, hE.2.1 1, hE.2.1 2, hE.2.1 3, hE.2.1 4⟩, hE.2.2⟩
        · have hE := hEnvS _ h1
          exact ⟨false, rfl, .inr h1, ⟨hE.2.1 0, hE.2.1 1, hE.2.1 2, hE.2.1 3, hE.2.1 4⟩, hE.2.2⟩)
  have HLY := Lib.hid hly
  have HRO := Lib.hid (fun (w1 : World) (v : Value) (n0 : Nat) (h : w1.ownsRow n0 32 2 v cl (roomCells f c cl)) (hn : W.heap.size ≤ n0) => rooms_of h hcl hn)
  have hbfW := World.block_lt_of_cell? _ _ x0
  have hboW := World.block_lt_of_cell? _ _ hbo
  clear hly hJ hStop hEnv hEnvS hY h0 hp hbf hcl hcm hcc ho
  go_enter Try.func116, Try.ntmps116
  go_region_held3 (fun w' => (w'.cell? ⟨bf, 0, none⟩ = some (.int .i64 f.len) ∧ w'.cell? ⟨bf, 1, none⟩ = some (.int .i64 f.slack) ∧ w'.cell? ⟨bf, 2, none⟩ = some (.slice sa sl sc) ∧ w'.cell? ⟨bf, 3, none⟩ = some (.slice pa pl pc) ∧ w'.cell? ⟨bf, 4, none⟩ = some (.slice ca cl cc)) ∧ w'.cell? ⟨bo, 0, none⟩ = some (.int .i64 c))
    (first | with_reducible assumption | exact ⟨⟨x0, x1, x2, x3, x4⟩, hbo⟩)
    (first
      | (go_at_call 118; with_reducible refine (HRM.out _ ?_).mono ?_; (· exact (by repeat (first | exact Below.refl _ _ | (refine Below.alloc ?_ (by first | omega | (simp; omega) | simp) _) | (refine Below.setCell ?_ (by first | omega | (simp; omega) | simp) _) | refine Below.drew ?_))); rintro e wR ⟨v, n0, rfl, hn, hrow, hb⟩; have kR : Below W.heap.size W wR := ((by repeat (first | exact Below.refl _ _ | (refine Below.alloc ?_ (by first | omega | (simp; omega) | simp) _) | (refine Below.setCell ?_ (by first | omega | (simp; omega) | simp) _) | refine Below.drew ?_)) : Below W.heap.size W _).trans (hb.mono (Nat.le_refl _)); have hnW : W.heap.size ≤ n0 := (by simp at hn; omega); obtain ⟨ra, rc, rfl, hro⟩ := HRO.out _ _ _ hrow hnW; have kA : (wR.cell? ⟨bf, 0, none⟩ = some (.int .i64 f.len) ∧ wR.cell? ⟨bf, 1, none⟩ = some (.int .i64 f.slack) ∧ wR.cell? ⟨bf, 2, none⟩ = some (.slice sa sl sc) ∧ wR.cell? ⟨bf, 3, none⟩ = some (.slice pa pl pc) ∧ wR.cell? ⟨bf, 4, none⟩ = some (.slice ca cl cc)) ∧ wR.cell? ⟨bo, 0, none⟩ = some (.int .i64 c) := ⟨⟨(kR.cell (p := ⟨bf, 0, none⟩) hbfW).trans x0, (kR.cell (p := ⟨bf, 1, none⟩) hbfW).trans x1, (kR.cell (p := ⟨bf, 2, none⟩) hbfW).trans x2, (kR.cell (p := ⟨bf, 3, none⟩) hbfW).trans x3, (kR.cell (p := ⟨bf, 4, none⟩) hbfW).trans x4⟩, (kR.cell (p := ⟨bo, 0, none⟩) hboW).trans hbo⟩; have HR := Lib.hid hro; clear hb hrow hro)
      | (go_at_call 119; with_reducible refine (HSP.out _ ?_).mono ?_; (· exact kR); rintro e wS ⟨rfl, hb⟩; have kS : Below W.heap.size W wS := kR.trans (hb.mono kR.size); have kA : (wS.cell? ⟨bf, 0, none⟩ = some (.int .i64 f.len) ∧ wS.cell? ⟨bf, 1, none⟩ = some (.int .i64 f.slack) ∧ wS.cell? ⟨bf, 2, none⟩ = some (.slice sa sl sc) ∧ wS.cell? ⟨bf, 3, none⟩ = some (.slice pa pl pc) ∧ wS.cell? ⟨bf, 4, none⟩ = some (.slice ca cl cc)) ∧ wS.cell? ⟨bo, 0, none⟩ = some (.int .i64 c) := ⟨⟨(kS.cell (p := ⟨bf, 0, none⟩) hbfW).trans x0, (kS.cell (p := ⟨bf, 1, none⟩) hbfW).trans x1, (kS.cell (p := ⟨bf, 2, none⟩) hbfW).trans x2, (kS.cell (p := ⟨bf, 3, none⟩) hbfW).trans x3, (kS.cell (p := ⟨bf, 4, none⟩) hbfW).trans x4⟩, (kS.cell (p := ⟨bo, 0, none⟩) hboW).trans hbo⟩; have HR2 := Lib.hid (HR.out.up (KeepsUp.below hb)); clear hb)
      | (go_at_call 117; with_reducible refine (HLY.out _ kS _ _ HR2.out).mono ?_; rintro e wL ⟨b, rfl, hres, kA⟩; have HX := Lib.hid hres; clear hres))
  all_goals (go_wp2_with fail)
  all_goals (go_end0; exact ⟨⟨_, rfl⟩, HX.out⟩)
end Go.Proofs.Ytcklhojeneejiaa
