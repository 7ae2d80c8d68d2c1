/- Package pages: height, room, isSet, points. -/
import Derived.Test.YtcklhojeneejiaaYC
import Derived.Deep.RegionHeld3
import Derived.Deep.DeepCutAuto
namespace Go.Proofs.Ytcklhojeneejiaa
set_option linter.unusedVariables false
set_option linter.unusedSimpArgs false
open Go.RowKit

theorem bothS_drew {W0 w1 : World} (h : Below W0.heap.size W0 w1 ∧ ∀ b o, b < W0.heap.size → w1.cell? ⟨b, o, none⟩ = W0.cell? ⟨b, o, none⟩) :
    Below W0.heap.size W0 w1.drew ∧ ∀ b o, b < W0.heap.size → w1.drew.cell? ⟨b, o, none⟩ = W0.cell? ⟨b, o, none⟩ := ⟨h.1.drew, h.2⟩
theorem bothS_alloc {W0 w1 : World} (o : Obj) (h : Below W0.heap.size W0 w1 ∧ ∀ b o, b < W0.heap.size → w1.cell? ⟨b, o, none⟩ = W0.cell? ⟨b, o, none⟩) :
    Below W0.heap.size W0 (w1.alloc o) ∧ ∀ b o', b < W0.heap.size → (w1.alloc o).cell? ⟨b, o', none⟩ = W0.cell? ⟨b, o', none⟩ :=
  ⟨h.1.alloc h.1.size _, fun b _ hb => (h.1.alloc h.1.size _).cell (p := ⟨b, _, none⟩) hb⟩
theorem bothS_set {W0 w1 : World} (p : Addr) (v : Value) (hp : W0.heap.size ≤ p.block) (h : Below W0.heap.size W0 w1 ∧ ∀ b o, b < W0.heap.size → w1.cell? ⟨b, o, none⟩ = W0.cell? ⟨b, o, none⟩) :
    Below W0.heap.size W0 (w1.setCell p v) ∧ ∀ b o', b < W0.heap.size → (w1.setCell p v).cell? ⟨b, o', none⟩ = W0.cell? ⟨b, o', none⟩ :=
  ⟨h.1.setCell hp _, fun b _ hb => (h.1.setCell hp _).cell (p := ⟨b, _, none⟩) hb⟩
theorem bothM2 {P : Program} {f : FuncId} {args : Array Value} {W0 w1 : World} {R : Ending → World → Prop} (h : Calls P f args w1 fun e w' => R e w' ∧ Below w1.heap.size w1 w')
    (h1 : Below W0.heap.size W0 w1 ∧ ∀ b o, b < W0.heap.size → w1.cell? ⟨b, o, none⟩ = W0.cell? ⟨b, o, none⟩) :
    Calls P f args w1 fun e w' => R e w' ∧ (Below W0.heap.size W0 w' ∧ ∀ b o, b < W0.heap.size → w'.cell? ⟨b, o, none⟩ = W0.cell? ⟨b, o, none⟩) ∧
      (∀ b o, b < w1.heap.size → w'.cell? ⟨b, o, none⟩ = w1.cell? ⟨b, o, none⟩) ∧ (∀ b o, b < w1.heap.size → w'.frozen? ⟨b, o, none⟩ = w1.frozen? ⟨b, o, none⟩) ∧ w1.heap.size ≤ w'.heap.size :=
  h.mono fun e w' ⟨he, hb⟩ => ⟨he, ⟨h1.1.trans (hb.mono h1.1.size), fun b o hbo => (h1.1.trans (hb.mono h1.1.size)).cell (p := ⟨b, o, none⟩) hbo⟩, fun b o hbo => hb.cell (p := ⟨b, o, none⟩) hbo, fun b o hbo => hb.frozen (p := ⟨b, o, none⟩) hbo, hb.size⟩
theorem bothS1 {P : Program} {f : FuncId} {args : Array Value} {W0 w1 : World} {v : Value} (h : Calls P f args w1 fun e w' => e = .returned v ∧ Below w1.heap.size w1 w')
    (h1 : Below W0.heap.size W0 w1 ∧ ∀ b o, b < W0.heap.size → w1.cell? ⟨b, o, none⟩ = W0.cell? ⟨b, o, none⟩) :
    Calls P f args w1 fun e w' => e = .returned v ∧ (Below W0.heap.size W0 w' ∧ ∀ b o, b < W0.heap.size → w'.cell? ⟨b, o, none⟩ = W0.cell? ⟨b, o, none⟩) ∧
      (∀ b o, b < w1.heap.size → w'.cell? ⟨b, o, none⟩ = w1.cell? ⟨b, o, none⟩) ∧ (∀ b o, b < w1.heap.size → w'.frozen? ⟨b, o, none⟩ = w1.frozen? ⟨b, o, none⟩) ∧ w1.heap.size ≤ w'.heap.size := bothM2 h h1

theorem name2 (w : World) (cs : Array Value) (T : TypeId) (ds : Array Value) (U : TypeId) :
    ∃ W0, (w.alloc (.cells cs T)).alloc (.cells ds U) = W0 ∧ Below w.heap.size w W0 ∧ (∀ i, W0.cell? ⟨w.heap.size, i, none⟩ = cs[i]?) ∧ (∀ i, W0.cell? ⟨w.heap.size + 1, i, none⟩ = ds[i]?) ∧
      (∀ i, W0.frozen? ⟨w.heap.size, i, none⟩ = false) ∧ (∀ i, W0.frozen? ⟨w.heap.size + 1, i, none⟩ = false) ∧ W0.heap.size = w.heap.size + 1 + 1 :=
  ⟨_, rfl, (by repeat (first | exact Below.refl _ _ | (refine Below.alloc ?_ (by first | omega | (simp; omega) | simp) _) | (refine Below.setCell ?_ (by first | omega | (simp; omega) | simp) _) | refine Below.drew ?_)), fun i => by go_simp, fun i => by go_simp, fun i => by go_simp, fun i => by go_simp, by simp⟩
theorem name3 (w : World) (cs : Array Value) (T : TypeId) (ds : Array Value) (U : TypeId) (es : Array Value) (V : TypeId) :
    ∃ W0, ((w.alloc (.cells cs T)).alloc (.cells ds U)).alloc (.cells es V) = W0 ∧ Below w.heap.size w W0 ∧ (∀ i, W0.cell? ⟨w.heap.size, i, none⟩ = cs[i]?) ∧ (∀ i, W0.cell? ⟨w.heap.size + 1, i, none⟩ = ds[i]?) ∧ (∀ i, W0.cell? ⟨w.heap.size + 1 + 1, i, none⟩ = es[i]?) ∧
      (∀ i, W0.frozen? ⟨w.heap.size + 1, i, none⟩ = false) ∧ (∀ i, W0.frozen? ⟨w.heap.size + 1 + 1, i, none⟩ = false) ∧ W0.heap.size = w.heap.size + 1 + 1 + 1 :=
  ⟨_, rfl, (by repeat (first | exact Below.refl _ _ | (refine Below.alloc ?_ (by first | omega | (simp; omega) | simp) _) | (refine Below.setCell ?_ (by first | omega | (simp; omega) | simp) _) | refine Below.drew ?_)), fun i => by go_simp, fun i => by go_simp, fun i => by go_simp, fun i => by go_simp, fun i => by go_simp, by simp⟩
theorem PFrame.loS_bd {f : PFrame} (h : f.ok = true) (xs : List Int) (h6 : xs.length ≤ 6) : 0 ≤ f.loS xs ∧ f.loS xs ≤ 594 := by
  have := sumG_bd (g := f.lo) (xs := xs) (fun x _ => PFrame.lo_bd h x)
  unfold PFrame.loS
  omega
theorem PFrame.hiS_bd {f : PFrame} (h : f.ok = true) (xs : List Int) (h6 : xs.length ≤ 6) : 0 ≤ f.hiS xs ∧ f.hiS xs ≤ 594 := by
  have := sumG_bd (g := f.hi) (xs := xs) (fun x _ => PFrame.hi_bd h x)
  unfold PFrame.hiS
  omega

set_option maxRecDepth 100000 in
set_option maxHeartbeats 4000000 in
theorem height_any (f : PFrame) (sa : Option Addr) (sl sc : Nat) (pa : Option Addr) (pl pc : Nat) (ca : Option Addr) (cl cc : Nat) (xa : Option Addr) (xl xc : Nat) (xs : List Int) (ho : f.ok = true) (hin : ∀ x ∈ xs, 0 ≤ x ∧ x < (f.pieces.length : Int)) (h6 : xs.length ≤ 6) (w : World) (hp : PAt w sa sl sc pa pl pc ca cl cc f) (hx : IntsAt w xa xl xs) :
    Calls Try.prog 76 #[.agg #[.int .i64 f.len, .int .i64 f.slack, .slice sa sl sc, .slice pa pl pc, .slice ca cl cc], .slice xa xl xc] w fun e w' => e = .returned (.agg #[.int .i64 (f.loS xs), .int .i64 (f.hiS xs)]) ∧ Below w.heap.size w w' := by
  obtain ⟨hpl, hpm, hpc⟩ := hp.2.1
  obtain ⟨hxl, hxm, hxc⟩ := hx
  have hpl6 := (PFrame.ok_parts ho).2.2.2.2.2.1
  have HPL := Lib.hid hpl
  have HPC := Lib.hid hpc
  have HXL := Lib.hid hxl
  have HXC := Lib.hid hxc
  have HIN := Lib.hid (fun k (hk : k < xs.length) => hin xs[k] (List.getElem_mem hk))
  have HLN := Lib.hid (fun k (hk : k < xs.length) => show f.loS (xs.take (k + 1)) = f.loS (xs.take k) + f.lo xs[k] from sumG_next hk)
  have HHN := Lib.hid (fun k (hk : k < xs.length) => show f.hiS (xs.take (k + 1)) = f.hiS (xs.take k) + f.hi xs[k] from sumG_next hk)
  have HLB := Lib.hid (fun k => PFrame.loS_bd ho (xs.take k) (by rw [List.length_take]; omega))
  have HHB := Lib.hid (fun k => PFrame.hiS_bd ho (xs.take k) (by rw [List.length_take]; omega))
  have HL1 := Lib.hid (fun (j : Nat) (hj : j < f.pieces.length) => show f.lo (j : Int) = f.pieces[j].lo from by unfold PFrame.lo; simp [hj])
  have HH1 := Lib.hid (fun (j : Nat) (hj : j < f.pieces.length) => show f.hi (j : Int) = f.pieces[j].hi from by unfold PFrame.hi; simp [hj])
  have HPB := Lib.hid (fun (j : Nat) (hj : j < f.pieces.length) => PFrame.ok_piece ho j hj)
  have HEL := Lib.hid (show f.loS (xs.take xl) = f.loS xs from by rw [List.take_of_length_le (by omega)])
  have HEH := Lib.hid (show f.hiS (xs.take xl) = f.hiS xs from by rw [List.take_of_length_le (by omega)])
  have HE0 := Lib.hid (show f.loS (xs.take 0) = 0 ∧ f.hiS (xs.take 0) = 0 from ⟨rfl, rfl⟩)
  have hxl6 : xl ≤ 6 := by omega
  have hpl7 : pl ≤ 6 := by omega
  clear hp hpl hpm hpc hxl hxm hxc hin ho h6 hpl6
  go_enter Try.func76, Try.ntmps76
  go_wp2_with fail
  obtain ⟨W0, hW0, hB0, ha0, hr0, hg0, hrf, hgf, hz0⟩ := name3 w #[.int .i64 f.len, .int .i64 f.slack, .slice sa sl sc, .slice pa pl pc, .slice ca cl cc] 87 #[.int .i64 0, .int .i64 0] 32 #[.int .i64 0, .int .i64 0] 32
  rw [hW0]
  clear hW0
  obtain ⟨g, hg⟩ : ∃ g, g = w.heap.size + 1 + 1 := ⟨_, rfl⟩
  rw [← hg]
  rw [← hg] at hg0 hgf hz0
  have hgr : w.heap.size < g := by omega
  have hgr1 : w.heap.size + 1 < g := by omega
  have hgz : g < W0.heap.size := by omega
  have HB0 := Lib.hid hB0
  have HA0 := Lib.hid ha0
  have HR0 := Lib.hid hr0
  have HRF := Lib.hid hrf
  clear hB0 ha0 hr0 hrf hg hz0
  go_loopw [10] (fun i wr => ∃ k : Nat, k ≤ xl ∧ i = .int .i64 k ∧ wr.cell? ⟨g, 0, none⟩ = some (.int .i64 (f.loS (xs.take k))) ∧ wr.cell? ⟨g, 1, none⟩ = some (.int .i64 (f.hiS (xs.take k))) ∧ wr.frozen? ⟨g, 0, none⟩ = false ∧ wr.frozen? ⟨g, 1, none⟩ = false ∧ g < wr.heap.size ∧ Below g W0 wr) (fun i _ => xl - (intOf i).toNat)
  case atStart => exact ⟨0, by omega, rfl, by rw [HE0.out.1]; exact hg0 0, by rw [HE0.out.2]; exact hg0 1, hgf 0, hgf 1, hgz, Below.refl _ _⟩
  case round =>
    clear hg0 hgf
    obtain ⟨k, hk, rfl, l0, l1, y0, y1, hzr, hB⟩ := hrel
    have HB := Lib.hid hB
    have hlb := HLB.out k
    have hhb := HHB.out k
    by_cases hlt : k < xl
    · have hk2 : k < xs.length := by rw [HXL.out]; exact hlt
      have hxi := HIN.out k hk2
      obtain ⟨xb, xo, rfl, hxB, hxcell⟩ := HXC.out (by omega)
      have HL := Lib.hid (HLN.out k hk2)
      have HH := Lib.hid (HHN.out k hk2)
      have hbw := HB0.out.trans (hB.mono (Nat.le_of_lt hgr))
      have cx := (hbw.cell (p := ⟨xb, xo + k, none⟩) hxB).trans (hxcell k hk2)
      obtain ⟨x, hx⟩ : ∃ x, xs[k] = x := ⟨_, rfl⟩
      rw [hx] at HL HH cx hxi
      clear hx hxcell
      obtain ⟨j, rfl⟩ : ∃ j : Nat, x = (j : Int) := ⟨x.toNat, by omega⟩
      have hj : j < f.pieces.length := by omega
      have hjp : j < pl := by have := HPL.out; omega
      obtain ⟨pb, po, rfl, hpB, hpcell⟩ := HPC.out (by omega)
      obtain ⟨d0, d1, -⟩ := hpcell j hj
      have e0 := (hbw.cell (p := ⟨pb, po + j * 3, none⟩) hpB).trans d0
      have e1 := (hbw.cell (p := ⟨pb, po + j * 3 + 1, none⟩) hpB).trans d1
      rw [HL1.out j hj] at HL
      rw [HH1.out j hj] at HH
      obtain ⟨hpb1, hpb2, hpb3, -, -⟩ := HPB.out j hj
      have x3 := (hB.cell (p := ⟨w.heap.size, 3, none⟩) hgr).trans (HA0.out 3)
      have hpg : ¬ pb = g := by omega
      have hxg : ¬ xb = g := by omega
      have hwg : ¬ w.heap.size = g := by omega
      have hkl : (k : Int) < (xl : Int) := by omega
      have hk0 : (0 : Int) ≤ (k : Int) := by omega
      have hjl : (j : Int) < (pl : Int) := by omega
      have hj0 : (0 : Int) ≤ (j : Int) := by omega
      clear hB hpcell d0 d1 hxi hbw
      generalize f.pieces[j].lo = lo at *
      generalize f.pieces[j].hi = hi at *
      clear hk2
      generalize hls : f.loS (xs.take k) = ls at *
      generalize hhs : f.hiS (xs.take k) = hs at *
      go_wp2_with fail
      go_region
      go_wp2_with fail
      go_region
      go_wp2_with fail
      go_roundw
      case rel =>
        refine ⟨k + 1, by omega, by go_num, ?_, ?_, by go_simp, by go_simp, by simp; omega, ?_⟩
        · rw [HL.out]; go_simp
        · rw [HH.out]; go_simp
        · have hBB := HB.out
          exact (by repeat (first | assumption | exact Below.refl _ _ | (refine Below.alloc ?_ (by first | omega | (simp; omega) | simp) _) | (refine Below.setCell ?_ (by first | omega | (simp; omega) | simp) _) | refine Below.drew ?_))
      case measure => simp [intOf]; omega
    · obtain rfl : xl = k := by omega
      have r0 := (hB.cell (p := ⟨w.heap.size + 1, 0, none⟩) hgr1).trans (HR0.out 0)
      have r1 := (hB.cell (p := ⟨w.heap.size + 1, 1, none⟩) hgr1).trans (HR0.out 1)
      have r2 := (hB.frozen (p := ⟨w.heap.size + 1, 0, none⟩) hgr1).trans (HRF.out 0)
      have r3 := (hB.frozen (p := ⟨w.heap.size + 1, 1, none⟩) hgr1).trans (HRF.out 1)
      have HBW := Lib.hid (HB0.out.trans (hB.mono (Nat.le_of_lt hgr)))
      clear hB
      go_wp2_with fail
      refine bodyPost_ret (v := .agg #[.int .i64 (f.loS (xs.take xl)), .int .i64 (f.hiS (xs.take xl))]) (by simp [results, Try.results76, go_sem, *]) rfl ⟨by rw [HEL.out, HEH.out], ?_⟩
      have hBB := HBW.out
      exact (by repeat (first | assumption | exact Below.refl _ _ | (refine Below.alloc ?_ (by first | omega | (simp; omega) | simp) _) | (refine Below.setCell ?_ (by first | omega | (simp; omega) | simp) _) | refine Below.drew ?_))

def PFrame.roomLo (f : PFrame) (xs : List Int) : Int := max 0 (f.len - f.slack - f.loS xs)
def PFrame.roomHi (f : PFrame) (xs : List Int) : Int := f.len - f.hiS xs
set_option maxRecDepth 100000 in
set_option maxHeartbeats 4000000 in
theorem room_any (f : PFrame) (sa : Option Addr) (sl sc : Nat) (pa : Option Addr) (pl pc : Nat) (ca : Option Addr) (cl cc : Nat) (xa : Option Addr) (xl xc : Nat) (xs : List Int) (ho : f.ok = true) (hin : ∀ x ∈ xs, 0 ≤ x ∧ x < (f.pieces.length : Int)) (h6 : xs.length ≤ 6) (w : World) (hp : PAt w sa sl sc pa pl pc ca cl cc f) (hx : IntsAt w xa xl xs) :
    Calls Try.prog 87 #[.agg #[.int .i64 f.len, .int .i64 f.slack, .slice sa sl sc, .slice pa pl pc, .slice ca cl cc], .slice xa xl xc] w fun e w' => e = .returned (.agg #[.int .i64 (f.roomLo xs), .int .i64 (f.roomHi xs)]) ∧ Below w.heap.size w w' := by
  have HH := Lib.hid (fun W (hb : Below w.heap.size w W) => height_any f sa sl sc pa pl pc ca cl cc xa xl xc xs ho hin h6 W (hp.below hb) (hx.below hb))
  obtain ⟨b1, b2, b3, b4, -⟩ := PFrame.ok_parts ho
  obtain ⟨l1, l2⟩ := PFrame.loS_bd ho xs h6
  obtain ⟨l3, l4⟩ := PFrame.hiS_bd ho xs h6
  have HRL := Lib.hid (show f.roomLo xs = max 0 (f.len - f.slack - f.loS xs) from rfl)
  have HRH := Lib.hid (show f.roomHi xs = f.len - f.hiS xs from rfl)
  clear hp hx ho hin h6
  generalize f.loS xs = ls at *
  generalize f.hiS xs = hs at *
  go_enter Try.func87, Try.ntmps87
  go_wp2_with fail
  obtain ⟨W0, hW0, hB0, hs0, hg0, -, hgf, hz0⟩ := name2 w #[.int .i64 f.len, .int .i64 f.slack, .slice sa sl sc, .slice pa pl pc, .slice ca cl cc] 87 #[.int .i64 0, .int .i64 0] 32
  rw [hW0]
  clear hW0
  have z0 : w.heap.size < W0.heap.size := by omega
  have z1 : w.heap.size + 1 < W0.heap.size := by omega
  refine (HH.out _ hB0).mono ?_
  rintro e w1 ⟨rfl, hb1⟩
  obtain ⟨x0, x1, x2, x3, x4⟩ : w1.cell? ⟨w.heap.size, 0, none⟩ = some (.int .i64 f.len) ∧ w1.cell? ⟨w.heap.size, 1, none⟩ = some (.int .i64 f.slack) ∧ w1.cell? ⟨w.heap.size, 2, none⟩ = some (.slice sa sl sc) ∧ w1.cell? ⟨w.heap.size, 3, none⟩ = some (.slice pa pl pc) ∧ w1.cell? ⟨w.heap.size, 4, none⟩ = some (.slice ca cl cc) := ⟨(hb1.cell (p := ⟨w.heap.size, 0, none⟩) z0).trans (hs0 0), (hb1.cell (p := ⟨w.heap.size, 1, none⟩) z0).trans (hs0 1), (hb1.cell (p := ⟨w.heap.size, 2, none⟩) z0).trans (hs0 2), (hb1.cell (p := ⟨w.heap.size, 3, none⟩) z0).trans (hs0 3), (hb1.cell (p := ⟨w.heap.size, 4, none⟩) z0).trans (hs0 4)⟩
  have r0 := (hb1.cell (p := ⟨w.heap.size + 1, 0, none⟩) z1).trans (hg0 0)
  have r1 := (hb1.cell (p := ⟨w.heap.size + 1, 1, none⟩) z1).trans (hg0 1)
  have r2 := (hb1.frozen (p := ⟨w.heap.size + 1, 0, none⟩) z1).trans (hgf 0)
  have r3 := (hb1.frozen (p := ⟨w.heap.size + 1, 1, none⟩) z1).trans (hgf 1)
  have zz := hb1.size
  have z2 : w.heap.size < w1.heap.size := by omega
  have z3 : w.heap.size + 1 < w1.heap.size := by omega
  have HBW := Lib.hid (hB0.trans (hb1.mono hB0.size))
  clear hB0 hs0 hg0 hgf hb1 zz
  rcases Int.lt_or_le 0 (f.len - f.slack - ls) with hm | hm
  · have HRL1 := Lib.hid (show f.roomLo xs = f.len - f.slack - ls by rw [HRL.out]; omega)
    go_wp2_with fail
    refine bodyPost_ret (v := .agg #[.int .i64 (f.len - f.slack - ls), .int .i64 (f.len - hs)]) (by simp [results, Try.results87, go_sem, *]) rfl ⟨by rw [HRL1.out, HRH.out], ?_⟩
    have hBB := HBW.out
    exact (by repeat (first | assumption | exact Below.refl _ _ | (refine Below.alloc ?_ (by first | omega | (simp; omega) | simp) _) | (refine Below.setCell ?_ (by first | omega | (simp; omega) | simp) _) | refine Below.drew ?_))
  · have HRL1 := Lib.hid (show f.roomLo xs = 0 by rw [HRL.out]; omega)
    go_wp2_with fail
    refine bodyPost_ret (v := .agg #[.int .i64 0, .int .i64 (f.len - hs)]) (by simp [results, Try.results87, go_sem, *]) rfl ⟨by rw [HRL1.out, HRH.out], ?_⟩
    have hBB := HBW.out
    exact (by repeat (first | assumption | exact Below.refl _ _ | (refine Below.alloc ?_ (by first | omega | (simp; omega) | simp) _) | (refine Below.setCell ?_ (by first | omega | (simp; omega) | simp) _) | refine Below.drew ?_))
end Go.Proofs.Ytcklhojeneejiaa
