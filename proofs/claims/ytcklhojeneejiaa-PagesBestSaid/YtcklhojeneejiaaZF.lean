/- Package pages: sets: an iterator over all sets of strips that lock a column. -/
import Derived.Test.YtcklhojeneejiaaZE
import Derived.Test.YtcklhojeneejiaaYK
import Derived.Test.YtcklhojeneejiaaYL
import Derived.Test.YtcklhojeneejiaaYO
namespace Go.Proofs.Ytcklhojeneejiaa
set_option linter.unusedVariables false
set_option linter.unusedSimpArgs false
open Go.RowKit Go.Shelf

attribute [local go_sem] Oper.semAt_some

def T3.list (t : T3) : List Int := [t.a, t.b, t.c]
theorem T3At.ints {w : World} {g : Nat} {t : T3} (h : T3At w g t) {n : Nat} (hn : n ≤ 3) : IntsAt w (some ⟨g, 0, none⟩) n (t.list.take n) := by
  refine ⟨by simp [T3.list, hn], by unfold maxLen; omega, fun _ => ⟨g, 0, rfl, h.lt, fun i hi => ?_⟩⟩
  obtain ⟨⟨h0, h1, h2⟩, -⟩ := h
  have hi3 : i < 3 := by simp [T3.list] at hi; omega
  simp only [List.getElem_take]
  match i, hi3 with
  | 0, _ => exact h0
  | 1, _ => exact h1
  | 2, _ => exact h2
theorem list_bd {t l : T3} (h : leS t l) (hl : l.a ≤ 4 ∧ l.b ≤ 4 ∧ l.c ≤ 4) {n : Nat} (i : Nat) (hi : i < (t.list.take n).length) : 0 ≤ (t.list.take n)[i] ∧ (t.list.take n)[i] ≤ 4 := by
  obtain ⟨h1, h2, h3, h4, h5, h6⟩ := h
  have hi3 : i < 3 := by simp [T3.list] at hi; omega
  simp only [List.getElem_take]
  match i, hi3 with
  | 0, _ => exact ⟨h1, by simp [T3.list]; omega⟩
  | 1, _ => exact ⟨h3, by simp [T3.list]; omega⟩
  | 2, _ => exact ⟨h5, by simp [T3.list]; omega⟩
theorem pts_take {f : PFrame} (t : T3) (h : f.strips.length ≤ 3) : f.ptsL (t.list.take f.strips.length) = f.pts t := by
  unfold PFrame.ptsL PFrame.pts PFrame.thick T3.list
  generalize f.strips = ss0 at *
  rcases ss0 with - | ⟨s0, - | ⟨s1, - | ⟨s2, - | ⟨s3, ss⟩⟩⟩⟩
  · simp [ptsZ]
  · simp [ptsZ]
  · simp [ptsZ]
  · simp [ptsZ]; try omega
  · simp at h

/-- What sets$1 reads between two rounds. -/
def SetsEnv (f : PFrame) (sa : Option Addr) (sl sc : Nat) (pa : Option Addr) (pl pc : Nat) (ca : Option Addr) (cl cc : Nat) (left : T3) (lo hi : Int) (bl bf br : Nat) (w : World) : Prop :=
  PAt w sa sl sc pa pl pc ca cl cc f ∧ (∀ i, w.cell? ⟨bf, i, none⟩ = (#[.int .i64 f.len, .int .i64 f.slack, .slice sa sl sc, .slice pa pl pc, .slice ca cl cc] : Array Value)[i]?) ∧ (∀ i, w.cell? ⟨bl, i, none⟩ = (#[.int .i64 left.a, .int .i64 left.b, .int .i64 left.c] : Array Value)[i]?) ∧ (∀ i, w.cell? ⟨br, i, none⟩ = (#[.int .i64 lo, .int .i64 hi] : Array Value)[i]?)
def encS (x : T3) : Array Value := #[.agg #[.int .i64 x.a, .int .i64 x.b, .int .i64 x.c]]
/-- Where the odometer stands. -/
def SetRel (f : PFrame) (left : T3) (r : Int × Int) (J : List T3 → World → Prop) (B : Nat) (k : Nat) (v : Value) (w : World) : Prop :=
  (v = .bool true ∧ ∃ (A : List T3) (x : T3), allS left = A ++ fromS x left ∧ leS x left ∧ (fromS x left).length = k ∧ T3At w B x ∧ J (A.filter (inRoom f r)) w) ∨
  (v = .bool false ∧ J (f.setsOf left r) w)
theorem set_go {f : PFrame} {left : T3} {r : Int × Int} {A : List T3} {x y : T3} (h : allS left = A ++ fromS x left) (hx : leS x left) (hn : nextS x left = some y) : allS left = (A ++ [x]) ++ fromS y left := by
  rw [h, from_next hx, hn]; simp
theorem set_end {f : PFrame} {left : T3} {r : Int × Int} {A : List T3} {x : T3} (h : allS left = A ++ fromS x left) (hx : leS x left) (hn : nextS x left = none) : f.setsOf left r = (A ++ [x]).filter (inRoom f r) := by
  unfold PFrame.setsOf
  rw [h, from_next hx, hn]
theorem fil_yes {f : PFrame} {r : Int × Int} {A : List T3} {x : T3} (h : inRoom f r x = true) : (A ++ [x]).filter (inRoom f r) = A.filter (inRoom f r) ++ [x] := by rw [List.filter_append]; simp [h]
theorem fil_no {f : PFrame} {r : Int × Int} {A : List T3} {x : T3} (h : inRoom f r x = false) : (A ++ [x]).filter (inRoom f r) = A.filter (inRoom f r) := by rw [List.filter_append]; simp [h]
theorem low_grown {N : Nat} {w w' : World} {g : Nat} (hg : w.grownBy w' (some g)) (h1 : N ≤ g) (h2 : N ≤ w.heap.size) : Below N w w' := (Below.refl N w).grown hg h2 (fun k e => by cases e; exact h1)
theorem fewS_bd {left : T3} (h : fewS left) : left.a ≤ 4 ∧ left.b ≤ 4 ∧ left.c ≤ 4 := ⟨h.1.2, h.2.1.2, h.2.2.2⟩

theorem next_no {s l : T3} {g : Nat} {w w' : World} {e : Ending} (h : NextPost s l g w e w') (hn : nextS s l = none) : e = .returned (.bool false) ∧ w.grownBy w' (some g) := by
  obtain ⟨rfl, h2, h3⟩ := h
  rw [hn]; exact ⟨rfl, h3⟩
theorem next_yes {s l y : T3} {g : Nat} {w w' : World} {e : Ending} (h : NextPost s l g w e w') (hn : nextS s l = some y) : e = .returned (.bool true) ∧ T3At w' g y ∧ w.grownBy w' (some g) := by
  obtain ⟨rfl, h2, h3⟩ := h
  rw [hn] at h2 ⊢; exact ⟨rfl, h2, h3⟩

set_option maxRecDepth 100000 in
set_option maxHeartbeats 8000000 in
theorem sets1_it (f : PFrame) (sa : Option Addr) (sl sc : Nat) (pa : Option Addr) (pl pc : Nat) (ca : Option Addr) (cl cc : Nat) (ho : f.ok = true) (left : T3) (hl : fewS left) (lo hi : Int) (bl bf br : Nat) :
    Iterates Try.prog 129 #[.pointer (some ⟨bl, 0, none⟩), .pointer (some ⟨bf, 0, none⟩), .pointer (some ⟨br, 0, none⟩)] encS (SetsEnv f sa sl sc pa pl pc ca cl cc left lo hi bl bf br) (fun x => x ∈ f.setsOf left (lo, hi)) (f.setsOf left (lo, hi)) := by
  intro l J Stop W hJ hStop hEnv _ hY h0
  have hsl := (hEnv _ _ h0).1.1.1
  have hsl3 := (PFrame.ok_parts ho).2.2.2.2.1
  have hl4 := fewS_bd hl
  have hz : leS ⟨0, 0, 0⟩ left := ⟨by simp, hl.1.1, by simp, hl.2.1.1, by simp, hl.2.2.1⟩
  have HPT := Lib.hid (fun (x : T3) (hx : leS x left) (B cap : Nat) (W1 : World) (hp : PAt W1 sa sl sc pa pl pc ca cl cc f) (ht : T3At W1 B x) => (by
    have h := points_any f sa sl sc pa pl pc ca cl cc (some ⟨B, 0, none⟩) sl cap (x.list.take sl) ho (by rw [hsl]; simp; omega) (fun i hi => list_bd hx hl4 i hi) W1 hp (ht.ints (by omega))
    rw [show f.ptsL (x.list.take sl) = f.pts x from by rw [← hsl]; exact pts_take x hsl3] at h
    exact h : Calls Try.prog 84 #[.agg #[.int .i64 f.len, .int .i64 f.slack, .slice sa sl sc, .slice pa pl pc, .slice ca cl cc], .slice (some ⟨B, 0, none⟩) sl cap] W1 fun e w' => e = .returned (.int .i64 (f.pts x)) ∧ Below W1.heap.size W1 w'))
  have HNX := Lib.hid (fun (x : T3) (hx : leS x left) (B : Nat) (W1 : World) (ht : T3At W1 B x) => next_any B x left W1 ht hx hl4)
  have HBT := Lib.hid (fun (n : Int) (w1 : World) => between_any n lo hi w1)
  have HRM := Lib.hid (show ∀ x, inRoom f (lo, hi) x = btw (f.pts x) lo hi from fun _ => rfl)
  have HJ := Lib.hid hJ
  have HY := Lib.hid hY
  have HE := Lib.hid hEnv
  have H0 := Lib.hid h0
  have HZ := Lib.hid hz
  have HFZ := Lib.hid (from_zero hl.1.1 hl.2.1.1 hl.2.2.1)
  have hsl4 : sl ≤ 3 := by omega
  clear hJ hStop hEnv hY h0 hz hsl ho hl4 hl
  refine (callsIn_wide (n := 12)).1 ?_
  refine callsIn_of_wp Try.func129 rfl trivial ?_ rfl
  simp only [Try.ntmps129, List.size_toArray, List.length_cons, List.length_nil, Nat.reduceAdd, Nat.reduceSub, Array.replicate_succ, Array.replicate_zero, List.push_toArray, List.append_toArray, List.nil_append, List.cons_append]
  gi_wp2
  gi_loopg [6] (fromS ⟨0, 0, 0⟩ left).length (fun k v6 wr => SetRel f left (lo, hi) J W.heap.size k v6 wr)
  case atStart =>
    refine .inl ⟨rfl, [], ⟨0, 0, 0⟩, by rw [HFZ.out]; rfl, HZ.out, rfl, ⟨⟨?_, ?_, ?_⟩, fun i => by go_simp⟩, HJ.out _ _ _ H0.out (by repeat (first | exact Below.refl _ _ | (refine Below.alloc ?_ (by first | omega | (simp; omega) | simp) _) | (refine Below.setCell ?_ (by first | omega | (simp; omega) | simp) _) | refine Below.drew ?_))⟩
    all_goals (rw [World.cell?_alloc_new]; rfl)
  case round =>
    rcases hrel with ⟨rfl, A, x, hall, hx, hk, hT, hJw⟩ | ⟨rfl, hJw⟩
    · obtain ⟨hpat, hbf, hbl, hbr⟩ := HE.out _ _ hJw
      obtain ⟨x0, x1, x2, x3, x4⟩ : wr.cell? ⟨bf, 0, none⟩ = some (.int .i64 f.len) ∧ wr.cell? ⟨bf, 1, none⟩ = some (.int .i64 f.slack) ∧ wr.cell? ⟨bf, 2, none⟩ = some (.slice sa sl sc) ∧ wr.cell? ⟨bf, 3, none⟩ = some (.slice pa pl pc) ∧ wr.cell? ⟨bf, 4, none⟩ = some (.slice ca cl cc) := ⟨hbf 0, hbf 1, hbf 2, hbf 3, hbf 4⟩
      have hs0 : (0 : Int) ≤ (sl : Int) := by omega
      have hs3 : (sl : Int) ≤ 3 := by omega
      have hBw := hT.lt
      have HALL := Lib.hid hall
      have HX := Lib.hid hx
      have HK := Lib.hid hk
      have HT := Lib.hid hT
      have HJW := Lib.hid hJw
      have HPA := Lib.hid hpat
      clear hall hx hk hT hJw hpat hbf hbl hbr
      gi_upto_region 4 with fail
      gi_cut [7] from 30 (fun v7 wx => v7 = .int .i64 (f.pts x) ∧ Below wr.heap.size wr wx)
      case first =>
        refine wpIn_wide.2 ?_
        have hbw := World.block_lt_of_cell? _ _ x0
        go_region_held3 (fun w' => (w'.cell? ⟨bf, 0, none⟩ = some (.int .i64 f.len) ∧ w'.cell? ⟨bf, 1, none⟩ = some (.int .i64 f.slack) ∧ w'.cell? ⟨bf, 2, none⟩ = some (.slice sa sl sc) ∧ w'.cell? ⟨bf, 3, none⟩ = some (.slice pa pl pc) ∧ w'.cell? ⟨bf, 4, none⟩ = some (.slice ca cl cc)) ∧ Below wr.heap.size wr w')
          (first | with_reducible assumption | exact ⟨⟨x0, x1, x2, x3, x4⟩, (by repeat (first | exact Below.refl _ _ | (refine Below.alloc ?_ (by first | omega | (simp; omega) | simp) _) | (refine Below.setCell ?_ (by first | omega | (simp; omega) | simp) _) | refine Below.drew ?_))⟩)
          (first
            | (go_at_call 84; with_reducible refine (HPT.out x HX.out W.heap.size _ _ ?_ ?_).mono ?_; (· exact HPA.out.below (by repeat (first | exact Below.refl _ _ | (refine Below.alloc ?_ (by first | omega | (simp; omega) | simp) _) | (refine Below.setCell ?_ (by first | omega | (simp; omega) | simp) _) | refine Below.drew ?_))); (· exact HT.out.below (by repeat (first | exact Below.refl _ _ | (refine Below.alloc ?_ (by first | omega | (simp; omega) | simp) _) | (refine Below.setCell ?_ (by first | omega | (simp; omega) | simp) _) | refine Below.drew ?_))); rintro e w2 ⟨rfl, hb2⟩; have kB : Below wr.heap.size wr w2 := ((by repeat (first | exact Below.refl _ _ | (refine Below.alloc ?_ (by first | omega | (simp; omega) | simp) _) | (refine Below.setCell ?_ (by first | omega | (simp; omega) | simp) _) | refine Below.drew ?_)) : Below wr.heap.size wr _).trans (hb2.mono (Nat.le_refl _)); have kA : (w2.cell? ⟨bf, 0, none⟩ = some (.int .i64 f.len) ∧ w2.cell? ⟨bf, 1, none⟩ = some (.int .i64 f.slack) ∧ w2.cell? ⟨bf, 2, none⟩ = some (.slice sa sl sc) ∧ w2.cell? ⟨bf, 3, none⟩ = some (.slice pa pl pc) ∧ w2.cell? ⟨bf, 4, none⟩ = some (.slice ca cl cc)) ∧ Below wr.heap.size wr w2 := ⟨⟨(kB.cell (p := ⟨bf, 0, none⟩) hbw).trans x0, (kB.cell (p := ⟨bf, 1, none⟩) hbw).trans x1, (kB.cell (p := ⟨bf, 2, none⟩) hbw).trans x2, (kB.cell (p := ⟨bf, 3, none⟩) hbw).trans x3, (kB.cell (p := ⟨bf, 4, none⟩) hbw).trans x4⟩, kB⟩; clear hb2)
            | fail "no arm")
        all_goals (go_wp2_with fail; go_meet; exact ⟨rfl, kB⟩)
      case rest =>
        obtain ⟨rfl, hB1⟩ := hcut
        obtain ⟨w1, rfl⟩ : ∃ w1 : World, w1 = wc := ⟨_, rfl⟩
        have hJ1 := HJ.out _ _ _ HJW.out (hB1.mono (by omega))
        have hT1 := HT.out.below hB1
        obtain ⟨-, -, hbl, hbr⟩ := HE.out _ _ hJ1
        have y0 := hbr 0
        have y1 := hbr 1
        have z0 := hbl 0
        have z1 := hbl 1
        have z2 := hbl 2
        obtain ⟨⟨t0, t1, t2⟩, -⟩ := hT1
        clear hbl hbr x0 x1 x2 x3 x4
        have hz1 := hB1.size
        have HT1 := Lib.hid (HT.out.below hB1)
        have HJ1 := Lib.hid hJ1
        clear hJ1 hB1
        have HBX := Lib.hid (HBT.out (f.pts x))
        rw [← HRM.out x] at HBX
        rcases hrm : inRoom f (lo, hi) x with - | -
        · rw [hrm] at HBX
          have HFN := Lib.hid (fil_no (A := A) hrm)
          clear hrm
          gi_wp2_with (refine ⟨trivial, ?_⟩; gi_at_call 102; refine (callsIn_wide.2 (HBX.out _)).mono ?_; rintro e w2 ⟨rfl, rfl⟩)
          refine ⟨fun _ h => (by cases h), ?_⟩
          rcases hn : nextS x left with - | y
          · have HSE := Lib.hid (set_end (f := f) (r := (lo, hi)) HALL.out HX.out hn)
            have HN := Lib.hid hn
            clear hn
            gi_wp2_with (refine ⟨trivial, ?_⟩; gi_at_call 130; refine (callsIn_wide.2 (HNX.out x HX.out W.heap.size _ HT1.out)).mono ?_; intro e w4 hnp; obtain ⟨rfl, hg4⟩ := next_no hnp HN.out)
            gi_roundg 0
            case measure => have := HK.out; rw [from_next HX.out] at this; simp at this; omega
            case rel => exact .inr ⟨rfl, by rw [HSE.out, HFN.out]; exact HJ.out _ _ _ HJ1.out (low_grown hg4 (Nat.le_refl _) (by omega))⟩
          · have HSG := Lib.hid (set_go (f := f) (r := (lo, hi)) HALL.out HX.out hn)
            have HLE := Lib.hid (next_le HX.out hn)
            have HFL := Lib.hid (from_len HX.out hn)
            have HN := Lib.hid hn
            clear hn
            gi_wp2_with (refine ⟨trivial, ?_⟩; gi_at_call 130; refine (callsIn_wide.2 (HNX.out x HX.out W.heap.size _ HT1.out)).mono ?_; intro e w4 hnp; obtain ⟨rfl, hT4, hg4⟩ := next_yes hnp HN.out)
            gi_roundg (fromS y left).length
            case measure => have := HK.out; have := HFL.out; omega
            case rel => exact .inl ⟨rfl, A ++ [x], y, HSG.out, HLE.out, rfl, hT4, by rw [HFN.out]; exact HJ.out _ _ _ HJ1.out (low_grown hg4 (Nat.le_refl _) (by omega))⟩
        · rw [hrm] at HBX
          have HFN := Lib.hid (fil_yes (A := A) hrm)
          have hmem : x ∈ f.setsOf left (lo, hi) := List.mem_filter.2 ⟨mem_allS.2 HX.out, hrm⟩
          clear hrm
          obtain ⟨fn, tmps, assign, body, hy, hR⟩ := yield_deep (F := Fence.wide) rfl 11 (HY.out _ x w1 HJ1.out (by omega) hmem)
          clear hmem
          unfold encS at hy
          have HR := Lib.hid hR
          clear hR
          gi_wp2_with (refine ⟨trivial, ?_⟩; gi_at_call 102; refine (callsIn_wide.2 (HBX.out _)).mono ?_; rintro e w2 ⟨rfl, rfl⟩)
          refine HR.out.mono ?_
          rintro e w3 (⟨rfl, hJ3, hk3⟩ | ⟨rfl, hS3, hk3⟩)
          · have hT3 : T3At w3 W.heap.size x := by
              have h := HT1.out
              exact ⟨⟨(hk3.cell (Nat.le_refl _) h.lt 0).trans h.1.1, (hk3.cell (Nat.le_refl _) h.lt 1).trans h.1.2.1, (hk3.cell (Nat.le_refl _) h.lt 2).trans h.1.2.2⟩, fun i => (hk3.frozen (Nat.le_refl _) h.lt i).trans (h.2 i)⟩
            obtain ⟨-, -, hbl, hbr⟩ := HE.out _ _ hJ3
            have z0' := hbl 0
            have z1' := hbl 1
            have z2' := hbl 2
            clear y0 y1 z0 z1 z2 t0 t1 t2 hbl hbr hy
            have hz3 := hk3.1
            have HT3 := Lib.hid hT3
            have HJ3 := Lib.hid hJ3
            clear hT3 hJ3 hk3
            rcases hn : nextS x left with - | y
            · have HSE := Lib.hid (set_end (f := f) (r := (lo, hi)) HALL.out HX.out hn)
              have HN := Lib.hid hn
              clear hn
              gi_wp2_with (refine ⟨trivial, ?_⟩; gi_at_call 130; refine (callsIn_wide.2 (HNX.out x HX.out W.heap.size _ HT3.out)).mono ?_; intro e w4 hnp; obtain ⟨rfl, hg4⟩ := next_no hnp HN.out)
              gi_roundg 0
              case measure => have := HK.out; rw [from_next HX.out] at this; simp at this; omega
              case rel => exact .inr ⟨rfl, by rw [HSE.out, HFN.out]; exact HJ.out _ _ _ HJ3.out (low_grown hg4 (Nat.le_refl _) (by omega))⟩
            · have HSG := Lib.hid (set_go (f := f) (r := (lo, hi)) HALL.out HX.out hn)
              have HLE := Lib.hid (next_le HX.out hn)
              have HFL := Lib.hid (from_len HX.out hn)
              have HN := Lib.hid hn
              clear hn
              gi_wp2_with (refine ⟨trivial, ?_⟩; gi_at_call 130; refine (callsIn_wide.2 (HNX.out x HX.out W.heap.size _ HT3.out)).mono ?_; intro e w4 hnp; obtain ⟨rfl, hT4, hg4⟩ := next_yes hnp HN.out)
              gi_roundg (fromS y left).length
              case measure => have := HK.out; have := HFL.out; omega
              case rel => exact .inl ⟨rfl, A ++ [x], y, HSG.out, HLE.out, rfl, hT4, by rw [HFN.out]; exact HJ.out _ _ _ HJ3.out (low_grown hg4 (Nat.le_refl _) (by omega))⟩
          · gi_wp2
            exact ⟨rfl, _, results_none rfl _ _ _, ⟨_, rfl⟩, .inr hS3⟩
    · gi_wp2
      go_end0
      exact ⟨⟨_, rfl⟩, .inl hJw⟩

set_option maxRecDepth 100000 in
set_option maxHeartbeats 1000000 in
theorem sets_any (f : PFrame) (sa : Option Addr) (sl sc : Nat) (pa : Option Addr) (pl pc : Nat) (ca : Option Addr) (cl cc : Nat) (left : T3) (lo hi : Int) (w : World) :
    Calls Try.prog 125 #[.agg #[.int .i64 f.len, .int .i64 f.slack, .slice sa sl sc, .slice pa pl pc, .slice ca cl cc], .agg #[.int .i64 left.a, .int .i64 left.b, .int .i64 left.c], .agg #[.int .i64 lo, .int .i64 hi]] w fun e w' => ∃ bl bf br, e = .returned (.func (.func 129) #[] #[.pointer (some ⟨bl, 0, none⟩), .pointer (some ⟨bf, 0, none⟩), .pointer (some ⟨br, 0, none⟩)]) ∧ Below w.heap.size w w' ∧
      (w.heap.size ≤ bl ∧ w.heap.size ≤ bf ∧ w.heap.size ≤ br) ∧ (bl < w'.heap.size ∧ bf < w'.heap.size ∧ br < w'.heap.size) ∧ (∀ i, w'.cell? ⟨bf, i, none⟩ = (#[.int .i64 f.len, .int .i64 f.slack, .slice sa sl sc, .slice pa pl pc, .slice ca cl cc] : Array Value)[i]?) ∧ (∀ i, w'.cell? ⟨bl, i, none⟩ = (#[.int .i64 left.a, .int .i64 left.b, .int .i64 left.c] : Array Value)[i]?) ∧ (∀ i, w'.cell? ⟨br, i, none⟩ = (#[.int .i64 lo, .int .i64 hi] : Array Value)[i]?) := by
  go_enter Try.func125, Try.ntmps125
  go_wp2_with fail
  go_ret
  exact ⟨_, _, _, rfl, (by repeat (first | exact Below.refl _ _ | (refine Below.alloc ?_ (by first | omega | (simp; omega) | simp) _) | (refine Below.setCell ?_ (by first | omega | (simp; omega) | simp) _) | refine Below.drew ?_)), ⟨(by first | omega | (simp; omega) | simp), (by first | omega | (simp; omega) | simp), (by first | omega | (simp; omega) | simp)⟩, ⟨(by first | omega | (simp; omega) | simp), (by first | omega | (simp; omega) | simp), (by first | omega | (simp; omega) | simp)⟩, fun i => by go_simp, fun i => by go_simp, fun i => by go_simp⟩
end Go.Proofs.Ytcklhojeneejiaa
