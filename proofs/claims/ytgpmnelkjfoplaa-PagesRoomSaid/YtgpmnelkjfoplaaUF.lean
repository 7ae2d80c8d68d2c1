/- The laws' fits. -/
import Derived.Test.YtgpmnelkjfoplaaUE
namespace Go.Proofs.Ytgpmnelkjfoplaa
set_option linter.unusedVariables false
set_option linter.unusedSimpArgs false
open Go.RowKit

theorem ints_srcW {w : World} {a : Option Addr} {len : Nat} {xs : List Int} (h : IntsAt w a len xs) : 0 < len → ∃ pb po, a = some ⟨pb, po, none⟩ ∧ pb < w.heap.size ∧ ∀ j u, (xs.map (Value.int .i64))[j]? = some u → w.cell? ⟨pb, po + j, none⟩ = some u := by
  intro h0
  obtain ⟨b, o, e, hb, hc⟩ := h.2.2 h0
  refine ⟨b, o, e, hb, fun j u hu => ?_⟩
  rw [List.getElem?_map] at hu
  obtain ⟨v, hv, rfl⟩ := Option.map_eq_some_iff.1 hu
  obtain ⟨hj, rfl⟩ := List.getElem?_eq_some_iff.1 hv
  exact hc j hj
theorem knownR_in (a b c d e : Int) : btw (knownR a b c d e) 1 3 = true := by
  unfold knownR btw
  split
  · rfl
  · split <;> rfl
set_option maxRecDepth 100000 in
set_option maxHeartbeats 4000000 in
theorem lawFits_any (f : PFrame) (sa : Option Addr) (sl sc : Nat) (pa : Option Addr) (pl pc : Nat) (ca : Option Addr) (cl cc : Nat) (c : Nat) (hc : c < f.cols.length) (xa : Option Addr) (xl xc : Nat) (x : List Int) (on ot : Int) (hset : f.setB x = true) (ho : f.ok = true) (w : World) (hp : PAt w sa sl sc pa pl pc ca cl cc f) (hx : IntsAt w xa xl x) :
    Calls Try.prog 51 #[.agg #[.int .i64 f.len, .int .i64 f.slack, .slice sa sl sc, .slice pa pl pc, .slice ca cl cc], .agg #[.int .i64 c, .slice xa xl xc, .int .i64 on, .int .i64 ot]] w fun e w' => e = .returned (.tuple #[.int .i64 (knownR f.len f.slack (f.loS f.cols[c]) (f.hiS f.cols[c]) (f.ptsL x)), .bool true]) ∧ Below w.heap.size w w' := by
  have hxl := hx.1
  have h3 := setB_len hset
  have h4 := (PFrame.ok_parts ho).2.2.2.2.1
  have hl3 : xl ≤ 3 := by omega
  have hm1 : xl ≤ 1000 := by omega
  have hmx : xl ≤ maxLen := by unfold maxLen; omega
  have hcs : (x.map (Value.int .i64)).length = xl * 1 := by simp [hxl]
  have HT := Lib.hid (fun W (hb : Below w.heap.size w W) ga gc (hi : IntsAt W ga xl x) => Fits_yes f sa sl sc pa pl pc ca cl cc c hc ga xl gc x hset ho W (hp.below hb) hi)
  have HX := Lib.hid (fun W (hb : Below w.heap.size w W) => ints_srcW (hx.below hb))
  obtain ⟨r, hr⟩ : ∃ r, knownR f.len f.slack (f.loS f.cols[c]) (f.hiS f.cols[c]) (f.ptsL x) = r := ⟨_, rfl⟩
  have hk := knownR_in f.len f.slack (f.loS f.cols[c]) (f.hiS f.cols[c]) (f.ptsL x)
  rw [hr] at hk HT ⊢
  have HW := Lib.hid (fun W => Within_is r 1 3 true hk W)
  generalize hmcs : x.map (Value.int .i64) = mcs at *
  clear hp hx h3 h4 hset ho hr hk
  go_enter Try.func51, Try.ntmps51
  go_wp2_with fail
  obtain ⟨W0, hW0, hB0, hs0, ht0, hz0⟩ := name2c w #[.int .i64 f.len, .int .i64 f.slack, .slice sa sl sc, .slice pa pl pc, .slice ca cl cc] 26 #[.int .i64 c, .slice xa xl xc, .int .i64 on, .int .i64 ot] 58
  rw [hW0]
  clear hW0
  obtain ⟨x0, x1, x2, x3, x4⟩ : W0.cell? ⟨w.heap.size, 0, none⟩ = some (.int .i64 f.len) ∧ W0.cell? ⟨w.heap.size, 1, none⟩ = some (.int .i64 f.slack) ∧ W0.cell? ⟨w.heap.size, 2, none⟩ = some (.slice sa sl sc) ∧ W0.cell? ⟨w.heap.size, 3, none⟩ = some (.slice pa pl pc) ∧ W0.cell? ⟨w.heap.size, 4, none⟩ = some (.slice ca cl cc) := ⟨hs0 0, hs0 1, hs0 2, hs0 3, hs0 4⟩
  have y0 : W0.cell? ⟨w.heap.size + 1, 0, none⟩ = some (.int .i64 c) := ht0 0
  have y1 : W0.cell? ⟨w.heap.size + 1, 1, none⟩ = some (.slice xa xl xc) := ht0 1
  have z0 : w.heap.size < W0.heap.size := by omega
  have z1 : w.heap.size + 1 < W0.heap.size := by omega
  have HB0 := Lib.hid hB0
  have HTX := Lib.hid (fun W (h : Below W0.heap.size W0 W ∧ ∀ b o, b < W0.heap.size → W.cell? ⟨b, o, none⟩ = W0.cell? ⟨b, o, none⟩) ga gc (hi : IntsAt W ga xl x) => bothS1 (W0 := W0) (HT.out W (hB0.trans (h.1.mono hB0.size)) ga gc hi) h)
  have HXX := Lib.hid (fun W (h : Below W0.heap.size W0 W) => HX.out W (hB0.trans (h.mono hB0.size)))
  clear hs0 ht0 hB0 hz0 HT HX
  go_upto_region 1 with fail
  go_cut [6, 7] (fun v6 v7 wx => v6 = .int .i64 r ∧ v7 = .int .i64 0 ∧ Below W0.heap.size W0 wx)
  case first =>
    go_region_held3 (fun w' => Below W0.heap.size W0 w' ∧ ∀ b o, b < W0.heap.size → w'.cell? ⟨b, o, none⟩ = W0.cell? ⟨b, o, none⟩) (first | with_reducible assumption | ((repeat (first | with_reducible refine bothS_drew ?_ | with_reducible refine bothS_alloc _ ?_ | with_reducible refine bothS_set _ _ (by first | omega | (simp; omega) | simp) ?_)); first | with_reducible assumption | with_reducible exact Hid.out (by assumption) | with_reducible exact ⟨Below.refl _ _, fun _ _ _ => rfl⟩)) (first
      | ((with_reducible refine step_append_fresh _ 27 3 _ 1 8 Try.underlying27 Try.info3 rfl (by decide) (by decide) xl xc xa mcs hcs hm1 rfl _ _ rfl ?_ ?_ ?_ ?_); (· exact ⟨_, rfl⟩); (· rfl); (· intro h0; obtain ⟨pb, po, e1, -, e2⟩ := HXX.out _ (And.left (by assumption)) h0; exact ⟨pb, po, e1, e2⟩); intro gm cm wA hfA hbA; have kA := bothS_below (by assumption) hbA; have HFA := Lib.hid hfA; have HBA := Lib.hid hbA; have hzA := hbA.size; obtain ⟨hcA, hfrA⟩ := bcell hbA; (try simp at hzA); (try have yA := Nat.lt_of_succ_le hzA); (try have yA1 := Nat.lt_of_succ_lt yA); (try have yA2 := Nat.lt_of_succ_lt yA1); clear hfA hbA)
      | (go_at_call 24; have hfi := HFA.out; (rw [← hmcs] at hfi); with_reducible refine (HTX.out _ ?_ _ _ (IntsAt.below ?_ (FRow.ints hfi hmx))).mono ?_; (first | with_reducible assumption | ((repeat (first | with_reducible refine bothS_drew ?_ | with_reducible refine bothS_alloc _ ?_ | with_reducible refine bothS_set _ _ (by first | omega | (simp; omega) | simp) ?_)); first | with_reducible assumption | with_reducible exact Hid.out (by assumption) | with_reducible exact ⟨Below.refl _ _, fun _ _ _ => rfl⟩)); exact (by repeat (first | exact Below.refl _ _ | (refine Below.alloc ?_ (by first | omega | (simp; omega) | simp) _) | (refine Below.setCell ?_ (by first | omega | (simp; omega) | simp) _) | refine Below.drew ?_)); rintro e w' ⟨rfl, k, k1, k2, k3⟩; have HK := Lib.hid k)
      | fail "no arm")
    all_goals (go_wp2_with fail; go_meet; exact ⟨rfl, rfl, And.left (by assumption)⟩)
  case rest =>
  obtain ⟨rfl, rfl, hB1⟩ := hcut
  have HB1 := Lib.hid (HB0.out.trans (hB1.mono HB0.out.size))
  clear hB1
  go_wp2_with fail
  refine (HW.out _).mono ?_
  rintro e w2 ⟨rfl, rfl⟩
  go_wp2_with fail
  go_ret2
  exact ⟨rfl, HB1.out⟩
end Go.Proofs.Ytgpmnelkjfoplaa
