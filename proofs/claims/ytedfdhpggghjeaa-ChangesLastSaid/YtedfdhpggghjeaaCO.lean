/- Package changes: time. -/
import Derived.Test.YtedfdhpggghjeaaCN
namespace Go.Proofs.Ytedfdhpggghjeaa
set_option linter.unusedVariables false
set_option linter.unusedSimpArgs false
open Go.RowKit Go.Shelf

def sp0 (s : Option (Int × Int)) : Int := match s with | none => 0 | some s => s.1
def sp1 (s : Option (Int × Int)) : Int := match s with | none => 0 | some s => s.2
theorem span_next (p : Nat → Bool) (k : Nat) : spanTo p (k + 1) = if p k = true then (match spanTo p k with | none => some ((k : Int), (k : Int)) | some s => some (s.1, (k : Int))) else spanTo p k := rfl

set_option maxRecDepth 100000 in
set_option maxHeartbeats 8000000 in
theorem time_any (h : CHouse) (ta : Option Addr) (tl tc : Nat) (ma : Option Addr) (ml mc : Nat) (ho : h.okT = true) (c : Int) (w : World) (hp : HAt w ta tl tc ma ml mc h) :
    Calls Try.prog 78 #[.agg #[.slice ta tl tc, .slice ma ml mc], .int .i64 c] w fun e w' => e = .returned (.tuple #[.agg #[.int .i64 (sp0 (h.time c)), .int .i64 (sp1 (h.time c))], .bool (h.time c).isSome]) ∧ Below w.heap.size w w' := by
  have h8 := CHouse.okT_few ho
  have HPL := Lib.hid (fun (m : Int) W (hb : Below w.heap.size w W) => (plates_row h ta tl tc ma ml mc h8 m W (hp.below hb)).mono fun e w' hr => hr.ints)
  unfold CHouse.time
  obtain ⟨p, hpe⟩ : ∃ p : Nat → Bool, p = (fun (m : Nat) => h.mixB (h.plates m) c m) := ⟨_, rfl⟩
  have HMX := Lib.hid (fun (k : Nat) (a : Option Addr) (n : Nat) b (hb : p k = b) W (hw : Below w.heap.size w W) (hi : IntsAt W a (h.plates k).length (h.plates k)) => show Calls Try.prog 93 #[.agg #[.slice ta tl tc, .slice ma ml mc], .slice a (h.plates k).length n, .int .i64 c, .int .i64 k] W fun e w' => e = .returned (.bool b) ∧ Below W.heap.size W w' from by
    have h1 := mixes_any h ta tl tc ma ml mc ho a _ n (h.plates k) c k (fun y hy => ⟨((numsTo_mem _ _ y).1 hy).1, ((numsTo_mem _ _ y).1 hy).2.1⟩) W (hp.below hw) hi
    rw [hpe] at hb
    simp only at hb
    rw [hb] at h1
    exact h1)
  have HN := Lib.hid (fun k => span_next p k)
  rw [← hpe]
  clear hpe hp ho h8
  go_enter Try.func78, Try.ntmps78
  go_upto_region 2 with fail
  go_cut [10] (fun v10x wx => v10x = .int .i64 0 ∧ (wx.cell? ⟨w.heap.size, 0, none⟩ = some (.slice ta tl tc) ∧ wx.cell? ⟨w.heap.size, 1, none⟩ = some (.slice ma ml mc)) ∧ (wx.cell? ⟨w.heap.size + 1, 0, none⟩ = some (.int .i64 0) ∧ wx.cell? ⟨w.heap.size + 1, 1, none⟩ = some (.int .i64 0) ∧ wx.frozen? ⟨w.heap.size + 1, 0, none⟩ = false ∧ wx.frozen? ⟨w.heap.size + 1, 1, none⟩ = false) ∧ (wx.cell? ⟨w.heap.size + 2, 0, none⟩ = some (.int .i64 0) ∧ wx.cell? ⟨w.heap.size + 2, 1, none⟩ = some (.int .i64 0) ∧ wx.frozen? ⟨w.heap.size + 2, 0, none⟩ = false ∧ wx.frozen? ⟨w.heap.size + 2, 1, none⟩ = false) ∧ wx.heap.size = w.heap.size + 3 ∧ Below w.heap.size w wx)
  case first =>
    go_wp2_with fail
    go_meet
    exact ⟨rfl, ⟨by go_simp, by go_simp⟩, ⟨by go_simp, by go_simp, by go_simp, by go_simp⟩, ⟨by go_simp, by go_simp, by go_simp, by go_simp⟩, by simp, (by repeat (first | exact Below.refl _ _ | (refine Below.alloc ?_ (by first | omega | (simp; omega) | simp) _) | (refine Below.setCell ?_ (by first | omega | (simp; omega) | simp) _) | refine Below.drew ?_))⟩
  case rest =>
    obtain ⟨rfl, ⟨g0, g1⟩, hr4, ⟨s0, s1, s2, s3⟩, hz0, hb0⟩ := hcut
    obtain ⟨W0, rfl⟩ : ∃ W0 : World, W0 = wc := ⟨_, rfl⟩
    have HBW := Lib.hid hb0
    have HG := Lib.hid (And.intro g0 g1)
    have HR4 := Lib.hid hr4
    have HS0 := Lib.hid (And.intro s0 (And.intro s1 (And.intro s2 s3)))
    clear hb0 g0 g1 hr4 s0 s1 s2 s3
    go_wp2_with fail
    go_loopw [7, 10] (fun f i wr => ∃ k : Nat, k ≤ 100 ∧ i = .int .i64 k ∧ f = .bool (spanTo p k).isSome ∧ (wr.cell? ⟨w.heap.size + 2, 0, none⟩ = some (.int .i64 (sp0 (spanTo p k))) ∧ wr.cell? ⟨w.heap.size + 2, 1, none⟩ = some (.int .i64 (sp1 (spanTo p k))) ∧ wr.frozen? ⟨w.heap.size + 2, 0, none⟩ = false ∧ wr.frozen? ⟨w.heap.size + 2, 1, none⟩ = false) ∧ w.heap.size + 2 < wr.heap.size ∧ Below (w.heap.size + 2) W0 wr) (fun _ i _ => 100 - (intOf i).toNat)
    case atStart => exact ⟨0, by omega, rfl, rfl, HS0.out, by omega, Below.refl _ _⟩
    case round =>
      obtain ⟨k, hk, rfl, rfl, ⟨s0, s1, s2, s3⟩, hz1, hB⟩ := hrel
      obtain ⟨W1, rfl⟩ : ∃ W1 : World, W1 = wr := ⟨_, rfl⟩
      have HB := Lib.hid hB
      have hd : w.heap.size < w.heap.size + 2 := by omega
      have x0 := (hB.cell (p := ⟨w.heap.size, 0, none⟩) hd).trans HG.out.1
      have x1 := (hB.cell (p := ⟨w.heap.size, 1, none⟩) hd).trans HG.out.2
      have hd1 : w.heap.size + 1 < w.heap.size + 2 := by omega
      have r0 := (hB.cell (p := ⟨w.heap.size + 1, 0, none⟩) hd1).trans HR4.out.1
      have r1 := (hB.cell (p := ⟨w.heap.size + 1, 1, none⟩) hd1).trans HR4.out.2.1
      have r2 := (hB.frozen (p := ⟨w.heap.size + 1, 0, none⟩) hd1).trans HR4.out.2.2.1
      have r3 := (hB.frozen (p := ⟨w.heap.size + 1, 1, none⟩) hd1).trans HR4.out.2.2.2
      have hbw := HBW.out.trans (hB.mono (by omega))
      have HW1 := Lib.hid hbw
      have hzw : w.heap.size < W1.heap.size := by omega
      have hn := HN.out k
      clear hB hbw
      by_cases hlt : k < 100
      · have hkl : (k : Int) < 100 := by omega
        clear r0 r1 r2 r3
        obtain ⟨b, hb⟩ : ∃ b, p k = b := ⟨_, rfl⟩
        have HMK := Lib.hid (fun a n => HMX.out k a n b hb)
        go_upto_region 5 with fail
        go_cut [20] (fun v20x wx => v20x = .bool (!b) ∧ Below W1.heap.size W1 wx)
        case first =>
          clear hn s0 s1 s2 s3 hb
          refine wp_region_noPanic ?_
          refine wp_region_held_drew (S := (fun w' => Below W1.heap.size W1 w' ∧ ∀ b o, b < W1.heap.size → w'.cell? ⟨b, o, none⟩ = W1.cell? ⟨b, o, none⟩)) (by kernel_rfl) ?_ (fun hHeld => ?_)
          · (first | with_reducible assumption | ((repeat (first | with_reducible refine bothS_drew ?_ | with_reducible refine bothS_alloc _ ?_ | with_reducible refine bothS_set _ _ (by first | omega | (simp; omega) | simp) ?_)); first | with_reducible assumption | with_reducible exact Hid.out (by assumption) | with_reducible exact ⟨Below.refl _ _, fun _ _ _ => rfl⟩))
          refine takeH 0 ?_; (try simp only [Act.put, List.setIfInBounds_toArray, List.set_cons_zero, List.set_cons_succ])
          refine takeH 1 ?_; (try simp only [Act.put, List.setIfInBounds_toArray, List.set_cons_zero, List.set_cons_succ])
          refine takeH 2 ?_; (try simp only [Act.put, List.setIfInBounds_toArray, List.set_cons_zero, List.set_cons_succ])
          refine takeH 4 ?_; (try simp only [Act.put, List.setIfInBounds_toArray, List.set_cons_zero, List.set_cons_succ])
          refine takeH 5 ?_; (try simp only [Act.put, List.setIfInBounds_toArray, List.set_cons_zero, List.set_cons_succ])
          refine readyH 3 (fun K hK => ?_); go_simp; (go_at_call 90; refine (HPL.out k _ (HW1.out.trans (hHeld.1.mono HW1.out.size))).mono ?_; rintro e wA ⟨⟨pa, pn, rfl, hi⟩, hbA⟩; have kA := bothS_below hHeld hbA; have HI := Lib.hid (fun W (h : Below wA.heap.size wA W) => hi.below h); clear hi hbA); refine hK.out _ _ ?_ (fun hHeld => ?_); (· exact kA); clear hK K; (try simp only [Act.put, List.setIfInBounds_toArray, List.set_cons_zero, List.set_cons_succ])
          refine readyH 6 (fun K hK => ?_); go_simp; (go_at_call 93; refine (HMK.out pa pn _ (HW1.out.trans (hHeld.1.mono HW1.out.size)) (HI.out _ (by first | with_reducible exact Below.refl _ _ | exact Below.drew (Below.refl _ _)))).mono ?_; rintro e wB ⟨rfl, hbB⟩; have kB := bothS_below hHeld hbB; clear hbB); refine hK.out _ _ ?_ (fun hHeld => ?_); (· exact kB); clear hK K; (try simp only [Act.put, List.setIfInBounds_toArray, List.set_cons_zero, List.set_cons_succ])
          refine takeH 7 ?_; (try simp only [Act.put, List.setIfInBounds_toArray, List.set_cons_zero, List.set_cons_succ])
          refine wpAnyH_done (by kernel_rfl) ?_ _
          refine NoPanic.normal ?_
          go_wp2_with fail; go_meet; exact ⟨rfl, And.left (by assumption)⟩
        case rest =>
          obtain ⟨rfl, hb2⟩ := hcut
          obtain ⟨W2, rfl⟩ : ∃ W2 : World, W2 = wc := ⟨_, rfl⟩
          have t0 := (hb2.cell (p := ⟨w.heap.size + 2, 0, none⟩) hz1).trans s0
          have t1 := (hb2.cell (p := ⟨w.heap.size + 2, 1, none⟩) hz1).trans s1
          have t2 := (hb2.frozen (p := ⟨w.heap.size + 2, 0, none⟩) hz1).trans s2
          have t3 := (hb2.frozen (p := ⟨w.heap.size + 2, 1, none⟩) hz1).trans s3
          have hz2 := Nat.lt_of_lt_of_le hz1 hb2.size
          have HB2 := Lib.hid (HB.out.trans (hb2.mono (by omega)))
          rw [hb] at hn
          clear HMK HMX HPL x0 x1 s0 s1 s2 s3 hb2 hb
          cases b with
          | false =>
            rw [if_neg (by simp)] at hn
            have HNK := Lib.hid hn
            clear hn
            go_wp2_with fail
            go_roundw
            case rel => exact ⟨k + 1, by omega, by go_num, by rw [HNK.out], by rw [HNK.out]; exact ⟨t0, t1, t2, t3⟩, hz2, HB2.out⟩
            case measure => simp [intOf]; omega
          | true =>
            rw [if_pos rfl] at hn
            cases hs : spanTo p k with
            | none =>
              rw [hs] at hn t0 t1
              have HNK := Lib.hid hn
              simp only [sp0, sp1] at t0 t1
              clear hn
              have hnf : (!(none : Option (Int × Int)).isSome) = true := rfl
              go_wp2_with fail
              go_roundw
              case rel => exact ⟨k + 1, by omega, by go_num, by rw [HNK.out]; rfl, by rw [HNK.out]; exact ⟨by go_simp; rfl, by go_simp; rfl, by go_simp, by go_simp⟩, by simp; omega, HB2.out.trans (by repeat (first | exact Below.refl _ _ | (refine Below.alloc ?_ (by first | omega | (simp; omega) | simp) _) | (refine Below.setCell ?_ (by first | omega | (simp; omega) | simp) _) | refine Below.drew ?_))⟩
              case measure => simp [intOf]; omega
            | some s =>
              rw [hs] at hn t0 t1
              have HNK := Lib.hid hn
              simp only [sp0, sp1] at t0 t1
              clear hn
              go_wp2_with fail
              go_roundw
              case rel => exact ⟨k + 1, by omega, by go_num, by rw [HNK.out]; rfl, by rw [HNK.out]; exact ⟨by go_simp; rfl, by go_simp; rfl, by go_simp, by go_simp⟩, by simp; omega, HB2.out.trans (by repeat (first | exact Below.refl _ _ | (refine Below.alloc ?_ (by first | omega | (simp; omega) | simp) _) | (refine Below.setCell ?_ (by first | omega | (simp; omega) | simp) _) | refine Below.drew ?_))⟩
              case measure => simp [intOf]; omega
      · obtain rfl : k = 100 := by omega
        clear hn
        obtain ⟨s, hs⟩ : ∃ s, spanTo p 100 = s := ⟨_, rfl⟩
        rw [hs] at s0 s1 ⊢
        have HS9 := Lib.hid hs
        clear hs
        have hbw := HW1.out
        go_wp2_with fail
        refine bodyPost_ret (v := .tuple #[.agg #[.int .i64 (sp0 s), .int .i64 (sp1 s)], .bool s.isSome]) (by simp [results, Try.results78, go_sem, *]) rfl ⟨by rw [HS9.out], by have hBB := hbw; exact (by repeat (first | assumption | exact Below.refl _ _ | (refine Below.alloc ?_ (by first | omega | (simp; omega) | simp) _) | (refine Below.setCell ?_ (by first | omega | (simp; omega) | simp) _) | refine Below.drew ?_))⟩
end Go.Proofs.Ytedfdhpggghjeaa
