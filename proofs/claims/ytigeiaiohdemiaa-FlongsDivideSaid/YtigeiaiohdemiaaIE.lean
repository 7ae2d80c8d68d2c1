/- Flongs: the reference's justs, one mould; JustsOf. -/
import Derived.Test.YtigeiaiohdemiaaID
namespace Go.Proofs.Ytigeiaiohdemiaa
set_option linter.unusedVariables false
set_option linter.unusedSimpArgs false
open Go.RowKit

theorem grow_gbr {w w' : World} (h : Below w.heap.size w w') (R : Option Nat) : w.grownBy w' R := grow_gb h R

set_option maxRecDepth 100000 in
set_option maxHeartbeats 8000000 in
theorem justs_stept (s : FShop) (ma : Option Addr) (ml mc : Nat) (wa : Option Addr) (wl wc : Nat) (na : Option Addr) (nl nc : Nat) (xa : Option Addr) (k xc : Nat) (x : List Int) (m : Mould) (p q : Nat) (mx : Int) (ho : s.ok = true) (hxl : x.length = k) (hkm : k < s.moulds.length) (hm : s.moulds[k] = m) (hb : m.b = 1) (hmp : m.p = (p : Int)) (hpn : p < s.wants.length)
    (hxb : ∀ i (h : i < x.length), 0 ≤ x[i] ∧ x[i] ≤ 12) (hmx : (0 : Int) = mx) (hmx0 : 0 ≤ mx) (hmx12 : mx ≤ 12) (hq : (q : Int) = mx + 1) (hj : s.justs2 x = s.justs2To x q)
    (w : World) (hp : FAt w ma ml mc wa wl wc na nl nc s) (hx : FRow w 0 3 1 xa k xc (x.map (Value.int .i64)))
    (IH : ∀ n : Nat, n < q → ∀ W (_ : Below w.heap.size w W) ga c (_ : FRow W 0 3 1 (some ga) (k + 1) c ((x ++ [(n : Int)]).map (Value.int .i64))), Calls Try.prog 108 #[.agg #[.slice ma ml mc, .slice wa wl wc, .slice na nl nc, .int .i64 s.fresh], .slice (some ga) (k + 1) c] W fun e w' => JustsPost s (x ++ [(n : Int)]) W e w') :
    Calls Try.prog 108 #[.agg #[.slice ma ml mc, .slice wa wl wc, .slice na nl nc, .int .i64 s.fresh], .slice xa k xc] w fun e w' => JustsPost s x w e w' := by
  have hml := hp.1.1
  have hnl := hp.2.2.1
  have hm5 := (FShop.ok_few ho).2.1
  have hn3 := (FShop.ok_few ho).1
  have hxi : IntsAt w xa k x := hx.ints (by unfold maxLen; omega)
  obtain ⟨-, hmm, hmc⟩ := hp.1
  unfold maxLen at hmm
  obtain ⟨mb, mo, rfl, hmB, hmcell⟩ := hmc (by omega)
  obtain ⟨c0, c1, c2⟩ := hmcell k hkm
  rw [hm] at c0 c1 c2
  rw [hmp] at c0
  obtain ⟨rp, hrp⟩ : ∃ rp, s.rest x p = rp := ⟨_, rfl⟩
  have hrb := rest_bd ho hxb p hpn
  rw [hrp] at hrb
  try rw [hrp] at hmx
  have HWA := Lib.hid (fun W (hb : Below w.heap.size w W) => show Calls Try.prog 111 #[.agg #[.slice (some ⟨mb, mo, none⟩) ml mc, .slice wa wl wc, .slice na nl nc, .int .i64 s.fresh], .slice xa k xc, .int .i64 p] W fun e w' => e = .returned (.int .i64 rp) ∧ Below W.heap.size W w' from hrp ▸ wanted_any s (some ⟨mb, mo, none⟩) ml mc wa wl wc na nl nc xa k xc x p ho hpn (by omega) hxb W (hp.below hb) (hxi.below hb))
  have HX := Lib.hid (fun W (hb : Below w.heap.size w W) => hx.kept (grow_gb hb none) (fun r e => by cases e))
  have HIH := Lib.hid (fun (n : Nat) (hn : n < q) W (hb : Below w.heap.size w W) ga c (hF : FRow W 0 3 1 (some ga) (k + 1) c ((x ++ [(n : Int)]).map (Value.int .i64))) => show Calls Try.prog 108 #[.agg #[.slice (some ⟨mb, mo, none⟩) ml mc, .slice wa wl wc, .slice na nl nc, .int .i64 s.fresh], .slice (some ga) (k + 1) c] W fun e w' => Below W.heap.size W w' ∧ ∃ (v : Value) (vs : List Value), e = .returned v ∧ w'.ownsRow W.heap.size 24 1 v vs.length vs ∧ JRow w' vs (s.justs2 (x ++ [(n : Int)])) from IH n hn W hb ga c hF)
  have HJ := Lib.hid hj
  have HBD := Lib.hid (fun j (hj : j ≤ 13) => justs2To_bd s hm5 x (by omega) j hj)
  have HBD1 := Lib.hid (fun n => justs2_bd s hm5 (x ++ [n]))
  have HXL := Lib.hid hxl
  have hk5 : k < 5 := by omega
  have hkl : (k : Int) < (ml : Int) := by omega
  have hk0 : (0 : Int) ≤ (k : Int) := by omega
  have hkne : ¬ (k : Int) = (ml : Int) := by omega
  have hkne2 : ((k : Int) == (ml : Int)) = false := by simpa using hkne
  have hq13 : q ≤ 13 := by omega
  have hk1000 : k ≤ 1000 := by omega
  clear hp hx hxi hxb ho hxl hnl hml IH hj hm5 hn3 hmm hmc hmcell hkm hm hmp hpn hrp hmx0
  generalize m.u = mu at *
  generalize m.b = mbr at *
  subst hb
  subst hmx
  go_enter Try.func108, Try.ntmps108
  go_wp2_with fail
  obtain ⟨W0, hW0, hB0, hs0, hg0, hz0⟩ := name2c w #[.slice (some ⟨mb, mo, none⟩) ml mc, .slice wa wl wc, .slice na nl nc, .int .i64 s.fresh] 26 #[.int .i64 p, .int .i64 mu, .int .i64 1] 48
  rw [hW0]
  clear hW0 c0 c1 c2
  have z0 : w.heap.size < W0.heap.size := by omega
  have z1 : w.heap.size + 1 < W0.heap.size := by omega
  refine (HWA.out _ hB0).mono ?_
  rintro e w1 ⟨rfl, hb1⟩
  have hy2 := (hb1.cell (p := ⟨w.heap.size + 1, 2, none⟩) z1).trans (hg0 2)
  have HS1 := Lib.hid (fun i => (hb1.cell (p := ⟨w.heap.size, i, none⟩) z0).trans (hs0 i))
  have z2 : w.heap.size < w1.heap.size := Nat.lt_of_lt_of_le z0 hb1.size
  have HW1 := Lib.hid (hB0.trans (hb1.mono hB0.size))
  clear hB0 hs0 hg0 hb1
  go_wp2_with fail
  all_goals
    skip
    go_loopw [8, 9] (fun v8 v9 wr => ∃ (j : Nat) (vs : List Value), j ≤ q ∧ v9 = .int .i64 j ∧ wr.ownsRow w1.heap.size 24 1 v8 vs.length vs ∧ JRow wr vs (s.justs2To x j) ∧ Below w1.heap.size w1 wr) (fun _ i _ => q - (intOf i).toNat)
    case atStart => exact ⟨0, [], by omega, rfl, ⟨rfl, .inl ⟨rfl, rfl⟩⟩, JRow.nil _, Below.refl _ _⟩
    case round =>
      obtain ⟨j, vs, hj, rfl, hO, hJR, hB⟩ := hrel
      have hbw := HW1.out.trans (hB.mono HW1.out.size)
      obtain ⟨x0, x1, x2, x3⟩ : wr.cell? ⟨w.heap.size, 0, none⟩ = some (.slice (some ⟨mb, mo, none⟩) ml mc) ∧ wr.cell? ⟨w.heap.size, 1, none⟩ = some (.slice wa wl wc) ∧ wr.cell? ⟨w.heap.size, 2, none⟩ = some (.slice na nl nc) ∧ wr.cell? ⟨w.heap.size, 3, none⟩ = some (.int .i64 s.fresh) := ⟨(hB.cell (p := ⟨w.heap.size, 0, none⟩) z2).trans (HS1.out 0), (hB.cell (p := ⟨w.heap.size, 1, none⟩) z2).trans (HS1.out 1), (hB.cell (p := ⟨w.heap.size, 2, none⟩) z2).trans (HS1.out 2), (hB.cell (p := ⟨w.heap.size, 3, none⟩) z2).trans (HS1.out 3)⟩
      have HB := Lib.hid hB
      have HBW := Lib.hid hbw
      have hwW : w.heap.size < wr.heap.size := Nat.lt_of_lt_of_le z2 hB.size
      have h1W : w1.heap.size ≤ wr.heap.size := hB.size
      have HO := Lib.hid hO
      have HJR := Lib.hid hJR
      by_cases hlt : j < q
      · have hjb := HBD.out j (by omega)
        have hvl : vs.length ≤ 371293 := by rw [hJR.1]; exact hjb
        obtain ⟨R, hR⟩ : ∃ R, u8.ownBlock = R := ⟨_, rfl⟩
        have hRb := own_row hO
        rw [hR] at hRb
        have r2 : ¬ some w.heap.size = R := fun e => by have := (hRb _ e.symm).1; omega
        have HRB := Lib.hid hRb
        have HXS := Lib.hid (fun W (h : wr.grownBy W R) (h0 : 0 < k) => show ∃ pb po, xa = some ⟨pb, po, none⟩ ∧ ∀ i u, (x.map (Value.int .i64))[i]? = some u → W.cell? ⟨pb, po + i, none⟩ = some u from by
          have hk := (HX.out wr HBW.out).kept h (fun r e => .inl (by obtain ⟨-, -, c, hc⟩ := HRB.out r e; exact ⟨c, _, hc, by decide⟩))
          obtain ⟨g, e1, -, -, hc, -⟩ := hk.cell h0
          exact ⟨g, 0, e1, fun i u hi => by rw [Nat.zero_add]; exact hc i u hi⟩)
        have HLL := Lib.hid (fun (vs2 : List Value) (h : vs2.length = (s.justs2 (x ++ [(j : Int)])).length) => show vs.length + vs2.length ≤ 1000000 from by have := HBD1.out j; omega)
        have HRR := Lib.hid hR
        clear hB hbw hO hJR hRb hjb hvl hR
        go_upto_region 16 with fail
        go_region_held3 (fun w' => wr.grownBy w' R ∧ ∀ b o, b < wr.heap.size → ¬ some b = R → w'.cell? ⟨b, o, none⟩ = wr.cell? ⟨b, o, none⟩) (first | with_reducible assumption | ((repeat (first | with_reducible refine gR_drew ?_ | with_reducible refine gR_alloc _ ?_)); first | with_reducible assumption | with_reducible exact gR_of (gbx_refl _ _))) (first
          | ((with_reducible refine step_append_copy _ wr.heap.size k xc xa x HXL.out hk1000 rfl _ _ rfl ?_ ?_ ?_ ?_ ?_); (· exact ⟨_, rfl⟩); (· rfl); (· intro h0; exact HXS.out _ (And.left (by assumption)) h0); (· (focus (first | (simp; done) | (simp; omega) | omega))); intro ga cA wA hfA hbA; have kA := gR_low (by assumption) (hbA.mono (by first | exact Nat.le_refl _ | (simp; done) | (simp; omega))); have kAb : Below wr.heap.size wr wA := below_via (Lib.hid hbA) (by first | exact Nat.le_refl _ | (simp; done) | (simp; omega)) (by repeat (first | exact Below.refl _ _ | (refine Below.alloc ?_ (by first | omega | (simp; omega) | simp) _) | (refine Below.setCell ?_ (by first | omega | (simp; omega) | simp) _) | refine Below.drew ?_)); have HKA := Lib.hid kAb; have HFA := Lib.hid hfA; obtain ⟨hcA, hfrA⟩ := bcell hbA; have hzA := hbA.size; (try simp at hzA); clear hfA hbA kAb hfrA)
          | ((with_reducible refine step_append_n _ wr.heap.size k cA ga x (j : Int) hk1000 rfl _ _ rfl ?_ ?_ ?_ ?_ ?_); (· rfl); (· refine ⟨_, rfl, ?_⟩; first | (go_simp; done) | (rw [hcA _ _ (by first | (simp; done) | (simp; omega) | omega)]; go_simp; done)); (· first | exact HFA.out | exact HFA.out.alloc _ | exact (HFA.out.alloc _).drew | exact HFA.out.drew); (· (focus (first | (simp; done) | (simp; omega) | omega))); intro gb cB wB hfB hbB; have kB := gR_low (by assumption) hbB; have kBb : Below wr.heap.size wr wB := Below.trans (by repeat (first | with_reducible exact HKA.out | exact Below.refl _ _ | (refine Below.alloc ?_ (by first | omega | (simp; omega) | simp) _) | refine Below.drew ?_)) hbB; have HKB := Lib.hid kBb; have HFB := Lib.hid hfB; have hzB := hbB.size; (try simp at hzB); clear hfB hbB kBb)
          | (go_at_call 108; with_reducible refine (HIH.out j hlt _ ?_ gb cB ?_).mono ?_; (· exact HBW.out.trans (HKB.out.mono HBW.out.size)); (· exact HFB.out.row); rintro e wC ⟨hbC, v2, vs2, rfl, hoC, hjC⟩; obtain ⟨va2, vc2, rfl⟩ := own_slice1 hoC; have kC := gR_low (by assumption) (hbC.mono (by first | exact Nat.le_refl _ | omega | (simp; omega))); have kCb : Below wr.heap.size wr wC := HKB.out.trans (hbC.mono (by first | exact Nat.le_refl _ | omega | (simp; omega))); have HKC := Lib.hid kCb; have HOC := Lib.hid hoC; have HJC := Lib.hid hjC; clear hbC hoC hjC kCb)
          | ((with_reducible refine step_append_src _ 23 24 (.slice none 0 0) 1 24 Try.underlying23 Try.info24 rfl (by decide) (by decide) w1.heap.size vs.length vs2.length vc2 u8 vs vs2 va2 (by simp) HJC.out.cells (HLL.out vs2 HJC.out.len) rfl _ _ rfl ?_ ?_ ?_ ?_ ?_ ?_); (· rfl); (· rfl); (· exact HO.out.kept (grown_none HKC.out) (Classical.em _)); (· exact own_src HOC.out); (· exact Nat.le_trans h1W HKC.out.size); intro v' wD hown hgr hat; rw [HRR.out] at hgr; have kD := gR_grown (by assumption) hgr; have HOD := Lib.hid hown; have HGD := Lib.hid hgr; clear hown hgr hat)
          | fail "no arm")
        all_goals
          go_wp2_with fail
          go_roundw
          case rel =>
            have hne : ∀ r, R = some r → (∃ (c : Array Value) (e' : TypeId), wC.heap[r]? = some (.cells c e' (0, 0)) ∧ e' ≠ 3) ∨ r < 0 ∨ wC.heap.size ≤ r := fun r e => .inl (by obtain ⟨-, hr, c, hc⟩ := HRB.out r e; exact ⟨c, _, (HKC.out.block r hr).trans hc, by decide⟩)
            refine ⟨j + 1, vs ++ vs2, by omega, by go_num, by rw [List.length_append]; exact HOD.out, ?_, HB.out.trans ((HKC.out.mono h1W).trans (grown_low HGD.out (Nat.le_trans h1W HKC.out.size) (fun r e => (HRB.out r e).1)))⟩
            rw [justs2To_next]
            exact ((HJR.out.below HKC.out).kept HGD.out hne).append (HJC.out.kept HGD.out hne)
          case measure => simp [intOf]; omega
      · obtain rfl : q = j := by omega
        clear hO hJR hB hbw
        go_wp2_with fail
        go_ret
        unfold JustsPost
        exact ⟨HBW.out, u8, vs, rfl, Go.Joins.ownsRow_le HO.out HW1.out.size, by rw [HJ.out]; exact HJR.out⟩
set_option maxRecDepth 100000 in
set_option maxHeartbeats 8000000 in
theorem justs_stepf (s : FShop) (ma : Option Addr) (ml mc : Nat) (wa : Option Addr) (wl wc : Nat) (na : Option Addr) (nl nc : Nat) (xa : Option Addr) (k xc : Nat) (x : List Int) (m : Mould) (p q : Nat) (mx : Int) (ho : s.ok = true) (hxl : x.length = k) (hkm : k < s.moulds.length) (hm : s.moulds[k] = m) (hb : ¬ m.b = 1) (hmp : m.p = (p : Int)) (hpn : p < s.wants.length)
    (hxb : ∀ i (h : i < x.length), 0 ≤ x[i] ∧ x[i] ≤ 12) (hmx : min 12 (s.rest x p) = mx) (hmx0 : 0 ≤ mx) (hmx12 : mx ≤ 12) (hq : (q : Int) = mx + 1) (hj : s.justs2 x = s.justs2To x q)
    (w : World) (hp : FAt w ma ml mc wa wl wc na nl nc s) (hx : FRow w 0 3 1 xa k xc (x.map (Value.int .i64)))
    (IH : ∀ n : Nat, n < q → ∀ W (_ : Below w.heap.size w W) ga c (_ : FRow W 0 3 1 (some ga) (k + 1) c ((x ++ [(n : Int)]).map (Value.int .i64))), Calls Try.prog 108 #[.agg #[.slice ma ml mc, .slice wa wl wc, .slice na nl nc, .int .i64 s.fresh], .slice (some ga) (k + 1) c] W fun e w' => JustsPost s (x ++ [(n : Int)]) W e w') :
    Calls Try.prog 108 #[.agg #[.slice ma ml mc, .slice wa wl wc, .slice na nl nc, .int .i64 s.fresh], .slice xa k xc] w fun e w' => JustsPost s x w e w' := by
  have hml := hp.1.1
  have hnl := hp.2.2.1
  have hm5 := (FShop.ok_few ho).2.1
  have hn3 := (FShop.ok_few ho).1
  have hxi : IntsAt w xa k x := hx.ints (by unfold maxLen; omega)
  obtain ⟨-, hmm, hmc⟩ := hp.1
  unfold maxLen at hmm
  obtain ⟨mb, mo, rfl, hmB, hmcell⟩ := hmc (by omega)
  obtain ⟨c0, c1, c2⟩ := hmcell k hkm
  rw [hm] at c0 c1 c2
  rw [hmp] at c0
  obtain ⟨rp, hrp⟩ : ∃ rp, s.rest x p = rp := ⟨_, rfl⟩
  have hrb := rest_bd ho hxb p hpn
  rw [hrp] at hrb
  try rw [hrp] at hmx
  have HWA := Lib.hid (fun W (hb : Below w.heap.size w W) => show Calls Try.prog 111 #[.agg #[.slice (some ⟨mb, mo, none⟩) ml mc, .slice wa wl wc, .slice na nl nc, .int .i64 s.fresh], .slice xa k xc, .int .i64 p] W fun e w' => e = .returned (.int .i64 rp) ∧ Below W.heap.size W w' from hrp ▸ wanted_any s (some ⟨mb, mo, none⟩) ml mc wa wl wc na nl nc xa k xc x p ho hpn (by omega) hxb W (hp.below hb) (hxi.below hb))
  have HX := Lib.hid (fun W (hb : Below w.heap.size w W) => hx.kept (grow_gb hb none) (fun r e => by cases e))
  have HIH := Lib.hid (fun (n : Nat) (hn : n < q) W (hb : Below w.heap.size w W) ga c (hF : FRow W 0 3 1 (some ga) (k + 1) c ((x ++ [(n : Int)]).map (Value.int .i64))) => show Calls Try.prog 108 #[.agg #[.slice (some ⟨mb, mo, none⟩) ml mc, .slice wa wl wc, .slice na nl nc, .int .i64 s.fresh], .slice (some ga) (k + 1) c] W fun e w' => Below W.heap.size W w' ∧ ∃ (v : Value) (vs : List Value), e = .returned v ∧ w'.ownsRow W.heap.size 24 1 v vs.length vs ∧ JRow w' vs (s.justs2 (x ++ [(n : Int)])) from IH n hn W hb ga c hF)
  have HJ := Lib.hid hj
  have HBD := Lib.hid (fun j (hj : j ≤ 13) => justs2To_bd s hm5 x (by omega) j hj)
  have HBD1 := Lib.hid (fun n => justs2_bd s hm5 (x ++ [n]))
  have HXL := Lib.hid hxl
  have hk5 : k < 5 := by omega
  have hkl : (k : Int) < (ml : Int) := by omega
  have hk0 : (0 : Int) ≤ (k : Int) := by omega
  have hkne : ¬ (k : Int) = (ml : Int) := by omega
  have hkne2 : ((k : Int) == (ml : Int)) = false := by simpa using hkne
  have hq13 : q ≤ 13 := by omega
  have hk1000 : k ≤ 1000 := by omega
  clear hp hx hxi hxb ho hxl hnl hml IH hj hm5 hn3 hmm hmc hmcell hkm hm hmp hpn hrp hmx0
  generalize m.u = mu at *
  generalize m.b = mbr at *
  have hb2 : (mbr == 1) = false := by simpa using hb
  go_enter Try.func108, Try.ntmps108
  go_wp2_with fail
  obtain ⟨W0, hW0, hB0, hs0, hg0, hz0⟩ := name2c w #[.slice (some ⟨mb, mo, none⟩) ml mc, .slice wa wl wc, .slice na nl nc, .int .i64 s.fresh] 26 #[.int .i64 p, .int .i64 mu, .int .i64 mbr] 48
  rw [hW0]
  clear hW0 c0 c1 c2
  have z0 : w.heap.size < W0.heap.size := by omega
  have z1 : w.heap.size + 1 < W0.heap.size := by omega
  refine (HWA.out _ hB0).mono ?_
  rintro e w1 ⟨rfl, hb1⟩
  have hy2 := (hb1.cell (p := ⟨w.heap.size + 1, 2, none⟩) z1).trans (hg0 2)
  have HS1 := Lib.hid (fun i => (hb1.cell (p := ⟨w.heap.size, i, none⟩) z0).trans (hs0 i))
  have z2 : w.heap.size < w1.heap.size := Nat.lt_of_lt_of_le z0 hb1.size
  have HW1 := Lib.hid (hB0.trans (hb1.mono hB0.size))
  clear hB0 hs0 hg0 hb1
  go_wp2_with fail
  all_goals
    obtain rfl : mx = rp := by omega
    go_loopw [8, 9] (fun v8 v9 wr => ∃ (j : Nat) (vs : List Value), j ≤ q ∧ v9 = .int .i64 j ∧ wr.ownsRow w1.heap.size 24 1 v8 vs.length vs ∧ JRow wr vs (s.justs2To x j) ∧ Below w1.heap.size w1 wr) (fun _ i _ => q - (intOf i).toNat)
    case atStart => exact ⟨0, [], by omega, rfl, ⟨rfl, .inl ⟨rfl, rfl⟩⟩, JRow.nil _, Below.refl _ _⟩
    case round =>
      obtain ⟨j, vs, hj, rfl, hO, hJR, hB⟩ := hrel
      have hbw := HW1.out.trans (hB.mono HW1.out.size)
      obtain ⟨x0, x1, x2, x3⟩ : wr.cell? ⟨w.heap.size, 0, none⟩ = some (.slice (some ⟨mb, mo, none⟩) ml mc) ∧ wr.cell? ⟨w.heap.size, 1, none⟩ = some (.slice wa wl wc) ∧ wr.cell? ⟨w.heap.size, 2, none⟩ = some (.slice na nl nc) ∧ wr.cell? ⟨w.heap.size, 3, none⟩ = some (.int .i64 s.fresh) := ⟨(hB.cell (p := ⟨w.heap.size, 0, none⟩) z2).trans (HS1.out 0), (hB.cell (p := ⟨w.heap.size, 1, none⟩) z2).trans (HS1.out 1), (hB.cell (p := ⟨w.heap.size, 2, none⟩) z2).trans (HS1.out 2), (hB.cell (p := ⟨w.heap.size, 3, none⟩) z2).trans (HS1.out 3)⟩
      have HB := Lib.hid hB
      have HBW := Lib.hid hbw
      have hwW : w.heap.size < wr.heap.size := Nat.lt_of_lt_of_le z2 hB.size
      have h1W : w1.heap.size ≤ wr.heap.size := hB.size
      have HO := Lib.hid hO
      have HJR := Lib.hid hJR
      by_cases hlt : j < q
      · have hjb := HBD.out j (by omega)
        have hvl : vs.length ≤ 371293 := by rw [hJR.1]; exact hjb
        obtain ⟨R, hR⟩ : ∃ R, u8.ownBlock = R := ⟨_, rfl⟩
        have hRb := own_row hO
        rw [hR] at hRb
        have r2 : ¬ some w.heap.size = R := fun e => by have := (hRb _ e.symm).1; omega
        have HRB := Lib.hid hRb
        have HXS := Lib.hid (fun W (h : wr.grownBy W R) (h0 : 0 < k) => show ∃ pb po, xa = some ⟨pb, po, none⟩ ∧ ∀ i u, (x.map (Value.int .i64))[i]? = some u → W.cell? ⟨pb, po + i, none⟩ = some u from by
          have hk := (HX.out wr HBW.out).kept h (fun r e => .inl (by obtain ⟨-, -, c, hc⟩ := HRB.out r e; exact ⟨c, _, hc, by decide⟩))
          obtain ⟨g, e1, -, -, hc, -⟩ := hk.cell h0
          exact ⟨g, 0, e1, fun i u hi => by rw [Nat.zero_add]; exact hc i u hi⟩)
        have HLL := Lib.hid (fun (vs2 : List Value) (h : vs2.length = (s.justs2 (x ++ [(j : Int)])).length) => show vs.length + vs2.length ≤ 1000000 from by have := HBD1.out j; omega)
        have HRR := Lib.hid hR
        clear hB hbw hO hJR hRb hjb hvl hR
        go_upto_region 16 with fail
        go_region_held3 (fun w' => wr.grownBy w' R ∧ ∀ b o, b < wr.heap.size → ¬ some b = R → w'.cell? ⟨b, o, none⟩ = wr.cell? ⟨b, o, none⟩) (first | with_reducible assumption | ((repeat (first | with_reducible refine gR_drew ?_ | with_reducible refine gR_alloc _ ?_)); first | with_reducible assumption | with_reducible exact gR_of (gbx_refl _ _))) (first
          | ((with_reducible refine step_append_copy _ wr.heap.size k xc xa x HXL.out hk1000 rfl _ _ rfl ?_ ?_ ?_ ?_ ?_); (· exact ⟨_, rfl⟩); (· rfl); (· intro h0; exact HXS.out _ (And.left (by assumption)) h0); (· (focus (first | (simp; done) | (simp; omega) | omega))); intro ga cA wA hfA hbA; have kA := gR_low (by assumption) (hbA.mono (by first | exact Nat.le_refl _ | (simp; done) | (simp; omega))); have kAb : Below wr.heap.size wr wA := below_via (Lib.hid hbA) (by first | exact Nat.le_refl _ | (simp; done) | (simp; omega)) (by repeat (first | exact Below.refl _ _ | (refine Below.alloc ?_ (by first | omega | (simp; omega) | simp) _) | (refine Below.setCell ?_ (by first | omega | (simp; omega) | simp) _) | refine Below.drew ?_)); have HKA := Lib.hid kAb; have HFA := Lib.hid hfA; obtain ⟨hcA, hfrA⟩ := bcell hbA; have hzA := hbA.size; (try simp at hzA); clear hfA hbA kAb hfrA)
          | ((with_reducible refine step_append_n _ wr.heap.size k cA ga x (j : Int) hk1000 rfl _ _ rfl ?_ ?_ ?_ ?_ ?_); (· rfl); (· refine ⟨_, rfl, ?_⟩; first | (go_simp; done) | (rw [hcA _ _ (by first | (simp; done) | (simp; omega) | omega)]; go_simp; done)); (· first | exact HFA.out | exact HFA.out.alloc _ | exact (HFA.out.alloc _).drew | exact HFA.out.drew); (· (focus (first | (simp; done) | (simp; omega) | omega))); intro gb cB wB hfB hbB; have kB := gR_low (by assumption) hbB; have kBb : Below wr.heap.size wr wB := Below.trans (by repeat (first | with_reducible exact HKA.out | exact Below.refl _ _ | (refine Below.alloc ?_ (by first | omega | (simp; omega) | simp) _) | refine Below.drew ?_)) hbB; have HKB := Lib.hid kBb; have HFB := Lib.hid hfB; have hzB := hbB.size; (try simp at hzB); clear hfB hbB kBb)
          | (go_at_call 108; with_reducible refine (HIH.out j hlt _ ?_ gb cB ?_).mono ?_; (· exact HBW.out.trans (HKB.out.mono HBW.out.size)); (· exact HFB.out.row); rintro e wC ⟨hbC, v2, vs2, rfl, hoC, hjC⟩; obtain ⟨va2, vc2, rfl⟩ := own_slice1 hoC; have kC := gR_low (by assumption) (hbC.mono (by first | exact Nat.le_refl _ | omega | (simp; omega))); have kCb : Below wr.heap.size wr wC := HKB.out.trans (hbC.mono (by first | exact Nat.le_refl _ | omega | (simp; omega))); have HKC := Lib.hid kCb; have HOC := Lib.hid hoC; have HJC := Lib.hid hjC; clear hbC hoC hjC kCb)
          | ((with_reducible refine step_append_src _ 23 24 (.slice none 0 0) 1 24 Try.underlying23 Try.info24 rfl (by decide) (by decide) w1.heap.size vs.length vs2.length vc2 u8 vs vs2 va2 (by simp) HJC.out.cells (HLL.out vs2 HJC.out.len) rfl _ _ rfl ?_ ?_ ?_ ?_ ?_ ?_); (· rfl); (· rfl); (· exact HO.out.kept (grown_none HKC.out) (Classical.em _)); (· exact own_src HOC.out); (· exact Nat.le_trans h1W HKC.out.size); intro v' wD hown hgr hat; rw [HRR.out] at hgr; have kD := gR_grown (by assumption) hgr; have HOD := Lib.hid hown; have HGD := Lib.hid hgr; clear hown hgr hat)
          | fail "no arm")
        all_goals
          go_wp2_with fail
          go_roundw
          case rel =>
            have hne : ∀ r, R = some r → (∃ (c : Array Value) (e' : TypeId), wC.heap[r]? = some (.cells c e' (0, 0)) ∧ e' ≠ 3) ∨ r < 0 ∨ wC.heap.size ≤ r := fun r e => .inl (by obtain ⟨-, hr, c, hc⟩ := HRB.out r e; exact ⟨c, _, (HKC.out.block r hr).trans hc, by decide⟩)
            refine ⟨j + 1, vs ++ vs2, by omega, by go_num, by rw [List.length_append]; exact HOD.out, ?_, HB.out.trans ((HKC.out.mono h1W).trans (grown_low HGD.out (Nat.le_trans h1W HKC.out.size) (fun r e => (HRB.out r e).1)))⟩
            rw [justs2To_next]
            exact ((HJR.out.below HKC.out).kept HGD.out hne).append (HJC.out.kept HGD.out hne)
          case measure => simp [intOf]; omega
      · obtain rfl : q = j := by omega
        clear hO hJR hB hbw
        go_wp2_with fail
        go_ret
        unfold JustsPost
        exact ⟨HBW.out, u8, vs, rfl, Go.Joins.ownsRow_le HO.out HW1.out.size, by rw [HJ.out]; exact HJR.out⟩

theorem justs_any (s : FShop) (ma : Option Addr) (ml mc : Nat) (wa : Option Addr) (wl wc : Nat) (na : Option Addr) (nl nc : Nat) (ho : s.ok = true) : ∀ (d : Nat) (xa : Option Addr) (k xc : Nat) (x : List Int) (_ : x.length = k) (_ : k + d = s.moulds.length) (_ : ∀ i (h : i < x.length), 0 ≤ x[i] ∧ x[i] ≤ 12) (_ : ∀ p, p < s.wants.length → 0 ≤ s.rest x p) (w : World) (_ : FAt w ma ml mc wa wl wc na nl nc s) (_ : FRow w 0 3 1 xa k xc (x.map (Value.int .i64))),
    Calls Try.prog 108 #[.agg #[.slice ma ml mc, .slice wa wl wc, .slice na nl nc, .int .i64 s.fresh], .slice xa k xc] w fun e w' => JustsPost s x w e w'
  | 0, xa, k, xc, x, hxl, hkd, hxb, hr0, w, hp, hx => by
    have hml := hp.1.1
    obtain rfl : k = ml := by omega
    exact justs_end s ma k mc wa wl wc na nl nc xa xc x ho hxl hxb hr0 w hp hx
  | d + 1, xa, k, xc, x, hxl, hkd, hxb, hr0, w, hp, hx => by
    have hkm : k < s.moulds.length := by omega
    obtain ⟨m, hm⟩ : ∃ m, s.moulds[k] = m := ⟨_, rfl⟩
    have hmo := FShop.ok_mould ho k hkm
    rw [hm] at hmo
    obtain ⟨p, hp2⟩ : ∃ p : Nat, m.p = (p : Int) := ⟨m.p.toNat, by omega⟩
    have hpn : p < s.wants.length := by omega
    have hm2 : (s.moulds[x.length]'(by omega)) = m := by rw [← hm]; simp only [hxl]
    have h0 := hr0 p hpn
    obtain ⟨mx, hmx⟩ : ∃ mx, (if m.b = 1 then (0 : Int) else min 12 (s.rest x p)) = mx := ⟨_, rfl⟩
    have hmx0 : 0 ≤ mx ∧ mx ≤ 12 ∧ mx ≤ s.rest x p := by rw [← hmx]; split <;> omega
    obtain ⟨q, hq⟩ : ∃ q : Nat, (q : Int) = mx + 1 := ⟨(mx + 1).toNat, by omega⟩
    have hj : s.justs2 x = s.justs2To x q := justs2_step s x (by omega) p (by rw [hm2]; exact hp2) hpn q (by
      rw [hm2]
      unfold Mould.most
      rw [← hmx] at hq
      split at hq <;> rename_i hb
      · rw [if_pos hb]; omega
      · rw [if_neg hb]; omega)
    have IH : ∀ n : Nat, n < q → ∀ W (_ : Below w.heap.size w W) ga c (_ : FRow W 0 3 1 (some ga) (k + 1) c ((x ++ [(n : Int)]).map (Value.int .i64))), Calls Try.prog 108 #[.agg #[.slice ma ml mc, .slice wa wl wc, .slice na nl nc, .int .i64 s.fresh], .slice (some ga) (k + 1) c] W fun e w' => JustsPost s (x ++ [(n : Int)]) W e w' := fun n hn W hb ga c hF =>
      justs_any s ma ml mc wa wl wc na nl nc ho d (some ga) (k + 1) c (x ++ [(n : Int)]) (by simp [hxl]) (by omega) (fun i hi => by
        rcases Nat.lt_or_ge i x.length with h1 | h1
        · rw [List.getElem_append_left h1]; exact hxb i h1
        · rw [List.getElem_append_right h1]; simp; omega) (fun p' hp' => by
        rw [rest_app s x n (by omega) p', hm2, hp2]
        have := hr0 p' hp'
        by_cases e : (p : Int) = (p' : Int)
        · rw [if_pos e]
          obtain rfl : p = p' := by omega
          omega
        · rw [if_neg e]; omega) W (hp.below hb) hF
    by_cases hb : m.b = 1
    · exact justs_stept s ma ml mc wa wl wc na nl nc xa k xc x m p q mx ho hxl hkm hm hb hp2 hpn hxb (by rw [← hmx, if_pos hb]) hmx0.1 hmx0.2.1 hq hj w hp hx IH
    · exact justs_stepf s ma ml mc wa wl wc na nl nc xa k xc x m p q mx ho hxl hkm hm hb hp2 hpn hxb (by rw [← hmx, if_neg hb]) hmx0.1 hmx0.2.1 hq hj w hp hx IH

set_option maxHeartbeats 1000000 in
theorem refJustsOf_any (s : FShop) (ma : Option Addr) (ml mc : Nat) (wa : Option Addr) (wl wc : Nat) (na : Option Addr) (nl nc : Nat) (ho : s.ok = true) (w : World) (hp : FAt w ma ml mc wa wl wc na nl nc s) :
    Calls Try.prog 96 #[.agg #[.slice ma ml mc, .slice wa wl wc, .slice na nl nc, .int .i64 s.fresh]] w fun e w' => (∃ a n c, e = .returned (.slice a n c) ∧ ListsAt w' a n s.justs) ∧ Below w.heap.size w w' := by
  have HJ := Lib.hid (fun W (hb : Below w.heap.size w W) => show Calls Try.prog 108 #[.agg #[.slice ma ml mc, .slice wa wl wc, .slice na nl nc, .int .i64 s.fresh], .slice none 0 0] W fun e w' => Below W.heap.size W w' ∧ ∃ (v : Value) (vs : List Value), e = .returned v ∧ w'.ownsRow W.heap.size 24 1 v vs.length vs ∧ JRow w' vs (s.justs2 []) from
    justs_any s ma ml mc wa wl wc na nl nc ho s.moulds.length none 0 0 [] rfl (by omega) (fun i hi => by simp at hi) (fun p hp' => by rw [rest_nil s p hp']; exact (FShop.ok_want ho p hp').1) W (hp.below hb) ⟨rfl, fun h => by omega⟩)
  have hjl := justs2_bd s (FShop.ok_few ho).2.1 []
  have HLN := Lib.hid (fun x (hx : x ∈ s.justs2 []) => show x.length ≤ maxLen from by
    rw [justs2_len s [] x (by simp) hx]
    have := (FShop.ok_few ho).2.1
    unfold maxLen; omega)
  have HJB := Lib.hid hjl
  clear hjl hp ho
  go_enter Try.func96, Try.ntmps96
  go_wp2_with fail
  refine (HJ.out _ (by repeat (first | exact Below.refl _ _ | (refine Below.alloc ?_ (by first | omega | (simp; omega) | simp) _) | (refine Below.setCell ?_ (by first | omega | (simp; omega) | simp) _) | refine Below.drew ?_))).mono ?_
  rintro e w1 ⟨hb1, v, vs, rfl, ho1, hj1⟩
  obtain ⟨va, vc, rfl⟩ := own_slice1 ho1
  have hw1 := ((by repeat (first | exact Below.refl _ _ | (refine Below.alloc ?_ (by first | omega | (simp; omega) | simp) _) | (refine Below.setCell ?_ (by first | omega | (simp; omega) | simp) _) | refine Below.drew ?_)) : Below w.heap.size w _).trans (hb1.mono (by first | (simp; done) | (simp; omega) | omega))
  have HL := Lib.hid (hj1.lists ho1 (by have := HJB.out; rw [hj1.len]; unfold maxLen; omega) HLN.out)
  clear hb1 ho1 hj1
  go_wp2_with fail
  go_ret
  refine ⟨⟨va, vs.length, vc, rfl, ?_⟩, hw1⟩
  have := HL.out
  rwa [justs2_nil] at this
end Go.Proofs.Ytigeiaiohdemiaa
