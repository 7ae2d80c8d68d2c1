/- Whether the metal of a pot is within its limits. -/
import Derived.Test.YtojmimfjnnibdaaE
import Derived.Deep.DeepCutAuto
namespace Go.Proofs.Ytojmimfjnnibdaa
set_option linter.unusedVariables false
set_option linter.unusedSimpArgs false
open Go.RowKit

theorem below_via {B B0 : Nat} {a b c : World} (h : Hid (Below B0 b c)) (hb : B ≤ B0) (k : Below B a b) : Below B a c := k.trans (h.out.mono hb)
theorem cellS_alloc {W0 w1 : World} (o : Obj) (h : (∀ b o, b < W0.heap.size → w1.cell? ⟨b, o, none⟩ = W0.cell? ⟨b, o, none⟩) ∧ W0.heap.size ≤ w1.heap.size) :
    (∀ b o', b < W0.heap.size → (w1.alloc o).cell? ⟨b, o', none⟩ = W0.cell? ⟨b, o', none⟩) ∧ W0.heap.size ≤ (w1.alloc o).heap.size :=
  ⟨fun b o' hb => (World.cell?_of_block (Below.heap_alloc w1 o b (by omega))).trans (h.1 b o' hb), by simp; omega⟩
theorem cellS_drew {W0 w1 : World} (h : (∀ b o, b < W0.heap.size → w1.cell? ⟨b, o, none⟩ = W0.cell? ⟨b, o, none⟩) ∧ W0.heap.size ≤ w1.heap.size) :
    (∀ b o', b < W0.heap.size → w1.drew.cell? ⟨b, o', none⟩ = W0.cell? ⟨b, o', none⟩) ∧ W0.heap.size ≤ w1.drew.heap.size := h
theorem cellS_set {W0 w1 : World} (p : Addr) (v : Value) (hp : W0.heap.size ≤ p.block) (h : (∀ b o, b < W0.heap.size → w1.cell? ⟨b, o, none⟩ = W0.cell? ⟨b, o, none⟩) ∧ W0.heap.size ≤ w1.heap.size) :
    (∀ b o, b < W0.heap.size → (w1.setCell p v).cell? ⟨b, o, none⟩ = W0.cell? ⟨b, o, none⟩) ∧ W0.heap.size ≤ (w1.setCell p v).heap.size :=
  ⟨fun b o hb => (World.cell?_of_block (Below.heap_setCell w1 p v b (by omega))).trans (h.1 b o hb), by simpa [World.setCell] using h.2⟩
/-- A contract in the words of a region: what lay at the call lies behind it. -/
theorem cellS_call {P : Program} {f : FuncId} {args : Array Value} {W0 : World} {v : Value} (h : ∀ w1, Calls P f args w1 fun e w' => e = .returned v ∧ Below w1.heap.size w1 w')
    (w1 : World) (h1 : (∀ b o, b < W0.heap.size → w1.cell? ⟨b, o, none⟩ = W0.cell? ⟨b, o, none⟩) ∧ W0.heap.size ≤ w1.heap.size) :
    Calls P f args w1 fun e w' => e = .returned v ∧ ((∀ b o, b < W0.heap.size → w'.cell? ⟨b, o, none⟩ = W0.cell? ⟨b, o, none⟩) ∧ W0.heap.size ≤ w'.heap.size) ∧
      (∀ b o, b < w1.heap.size → w'.cell? ⟨b, o, none⟩ = w1.cell? ⟨b, o, none⟩) ∧ (∀ b o, b < w1.heap.size → w'.frozen? ⟨b, o, none⟩ = w1.frozen? ⟨b, o, none⟩) ∧ w1.heap.size ≤ w'.heap.size ∧ Hid (Below w1.heap.size w1 w') :=
  (h w1).mono fun e w' ⟨he, hb⟩ => ⟨he, ⟨fun b o hbo => (hb.cell (p := ⟨b, o, none⟩) (Nat.lt_of_lt_of_le hbo h1.2)).trans (h1.1 b o hbo), Nat.le_trans h1.2 hb.size⟩,
    fun b o hbo => hb.cell (p := ⟨b, o, none⟩) hbo, fun b o hbo => hb.frozen (p := ⟨b, o, none⟩) hbo, hb.size, hb⟩
theorem name_box2 (w : World) (cs : Array Value) (T : TypeId) (ds : Array Value) (U : TypeId) : ∃ W0, (w.alloc (.cells cs T)).alloc (.cells ds U) = W0 ∧ Below w.heap.size w W0 ∧ w.heap.size + 1 < W0.heap.size ∧ (∀ i, W0.cell? ⟨w.heap.size, i, none⟩ = cs[i]?) ∧ (∀ i, W0.cell? ⟨w.heap.size + 1, i, none⟩ = ds[i]?) :=
  ⟨_, rfl, (by repeat (first | exact Below.refl _ _ | (refine Below.alloc ?_ (by first | omega | (simp; omega) | simp) _) | (refine Below.setCell ?_ (by first | omega | (simp; omega) | simp) _) | refine Below.drew ?_)), by simp, fun i => by simp, fun i => by simp⟩

def safeI (s : Shop) (P tl th al ah : Int) : Int :=
  if withinB tl th (allowLo P s.xl) (allowHi P s.xh) && withinB al ah (allowLo P s.yl) (allowHi P s.yh) then 1
  else if emptyB (maxI tl (allowLo P s.xl)) (minI th (allowHi P s.xh)) || emptyB (maxI al (allowLo P s.yl)) (minI ah (allowHi P s.yh)) then 2 else 3

set_option maxHeartbeats 2000000 in
theorem safe_any (s : Shop) (a : Option Addr) (len cap : Nat) (P tl th al ah : Int) (w : World) (hP : 0 ≤ P ∧ P ≤ 2000) (hx : (0 ≤ s.xl ∧ s.xl ≤ 1000) ∧ (0 ≤ s.xh ∧ s.xh ≤ 1000)) (hy : (0 ≤ s.yl ∧ s.yl ≤ 1000) ∧ (0 ≤ s.yh ∧ s.yh ≤ 1000)) :
    Calls Try.prog 74 #[.agg #[.int .i64 s.P, .int .i64 s.tl, .int .i64 s.th, .int .i64 s.al, .int .i64 s.ah, .int .i64 s.room, .int .i64 s.xl, .int .i64 s.xh, .int .i64 s.yl, .int .i64 s.yh, .slice a len cap], .agg #[.int .i64 P, .int .i64 tl, .int .i64 th, .int .i64 al, .int .i64 ah]] w fun e w' => e = .returned (.int .i64 (safeI s P tl th al ah)) ∧ Below w.heap.size w w' := by
  have HX := Lib.hid (fun w1 => allowed_any P s.xl s.xh w1 hP hx.1 hx.2)
  have HY := Lib.hid (fun w1 => allowed_any P s.yl s.yh w1 hP hy.1 hy.2)
  have HR := Lib.hid (show safeI s P tl th al ah = (if withinB tl th (allowLo P s.xl) (allowHi P s.xh) && withinB al ah (allowLo P s.yl) (allowHi P s.yh) then 1
    else if emptyB (maxI tl (allowLo P s.xl)) (minI th (allowHi P s.xh)) || emptyB (maxI al (allowLo P s.yl)) (minI ah (allowHi P s.yh)) then 2 else 3) from rfl)
  clear hP hx hy
  generalize allowLo P s.xl = A1 at *
  generalize allowHi P s.xh = A2 at *
  generalize allowLo P s.yl = A3 at *
  generalize allowHi P s.yh = A4 at *
  go_enter Try.func74, Try.ntmps74
  go_upto_region 1 with fail
  obtain ⟨W0, hW0, hB0, hz0, hbx, hbp⟩ := name_box2 w #[.int .i64 s.P, .int .i64 s.tl, .int .i64 s.th, .int .i64 s.al, .int .i64 s.ah, .int .i64 s.room, .int .i64 s.xl, .int .i64 s.xh, .int .i64 s.yl, .int .i64 s.yh, .slice a len cap] 78 #[.int .i64 P, .int .i64 tl, .int .i64 th, .int .i64 al, .int .i64 ah] 25
  rw [hW0]
  clear hW0
  have hz1 : w.heap.size < W0.heap.size := by omega
  go_cut [5, 6] (fun v5 v6 wx => ∃ g h : Nat, v5 = .pointer (some ⟨g, 0, none⟩) ∧ v6 = .pointer (some ⟨h, 0, none⟩) ∧ wx.cell? ⟨g, 0, none⟩ = some (.int .i64 A1) ∧ wx.cell? ⟨g, 1, none⟩ = some (.int .i64 A2) ∧ wx.cell? ⟨h, 0, none⟩ = some (.int .i64 A3) ∧ wx.cell? ⟨h, 1, none⟩ = some (.int .i64 A4) ∧ g < wx.heap.size ∧ h < wx.heap.size ∧ Below W0.heap.size W0 wx)
  case first =>
    go_region_held3 (fun w' => (∀ b o, b < W0.heap.size → w'.cell? ⟨b, o, none⟩ = W0.cell? ⟨b, o, none⟩) ∧ W0.heap.size ≤ w'.heap.size) (first | with_reducible assumption | ((repeat (first | with_reducible refine cellS_drew ?_ | with_reducible refine cellS_alloc _ ?_ | with_reducible refine cellS_set _ _ (by first | omega | (simp; omega) | simp) ?_)); first | with_reducible assumption | with_reducible exact ⟨fun _ _ _ => rfl, Nat.le_refl _⟩))
      (first | (go_at_call 101; with_reducible refine (HX.out _).mono ?_; rintro e w' ⟨rfl, rfl⟩) | (go_at_call 101; with_reducible refine (HY.out _).mono ?_; rintro e w' ⟨rfl, rfl⟩))
    all_goals (go_wp2_with fail; go_meet; exact ⟨_, _, rfl, rfl, by go_simp, by go_simp, by go_simp, by go_simp, by simp <;> omega, by simp <;> omega, (by repeat (first | exact Below.refl _ _ | (refine Below.alloc ?_ (by first | omega | (simp; omega) | simp) _) | (refine Below.setCell ?_ (by first | omega | (simp; omega) | simp) _) | refine Below.drew ?_))⟩)
  case rest =>
    obtain ⟨g, h, rfl, rfl, g0, g1, k0, k1, hg, hh, hB⟩ := hcut
    obtain ⟨hc, hf⟩ := bcell hB
    have hz := hB.size
    have hBw := hB0.trans (Below.mono hB hB0.size)
    have hz2 : w.heap.size + 1 < wc.heap.size := by omega
    have hz3 : w.heap.size < wc.heap.size := by omega
    have p1 : wc.cell? ⟨w.heap.size + 1, 1, none⟩ = some (.int .i64 tl) := (hc _ _ (by omega)).trans (hbp 1)
    have p2 : wc.cell? ⟨w.heap.size + 1, 2, none⟩ = some (.int .i64 th) := (hc _ _ (by omega)).trans (hbp 2)
    have p3 : wc.cell? ⟨w.heap.size + 1, 3, none⟩ = some (.int .i64 al) := (hc _ _ (by omega)).trans (hbp 3)
    have p4 : wc.cell? ⟨w.heap.size + 1, 4, none⟩ = some (.int .i64 ah) := (hc _ _ (by omega)).trans (hbp 4)
    clear hc hf hbp hbx
    generalize w.heap.size + 1 = pb at *
    have qpb1 : pb < wc.heap.size + 1 := by omega
    have qpb2 : pb < wc.heap.size + 1 + 1 := by omega
    have qpb3 : pb < wc.heap.size + 1 + 1 + 1 := by omega
    have qpb4 : pb < wc.heap.size + 1 + 1 + 1 + 1 := by omega
    have qpb5 : pb < wc.heap.size + 1 + 1 + 1 + 1 + 1 := by omega
    have qpb6 : pb < wc.heap.size + 1 + 1 + 1 + 1 + 1 + 1 := by omega
    have qpb7 : pb < wc.heap.size + 1 + 1 + 1 + 1 + 1 + 1 + 1 := by omega
    have qg1 : g < wc.heap.size + 1 := by omega
    have qg2 : g < wc.heap.size + 1 + 1 := by omega
    have qg3 : g < wc.heap.size + 1 + 1 + 1 := by omega
    have qg4 : g < wc.heap.size + 1 + 1 + 1 + 1 := by omega
    have qg5 : g < wc.heap.size + 1 + 1 + 1 + 1 + 1 := by omega
    have qg6 : g < wc.heap.size + 1 + 1 + 1 + 1 + 1 + 1 := by omega
    have qg7 : g < wc.heap.size + 1 + 1 + 1 + 1 + 1 + 1 + 1 := by omega
    have qh1 : h < wc.heap.size + 1 := by omega
    have qh2 : h < wc.heap.size + 1 + 1 := by omega
    have qh3 : h < wc.heap.size + 1 + 1 + 1 := by omega
    have qh4 : h < wc.heap.size + 1 + 1 + 1 + 1 := by omega
    have qh5 : h < wc.heap.size + 1 + 1 + 1 + 1 + 1 := by omega
    have qh6 : h < wc.heap.size + 1 + 1 + 1 + 1 + 1 + 1 := by omega
    have qh7 : h < wc.heap.size + 1 + 1 + 1 + 1 + 1 + 1 + 1 := by omega
    rcases h1 : withinB tl th A1 A2 with - | -
    · rcases h3 : emptyB (maxI tl A1) (minI th A2) with - | -
      · rcases h4 : emptyB (maxI al A3) (minI ah A4) with - | -
        · go_wp2_with (first | (go_at_call 102; with_reducible refine (within_is _ _ _ _ _ h1 _).mono ?_; rintro e w' ⟨rfl, rfl⟩) | (go_at_call 104; with_reducible refine (common_any _ _ _ _ _).mono ?_; rintro e w' ⟨rfl, rfl⟩) | (go_at_call 103; with_reducible refine (empty_is _ _ _ h3 _).mono ?_; rintro e w' ⟨rfl, rfl⟩) | (go_at_call 103; with_reducible refine (empty_is _ _ _ h4 _).mono ?_; rintro e w' ⟨rfl, rfl⟩))
          go_ret
          exact ⟨ret_i64 (by rw [HR.out]; simp [h1, h3, h4]), hBw.trans (by repeat (first | exact Below.refl _ _ | (refine Below.alloc ?_ (by first | omega | (simp; omega) | simp) _) | (refine Below.setCell ?_ (by first | omega | (simp; omega) | simp) _) | refine Below.drew ?_))⟩
        · go_wp2_with (first | (go_at_call 102; with_reducible refine (within_is _ _ _ _ _ h1 _).mono ?_; rintro e w' ⟨rfl, rfl⟩) | (go_at_call 104; with_reducible refine (common_any _ _ _ _ _).mono ?_; rintro e w' ⟨rfl, rfl⟩) | (go_at_call 103; with_reducible refine (empty_is _ _ _ h3 _).mono ?_; rintro e w' ⟨rfl, rfl⟩) | (go_at_call 103; with_reducible refine (empty_is _ _ _ h4 _).mono ?_; rintro e w' ⟨rfl, rfl⟩))
          go_ret
          exact ⟨ret_i64 (by rw [HR.out]; simp [h1, h3, h4]), hBw.trans (by repeat (first | exact Below.refl _ _ | (refine Below.alloc ?_ (by first | omega | (simp; omega) | simp) _) | (refine Below.setCell ?_ (by first | omega | (simp; omega) | simp) _) | refine Below.drew ?_))⟩
      · go_wp2_with (first | (go_at_call 102; with_reducible refine (within_is _ _ _ _ _ h1 _).mono ?_; rintro e w' ⟨rfl, rfl⟩) | (go_at_call 104; with_reducible refine (common_any _ _ _ _ _).mono ?_; rintro e w' ⟨rfl, rfl⟩) | (go_at_call 103; with_reducible refine (empty_is _ _ _ h3 _).mono ?_; rintro e w' ⟨rfl, rfl⟩))
        go_ret
        exact ⟨ret_i64 (by rw [HR.out]; simp [h1, h3]), hBw.trans (by repeat (first | exact Below.refl _ _ | (refine Below.alloc ?_ (by first | omega | (simp; omega) | simp) _) | (refine Below.setCell ?_ (by first | omega | (simp; omega) | simp) _) | refine Below.drew ?_))⟩
    · rcases h2 : withinB al ah A3 A4 with - | -
      · rcases h3 : emptyB (maxI tl A1) (minI th A2) with - | -
        · rcases h4 : emptyB (maxI al A3) (minI ah A4) with - | -
          · go_wp2_with (first | (go_at_call 102; with_reducible refine (within_is _ _ _ _ _ h1 _).mono ?_; rintro e w' ⟨rfl, rfl⟩) | (go_at_call 102; with_reducible refine (within_is _ _ _ _ _ h2 _).mono ?_; rintro e w' ⟨rfl, rfl⟩) | (go_at_call 104; with_reducible refine (common_any _ _ _ _ _).mono ?_; rintro e w' ⟨rfl, rfl⟩) | (go_at_call 103; with_reducible refine (empty_is _ _ _ h3 _).mono ?_; rintro e w' ⟨rfl, rfl⟩) | (go_at_call 103; with_reducible refine (empty_is _ _ _ h4 _).mono ?_; rintro e w' ⟨rfl, rfl⟩))
            go_ret
            exact ⟨ret_i64 (by rw [HR.out]; simp [h1, h2, h3, h4]), hBw.trans (by repeat (first | exact Below.refl _ _ | (refine Below.alloc ?_ (by first | omega | (simp; omega) | simp) _) | (refine Below.setCell ?_ (by first | omega | (simp; omega) | simp) _) | refine Below.drew ?_))⟩
          · go_wp2_with (first | (go_at_call 102; with_reducible refine (within_is _ _ _ _ _ h1 _).mono ?_; rintro e w' ⟨rfl, rfl⟩) | (go_at_call 102; with_reducible refine (within_is _ _ _ _ _ h2 _).mono ?_; rintro e w' ⟨rfl, rfl⟩) | (go_at_call 104; with_reducible refine (common_any _ _ _ _ _).mono ?_; rintro e w' ⟨rfl, rfl⟩) | (go_at_call 103; with_reducible refine (empty_is _ _ _ h3 _).mono ?_; rintro e w' ⟨rfl, rfl⟩) | (go_at_call 103; with_reducible refine (empty_is _ _ _ h4 _).mono ?_; rintro e w' ⟨rfl, rfl⟩))
            go_ret
            exact ⟨ret_i64 (by rw [HR.out]; simp [h1, h2, h3, h4]), hBw.trans (by repeat (first | exact Below.refl _ _ | (refine Below.alloc ?_ (by first | omega | (simp; omega) | simp) _) | (refine Below.setCell ?_ (by first | omega | (simp; omega) | simp) _) | refine Below.drew ?_))⟩
        · go_wp2_with (first | (go_at_call 102; with_reducible refine (within_is _ _ _ _ _ h1 _).mono ?_; rintro e w' ⟨rfl, rfl⟩) | (go_at_call 102; with_reducible refine (within_is _ _ _ _ _ h2 _).mono ?_; rintro e w' ⟨rfl, rfl⟩) | (go_at_call 104; with_reducible refine (common_any _ _ _ _ _).mono ?_; rintro e w' ⟨rfl, rfl⟩) | (go_at_call 103; with_reducible refine (empty_is _ _ _ h3 _).mono ?_; rintro e w' ⟨rfl, rfl⟩))
          go_ret
          exact ⟨ret_i64 (by rw [HR.out]; simp [h1, h2, h3]), hBw.trans (by repeat (first | exact Below.refl _ _ | (refine Below.alloc ?_ (by first | omega | (simp; omega) | simp) _) | (refine Below.setCell ?_ (by first | omega | (simp; omega) | simp) _) | refine Below.drew ?_))⟩
      · go_wp2_with (first | (go_at_call 102; with_reducible refine (within_is _ _ _ _ _ h1 _).mono ?_; rintro e w' ⟨rfl, rfl⟩) | (go_at_call 102; with_reducible refine (within_is _ _ _ _ _ h2 _).mono ?_; rintro e w' ⟨rfl, rfl⟩))
        go_ret
        exact ⟨ret_i64 (by rw [HR.out]; simp [h1, h2]), hBw.trans (by repeat (first | exact Below.refl _ _ | (refine Below.alloc ?_ (by first | omega | (simp; omega) | simp) _) | (refine Below.setCell ?_ (by first | omega | (simp; omega) | simp) _) | refine Below.drew ?_))⟩
end Go.Proofs.Ytojmimfjnnibdaa
