/- Package flongs: justEnough's iterator, and a range over it. -/
import Derived.Test.YtigeiaiohdemiaaFM
namespace Go.Proofs.Ytigeiaiohdemiaa
set_option linter.unusedVariables false
set_option linter.unusedSimpArgs false
open Go.RowKit Go.Shelf

attribute [local go_sem] Oper.semAt_some

theorem RowI.made (w : World) (n0 cap : Nat) (h0 : n0 ≤ w.heap.size) (hm : cap ≤ maxLen) : RowI (w.alloc (.cells (madeCells #[.int .i64 0] cap) 3)) n0 w.heap.size 0 cap [] :=
  RowI.of h0 (Nat.zero_le _) hm rfl _ (World.alloc_heap_new _ _) (size_madeCells _ _) rfl

theorem run_make_cap {P : Program} {w : World} (t e : TypeId) (z : Value) (bytes : Nat) (ht : P.underlying t = some (.slice e)) (hinfo : (P.info? e).map (fun i => (i.zero, i.size, i.bytes)) = some (some z, 1, bytes)) (hz1 : z.cells = #[z])
    (cap : Nat) (hb : bytes * cap ≤ 281474976710656) (hm : cap ≤ maxLen) : (Instr.makeSlice t (.int .i64 0) (.int .i64 (cap : Int))).run P w = .ok (.slice (some ⟨w.heap.size, 0, none⟩) 0 cap) (w.alloc (.cells (madeCells #[z] cap) e)) := by
  obtain ⟨i0, hi, hy0, hy1, hy2⟩ := info_parts hinfo
  have h := run_make w t e i0 z ht hi hy0 .i64 .i64 0 cap (Int.le_refl _) (by omega) (by rw [hy2]; omega) (by unfold maxLen at hm; omega)
  rw [h, hz1, hy1]; simp

theorem RowI.drew {w : World} {n0 b k cap : Nat} {x : List Int} (h : RowI w n0 b k cap x) : RowI w.drew n0 b k cap x := h
theorem RowI.low {w : World} {n0 n1 b k cap : Nat} {x : List Int} (h : RowI w n0 b k cap x) (hn : n1 ≤ n0) : RowI w n1 b k cap x := by
  obtain ⟨h1, h2, h3, cur, hc, h4, h5⟩ := h.parts
  exact RowI.of (by omega) h2 h3 h.len cur hc h4 h5
theorem two_of {w : World} {ca : Option Addr} {nl cc N n1 gb : Nat} {x : List Int} (h : (ca = none ∧ nl = 0 ∧ cc = 0) ∨ ∃ g, ca = some ⟨g, 0, none⟩ ∧ RowI w n1 g nl cc x) (h1 : N ≤ n1) (h2 : gb < n1) : (ca = none ∧ nl = 0) ∨ ∃ g, ca = some ⟨g, 0, none⟩ ∧ RowI w N g nl cc x ∧ gb ≠ g := by
  rcases h with ⟨h3, h4, _⟩ | ⟨g, e, hr⟩
  · exact .inl ⟨h3, h4⟩
  · have := hr.parts.1
    exact .inr ⟨g, e, hr.low h1, by omega⟩

theorem two_of2 {w : World} {ca : Option Addr} {nl cc N n1 : Nat} {x : List Int} (o : Obj) (h : (ca = none ∧ nl = 0 ∧ cc = 0) ∨ ∃ g, ca = some ⟨g, 0, none⟩ ∧ RowI w n1 g nl cc x) (h1 : N ≤ n1) : (ca = none ∧ nl = 0) ∨ ∃ g, ca = some ⟨g, 0, none⟩ ∧ RowI (w.alloc o) N g nl cc x ∧ w.heap.size ≠ g := by
  rcases h with ⟨h3, h4, _⟩ | ⟨g, e, hr⟩
  · exact .inl ⟨h3, h4⟩
  · have := hr.lt
    exact .inr ⟨g, e, (hr.low h1).below (by repeat (first | exact Below.refl _ _ | (refine Below.alloc ?_ (by first | omega | (simp; omega) | simp) _) | (refine Below.setCell ?_ (by first | omega | (simp; omega) | simp) _) | refine Below.drew ?_)), by omega⟩

/-- share, called for all shares. -/
theorem share_just (s : FShop) (ma : Option Addr) (ml mc : Nat) (wa : Option Addr) (wl wc : Nat) (na : Option Addr) (nl nc : Nat) (ho : s.ok = true) (hml : s.moulds.length = ml) (hnl : s.wants.length = nl) (l N gb : Nat) (ca : Option Addr) (cc : Nat) (J : Nat → Nat → List (List Int) → World → Prop)
    (hS : ∀ b c pre W', J b c pre W' → MouldsAt W' ma ml s.moulds)
    (hJ : ∀ b c pre W1 W2 row, J b c pre W1 → W1.grownBy W2 row → (row = none ∨ row = some b ∨ row = some c) → J b c pre W2)
    (hY : ∀ b c pre x W1, J b c pre W1 → RowI W1 N b ml ml x → c < W1.heap.size → x ∈ s.justs → YieldAt Fence.wide 12 Try.prog l #[.slice (some ⟨b, 0, none⟩) ml ml] W1 fun e W' => e = .returned (.bool true) ∧ J b c (pre ++ [x]) W' ∧ KeepsUp N W1 W')
    (w : World) (h0 : ∀ b c, N ≤ b → N ≤ c → J b c [] w) (h1 : RowI w N gb 0 ml []) (h2 : (ca = none ∧ nl = 0) ∨ ∃ g, ca = some ⟨g, 0, none⟩ ∧ RowI w N g nl cc s.wants ∧ gb ≠ g) :
    Calls Try.prog 105 #[.agg #[.slice ma ml mc, .slice wa wl wc, .slice na nl nc, .int .i64 s.fresh], .slice (some ⟨gb, 0, none⟩) 0 ml, .slice ca nl cc, .func (.yield l) #[] #[]] w fun e W' => e = .returned (.bool true) ∧ ∃ b c, J b c s.justs W' := by
  have hfew := FShop.ok_few ho
  have hgb := h1.parts.1
  rcases h2 with ⟨rfl, rfl⟩ | ⟨g, rfl, hrg, hne⟩
  · have hms : s.moulds = [] := by
      rcases hm : s.moulds with - | ⟨m, ms⟩
      · rfl
      · have := (FShop.ok_mould ho 0 (by rw [hm]; simp)).1
        omega
    have hws : s.wants = [] := List.length_eq_zero_iff.1 hnl
    have hml0 : ml = 0 := by rw [← hml, hms]; rfl
    subst hml0
    refine (share_end s ma 0 mc wa wl wc na 0 nc l N N gb gb cc none (.inl rfl) (Nat.le_refl _) (by omega) (by omega) (fun pre W' => J gb gb pre W') (fun pre W W' row h hg hr => hJ _ _ _ _ _ _ h hg hr) (fun pre x W h hr hq hx => hY _ _ _ _ _ h hr hq hx) [] [] [] w rfl (h0 _ _ hgb hgb) h1 ?_ hgb ?_).mono ?_
    · exact h1.holds
    · intro y hy; unfold FShop.justs; rw [hms, hws]; exact hy
    · rintro e W' ⟨rfl, hj, -⟩
      exact ⟨rfl, gb, gb, by unfold FShop.justs; rw [hms, hws]; exact hj⟩
  · refine (share_all s ma ml mc wa wl wc na nl nc ho hml hnl l N N gb g cc (Nat.le_refl _) hrg.parts.1 hne (fun pre W' => J gb g pre W') (fun pre W h => hS _ _ _ _ h) (fun pre W W' row h hg hr => hJ _ _ _ _ _ _ h hg hr) (fun pre x W h hr hq hx => hY _ _ _ _ _ h hr hq hx) s.moulds 0 rfl [] s.wants [] w hnl (fun i hi => FShop.ok_want ho i hi) (h0 _ _ hgb hrg.parts.1) h1 hrg.holds (fun y hy => hy)).mono ?_
    rintro e W' ⟨rfl, hj, -⟩
    exact ⟨rfl, gb, g, hj⟩

theorem boxS_drew {w : World} {Bs n : Nat} {v0 v1 v2 v3 : Value} (h : (w.cell? ⟨Bs, 0, none⟩ = some v0 ∧ w.cell? ⟨Bs, 1, none⟩ = some v1 ∧ w.cell? ⟨Bs, 2, none⟩ = some v2 ∧ w.cell? ⟨Bs, 3, none⟩ = some v3)) :
    (w.drew.cell? ⟨Bs, 0, none⟩ = some v0 ∧ w.drew.cell? ⟨Bs, 1, none⟩ = some v1 ∧ w.drew.cell? ⟨Bs, 2, none⟩ = some v2 ∧ w.drew.cell? ⟨Bs, 3, none⟩ = some v3) := h
theorem boxS_below {w w' : World} {Bs : Nat} {v0 v1 v2 v3 : Value} (h : (w.cell? ⟨Bs, 0, none⟩ = some v0 ∧ w.cell? ⟨Bs, 1, none⟩ = some v1 ∧ w.cell? ⟨Bs, 2, none⟩ = some v2 ∧ w.cell? ⟨Bs, 3, none⟩ = some v3)) (hb : Below w.heap.size w w') :
    (w'.cell? ⟨Bs, 0, none⟩ = some v0 ∧ w'.cell? ⟨Bs, 1, none⟩ = some v1 ∧ w'.cell? ⟨Bs, 2, none⟩ = some v2 ∧ w'.cell? ⟨Bs, 3, none⟩ = some v3) := by
  obtain ⟨k0, k1, k2, k3⟩ := h
  have hs := World.block_lt_of_cell? _ _ k0
  exact ⟨(hb.cell (p := ⟨Bs, 0, none⟩) hs).trans k0, (hb.cell (p := ⟨Bs, 1, none⟩) hs).trans k1, (hb.cell (p := ⟨Bs, 2, none⟩) hs).trans k2, (hb.cell (p := ⟨Bs, 3, none⟩) hs).trans k3⟩

set_option maxRecDepth 100000 in
set_option maxHeartbeats 8000000 in
theorem just1_any (s : FShop) (ma : Option Addr) (ml mc : Nat) (wa : Option Addr) (wl wc : Nat) (na : Option Addr) (nl nc : Nat) (ho : s.ok = true) (l Bs : Nat) (J : Nat → Nat → List (List Int) → World → Prop) (W : World)
    (hS : ∀ b c pre W', J b c pre W' → MouldsAt W' ma ml s.moulds ∧ ∀ i, W'.cell? ⟨Bs, i, none⟩ = (#[.slice ma ml mc, .slice wa wl wc, .slice na nl nc, .int .i64 s.fresh] : Array Value)[i]?)
    (hJ : ∀ b c pre W1 W2 row, J b c pre W1 → W1.grownBy W2 row → (row = none ∨ row = some b ∨ row = some c) → J b c pre W2)
    (hY : ∀ b c pre x W1, J b c pre W1 → RowI W1 W.heap.size b ml ml x → c < W1.heap.size → x ∈ s.justs → YieldAt Fence.wide 12 Try.prog l #[.slice (some ⟨b, 0, none⟩) ml ml] W1 fun e W' => e = .returned (.bool true) ∧ J b c (pre ++ [x]) W' ∧ KeepsUp W.heap.size W1 W')
    (h0 : ∀ W' b c, Below W.heap.size W W' → W.heap.size ≤ b → W.heap.size ≤ c → J b c [] W') (hp : FAt W ma ml mc wa wl wc na nl nc s) (hbox : ∀ i, W.cell? ⟨Bs, i, none⟩ = (#[.slice ma ml mc, .slice wa wl wc, .slice na nl nc, .int .i64 s.fresh] : Array Value)[i]?) :
    Calls Try.prog 104 #[.func (.yield l) #[] #[], .pointer (some ⟨Bs, 0, none⟩)] W fun e W' => (∃ v, e = .returned v) ∧ ∃ b c, J b c s.justs W' := by
  have hfew := FShop.ok_few ho
  have hml := hp.1.1
  have hnl := hp.2.2.1
  have hm5 : ml ≤ 5 := by omega
  have hn3 : nl ≤ 3 := by omega
  have HSH := Lib.hid (fun (w : World) (gb : Nat) (ca : Option Addr) (cc : Nat) (hb : Below W.heap.size W w) (h1 : RowI w W.heap.size gb 0 ml []) (h2 : (ca = none ∧ nl = 0) ∨ ∃ g, ca = some ⟨g, 0, none⟩ ∧ RowI w W.heap.size g nl cc s.wants ∧ gb ≠ g) =>
    (share_just s ma ml mc wa wl wc na nl nc ho hml hnl l W.heap.size gb ca cc J (fun b c pre W' h => (hS b c pre W' h).1) hJ hY w (fun b c hb' hc' => h0 w b c hb hb' hc') h1 h2).mono
      (R' := fun e W' => e = .returned (.bool true) ∧ (∃ b c, J b c s.justs W') ∧ (W'.cell? ⟨Bs, 0, none⟩ = some (.slice ma ml mc) ∧ W'.cell? ⟨Bs, 1, none⟩ = some (.slice wa wl wc) ∧ W'.cell? ⟨Bs, 2, none⟩ = some (.slice na nl nc) ∧ W'.cell? ⟨Bs, 3, none⟩ = some (.int .i64 s.fresh)))
      (fun e W' ⟨he, b, c, hj⟩ => ⟨he, ⟨b, c, hj⟩, (hS _ _ _ _ hj).2 0, (hS _ _ _ _ hj).2 1, (hS _ _ _ _ hj).2 2, (hS _ _ _ _ hj).2 3⟩))
  have HCL := Lib.hid (fun w (hb : Below W.heap.size W w) => Clone_any na nl nc s.wants w (hp.2.2.below hb) (by omega))
  unfold ClonePost at HCL
  have hS0 : W.cell? ⟨Bs, 0, none⟩ = some (.slice ma ml mc) ∧ W.cell? ⟨Bs, 1, none⟩ = some (.slice wa wl wc) ∧ W.cell? ⟨Bs, 2, none⟩ = some (.slice na nl nc) ∧ W.cell? ⟨Bs, 3, none⟩ = some (.int .i64 s.fresh) := ⟨hbox 0, hbox 1, hbox 2, hbox 3⟩
  have hmx : ml ≤ maxLen := by unfold maxLen; omega
  have hmk := fun W1 => run_make_cap (P := Try.prog) (w := W1) 24 3 (.int .i64 0) 8 Try.underlying24 Try.info3 rfl ml (by omega) (by unfold maxLen; omega)
  clear hS hJ hY h0 hp hbox ho
  go_enter Try.func104, Try.ntmps104
  go_region_held3 (fun w' => w'.cell? ⟨Bs, 0, none⟩ = some (.slice ma ml mc) ∧ w'.cell? ⟨Bs, 1, none⟩ = some (.slice wa wl wc) ∧ w'.cell? ⟨Bs, 2, none⟩ = some (.slice na nl nc) ∧ w'.cell? ⟨Bs, 3, none⟩ = some (.int .i64 s.fresh))
    (first | with_reducible assumption | exact boxS_below hS0 (by repeat (first | exact Below.refl _ _ | with_reducible exact kB | (refine Below.alloc ?_ (by first | omega | (simp; omega) | simp) _) | refine Below.drew ?_)) | exact boxS_below hS0 (by repeat (first | exact Below.refl _ _ | (refine Below.alloc ?_ (by first | omega | (simp; omega) | simp) _) | (refine Below.setCell ?_ (by first | omega | (simp; omega) | simp) _) | refine Below.drew ?_)))
    (first
      | (go_at_call 103; with_reducible refine (HCL.out _ ?_).mono ?_; (· exact (by repeat (first | exact Below.refl _ _ | (refine Below.alloc ?_ (by first | omega | (simp; omega) | simp) _) | (refine Below.setCell ?_ (by first | omega | (simp; omega) | simp) _) | refine Below.drew ?_))); rintro e wB ⟨ca, cc, rfl, hcl, hbB⟩; have kB : Below W.heap.size W wB := ((by repeat (first | exact Below.refl _ _ | (refine Below.alloc ?_ (by first | omega | (simp; omega) | simp) _) | (refine Below.setCell ?_ (by first | omega | (simp; omega) | simp) _) | refine Below.drew ?_)) : Below W.heap.size W _).trans (hbB.mono (by simp)); have kz : W.heap.size ≤ wB.heap.size := kB.size; have sB := boxS_below hS0 kB; have HC := Lib.hid hcl; have HBB := Lib.hid hbB; have HKB := Lib.hid kB; clear hcl hbB)
      | (go_at_call 105; with_reducible refine (HSH.out _ _ _ _ ?_ ?_ ?_).mono ?_; (· repeat (first | exact Below.refl _ _ | with_reducible exact kB | (refine Below.alloc ?_ (by first | omega | (simp; omega) | simp) _) | refine Below.drew ?_)); (· first | exact (RowI.made W W.heap.size ml (Nat.le_refl _) hmx).drew.below HBB.out | exact RowI.made wB W.heap.size ml kz hmx); (· first | exact two_of HC.out (by simp) (by simp) | exact two_of2 _ HC.out (by first | simp | omega | exact Nat.le_refl _)); rintro e w' ⟨rfl, hj, k⟩; have HJJ := Lib.hid hj; clear hj))
  all_goals (go_wp2_with fail)
  all_goals (go_end0; exact ⟨⟨_, rfl⟩, HJJ.out⟩)

/-- How the body of a round ends: what the loop has laid, and what came behind, lies as it lay. -/
def justPost (B : Nat) (I : Nat → Nat → List (List Int) → World → Prop) (b c : Nat) (xs : List (List Int)) (W : World) : Exit → Act → World → Prop
  | .normal, _, W' => KeepsUp B W W' ∧ I b c xs W'
  | _, _, _ => False

set_option maxHeartbeats 1000000 in
theorem wpIn_rangeJusts {g : Operand} {ps : Array Tmp} {assign body : Code} {Q : Exit → Act → World → Prop} {a : Act} {w : World}
    (Bs : Nat) (s : FShop) (ma : Option Addr) (ml mc : Nat) (wa : Option Addr) (wl wc : Nat) (na : Option Addr) (nl nc : Nat) (hg : a.eval g = .func (.func 104) #[] #[.pointer (some ⟨Bs, 0, none⟩)]) (hps : ps.size = 1) (ho : s.ok = true)
    (I : Nat → Nat → List (List Int) → World → Prop)
    (hI : ∀ b c pre W W' row, I b c pre W → W.grownBy W' row → (∀ r, row = some r → r = b ∨ r = c ∨ (w.heap.size ≤ r ∧ ∃ o : Obj, W.heap[r]? = some o ∧ o.isCells = false)) → I b c pre W')
    (hS : ∀ b c pre W, I b c pre W → FAt W ma ml mc wa wl wc na nl nc s ∧ ∀ i, W.cell? ⟨Bs, i, none⟩ = (#[.slice ma ml mc, .slice wa wl wc, .slice na nl nc, .int .i64 s.fresh] : Array Value)[i]?)
    (h0 : ∀ W' b c, Below w.heap.size w W' → w.heap.size ≤ b → w.heap.size ≤ c → I b c [] W') (a₁ : Value → Act)
    (hassign : ∀ (l : Nat) (v : Value) (W : World) (K : Act → World → Prop), K (a₁ v) W →
      assign.wpIn (Fence.wide.inRound l) 12 Try.prog (Exit.then K (fun _ _ _ => False)) { tmps := (ps.zip #[v]).foldl (fun t (p, v) => t.setIfInBounds p v) a.tmps, defers := [] } W)
    (hbody : ∀ (l b c n0 : Nat) (pre : List (List Int)) (x : List Int) (W : World), I b c pre W → RowI W n0 b ml ml x → c < W.heap.size → x ∈ s.justs →
      body.wpIn (Fence.wide.inRound l) 12 Try.prog (justPost w.heap.size I b c (pre ++ [x]) W) (a₁ (.slice (some ⟨b, 0, none⟩) ml ml)) W)
    (hdone : ∀ (D b c : Nat) (W : World), w.heap.size ≤ D → I b c s.justs W → W.heap[D]? = some (.deferred (some [])) → Q .normal { a with defers := { target := .collected D, args := #[] } :: a.defers } W) :
    (Code.rangeFunc g ps assign body).wpIn Fence.wide 14 Try.prog Q a w := by
  refine wpIn_rangeFunc ?_
  intro fn hfn
  obtain ⟨rec, hrec⟩ : ∃ rec : LoopState → Option Code → Loop, rec = fun st pe => { state := st, pending := pe, fn, tmps := a.tmps, params := ps, assign, body, defers := w.heap.size } := ⟨_, rfl⟩
  obtain ⟨W1, hW1⟩ : ∃ W1, (w.alloc (.deferred (some []))).alloc (.loop (rec .ready none)) = W1 := ⟨_, rfl⟩
  have hL1 : W1.heap[w.heap.size + 1]? = some (.loop (rec .ready none)) := by
    rw [← hW1]; have := World.alloc_heap_new (w.alloc (.deferred (some []))) (.loop (rec .ready none)); rwa [World.size_alloc] at this
  have hK1 : W1.heap[w.heap.size]? = some (.deferred (some [])) := by
    rw [← hW1]; exact (Below.heap_alloc _ _ _ (by simp)).trans (World.alloc_heap_new w _)
  have hb1 : Below w.heap.size w W1 := by
    rw [← hW1]; exact ((Below.refl _ w).alloc (Nat.le_refl _) _).alloc (by simp) _
  have hz1 : W1.heap.size = w.heap.size + 2 := by rw [← hW1]; simp
  have eg := enters_of Try.func104 (by kernel_rfl) rfl
  have hroom : ∀ {W : World} {l b c : Nat} {o o' : Obj} {pre : List (List Int)}, I b c pre W → W.heap[l]? = some o → o.isCells = false → w.heap.size ≤ l → I b c pre (W.putObj l o') := fun hi hl hc hle =>
    hI _ _ _ _ _ _ hi (grownBy_putObj' _ _ _) (fun r e => by cases e; exact .inr (.inr ⟨hle, _, hl, hc⟩))
  refine ⟨w.heap.size + 1, [{ target := .collected w.heap.size, args := #[] }], W1, { target := .fn (.func 104) #[.pointer (some ⟨Bs, 0, none⟩)], args := #[.func (.yield (w.heap.size + 1)) #[] #[]] }, W1, 104,
    #[.func (.yield (w.heap.size + 1)) #[] #[]] ++ #[.pointer (some ⟨Bs, 0, none⟩)], W1, ?_, ?_, ?_, ?_, fun _ => by omega, ?_⟩
  · rw [← hW1, hrec]; exact run_enterLoop_outer _ _ _ _ _
  · simp only [resolve, hg]
    simp [go_sem]
  · intro f' hf'; exact trivial
  · simp [invoke, go_sem, eg]
  · have hd1 := hS _ _ _ _ (h0 W1 W1.heap.size W1.heap.size hb1 (by omega) (by omega))
    refine (callsIn_wide.2 (just1_any s ma ml mc wa wl wc na nl nc ho (w.heap.size + 1) Bs
      (fun b c pre W => I b c pre W ∧ W.heap[w.heap.size + 1]? = some (.loop (rec .ready none)) ∧ W.heap[w.heap.size]? = some (.deferred (some [])) ∧ w.heap.size + 2 ≤ b ∧ w.heap.size + 2 ≤ c) W1
      (fun b c pre W h => ⟨(hS _ _ _ _ h.1).1.1, (hS _ _ _ _ h.1).2⟩)
      (fun b c pre W W' row h hgr hr => ⟨hI _ _ _ _ _ _ h.1 hgr (fun r e => by rcases hr with h1 | h1 | h1 <;> rw [h1] at e <;> cases e <;> simp), (hgr.block _ (Array.getElem?_eq_some_iff.1 h.2.1).1 (by rcases hr with rfl | rfl | rfl <;> simp <;> omega)).trans h.2.1, (hgr.block _ (Array.getElem?_eq_some_iff.1 h.2.2.1).1 (by rcases hr with rfl | rfl | rfl <;> simp <;> omega)).trans h.2.2.1, h.2.2.2⟩)
      ?_ (fun W' b c hbW hb hc => ⟨h0 _ _ _ (hb1.trans (hbW.mono (by omega))) (by omega) (by omega), (hbW.block _ (by omega)).trans hL1, (hbW.block _ (by omega)).trans hK1, by omega, by omega⟩) hd1.1 hd1.2)).mono ?_
    · rintro b c pre x W ⟨hi, hlp, hk, hbb, hcc⟩ hrow hcl hxj
      have hlt : w.heap.size + 1 < W.heap.size := (Array.getElem?_eq_some_iff.1 hlp).1
      have hy := run_yield (P := Try.prog) (args := #[.slice (some ⟨b, 0, none⟩) ml ml]) hlp (by rw [hrec]; simp [hps])
      rw [hrec] at hy
      refine ⟨fn, _, assign, body, hy, roundIn_of_wpIn hfn (hassign _ _ W _ ⟨_, run_beginRound hlp (by rw [hrec]), ?_⟩)⟩
      have hl2 : (W.putObj (w.heap.size + 1) (.loop { rec .ready none with state := .busy })).heap[w.heap.size + 1]? = some (.loop { rec .ready none with state := .busy }) := World.putObj_heap_same hlt
      have hk2 : (W.putObj (w.heap.size + 1) (.loop { rec .ready none with state := .busy })).heap[w.heap.size]? = some (.deferred (some [])) := (World.putObj_heap_other (by omega)).trans hk
      have hH2 : RowI (W.putObj (w.heap.size + 1) (.loop { rec .ready none with state := .busy })) W1.heap.size b ml ml x := hrow.other (grownBy_putObj' _ _ _) (by simp; omega)
      have hI2 : I b c pre (W.putObj (w.heap.size + 1) (.loop { rec .ready none with state := .busy })) := hroom hi hlp rfl (by omega)
      refine wpIn_mono (hbody _ b c W1.heap.size pre x _ hI2 hH2 (by simpa using hcl) hxj) ?_
      rintro e a3 W3 hp
      cases e with
      | normal =>
        obtain ⟨hk3, hi3⟩ := hp
        have hz3 : W.heap.size ≤ W3.heap.size := by have := hk3.1; simpa using this
        have hl3 := (hk3.2 _ (by omega) (by simpa using hlt)).trans hl2
        have hd3 := (hk3.2 _ (Nat.le_refl _) (by simp; omega)).trans hk2
        have hr := run_endRound (P := Try.prog) none hl3
        rw [hrec] at hr hl3
        refine ⟨_, _, hr, rfl, ⟨hroom hi3 hl3 rfl (by omega), ?_, (World.putObj_heap_other (by omega)).trans hd3, hbb, hcc⟩, ?_⟩
        · rw [hrec]
          exact World.putObj_heap_same (Array.getElem?_eq_some_iff.1 hl3).1
        · refine ⟨by simpa using hz3, fun k h1 h2 => ?_⟩
          rw [World.putObj_heap_other (by omega), hk3.2 k (by omega) (by simpa using h2), World.putObj_heap_other (by omega)]
      | ret => exact hp.elim
      | exit id => exact hp.elim
      | goto t => exact hp.elim
      | panic ch => exact hp.elim
      | outgrown => exact hp.elim
    · rintro e W2 ⟨⟨v, rfl⟩, b, c, hi, hlp, hk, hbb, hcc⟩
      exact ⟨none, _, by have := run_endLoop (P := Try.prog) hlp (by rw [hrec]; simp); rw [hrec] at this; exact this, hdone _ b c _ (Nat.le_refl _) (hroom hi hlp rfl (by omega)) ((World.putObj_heap_other (by omega)).trans hk)⟩
end Go.Proofs.Ytigeiaiohdemiaa
