/- KA KC, joined. -/
import Derived.Test.YtajabapcmpmboaaT
import Derived.Test.YtajabapcmpmboaaZR
import Derived.Sort.QuietTacIn
import Derived.Test.YtajabapcmpmboaaKS
/- What an addition costs, and in which truths of the pot the metal is within all limits with it. -/
namespace Go.Proofs.Ytajabapcmpmboaa
set_option linter.unusedVariables false
set_option linter.unusedSimpArgs false
open Go.RowKit Go.Shelf Go.Sort

attribute [local go_sem] Oper.semAt_some

structure Offer where
  c : Int
  tl : Int
  th : Int
  al : Int
  ah : Int
def Offer.cells (o : Offer) : List Value := [.int .i64 o.c, .int .i64 o.tl, .int .i64 o.th, .int .i64 o.al, .int .i64 o.ah]
/-- An addition's offer. -/
def Shop.offerOf (s : Shop) (x : List Int) : Offer :=
  { c := tot Pig.c s.pigs x
    tl := maxI s.tl (allowLo (s.P + tot Pig.P s.pigs x) s.xl + -(tot Pig.t s.pigs x))
    th := minI s.th (allowHi (s.P + tot Pig.P s.pigs x) s.xh + -(tot Pig.t s.pigs x))
    al := maxI s.al (allowLo (s.P + tot Pig.P s.pigs x) s.yl + -(tot Pig.a s.pigs x))
    ah := minI s.ah (allowHi (s.P + tot Pig.P s.pigs x) s.yh + -(tot Pig.a s.pigs x)) }
def Offer.good (o : Offer) : Bool := !emptyB o.tl o.th && !emptyB o.al o.ah
def Shop.offersOf (s : Shop) (l : List (List Int)) : List Offer := (l.map s.offerOf).filter Offer.good
theorem offersOf_snoc (s : Shop) (l : List (List Int)) (x : List Int) : s.offersOf (l ++ [x]) = s.offersOf l ++ (if (s.offerOf x).good then [s.offerOf x] else []) := by
  simp only [Shop.offersOf, List.map_append, List.filter_append, List.map_cons, List.map_nil]
  congr 1
  cases h : (s.offerOf x).good <;> simp [h]

/-- A callee met in a world of the class, in a round. -/
theorem meet {l : Nat} {r : Nat} {P : Program} {f : FuncId} {args : Array Value} {W : World} {v : Value}
    (h : ∀ w1, Below W.heap.size W w1 → Calls P f args w1 fun e w' => e = .returned v ∧ Below w1.heap.size w1 w') (d : Nat) (os : Array Obj) :
    CallsIn (Fence.wide.inRound l) r P f args (grow (redrawn W d) os) fun e w'' => e = .returned v ∧ ∃ p : Regrown, w'' = grow (redrawn W p.d) p.os :=
  (CallsIn.inRound l (callsIn_wide.2 (h _ (below_regrown W d os)))).regrown_of
theorem meet0 {r : Nat} {P : Program} {f : FuncId} {args : Array Value} {W : World} {v : Value}
    (h : ∀ w1, Below W.heap.size W w1 → Calls P f args w1 fun e w' => e = .returned v ∧ Below w1.heap.size w1 w') (d : Nat) (os : Array Obj) :
    CallsIn Fence.wide r P f args (grow (redrawn W d) os) fun e w'' => e = .returned v ∧ ∃ p : Regrown, w'' = grow (redrawn W p.d) p.os :=
  (callsIn_wide.2 (h _ (below_regrown W d os))).regrown_of

theorem moved_below (lo hi by' : Int) (h1 : Fair lo) (h2 : Fair hi) (h3 : Fair by') (w : World) :
    Calls Try.prog 96 #[.agg #[.int .i64 lo, .int .i64 hi], .int .i64 by'] w fun e w' => e = .returned (.agg #[.int .i64 (lo + by'), .int .i64 (hi + by')]) ∧ Below w.heap.size w w' :=
  (moved_any lo hi by' w h1 h2 h3).mono fun e w' ⟨he, hw⟩ => ⟨he, by subst hw; exact (by repeat (first | exact Below.refl _ _ | (refine Below.alloc ?_ (by first | omega | (simp; omega) | simp) _) | (refine Below.setCell ?_ (by first | omega | (simp; omega) | simp) _) | refine Below.drew ?_))⟩
theorem common_below (il ih ol oh : Int) (w : World) :
    Calls Try.prog 104 #[.agg #[.int .i64 il, .int .i64 ih], .agg #[.int .i64 ol, .int .i64 oh]] w fun e w' => e = .returned (.agg #[.int .i64 (maxI il ol), .int .i64 (minI ih oh)]) ∧ Below w.heap.size w w' :=
  (common_any il ih ol oh w).mono fun e w' ⟨he, hw⟩ => ⟨he, by subst hw; exact (by repeat (first | exact Below.refl _ _ | (refine Below.alloc ?_ (by first | omega | (simp; omega) | simp) _) | (refine Below.setCell ?_ (by first | omega | (simp; omega) | simp) _) | refine Below.drew ?_))⟩
theorem allowed_below (p lo hi : Int) (h1 : 0 ≤ p ∧ p ≤ 2000) (h2 : 0 ≤ lo ∧ lo ≤ 1000) (h3 : 0 ≤ hi ∧ hi ≤ 1000) (w : World) :
    Calls Try.prog 101 #[.int .i64 p, .agg #[.int .i64 lo, .int .i64 hi]] w fun e w' => e = .returned (.agg #[.int .i64 (allowLo p lo), .int .i64 (allowHi p hi)]) ∧ Below w.heap.size w w' :=
  (allowed_any p lo hi w h1 h2 h3).mono fun e w' ⟨he, hw⟩ => ⟨he, by subst hw; exact (by repeat (first | exact Below.refl _ _ | (refine Below.alloc ?_ (by first | omega | (simp; omega) | simp) _) | (refine Below.setCell ?_ (by first | omega | (simp; omega) | simp) _) | refine Below.drew ?_))⟩
end Go.Proofs.Ytajabapcmpmboaa

/- The offers, sorted. -/
namespace Go.Proofs.Ytajabapcmpmboaa
set_option linter.unusedVariables false
set_option linter.unusedSimpArgs false
open Go.RowKit Go.Shelf Go.Sort Go.Lib

instance : Inhabited Offer := ⟨⟨0, 0, 0, 0, 0⟩⟩
theorem Offer.len (o : Offer) : o.cells.length = 5 := rfl
theorem flat_get : ∀ (l : List Offer) (t : Nat), t < l.length * 5 → (l.flatMap Offer.cells)[t]? = some (((l[t / 5]?).getD default).cells[t % 5]!)
  | [], t, h => by simp at h
  | o :: l, t, h => by
    rw [List.flatMap_cons]
    rcases Nat.lt_or_ge t 5 with ht | ht
    · rw [List.getElem?_append_left (by rw [Offer.len]; exact ht), Nat.div_eq_of_lt ht, Nat.mod_eq_of_lt ht]
      have h1 : t < o.cells.length := by rw [Offer.len]; exact ht
      simp [h1]
    · have e1 : t / 5 = (t - 5) / 5 + 1 := by omega
      have e2 : t % 5 = (t - 5) % 5 := by omega
      have h2 : t - 5 < l.length * 5 := by simp at h; omega
      rw [List.getElem?_append_right (by rw [Offer.len]; exact ht), Offer.len, e1, e2, flat_get l (t - 5) h2]
      simp
theorem flat_len (l : List Offer) : (l.flatMap Offer.cells).length = l.length * 5 := by
  induction l with
  | nil => rfl
  | cons o l ih => rw [List.flatMap_cons, List.length_append, ih, Offer.len]; simp; omega
theorem flatK_list (l : List Offer) : (Go.Sort.flatK Offer.cells 5 l.toArray).toList = l.flatMap Offer.cells := by
  apply List.ext_getElem?
  intro t
  by_cases h : t < l.length * 5
  · rw [flat_get l t h]
    have h5 : t / 5 < l.length := by omega
    simp [Go.Sort.flatK, h, h5]
  · rw [List.getElem?_eq_none (by simp; omega), List.getElem?_eq_none (by rw [flat_len]; omega)]

def offerLt (x y : Offer) : Int := Lib.compareInt x.c y.c
theorem offerLt_is (x y : Offer) : ltOf offerLt x y = decide (x.c < y.c) := by
  unfold ltOf offerLt Lib.compareInt
  by_cases h1 : x.c < y.c
  · simp [h1]
  · by_cases h2 : y.c < x.c <;> simp [h1, h2]
theorem offer_swo : SWO (ltOf offerLt) where
  irrefl x := by rw [offerLt_is]; simp
  trans x y z h1 h2 := by rw [offerLt_is] at *; simp at *; omega
  ntrans x y z h1 h2 := by rw [offerLt_is] at *; simp at *; omega

set_option maxHeartbeats 1000000 in
theorem offers1_any (x y : Offer) (W : World) : Calls Try.prog 115 #[.agg x.cells.toArray, .agg y.cells.toArray] W fun e w' => e = .returned (.int .i64 (offerLt x y)) ∧ ∃ q os', w' = grow (W.drewN q) os' := by
  have hcon := fun W' => AnyG.cmp_Compare_int Try.cmpInt x.c y.c W'
  change ∀ W', Calls Try.prog 116 _ _ _ at hcon
  unfold offerLt
  generalize Lib.compareInt x.c y.c = r at hcon ⊢
  simp only [Offer.cells]
  go_enter Try.func115, Try.ntmps115
  go_wp2_with (go_at_call 116; refine (hcon _).mono ?_; rintro e w' ⟨rfl, rfl⟩)
  go_ret
  exact ⟨rfl, 0, _, by rw [alloc_eq_grow, alloc_eq_grow, grow_grow]; rfl⟩

theorem heap_sortedK {w : World} {g n : Nat} {os : Array Obj} {cur : Array Value} {e : TypeId} {fr : Nat × Nat} (d : Array Offer) (hb : w.heap[g]? = some (.cells cur e fr)) :
    (sortWorldK Offer.cells 5 w g 0 n d os).heap[g]? = some (.cells (putCells id 0 (Go.Sort.flatK Offer.cells 5 d) cur) e fr) := by
  have hg : g < w.heap.size := (Array.getElem?_eq_some_iff.1 hb).1
  unfold sortWorldK
  rw [heap_grow_old _ _ (by simpa [putRowK] using hg)]
  simp [putRowK, putRow, mapBlock, Sort.ahead, Array.getElem?_modify, hb, onCells]
theorem grownBy_sortedK {w : World} {g n : Nat} {os : Array Obj} (d : Array Offer) : w.grownBy (sortWorldK Offer.cells 5 w g 0 n d os) (some g) := by
  refine ⟨rfl, rfl, rfl, by simp [sortWorldK, putRowK], fun k hk hne => ?_⟩
  unfold sortWorldK
  rw [heap_grow_old _ _ (by simpa [putRowK] using hk)]
  have : g ≠ k := fun e => hne (by rw [e])
  simp [putRowK, putRow, mapBlock, Sort.ahead, Array.getElem?_modify, this]
theorem take_putId (cur : Array Value) (F : Array Value) (h : F.size ≤ cur.size) : (putCells id 0 F cur).toList.take F.size = F.toList := by
  apply List.ext_getElem?
  intro j
  by_cases hj : j < F.size
  · rw [List.getElem?_take_of_lt hj, Array.getElem?_toList]
    simp [putCells, hj, show j < cur.size by omega]
  · rw [List.getElem?_take_eq_none (by omega), List.getElem?_eq_none (by simp; omega)]

set_option maxHeartbeats 1000000 in
theorem SortFunc_any (n0 g cap : Nat) (l : List Offer) (w : World) (hrow : w.ownsRow n0 118 5 (.slice (some ⟨g, 0, none⟩) l.length cap) l.length (l.flatMap Offer.cells)) (hlen : l.length ≤ 100000) :
    Calls Try.prog 114 #[.slice (some ⟨g, 0, none⟩) l.length cap, .func (.func 115) #[] #[]] w fun e w' => e = .returned (.tuple #[]) ∧ ∃ l' : List Offer, l'.Perm l ∧ l'.Pairwise (fun x y => x.c ≤ y.c) ∧
      w'.ownsRow n0 118 5 (.slice (some ⟨g, 0, none⟩) l.length cap) l.length (l'.flatMap Offer.cells) ∧ w.grownBy w' (some g) := by
  obtain ⟨g', cap', cur, hv, hbase, hg, hn, hcap, hcs, htk⟩ : ∃ g' cap' cur, Value.slice (some ⟨g, 0, none⟩) l.length cap = .slice (some ⟨g', 0, none⟩) l.length cap' ∧ n0 ≤ g' ∧ w.heap[g']? = some (.cells cur 118 (0, 0)) ∧ l.length ≤ cap' ∧ cap' ≤ maxLen ∧ cur.size = cap' * 5 ∧ cur.toList.take (l.length * 5) = l.flatMap Offer.cells := by
    rcases hrow.2 with ⟨h0, _⟩ | h
    · cases h0
    · exact h
  cases hv
  have hH : HoldsK Offer.cells 5 w g 0 l.toArray := by
    intro t ht
    have ht' : t < l.length * 5 := by simpa using ht
    refine ⟨?_, by simp [World.frozen?, hg]⟩
    have h1 : (cur.toList.take (l.length * 5))[t]? = (Go.Sort.flatK Offer.cells 5 l.toArray).toList[t]? := by rw [htk, flatK_list]
    rw [List.getElem?_take_of_lt ht'] at h1
    simp only [World.cell?, hg, Nat.zero_add]
    simp only [Option.isSome_none, Bool.false_eq_true, if_false]
    rw [← Array.getElem?_toList, h1]
    have h2 : t < (Go.Sort.flatK Offer.cells 5 l.toArray).size := ht
    rw [Array.getElem?_toList, Array.getElem?_eq_getElem h2, getElem!_pos _ t h2]
    rfl
  have eg : ∀ args w, (callFunc 115 args).run Try.prog w = .ok (.enter 115 args) w := enters_of Try.func115 (by kernel_rfl) rfl
  have hcon := AnyQ.slices_SortFunc Try.sortOffers 5 Try.isAgg118 Try.sizeOf118 Offer.cells (fun _ => rfl) (fun x v hv => by simp [Offer.cells] at hv; rcases hv with rfl | rfl | rfl | rfl | rfl <;> rfl) offerLt offer_swo 115 #[] g 0 cap l.toArray w eg (fun _ _ _ _ x y => offers1_any x y _) hH ((Array.getElem?_eq_some_iff.1 hg).1) (by simp; omega)
  change Calls Try.prog 114 _ _ _ at hcon
  refine hcon.mono ?_
  rintro e w' ⟨rfl, d', n, os, hp, hs, rfl⟩
  refine ⟨rfl, d'.toList, ?_, ?_, ?_, grownBy_sortedK d'⟩
  · have h3 := hp.2.2
    have hz : d'.size = l.length := by simpa using hp.1
    rw [show d'.extract 0 l.toArray.size = d' by rw [show l.toArray.size = d'.size by simp [hz]]; simp, show l.toArray.extract 0 l.toArray.size = l.toArray by simp] at h3
    exact h3
  · rw [List.pairwise_iff_getElem]
    intro i j hi hj hij
    have hz : d'.size = l.length := by simpa using hp.1
    have hj' : j < d'.size := by simpa using hj
    have h4 := hs i j (Nat.zero_le _) hij (by simpa [← hz] using hj')
    rw [offerLt_is, getElem!_pos d' j hj', getElem!_pos d' i (by omega)] at h4
    simp at h4
    simpa using h4
  · have hz : d'.size = l.length := by simpa using hp.1
    have hfl : (Go.Sort.flatK Offer.cells 5 d').toList = d'.toList.flatMap Offer.cells := flatK_list d'.toList
    refine ⟨by rw [flat_len]; simp [hz], .inr ⟨g, cap, _, rfl, hbase, heap_sortedK d' hg, hn, hcap, by simp [putCells, hcs], ?_⟩⟩
    have := take_putId cur (Go.Sort.flatK Offer.cells 5 d') (by simp [hcs, hz]; omega)
    rw [← hfl, ← this]
    simp [hz]
end Go.Proofs.Ytajabapcmpmboaa
