/- Pages: columns in another order. -/
import Derived.Test.YtodlfmbfjnldiaaWE
import Derived.Test.YtodlfmbfjnldiaaWG
import Derived.Test.YtodlfmbfjnldiaaUL
namespace Go.Proofs.Ytodlfmbfjnldiaa
set_option linter.unusedVariables false
set_option linter.unusedSimpArgs false
open Go.RowKit Go.Shelf

/-- The frame with its columns in another order. -/
def PFrame.withC (f : PFrame) (cs : List (List Int)) : PFrame := { f with cols := cs }
theorem once_perm {xs ys : List Int} (h : xs.Perm ys) : onceB xs = onceB ys := by
  rw [Bool.eq_iff_iff, once_le, once_le]
  exact ⟨fun k x => by rw [← h.count_eq]; exact k x, fun k x => by rw [h.count_eq]; exact k x⟩
theorem all_perm {α : Type} {p : α → Bool} {xs ys : List α} (h : xs.Perm ys) : xs.all p = ys.all p := by
  rw [Bool.eq_iff_iff, List.all_eq_true, List.all_eq_true]
  exact ⟨fun hh x hx => hh x (h.mem_iff.2 hx), fun hh x hx => hh x (h.mem_iff.1 hx)⟩
theorem withC_ok {f : PFrame} {cs : List (List Int)} (h : cs.Perm f.cols) : (f.withC cs).ok = f.ok := by
  have hf : (f.withC cs).flat.Perm f.flat := List.Perm.flatten h
  have e1 : (f.withC cs).few = f.few := by
    unfold PFrame.few PFrame.withC
    simp only
    rw [h.length_eq]
  have e2 : (f.withC cs).placed = f.placed := by
    unfold PFrame.placed
    rw [once_perm hf, hf.length_eq, all_perm hf]
    rfl
  unfold PFrame.ok
  rw [e1, e2]
  rfl
theorem zip_rot {α β : Type} (r : Nat) (xs : List α) (ys : List β) (h : ys.length = xs.length) : (xs.drop r ++ xs.take r).zip (ys.drop r ++ ys.take r) = (xs.zip ys).drop r ++ (xs.zip ys).take r := by
  rw [List.zip_append (by rw [List.length_drop, List.length_drop, h])]
  unfold List.zip
  rw [List.drop_zipWith, List.take_zipWith]
theorem sum_rot {α : Type} (g : α → Int) (r : Nat) (xs : List α) : ((xs.drop r ++ xs.take r).map g).sum = (xs.map g).sum := by
  rw [List.map_append, List.sum_append, Int.add_comm, ← List.sum_append, ← List.map_append, List.take_append_drop]
/-- What locks a page locks it with its columns in another order. -/
theorem lays_rot {f : PFrame} (ho : f.ok = true) (r : Nat) (c : Nat) (x : List T3) (hx : x ∈ f.lays c) : (x.drop r ++ x.take r) ∈ (f.withC (f.cols.drop r ++ f.cols.take r)).lays c := by
  have hg : (f.withC (f.cols.drop r ++ f.cols.take r)).ok = true := by
    rw [withC_ok (f := f) (by have h := List.perm_append_comm (l₁ := f.cols.drop r) (l₂ := f.cols.take r); rwa [List.take_append_drop] at h)]; exact ho
  rw [mem_laysOf ho] at hx
  rw [mem_laysOf hg]
  obtain ⟨h1, h2, h3, h4, h5⟩ := hx
  have er : (f.withC (f.cols.drop r ++ f.cols.take r)).roomsOf c = (f.roomsOf c).drop r ++ (f.roomsOf c).take r := by
    unfold PFrame.roomsOf
    show (f.cols.drop r ++ f.cols.take r).map _ = _
    rw [List.map_append, List.map_drop, List.map_take]
    rfl
  have hl : x.length = (f.roomsOf c).length := h1
  refine ⟨?_, fun p hp => ?_, ?_, ?_, ?_⟩
  · rw [er, List.length_append, List.length_append, List.length_drop, List.length_drop, List.length_take, List.length_take, hl]
  · rw [er, zip_rot r _ _ hl] at hp
    have hp' : p ∈ (f.roomsOf c).zip x := by
      rcases List.mem_append.1 hp with h | h
      · exact List.mem_of_mem_drop h
      · exact List.mem_of_mem_take h
    exact h2 p hp'
  · unfold sumA; rw [sum_rot]; exact h3
  · unfold sumB; rw [sum_rot]; exact h4
  · unfold sumC; rw [sum_rot]; exact h5
theorem cnt_rot (r : Nat) (x : List T3) : cntL (x.drop r ++ x.take r) = cntL x := by unfold cntL; exact sum_rot cntS r x
theorem strips_le_map {f g : PFrame} (hf : f.ok = true) (hg : g.ok = true) (h : ∀ x ∈ f.lays 0, ∃ y ∈ g.lays 0, cntL y = cntL x) : g.stripsN ≤ f.stripsN := by
  rcases strips_are hf with ⟨-, h1, h2⟩ | ⟨n, -, h1, h2, h3, l, h4, h5, h6⟩
  · rcases strips_are hg with ⟨-, k1, -⟩ | ⟨m, -, k1, k2, k3, -⟩ <;> omega
  · obtain ⟨y, hy, e⟩ := h l h4
    rcases strips_are hg with ⟨-, k1, k2⟩ | ⟨m, -, k1, k2, k3, -, -, -, k6⟩
    · rw [k2] at hy; cases hy
    · have := k6 y hy; omega
theorem rot_back {α : Type} (r : Nat) (xs : List α) (hr : r ≤ xs.length) : (xs.drop r ++ xs.take r).drop (xs.length - r) ++ (xs.drop r ++ xs.take r).take (xs.length - r) = xs := by
  have h1 : (xs.drop r).length = xs.length - r := List.length_drop
  rw [← h1, List.drop_left, List.take_left, List.take_append_drop]
/-- In another order nothing is greater or less. -/
theorem order_same {f : PFrame} (ho : f.ok = true) (r : Nat) (hr : r ≤ f.cols.length) : (f.withC (f.cols.drop r ++ f.cols.take r)).ok = true ∧ (f.withC (f.cols.drop r ++ f.cols.take r)).stripsN = f.stripsN ∧ (f.withC (f.cols.drop r ++ f.cols.take r)).lostN = f.lostN := by
  have hg : (f.withC (f.cols.drop r ++ f.cols.take r)).ok = true := by
    rw [withC_ok (f := f) (by have h := List.perm_append_comm (l₁ := f.cols.drop r) (l₂ := f.cols.take r); rwa [List.take_append_drop] at h)]; exact ho
  have hb : (f.withC (f.cols.drop r ++ f.cols.take r)).withC ((f.withC (f.cols.drop r ++ f.cols.take r)).cols.drop (f.cols.length - r) ++ (f.withC (f.cols.drop r ++ f.cols.take r)).cols.take (f.cols.length - r)) = f := by
    unfold PFrame.withC
    simp only
    rw [rot_back r f.cols hr]
  have hup : ∀ c x, x ∈ f.lays c → ∃ y ∈ (f.withC (f.cols.drop r ++ f.cols.take r)).lays c, cntL y = cntL x := fun c x hx => ⟨_, lays_rot ho r c x hx, cnt_rot r x⟩
  have hdn : ∀ c x, x ∈ (f.withC (f.cols.drop r ++ f.cols.take r)).lays c → ∃ y ∈ f.lays c, cntL y = cntL x := fun c x hx => by
    have h := lays_rot hg (f.cols.length - r) c x hx
    rw [hb] at h
    exact ⟨_, h, cnt_rot _ x⟩
  have hl : ∀ c, (f.withC (f.cols.drop r ++ f.cols.take r)).locks c = true ↔ f.locks c = true := fun c => by
    rw [locks_iff, locks_iff]
    exact ⟨fun ⟨x, hx⟩ => by obtain ⟨y, hy, -⟩ := hdn c x hx; exact ⟨y, hy⟩, fun ⟨x, hx⟩ => by obtain ⟨y, hy, -⟩ := hup c x hx; exact ⟨y, hy⟩⟩
  refine ⟨hg, Int.le_antisymm (strips_le_map ho hg (hup 0)) (strips_le_map hg ho (hdn 0)), Int.le_antisymm (lost_le ho hg rfl (fun c => payTo_same (f := f) (g := f.withC (f.cols.drop r ++ f.cols.take r)) (fun i => rfl) c _) fun c hc => (hl c).2 hc) (lost_le hg ho rfl (fun c => payTo_same (f := f.withC (f.cols.drop r ++ f.cols.take r)) (g := f) (fun i => rfl) c _) fun c hc => (hl c).1 hc)⟩
def rotL (f : Nat) (xs : List (List Int)) : List (List Int) := xs.drop (f % xs.length) ++ xs.take (f % xs.length)
theorem rot_perm (f : Nat) (xs : List (List Int)) : (rotL f xs).Perm xs := by
  have h := List.perm_append_comm (l₁ := xs.drop (f % xs.length)) (l₂ := xs.take (f % xs.length))
  rwa [List.take_append_drop] at h
theorem rot_len (f : Nat) (xs : List (List Int)) : (rotL f xs).length = xs.length := (rot_perm f xs).length_eq
theorem rot_get? (f : Nat) (xs : List (List Int)) (k : Nat) (hk : k < xs.length) : (rotL f xs)[k]? = xs[(k + f) % xs.length]? := by
  have hr : f % xs.length < xs.length := Nat.mod_lt _ (by omega)
  unfold rotL
  have e : (k + f) % xs.length = if k < xs.length - f % xs.length then f % xs.length + k else k - (xs.length - f % xs.length) := by
    rw [Nat.add_mod, Nat.mod_eq_of_lt hk]
    split
    · rw [Nat.mod_eq_of_lt (by omega)]; omega
    · rw [Nat.mod_eq_sub_mod (by omega), Nat.mod_eq_of_lt (by omega)]; omega
  by_cases h : k < xs.length - f % xs.length
  · rw [if_pos h] at e
    rw [List.getElem?_append_left (by rw [List.length_drop]; exact h), List.getElem?_drop, e]
  · rw [if_neg h] at e
    rw [List.getElem?_append_right (by rw [List.length_drop]; omega), List.length_drop, List.getElem?_take, if_pos (by omega), e]
theorem rot_get (f : Nat) (xs : List (List Int)) (k : Nat) (hk : k < xs.length) (h1 : k < (rotL f xs).length) (h2 : (k + f) % xs.length < xs.length) : (rotL f xs)[k] = xs[(k + f) % xs.length] := by
  have h := rot_get? f xs k hk
  rw [List.getElem?_eq_getElem h1, List.getElem?_eq_getElem h2] at h
  exact Option.some.inj h
def mixL (f : Nat) (xs : List (List Int)) (k : Nat) : List (List Int) := (rotL f xs).take k ++ xs.drop k
theorem mix_zero (f : Nat) (xs : List (List Int)) : mixL f xs 0 = xs := by simp [mixL]
theorem mix_all (f : Nat) (xs : List (List Int)) : mixL f xs xs.length = rotL f xs := by
  unfold mixL
  rw [List.take_of_length_le (by rw [rot_len]; exact Nat.le_refl _), List.drop_of_length_le (Nat.le_refl _), List.append_nil]
theorem mix_len (f : Nat) (xs : List (List Int)) (k : Nat) : (mixL f xs k).length = xs.length := by
  unfold mixL; rw [List.length_append, List.length_take, rot_len, List.length_drop]; omega
theorem mix_next (f : Nat) (xs : List (List Int)) (k : Nat) (hk : k < xs.length) (h2 : (k + f) % xs.length < xs.length) : mixL f xs (k + 1) = (mixL f xs k).set k xs[(k + f) % xs.length] := by
  have h1 : k < (rotL f xs).length := by rw [rot_len]; exact hk
  unfold mixL
  rw [List.take_succ_eq_append_getElem h1, rot_get f xs k hk h1 h2, List.append_assoc]
  have hl : ((rotL f xs).take k).length = k := by rw [List.length_take]; omega
  rw [List.set_append_right _ _ (by omega), hl, Nat.sub_self, List.drop_eq_getElem_cons hk, List.set_cons_zero]
  rfl
theorem mix_mem (f : Nat) (xs : List (List Int)) (k : Nat) : ∀ x ∈ mixL f xs k, x ∈ xs := by
  intro x hx
  rcases List.mem_append.1 hx with h | h
  · exact (rot_perm f xs).mem_iff.1 (List.mem_of_mem_take h)
  · exact List.mem_of_mem_drop h


theorem rot_same {f : PFrame} (ho : f.ok = true) (m : Nat) : (f.withC (rotL m f.cols)).ok = true ∧ (f.withC (rotL m f.cols)).stripsN = f.stripsN ∧ (f.withC (rotL m f.cols)).lostN = f.lostN := by
  rcases Nat.eq_zero_or_pos f.cols.length with h | h
  · have e : rotL m f.cols = f.cols := by
      have : f.cols = [] := List.length_eq_zero_iff.1 h
      rw [this]; simp [rotL]
    rw [e]
    exact ⟨ho, rfl, rfl⟩
  · exact order_same ho _ (Nat.le_of_lt (Nat.mod_lt _ h))
theorem at_withC {f : PFrame} {cs : List (List Int)} (h : cs.Perm f.cols) {n : Int} {ci k : Nat} (ha : (f.withC cs).at n ci k) : ∃ di, f.at n di k ∧ (f.withC cs).ahead ci k = f.ahead di k := by
  obtain ⟨h1, h2, h3⟩ := ha
  have hm : cs[ci] ∈ f.cols := h.mem_iff.1 (List.getElem_mem h1)
  obtain ⟨di, hd, e⟩ := List.getElem_of_mem hm
  have h1' : ci < cs.length := h1
  refine ⟨di, ⟨hd, by rw [e]; exact h2, ?_⟩, ?_⟩
  · have : ∀ (l : List Int) (e : f.cols[di] = l) (hk : k < l.length) (hk' : k < f.cols[di].length), f.cols[di][k] = l[k] := fun l e hk hk' => by subst e; rfl
    rw [this _ e h2]
    exact h3
  · unfold PFrame.ahead
    show ((cs[ci]?).getD []).take k = _
    rw [List.getElem?_eq_getElem h1', List.getElem?_eq_getElem hd, e]
    rfl
theorem gap_withC {f : PFrame} {cs : List (List Int)} (h : cs.Perm f.cols) {one other : Int} {e : Ending} (hg : GapPost2 (f.withC cs) one other e) : GapPost2 f one other e := by
  obtain ⟨ci, a, di, b, h1, h2, rfl⟩ := hg
  obtain ⟨ci', k1, e1⟩ := at_withC h h1
  obtain ⟨di', k2, e2⟩ := at_withC h h2
  refine ⟨ci', a, di', b, k1, k2, ?_⟩
  rw [e1, e2]
  rfl
/-- Gap of a frame, and of one whose columns come in another order. -/
theorem gap_both {f : PFrame} (ho : f.ok = true) {cs : List (List Int)} (h : cs.Perm f.cols) (one other : Int) : ∃ L H v : Int,
    (∀ (sa : Option Addr) (sl sc : Nat) (pa : Option Addr) (pl pc : Nat) (ca : Option Addr) (cl cc : Nat) (w : World), PAt w sa sl sc pa pl pc ca cl cc f → Calls Try.prog 44 #[.agg #[.int .i64 f.len, .int .i64 f.slack, .slice sa sl sc, .slice pa pl pc, .slice ca cl cc], .int .i64 one, .int .i64 other] w fun e w' => e = .returned (.tuple #[.agg #[.int .i64 L, .int .i64 H], .int .i64 v]) ∧ Below w.heap.size w w') ∧
    (∀ (sa : Option Addr) (sl sc : Nat) (pa : Option Addr) (pl pc : Nat) (ca : Option Addr) (cl cc : Nat) (w : World), PAt w sa sl sc pa pl pc ca cl cc (f.withC cs) → Calls Try.prog 44 #[.agg #[.int .i64 f.len, .int .i64 f.slack, .slice sa sl sc, .slice pa pl pc, .slice ca cl cc], .int .i64 one, .int .i64 other] w fun e w' => e = .returned (.tuple #[.agg #[.int .i64 L, .int .i64 H], .int .i64 v]) ∧ Below w.heap.size w w') := by
  have hg : (f.withC cs).ok = true := by rw [withC_ok h]; exact ho
  have hG : (f.withC cs).gapE one other = f.gapE one other := by
    unfold PFrame.gapE PFrame.name
    rw [ho, hg]
    rfl
  by_cases hv : f.gapE one other = 0
  · have hb : (btw one 0 ((f.pieces.length : Int) - 1) && btw other 0 ((f.pieces.length : Int) - 1)) = true := by
      unfold PFrame.gapE PFrame.name at hv
      rw [if_pos ho] at hv
      revert hv
      cases (btw one 0 ((f.pieces.length : Int) - 1) && btw other 0 ((f.pieces.length : Int) - 1)) <;> simp
    simp only [Bool.and_eq_true] at hb
    have j1 : 0 ≤ one ∧ one < (f.pieces.length : Int) := by have := hb.1; unfold btw at this; simp at this; omega
    have j2 : 0 ≤ other ∧ other < (f.pieces.length : Int) := by have := hb.2; unfold btw at this; simp at this; omega
    obtain ⟨ci, a, ha⟩ := at_some ho j1.1 j1.2
    obtain ⟨di, b, hb⟩ := at_some ho j2.1 j2.2
    have hq : ∀ e, GapPost2 f one other e → e = .returned (.tuple #[.agg #[.int .i64 (f.gapLo (f.ahead ci a) (f.ahead di b)), .int .i64 (f.gapHi (f.ahead ci a) (f.ahead di b))], .int .i64 0]) := by
      rintro e ⟨c', a', d', b', q1, q2, rfl⟩
      obtain ⟨rfl, rfl⟩ := at_one ho ha q1
      obtain ⟨rfl, rfl⟩ := at_one ho hb q2
      rfl
    refine ⟨f.gapLo (f.ahead ci a) (f.ahead di b), f.gapHi (f.ahead ci a) (f.ahead di b), 0, fun sa sl sc pa pl pc ca cl cc w hp => ?_, fun sa sl sc pa pl pc ca cl cc w hp => ?_⟩
    · exact (Gap_yes f sa sl sc pa pl pc ca cl cc one other ho j1.1 j1.2 j2.1 j2.2 w hp).mono fun e w' k => ⟨hq e k.1, k.2⟩
    · exact (Gap_yes (f.withC cs) sa sl sc pa pl pc ca cl cc one other hg j1.1 j1.2 j2.1 j2.2 w hp).mono fun e w' k => ⟨hq e (gap_withC h k.1), k.2⟩
  · refine ⟨0, 0, f.gapE one other, fun sa sl sc pa pl pc ca cl cc w hp => Gap_no f sa sl sc pa pl pc ca cl cc one other _ rfl hv w hp, fun sa sl sc pa pl pc ca cl cc w hp => Gap_no (f.withC cs) sa sl sc pa pl pc ca cl cc one other _ hG hv w hp⟩
section
variable {f : PFrame} {n0 sl pl cl : Nat} {gs : Addr} {gsc : Nat} {gp : Addr} {gpc : Nat} {vs : List Value} {N1 : Nat} {w w' : World}
theorem PRow.cap {va : Option Addr} {vc : Nat} (h : PRow f n0 sl pl cl gs gsc gp gpc va vc vs N1 w) (hn : n0 ≤ w.heap.size) : PRow f n0 sl pl cl gs gsc gp gpc va vc vs (min N1 w.heap.size) w := by
  obtain ⟨h1, h2, h4, h5, h6⟩ := h
  refine ⟨h1, h2, h4, ⟨h5.1, fun i hi => ?_⟩, by omega⟩
  obtain ⟨ga, c, e1, e3, e2⟩ := h5.2 i hi
  exact ⟨ga, c, e1, e3, e2.low (Nat.min_le_left _ _)⟩
theorem PRow.setCol {gv vc n2 : Nat} (h : PRow f n0 sl pl cl gs gsc gp gpc (some ⟨gv, 0, none⟩) vc vs N1 w) (i : Nat) (ga : Addr) (x : List Int) (c : Nat) (hcap : x.length ≤ c ∧ c ≤ maxLen) (hx : FRow w n2 3 1 (some ga) x.length c (x.map (Value.int .i64))) (hn : N1 ≤ n2) :
    PRow (f.withC (f.cols.set i x)) n0 sl pl cl gs gsc gp gpc (some ⟨gv, 0, none⟩) vc (vs.set i (.slice (some ga) x.length c)) N1 (w.setCell ⟨gv, i, none⟩ (.slice (some ga) x.length c)) := by
  obtain ⟨h1, h2, h4, h5, h6⟩ := h
  obtain ⟨hg0, cur, hc⟩ := own_parts h4
  have hg : w.grownBy (w.setCell ⟨gv, i, none⟩ (.slice (some ga) x.length c)) (some gv) := gbx_set (gbx_refl _ _) _ _
  have hne : ∀ {e : TypeId} {N : Nat}, 27 ≠ e → ∀ r, some gv = some r → (∃ (c : Array Value) (e' : TypeId), w.heap[r]? = some (.cells c e' (0, 0)) ∧ e' ≠ e) ∨ r < N ∨ w.heap.size ≤ r := fun he r hr => by
    injection hr with hr; subst hr; exact .inl ⟨cur, _, hc, he⟩
  refine ⟨h1.kept hg (hne (by decide)), h2.kept hg (hne (by decide)), own_set h4 i _, ⟨by show (vs.set i _).length = (f.cols.set i x).length; rw [List.length_set, List.length_set]; exact h5.1, fun q hq => ?_⟩, h6⟩
  have hq' : q < f.cols.length := by have : q < (f.cols.set i x).length := hq; rwa [List.length_set] at this
  by_cases e : i = q
  · subst e
    have e1 : (f.withC (f.cols.set i x)).cols[i] = x := by simp [PFrame.withC]
    rw [e1]
    exact ⟨ga, c, by rw [List.getElem?_set_self (by rw [h5.1]; exact hq')], hcap, (hx.kept hg (hne (by decide))).low hn⟩
  · have e1 : (f.withC (f.cols.set i x)).cols[q] = f.cols[q] := by simp [PFrame.withC, List.getElem_set_ne e]
    rw [e1]
    obtain ⟨gb, cb, f1, f3, f2⟩ := h5.2 q hq'
    exact ⟨gb, cb, by rw [List.getElem?_set_ne e]; exact f1, f3, f2.kept hg (hne (by decide))⟩
end
end Go.Proofs.Ytodlfmbfjnldiaa
