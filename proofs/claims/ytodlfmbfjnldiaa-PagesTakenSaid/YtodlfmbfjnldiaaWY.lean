/- Mathematics of PagesTaken: a piece of no height changes no room. -/
import Derived.Test.YtodlfmbfjnldiaaWU
import Derived.Test.YtodlfmbfjnldiaaWE
namespace Go.Proofs.Ytodlfmbfjnldiaa
set_option linter.unusedVariables false
set_option linter.unusedSimpArgs false
open Go.RowKit Go.Shelf

theorem wider_get : ∀ {rs qs : List (Int × Int)}, rs.length = qs.length → (∀ i (h : i < rs.length) (h' : i < qs.length), qs[i].1 ≤ rs[i].1 ∧ rs[i].2 ≤ qs[i].2) → wider rs qs
  | [], [], _, _ => trivial
  | [], _ :: _, h, _ => by simp at h
  | _ :: _, [], h, _ => by simp at h
  | r :: rs, q :: qs, h, hh => by
    have h0 := hh 0 (by simp) (by simp)
    simp only [List.getElem_cons_zero] at h0
    refine ⟨h0.1, h0.2, wider_get (by simpa using h) fun i h1 h2 => ?_⟩
    have := hh (i + 1) (by simp; omega) (by simp; omega)
    simpa using this
theorem put_lo {f : PFrame} {c : Nat} {p : Piece} {x : Int} (h0 : 0 ≤ x) (h1 : x < (f.pieces.length : Int)) : (f.put c p).lo x = f.lo x := by
  unfold PFrame.lo PFrame.put
  simp only
  rw [List.getElem?_append_left (by omega)]
theorem put_hi {f : PFrame} {c : Nat} {p : Piece} {x : Int} (h0 : 0 ≤ x) (h1 : x < (f.pieces.length : Int)) : (f.put c p).hi x = f.hi x := by
  unfold PFrame.hi PFrame.put
  simp only
  rw [List.getElem?_append_left (by omega)]
theorem put_lo' {f : PFrame} {c : Nat} {p : Piece} : (f.put c p).lo (f.pieces.length : Int) = p.lo := by
  unfold PFrame.lo PFrame.put
  simp
theorem put_hi' {f : PFrame} {c : Nat} {p : Piece} : (f.put c p).hi (f.pieces.length : Int) = p.hi := by
  unfold PFrame.hi PFrame.put
  simp
theorem sum_same {g h : Int → Int} : ∀ {xs : List Int}, (∀ x ∈ xs, g x = h x) → sumG g xs = sumG h xs
  | [], _ => rfl
  | x :: xs, hh => by
    have h1 := hh x (by simp)
    have h2 := sum_same (xs := xs) (fun y hy => hh y (by simp [hy]))
    simp only [sumG]; omega
/-- What stands in a column of the frame with the piece, and how high it is. -/
theorem put_sums {f : PFrame} (ho : f.ok = true) {c : Nat} {p : Piece} (hg : (f.put c p).ok = true) (h0 : p.hi ≤ 0) (b i : Nat) (hi : i < f.cols.length) (hi' : i < (f.put c p).cols.length) :
    (f.put c p).loS (keepC b (f.put c p).cols[i]) = f.loS (keepC b f.cols[i]) ∧ (f.put c p).hiS (keepC b (f.put c p).cols[i]) = f.hiS (keepC b f.cols[i]) := by
  have hpc := PFrame.ok_piece hg f.pieces.length (by unfold PFrame.put; simp)
  have e1 : (f.put c p).pieces[f.pieces.length]'(by unfold PFrame.put; simp) = p := by unfold PFrame.put; simp
  rw [e1] at hpc
  have z1 : p.hi = 0 := by omega
  have z2 : p.lo = 0 := by omega
  have hin := (PFrame.ok_col ho i hi).1
  have hlo : ∀ x ∈ keepC b f.cols[i], (f.put c p).lo x = f.lo x := fun x hx => put_lo (hin x (List.mem_filter.1 hx).1).1 (hin x (List.mem_filter.1 hx).1).2
  have hhi : ∀ x ∈ keepC b f.cols[i], (f.put c p).hi x = f.hi x := fun x hx => put_hi (hin x (List.mem_filter.1 hx).1).1 (hin x (List.mem_filter.1 hx).1).2
  have s1 := sum_same hlo
  have s2 := sum_same hhi
  by_cases e : c = i
  · subst e
    have e2 : (f.put c p).cols[c]'hi' = f.cols[c] ++ [(f.pieces.length : Int)] := by unfold PFrame.put; simp [hi]
    rw [e2]
    have e3 : keepC b (f.cols[c] ++ [(f.pieces.length : Int)]) = keepC b f.cols[c] ++ keepC b [(f.pieces.length : Int)] := by unfold keepC; rw [List.filter_append]
    rw [e3]
    unfold PFrame.loS PFrame.hiS
    rw [sumG_app, sumG_app, s1, s2]
    have t : keepC b [(f.pieces.length : Int)] = [] ∨ keepC b [(f.pieces.length : Int)] = [(f.pieces.length : Int)] := by
      unfold keepC
      rw [List.filter_cons]
      split
      · exact .inr rfl
      · exact .inl rfl
    rcases t with t | t
    · rw [t]; simp [sumG]
    · rw [t]
      simp only [sumG]
      rw [put_lo', put_hi']
      omega
  · have e2 : (f.put c p).cols[i]'hi' = f.cols[i] := List.getElem_set_ne e (by simpa [PFrame.put] using hi')
    rw [e2]
    exact ⟨s1, s2⟩
theorem put_zero {f : PFrame} (ho : f.ok = true) {c : Nat} {p : Piece} (hg : (f.put c p).ok = true) (h0 : p.hi ≤ 0) : (f.put c p).stripsN = f.stripsN := by
  have hl : (f.put c p).cols.length = f.cols.length := by unfold PFrame.put; simp
  have hr : ∀ b i (h1 : i < (f.roomsOf b).length) (h2 : i < ((f.put c p).roomsOf b).length), ((f.put c p).roomsOf b)[i] = (f.roomsOf b)[i] := fun b i h1 h2 => by
    have k1 : i < f.cols.length := by unfold PFrame.roomsOf at h1; simpa using h1
    have k2 : i < (f.put c p).cols.length := by omega
    obtain ⟨t1, t2⟩ := put_sums ho hg h0 b i k1 k2
    have g1 : ((f.put c p).roomsOf b)[i] = ((f.put c p).roomLo (keepC b (f.put c p).cols[i]), (f.put c p).roomHi (keepC b (f.put c p).cols[i])) := List.getElem_map _
    have g2 : (f.roomsOf b)[i] = (f.roomLo (keepC b f.cols[i]), f.roomHi (keepC b f.cols[i])) := List.getElem_map _
    rw [g1, g2]
    unfold PFrame.roomLo PFrame.roomHi
    rw [t1, t2]
    rfl
  have hln : ∀ b, (f.roomsOf b).length = ((f.put c p).roomsOf b).length := fun b => by unfold PFrame.roomsOf; simp [hl]
  refine Int.le_antisymm ?_ ?_
  · refine strips_le ho hg fun x hx => lays_wider ho hg (fun s => rfl) ⟨Int.le_refl _, Int.le_refl _, Int.le_refl _⟩ 0 (wider_get (hln 0) fun i h1 h2 => ?_) x hx
    rw [hr 0 i h1 h2]; exact ⟨Int.le_refl _, Int.le_refl _⟩
  · refine strips_le hg ho fun x hx => lays_wider hg ho (fun s => rfl) ⟨Int.le_refl _, Int.le_refl _, Int.le_refl _⟩ 0 (wider_get (hln 0).symm fun i h1 h2 => ?_) x hx
    rw [hr 0 i h2 h1]; exact ⟨Int.le_refl _, Int.le_refl _⟩
/-- What Takes finds, in words of the fewest strips. -/
theorem put_locks {f : PFrame} {c : Nat} {p : Piece} (hg : (f.put c p).ok = true) : (f.put c p).locks 0 = decide ((f.put c p).stripsN < 100000) := by
  obtain ⟨-, h⟩ := stripsN_none hg
  rcases hb : (f.put c p).locks 0 with - | -
  · have : ¬ (f.put c p).stripsN < 100000 := fun e => by rw [h.1 e] at hb; cases hb
    simp [this]
  · simp [h.2 hb]
end Go.Proofs.Ytodlfmbfjnldiaa
