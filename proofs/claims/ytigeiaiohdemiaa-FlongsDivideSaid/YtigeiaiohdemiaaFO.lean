/- Package flongs: what is spared with some shares; the greatest of what is asked of all shares. -/
import Derived.Test.YtigeiaiohdemiaaFN
namespace Go.Proofs.Ytigeiaiohdemiaa
set_option linter.unusedVariables false
set_option linter.unusedSimpArgs false
open Go.RowKit Go.Shelf

theorem sharesB_cons (m : Mould) (ms : List Mould) (n : Int) (z : List Int) : sharesB (m :: ms) (n :: z) = (btw n 0 m.most && sharesB ms z) := by
  simp only [sharesB, List.length_cons, List.zip_cons_cons, List.all_cons]
  have : decide (z.length + 1 = ms.length + 1) = decide (z.length = ms.length) := by simp
  rw [this]; cases decide (z.length = ms.length) <;> cases btw n 0 m.most <;> simp
theorem justsF_mem : ∀ (ms : List Mould) (cur x y : List Int), y ∈ justsF ms cur x → ∃ z, y = x ++ z ∧ sharesB ms z = true
  | [], cur, x, y, h => by
    unfold justsF at h
    split at h
    · simp at h
    · simp at h; exact ⟨[], by simp [h], rfl⟩
  | m :: ms, cur, x, y, h => by
    unfold justsF at h
    obtain ⟨n, hn, hy⟩ := List.mem_flatMap.1 h
    obtain ⟨z, rfl, hz⟩ := justsF_mem ms _ _ y hy
    refine ⟨(n : Int) :: z, by simp, ?_⟩
    rw [sharesB_cons, hz, Bool.and_true]
    have := List.mem_range.1 hn
    simp only [btw, decide_eq_true_eq]
    omega
theorem just_shares {s : FShop} {x : List Int} (h : x ∈ s.justs) : sharesB s.moulds x = true := by
  obtain ⟨z, e, hz⟩ := justsF_mem _ _ _ _ h
  rw [e]; simpa using hz
theorem Mould.most_bd (m : Mould) : 0 ≤ m.most ∧ m.most ≤ 12 := by unfold Mould.most; split <;> omega
theorem shares_bd {ms : List Mould} {x : List Int} (h : sharesB ms x = true) : x.length = ms.length ∧ ∀ i (hi : i < x.length), 0 ≤ x[i] ∧ x[i] ≤ 12 := by
  simp only [sharesB, Bool.and_eq_true, decide_eq_true_eq] at h
  refine ⟨h.1, fun i hi => ?_⟩
  have hm : i < ms.length := by omega
  have := List.all_eq_true.1 h.2 (ms[i], x[i]) (List.mem_iff_getElem.2 ⟨i, by simp; omega, by simp⟩)
  simp only [btw, decide_eq_true_eq] at this
  have := Mould.most_bd ms[i]
  omega

/-- What is spared with the first so many shares. -/
def sparedTo (g : Nat → Int) (x : List Int) (k : Nat) : Int := (x.zipIdx.take k).foldl (fun a q => if 0 < q.1 then min a (g q.2 - q.1) else a) 12
def sparedOf (g : Nat → Int) (x : List Int) : Int := sparedTo g x x.length
theorem sparedTo_next {g : Nat → Int} {x : List Int} {k : Nat} (h : k < x.length) : sparedTo g x (k + 1) = if 0 < x[k] then min (sparedTo g x k) (g k - x[k]) else sparedTo g x k := by
  unfold sparedTo
  rw [List.take_succ_eq_append_getElem (by simpa using h), List.foldl_append, List.getElem_zipIdx, Nat.zero_add]; rfl
theorem sparedTo_bd {g : Nat → Int} {x : List Int} (hg : ∀ t, -100 ≤ g t ∧ g t ≤ 100) (hx : ∀ i (h : i < x.length), 0 ≤ x[i] ∧ x[i] ≤ 12) : ∀ k, k ≤ x.length → -200 ≤ sparedTo g x k ∧ sparedTo g x k ≤ 12
  | 0, _ => by simp [sparedTo]
  | k + 1, h => by
    have h1 := sparedTo_bd hg hx k (by omega)
    have h2 := hg k
    have h3 := hx k (by omega)
    rw [sparedTo_next (by omega)]
    split <;> omega

set_option maxRecDepth 100000 in
set_option maxHeartbeats 4000000 in
theorem spared_any (g : Nat → Int) (hg : ∀ t, -100 ≤ g t ∧ g t ≤ 100) (Sb : Nat) (xa : Option Addr) (xl xc : Nat) (x : List Int) (w : World) (hc : ∀ t, t < 5 → w.cell? ⟨Sb, t, none⟩ = some (.int .i64 (g t))) (hx : IntsAt w xa xl x) (h5 : xl ≤ 5)
    (hxb : ∀ i (h : i < x.length), 0 ≤ x[i] ∧ x[i] ≤ 12) :
    Calls Try.prog 78 #[.slice xa xl xc, .pointer (some ⟨Sb, 0, none⟩)] w fun e w' => e = .returned (.int .i64 (sparedOf g x)) ∧ Below w.heap.size w w' := by
  obtain ⟨hxl, -, hxc⟩ := hx
  have HXL := Lib.hid hxl
  have HXC := Lib.hid hxc
  have HC := Lib.hid hc
  have HG := Lib.hid hg
  have HXB := Lib.hid hxb
  have HBD := Lib.hid (fun k (hk : k ≤ x.length) => sparedTo_bd hg hxb k hk)
  clear hxl hxc hc hg hxb
  go_enter Try.func78, Try.ntmps78
  go_wp2_with fail
  go_loopw [4, 9] (fun v4 i wr => ∃ k : Nat, k ≤ xl ∧ i = .int .i64 k ∧ v4 = .int .i64 (sparedTo g x k) ∧ w = wr) (fun _ i _ => xl - (intOf i).toNat)
  case atStart => exact ⟨0, by omega, rfl, rfl, rfl⟩
  case round =>
    obtain ⟨k, hk, rfl, rfl, rfl⟩ := hrel
    by_cases hlt : k < xl
    · have hk3 : k < x.length := by rw [HXL.out]; exact hlt
      obtain ⟨b', o', rfl, hbB', hcell'⟩ := HXC.out (by omega)
      have hcx := hcell' k hk3
      have hcg := HC.out k (by omega)
      have hkl : (k : Int) < (xl : Int) := by omega
      have hk0 : (0 : Int) ≤ (k : Int) := by omega
      have hkl5 : (k : Int) < 5 := by omega
      have hgk := HG.out k
      have hxk := HXB.out k hk3
      have hsk := HBD.out k (by omega)
      have HN := Lib.hid (sparedTo_next (g := g) hk3)
      clear hcell'
      generalize x[k] = n at *
      generalize g k = gk at *
      generalize hsp : sparedTo g x k = sp at *
      have hwr : IntKind.i64.wrap (gk - n) = gk - n := IntWalk.i64_in _ ⟨by omega, by omega⟩
      by_cases h0 : 0 < n
      · have HN' := Lib.hid (show sparedTo g x (k + 1) = min sp (gk - n) by rw [HN.out, if_pos h0])
        clear HN
        go_wp2_with fail
        go_roundw
        case rel => exact ⟨k + 1, by omega, by go_num, by rw [HN'.out]; first | rfl | (congr 1; omega), trivial⟩
        case measure => simp [intOf]; omega
      · have HN' := Lib.hid (show sparedTo g x (k + 1) = sp by rw [HN.out, if_neg h0])
        clear HN
        go_wp2_with fail
        go_roundw
        case rel => exact ⟨k + 1, by omega, by go_num, by rw [HN'.out], trivial⟩
        case measure => simp [intOf]; omega
    · obtain rfl : xl = k := by omega
      have HR := Lib.hid (show sparedOf g x = sparedTo g x xl by rw [sparedOf, HXL.out])
      go_wp2_with fail
      go_ret
      exact ⟨by rw [HR.out]; rfl, Below.refl _ _⟩

/-- The greatest of what is asked, and the first list of which it is asked. -/
def stepF (f : List Int → Int) (o : Option (List Int × Int)) (x : List Int) : Option (List Int × Int) :=
  match o with
  | none => some (x, f x)
  | some (y, m) => if m < f x then some (x, f x) else some (y, m)
def bestF (f : List Int → Int) (l : List (List Int)) : Option (List Int × Int) := l.foldl (stepF f) none
theorem bestF_snoc (f : List Int → Int) (l : List (List Int)) (x : List Int) : bestF f (l ++ [x]) = stepF f (bestF f l) x := by simp [bestF]
end Go.Proofs.Ytigeiaiohdemiaa
