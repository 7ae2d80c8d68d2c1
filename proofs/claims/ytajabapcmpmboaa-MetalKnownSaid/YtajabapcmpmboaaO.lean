/- The lists of numbers of pigs, one behind the other. -/
import Derived.Test.YtajabapcmpmboaaA
namespace Go.Proofs.Ytajabapcmpmboaa
set_option linter.unusedVariables false
set_option linter.unusedSimpArgs false

/-- The list behind a list, by how many there are of each kind. -/
def nextL : List Int → List Int → Option (List Int)
  | m :: ms, n :: ns => match nextL ms ns with
    | some r => some (n :: r)
    | none => if n < m then some ((n + 1) :: List.replicate ns.length 0) else none
  | _, _ => none
/-- All lists, the least first. -/
def allL : List Int → List (List Int)
  | [] => [[]]
  | m :: ms => (List.range (m.toNat + 1)).flatMap fun (n : Nat) => (allL ms).map fun r => (n : Int) :: r

theorem nextL_some : ∀ (ms ns : List Int) (k : Nat) (hk : k < ns.length) (hm : k < ms.length), ms.length = ns.length → (∀ j (h : j < ns.length) (h' : j < ms.length), k < j → ¬ ns[j] < ms[j]) → ns[k] < ms[k] →
    nextL ms ns = some (ns.take k ++ (ns[k] + 1) :: List.replicate (ns.length - k - 1) 0)
  | [], _, _, _, hm, _, _, _ => by simp at hm
  | _ :: _, [], _, hk, _, _, _, _ => by simp at hk
  | m :: ms, n :: ns, 0, _, _, hl, ha, hlt => by
    have hn : nextL ms ns = none := nextL_none ms ns (by simpa using hl) fun j h h' => by
      have := ha (j + 1) (by simpa using h) (by simpa using h') (by omega)
      simpa using this
    simp only [List.getElem_cons_zero] at hlt
    simp [nextL, hn, hlt]
  | m :: ms, n :: ns, k + 1, hk, hm, hl, ha, hlt => by
    have := nextL_some ms ns k (by simpa using hk) (by simpa using hm) (by simpa using hl) (fun j h h' hj => by
      have := ha (j + 1) (by simpa using h) (by simpa using h') (by omega)
      simpa using this) (by simpa using hlt)
    simp [nextL, this]
where nextL_none : ∀ (ms ns : List Int), ms.length = ns.length → (∀ j (h : j < ns.length) (h' : j < ms.length), ¬ ns[j] < ms[j]) → nextL ms ns = none
  | [], [], _, _ => rfl
  | [], _ :: _, hl, _ => by simp at hl
  | _ :: _, [], hl, _ => by simp at hl
  | m :: ms, n :: ns, hl, ha => by
    have hn := nextL_none ms ns (by simpa using hl) fun j h h' => by
      have := ha (j + 1) (by simpa using h) (by simpa using h')
      simpa using this
    have h0 := ha 0 (by simp) (by simp)
    simp only [List.getElem_cons_zero] at h0
    simp [nextL, hn, h0]

/-- Each is followed by the next one. -/
def Follows (f : List Int → Option (List Int)) : List Int → List (List Int) → Prop
  | x, [] => f x = none
  | x, y :: r => f x = some y ∧ Follows f y r

theorem follows_cons (m n : Int) (ms : List Int) (z : List Int) : ∀ (r : List (List Int)) (x : List Int) (q : List (List Int)), Follows (nextL ms) x r → (∀ y, nextL ms y = none → y.length = z.length → Follows (nextL (m :: ms)) (n :: y) q) →
    (∀ y ∈ x :: r, y.length = z.length) → Follows (nextL (m :: ms)) (n :: x) (r.map (fun y => n :: y) ++ q)
  | [], x, q, h, hq, hl => hq x h (hl x (by simp))
  | y :: r, x, q, h, hq, hl => ⟨by simp [nextL, h.1], follows_cons m n ms z r y q h.2 hq fun u hu => hl u (List.mem_cons_of_mem _ hu)⟩

theorem allL_len : ∀ (ms : List Int) (x : List Int), x ∈ allL ms → x.length = ms.length
  | [], x, h => by simp [allL] at h; simp [h]
  | m :: ms, x, h => by
    simp only [allL, List.mem_flatMap, List.mem_map] at h
    obtain ⟨n, _, y, hy, rfl⟩ := h
    simp [allL_len ms y hy]

theorem follows_range (m : Int) (ms : List Int) (z : List Int) (r : List (List Int)) (hz : z = List.replicate ms.length 0) (hf : Follows (nextL ms) z r) (hl : ∀ y ∈ z :: r, y.length = z.length) :
    ∀ (d : Nat) (n : Int), 0 ≤ n → n + d = m → Follows (nextL (m :: ms)) (n :: z) (r.map (fun y => n :: y) ++ ((List.range d).flatMap fun (i : Nat) => (z :: r).map fun y => (n + 1 + (i : Int)) :: y))
  | 0, n, h0, hm => by
    have hq := follows_cons m n ms z r z [] hf (fun y hy _ => by
      have : ¬ n < m := by omega
      simp [Follows, nextL, hy, this]) hl
    simpa using hq
  | d + 1, n, h0, hm => by
    have ih := follows_range m ms z r hz hf hl d (n + 1) (by omega) (by omega)
    have he : ((List.range (d + 1)).flatMap fun (i : Nat) => (z :: r).map fun y => (n + 1 + (i : Int)) :: y) = ((n + 1) :: z) :: (r.map (fun y => (n + 1) :: y) ++ ((List.range d).flatMap fun (i : Nat) => (z :: r).map fun y => (n + 1 + 1 + (i : Int)) :: y)) := by
      rw [List.range_succ_eq_map, List.flatMap_cons, List.flatMap_map]
      have e : (fun (a : Nat) => (z :: r).map fun y => (n + 1 + ((Nat.succ a : Nat) : Int)) :: y) = fun (i : Nat) => (z :: r).map fun y => (n + 1 + 1 + (i : Int)) :: y := by
        funext a
        have : n + 1 + ((Nat.succ a : Nat) : Int) = n + 1 + 1 + (a : Int) := by omega
        rw [this]
      rw [e]
      simp
    rw [he]
    refine follows_cons m n ms z r z _ hf (fun y hy hyl => ⟨?_, ih⟩) hl
    have : n < m := by omega
    simp [nextL, hy, this, hyl, hz]

/-- All lists: the first has nothing but 0, each is followed by the next one, the last by none. -/
theorem allL_follows : ∀ (ms : List Int), (∀ m ∈ ms, 0 ≤ m) → ∃ r, allL ms = List.replicate ms.length 0 :: r ∧ Follows (nextL ms) (List.replicate ms.length 0) r
  | [], _ => ⟨[], rfl, rfl⟩
  | m :: ms, h => by
    obtain ⟨r, hr, hf⟩ := allL_follows ms fun x hx => h x (List.mem_cons_of_mem _ hx)
    have hm : 0 ≤ m := h m (by simp)
    have hl : ∀ y ∈ List.replicate ms.length (0 : Int) :: r, y.length = (List.replicate ms.length (0 : Int)).length := fun y hy => by
      rw [← hr] at hy; simp [allL_len ms y hy]
    have hfr := follows_range m ms _ r rfl hf hl m.toNat 0 (by omega) (by omega)
    refine ⟨_, ?_, hfr⟩
    rw [allL, List.range_succ_eq_map, List.flatMap_cons, List.flatMap_map, hr]
    have e : (fun (a : Nat) => (List.replicate ms.length (0 : Int) :: r).map fun y => ((Nat.succ a : Nat) : Int) :: y) = fun (i : Nat) => (List.replicate ms.length (0 : Int) :: r).map fun y => (0 + 1 + (i : Int)) :: y := by
      funext a
      have : ((Nat.succ a : Nat) : Int) = 0 + 1 + (a : Int) := by omega
      rw [this]
    rw [e]
    simp [List.replicate_succ]
end Go.Proofs.Ytajabapcmpmboaa
