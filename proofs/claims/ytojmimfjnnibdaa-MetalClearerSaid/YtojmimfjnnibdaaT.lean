/- A copy of a list; what is asked of an addition. -/
import Derived.Test.YtojmimfjnnibdaaS
namespace Go.Proofs.Ytojmimfjnnibdaa
set_option linter.unusedVariables false
set_option linter.unusedSimpArgs false
open Go.RowKit Go.Shelf

set_option maxHeartbeats 1000000 in
theorem Clone_any (b len cap : Nat) (x : List Int) (w : World) (hx : Holds w b x) (hl : x.length = len) (hl4 : len ≤ 4) :
    Calls Try.prog 107 #[.slice (some ⟨b, 0, none⟩) len cap] w fun e w' => ∃ (g c : Nat), e = .returned (.slice (some ⟨g, 0, none⟩) len c) ∧ w'.ownsRow w.heap.size 3 1 (.slice (some ⟨g, 0, none⟩) len c) len (x.map (Value.int .i64)) ∧ Below w.heap.size w w' := by
  obtain ⟨i0, hi, hy0, hy1, hy2⟩ := info_parts Try.info3
  obtain ⟨hb, hc, hf⟩ := hx
  have hn : ∀ wx, (binOp .eql 29 (.slice (some ⟨b, 0, none⟩) len cap) (.slice none 0 0)).run Try.prog wx = .ok (.bool false) wx := fun wx => Lib.run_eql_slice_nil wx _ _ _ _ _ _ _ Try.underlying29
  have HC := Lib.hid hc; clear hc
  go_enter Try.func107, Try.ntmps107
  go_wp2_with (at_builtin; refine wpList_append_own _ rfl _ _ 29 rfl w.heap.size 3 i0 (.int .i64 0) 1 8 Try.underlying29 hi hy0 hy1 hy2 rfl (by decide) _ _ _ rfl (World.ownsRow_made w #[] 0 (Nat.le_refl _) (Nat.zero_le _) rfl) ⟨b, 0, none⟩ len cap (x.map (Value.int .i64)) rfl ?c1 ?c2 ?c3 ?c4 ?c5 ?c6 ?_)
  case c1 => simp [hl]
  case c2 =>
    intro j u hj
    have hjx : j < x.length := by have := (List.getElem?_eq_some_iff.1 hj).1; simpa using this
    rw [Addr.add_lit, Nat.zero_add]
    refine (World.cell?_of_block (Below.heap_alloc w _ b hb)).trans ((HC.out j hjx).trans ?_)
    rw [← hj]; simp [hjx]
  case c3 => intro u hu; obtain ⟨y, _, rfl⟩ := List.mem_map.1 hu; rfl
  case c4 => unfold maxLen; omega
  case c5 => omega
  case c6 => simp
  intro v' w1 hown hgrow hnil
  obtain ⟨g, c, rfl⟩ : ∃ g c, v' = .slice (some ⟨g, 0, none⟩) len c := by
    rcases hown.2 with ⟨h, _⟩ | ⟨g, c, cur, h, _⟩
    · exact (hnil h).elim
    · exact ⟨g, c, by simpa using h⟩
  clear hnil
  go_wp2
  go_ret
  exact ⟨g, c, rfl, by simpa using hown, ((Below.refl _ w).alloc (Nat.le_refl _) _).grown hgrow (by simp) (by intro k hk; simp [Value.ownBlock] at hk; omega)⟩

set_option maxHeartbeats 400000 in
theorem ask_Cheap (s : Shop) (a : Option Addr) (len cap Wb b : Nat) (x : List Int) (w : World) (hbx : ∀ i, w.cell? ⟨Wb, i, none⟩ = (#[.int .i64 s.P, .int .i64 s.tl, .int .i64 s.th, .int .i64 s.al, .int .i64 s.ah, .int .i64 s.room, .int .i64 s.xl, .int .i64 s.xh, .int .i64 s.yl, .int .i64 s.yh, .slice a len cap] : Array Value)[i]?) (hp : PigsAt w a len s.pigs) (hx : Holds w b x) (hl : x.length = len) (hl4 : len ≤ 4) (hf : Few s.pigs x) :
    Calls Try.prog 83 #[.slice (some ⟨b, 0, none⟩) len len, .pointer (some ⟨Wb, 0, none⟩)] w fun e w' => e = .returned (.int .i64 (tot Pig.c s.pigs x)) ∧ Below w.heap.size w w' := by
  have HT := Lib.hid (total_pence s a cap (some ⟨b, 0, none⟩) len len x w hp (by have := ints_of_holds hx (by rw [hl]; unfold maxLen; omega); rwa [hl] at this) hl4 hf)
  clear hp hx hf hl
  go_enter Try.func83, Try.ntmps83
  go_wp2_with (go_at_call 84; refine HT.out.mono ?_; rintro e w' ⟨rfl, hb⟩)
  go_ret
  exact ⟨rfl, hb⟩
set_option maxHeartbeats 400000 in
theorem ask_Tin (s : Shop) (a : Option Addr) (len cap Wb b : Nat) (x : List Int) (w : World) (hbx : ∀ i, w.cell? ⟨Wb, i, none⟩ = (#[.int .i64 s.P, .int .i64 s.tl, .int .i64 s.th, .int .i64 s.al, .int .i64 s.ah, .int .i64 s.room, .int .i64 s.xl, .int .i64 s.xh, .int .i64 s.yl, .int .i64 s.yh, .slice a len cap] : Array Value)[i]?) (hp : PigsAt w a len s.pigs) (hx : Holds w b x) (hl : x.length = len) (hl4 : len ≤ 4) (hf : Few s.pigs x) :
    Calls Try.prog 89 #[.slice (some ⟨b, 0, none⟩) len len, .pointer (some ⟨Wb, 0, none⟩)] w fun e w' => e = .returned (.int .i64 (tot Pig.t s.pigs x)) ∧ Below w.heap.size w w' := by
  have HT := Lib.hid (total_tin s a cap (some ⟨b, 0, none⟩) len len x w hp (by have := ints_of_holds hx (by rw [hl]; unfold maxLen; omega); rwa [hl] at this) hl4 hf)
  clear hp hx hf hl
  go_enter Try.func89, Try.ntmps89
  go_wp2_with (go_at_call 84; refine HT.out.mono ?_; rintro e w' ⟨rfl, hb⟩)
  go_ret
  exact ⟨rfl, hb⟩
end Go.Proofs.Ytojmimfjnnibdaa
