import Derived.Test.YtgddmpmcnjlcjabGreatDoorB40
import Derived.Test.YtgddmpmcnjlcjabGreatDoorB28
namespace Go.Proofs.YtgddmpmcnjlcjabGreatDoor
open Go.RowKit
set_option linter.unusedVariables false
section
variable (s : ByteArray) (k : Int) (w : World)
set_option maxRecDepth 100000 in
set_option maxHeartbeats 1000000 in
theorem prog_nil (h : wi k 10 = false ∨ 600 < s.size ∨ (s.size ≤ 600 ∧ (Rf.readS s.toList).1 = false)) : Calls Tryz.prog 5 #[.string s, .int .i64 k] w fun e w' => e = .returned (.pointer none) ∧ Below w.heap.size w w' := by
  cases hk : wi k 10 with
  | false =>
    go_enter Tryz.func5, Tryz.ntmps5
    go_wp2_with (first
      | (go_at_call 14; refine (bounded_no k 0 0 _ (.inl hk)).mono ?_; rintro e w5 ⟨rfl, hb5⟩; have HB5 := hid hb5; clear hb5))
    go_ret
    exact ⟨rfl, HB5.out⟩
  | true =>
    by_cases h6 : 600 < s.size
    · have h6I : (600 : Int) < (s.size : Int) := by omega
      go_enter Tryz.func5, Tryz.ntmps5
      go_wp2_with (first
        | (go_at_call 14; refine (bounded_yes k 0 0 _ hk (by decide) (by decide)).mono ?_; rintro e w5 ⟨rfl, hb5⟩; have HB5 := hid hb5; clear hb5))
      go_ret
      exact ⟨rfl, HB5.out⟩
    · have h6I : ¬ (600 : Int) < (s.size : Int) := by omega
      have hs6 : s.size ≤ 600 := by omega
      have hr : (Rf.readS s.toList).1 = false := by
        rcases h with h | h | h
        · rw [hk] at h; cases h
        · omega
        · exact h.2
      have HR := hid hr
      clear h hr
      go_enter Tryz.func5, Tryz.ntmps5
      go_wp2_with (first
        | (go_at_call 14; refine (bounded_yes k 0 0 _ hk (by decide) (by decide)).mono ?_; rintro e w5 ⟨rfl, hb5⟩; have HB5 := hid hb5; have z5 := hb5.size; clear hb5)
        | (go_at_call 15; refine (refRead_any s hs6 _).mono ?_; rintro e w6 hr6; obtain ⟨_, he⟩ := hr6.2.1 HR.out; subst he; have HB6 := hid hr6.1; clear hr6))
      go_ret
      exact ⟨rfl, HB5.out.trans (HB6.out.mono z5)⟩
set_option maxRecDepth 100000 in
set_option maxHeartbeats 1000000 in
theorem prog_some (hk : wi k 10 = true) (hs6 : s.size ≤ 600) (ds : List Rf.Dc) (ts : List Rf.Tr) (rp : ∀ w : World, Calls Tryz.prog 15 #[.string s] w fun e w' => e = .returned (.tuple #[.pointer (some ⟨w.heap.size, 0, none⟩), .int .i64 0]) ∧ Below w.heap.size w w' ∧ ProgAt w w' ds ts) :
    Calls Tryz.prog 5 #[.string s, .int .i64 k] w fun e w' => ∃ w5 : World, e = .returned (.pointer (some ⟨w5.heap.size, 0, none⟩)) ∧ Below w.heap.size w w' ∧ ProgAt w5 w' ds ts := by
  have RP := hid rp
  have h6I : ¬ (600 : Int) < (s.size : Int) := by omega
  clear rp
  go_enter Tryz.func5, Tryz.ntmps5
  go_wp2_with (first
    | (go_at_call 14; refine (bounded_yes k 0 0 _ hk (by decide) (by decide)).mono ?_; rintro e w5 ⟨rfl, hb5⟩; have HB5 := hid hb5; have z5 := hb5.size; clear hb5)
    | (go_at_call 15; refine (RP.out _).mono ?_; rintro e w6 ⟨rfl, hb6, hp6⟩; have HB6 := hid hb6; have HP6 := hid hp6; clear hb6 hp6))
  go_ret
  exact ⟨w5, rfl, HB5.out.trans (HB6.out.mono z5), HP6.out⟩
end
end Go.Proofs.YtgddmpmcnjlcjabGreatDoor
