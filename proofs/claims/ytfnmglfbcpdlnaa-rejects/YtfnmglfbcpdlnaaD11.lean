import Derived.Test.YtfnmglfbcpdlnaaC1
import Derived.Test.YtfnmglfbcpdlnaaD10c
import Derived.Test.YtfnmglfbcpdlnaaS27
namespace Go.Proofs.Ytfnmglfbcpdlnaa
open Go.RowKit
set_option linter.unusedVariables false

set_option maxRecDepth 100000 in
set_option maxHeartbeats 1000000 in
theorem bounded_no (k n c : Int) (w : World) (h : wi k 10 = false ∨ wi n 1048576 = false ∨ wi c 1048576 = false) :
    Calls Try.prog 16 #[.int .i64 k, .agg #[.int .i64 n, .int .i64 c]] w fun e w' => e = .returned (.bool false) ∧ Below w.heap.size w w' := by
  have H := hid h
  clear h
  by_cases h1 : k < 0
  · go_enter Try.func16, Try.ntmps16
    go_wp2
    go_ret
    exact ⟨rfl, (Below.refl _ _).alloc (Nat.le_refl _) _⟩
  · by_cases h2 : 10 < k
    · go_enter Try.func16, Try.ntmps16
      go_wp2
      go_ret
      exact ⟨rfl, (Below.refl _ _).alloc (Nat.le_refl _) _⟩
    · by_cases h3 : 0 ≤ n
      · by_cases h4 : n ≤ 1048576
        · by_cases h5 : 0 ≤ c
          · have h6 : ¬ c ≤ 1048576 := by
              intro h6
              rcases H.out with h | h | h
              · exact wi_false h ⟨by omega, by omega⟩
              · exact wi_false h ⟨h3, h4⟩
              · exact wi_false h ⟨h5, h6⟩
            go_enter Try.func16, Try.ntmps16
            go_wp2
            go_ret
            exact ⟨rfl, (Below.refl _ _).alloc (Nat.le_refl _) _⟩
          · go_enter Try.func16, Try.ntmps16
            go_wp2
            go_ret
            exact ⟨rfl, (Below.refl _ _).alloc (Nat.le_refl _) _⟩
        · go_enter Try.func16, Try.ntmps16
          go_wp2
          go_ret
          exact ⟨rfl, (Below.refl _ _).alloc (Nat.le_refl _) _⟩
      · go_enter Try.func16, Try.ntmps16
        go_wp2
        go_ret
        exact ⟨rfl, (Below.refl _ _).alloc (Nat.le_refl _) _⟩

set_option maxRecDepth 100000 in
set_option maxHeartbeats 1000000 in
theorem bounded_yes (k n c : Int) (w : World) (h1 : wi k 10 = true) (h2 : wi n 1048576 = true) (h3 : wi c 1048576 = true) :
    Calls Try.prog 16 #[.int .i64 k, .agg #[.int .i64 n, .int .i64 c]] w fun e w' => e = .returned (.bool true) ∧ Below w.heap.size w w' := by
  obtain ⟨a1, a2⟩ := wi_true h1
  obtain ⟨b1, b2⟩ := wi_true h2
  obtain ⟨c1, c2⟩ := wi_true h3
  clear h1 h2 h3
  have a3 : ¬ k < 0 := by omega
  have a4 : ¬ 10 < k := by omega
  go_enter Try.func16, Try.ntmps16
  go_wp2
  go_ret
  exact ⟨rfl, (Below.refl _ _).alloc (Nat.le_refl _) _⟩

end Go.Proofs.Ytfnmglfbcpdlnaa
