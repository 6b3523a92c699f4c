import Derived.Test.YtgddmpmcnjlcjabDoorK03
import Derived.Test.YtgddmpmcnjlcjabDoorK05
namespace Go.Proofs.YtgddmpmcnjlcjabDoor
open Go.RowKit
set_option linter.unusedVariables false
set_option maxHeartbeats 400000 in
theorem pick3000 (c : Int) (hc : I64 c) (w : World) :
    Calls Tryd.prog 24 #[.int .i64 c, .int .i64 3000] w fun e w' => e = .returned (.int .i64 (pk c 3000)) ∧ w' = w := by
  have q := pk_lt c 3000 (by omega)
  unfold pk at q ⊢
  by_cases h : c < 0
  · rw [if_pos h] at q ⊢
    go_enter Tryd.func24, Tryd.ntmps24
    go_wp2
    go_ret
    have e : -(c + 1).tmod 3000 = (-(c + 1)) % 3000 := by rw [← Int.neg_tmod, Int.tmod_eq_emod_of_nonneg (by omega)]
    have b1 := Int.emod_nonneg (-(c + 1)) (show (3000 : Int) ≠ 0 by omega)
    exact ⟨ret_int (e.trans (by omega)), rfl⟩
  · rw [if_neg h] at q ⊢
    have h0 : 0 ≤ c := by omega
    go_enter Tryd.func24, Tryd.ntmps24
    go_wp2
    go_ret
    exact ⟨ret_int (by omega), rfl⟩
set_option maxHeartbeats 400000 in
theorem pick40 (c : Int) (hc : I64 c) (w : World) :
    Calls Tryd.prog 24 #[.int .i64 c, .int .i64 40] w fun e w' => e = .returned (.int .i64 (pk c 40)) ∧ w' = w := by
  have q := pk_lt c 40 (by omega)
  unfold pk at q ⊢
  by_cases h : c < 0
  · rw [if_pos h] at q ⊢
    go_enter Tryd.func24, Tryd.ntmps24
    go_wp2
    go_ret
    have e : -(c + 1).tmod 40 = (-(c + 1)) % 40 := by rw [← Int.neg_tmod, Int.tmod_eq_emod_of_nonneg (by omega)]
    have b1 := Int.emod_nonneg (-(c + 1)) (show (40 : Int) ≠ 0 by omega)
    exact ⟨ret_int (e.trans (by omega)), rfl⟩
  · rw [if_neg h] at q ⊢
    have h0 : 0 ≤ c := by omega
    go_enter Tryd.func24, Tryd.ntmps24
    go_wp2
    go_ret
    exact ⟨ret_int (by omega), rfl⟩
end Go.Proofs.YtgddmpmcnjlcjabDoor
