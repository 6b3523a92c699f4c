import Derived.Test.YtfnmglfbcpdlnaaProg
import Derived.Test.YtfnmglfbcpdlnaaA0
namespace Go.Proofs.Ytfnmglfbcpdlnaa
open Go.RowKit

set_option maxHeartbeats 400000 in
theorem isName_any (s : ByteArray) (w : World) :
    Calls Try.prog 102 #[.string s] w fun e w' => e = .returned (.bool (Lk.isName s.toList)) ∧ w' = w := by
  go_enter Try.func102, Try.ntmps102
  go_wp2
  all_goals go_ret
  all_goals refine ⟨ret_bool ?_, rfl⟩
  · rw [isName1 (by omega)]; simp [*]
  · rw [isName1 (by omega)]; simp; omega
  · rw [isNameN (by omega)]

set_option maxHeartbeats 400000 in
theorem operation_any (s : ByteArray) (w : World) :
    Calls Try.prog 98 #[.string s] w fun e w' => e = .returned (.int .i64 (Lk.intO (Lk.oper? s.toList))) ∧ w' = w := by
  go_enter Try.func98, Try.ntmps98
  go_wp2
  all_goals go_ret
  all_goals refine ⟨ret_int ?_, rfl⟩
  all_goals simp [Lk.oper?, *, Lk.intO]

set_option maxHeartbeats 400000 in
theorem number_any (s : ByteArray) (w : World) :
    Calls Try.prog 94 #[.string s] w fun e w' => e = .returned (.int .i64 (Lk.intO (Lk.num? s.toList))) ∧ w' = w := by
  go_enter Try.func94, Try.ntmps94
  go_wp2
  all_goals go_ret
  all_goals refine ⟨ret_int ?_, rfl⟩
  all_goals first
    | (rw [num1 (by omega)]; first | rw [if_pos (by omega)] | rw [if_neg (by omega)])
    | (rw [num2 (by omega)]; first | rw [if_neg (by omega)] | (rw [if_pos (by omega)]; rfl))
    | rw [numN (by omega) (by omega)]

end Go.Proofs.Ytfnmglfbcpdlnaa
