import Derived.Test.YtkfejeomfdhmdaaProg
import Derived.Test.YtkfejeomfdhmdaaA0
namespace Go.Proofs.Ytkfejeomfdhmdaa
open Go.RowKit

set_option maxHeartbeats 400000 in
theorem isName_any (s : ByteArray) (w : World) :
    Calls Try.prog 71 #[.string s] w fun e w' => e = .returned (.bool (Lk.isName s.toList)) ∧ w' = w := by
  go_enter Try.func71, Try.ntmps71
  go_wp2
  all_goals go_ret
  all_goals refine ⟨ret_bool ?_, rfl⟩
  · rw [isName1 (by omega)]; simp [*]
  · rw [isName1 (by omega)]; simp; omega
  · rw [isNameN (by omega)]

set_option maxHeartbeats 400000 in
theorem operation_any (s : ByteArray) (w : World) :
    Calls Try.prog 67 #[.string s] w fun e w' => e = .returned (.int .i64 (Lk.intO (Lk.oper? s.toList))) ∧ w' = w := by
  go_enter Try.func67, Try.ntmps67
  go_wp2
  all_goals go_ret
  all_goals refine ⟨ret_int ?_, rfl⟩
  all_goals simp [Lk.oper?, *, Lk.intO]

set_option maxHeartbeats 400000 in
theorem number_any (s : ByteArray) (w : World) :
    Calls Try.prog 63 #[.string s] w fun e w' => e = .returned (.int .i64 (Lk.intO (Lk.num? s.toList))) ∧ w' = w := by
  go_enter Try.func63, Try.ntmps63
  go_wp2
  all_goals go_ret
  all_goals refine ⟨ret_int ?_, rfl⟩
  all_goals first
    | (rw [num1 (by omega)]; first | rw [if_pos (by omega)] | rw [if_neg (by omega)])
    | (rw [num2 (by omega)]; first | rw [if_neg (by omega)] | (rw [if_pos (by omega)]; rfl))
    | rw [numN (by omega) (by omega)]

end Go.Proofs.Ytkfejeomfdhmdaa
