import Derived.Test.YtgddmpmcnjlcjabGreatDoorB29
import Derived.Test.YtgddmpmcnjlcjabGreatDoorRows
import Derived.Test.YtgddmpmcnjlcjabGreatDoorB28
import Derived.Lib.LaidTab
import Derived.LaidMore
import Derived.MakeChecks
import Derived.Stop.LaidErr
namespace Go.Proofs.YtgddmpmcnjlcjabGreatDoor
open Go.RowKit
set_option linter.unusedVariables false
theorem check_all (s : ByteArray) (k n c : Nat) (w : World) (htab : Tab w) (hk : k ≤ 10) (hn : n ≤ 1048576) (hc : c ≤ 1048576) (hl : (Lk.read s.toList).2 = 0) :
    Calls Tryz.prog 6 #[.string s, .int .i64 k, .agg #[.int .i64 n, .int .i64 c]] w fun e w' => CkOut w w' e (pgOf s.toList) k n c := by
  by_cases hf : Dg.Fits (pgOf s.toList) k n
  · exact check_fit s k n c w htab hk hn hc hl hf
  · exact check_nofit s k n c w htab hk hn hc hl hf
abbrev laid3 {H : Type} : List (String × DataW H) := [("math/bits.deBruijn32tab", Rows.laid_math_bits_deBruijn32tab), ("math/bits.deBruijn64tab", Rows.laid_math_bits_deBruijn64tab), ("internal/strconv.uint64pow10", Rows.laid_internal_strconv_uint64pow10)]
set_option maxRecDepth 100000 in
theorem tab_of_laid {W : World} (h : laidMetH Tryz.prog laid3 W) : Tab W := by
  rw [MakeChecks.laidMetH_plain _ _ _ (by kernel_rfl)] at h
  have h2 : laidMet Tryz.prog (("internal/strconv.uint64pow10", Lib.tabData .u64 Lib.pow10Tab) :: []) W := h.tail.tail
  exact Lib.tabIs_of_head (g := 0) (t := 220) (e := 205) (n := 20) (by kernel_rfl) (by kernel_rfl) (by kernel_rfl) (by kernel_rfl) (by kernel_rfl) (by kernel_rfl) h2
end Go.Proofs.YtgddmpmcnjlcjabGreatDoor
