import Derived.Test.YtgddmpmcnjlcjaaGreatDoorB29
import Derived.Test.YtgddmpmcnjlcjaaGreatDoorRows
import Derived.Test.YtgddmpmcnjlcjaaGreatDoorB28
import Derived.Lib.LaidTab
import Derived.LaidMore
import Derived.MakeChecks
import Derived.Stop.LaidErr
set_option maxRecDepth 100000
namespace Go.Proofs.YtgddmpmcnjlcjaaGreatDoor
open Go.RowKit
set_option linter.unusedVariables false
theorem sV (s:ByteArray) (k n c:Nat) (w:World) (Ag:Ld w) (hk:k≤10) (hn:n≤1048576) (hc:c≤1048576) (hl:(Lk.read s.toList).2=0):
  Calls Tryz.prog 7 #[.string s,.int .i64 k,.agg #[.int .i64 n,.int .i64 c]] w fun e w'=>Sk w w' e (Fb s.toList) k n c:=by
 by_cases hf:Dg.Fits (Fb s.toList) k n
 ·exact sS s k n c w Ag hk hn hc hl hf
 ·exact ot s k n c w Ag hk hn hc hl hf
abbrev adk {H:Type}:List (String×DataW H):=[("math/bits.deBruijn32tab",Rows.laid_math_bits_deBruijn32tab),("math/bits.deBruijn64tab",Rows.laid_math_bits_deBruijn64tab),("internal/strconv.uint64pow10",Rows.laid_internal_strconv_uint64pow10)]
theorem ou {W:World} (h:laidMetH Tryz.prog adk W):Ld W:=by
 rw[MakeChecks.laidMetH_plain _ _ _ (by kernel_rfl)] at h
 have h2:laidMet Tryz.prog (("internal/strconv.uint64pow10",Lib.tabData .u64 Lib.pow10Tab)::[]) W:=h.tail.tail
 exact Lib.tabIs_of_head (g:=0) (t:=196) (e:=189) (n:=20) (by kernel_rfl) (by kernel_rfl) (by kernel_rfl) (by kernel_rfl) (by kernel_rfl) (by kernel_rfl) h2
end Go.Proofs.YtgddmpmcnjlcjaaGreatDoor
