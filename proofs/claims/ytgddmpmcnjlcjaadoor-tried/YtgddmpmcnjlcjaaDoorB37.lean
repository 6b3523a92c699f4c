import Derived.Test.YtgddmpmcnjlcjaaDoorB36
import Derived.Test.YtgddmpmcnjlcjaaDoorRows
import Derived.Test.YtgddmpmcnjlcjaaDoorB33
import Derived.Lib.LaidTab
import Derived.LaidMore
import Derived.MakeChecks
import Derived.Stop.LaidErr
/- leaks.Check: what the keeps want of it. -/
namespace Go.Proofs.YtgddmpmcnjlcjaaDoor
open Go.RowKit
set_option linter.unusedVariables false

theorem all_chk : AllChk := fun s k hk hl => chk_ok s k hk hl
theorem all_lim : AllLim := fun s k n c w hw hk hn hc hl => by
  unfold wi at hn hc
  have hn := of_decide_eq_true hn
  have hc := of_decide_eq_true hc
  obtain ⟨n', rfl⟩ : ∃ n' : Nat, n = n' := ⟨n.toNat, by omega⟩
  obtain ⟨c', rfl⟩ : ∃ c' : Nat, c = c' := ⟨c.toNat, by omega⟩
  refine (check_all s k n' c' w hw hk (by omega) (by omega) hl).mono ?_
  rintro e w' C
  refine ⟨C.bel, ?_⟩
  by_cases hf : Dg.Fits (pgOf s.toList) k n'
  · by_cases hin : (Pr.fd (pgOf s.toList) k).al < k
    · obtain ⟨a1, c1, a2, c2, i, j, he, -⟩ := C.ins hf hin
      exact ⟨2, a1, _, c1, a2, _, c2, _, ⟨_, _, _, _, _⟩, he, by decide⟩
    · by_cases hl : c' = 0 ∨ (Ck.pf (pgOf s.toList) k).1 ≤ c'
      · exact ⟨1, none, 0, 0, none, 0, 0, 0, ⟨_, _, _, _, _⟩, C.sec hf hin hl, by decide⟩
      · exact ⟨3, none, 0, 0, none, 0, 0, 0, ⟨0, ⟨#[]⟩, ⟨#[]⟩, 0, 0⟩, C.unk (.inr ⟨hin, by omega, by omega⟩), by decide⟩
  · exact ⟨3, none, 0, 0, none, 0, 0, 0, ⟨0, ⟨#[]⟩, ⟨#[]⟩, 0, 0⟩, C.unk (.inl hf), by decide⟩
end Go.Proofs.YtgddmpmcnjlcjaaDoor

/- The library's table, by the row's condition. -/
namespace Go.Proofs.YtgddmpmcnjlcjaaDoor
open Go.RowKit
set_option linter.unusedVariables false

abbrev laid3 {H : Type} : List (String × DataW H) := [("math/bits.deBruijn32tab", Rows.laid_math_bits_deBruijn32tab), ("math/bits.deBruijn64tab", Rows.laid_math_bits_deBruijn64tab), ("internal/strconv.uint64pow10", Rows.laid_internal_strconv_uint64pow10)]
set_option maxRecDepth 100000 in
theorem tab_of_laid {W : World} (h : laidMetH Tryd.prog laid3 W) : Tab W := by
  rw [MakeChecks.laidMetH_plain _ _ _ (by kernel_rfl)] at h
  have h2 : laidMet Tryd.prog (("internal/strconv.uint64pow10", Lib.tabData .u64 Lib.pow10Tab) :: []) W := h.tail.tail
  exact Lib.tabIs_of_head (g := 0) (t := 176) (e := 169) (n := 20) (by kernel_rfl) (by kernel_rfl) (by kernel_rfl) (by kernel_rfl) (by kernel_rfl) (by kernel_rfl) h2
end Go.Proofs.YtgddmpmcnjlcjaaDoor
