import Derived.Test.YtgddmpmcnjlcjaaDoorB36
import Derived.Test.YtgddmpmcnjlcjaaDoorK04
/- The texts of 'given'. -/
namespace Go.Proofs.YtgddmpmcnjlcjaaDoor
open Go.RowKit
set_option linter.unusedVariables false

abbrev gH : ByteArray := ⟨#[115, 101, 99, 114, 101, 116, 32, 97, 10, 118, 97, 114, 32, 98, 10, 98, 32, 61, 32, 97, 10]⟩
abbrev gC : ByteArray := ⟨#[98, 32, 61, 32, 98, 32, 94, 32, 97, 10]⟩
abbrev gO : ByteArray := ⟨#[111, 117, 116, 32, 98, 10]⟩
abbrev gM : ByteArray := ⟨#[98, 32, 61, 32, 98, 32, 38, 32, 48, 10, 111, 117, 116, 32, 98, 10]⟩
def cpB : Nat → ByteArray
  | 0 => ⟨#[]⟩
  | n + 1 => cpB n ++ gC
def cpL : Nat → List UInt8
  | 0 => []
  | n + 1 => cpL n ++ [98, 32, 61, 32, 98, 32, 94, 32, 97, 10]
theorem ba_app (a b : ByteArray) : (a ++ b).toList = a.toList ++ b.toList := by
  rw [ByteArray.toList_eq, ByteArray.toList_eq, ByteArray.toList_eq, ByteArray.data_append, Array.toList_append]
theorem cpB_list (n : Nat) : (cpB n).toList = cpL n := by
  induction n with
  | zero => show (⟨#[]⟩ : ByteArray).toList = []; rw [ByteArray.toList_mk]
  | succ n ih =>
    show (cpB n ++ gC).toList = cpL n ++ _
    rw [ba_app, ih, ByteArray.toList_mk]
theorem cpB_size (n : Nat) : (cpB n).size = 10 * n := by
  induction n with
  | zero => rfl
  | succ n ih =>
    show (cpB n ++ gC).size = _
    rw [ByteArray.size_append, ih]
    show 10 * n + 10 = _
    omega
def gsL (n : Nat) : List UInt8 := [115, 101, 99, 114, 101, 116, 32, 97, 10, 118, 97, 114, 32, 98, 10, 98, 32, 61, 32, 97, 10] ++ cpL n ++ [111, 117, 116, 32, 98, 10]
def gtL (n : Nat) : List UInt8 := [115, 101, 99, 114, 101, 116, 32, 97, 10, 118, 97, 114, 32, 98, 10, 98, 32, 61, 32, 97, 10] ++ cpL n ++ [98, 32, 61, 32, 98, 32, 38, 32, 48, 10, 111, 117, 116, 32, 98, 10]
theorem gs_list (n : Nat) : (gH ++ cpB n ++ gO).toList = gsL n := by
  rw [ba_app, ba_app, cpB_list, ByteArray.toList_mk, ByteArray.toList_mk]; rfl
theorem gt_list (n : Nat) : (gH ++ cpB n ++ gM).toList = gtL n := by
  rw [ba_app, ba_app, cpB_list, ByteArray.toList_mk, ByteArray.toList_mk]; rfl

def gAt (n : Nat) : Int := if n % 2 = 0 then n + 1 else -1
/-- What is so of both texts. -/
def GSays (n : Nat) : Prop := (Lk.read (gsL n)).2 = 0 ∧ (Lk.read (gtL n)).2 = 0 ∧ (∀ k, k ≤ 10 → KnSays (pgOf (gsL n)) (gAt n) k) ∧ (∀ k, k ≤ 10 → ¬ (Pr.fd (pgOf (gtL n)) k).al < k)
set_option maxRecDepth 100000
theorem gsays0 : GSays 0 := ⟨by kernel_rfl, by kernel_rfl, fun k hk => kn_at (T := 1) (i := 0) (j := 1) (by decide +kernel) (by decide +kernel) k hk, fun k hk => Pr.fd_chk (T := 10) (by decide +kernel) hk⟩
theorem gsays1 : GSays 1 := ⟨by kernel_rfl, by kernel_rfl, fun k hk => kn_no (by decide +kernel) k hk, fun k hk => Pr.fd_chk (T := 10) (by decide +kernel) hk⟩
theorem gsays2 : GSays 2 := ⟨by kernel_rfl, by kernel_rfl, fun k hk => kn_at (T := 3) (i := 0) (j := 1) (by decide +kernel) (by decide +kernel) k hk, fun k hk => Pr.fd_chk (T := 10) (by decide +kernel) hk⟩
theorem gsays3 : GSays 3 := ⟨by kernel_rfl, by kernel_rfl, fun k hk => kn_no (by decide +kernel) k hk, fun k hk => Pr.fd_chk (T := 10) (by decide +kernel) hk⟩
theorem gsays4 : GSays 4 := ⟨by kernel_rfl, by kernel_rfl, fun k hk => kn_at (T := 5) (i := 0) (j := 1) (by decide +kernel) (by decide +kernel) k hk, fun k hk => Pr.fd_chk (T := 10) (by decide +kernel) hk⟩
theorem gsays5 : GSays 5 := ⟨by kernel_rfl, by kernel_rfl, fun k hk => kn_no (by decide +kernel) k hk, fun k hk => Pr.fd_chk (T := 10) (by decide +kernel) hk⟩
theorem gsays6 : GSays 6 := ⟨by kernel_rfl, by kernel_rfl, fun k hk => kn_at (T := 7) (i := 0) (j := 1) (by decide +kernel) (by decide +kernel) k hk, fun k hk => Pr.fd_chk (T := 10) (by decide +kernel) hk⟩
theorem gsays7 : GSays 7 := ⟨by kernel_rfl, by kernel_rfl, fun k hk => kn_no (by decide +kernel) k hk, fun k hk => Pr.fd_chk (T := 10) (by decide +kernel) hk⟩
theorem gsays8 : GSays 8 := ⟨by kernel_rfl, by kernel_rfl, fun k hk => kn_at (T := 9) (i := 0) (j := 1) (by decide +kernel) (by decide +kernel) k hk, fun k hk => Pr.fd_chk (T := 10) (by decide +kernel) hk⟩
theorem gsays9 : GSays 9 := ⟨by kernel_rfl, by kernel_rfl, fun k hk => kn_no (by decide +kernel) k hk, fun k hk => Pr.fd_chk (T := 10) (by decide +kernel) hk⟩
theorem gsays : ∀ n, n < 10 → GSays n
  | 0, _ => gsays0
  | 1, _ => gsays1
  | 2, _ => gsays2
  | 3, _ => gsays3
  | 4, _ => gsays4
  | 5, _ => gsays5
  | 6, _ => gsays6
  | 7, _ => gsays7
  | 8, _ => gsays8
  | 9, _ => gsays9
  | n + 10, h => absurd h (by omega)

end Go.Proofs.YtgddmpmcnjlcjaaDoor
