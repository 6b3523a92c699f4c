import Derived.Test.YtgddmpmcnjlcjaaDoorK01
import Derived.Test.YtgddmpmcnjlcjaaDoorK03
/- The programs that are known: when they leak. -/
namespace Go.Proofs.YtgddmpmcnjlcjaaDoor
open Go.RowKit
set_option linter.unusedVariables false

/-- With k steps: where it leaks, or that it does not. -/
def KnSays (p : Pg) (t : Int) (k : Nat) : Prop := if 0 ≤ t ∧ t < k then (Pr.fd p k).al < k ∧ ((Pr.fd p k).al : Int) = t else ¬ (Pr.fd p k).al < k
theorem kn_no {p : Pg} (h : Pr.chk p 10 = true) (k : Nat) (hk : k ≤ 10) : KnSays p (-1) k := by
  unfold KnSays
  rw [if_neg (by omega)]
  exact Pr.fd_chk h hk
theorem kn_at {p : Pg} {T i j : Nat} (h : Pr.chk p T = true) (d : Pr.dif p T i j = true) (k : Nat) (hk : k ≤ 10) : KnSays p (T : Int) k := by
  unfold KnSays
  by_cases hT : T < k
  · rw [if_pos (by omega)]
    have := Pr.fd_dif h d hT
    omega
  · rw [if_neg (by omega)]
    exact Pr.fd_chk h (by omega)

set_option maxRecDepth 100000
theorem kn0 (k : Nat) (hk : k ≤ 10) : KnSays (pgOf (ktx 0)) (kat 0) k := kn_no (by decide +kernel) k hk
theorem kn1 (k : Nat) (hk : k ≤ 10) : KnSays (pgOf (ktx 1)) (kat 1) k := kn_at (T := 0) (i := 0) (j := 1) (by decide +kernel) (by decide +kernel) k hk
theorem kn2 (k : Nat) (hk : k ≤ 10) : KnSays (pgOf (ktx 2)) (kat 2) k := kn_no (by decide +kernel) k hk
theorem kn3 (k : Nat) (hk : k ≤ 10) : KnSays (pgOf (ktx 3)) (kat 3) k := kn_no (by decide +kernel) k hk
theorem kn4 (k : Nat) (hk : k ≤ 10) : KnSays (pgOf (ktx 4)) (kat 4) k := kn_at (T := 0) (i := 0) (j := 1) (by decide +kernel) (by decide +kernel) k hk
theorem kn5 (k : Nat) (hk : k ≤ 10) : KnSays (pgOf (ktx 5)) (kat 5) k := kn_no (by decide +kernel) k hk
theorem kn6 (k : Nat) (hk : k ≤ 10) : KnSays (pgOf (ktx 6)) (kat 6) k := kn_at (T := 0) (i := 0) (j := 1) (by decide +kernel) (by decide +kernel) k hk
theorem kn7 (k : Nat) (hk : k ≤ 10) : KnSays (pgOf (ktx 7)) (kat 7) k := kn_at (T := 2) (i := 0) (j := 1) (by decide +kernel) (by decide +kernel) k hk
theorem kn8 (k : Nat) (hk : k ≤ 10) : KnSays (pgOf (ktx 8)) (kat 8) k := kn_no (by decide +kernel) k hk
theorem kn9 (k : Nat) (hk : k ≤ 10) : KnSays (pgOf (ktx 9)) (kat 9) k := kn_at (T := 1) (i := 0) (j := 1) (by decide +kernel) (by decide +kernel) k hk
theorem kn10 (k : Nat) (hk : k ≤ 10) : KnSays (pgOf (ktx 10)) (kat 10) k := kn_no (by decide +kernel) k hk
theorem kn11 (k : Nat) (hk : k ≤ 10) : KnSays (pgOf (ktx 11)) (kat 11) k := kn_no (by decide +kernel) k hk
theorem kn12 (k : Nat) (hk : k ≤ 10) : KnSays (pgOf (ktx 12)) (kat 12) k := kn_at (T := 1) (i := 0) (j := 1) (by decide +kernel) (by decide +kernel) k hk
theorem kn13 (k : Nat) (hk : k ≤ 10) : KnSays (pgOf (ktx 13)) (kat 13) k := kn_no (by decide +kernel) k hk
theorem kn14 (k : Nat) (hk : k ≤ 10) : KnSays (pgOf (ktx 14)) (kat 14) k := kn_at (T := 1) (i := 0) (j := 16) (by decide +kernel) (by decide +kernel) k hk
theorem kn15 (k : Nat) (hk : k ≤ 10) : KnSays (pgOf (ktx 15)) (kat 15) k := kn_no (by decide +kernel) k hk
theorem kn16 (k : Nat) (hk : k ≤ 10) : KnSays (pgOf (ktx 16)) (kat 16) k := kn_no (by decide +kernel) k hk
theorem kn17 (k : Nat) (hk : k ≤ 10) : KnSays (pgOf (ktx 17)) (kat 17) k := kn_at (T := 1) (i := 1) (j := 1) (by decide +kernel) (by decide +kernel) k hk
theorem kn18 (k : Nat) (hk : k ≤ 10) : KnSays (pgOf (ktx 18)) (kat 18) k := kn_no (by decide +kernel) k hk
theorem kn19 (k : Nat) (hk : k ≤ 10) : KnSays (pgOf (ktx 19)) (kat 19) k := kn_at (T := 1) (i := 0) (j := 1) (by decide +kernel) (by decide +kernel) k hk
theorem kn20 (k : Nat) (hk : k ≤ 10) : KnSays (pgOf (ktx 20)) (kat 20) k := kn_no (by decide +kernel) k hk
theorem kn21 (k : Nat) (hk : k ≤ 10) : KnSays (pgOf (ktx 21)) (kat 21) k := kn_no (by decide +kernel) k hk
theorem kn22 (k : Nat) (hk : k ≤ 10) : KnSays (pgOf (ktx 22)) (kat 22) k := kn_no (by decide +kernel) k hk
theorem kn23 (k : Nat) (hk : k ≤ 10) : KnSays (pgOf (ktx 23)) (kat 23) k := kn_at (T := 2) (i := 0) (j := 31) (by decide +kernel) (by decide +kernel) k hk
theorem kn24 (k : Nat) (hk : k ≤ 10) : KnSays (pgOf (ktx 24)) (kat 24) k := kn_at (T := 1) (i := 0) (j := 8) (by decide +kernel) (by decide +kernel) k hk
theorem kn25 (k : Nat) (hk : k ≤ 10) : KnSays (pgOf (ktx 25)) (kat 25) k := kn_at (T := 1) (i := 0) (j := 8) (by decide +kernel) (by decide +kernel) k hk
theorem kn26 (k : Nat) (hk : k ≤ 10) : KnSays (pgOf (ktx 26)) (kat 26) k := kn_at (T := 3) (i := 0) (j := 8) (by decide +kernel) (by decide +kernel) k hk
theorem kn27 (k : Nat) (hk : k ≤ 10) : KnSays (pgOf (ktx 27)) (kat 27) k := kn_no (by decide +kernel) k hk
theorem kn28 (k : Nat) (hk : k ≤ 10) : KnSays (pgOf (ktx 28)) (kat 28) k := kn_at (T := 8) (i := 0) (j := 17) (by decide +kernel) (by decide +kernel) k hk
theorem kn_all : ∀ i, i < 29 → ∀ k, k ≤ 10 → KnSays (pgOf (ktx i)) (kat i) k
  | 0, _ => kn0
  | 1, _ => kn1
  | 2, _ => kn2
  | 3, _ => kn3
  | 4, _ => kn4
  | 5, _ => kn5
  | 6, _ => kn6
  | 7, _ => kn7
  | 8, _ => kn8
  | 9, _ => kn9
  | 10, _ => kn10
  | 11, _ => kn11
  | 12, _ => kn12
  | 13, _ => kn13
  | 14, _ => kn14
  | 15, _ => kn15
  | 16, _ => kn16
  | 17, _ => kn17
  | 18, _ => kn18
  | 19, _ => kn19
  | 20, _ => kn20
  | 21, _ => kn21
  | 22, _ => kn22
  | 23, _ => kn23
  | 24, _ => kn24
  | 25, _ => kn25
  | 26, _ => kn26
  | 27, _ => kn27
  | 28, _ => kn28
  | n + 29, h => absurd h (by omega)
theorem kat_b : ∀ i, i < 29 → -1 ≤ kat i ∧ kat i ≤ 10
  | 0, _ => by decide
  | 1, _ => by decide
  | 2, _ => by decide
  | 3, _ => by decide
  | 4, _ => by decide
  | 5, _ => by decide
  | 6, _ => by decide
  | 7, _ => by decide
  | 8, _ => by decide
  | 9, _ => by decide
  | 10, _ => by decide
  | 11, _ => by decide
  | 12, _ => by decide
  | 13, _ => by decide
  | 14, _ => by decide
  | 15, _ => by decide
  | 16, _ => by decide
  | 17, _ => by decide
  | 18, _ => by decide
  | 19, _ => by decide
  | 20, _ => by decide
  | 21, _ => by decide
  | 22, _ => by decide
  | 23, _ => by decide
  | 24, _ => by decide
  | 25, _ => by decide
  | 26, _ => by decide
  | 27, _ => by decide
  | 28, _ => by decide
  | n + 29, h => absurd h (by omega)

end Go.Proofs.YtgddmpmcnjlcjaaDoor
