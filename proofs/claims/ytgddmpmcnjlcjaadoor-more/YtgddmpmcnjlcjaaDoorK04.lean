import Derived.Test.YtgddmpmcnjlcjaaDoorK02
import Derived.Test.YtgddmpmcnjlcjaaDoorK03
/- One step more. -/
namespace Go.Proofs.YtgddmpmcnjlcjaaDoor
open Go.RowKit
set_option linter.unusedVariables false

section
variable (ck : AllChk) (s : ByteArray) (w : World) (hw : Tab w)
include ck hw

omit ck hw in
set_option maxRecDepth 100000 in
set_option maxHeartbeats 1000000 in
theorem more_rej0 (l : Nat) (hl : (Lk.read s.toList).2 = l) (hl0 : l ≠ 0) :
    Calls Tryd.prog 19 #[.string s, .int .i64 0] w fun e w' => e = .returned (.bool true) ∧ Below w.heap.size w w' := by
  have HL := hid hl
  clear hl
  go_enter Tryd.func19, Tryd.ntmps19
  go_wp2_with (first | (go_at_call 33; refine (kc_rej s 0 _ ?_ l HL.out hl0).mono ?_; omega; rintro e w1 ⟨rfl, hb1⟩; have HB1 := hid hb1; have z1 := hb1.size; clear hb1))
  go_ret
  exact ⟨rfl, HB1.out.alloc z1 _⟩

set_option maxRecDepth 100000 in
set_option maxHeartbeats 1000000 in
theorem more_sec0 (hl : (Lk.read s.toList).2 = 0) :
    Calls Tryd.prog 19 #[.string s, .int .i64 0] w fun e w' => e = .returned (.bool true) ∧ Below w.heap.size w w' := by
  have HL := hid hl
  clear hl
  go_enter Tryd.func19, Tryd.ntmps19
  go_wp2_with (first | (go_at_call 33; refine (kc_sec ck s 0 _ hw ?_ HL.out ?_).mono ?_; omega; omega; rintro e w1 ⟨x, rfl, hb1⟩; have HB1 := hid hb1; have z1 := hb1.size; clear hb1))
  go_ret
  exact ⟨rfl, HB1.out.alloc z1 _⟩

omit ck hw in
set_option maxRecDepth 100000 in
set_option maxHeartbeats 1000000 in
theorem more_rej (k : Nat) (hk : k + 1 ≤ 10) (l : Nat) (hl : (Lk.read s.toList).2 = l) (hl0 : l ≠ 0) :
    Calls Tryd.prog 19 #[.string s, .int .i64 ((k + 1 : Nat) : Int)] w fun e w' => e = .returned (.bool true) ∧ Below w.heap.size w w' := by
  have HL := hid hl
  clear hl
  have HC1 : Hid (∀ W : World, Calls Tryd.prog 33 #[.string s, .int .i64 k] W fun e w' => e = .returned (.tuple #[.int .i64 0, repLine l]) ∧ Below W.heap.size W w') := fun W => kc_rej s k W (by omega) l HL.out hl0
  have HC2 : Hid (∀ W : World, Calls Tryd.prog 33 #[.string s, .int .i64 ((k : Int) + 1)] W fun e w' => e = .returned (.tuple #[.int .i64 0, repLine l]) ∧ Below W.heap.size W w') := fun W => kc_rej s (k + 1) W (by omega) l HL.out hl0
  have hne : ((k : Int) + 1 == 0) = false := by simp; omega
  rw [show ((k + 1 : Nat) : Int) = (k : Int) + 1 by omega]
  go_enter Tryd.func19, Tryd.ntmps19
  go_wp2_with (first
    | (go_at_call 33; refine (HC1.out _).mono ?_; rintro e w1 ⟨rfl, hb1⟩; have HB1 := hid hb1; have z1 := hb1.size; clear hb1 HC1)
    | (go_at_call 33; refine (HC2.out _).mono ?_; rintro e w2 ⟨rfl, hb2⟩; have HB2 := hid hb2; have z2 := hb2.size; simp at z2; clear hb2))
  go_ret
  exact ⟨rfl, ((HB1.out.alloc z1 _).trans (HB2.out.mono (by simp; omega))).alloc (by omega) _⟩

set_option maxRecDepth 100000 in
set_option maxHeartbeats 1000000 in
theorem more_ii (k : Nat) (hk : k + 1 ≤ 10) (hl : (Lk.read s.toList).2 = 0) (hin : (Pr.fd (pgOf s.toList) k).al < k) :
    Calls Tryd.prog 19 #[.string s, .int .i64 ((k + 1 : Nat) : Int)] w fun e w' => e = .returned (.bool true) ∧ Below w.heap.size w w' := by
  have HC1 : Hid (∀ W : World, Tab W → Calls Tryd.prog 33 #[.string s, .int .i64 k] W fun e w' => ∃ a1 n1 c1 a2 n2 c2 t x, e = .returned (.tuple #[.int .i64 2, repTwo (.slice a1 n1 c1) (.slice a2 n2 c2) t x]) ∧ Below W.heap.size W w') := fun W hW => (kc_ins ck s k W hW (by omega) hl hin).mono (by rintro e w' ⟨a1, c1, a2, c2, i, j, x, K⟩; exact ⟨_, _, _, _, _, _, _, x, K.res, K.bel⟩)
  have HC2 : Hid (∀ W : World, Tab W → Calls Tryd.prog 33 #[.string s, .int .i64 ((k : Int) + 1)] W fun e w' => ∃ a1 n1 c1 a2 n2 c2 t x, e = .returned (.tuple #[.int .i64 2, repTwo (.slice a1 n1 c1) (.slice a2 n2 c2) t x]) ∧ Below W.heap.size W w') := fun W hW => (kc_ins ck s (k + 1) W hW (by omega) hl (Pr.fd_more_ins (by omega) hin)).mono (by rintro e w' ⟨a1, c1, a2, c2, i, j, x, K⟩; exact ⟨_, _, _, _, _, _, _, x, K.res, K.bel⟩)
  have hne : ((k : Int) + 1 == 0) = false := by simp; omega
  clear hl
  rw [show ((k + 1 : Nat) : Int) = (k : Int) + 1 by omega]
  go_enter Tryd.func19, Tryd.ntmps19
  go_wp2_with (first
    | (go_at_call 33; refine (HC1.out _ hw).mono ?_; rintro e w1 ⟨a1, n1, c1, a2, n2, c2, t, x1, rfl, hb1⟩; have HB1 := hid hb1; have z1 := hb1.size; clear hb1 HC1)
    | (go_at_call 33; refine (HC2.out _ (tab_on hw (HB1.out.alloc z1 _))).mono ?_; rintro e w2 ⟨b1, m1, d1, b2, m2, d2, t2, x2, rfl, hb2⟩; have HB2 := hid hb2; have z2 := hb2.size; simp at z2; clear hb2))
  go_ret
  exact ⟨rfl, ((HB1.out.alloc z1 _).trans (HB2.out.mono (by simp; omega))).alloc (by omega) _⟩

set_option maxRecDepth 100000 in
set_option maxHeartbeats 1000000 in
theorem more_ss (k : Nat) (hk : k + 1 ≤ 10) (hl : (Lk.read s.toList).2 = 0) (hin : ¬ (Pr.fd (pgOf s.toList) k).al < k) (hin2 : ¬ (Pr.fd (pgOf s.toList) (k + 1)).al < k + 1) :
    Calls Tryd.prog 19 #[.string s, .int .i64 ((k + 1 : Nat) : Int)] w fun e w' => e = .returned (.bool true) ∧ Below w.heap.size w w' := by
  have HC1 : Hid (∀ W : World, Tab W → Calls Tryd.prog 33 #[.string s, .int .i64 k] W fun e w' => ∃ x, e = .returned (.tuple #[.int .i64 1, repSec x]) ∧ Below W.heap.size W w') := fun W hW => kc_sec ck s k W hW (by omega) hl hin
  have HC2 : Hid (∀ W : World, Tab W → Calls Tryd.prog 33 #[.string s, .int .i64 ((k : Int) + 1)] W fun e w' => ∃ x, e = .returned (.tuple #[.int .i64 1, repSec x]) ∧ Below W.heap.size W w') := fun W hW => kc_sec ck s (k + 1) W hW (by omega) hl hin2
  have hne : ((k : Int) + 1 == 0) = false := by simp; omega
  clear hl
  rw [show ((k + 1 : Nat) : Int) = (k : Int) + 1 by omega]
  go_enter Tryd.func19, Tryd.ntmps19
  go_wp2_with (first
    | (go_at_call 33; refine (HC1.out _ hw).mono ?_; rintro e w1 ⟨x1, rfl, hb1⟩; have HB1 := hid hb1; have z1 := hb1.size; clear hb1 HC1)
    | (go_at_call 33; refine (HC2.out _ (tab_on hw (HB1.out.alloc z1 _))).mono ?_; rintro e w2 ⟨x2, rfl, hb2⟩; have HB2 := hid hb2; have z2 := hb2.size; simp at z2; clear hb2))
  go_ret
  exact ⟨rfl, ((HB1.out.alloc z1 _).trans (HB2.out.mono (by simp; omega))).alloc (by omega) _⟩

set_option maxRecDepth 100000 in
set_option maxHeartbeats 1000000 in
theorem more_si (k : Nat) (hk : k + 1 ≤ 10) (hl : (Lk.read s.toList).2 = 0) (hin : ¬ (Pr.fd (pgOf s.toList) k).al < k) (hin2 : (Pr.fd (pgOf s.toList) (k + 1)).al < k + 1) :
    Calls Tryd.prog 19 #[.string s, .int .i64 ((k + 1 : Nat) : Int)] w fun e w' => e = .returned (.bool true) ∧ Below w.heap.size w w' := by
  have HC1 : Hid (∀ W : World, Tab W → Calls Tryd.prog 33 #[.string s, .int .i64 k] W fun e w' => ∃ x, e = .returned (.tuple #[.int .i64 1, repSec x]) ∧ Below W.heap.size W w') := fun W hW => kc_sec ck s k W hW (by omega) hl hin
  have HC2 : Hid (∀ W : World, Tab W → Calls Tryd.prog 33 #[.string s, .int .i64 ((k : Int) + 1)] W fun e w' => ∃ a1 n1 c1 a2 n2 c2 x, e = .returned (.tuple #[.int .i64 2, repTwo (.slice a1 n1 c1) (.slice a2 n2 c2) k x]) ∧ Below W.heap.size W w') := fun W hW => (kc_ins ck s (k + 1) W hW (by omega) hl hin2).mono (by rintro e w' ⟨a1, c1, a2, c2, i, j, x, K⟩; exact ⟨_, _, _, _, _, _, x, by rw [← Pr.fd_more_sec hin hin2]; exact K.res, K.bel⟩)
  have hne : ((k : Int) + 1 == 0) = false := by simp; omega
  clear hl
  rw [show ((k + 1 : Nat) : Int) = (k : Int) + 1 by omega]
  go_enter Tryd.func19, Tryd.ntmps19
  go_wp2_with (first
    | (go_at_call 33; refine (HC1.out _ hw).mono ?_; rintro e w1 ⟨x1, rfl, hb1⟩; have HB1 := hid hb1; have z1 := hb1.size; clear hb1 HC1)
    | (go_at_call 33; refine (HC2.out _ (tab_on hw (HB1.out.alloc z1 _))).mono ?_; rintro e w2 ⟨b1, m1, d1, b2, m2, d2, x2, rfl, hb2⟩; have HB2 := hid hb2; have z2 := hb2.size; simp at z2; clear hb2))
  go_ret
  exact ⟨rfl, ((HB1.out.alloc z1 _).trans (HB2.out.mono (by simp; omega))).alloc (by omega) _⟩

theorem more_any (k : Nat) (hk : k ≤ 10) :
    Calls Tryd.prog 19 #[.string s, .int .i64 k] w fun e w' => e = .returned (.bool true) ∧ Below w.heap.size w w' := by
  by_cases hl : (Lk.read s.toList).2 = 0
  · cases k with
    | zero => exact more_sec0 ck s w hw hl
    | succ k =>
      by_cases hin : (Pr.fd (pgOf s.toList) k).al < k
      · exact more_ii ck s w hw k hk hl hin
      · by_cases hin2 : (Pr.fd (pgOf s.toList) (k + 1)).al < k + 1
        · exact more_si ck s w hw k hk hl hin hin2
        · exact more_ss ck s w hw k hk hl hin hin2
  · cases k with
    | zero => exact more_rej0 s w _ rfl hl
    | succ k => exact more_rej s w k hk _ rfl hl
end

set_option maxRecDepth 100000 in
set_option maxHeartbeats 1000000 in
theorem More_any (ck : AllChk) (s : ByteArray) (a : Int) (ha : I64 a) (w : World) (hw : Tab w) :
    Calls Tryd.prog 7 #[.string s, .int .i64 a] w fun e w' => e = .returned (.bool true) ∧ Below w.heap.size w w' := by
  by_cases hs : s.size ≤ 16384
  · have hsI : ¬ (16384 : Int) < (s.size : Int) := by omega
    have h11 := pk_lt a 11 (by omega)
    have HAN : Hid (∀ W : World, Tab W → Calls Tryd.prog 15 #[.int .i64 a] W fun e w' => e = .returned (.bool true) ∧ Below W.heap.size W w') := fun W hW => answers_any ck a ha W hW
    have HS : Hid (∀ W : World, Calls Tryd.prog 17 #[.int .i64 a] W fun e w' => e = .returned (.int .i64 (pk a 11)) ∧ w' = W) := fun W => steps_any a ha W
    generalize pk a 11 = k at h11 HS
    clear ha
    go_enter Tryd.func7, Tryd.ntmps7
    go_wp2_with (first
      | (go_at_call 15; refine (HAN.out _ hw).mono ?_; rintro e w1 ⟨rfl, hb1⟩; have HB1 := hid hb1; have z1 := hb1.size; clear hb1)
      | (go_at_call 17; refine (HS.out _).mono ?_; rintro e w0 ⟨rfl, hw0⟩; have hw1 := hw0.symm; subst hw1)
      | (go_at_call 19; refine (more_any ck s _ (tab_on hw HB1.out) k ?_).mono ?_; omega; rintro e w2 ⟨rfl, hb2⟩; have HB2 := hid hb2; clear hb2))
    go_ret
    exact ⟨rfl, HB1.out.trans (HB2.out.mono z1)⟩
  · have hsI : (16384 : Int) < (s.size : Int) := by omega
    go_enter Tryd.func7, Tryd.ntmps7
    go_wp2
    go_ret
    exact ⟨rfl, Below.refl _ _⟩

end Go.Proofs.YtgddmpmcnjlcjaaDoor
