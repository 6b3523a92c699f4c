import Derived.Test.YtfnmglfbcpdlnaaC1
/- The operations on words: package machine's and the reference's. -/
namespace Go.Proofs.Ytfnmglfbcpdlnaa
open Go.RowKit
set_option linter.unusedVariables false

namespace Mc
/-- An operation on two words, by its number. -/
def apply (op a b : Nat) : Nat :=
  match op with
  | 1 => (a + b) % 16
  | 2 => (a + 16 - b) % 16
  | 3 => a * b % 16
  | 4 => a &&& b
  | 5 => a ||| b
  | 6 => a ^^^ b
  | 7 => a <<< b % 16
  | 8 => a >>> b
  | 9 => if a < b then 1 else 0
  | 10 => if a = b then 1 else 0
  | _ => a
end Mc

theorem bits_add (a b : Nat) (ha : a < 16) (hb : b < 16) : bits BinOp.and .i64 ((a : Int) + b) 15 = ((Mc.apply 1 a b : Nat) : Int) :=
  (show ∀ a b : Fin 16, bits BinOp.and .i64 ((a.val : Int) + b.val) 15 = ((Mc.apply 1 a.val b.val : Nat) : Int) by decide +kernel) ⟨a, ha⟩ ⟨b, hb⟩
theorem bits_sub (a b : Nat) (ha : a < 16) (hb : b < 16) : bits BinOp.and .i64 ((a : Int) - b) 15 = ((Mc.apply 2 a b : Nat) : Int) :=
  (show ∀ a b : Fin 16, bits BinOp.and .i64 ((a.val : Int) - b.val) 15 = ((Mc.apply 2 a.val b.val : Nat) : Int) by decide +kernel) ⟨a, ha⟩ ⟨b, hb⟩
theorem bits_mul (a b : Nat) (ha : a < 16) (hb : b < 16) : bits BinOp.and .i64 (wrap64 ((a : Int) * b)) 15 = ((Mc.apply 3 a b : Nat) : Int) :=
  (show ∀ a b : Fin 16, bits BinOp.and .i64 (wrap64 ((a.val : Int) * b.val)) 15 = ((Mc.apply 3 a.val b.val : Nat) : Int) by decide +kernel) ⟨a, ha⟩ ⟨b, hb⟩
theorem bits_and (a b : Nat) (ha : a < 16) (hb : b < 16) : bits BinOp.and .i64 (a : Int) b = ((Mc.apply 4 a b : Nat) : Int) :=
  (show ∀ a b : Fin 16, bits BinOp.and .i64 (a.val : Int) b.val = ((Mc.apply 4 a.val b.val : Nat) : Int) by decide +kernel) ⟨a, ha⟩ ⟨b, hb⟩
theorem bits_or (a b : Nat) (ha : a < 16) (hb : b < 16) : bits BinOp.or .i64 (a : Int) b = ((Mc.apply 5 a b : Nat) : Int) :=
  (show ∀ a b : Fin 16, bits BinOp.or .i64 (a.val : Int) b.val = ((Mc.apply 5 a.val b.val : Nat) : Int) by decide +kernel) ⟨a, ha⟩ ⟨b, hb⟩
theorem bits_xor (a b : Nat) (ha : a < 16) (hb : b < 16) : bits BinOp.xor .i64 (a : Int) b = ((Mc.apply 6 a b : Nat) : Int) :=
  (show ∀ a b : Fin 16, bits BinOp.xor .i64 (a.val : Int) b.val = ((Mc.apply 6 a.val b.val : Nat) : Int) by decide +kernel) ⟨a, ha⟩ ⟨b, hb⟩
theorem bits_low (b : Nat) (hb : b < 16) : bits BinOp.and .i64 (b : Int) 15 = (b : Int) :=
  (show ∀ b : Fin 16, bits BinOp.and .i64 (b.val : Int) 15 = (b.val : Int) by decide +kernel) ⟨b, hb⟩

theorem bits_shl (a b : Nat) (ha : a < 16) (hb : b < 16) : bits BinOp.and .i64 (wrap64 ((a : Int) * 2 ^ b)) 15 = ((Mc.apply 7 a b : Nat) : Int) :=
  (show ∀ a b : Fin 16, bits BinOp.and .i64 (wrap64 ((a.val : Int) * 2 ^ b.val)) 15 = ((Mc.apply 7 a.val b.val : Nat) : Int) by decide +kernel) ⟨a, ha⟩ ⟨b, hb⟩
theorem bits_shr (a b : Nat) (ha : a < 16) (hb : b < 16) : (a : Int) / 2 ^ b = ((Mc.apply 8 a b : Nat) : Int) :=
  (show ∀ a b : Fin 16, (a.val : Int) / 2 ^ b.val = ((Mc.apply 8 a.val b.val : Nat) : Int) by decide +kernel) ⟨a, ha⟩ ⟨b, hb⟩

set_option maxRecDepth 100000 in
set_option maxHeartbeats 400000 in
theorem truth_any (b : Bool) (w : World) : Calls Try.prog 101 #[.bool b] w fun e w' => e = .returned (.int .i64 (if b = true then 1 else 0)) ∧ w' = w := by
  cases b with
  | true =>
    go_enter Try.func101, Try.ntmps101
    go_wp2
    go_ret
    exact ⟨rfl, rfl⟩
  | false =>
    go_enter Try.func101, Try.ntmps101
    go_wp2
    go_ret
    exact ⟨rfl, rfl⟩

set_option maxRecDepth 100000 in
set_option maxHeartbeats 1000000 in
theorem apply_0 (a b : Nat) (w : World) (ha : a < 16) (hb : b < 16) :
    Calls Try.prog 91 #[.int .i64 0, .int .i64 a, .int .i64 b] w fun e w' => e = .returned (.int .i64 (Mc.apply 0 a b : Nat)) ∧ w' = w := by
  go_enter Try.func91, Try.ntmps91
  go_wp2
  go_ret
  exact ⟨rfl, rfl⟩
set_option maxRecDepth 100000 in
set_option maxHeartbeats 1000000 in
theorem apply_1 (a b : Nat) (w : World) (ha : a < 16) (hb : b < 16) :
    Calls Try.prog 91 #[.int .i64 1, .int .i64 a, .int .i64 b] w fun e w' => e = .returned (.int .i64 (Mc.apply 1 a b : Nat)) ∧ w' = w := by
  go_enter Try.func91, Try.ntmps91
  go_wp2
  go_ret
  exact ⟨congrArg (fun z => Ending.returned (Value.int .i64 z)) (bits_add a b ha hb), rfl⟩
set_option maxRecDepth 100000 in
set_option maxHeartbeats 1000000 in
theorem apply_2 (a b : Nat) (w : World) (ha : a < 16) (hb : b < 16) :
    Calls Try.prog 91 #[.int .i64 2, .int .i64 a, .int .i64 b] w fun e w' => e = .returned (.int .i64 (Mc.apply 2 a b : Nat)) ∧ w' = w := by
  go_enter Try.func91, Try.ntmps91
  go_wp2
  go_ret
  exact ⟨congrArg (fun z => Ending.returned (Value.int .i64 z)) (bits_sub a b ha hb), rfl⟩
set_option maxRecDepth 100000 in
set_option maxHeartbeats 1000000 in
theorem apply_3 (a b : Nat) (w : World) (ha : a < 16) (hb : b < 16) :
    Calls Try.prog 91 #[.int .i64 3, .int .i64 a, .int .i64 b] w fun e w' => e = .returned (.int .i64 (Mc.apply 3 a b : Nat)) ∧ w' = w := by
  go_enter Try.func91, Try.ntmps91
  go_wp2
  go_ret
  exact ⟨congrArg (fun z => Ending.returned (Value.int .i64 z)) (bits_mul a b ha hb), rfl⟩
set_option maxRecDepth 100000 in
set_option maxHeartbeats 1000000 in
theorem apply_4 (a b : Nat) (w : World) (ha : a < 16) (hb : b < 16) :
    Calls Try.prog 91 #[.int .i64 4, .int .i64 a, .int .i64 b] w fun e w' => e = .returned (.int .i64 (Mc.apply 4 a b : Nat)) ∧ w' = w := by
  go_enter Try.func91, Try.ntmps91
  go_wp2
  go_ret
  exact ⟨congrArg (fun z => Ending.returned (Value.int .i64 z)) (bits_and a b ha hb), rfl⟩
set_option maxRecDepth 100000 in
set_option maxHeartbeats 1000000 in
theorem apply_5 (a b : Nat) (w : World) (ha : a < 16) (hb : b < 16) :
    Calls Try.prog 91 #[.int .i64 5, .int .i64 a, .int .i64 b] w fun e w' => e = .returned (.int .i64 (Mc.apply 5 a b : Nat)) ∧ w' = w := by
  go_enter Try.func91, Try.ntmps91
  go_wp2
  go_ret
  exact ⟨congrArg (fun z => Ending.returned (Value.int .i64 z)) (bits_or a b ha hb), rfl⟩
set_option maxRecDepth 100000 in
set_option maxHeartbeats 1000000 in
theorem apply_6 (a b : Nat) (w : World) (ha : a < 16) (hb : b < 16) :
    Calls Try.prog 91 #[.int .i64 6, .int .i64 a, .int .i64 b] w fun e w' => e = .returned (.int .i64 (Mc.apply 6 a b : Nat)) ∧ w' = w := by
  go_enter Try.func91, Try.ntmps91
  go_wp2
  go_ret
  exact ⟨congrArg (fun z => Ending.returned (Value.int .i64 z)) (bits_xor a b ha hb), rfl⟩
set_option maxRecDepth 100000 in
set_option maxHeartbeats 1000000 in
theorem apply_7 (a b : Nat) (w : World) (ha : a < 16) (hb : b < 16) :
    Calls Try.prog 91 #[.int .i64 7, .int .i64 a, .int .i64 b] w fun e w' => e = .returned (.int .i64 (Mc.apply 7 a b : Nat)) ∧ w' = w := by
  have hl := bits_low b hb
  go_enter Try.func91, Try.ntmps91
  go_wp2
  go_ret
  exact ⟨congrArg (fun z => Ending.returned (Value.int .i64 z)) (bits_shl a b ha hb), rfl⟩
set_option maxRecDepth 100000 in
set_option maxHeartbeats 1000000 in
theorem apply_8 (a b : Nat) (w : World) (ha : a < 16) (hb : b < 16) :
    Calls Try.prog 91 #[.int .i64 8, .int .i64 a, .int .i64 b] w fun e w' => e = .returned (.int .i64 (Mc.apply 8 a b : Nat)) ∧ w' = w := by
  have hl := bits_low b hb
  go_enter Try.func91, Try.ntmps91
  go_wp2
  go_ret
  exact ⟨congrArg (fun z => Ending.returned (Value.int .i64 z)) (bits_shr a b ha hb), rfl⟩
set_option maxRecDepth 100000 in
set_option maxHeartbeats 1000000 in
theorem apply_9 (a b : Nat) (w : World) (ha : a < 16) (hb : b < 16) :
    Calls Try.prog 91 #[.int .i64 9, .int .i64 a, .int .i64 b] w fun e w' => e = .returned (.int .i64 (Mc.apply 9 a b : Nat)) ∧ w' = w := by
  by_cases h : a < b
  · have hI : (a : Int) < (b : Int) := by omega
    have H := hid h
    clear h
    go_enter Try.func91, Try.ntmps91
    go_wp2_with (first | (go_at_call 101; refine (truth_any _ _).mono ?_; rintro e w0 ⟨rfl, hw0⟩; have hw1 := hw0.symm; subst hw1))
    go_ret
    exact ⟨congrArg (fun z => Ending.returned (Value.int .i64 z)) (by unfold Mc.apply; simp [H.out]), rfl⟩
  · have hI : ¬ (a : Int) < (b : Int) := by omega
    have H := hid h
    clear h
    go_enter Try.func91, Try.ntmps91
    go_wp2_with (first | (go_at_call 101; refine (truth_any _ _).mono ?_; rintro e w0 ⟨rfl, hw0⟩; have hw1 := hw0.symm; subst hw1))
    go_ret
    exact ⟨congrArg (fun z => Ending.returned (Value.int .i64 z)) (by unfold Mc.apply; simp [H.out]), rfl⟩
set_option maxRecDepth 100000 in
set_option maxHeartbeats 1000000 in
theorem apply_10 (a b : Nat) (w : World) (ha : a < 16) (hb : b < 16) :
    Calls Try.prog 91 #[.int .i64 10, .int .i64 a, .int .i64 b] w fun e w' => e = .returned (.int .i64 (Mc.apply 10 a b : Nat)) ∧ w' = w := by
  by_cases h : a = b
  · have hI : ((a : Int) == (b : Int)) = true := by simp; omega
    have H := hid h
    clear h
    go_enter Try.func91, Try.ntmps91
    go_wp2_with (first | (go_at_call 101; refine (truth_any _ _).mono ?_; rintro e w0 ⟨rfl, hw0⟩; have hw1 := hw0.symm; subst hw1))
    go_ret
    exact ⟨congrArg (fun z => Ending.returned (Value.int .i64 z)) (by unfold Mc.apply; simp [H.out]), rfl⟩
  · have hI : ((a : Int) == (b : Int)) = false := by simp; omega
    have H := hid h
    clear h
    go_enter Try.func91, Try.ntmps91
    go_wp2_with (first | (go_at_call 101; refine (truth_any _ _).mono ?_; rintro e w0 ⟨rfl, hw0⟩; have hw1 := hw0.symm; subst hw1))
    go_ret
    exact ⟨congrArg (fun z => Ending.returned (Value.int .i64 z)) (by unfold Mc.apply; simp [H.out]), rfl⟩

theorem apply_any (op a b : Nat) (w : World) (ho : op ≤ 10) (ha : a < 16) (hb : b < 16) :
    Calls Try.prog 91 #[.int .i64 op, .int .i64 a, .int .i64 b] w fun e w' => e = .returned (.int .i64 (Mc.apply op a b : Nat)) ∧ w' = w := by
  match op, ho with
  | 0, _ => exact apply_0 a b w ha hb
  | 1, _ => exact apply_1 a b w ha hb
  | 2, _ => exact apply_2 a b w ha hb
  | 3, _ => exact apply_3 a b w ha hb
  | 4, _ => exact apply_4 a b w ha hb
  | 5, _ => exact apply_5 a b w ha hb
  | 6, _ => exact apply_6 a b w ha hb
  | 7, _ => exact apply_7 a b w ha hb
  | 8, _ => exact apply_8 a b w ha hb
  | 9, _ => exact apply_9 a b w ha hb
  | 10, _ => exact apply_10 a b w ha hb
  | n + 11, h => omega
theorem apply_lt (op a b : Nat) (ho : op ≤ 10) (ha : a < 16) (hb : b < 16) : Mc.apply op a b < 16 :=
  (show ∀ op : Fin 11, ∀ a b : Fin 16, Mc.apply op.val a.val b.val < 16 by decide +kernel) ⟨op, by omega⟩ ⟨a, ha⟩ ⟨b, hb⟩

end Go.Proofs.Ytfnmglfbcpdlnaa
