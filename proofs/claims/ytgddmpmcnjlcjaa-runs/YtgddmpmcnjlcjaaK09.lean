import Derived.Test.YtgddmpmcnjlcjaaK08
import Derived.WalkSmall
import Derived.Deep.LoopGhost
import Derived.Deep.QuietTactic
import Derived.BigQuiet
/- The operations on words: package machine's and the reference's. -/
namespace Go.Proofs.Ytgddmpmcnjlcjaa
open Go.RowKit
set_option linter.unusedVariables false

namespace Mc
/-- An operation on two words, by its number. -/
def apply (op a b : Nat) : Nat :=
  match op with
  | 1 => (a + b) % 16
  | 2 => (a + 16 - b) % 16
  | 3 => a * b % 16
  | 4 => a &&& b
  | 5 => a ||| b
  | 6 => a ^^^ b
  | 7 => a <<< b % 16
  | 8 => a >>> b
  | 9 => if a < b then 1 else 0
  | 10 => if a = b then 1 else 0
  | _ => a
end Mc

theorem bits_add (a b : Nat) (ha : a < 16) (hb : b < 16) : bits BinOp.and .i64 ((a : Int) + b) 15 = ((Mc.apply 1 a b : Nat) : Int) :=
  (show ∀ a b : Fin 16, bits BinOp.and .i64 ((a.val : Int) + b.val) 15 = ((Mc.apply 1 a.val b.val : Nat) : Int) by decide +kernel) ⟨a, ha⟩ ⟨b, hb⟩
theorem bits_sub (a b : Nat) (ha : a < 16) (hb : b < 16) : bits BinOp.and .i64 ((a : Int) - b) 15 = ((Mc.apply 2 a b : Nat) : Int) :=
  (show ∀ a b : Fin 16, bits BinOp.and .i64 ((a.val : Int) - b.val) 15 = ((Mc.apply 2 a.val b.val : Nat) : Int) by decide +kernel) ⟨a, ha⟩ ⟨b, hb⟩
theorem bits_mul (a b : Nat) (ha : a < 16) (hb : b < 16) : bits BinOp.and .i64 (wrap64 ((a : Int) * b)) 15 = ((Mc.apply 3 a b : Nat) : Int) :=
  (show ∀ a b : Fin 16, bits BinOp.and .i64 (wrap64 ((a.val : Int) * b.val)) 15 = ((Mc.apply 3 a.val b.val : Nat) : Int) by decide +kernel) ⟨a, ha⟩ ⟨b, hb⟩
theorem bits_and (a b : Nat) (ha : a < 16) (hb : b < 16) : bits BinOp.and .i64 (a : Int) b = ((Mc.apply 4 a b : Nat) : Int) :=
  (show ∀ a b : Fin 16, bits BinOp.and .i64 (a.val : Int) b.val = ((Mc.apply 4 a.val b.val : Nat) : Int) by decide +kernel) ⟨a, ha⟩ ⟨b, hb⟩
theorem bits_or (a b : Nat) (ha : a < 16) (hb : b < 16) : bits BinOp.or .i64 (a : Int) b = ((Mc.apply 5 a b : Nat) : Int) :=
  (show ∀ a b : Fin 16, bits BinOp.or .i64 (a.val : Int) b.val = ((Mc.apply 5 a.val b.val : Nat) : Int) by decide +kernel) ⟨a, ha⟩ ⟨b, hb⟩
theorem bits_xor (a b : Nat) (ha : a < 16) (hb : b < 16) : bits BinOp.xor .i64 (a : Int) b = ((Mc.apply 6 a b : Nat) : Int) :=
  (show ∀ a b : Fin 16, bits BinOp.xor .i64 (a.val : Int) b.val = ((Mc.apply 6 a.val b.val : Nat) : Int) by decide +kernel) ⟨a, ha⟩ ⟨b, hb⟩
theorem bits_low (b : Nat) (hb : b < 16) : bits BinOp.and .i64 (b : Int) 15 = (b : Int) :=
  (show ∀ b : Fin 16, bits BinOp.and .i64 (b.val : Int) 15 = (b.val : Int) by decide +kernel) ⟨b, hb⟩

theorem bits_shl (a b : Nat) (ha : a < 16) (hb : b < 16) : bits BinOp.and .i64 (wrap64 ((a : Int) * 2 ^ b)) 15 = ((Mc.apply 7 a b : Nat) : Int) :=
  (show ∀ a b : Fin 16, bits BinOp.and .i64 (wrap64 ((a.val : Int) * 2 ^ b.val)) 15 = ((Mc.apply 7 a.val b.val : Nat) : Int) by decide +kernel) ⟨a, ha⟩ ⟨b, hb⟩
theorem bits_shr (a b : Nat) (ha : a < 16) (hb : b < 16) : (a : Int) / 2 ^ b = ((Mc.apply 8 a b : Nat) : Int) :=
  (show ∀ a b : Fin 16, (a.val : Int) / 2 ^ b.val = ((Mc.apply 8 a.val b.val : Nat) : Int) by decide +kernel) ⟨a, ha⟩ ⟨b, hb⟩

set_option maxRecDepth 100000 in
set_option maxHeartbeats 400000 in
theorem truth_any (b : Bool) (w : World) : Calls Try.prog 63 #[.bool b] w fun e w' => e = .returned (.int .i64 (if b = true then 1 else 0)) ∧ w' = w := by
  cases b with
  | true =>
    go_enter Try.func63, Try.ntmps63
    go_wp2
    go_ret
    exact ⟨rfl, rfl⟩
  | false =>
    go_enter Try.func63, Try.ntmps63
    go_wp2
    go_ret
    exact ⟨rfl, rfl⟩

set_option maxRecDepth 100000 in
set_option maxHeartbeats 1000000 in
theorem apply_0 (a b : Nat) (w : World) (ha : a < 16) (hb : b < 16) :
    Calls Try.prog 49 #[.int .i64 0, .int .i64 a, .int .i64 b] w fun e w' => e = .returned (.int .i64 (Mc.apply 0 a b : Nat)) ∧ w' = w := by
  go_enter Try.func49, Try.ntmps49
  go_wp2
  go_ret
  exact ⟨rfl, rfl⟩
set_option maxRecDepth 100000 in
set_option maxHeartbeats 1000000 in
theorem apply_1 (a b : Nat) (w : World) (ha : a < 16) (hb : b < 16) :
    Calls Try.prog 49 #[.int .i64 1, .int .i64 a, .int .i64 b] w fun e w' => e = .returned (.int .i64 (Mc.apply 1 a b : Nat)) ∧ w' = w := by
  go_enter Try.func49, Try.ntmps49
  go_wp2
  go_ret
  exact ⟨congrArg (fun z => Ending.returned (Value.int .i64 z)) (bits_add a b ha hb), rfl⟩
set_option maxRecDepth 100000 in
set_option maxHeartbeats 1000000 in
theorem apply_2 (a b : Nat) (w : World) (ha : a < 16) (hb : b < 16) :
    Calls Try.prog 49 #[.int .i64 2, .int .i64 a, .int .i64 b] w fun e w' => e = .returned (.int .i64 (Mc.apply 2 a b : Nat)) ∧ w' = w := by
  go_enter Try.func49, Try.ntmps49
  go_wp2
  go_ret
  exact ⟨congrArg (fun z => Ending.returned (Value.int .i64 z)) (bits_sub a b ha hb), rfl⟩
set_option maxRecDepth 100000 in
set_option maxHeartbeats 1000000 in
theorem apply_3 (a b : Nat) (w : World) (ha : a < 16) (hb : b < 16) :
    Calls Try.prog 49 #[.int .i64 3, .int .i64 a, .int .i64 b] w fun e w' => e = .returned (.int .i64 (Mc.apply 3 a b : Nat)) ∧ w' = w := by
  go_enter Try.func49, Try.ntmps49
  go_wp2
  go_ret
  exact ⟨congrArg (fun z => Ending.returned (Value.int .i64 z)) (bits_mul a b ha hb), rfl⟩
set_option maxRecDepth 100000 in
set_option maxHeartbeats 1000000 in
theorem apply_4 (a b : Nat) (w : World) (ha : a < 16) (hb : b < 16) :
    Calls Try.prog 49 #[.int .i64 4, .int .i64 a, .int .i64 b] w fun e w' => e = .returned (.int .i64 (Mc.apply 4 a b : Nat)) ∧ w' = w := by
  go_enter Try.func49, Try.ntmps49
  go_wp2
  go_ret
  exact ⟨congrArg (fun z => Ending.returned (Value.int .i64 z)) (bits_and a b ha hb), rfl⟩
set_option maxRecDepth 100000 in
set_option maxHeartbeats 1000000 in
theorem apply_5 (a b : Nat) (w : World) (ha : a < 16) (hb : b < 16) :
    Calls Try.prog 49 #[.int .i64 5, .int .i64 a, .int .i64 b] w fun e w' => e = .returned (.int .i64 (Mc.apply 5 a b : Nat)) ∧ w' = w := by
  go_enter Try.func49, Try.ntmps49
  go_wp2
  go_ret
  exact ⟨congrArg (fun z => Ending.returned (Value.int .i64 z)) (bits_or a b ha hb), rfl⟩
set_option maxRecDepth 100000 in
set_option maxHeartbeats 1000000 in
theorem apply_6 (a b : Nat) (w : World) (ha : a < 16) (hb : b < 16) :
    Calls Try.prog 49 #[.int .i64 6, .int .i64 a, .int .i64 b] w fun e w' => e = .returned (.int .i64 (Mc.apply 6 a b : Nat)) ∧ w' = w := by
  go_enter Try.func49, Try.ntmps49
  go_wp2
  go_ret
  exact ⟨congrArg (fun z => Ending.returned (Value.int .i64 z)) (bits_xor a b ha hb), rfl⟩
set_option maxRecDepth 100000 in
set_option maxHeartbeats 1000000 in
theorem apply_7 (a b : Nat) (w : World) (ha : a < 16) (hb : b < 16) :
    Calls Try.prog 49 #[.int .i64 7, .int .i64 a, .int .i64 b] w fun e w' => e = .returned (.int .i64 (Mc.apply 7 a b : Nat)) ∧ w' = w := by
  have hl := bits_low b hb
  go_enter Try.func49, Try.ntmps49
  go_wp2
  go_ret
  exact ⟨congrArg (fun z => Ending.returned (Value.int .i64 z)) (bits_shl a b ha hb), rfl⟩
set_option maxRecDepth 100000 in
set_option maxHeartbeats 1000000 in
theorem apply_8 (a b : Nat) (w : World) (ha : a < 16) (hb : b < 16) :
    Calls Try.prog 49 #[.int .i64 8, .int .i64 a, .int .i64 b] w fun e w' => e = .returned (.int .i64 (Mc.apply 8 a b : Nat)) ∧ w' = w := by
  have hl := bits_low b hb
  go_enter Try.func49, Try.ntmps49
  go_wp2
  go_ret
  exact ⟨congrArg (fun z => Ending.returned (Value.int .i64 z)) (bits_shr a b ha hb), rfl⟩
set_option maxRecDepth 100000 in
set_option maxHeartbeats 1000000 in
theorem apply_9 (a b : Nat) (w : World) (ha : a < 16) (hb : b < 16) :
    Calls Try.prog 49 #[.int .i64 9, .int .i64 a, .int .i64 b] w fun e w' => e = .returned (.int .i64 (Mc.apply 9 a b : Nat)) ∧ w' = w := by
  by_cases h : a < b
  · have hI : (a : Int) < (b : Int) := by omega
    have H := hid h
    clear h
    go_enter Try.func49, Try.ntmps49
    go_wp2_with (first | (go_at_call 63; refine (truth_any _ _).mono ?_; rintro e w0 ⟨rfl, hw0⟩; have hw1 := hw0.symm; subst hw1))
    go_ret
    exact ⟨congrArg (fun z => Ending.returned (Value.int .i64 z)) (by unfold Mc.apply; simp [H.out]), rfl⟩
  · have hI : ¬ (a : Int) < (b : Int) := by omega
    have H := hid h
    clear h
    go_enter Try.func49, Try.ntmps49
    go_wp2_with (first | (go_at_call 63; refine (truth_any _ _).mono ?_; rintro e w0 ⟨rfl, hw0⟩; have hw1 := hw0.symm; subst hw1))
    go_ret
    exact ⟨congrArg (fun z => Ending.returned (Value.int .i64 z)) (by unfold Mc.apply; simp [H.out]), rfl⟩
set_option maxRecDepth 100000 in
set_option maxHeartbeats 1000000 in
theorem apply_10 (a b : Nat) (w : World) (ha : a < 16) (hb : b < 16) :
    Calls Try.prog 49 #[.int .i64 10, .int .i64 a, .int .i64 b] w fun e w' => e = .returned (.int .i64 (Mc.apply 10 a b : Nat)) ∧ w' = w := by
  by_cases h : a = b
  · have hI : ((a : Int) == (b : Int)) = true := by simp; omega
    have H := hid h
    clear h
    go_enter Try.func49, Try.ntmps49
    go_wp2_with (first | (go_at_call 63; refine (truth_any _ _).mono ?_; rintro e w0 ⟨rfl, hw0⟩; have hw1 := hw0.symm; subst hw1))
    go_ret
    exact ⟨congrArg (fun z => Ending.returned (Value.int .i64 z)) (by unfold Mc.apply; simp [H.out]), rfl⟩
  · have hI : ((a : Int) == (b : Int)) = false := by simp; omega
    have H := hid h
    clear h
    go_enter Try.func49, Try.ntmps49
    go_wp2_with (first | (go_at_call 63; refine (truth_any _ _).mono ?_; rintro e w0 ⟨rfl, hw0⟩; have hw1 := hw0.symm; subst hw1))
    go_ret
    exact ⟨congrArg (fun z => Ending.returned (Value.int .i64 z)) (by unfold Mc.apply; simp [H.out]), rfl⟩

theorem apply_any (op a b : Nat) (w : World) (ho : op ≤ 10) (ha : a < 16) (hb : b < 16) :
    Calls Try.prog 49 #[.int .i64 op, .int .i64 a, .int .i64 b] w fun e w' => e = .returned (.int .i64 (Mc.apply op a b : Nat)) ∧ w' = w := by
  match op, ho with
  | 0, _ => exact apply_0 a b w ha hb
  | 1, _ => exact apply_1 a b w ha hb
  | 2, _ => exact apply_2 a b w ha hb
  | 3, _ => exact apply_3 a b w ha hb
  | 4, _ => exact apply_4 a b w ha hb
  | 5, _ => exact apply_5 a b w ha hb
  | 6, _ => exact apply_6 a b w ha hb
  | 7, _ => exact apply_7 a b w ha hb
  | 8, _ => exact apply_8 a b w ha hb
  | 9, _ => exact apply_9 a b w ha hb
  | 10, _ => exact apply_10 a b w ha hb
  | n + 11, h => omega
theorem apply_lt (op a b : Nat) (ho : op ≤ 10) (ha : a < 16) (hb : b < 16) : Mc.apply op a b < 16 :=
  (show ∀ op : Fin 11, ∀ a b : Fin 16, Mc.apply op.val a.val b.val < 16 by decide +kernel) ⟨op, by omega⟩ ⟨a, ha⟩ ⟨b, hb⟩

end Go.Proofs.Ytgddmpmcnjlcjaa

/- What a call leaves as it was. -/
namespace Go.Proofs.Ytgddmpmcnjlcjaa
open Go.RowKit
set_option linter.unusedVariables false

/-- Below 'base' nothing has turned, and above it only what S names (and what is new). -/
structure Frm (base : Nat) (S : Nat → Prop) (w w' : World) : Prop where
  bel : Below base w w'
  keep : ∀ k, k < w.heap.size → ¬ S k → w'.heap[k]? = w.heap[k]?
namespace Frm
variable {base : Nat} {S : Nat → Prop} {a w w' : World}
theorem refl (base : Nat) (S : Nat → Prop) (w : World) : Frm base S w w := ⟨Below.refl _ _, fun _ _ _ => rfl⟩
theorem ofBelow (h : Below w.heap.size w w') (hb : base ≤ w.heap.size) : Frm base S w w' := ⟨h.mono hb, fun k hk _ => h.block k hk⟩
theorem alloc (h : Frm base S a w) (hB : base ≤ w.heap.size) (o : Obj) : Frm base S a (w.alloc o) :=
  ⟨h.bel.alloc hB o, fun k hk hs => (Below.heap_alloc w o k (Nat.lt_of_lt_of_le hk h.bel.size)).trans (h.keep k hk hs)⟩
theorem drew (h : Frm base S a w) : Frm base S a w.drew := ⟨h.bel.drew, h.keep⟩
theorem grown {row : Option Nat} (h : Frm base S a w) (hg : w.grownBy w' row) (hB : base ≤ w.heap.size) (hr : ∀ k, row = some k → base ≤ k ∧ S k) : Frm base S a w' :=
  ⟨h.bel.grown hg hB (fun k hk => (hr k hk).1), fun k hk hs => (hg.block k (Nat.lt_of_lt_of_le hk h.bel.size) (fun e => hs (hr k e.symm).2)).trans (h.keep k hk hs)⟩
theorem setCell (h : Frm base S a w) {p : Addr} (hp : base ≤ p.block) (hs : S p.block) (u : Value) : Frm base S a (w.setCell p u) :=
  ⟨h.bel.setCell hp u, fun k hk hk2 => (Below.heap_setCell w p u k (fun e => hk2 (by rw [e]; exact hs))).trans (h.keep k hk hk2)⟩
end Frm

theorem ownsRow_blk {w w' : World} {base : Nat} {e : TypeId} {size : Nat} {v : Value} {n : Nat} {xs : List Value} (h : w.ownsRow base e size v n xs) (hb : ∀ k, v.ownBlock = some k → w'.heap[k]? = w.heap[k]?) : w'.ownsRow base e size v n xs := by
  refine ⟨h.1, ?_⟩
  rcases h.2 with hn | ⟨g, cap, cur, rfl, hb', hgg, rest⟩
  · exact .inl hn
  · exact .inr ⟨g, cap, cur, rfl, hb', by rw [hb g rfl]; exact hgg, rest⟩

namespace Frm
variable {base : Nat} {S T : Nat → Prop} {a b c w : World}
theorem trans (h : Frm base S a b) (k : Frm base T b c) (hT : ∀ k, k < a.heap.size → T k → S k) : Frm base S a c :=
  ⟨h.bel.trans k.bel, fun j hj hs => (k.keep j (Nat.lt_of_lt_of_le hj h.bel.size) (fun t => hs (hT j hj t))).trans (h.keep j hj hs)⟩
theorem drewN (h : Frm base S a w) (n : Nat) : Frm base S a (w.drewN n) := ⟨below_drewN h.bel n, h.keep⟩
theorem imp (h : Frm base S a b) (hT : ∀ k, k < a.heap.size → S k → T k) : Frm base T a b := ⟨h.bel, fun j hj ht => h.keep j hj (fun s => ht (hT j hj s))⟩
theorem cell (h : Frm base S a b) {p : Addr} {v : Value} (hp : a.cell? p = some v) (hs : ¬ S p.block) : b.cell? p = some v :=
  (World.cell?_of_block (h.keep p.block (World.block_lt_of_cell? a p hp) hs)).trans hp
theorem frozen (h : Frm base S a b) {p : Addr} (hp : p.block < a.heap.size) (hs : ¬ S p.block) : b.frozen? p = a.frozen? p := World.frozen?_of_block (h.keep p.block hp hs)
end Frm

theorem bel_trans {a b c : World} (h : Below a.heap.size a b) (k : Below b.heap.size b c) : Below a.heap.size a c := h.trans (k.mono h.size)
theorem bel_drewN {a c : World} {n : Nat} (h : Below (a.drewN n).heap.size (a.drewN n) c) : Below a.heap.size a c := (below_drewN (Below.refl _ a) n).trans h
namespace Frm
variable {base : Nat} {S : Nat → Prop} {a b c : World}
theorem lift (h : Frm 0 S a b) (hS : ∀ k, k < a.heap.size → S k → base ≤ k) (hB : base ≤ a.heap.size) : Frm base S a b :=
  ⟨⟨h.bel.os, h.bel.tape, h.bel.output, h.bel.size, fun k hk => h.keep k (Nat.lt_of_lt_of_le hk hB) (fun s => Nat.lt_irrefl k (Nat.lt_of_lt_of_le hk (hS k (Nat.lt_of_lt_of_le hk hB) s)))⟩, h.keep⟩
theorem down (h : Frm base S a b) : Frm 0 S a b := ⟨h.bel.mono (Nat.zero_le _), h.keep⟩
end Frm

end Go.Proofs.Ytgddmpmcnjlcjaa

/- The reference's operations on words. -/
namespace Go.Proofs.Ytgddmpmcnjlcjaa
open Go.RowKit
set_option linter.unusedVariables false

namespace Mc
/-- Bit by bit, the first k bits: and, or, xor by their numbers. -/
def bwHit (op n : Nat) : Bool := (op == 4 && n == 2) || (op == 5 && decide (0 < n)) || (op == 6 && n == 1)
def bwK (op a b : Nat) : Nat → Nat
  | 0 => 0
  | k + 1 => if bwHit op (a / 2 ^ k % 2 + b / 2 ^ k % 2) = true then bwK op a b k + 2 ^ k else bwK op a b k
theorem bwK_all : ∀ a, a < 16 → ∀ b, b < 16 → bwK 4 a b 4 = apply 4 a b ∧ bwK 5 a b 4 = apply 5 a b ∧ bwK 6 a b 4 = apply 6 a b := by decide +kernel
theorem bwK_le (op a b k : Nat) : bwK op a b k < 2 ^ k := by
  induction k with
  | zero => exact Nat.one_pos
  | succ k ih =>
    unfold bwK
    rw [Nat.pow_succ]
    split
    · omega
    · omega
def shlK (a : Nat) : Nat → Nat
  | 0 => a
  | i + 1 => 2 * shlK a i % 16
def shrK (a : Nat) : Nat → Nat
  | 0 => a
  | i + 1 => shrK a i / 2
theorem sh_all : ∀ a, a < 16 → ∀ b, b < 16 → shlK a b % 16 = apply 7 a b ∧ shrK a b % 16 = apply 8 a b := by decide +kernel
theorem shlK_lt (a : Nat) (ha : a < 16) (i : Nat) : shlK a i < 16 := by
  cases i with
  | zero => exact ha
  | succ i => exact Nat.mod_lt _ (by omega)
theorem shrK_lt (a : Nat) (ha : a < 16) (i : Nat) : shrK a i < 16 := by
  induction i with
  | zero => exact ha
  | succ i ih => show shrK a i / 2 < 16; omega
end Mc

theorem ritem_any (t v : Nat) (w : World) (ht : t ≤ 5) (hv : v < 16) :
    Calls Try.prog 28 #[.int .i64 t, .int .i64 v] w fun e w' => e = .returned (.int .i64 ((16 * t + v : Nat) : Int)) ∧ w' = w := by
  have h1 : (t : Int) ≤ 5 := by omega
  have h2 : (v : Int) < 16 := by omega
  go_enter Try.func28, Try.ntmps28
  go_wp2
  go_ret
  exact ⟨congrArg (fun z => Ending.returned (Value.int .i64 z)) (by omega), rfl⟩

set_option maxRecDepth 100000 in
set_option maxHeartbeats 2000000 in
theorem bitwise_and (a b : Nat) (ha : a < 16) (hb : b < 16) (w : World) :
    Calls Try.prog 55 #[.string ⟨#[38]⟩, .int .i64 a, .int .i64 b] w fun e w' => e = .returned (.int .i64 (Mc.apply 4 a b : Nat)) ∧ w' = w := by
  go_enter Try.func55, Try.ntmps55
  go_wp2_with fail
  go_loopg [7, 8] 4 (fun gk vx px wr => ∃ k pp vv : Nat, k + gk = 4 ∧ 2 ^ k = pp ∧ Mc.bwK 4 a b k = vv ∧ px = .int .i64 pp ∧ vx = .int .i64 vv ∧ wr = w)
  case atStart => exact ⟨0, 1, 0, rfl, rfl, rfl, rfl, rfl, rfl⟩
  case round =>
    obtain ⟨k, pp, vv, hk, hpp, hvv, rfl, rfl, hw⟩ := hrel
    have hw2 := hw.symm
    clear hw
    subst hw2
    have hle := Mc.bwK_le 4 a b k
    have hp4 : 2 ^ k ≤ 2 ^ 4 := Nat.pow_le_pow_right (by omega) (by omega)
    have hp0 : 0 < 2 ^ k := Nat.two_pow_pos k
    rw [hpp] at hle hp4 hp0
    rw [hvv] at hle
    have HPP := hid hpp
    have HV := hid hvv
    have hppI : (pp : Int) ≤ 16 := by omega
    have hpp0 : (0 : Int) < (pp : Int) := by omega
    have hvvI : (vv : Int) < (pp : Int) := by omega
    by_cases hlt : k < 4
    · have hp8 : pp ≤ 8 := by
        have : 2 ^ k ≤ 2 ^ 3 := Nat.pow_le_pow_right (by omega) (by omega)
        omega
      have hp8I : (pp : Int) < 16 := by omega
      clear hpp hvv
      have hx2 := Nat.mod_lt (a / 2 ^ k) (show 0 < 2 by omega)
      have hy2 := Nat.mod_lt (b / 2 ^ k) (show 0 < 2 by omega)
      obtain hx | hx : a / 2 ^ k % 2 = 0 ∨ a / 2 ^ k % 2 = 1 := by omega
      · obtain hy | hy : b / 2 ^ k % 2 = 0 ∨ b / 2 ^ k % 2 = 1 := by omega
        · have HK := hid (show Mc.bwK 4 a b (k + 1) = Mc.bwK 4 a b k by
            show (if Mc.bwHit 4 (a / 2 ^ k % 2 + b / 2 ^ k % 2) = true then Mc.bwK 4 a b k + 2 ^ k else Mc.bwK 4 a b k) = _
            rw [hx, hy]; rfl)
          rw [HPP.out] at hx hy
          have hqa : (a : Int) / (pp : Int) = ((a / pp : Nat) : Int) := by omega
          have hqb : (b : Int) / (pp : Int) = ((b / pp : Nat) : Int) := by omega
          have hla : a / pp ≤ a := Nat.div_le_self _ _
          have hlb : b / pp ≤ b := Nat.div_le_self _ _
          generalize a / pp = qa at hqa hla hx
          generalize b / pp = qb at hqb hlb hy
          have hlaI : (qa : Int) < 16 := by omega
          have hlbI : (qb : Int) < 16 := by omega
          have hxI : (qa : Int) % 2 = 0 := by omega
          have hyI : (qb : Int) % 2 = 0 := by omega
          rw [HV.out] at HK
          clear hx hy hx2 hy2
          go_wp2_with fail
          go_roundg (gk - 1)
          case measure => omega
          case rel => exact ⟨k + 1, 2 * pp, vv, by omega, by rw [Nat.pow_succ, HPP.out]; omega, HK.out, by go_num, rfl, rfl⟩
        · have HK := hid (show Mc.bwK 4 a b (k + 1) = Mc.bwK 4 a b k by
            show (if Mc.bwHit 4 (a / 2 ^ k % 2 + b / 2 ^ k % 2) = true then Mc.bwK 4 a b k + 2 ^ k else Mc.bwK 4 a b k) = _
            rw [hx, hy]; rfl)
          rw [HPP.out] at hx hy
          have hqa : (a : Int) / (pp : Int) = ((a / pp : Nat) : Int) := by omega
          have hqb : (b : Int) / (pp : Int) = ((b / pp : Nat) : Int) := by omega
          have hla : a / pp ≤ a := Nat.div_le_self _ _
          have hlb : b / pp ≤ b := Nat.div_le_self _ _
          generalize a / pp = qa at hqa hla hx
          generalize b / pp = qb at hqb hlb hy
          have hlaI : (qa : Int) < 16 := by omega
          have hlbI : (qb : Int) < 16 := by omega
          have hxI : (qa : Int) % 2 = 0 := by omega
          have hyI : (qb : Int) % 2 = 1 := by omega
          rw [HV.out] at HK
          clear hx hy hx2 hy2
          go_wp2_with fail
          go_roundg (gk - 1)
          case measure => omega
          case rel => exact ⟨k + 1, 2 * pp, vv, by omega, by rw [Nat.pow_succ, HPP.out]; omega, HK.out, by go_num, rfl, rfl⟩
      · obtain hy | hy : b / 2 ^ k % 2 = 0 ∨ b / 2 ^ k % 2 = 1 := by omega
        · have HK := hid (show Mc.bwK 4 a b (k + 1) = Mc.bwK 4 a b k by
            show (if Mc.bwHit 4 (a / 2 ^ k % 2 + b / 2 ^ k % 2) = true then Mc.bwK 4 a b k + 2 ^ k else Mc.bwK 4 a b k) = _
            rw [hx, hy]; rfl)
          rw [HPP.out] at hx hy
          have hqa : (a : Int) / (pp : Int) = ((a / pp : Nat) : Int) := by omega
          have hqb : (b : Int) / (pp : Int) = ((b / pp : Nat) : Int) := by omega
          have hla : a / pp ≤ a := Nat.div_le_self _ _
          have hlb : b / pp ≤ b := Nat.div_le_self _ _
          generalize a / pp = qa at hqa hla hx
          generalize b / pp = qb at hqb hlb hy
          have hlaI : (qa : Int) < 16 := by omega
          have hlbI : (qb : Int) < 16 := by omega
          have hxI : (qa : Int) % 2 = 1 := by omega
          have hyI : (qb : Int) % 2 = 0 := by omega
          rw [HV.out] at HK
          clear hx hy hx2 hy2
          go_wp2_with fail
          go_roundg (gk - 1)
          case measure => omega
          case rel => exact ⟨k + 1, 2 * pp, vv, by omega, by rw [Nat.pow_succ, HPP.out]; omega, HK.out, by go_num, rfl, rfl⟩
        · have HK := hid (show Mc.bwK 4 a b (k + 1) = Mc.bwK 4 a b k + 2 ^ k by
            show (if Mc.bwHit 4 (a / 2 ^ k % 2 + b / 2 ^ k % 2) = true then Mc.bwK 4 a b k + 2 ^ k else Mc.bwK 4 a b k) = _
            rw [hx, hy]; rfl)
          rw [HPP.out] at hx hy
          have hqa : (a : Int) / (pp : Int) = ((a / pp : Nat) : Int) := by omega
          have hqb : (b : Int) / (pp : Int) = ((b / pp : Nat) : Int) := by omega
          have hla : a / pp ≤ a := Nat.div_le_self _ _
          have hlb : b / pp ≤ b := Nat.div_le_self _ _
          generalize a / pp = qa at hqa hla hx
          generalize b / pp = qb at hqb hlb hy
          have hlaI : (qa : Int) < 16 := by omega
          have hlbI : (qb : Int) < 16 := by omega
          have hxI : (qa : Int) % 2 = 1 := by omega
          have hyI : (qb : Int) % 2 = 1 := by omega
          rw [HV.out, HPP.out] at HK
          clear hx hy hx2 hy2
          go_wp2_with fail
          go_roundg (gk - 1)
          case measure => omega
          case rel => exact ⟨k + 1, 2 * pp, vv + pp, by omega, by rw [Nat.pow_succ, HPP.out]; omega, HK.out, by go_num, by go_num, rfl⟩
    · have hk4 : k = 4 := by omega
      subst hk4
      have hpe : pp = 16 := by rw [← hpp]
      subst hpe
      have hE : vv = Mc.apply 4 a b := by rw [← hvv]; exact (Mc.bwK_all a ha b hb).1
      have HE := hid hE
      clear hE hpp hvv
      go_wp2_with fail
      go_ret
      exact ⟨congrArg (fun z : Nat => Ending.returned (.int .i64 (z : Int))) HE.out, rfl⟩

set_option maxRecDepth 100000 in
set_option maxHeartbeats 2000000 in
theorem bitwise_or (a b : Nat) (ha : a < 16) (hb : b < 16) (w : World) :
    Calls Try.prog 55 #[.string ⟨#[124]⟩, .int .i64 a, .int .i64 b] w fun e w' => e = .returned (.int .i64 (Mc.apply 5 a b : Nat)) ∧ w' = w := by
  go_enter Try.func55, Try.ntmps55
  go_wp2_with fail
  go_loopg [7, 8] 4 (fun gk vx px wr => ∃ k pp vv : Nat, k + gk = 4 ∧ 2 ^ k = pp ∧ Mc.bwK 5 a b k = vv ∧ px = .int .i64 pp ∧ vx = .int .i64 vv ∧ wr = w)
  case atStart => exact ⟨0, 1, 0, rfl, rfl, rfl, rfl, rfl, rfl⟩
  case round =>
    obtain ⟨k, pp, vv, hk, hpp, hvv, rfl, rfl, hw⟩ := hrel
    have hw2 := hw.symm
    clear hw
    subst hw2
    have hle := Mc.bwK_le 5 a b k
    have hp4 : 2 ^ k ≤ 2 ^ 4 := Nat.pow_le_pow_right (by omega) (by omega)
    have hp0 : 0 < 2 ^ k := Nat.two_pow_pos k
    rw [hpp] at hle hp4 hp0
    rw [hvv] at hle
    have HPP := hid hpp
    have HV := hid hvv
    have hppI : (pp : Int) ≤ 16 := by omega
    have hpp0 : (0 : Int) < (pp : Int) := by omega
    have hvvI : (vv : Int) < (pp : Int) := by omega
    by_cases hlt : k < 4
    · have hp8 : pp ≤ 8 := by
        have : 2 ^ k ≤ 2 ^ 3 := Nat.pow_le_pow_right (by omega) (by omega)
        omega
      have hp8I : (pp : Int) < 16 := by omega
      clear hpp hvv
      have hx2 := Nat.mod_lt (a / 2 ^ k) (show 0 < 2 by omega)
      have hy2 := Nat.mod_lt (b / 2 ^ k) (show 0 < 2 by omega)
      obtain hx | hx : a / 2 ^ k % 2 = 0 ∨ a / 2 ^ k % 2 = 1 := by omega
      · obtain hy | hy : b / 2 ^ k % 2 = 0 ∨ b / 2 ^ k % 2 = 1 := by omega
        · have HK := hid (show Mc.bwK 5 a b (k + 1) = Mc.bwK 5 a b k by
            show (if Mc.bwHit 5 (a / 2 ^ k % 2 + b / 2 ^ k % 2) = true then Mc.bwK 5 a b k + 2 ^ k else Mc.bwK 5 a b k) = _
            rw [hx, hy]; rfl)
          rw [HPP.out] at hx hy
          have hqa : (a : Int) / (pp : Int) = ((a / pp : Nat) : Int) := by omega
          have hqb : (b : Int) / (pp : Int) = ((b / pp : Nat) : Int) := by omega
          have hla : a / pp ≤ a := Nat.div_le_self _ _
          have hlb : b / pp ≤ b := Nat.div_le_self _ _
          generalize a / pp = qa at hqa hla hx
          generalize b / pp = qb at hqb hlb hy
          have hlaI : (qa : Int) < 16 := by omega
          have hlbI : (qb : Int) < 16 := by omega
          have hxI : (qa : Int) % 2 = 0 := by omega
          have hyI : (qb : Int) % 2 = 0 := by omega
          rw [HV.out] at HK
          clear hx hy hx2 hy2
          go_wp2_with fail
          go_roundg (gk - 1)
          case measure => omega
          case rel => exact ⟨k + 1, 2 * pp, vv, by omega, by rw [Nat.pow_succ, HPP.out]; omega, HK.out, by go_num, rfl, rfl⟩
        · have HK := hid (show Mc.bwK 5 a b (k + 1) = Mc.bwK 5 a b k + 2 ^ k by
            show (if Mc.bwHit 5 (a / 2 ^ k % 2 + b / 2 ^ k % 2) = true then Mc.bwK 5 a b k + 2 ^ k else Mc.bwK 5 a b k) = _
            rw [hx, hy]; rfl)
          rw [HPP.out] at hx hy
          have hqa : (a : Int) / (pp : Int) = ((a / pp : Nat) : Int) := by omega
          have hqb : (b : Int) / (pp : Int) = ((b / pp : Nat) : Int) := by omega
          have hla : a / pp ≤ a := Nat.div_le_self _ _
          have hlb : b / pp ≤ b := Nat.div_le_self _ _
          generalize a / pp = qa at hqa hla hx
          generalize b / pp = qb at hqb hlb hy
          have hlaI : (qa : Int) < 16 := by omega
          have hlbI : (qb : Int) < 16 := by omega
          have hxI : (qa : Int) % 2 = 0 := by omega
          have hyI : (qb : Int) % 2 = 1 := by omega
          rw [HV.out, HPP.out] at HK
          clear hx hy hx2 hy2
          go_wp2_with fail
          go_roundg (gk - 1)
          case measure => omega
          case rel => exact ⟨k + 1, 2 * pp, vv + pp, by omega, by rw [Nat.pow_succ, HPP.out]; omega, HK.out, by go_num, by go_num, rfl⟩
      · obtain hy | hy : b / 2 ^ k % 2 = 0 ∨ b / 2 ^ k % 2 = 1 := by omega
        · have HK := hid (show Mc.bwK 5 a b (k + 1) = Mc.bwK 5 a b k + 2 ^ k by
            show (if Mc.bwHit 5 (a / 2 ^ k % 2 + b / 2 ^ k % 2) = true then Mc.bwK 5 a b k + 2 ^ k else Mc.bwK 5 a b k) = _
            rw [hx, hy]; rfl)
          rw [HPP.out] at hx hy
          have hqa : (a : Int) / (pp : Int) = ((a / pp : Nat) : Int) := by omega
          have hqb : (b : Int) / (pp : Int) = ((b / pp : Nat) : Int) := by omega
          have hla : a / pp ≤ a := Nat.div_le_self _ _
          have hlb : b / pp ≤ b := Nat.div_le_self _ _
          generalize a / pp = qa at hqa hla hx
          generalize b / pp = qb at hqb hlb hy
          have hlaI : (qa : Int) < 16 := by omega
          have hlbI : (qb : Int) < 16 := by omega
          have hxI : (qa : Int) % 2 = 1 := by omega
          have hyI : (qb : Int) % 2 = 0 := by omega
          rw [HV.out, HPP.out] at HK
          clear hx hy hx2 hy2
          go_wp2_with fail
          go_roundg (gk - 1)
          case measure => omega
          case rel => exact ⟨k + 1, 2 * pp, vv + pp, by omega, by rw [Nat.pow_succ, HPP.out]; omega, HK.out, by go_num, by go_num, rfl⟩
        · have HK := hid (show Mc.bwK 5 a b (k + 1) = Mc.bwK 5 a b k + 2 ^ k by
            show (if Mc.bwHit 5 (a / 2 ^ k % 2 + b / 2 ^ k % 2) = true then Mc.bwK 5 a b k + 2 ^ k else Mc.bwK 5 a b k) = _
            rw [hx, hy]; rfl)
          rw [HPP.out] at hx hy
          have hqa : (a : Int) / (pp : Int) = ((a / pp : Nat) : Int) := by omega
          have hqb : (b : Int) / (pp : Int) = ((b / pp : Nat) : Int) := by omega
          have hla : a / pp ≤ a := Nat.div_le_self _ _
          have hlb : b / pp ≤ b := Nat.div_le_self _ _
          generalize a / pp = qa at hqa hla hx
          generalize b / pp = qb at hqb hlb hy
          have hlaI : (qa : Int) < 16 := by omega
          have hlbI : (qb : Int) < 16 := by omega
          have hxI : (qa : Int) % 2 = 1 := by omega
          have hyI : (qb : Int) % 2 = 1 := by omega
          rw [HV.out, HPP.out] at HK
          clear hx hy hx2 hy2
          go_wp2_with fail
          go_roundg (gk - 1)
          case measure => omega
          case rel => exact ⟨k + 1, 2 * pp, vv + pp, by omega, by rw [Nat.pow_succ, HPP.out]; omega, HK.out, by go_num, by go_num, rfl⟩
    · have hk4 : k = 4 := by omega
      subst hk4
      have hpe : pp = 16 := by rw [← hpp]
      subst hpe
      have hE : vv = Mc.apply 5 a b := by rw [← hvv]; exact (Mc.bwK_all a ha b hb).2.1
      have HE := hid hE
      clear hE hpp hvv
      go_wp2_with fail
      go_ret
      exact ⟨congrArg (fun z : Nat => Ending.returned (.int .i64 (z : Int))) HE.out, rfl⟩

set_option maxRecDepth 100000 in
set_option maxHeartbeats 2000000 in
theorem bitwise_xor (a b : Nat) (ha : a < 16) (hb : b < 16) (w : World) :
    Calls Try.prog 55 #[.string ⟨#[94]⟩, .int .i64 a, .int .i64 b] w fun e w' => e = .returned (.int .i64 (Mc.apply 6 a b : Nat)) ∧ w' = w := by
  go_enter Try.func55, Try.ntmps55
  go_wp2_with fail
  go_loopg [7, 8] 4 (fun gk vx px wr => ∃ k pp vv : Nat, k + gk = 4 ∧ 2 ^ k = pp ∧ Mc.bwK 6 a b k = vv ∧ px = .int .i64 pp ∧ vx = .int .i64 vv ∧ wr = w)
  case atStart => exact ⟨0, 1, 0, rfl, rfl, rfl, rfl, rfl, rfl⟩
  case round =>
    obtain ⟨k, pp, vv, hk, hpp, hvv, rfl, rfl, hw⟩ := hrel
    have hw2 := hw.symm
    clear hw
    subst hw2
    have hle := Mc.bwK_le 6 a b k
    have hp4 : 2 ^ k ≤ 2 ^ 4 := Nat.pow_le_pow_right (by omega) (by omega)
    have hp0 : 0 < 2 ^ k := Nat.two_pow_pos k
    rw [hpp] at hle hp4 hp0
    rw [hvv] at hle
    have HPP := hid hpp
    have HV := hid hvv
    have hppI : (pp : Int) ≤ 16 := by omega
    have hpp0 : (0 : Int) < (pp : Int) := by omega
    have hvvI : (vv : Int) < (pp : Int) := by omega
    by_cases hlt : k < 4
    · have hp8 : pp ≤ 8 := by
        have : 2 ^ k ≤ 2 ^ 3 := Nat.pow_le_pow_right (by omega) (by omega)
        omega
      have hp8I : (pp : Int) < 16 := by omega
      clear hpp hvv
      have hx2 := Nat.mod_lt (a / 2 ^ k) (show 0 < 2 by omega)
      have hy2 := Nat.mod_lt (b / 2 ^ k) (show 0 < 2 by omega)
      obtain hx | hx : a / 2 ^ k % 2 = 0 ∨ a / 2 ^ k % 2 = 1 := by omega
      · obtain hy | hy : b / 2 ^ k % 2 = 0 ∨ b / 2 ^ k % 2 = 1 := by omega
        · have HK := hid (show Mc.bwK 6 a b (k + 1) = Mc.bwK 6 a b k by
            show (if Mc.bwHit 6 (a / 2 ^ k % 2 + b / 2 ^ k % 2) = true then Mc.bwK 6 a b k + 2 ^ k else Mc.bwK 6 a b k) = _
            rw [hx, hy]; rfl)
          rw [HPP.out] at hx hy
          have hqa : (a : Int) / (pp : Int) = ((a / pp : Nat) : Int) := by omega
          have hqb : (b : Int) / (pp : Int) = ((b / pp : Nat) : Int) := by omega
          have hla : a / pp ≤ a := Nat.div_le_self _ _
          have hlb : b / pp ≤ b := Nat.div_le_self _ _
          generalize a / pp = qa at hqa hla hx
          generalize b / pp = qb at hqb hlb hy
          have hlaI : (qa : Int) < 16 := by omega
          have hlbI : (qb : Int) < 16 := by omega
          have hxI : (qa : Int) % 2 = 0 := by omega
          have hyI : (qb : Int) % 2 = 0 := by omega
          rw [HV.out] at HK
          clear hx hy hx2 hy2
          go_wp2_with fail
          go_roundg (gk - 1)
          case measure => omega
          case rel => exact ⟨k + 1, 2 * pp, vv, by omega, by rw [Nat.pow_succ, HPP.out]; omega, HK.out, by go_num, rfl, rfl⟩
        · have HK := hid (show Mc.bwK 6 a b (k + 1) = Mc.bwK 6 a b k + 2 ^ k by
            show (if Mc.bwHit 6 (a / 2 ^ k % 2 + b / 2 ^ k % 2) = true then Mc.bwK 6 a b k + 2 ^ k else Mc.bwK 6 a b k) = _
            rw [hx, hy]; rfl)
          rw [HPP.out] at hx hy
          have hqa : (a : Int) / (pp : Int) = ((a / pp : Nat) : Int) := by omega
          have hqb : (b : Int) / (pp : Int) = ((b / pp : Nat) : Int) := by omega
          have hla : a / pp ≤ a := Nat.div_le_self _ _
          have hlb : b / pp ≤ b := Nat.div_le_self _ _
          generalize a / pp = qa at hqa hla hx
          generalize b / pp = qb at hqb hlb hy
          have hlaI : (qa : Int) < 16 := by omega
          have hlbI : (qb : Int) < 16 := by omega
          have hxI : (qa : Int) % 2 = 0 := by omega
          have hyI : (qb : Int) % 2 = 1 := by omega
          rw [HV.out, HPP.out] at HK
          clear hx hy hx2 hy2
          go_wp2_with fail
          go_roundg (gk - 1)
          case measure => omega
          case rel => exact ⟨k + 1, 2 * pp, vv + pp, by omega, by rw [Nat.pow_succ, HPP.out]; omega, HK.out, by go_num, by go_num, rfl⟩
      · obtain hy | hy : b / 2 ^ k % 2 = 0 ∨ b / 2 ^ k % 2 = 1 := by omega
        · have HK := hid (show Mc.bwK 6 a b (k + 1) = Mc.bwK 6 a b k + 2 ^ k by
            show (if Mc.bwHit 6 (a / 2 ^ k % 2 + b / 2 ^ k % 2) = true then Mc.bwK 6 a b k + 2 ^ k else Mc.bwK 6 a b k) = _
            rw [hx, hy]; rfl)
          rw [HPP.out] at hx hy
          have hqa : (a : Int) / (pp : Int) = ((a / pp : Nat) : Int) := by omega
          have hqb : (b : Int) / (pp : Int) = ((b / pp : Nat) : Int) := by omega
          have hla : a / pp ≤ a := Nat.div_le_self _ _
          have hlb : b / pp ≤ b := Nat.div_le_self _ _
          generalize a / pp = qa at hqa hla hx
          generalize b / pp = qb at hqb hlb hy
          have hlaI : (qa : Int) < 16 := by omega
          have hlbI : (qb : Int) < 16 := by omega
          have hxI : (qa : Int) % 2 = 1 := by omega
          have hyI : (qb : Int) % 2 = 0 := by omega
          rw [HV.out, HPP.out] at HK
          clear hx hy hx2 hy2
          go_wp2_with fail
          go_roundg (gk - 1)
          case measure => omega
          case rel => exact ⟨k + 1, 2 * pp, vv + pp, by omega, by rw [Nat.pow_succ, HPP.out]; omega, HK.out, by go_num, by go_num, rfl⟩
        · have HK := hid (show Mc.bwK 6 a b (k + 1) = Mc.bwK 6 a b k by
            show (if Mc.bwHit 6 (a / 2 ^ k % 2 + b / 2 ^ k % 2) = true then Mc.bwK 6 a b k + 2 ^ k else Mc.bwK 6 a b k) = _
            rw [hx, hy]; rfl)
          rw [HPP.out] at hx hy
          have hqa : (a : Int) / (pp : Int) = ((a / pp : Nat) : Int) := by omega
          have hqb : (b : Int) / (pp : Int) = ((b / pp : Nat) : Int) := by omega
          have hla : a / pp ≤ a := Nat.div_le_self _ _
          have hlb : b / pp ≤ b := Nat.div_le_self _ _
          generalize a / pp = qa at hqa hla hx
          generalize b / pp = qb at hqb hlb hy
          have hlaI : (qa : Int) < 16 := by omega
          have hlbI : (qb : Int) < 16 := by omega
          have hxI : (qa : Int) % 2 = 1 := by omega
          have hyI : (qb : Int) % 2 = 1 := by omega
          rw [HV.out] at HK
          clear hx hy hx2 hy2
          go_wp2_with fail
          go_roundg (gk - 1)
          case measure => omega
          case rel => exact ⟨k + 1, 2 * pp, vv, by omega, by rw [Nat.pow_succ, HPP.out]; omega, HK.out, by go_num, rfl, rfl⟩
    · have hk4 : k = 4 := by omega
      subst hk4
      have hpe : pp = 16 := by rw [← hpp]
      subst hpe
      have hE : vv = Mc.apply 6 a b := by rw [← hvv]; exact (Mc.bwK_all a ha b hb).2.2
      have HE := hid hE
      clear hE hpp hvv
      go_wp2_with fail
      go_ret
      exact ⟨congrArg (fun z : Nat => Ending.returned (.int .i64 (z : Int))) HE.out, rfl⟩

set_option maxRecDepth 100000 in
set_option maxHeartbeats 2000000 in
theorem compute_add (a b : Nat) (ha : a < 16) (hb : b < 16) (w : World) :
    Calls Try.prog 33 #[.string ⟨#[43]⟩, .int .i64 a, .int .i64 b] w fun e w' => e = .returned (.int .i64 (Mc.apply 1 a b : Nat)) ∧ w' = w := by
  have haI : (a : Int) < 16 := by omega
  have hbI : (b : Int) < 16 := by omega
  go_enter Try.func33, Try.ntmps33
  go_wp2_with fail
  go_ret
  exact ⟨congrArg (fun z => Ending.returned (Value.int .i64 z)) (by show _ = (((a + b) % 16 : Nat) : Int); omega), rfl⟩

set_option maxRecDepth 100000 in
set_option maxHeartbeats 2000000 in
theorem compute_sub (a b : Nat) (ha : a < 16) (hb : b < 16) (w : World) :
    Calls Try.prog 33 #[.string ⟨#[45]⟩, .int .i64 a, .int .i64 b] w fun e w' => e = .returned (.int .i64 (Mc.apply 2 a b : Nat)) ∧ w' = w := by
  have haI : (a : Int) < 16 := by omega
  have hbI : (b : Int) < 16 := by omega
  go_enter Try.func33, Try.ntmps33
  go_wp2_with fail
  go_ret
  exact ⟨congrArg (fun z => Ending.returned (Value.int .i64 z)) (by show _ = (((a + 16 - b) % 16 : Nat) : Int); omega), rfl⟩

set_option maxRecDepth 100000 in
set_option maxHeartbeats 2000000 in
theorem compute_mul (a b : Nat) (ha : a < 16) (hb : b < 16) (w : World) :
    Calls Try.prog 33 #[.string ⟨#[42]⟩, .int .i64 a, .int .i64 b] w fun e w' => e = .returned (.int .i64 (Mc.apply 3 a b : Nat)) ∧ w' = w := by
  have haI : (a : Int) < 16 := by omega
  have hbI : (b : Int) < 16 := by omega
  have hm : a * b ≤ 15 * 15 := Nat.mul_le_mul (by omega) (by omega)
  have hmI : (a : Int) * (b : Int) = ((a * b : Nat) : Int) := by simp
  generalize hq : a * b = q at hm hmI
  have HQ := hid hq
  have hqI : (q : Int) ≤ 225 := by omega
  clear hq
  go_enter Try.func33, Try.ntmps33
  go_wp2_with fail
  go_ret
  exact ⟨congrArg (fun z => Ending.returned (Value.int .i64 z)) (by show _ = ((a * b % 16 : Nat) : Int); rw [HQ.out]; omega), rfl⟩

set_option maxRecDepth 100000 in
set_option maxHeartbeats 2000000 in
theorem compute_less (a b : Nat) (ha : a < 16) (hb : b < 16) (w : World) :
    Calls Try.prog 33 #[.string ⟨#[60]⟩, .int .i64 a, .int .i64 b] w fun e w' => e = .returned (.int .i64 (Mc.apply 9 a b : Nat)) ∧ w' = w := by
  have haI : (a : Int) < 16 := by omega
  have hbI : (b : Int) < 16 := by omega
  by_cases hc : a < b
  · have hI : (a : Int) < (b : Int) := by omega
    have HC := hid hc
    clear hc
    go_enter Try.func33, Try.ntmps33
    go_wp2_with fail
    go_ret
    exact ⟨congrArg (fun z => Ending.returned (Value.int .i64 z)) (by unfold Mc.apply; simp [HC.out]), rfl⟩
  · have hI : ¬ (a : Int) < (b : Int) := by omega
    have HC := hid hc
    clear hc
    go_enter Try.func33, Try.ntmps33
    go_wp2_with fail
    go_ret
    exact ⟨congrArg (fun z => Ending.returned (Value.int .i64 z)) (by unfold Mc.apply; simp [HC.out]), rfl⟩

set_option maxRecDepth 100000 in
set_option maxHeartbeats 2000000 in
theorem compute_same (a b : Nat) (ha : a < 16) (hb : b < 16) (w : World) :
    Calls Try.prog 33 #[.string ⟨#[61, 61]⟩, .int .i64 a, .int .i64 b] w fun e w' => e = .returned (.int .i64 (Mc.apply 10 a b : Nat)) ∧ w' = w := by
  have haI : (a : Int) < 16 := by omega
  have hbI : (b : Int) < 16 := by omega
  by_cases hc : a = b
  · have hI : ((a : Int) == (b : Int)) = true := by simp; omega
    have HC := hid hc
    clear hc
    go_enter Try.func33, Try.ntmps33
    go_wp2_with fail
    go_ret
    exact ⟨congrArg (fun z => Ending.returned (Value.int .i64 z)) (by unfold Mc.apply; simp [HC.out]), rfl⟩
  · have hI : ((a : Int) == (b : Int)) = false := by simp; omega
    have HC := hid hc
    clear hc
    go_enter Try.func33, Try.ntmps33
    go_wp2_with fail
    go_ret
    exact ⟨congrArg (fun z => Ending.returned (Value.int .i64 z)) (by unfold Mc.apply; simp [HC.out]), rfl⟩

set_option maxRecDepth 100000 in
set_option maxHeartbeats 2000000 in
theorem compute_and (a b : Nat) (ha : a < 16) (hb : b < 16) (w : World) :
    Calls Try.prog 33 #[.string ⟨#[38]⟩, .int .i64 a, .int .i64 b] w fun e w' => e = .returned (.int .i64 (Mc.apply 4 a b : Nat)) ∧ w' = w := by
  have haI : (a : Int) < 16 := by omega
  have hbI : (b : Int) < 16 := by omega
  have hl := apply_lt 4 a b (by omega) ha hb
  have HB : Hid (∀ W : World, Calls Try.prog 55 #[.string ⟨#[38]⟩, .int .i64 a, .int .i64 b] W fun e w' => e = .returned (.int .i64 (Mc.apply 4 a b : Nat)) ∧ w' = W) := fun W => bitwise_and a b ha hb W
  generalize Mc.apply 4 a b = q at hl HB ⊢
  have hqI : (q : Int) < 16 := by omega
  go_enter Try.func33, Try.ntmps33
  go_wp2_with (first | (go_at_call 55; refine (HB.out _).mono ?_; rintro e w0 ⟨rfl, hw0⟩; have hw1 := hw0.symm; subst hw1))
  go_ret
  exact ⟨congrArg (fun z => Ending.returned (Value.int .i64 z)) (by omega), rfl⟩

set_option maxRecDepth 100000 in
set_option maxHeartbeats 2000000 in
theorem compute_or (a b : Nat) (ha : a < 16) (hb : b < 16) (w : World) :
    Calls Try.prog 33 #[.string ⟨#[124]⟩, .int .i64 a, .int .i64 b] w fun e w' => e = .returned (.int .i64 (Mc.apply 5 a b : Nat)) ∧ w' = w := by
  have haI : (a : Int) < 16 := by omega
  have hbI : (b : Int) < 16 := by omega
  have hl := apply_lt 5 a b (by omega) ha hb
  have HB : Hid (∀ W : World, Calls Try.prog 55 #[.string ⟨#[124]⟩, .int .i64 a, .int .i64 b] W fun e w' => e = .returned (.int .i64 (Mc.apply 5 a b : Nat)) ∧ w' = W) := fun W => bitwise_or a b ha hb W
  generalize Mc.apply 5 a b = q at hl HB ⊢
  have hqI : (q : Int) < 16 := by omega
  go_enter Try.func33, Try.ntmps33
  go_wp2_with (first | (go_at_call 55; refine (HB.out _).mono ?_; rintro e w0 ⟨rfl, hw0⟩; have hw1 := hw0.symm; subst hw1))
  go_ret
  exact ⟨congrArg (fun z => Ending.returned (Value.int .i64 z)) (by omega), rfl⟩

set_option maxRecDepth 100000 in
set_option maxHeartbeats 2000000 in
theorem compute_xor (a b : Nat) (ha : a < 16) (hb : b < 16) (w : World) :
    Calls Try.prog 33 #[.string ⟨#[94]⟩, .int .i64 a, .int .i64 b] w fun e w' => e = .returned (.int .i64 (Mc.apply 6 a b : Nat)) ∧ w' = w := by
  have haI : (a : Int) < 16 := by omega
  have hbI : (b : Int) < 16 := by omega
  have hl := apply_lt 6 a b (by omega) ha hb
  have HB : Hid (∀ W : World, Calls Try.prog 55 #[.string ⟨#[94]⟩, .int .i64 a, .int .i64 b] W fun e w' => e = .returned (.int .i64 (Mc.apply 6 a b : Nat)) ∧ w' = W) := fun W => bitwise_xor a b ha hb W
  generalize Mc.apply 6 a b = q at hl HB ⊢
  have hqI : (q : Int) < 16 := by omega
  go_enter Try.func33, Try.ntmps33
  go_wp2_with (first | (go_at_call 55; refine (HB.out _).mono ?_; rintro e w0 ⟨rfl, hw0⟩; have hw1 := hw0.symm; subst hw1))
  go_ret
  exact ⟨congrArg (fun z => Ending.returned (Value.int .i64 z)) (by omega), rfl⟩

set_option maxRecDepth 100000 in
set_option maxHeartbeats 2000000 in
theorem compute_shl (a b : Nat) (ha : a < 16) (hb : b < 16) (w : World) :
    Calls Try.prog 33 #[.string ⟨#[60, 60]⟩, .int .i64 a, .int .i64 b] w fun e w' => e = .returned (.int .i64 (Mc.apply 7 a b : Nat)) ∧ w' = w := by
  have haI : (a : Int) < 16 := by omega
  have hbI : (b : Int) < 16 := by omega
  go_enter Try.func33, Try.ntmps33
  go_wp2_with fail
  go_loopg [7, 8] b (fun gk vx ix wr => ∃ i vv : Nat, i + gk = b ∧ Mc.shlK a i = vv ∧ ix = .int .i64 i ∧ vx = .int .i64 vv ∧ wr = w)
  case atStart => exact ⟨0, a, by omega, rfl, rfl, rfl, rfl⟩
  case round =>
    obtain ⟨i, vv, hi, hv, rfl, rfl, hw⟩ := hrel
    have hw2 := hw.symm
    clear hw
    subst hw2
    have hl := Mc.shlK_lt a ha i
    rw [hv] at hl
    have hlI : (vv : Int) < 16 := by omega
    by_cases hlt : i < b
    · have HN := hid (show Mc.shlK a (i + 1) = 2 * vv % 16 by rw [← hv]; rfl)
      clear hv
      go_wp2_with fail
      go_roundg (gk - 1)
      case measure => omega
      case rel => exact ⟨i + 1, 2 * vv % 16, by omega, HN.out, by go_num, by go_num, rfl⟩
    · have hie : i = b := by omega
      subst hie
      have hE : vv % 16 = Mc.apply 7 a i := by rw [← hv]; exact (Mc.sh_all a ha i hb).1
      have HE := hid hE
      clear hv hE
      go_wp2_with fail
      go_ret
      exact ⟨congrArg (fun z => Ending.returned (Value.int .i64 z)) (by rw [← HE.out]; omega), rfl⟩

set_option maxRecDepth 100000 in
set_option maxHeartbeats 2000000 in
theorem compute_shr (a b : Nat) (ha : a < 16) (hb : b < 16) (w : World) :
    Calls Try.prog 33 #[.string ⟨#[62, 62]⟩, .int .i64 a, .int .i64 b] w fun e w' => e = .returned (.int .i64 (Mc.apply 8 a b : Nat)) ∧ w' = w := by
  have haI : (a : Int) < 16 := by omega
  have hbI : (b : Int) < 16 := by omega
  go_enter Try.func33, Try.ntmps33
  go_wp2_with fail
  go_loopg [7, 9] b (fun gk vx ix wr => ∃ i vv : Nat, i + gk = b ∧ Mc.shrK a i = vv ∧ ix = .int .i64 i ∧ vx = .int .i64 vv ∧ wr = w)
  case atStart => exact ⟨0, a, by omega, rfl, rfl, rfl, rfl⟩
  case round =>
    obtain ⟨i, vv, hi, hv, rfl, rfl, hw⟩ := hrel
    have hw2 := hw.symm
    clear hw
    subst hw2
    have hl := Mc.shrK_lt a ha i
    rw [hv] at hl
    have hlI : (vv : Int) < 16 := by omega
    by_cases hlt : i < b
    · have HN := hid (show Mc.shrK a (i + 1) = vv / 2 by rw [← hv]; rfl)
      clear hv
      go_wp2_with fail
      go_roundg (gk - 1)
      case measure => omega
      case rel => exact ⟨i + 1, vv / 2, by omega, HN.out, by go_num, by go_num, rfl⟩
    · have hie : i = b := by omega
      subst hie
      have hE : vv % 16 = Mc.apply 8 a i := by rw [← hv]; exact (Mc.sh_all a ha i hb).2
      have HE := hid hE
      clear hv hE
      go_wp2_with fail
      go_ret
      exact ⟨congrArg (fun z => Ending.returned (Value.int .i64 z)) (by rw [← HE.out]; omega), rfl⟩

theorem ba_of_list {q : ByteArray} {l : List UInt8} (h : q.toList = l) : q = ⟨l.toArray⟩ := by
  rw [ByteArray.toList_eq] at h
  cases q with
  | mk d => rw [← h]
theorem oper_ite {c : Bool} {o n : Nat} {f : Option Nat} (h : (if c = true then some n else f) = some o) : (c = true ∧ o = n) ∨ f = some o := by
  cases c with
  | true => rw [if_pos rfl] at h; exact .inl ⟨rfl, (Option.some.inj h).symm⟩
  | false => rw [if_neg (by simp)] at h; exact .inr h

theorem compute_any (q : ByteArray) (o : Nat) (ho : Lk.oper? q.toList = some o) (a b : Nat) (ha : a < 16) (hb : b < 16) (w : World) :
    Calls Try.prog 33 #[.string q, .int .i64 a, .int .i64 b] w fun e w' => e = .returned (.int .i64 (Mc.apply o a b : Nat)) ∧ w' = w := by
  unfold Lk.oper? at ho
  rcases oper_ite ho with ⟨h, rfl⟩ | ho
  · rw [ba_of_list (beq_iff_eq.1 h)]; exact compute_add a b ha hb w
  rcases oper_ite ho with ⟨h, rfl⟩ | ho
  · rw [ba_of_list (beq_iff_eq.1 h)]; exact compute_sub a b ha hb w
  rcases oper_ite ho with ⟨h, rfl⟩ | ho
  · rw [ba_of_list (beq_iff_eq.1 h)]; exact compute_mul a b ha hb w
  rcases oper_ite ho with ⟨h, rfl⟩ | ho
  · rw [ba_of_list (beq_iff_eq.1 h)]; exact compute_and a b ha hb w
  rcases oper_ite ho with ⟨h, rfl⟩ | ho
  · rw [ba_of_list (beq_iff_eq.1 h)]; exact compute_or a b ha hb w
  rcases oper_ite ho with ⟨h, rfl⟩ | ho
  · rw [ba_of_list (beq_iff_eq.1 h)]; exact compute_xor a b ha hb w
  rcases oper_ite ho with ⟨h, rfl⟩ | ho
  · rw [ba_of_list (beq_iff_eq.1 h)]; exact compute_shl a b ha hb w
  rcases oper_ite ho with ⟨h, rfl⟩ | ho
  · rw [ba_of_list (beq_iff_eq.1 h)]; exact compute_shr a b ha hb w
  rcases oper_ite ho with ⟨h, rfl⟩ | ho
  · rw [ba_of_list (beq_iff_eq.1 h)]; exact compute_less a b ha hb w
  rcases oper_ite ho with ⟨h, rfl⟩ | ho
  · rw [ba_of_list (beq_iff_eq.1 h)]; exact compute_same a b ha hb w
  cases ho

end Go.Proofs.Ytgddmpmcnjlcjaa
