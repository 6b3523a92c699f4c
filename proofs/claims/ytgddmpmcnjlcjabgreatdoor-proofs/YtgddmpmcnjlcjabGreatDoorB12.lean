import Derived.Test.YtgddmpmcnjlcjabGreatDoorB11
import Derived.Deep.QuietTactic
import Derived.BigQuiet
import Derived.Test.YtgddmpmcnjlcjabGreatDoorB10
import Derived.RegionTactic
namespace Go.Proofs.YtgddmpmcnjlcjabGreatDoor
open Go.RowKit
set_option linter.unusedVariables false
namespace Mc
def apply (op a b : Nat) : Nat :=
  match op with
  | 1 => (a + b) % 16
  | 2 => (a + 16 - b) % 16
  | 3 => a * b % 16
  | 4 => a &&& b
  | 5 => a ||| b
  | 6 => a ^^^ b
  | 7 => a <<< b % 16
  | 8 => a >>> b
  | 9 => if a < b then 1 else 0
  | 10 => if a = b then 1 else 0
  | _ => a
end Mc
theorem bits_add (a b : Nat) (ha : a < 16) (hb : b < 16) : bits BinOp.and .i64 ((a : Int) + b) 15 = ((Mc.apply 1 a b : Nat) : Int) :=
  (show ∀ a b : Fin 16, bits BinOp.and .i64 ((a.val : Int) + b.val) 15 = ((Mc.apply 1 a.val b.val : Nat) : Int) by decide +kernel) ⟨a, ha⟩ ⟨b, hb⟩
theorem bits_sub (a b : Nat) (ha : a < 16) (hb : b < 16) : bits BinOp.and .i64 ((a : Int) - b) 15 = ((Mc.apply 2 a b : Nat) : Int) :=
  (show ∀ a b : Fin 16, bits BinOp.and .i64 ((a.val : Int) - b.val) 15 = ((Mc.apply 2 a.val b.val : Nat) : Int) by decide +kernel) ⟨a, ha⟩ ⟨b, hb⟩
theorem bits_mul (a b : Nat) (ha : a < 16) (hb : b < 16) : bits BinOp.and .i64 (wrap64 ((a : Int) * b)) 15 = ((Mc.apply 3 a b : Nat) : Int) :=
  (show ∀ a b : Fin 16, bits BinOp.and .i64 (wrap64 ((a.val : Int) * b.val)) 15 = ((Mc.apply 3 a.val b.val : Nat) : Int) by decide +kernel) ⟨a, ha⟩ ⟨b, hb⟩
theorem bits_and (a b : Nat) (ha : a < 16) (hb : b < 16) : bits BinOp.and .i64 (a : Int) b = ((Mc.apply 4 a b : Nat) : Int) :=
  (show ∀ a b : Fin 16, bits BinOp.and .i64 (a.val : Int) b.val = ((Mc.apply 4 a.val b.val : Nat) : Int) by decide +kernel) ⟨a, ha⟩ ⟨b, hb⟩
theorem bits_or (a b : Nat) (ha : a < 16) (hb : b < 16) : bits BinOp.or .i64 (a : Int) b = ((Mc.apply 5 a b : Nat) : Int) :=
  (show ∀ a b : Fin 16, bits BinOp.or .i64 (a.val : Int) b.val = ((Mc.apply 5 a.val b.val : Nat) : Int) by decide +kernel) ⟨a, ha⟩ ⟨b, hb⟩
theorem bits_xor (a b : Nat) (ha : a < 16) (hb : b < 16) : bits BinOp.xor .i64 (a : Int) b = ((Mc.apply 6 a b : Nat) : Int) :=
  (show ∀ a b : Fin 16, bits BinOp.xor .i64 (a.val : Int) b.val = ((Mc.apply 6 a.val b.val : Nat) : Int) by decide +kernel) ⟨a, ha⟩ ⟨b, hb⟩
theorem bits_low (b : Nat) (hb : b < 16) : bits BinOp.and .i64 (b : Int) 15 = (b : Int) :=
  (show ∀ b : Fin 16, bits BinOp.and .i64 (b.val : Int) 15 = (b.val : Int) by decide +kernel) ⟨b, hb⟩
theorem bits_shl (a b : Nat) (ha : a < 16) (hb : b < 16) : bits BinOp.and .i64 (wrap64 ((a : Int) * 2 ^ b)) 15 = ((Mc.apply 7 a b : Nat) : Int) :=
  (show ∀ a b : Fin 16, bits BinOp.and .i64 (wrap64 ((a.val : Int) * 2 ^ b.val)) 15 = ((Mc.apply 7 a.val b.val : Nat) : Int) by decide +kernel) ⟨a, ha⟩ ⟨b, hb⟩
theorem bits_shr (a b : Nat) (ha : a < 16) (hb : b < 16) : (a : Int) / 2 ^ b = ((Mc.apply 8 a b : Nat) : Int) :=
  (show ∀ a b : Fin 16, (a.val : Int) / 2 ^ b.val = ((Mc.apply 8 a.val b.val : Nat) : Int) by decide +kernel) ⟨a, ha⟩ ⟨b, hb⟩
set_option maxRecDepth 100000 in
set_option maxHeartbeats 400000 in
theorem truth_any (b : Bool) (w : World) : Calls Tryz.prog 116 #[.bool b] w fun e w' => e = .returned (.int .i64 (if b = true then 1 else 0)) ∧ w' = w := by
  cases b with
  | true =>
    go_enter Tryz.func116, Tryz.ntmps116
    go_wp2
    go_ret
    exact ⟨rfl, rfl⟩
  | false =>
    go_enter Tryz.func116, Tryz.ntmps116
    go_wp2
    go_ret
    exact ⟨rfl, rfl⟩
set_option maxRecDepth 100000 in
set_option maxHeartbeats 1000000 in
theorem apply_0 (a b : Nat) (w : World) (ha : a < 16) (hb : b < 16) :
    Calls Tryz.prog 106 #[.int .i64 0, .int .i64 a, .int .i64 b] w fun e w' => e = .returned (.int .i64 (Mc.apply 0 a b : Nat)) ∧ w' = w := by
  go_enter Tryz.func106, Tryz.ntmps106
  go_wp2
  go_ret
  exact ⟨rfl, rfl⟩
set_option maxRecDepth 100000 in
set_option maxHeartbeats 1000000 in
theorem apply_1 (a b : Nat) (w : World) (ha : a < 16) (hb : b < 16) :
    Calls Tryz.prog 106 #[.int .i64 1, .int .i64 a, .int .i64 b] w fun e w' => e = .returned (.int .i64 (Mc.apply 1 a b : Nat)) ∧ w' = w := by
  go_enter Tryz.func106, Tryz.ntmps106
  go_wp2
  go_ret
  exact ⟨congrArg (fun z => Ending.returned (Value.int .i64 z)) (bits_add a b ha hb), rfl⟩
set_option maxRecDepth 100000 in
set_option maxHeartbeats 1000000 in
theorem apply_2 (a b : Nat) (w : World) (ha : a < 16) (hb : b < 16) :
    Calls Tryz.prog 106 #[.int .i64 2, .int .i64 a, .int .i64 b] w fun e w' => e = .returned (.int .i64 (Mc.apply 2 a b : Nat)) ∧ w' = w := by
  go_enter Tryz.func106, Tryz.ntmps106
  go_wp2
  go_ret
  exact ⟨congrArg (fun z => Ending.returned (Value.int .i64 z)) (bits_sub a b ha hb), rfl⟩
set_option maxRecDepth 100000 in
set_option maxHeartbeats 1000000 in
theorem apply_3 (a b : Nat) (w : World) (ha : a < 16) (hb : b < 16) :
    Calls Tryz.prog 106 #[.int .i64 3, .int .i64 a, .int .i64 b] w fun e w' => e = .returned (.int .i64 (Mc.apply 3 a b : Nat)) ∧ w' = w := by
  go_enter Tryz.func106, Tryz.ntmps106
  go_wp2
  go_ret
  exact ⟨congrArg (fun z => Ending.returned (Value.int .i64 z)) (bits_mul a b ha hb), rfl⟩
set_option maxRecDepth 100000 in
set_option maxHeartbeats 1000000 in
theorem apply_4 (a b : Nat) (w : World) (ha : a < 16) (hb : b < 16) :
    Calls Tryz.prog 106 #[.int .i64 4, .int .i64 a, .int .i64 b] w fun e w' => e = .returned (.int .i64 (Mc.apply 4 a b : Nat)) ∧ w' = w := by
  go_enter Tryz.func106, Tryz.ntmps106
  go_wp2
  go_ret
  exact ⟨congrArg (fun z => Ending.returned (Value.int .i64 z)) (bits_and a b ha hb), rfl⟩
set_option maxRecDepth 100000 in
set_option maxHeartbeats 1000000 in
theorem apply_5 (a b : Nat) (w : World) (ha : a < 16) (hb : b < 16) :
    Calls Tryz.prog 106 #[.int .i64 5, .int .i64 a, .int .i64 b] w fun e w' => e = .returned (.int .i64 (Mc.apply 5 a b : Nat)) ∧ w' = w := by
  go_enter Tryz.func106, Tryz.ntmps106
  go_wp2
  go_ret
  exact ⟨congrArg (fun z => Ending.returned (Value.int .i64 z)) (bits_or a b ha hb), rfl⟩
set_option maxRecDepth 100000 in
set_option maxHeartbeats 1000000 in
theorem apply_6 (a b : Nat) (w : World) (ha : a < 16) (hb : b < 16) :
    Calls Tryz.prog 106 #[.int .i64 6, .int .i64 a, .int .i64 b] w fun e w' => e = .returned (.int .i64 (Mc.apply 6 a b : Nat)) ∧ w' = w := by
  go_enter Tryz.func106, Tryz.ntmps106
  go_wp2
  go_ret
  exact ⟨congrArg (fun z => Ending.returned (Value.int .i64 z)) (bits_xor a b ha hb), rfl⟩
set_option maxRecDepth 100000 in
set_option maxHeartbeats 1000000 in
theorem apply_7 (a b : Nat) (w : World) (ha : a < 16) (hb : b < 16) :
    Calls Tryz.prog 106 #[.int .i64 7, .int .i64 a, .int .i64 b] w fun e w' => e = .returned (.int .i64 (Mc.apply 7 a b : Nat)) ∧ w' = w := by
  have hl := bits_low b hb
  go_enter Tryz.func106, Tryz.ntmps106
  go_wp2
  go_ret
  exact ⟨congrArg (fun z => Ending.returned (Value.int .i64 z)) (bits_shl a b ha hb), rfl⟩
set_option maxRecDepth 100000 in
set_option maxHeartbeats 1000000 in
theorem apply_8 (a b : Nat) (w : World) (ha : a < 16) (hb : b < 16) :
    Calls Tryz.prog 106 #[.int .i64 8, .int .i64 a, .int .i64 b] w fun e w' => e = .returned (.int .i64 (Mc.apply 8 a b : Nat)) ∧ w' = w := by
  have hl := bits_low b hb
  go_enter Tryz.func106, Tryz.ntmps106
  go_wp2
  go_ret
  exact ⟨congrArg (fun z => Ending.returned (Value.int .i64 z)) (bits_shr a b ha hb), rfl⟩
set_option maxRecDepth 100000 in
set_option maxHeartbeats 1000000 in
theorem apply_9 (a b : Nat) (w : World) (ha : a < 16) (hb : b < 16) :
    Calls Tryz.prog 106 #[.int .i64 9, .int .i64 a, .int .i64 b] w fun e w' => e = .returned (.int .i64 (Mc.apply 9 a b : Nat)) ∧ w' = w := by
  by_cases h : a < b
  · have hI : (a : Int) < (b : Int) := by omega
    have H := hid h
    clear h
    go_enter Tryz.func106, Tryz.ntmps106
    go_wp2_with (first | (go_at_call 116; refine (truth_any _ _).mono ?_; rintro e w0 ⟨rfl, hw0⟩; have hw1 := hw0.symm; subst hw1))
    go_ret
    exact ⟨congrArg (fun z => Ending.returned (Value.int .i64 z)) (by unfold Mc.apply; simp [H.out]), rfl⟩
  · have hI : ¬ (a : Int) < (b : Int) := by omega
    have H := hid h
    clear h
    go_enter Tryz.func106, Tryz.ntmps106
    go_wp2_with (first | (go_at_call 116; refine (truth_any _ _).mono ?_; rintro e w0 ⟨rfl, hw0⟩; have hw1 := hw0.symm; subst hw1))
    go_ret
    exact ⟨congrArg (fun z => Ending.returned (Value.int .i64 z)) (by unfold Mc.apply; simp [H.out]), rfl⟩
set_option maxRecDepth 100000 in
set_option maxHeartbeats 1000000 in
theorem apply_10 (a b : Nat) (w : World) (ha : a < 16) (hb : b < 16) :
    Calls Tryz.prog 106 #[.int .i64 10, .int .i64 a, .int .i64 b] w fun e w' => e = .returned (.int .i64 (Mc.apply 10 a b : Nat)) ∧ w' = w := by
  by_cases h : a = b
  · have hI : ((a : Int) == (b : Int)) = true := by simp; omega
    have H := hid h
    clear h
    go_enter Tryz.func106, Tryz.ntmps106
    go_wp2_with (first | (go_at_call 116; refine (truth_any _ _).mono ?_; rintro e w0 ⟨rfl, hw0⟩; have hw1 := hw0.symm; subst hw1))
    go_ret
    exact ⟨congrArg (fun z => Ending.returned (Value.int .i64 z)) (by unfold Mc.apply; simp [H.out]), rfl⟩
  · have hI : ((a : Int) == (b : Int)) = false := by simp; omega
    have H := hid h
    clear h
    go_enter Tryz.func106, Tryz.ntmps106
    go_wp2_with (first | (go_at_call 116; refine (truth_any _ _).mono ?_; rintro e w0 ⟨rfl, hw0⟩; have hw1 := hw0.symm; subst hw1))
    go_ret
    exact ⟨congrArg (fun z => Ending.returned (Value.int .i64 z)) (by unfold Mc.apply; simp [H.out]), rfl⟩
theorem apply_any (op a b : Nat) (w : World) (ho : op ≤ 10) (ha : a < 16) (hb : b < 16) :
    Calls Tryz.prog 106 #[.int .i64 op, .int .i64 a, .int .i64 b] w fun e w' => e = .returned (.int .i64 (Mc.apply op a b : Nat)) ∧ w' = w := by
  match op, ho with
  | 0, _ => exact apply_0 a b w ha hb
  | 1, _ => exact apply_1 a b w ha hb
  | 2, _ => exact apply_2 a b w ha hb
  | 3, _ => exact apply_3 a b w ha hb
  | 4, _ => exact apply_4 a b w ha hb
  | 5, _ => exact apply_5 a b w ha hb
  | 6, _ => exact apply_6 a b w ha hb
  | 7, _ => exact apply_7 a b w ha hb
  | 8, _ => exact apply_8 a b w ha hb
  | 9, _ => exact apply_9 a b w ha hb
  | 10, _ => exact apply_10 a b w ha hb
  | n + 11, h => omega
theorem apply_lt (op a b : Nat) (ho : op ≤ 10) (ha : a < 16) (hb : b < 16) : Mc.apply op a b < 16 :=
  (show ∀ op : Fin 11, ∀ a b : Fin 16, Mc.apply op.val a.val b.val < 16 by decide +kernel) ⟨op, by omega⟩ ⟨a, ha⟩ ⟨b, hb⟩
namespace Mc
structure M where
  slots : Nat → Nat := fun _ => 0
  cel : Nat → Nat := fun _ => 0
  at_ : Nat := 0
  trap : Bool := false
def value (m : M) (a : Lk.At) : Nat := if a.named = true then m.slots a.val else a.val
def put (m : M) (i v : Nat) : M := { m with slots := Lk.upd m.slots i v }
def has (cs : List Nat) (arr i : Nat) : Bool := decide (i < cs.getD arr 0)
end Mc
def mcell (m : Mc.M) (i : Nat) : Value :=
  if i < 7 then .int .i64 (m.slots i) else if i < 15 then .int .i64 (m.cel (i - 7)) else if i = 15 then .int .i64 m.at_ else .bool m.trap
theorem mcell_slot (m : Mc.M) {i : Nat} (h : i < 7) : mcell m i = .int .i64 (m.slots i) := by unfold mcell; rw [if_pos h]
theorem mcell_cel (m : Mc.M) {i : Nat} (h : i < 8) : mcell m (7 + i) = .int .i64 (m.cel i) := by
  unfold mcell; rw [if_neg (by omega), if_pos (by omega)]; simp
theorem mcell_put (m : Mc.M) (i v : Nat) (h : i < 7) (j : Nat) (hj : j < 17) : (if j = i then .int .i64 (v : Int) else mcell m j) = mcell (Mc.put m i v) j := by
  by_cases e : j = i
  · subst e; rw [if_pos rfl, mcell_slot _ h]; simp [Mc.put, Lk.upd]
  · rw [if_neg e]
    by_cases h7 : j < 7
    · rw [mcell_slot _ h7, mcell_slot _ h7]; simp [Mc.put, Lk.upd, e]
    · unfold mcell; rw [if_neg h7, if_neg h7]; rfl
theorem tell_any (t v : Nat) (w : World) (ht : t ≤ 5) (hv : v < 16) :
    Calls Tryz.prog 103 #[.int .i64 t, .int .i64 v] w fun e w' => e = .returned (.int .i64 ((16 * t + v : Nat) : Int)) ∧ w' = w := by
  have h1 : (t : Int) ≤ 5 := by omega
  have h2 : (v : Int) < 16 := by omega
  go_enter Tryz.func103, Tryz.ntmps103
  go_wp2
  go_ret
  exact ⟨congrArg (fun z => Ending.returned (Value.int .i64 z)) (by omega), rfl⟩
set_option maxRecDepth 100000 in
set_option maxHeartbeats 1000000 in
theorem mvalue_named (m : Mc.M) (b v : Nat) (w : World) (hr : w.rowIs b 169 17 (mcell m)) (hv : v < 7) :
    Calls Tryz.prog 104 #[.pointer (some ⟨b, 0, none⟩), .agg #[.bool true, .int .i64 v]] w fun e w' => e = .returned (.int .i64 (m.slots v)) ∧ Below w.heap.size w w' := by
  have hc := hr.cell (i := v) (by omega)
  rw [mcell_slot m hv] at hc
  have hlt := hr.lt
  have hvI : (v : Int) < 7 := by omega
  have hv0 : ¬ (v : Int) < 0 := by omega
  go_enter Tryz.func104, Tryz.ntmps104
  go_wp2_with fail
  go_quiet (fail)
  go_wp2_with fail
  go_ret
  exact ⟨rfl, below_drewN ((Below.refl _ _).alloc (Nat.le_refl _) _) _⟩
set_option maxRecDepth 100000 in
set_option maxHeartbeats 1000000 in
theorem mvalue_num (b v : Nat) (w : World) :
    Calls Tryz.prog 104 #[.pointer (some ⟨b, 0, none⟩), .agg #[.bool false, .int .i64 v]] w fun e w' => e = .returned (.int .i64 v) ∧ Below w.heap.size w w' := by
  go_enter Tryz.func104, Tryz.ntmps104
  go_wp2_with fail
  go_ret
  exact ⟨rfl, (Below.refl _ _).alloc (Nat.le_refl _) _⟩
set_option maxRecDepth 100000 in
set_option maxHeartbeats 1000000 in
theorem mput_any (m : Mc.M) (b i v : Nat) (w : World) (hr : w.rowIs b 169 17 (mcell m)) (hi : i < 7) :
    Calls Tryz.prog 83 #[.pointer (some ⟨b, 0, none⟩), .int .i64 i, .int .i64 v] w fun e w' => e = .returned (.tuple #[]) ∧ w' = w.setCell ⟨b, i, none⟩ (.int .i64 v) := by
  have hc := hr.cell (i := i) (by omega)
  have hf := hr.frozen i
  have hiI : (i : Int) < 7 := by omega
  have hi0 : (0 : Int) ≤ (i : Int) := by omega
  go_enter Tryz.func83, Tryz.ntmps83
  go_wp2_with fail
  go_end0
  exact ⟨rfl, rfl⟩
set_option maxRecDepth 100000 in
set_option maxHeartbeats 1000000 in
theorem has_any (w : World) (vs vk : Value) (nv : Int) (g cp : Nat) (cs : List Nat) (arr i : Nat) (hc : ∀ j, j < cs.length → w.cell? ⟨g, j, none⟩ = some (.int .i64 (cs.getD j 0))) (hl : cs.length ≤ 2) (hle : ∀ j, j < cs.length → cs.getD j 0 ≤ 4) (ha : arr < cs.length) :
    Calls Tryz.prog 115 #[.agg #[vs, .int .i64 nv, .slice (some ⟨g, 0, none⟩) cs.length cp, vk], .int .i64 arr, .int .i64 i] w fun e w' => e = .returned (.bool (Mc.has cs arr i)) ∧ Below w.heap.size w w' := by
  have hx := hc arr ha
  have hy := hle arr ha
  obtain ⟨n, hn⟩ : ∃ n, cs.getD arr 0 = n := ⟨_, rfl⟩
  rw [hn] at hx hy
  have hH : Mc.has cs arr i = decide (i < n) := by unfold Mc.has; rw [hn]
  rw [hH]
  have hglt := World.block_lt_of_cell? w _ hx
  have h0 : ¬ (arr : Int) < 0 := by omega
  have h1 : ¬ (cs.length : Int) ≤ (arr : Int) := by omega
  have h2 : ¬ (2 : Int) ≤ (arr : Int) := by omega
  have h3 : (0 : Int) ≤ (i : Int) := by omega
  have h4 : (arr : Int) < (cs.length : Int) := by omega
  have HC := hid hc
  have HE := hid hle
  clear hc hle hn hH
  by_cases hin : i < n
  · have hiI : (i : Int) < (n : Int) := by omega
    have hi4 : (i : Int) < 4 := by omega
    rw [decide_eq_true hin]
    go_enter Tryz.func115, Tryz.ntmps115
    go_wp2_with fail
    go_ret
    exact ⟨rfl, (Below.refl _ _).alloc (Nat.le_refl _) _⟩
  · have hiI : ¬ (i : Int) < (n : Int) := by omega
    rw [decide_eq_false hin]
    go_enter Tryz.func115, Tryz.ntmps115
    go_wp2_with fail
    go_ret
    exact ⟨rfl, (Below.refl _ _).alloc (Nat.le_refl _) _⟩
theorem has_eq {w : World} {vs vk : Value} {nv : Int} {g cp : Nat} {cs : List Nat} {arr i : Nat} (o : Bool) (hc : ∀ j, j < cs.length → w.cell? ⟨g, j, none⟩ = some (.int .i64 (cs.getD j 0))) (hl : cs.length ≤ 2) (hle : ∀ j, j < cs.length → cs.getD j 0 ≤ 4) (ha : arr < cs.length) (ho : Mc.has cs arr i = o) :
    Calls Tryz.prog 115 #[.agg #[vs, .int .i64 nv, .slice (some ⟨g, 0, none⟩) cs.length cp, vk], .int .i64 arr, .int .i64 i] w fun e w' => e = .returned (.bool o) ∧ Below w.heap.size w w' := by
  rw [← ho]; exact has_any w vs vk nv g cp cs arr i hc hl hle ha
namespace Mc
def access (m : M) (cs : List Nat) (s : Lk.St) (i v : Nat) : M :=
  if has cs s.arr i = true then
    if s.kind = 2 then { m with cel := Lk.upd m.cel (s.arr * 4 + i) v } else put m s.slot (m.cel (s.arr * 4 + i))
  else { m with trap := true }
end Mc
theorem mcell_at (m : Mc.M) {a i : Nat} (ha : a < 2) (hi : i < 4) : mcell m (7 + a * 4 + i) = .int .i64 (m.cel (a * 4 + i)) := by
  rw [show 7 + a * 4 + i = 7 + (a * 4 + i) by omega]; exact mcell_cel m (by omega)
theorem mcell_store (m : Mc.M) (a i v : Nat) (ha : a < 2) (hi : i < 4) (j : Nat) (hj : j < 17) : (if j = 7 + a * 4 + i then .int .i64 (v : Int) else mcell m j) = mcell { m with cel := Lk.upd m.cel (a * 4 + i) v } j := by
  by_cases e : j = 7 + a * 4 + i
  · subst e; rw [if_pos rfl, mcell_at _ ha hi]; simp [Lk.upd]
  · rw [if_neg e]
    unfold mcell
    by_cases h7 : j < 7
    · rw [if_pos h7, if_pos h7]
    · rw [if_neg h7, if_neg h7]
      by_cases h15 : j < 15
      · rw [if_pos h15, if_pos h15]
        show _ = Value.int .i64 ((Lk.upd m.cel (a * 4 + i) v (j - 7) : Nat) : Int)
        unfold Lk.upd
        rw [if_neg (by omega)]
      · rw [if_neg h15, if_neg h15]
theorem mcell_trap (m : Mc.M) (j : Nat) (hj : j < 17) : (if j = 16 then .bool true else mcell m j) = mcell { m with trap := true } j := by
  by_cases e : j = 16
  · subst e; rw [if_pos rfl]; rfl
  · rw [if_neg e]
    unfold mcell
    by_cases h7 : j < 7
    · rw [if_pos h7, if_pos h7]
    · rw [if_neg h7, if_neg h7]
      by_cases h15 : j < 15
      · rw [if_pos h15, if_pos h15]
      · rw [if_neg h15, if_neg h15, if_pos (by omega), if_pos (by omega)]
abbrev stAgg (s : Lk.St) : Value := .agg #[.int .i64 s.kind, .int .i64 s.op, .int .i64 s.slot, .int .i64 s.arr, .bool s.a.named, .int .i64 s.a.val, .bool s.b.named, .int .i64 s.b.val, .int .i64 s.next, .int .i64 s.els]
section
variable (m : Mc.M) (b : Nat) (w : World) (vs vk : Value) (nv : Int) (g cp : Nat) (cs : List Nat) (s : Lk.St) (i v : Nat)
def MPost (w w' : World) (b : Nat) (e : Ending) (m : Mc.M) : Prop := e = .returned (.tuple #[]) ∧ w'.rowIs b 169 17 (mcell m) ∧ Frm 0 (fun k => k = b) w w'
set_option maxRecDepth 100000 in
set_option maxHeartbeats 1000000 in
theorem access_trap (hr : w.rowIs b 169 17 (mcell m)) (hc : ∀ j, j < cs.length → w.cell? ⟨g, j, none⟩ = some (.int .i64 (cs.getD j 0))) (hl : cs.length ≤ 2) (hle : ∀ j, j < cs.length → cs.getD j 0 ≤ 4) (ha : s.arr < cs.length) (hh : Mc.has cs s.arr i = false) :
    Calls Tryz.prog 105 #[.pointer (some ⟨b, 0, none⟩), .agg #[vs, .int .i64 nv, .slice (some ⟨g, 0, none⟩) cs.length cp, vk], stAgg s, .int .i64 i, .int .i64 v] w fun e w' => MPost w w' b e { m with trap := true } := by
  have HR := hid hr
  have hlt := hr.lt
  have HC := hid hc
  have HE := hid hle
  have HH := hid hh
  have haI : (s.arr : Int) < 2 := by omega
  have ha0 : (0 : Int) ≤ (s.arr : Int) := by omega
  clear hr hc hle hh
  go_enter Tryz.func105, Tryz.ntmps105
  go_wp2_with (first
    | (go_at_call 115; refine (has_eq false (fun j hj => cell_alloc (cell_alloc (HC.out j hj) _) _) hl HE.out ha HH.out).mono ?_; rintro e w1 ⟨rfl, hb1⟩; have HB1 := hid hb1; have z1 := hb1.size; simp at z1; have R1 := (((HR.out.alloc _).alloc _).of_block (hb1.block _ (by simp; omega))); have HR1 := hid R1; have k0 := cell_later hb1 (newAt2 w _ _ _ 0 _ rfl); have k2 := cell_later hb1 (newAt2 w _ _ _ 2 _ rfl); have k3 := cell_later hb1 (newAt2 w _ _ _ 3 _ rfl); have c16 := R1.cell (i := 16) (by omega); have f16 := R1.frozen 16; clear R1 hb1))
  first | go_end0 | refine bodyPost_ret (results_none rfl _ _ _) rfl ?_
  exact ⟨rfl, (HR1.out.set 16 _).congr (fun j hj => mcell_trap m j hj), Frm.setCell (p := ⟨b, 16, none⟩) (Frm.ofBelow (S := fun k => k = b) (((Below.refl w.heap.size w).alloc (Nat.le_refl _) _).alloc (by simp) _ |>.trans (HB1.out.mono (by simp; omega))) (Nat.zero_le _)) (Nat.zero_le _) rfl _⟩
set_option maxRecDepth 100000 in
set_option maxHeartbeats 1000000 in
theorem access_store (hr : w.rowIs b 169 17 (mcell m)) (hc : ∀ j, j < cs.length → w.cell? ⟨g, j, none⟩ = some (.int .i64 (cs.getD j 0))) (hl : cs.length ≤ 2) (hle : ∀ j, j < cs.length → cs.getD j 0 ≤ 4) (ha : s.arr < cs.length) (hh : Mc.has cs s.arr i = true) (hk : s.kind = 2) :
    Calls Tryz.prog 105 #[.pointer (some ⟨b, 0, none⟩), .agg #[vs, .int .i64 nv, .slice (some ⟨g, 0, none⟩) cs.length cp, vk], stAgg s, .int .i64 i, .int .i64 v] w fun e w' => MPost w w' b e { m with cel := Lk.upd m.cel (s.arr * 4 + i) v } := by
  have HR := hid hr
  have hlt := hr.lt
  have HC := hid hc
  have HE := hid hle
  have HH := hid hh
  have haI : (s.arr : Int) < 2 := by omega
  have ha0 : (0 : Int) ≤ (s.arr : Int) := by omega
  have hi4 : i < 4 := by
    have h1 := hle s.arr ha
    have h2 : i < cs.getD s.arr 0 := by simpa [Mc.has] using hh
    omega
  have hi4I : (i : Int) < 4 := by omega
  have hi0I : (0 : Int) ≤ (i : Int) := by omega
  have hkI : ((s.kind : Int) == 2) = true := by simp; omega
  have HK := hid hk
  clear hk
  clear hr hc hle hh
  go_enter Tryz.func105, Tryz.ntmps105
  go_wp2_with (first
    | (go_at_call 115; refine (has_eq true (fun j hj => cell_alloc (cell_alloc (HC.out j hj) _) _) hl HE.out ha HH.out).mono ?_; rintro e w1 ⟨rfl, hb1⟩; have HB1 := hid hb1; have z1 := hb1.size; simp at z1; have R1 := (((HR.out.alloc _).alloc _).of_block (hb1.block _ (by simp; omega))); have HR1 := hid R1; have k0 := cell_later hb1 (newAt2 w _ _ _ 0 _ rfl); have k2 := cell_later hb1 (newAt2 w _ _ _ 2 _ rfl); have k3 := cell_later hb1 (newAt2 w _ _ _ 3 _ rfl); have cx := R1.cell (i := 7 + s.arr * 4 + i) (by omega); have fx := R1.frozen (7 + s.arr * 4 + i); clear R1 hb1))
  go_region
  all_goals go_wp2_with fail
  all_goals (first | go_end0 | refine bodyPost_ret (results_none rfl _ _ _) rfl ?_)
  all_goals (exact ⟨rfl, (HR1.out.set (7 + s.arr * 4 + i) _).congr (fun j hj => mcell_store m s.arr i v (by omega) hi4 j hj), Frm.setCell (p := ⟨b, 7 + s.arr * 4 + i, none⟩) (Frm.ofBelow (S := fun k => k = b) (((Below.refl w.heap.size w).alloc (Nat.le_refl _) _).alloc (by simp) _ |>.trans (HB1.out.mono (by simp; omega))) (Nat.zero_le _)).drew (Nat.zero_le _) rfl _⟩)
set_option maxRecDepth 100000 in
set_option maxHeartbeats 1000000 in
theorem access_load (hr : w.rowIs b 169 17 (mcell m)) (hc : ∀ j, j < cs.length → w.cell? ⟨g, j, none⟩ = some (.int .i64 (cs.getD j 0))) (hl : cs.length ≤ 2) (hle : ∀ j, j < cs.length → cs.getD j 0 ≤ 4) (ha : s.arr < cs.length) (hh : Mc.has cs s.arr i = true) (hk : s.kind = 1) (hs7 : s.slot < 7) :
    Calls Tryz.prog 105 #[.pointer (some ⟨b, 0, none⟩), .agg #[vs, .int .i64 nv, .slice (some ⟨g, 0, none⟩) cs.length cp, vk], stAgg s, .int .i64 i, .int .i64 v] w fun e w' => MPost w w' b e (Mc.put m s.slot (m.cel (s.arr * 4 + i))) := by
  have HR := hid hr
  have hlt := hr.lt
  have HC := hid hc
  have HE := hid hle
  have HH := hid hh
  have haI : (s.arr : Int) < 2 := by omega
  have ha0 : (0 : Int) ≤ (s.arr : Int) := by omega
  have hi4 : i < 4 := by
    have h1 := hle s.arr ha
    have h2 : i < cs.getD s.arr 0 := by simpa [Mc.has] using hh
    omega
  have hi4I : (i : Int) < 4 := by omega
  have hi0I : (0 : Int) ≤ (i : Int) := by omega
  have hkI : ((s.kind : Int) == 2) = false := by simp; omega
  have HK := hid hk
  clear hk
  clear hr hc hle hh
  go_enter Tryz.func105, Tryz.ntmps105
  go_wp2_with (first
    | (go_at_call 115; refine (has_eq true (fun j hj => cell_alloc (cell_alloc (HC.out j hj) _) _) hl HE.out ha HH.out).mono ?_; rintro e w1 ⟨rfl, hb1⟩; have HB1 := hid hb1; have z1 := hb1.size; simp at z1; have R1 := (((HR.out.alloc _).alloc _).of_block (hb1.block _ (by simp; omega))); have HR1 := hid R1; have k0 := cell_later hb1 (newAt2 w _ _ _ 0 _ rfl); have k2 := cell_later hb1 (newAt2 w _ _ _ 2 _ rfl); have k3 := cell_later hb1 (newAt2 w _ _ _ 3 _ rfl); have cx := R1.cell (i := 7 + s.arr * 4 + i) (by omega); rw [mcell_at m (by omega) hi4] at cx; clear R1 hb1))
  go_quiet (fail)
  go_wp2_with (first
    | (go_at_call 83; refine (mput_any m b s.slot (m.cel (s.arr * 4 + i)) _ ?_ hs7).mono ?_; exact HR1.out; rintro e w2 ⟨rfl, rfl⟩))
  go_end0
  exact ⟨rfl, (HR1.out.set s.slot _).congr (fun j hj => mcell_put m s.slot _ hs7 j hj), Frm.setCell (p := ⟨b, s.slot, none⟩) ((Frm.ofBelow (S := fun k => k = b) (((Below.refl w.heap.size w).alloc (Nat.le_refl _) _).alloc (by simp) _ |>.trans (HB1.out.mono (by simp; omega))) (Nat.zero_le _)).drewN _) (Nat.zero_le _) rfl _⟩
end
end Go.Proofs.YtgddmpmcnjlcjabGreatDoor
