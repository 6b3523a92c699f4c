import Derived.Test.YtfnmglfbcpdlnaaE1
import Derived.Deep.QuietTactic
import Derived.BigQuiet
/- The machine's state, and what reads and writes it. -/
namespace Go.Proofs.Ytfnmglfbcpdlnaa
open Go.RowKit
set_option linter.unusedVariables false

namespace Mc
/-- Slots; cells (four to an array); the statement that comes next; the trap. -/
structure M where
  slots : Nat → Nat := fun _ => 0
  cel : Nat → Nat := fun _ => 0
  at_ : Nat := 0
  trap : Bool := false
def value (m : M) (a : Lk.At) : Nat := if a.named = true then m.slots a.val else a.val
def put (m : M) (i v : Nat) : M := { m with slots := Lk.upd m.slots i v }
def has (cs : List Nat) (arr i : Nat) : Bool := decide (i < cs.getD arr 0)
end Mc

def mcell (m : Mc.M) (i : Nat) : Value :=
  if i < 7 then .int .i64 (m.slots i) else if i < 15 then .int .i64 (m.cel (i - 7)) else if i = 15 then .int .i64 m.at_ else .bool m.trap

theorem mcell_slot (m : Mc.M) {i : Nat} (h : i < 7) : mcell m i = .int .i64 (m.slots i) := by unfold mcell; rw [if_pos h]
theorem mcell_cel (m : Mc.M) {i : Nat} (h : i < 8) : mcell m (7 + i) = .int .i64 (m.cel i) := by
  unfold mcell; rw [if_neg (by omega), if_pos (by omega)]; simp
theorem mcell_put (m : Mc.M) (i v : Nat) (h : i < 7) (j : Nat) (hj : j < 17) : (if j = i then .int .i64 (v : Int) else mcell m j) = mcell (Mc.put m i v) j := by
  by_cases e : j = i
  · subst e; rw [if_pos rfl, mcell_slot _ h]; simp [Mc.put, Lk.upd]
  · rw [if_neg e]
    by_cases h7 : j < 7
    · rw [mcell_slot _ h7, mcell_slot _ h7]; simp [Mc.put, Lk.upd, e]
    · unfold mcell; rw [if_neg h7, if_neg h7]; rfl

theorem tell_any (t v : Nat) (w : World) (ht : t ≤ 5) (hv : v < 16) :
    Calls Try.prog 88 #[.int .i64 t, .int .i64 v] w fun e w' => e = .returned (.int .i64 ((16 * t + v : Nat) : Int)) ∧ w' = w := by
  have h1 : (t : Int) ≤ 5 := by omega
  have h2 : (v : Int) < 16 := by omega
  go_enter Try.func88, Try.ntmps88
  go_wp2
  go_ret
  exact ⟨congrArg (fun z => Ending.returned (Value.int .i64 z)) (by omega), rfl⟩

set_option maxRecDepth 100000 in
set_option maxHeartbeats 1000000 in
theorem mvalue_named (m : Mc.M) (b v : Nat) (w : World) (hr : w.rowIs b 112 17 (mcell m)) (hv : v < 7) :
    Calls Try.prog 89 #[.pointer (some ⟨b, 0, none⟩), .agg #[.bool true, .int .i64 v]] w fun e w' => e = .returned (.int .i64 (m.slots v)) ∧ Below w.heap.size w w' := by
  have hc := hr.cell (i := v) (by omega)
  rw [mcell_slot m hv] at hc
  have hlt := hr.lt
  have hvI : (v : Int) < 7 := by omega
  have hv0 : ¬ (v : Int) < 0 := by omega
  go_enter Try.func89, Try.ntmps89
  go_wp2_with fail
  go_quiet (fail)
  go_wp2_with fail
  go_ret
  exact ⟨rfl, below_drewN ((Below.refl _ _).alloc (Nat.le_refl _) _) _⟩

set_option maxRecDepth 100000 in
set_option maxHeartbeats 1000000 in
theorem mvalue_num (b v : Nat) (w : World) :
    Calls Try.prog 89 #[.pointer (some ⟨b, 0, none⟩), .agg #[.bool false, .int .i64 v]] w fun e w' => e = .returned (.int .i64 v) ∧ Below w.heap.size w w' := by
  go_enter Try.func89, Try.ntmps89
  go_wp2_with fail
  go_ret
  exact ⟨rfl, (Below.refl _ _).alloc (Nat.le_refl _) _⟩

set_option maxRecDepth 100000 in
set_option maxHeartbeats 1000000 in
theorem mput_any (m : Mc.M) (b i v : Nat) (w : World) (hr : w.rowIs b 112 17 (mcell m)) (hi : i < 7) :
    Calls Try.prog 63 #[.pointer (some ⟨b, 0, none⟩), .int .i64 i, .int .i64 v] w fun e w' => e = .returned (.tuple #[]) ∧ w' = w.setCell ⟨b, i, none⟩ (.int .i64 v) := by
  have hc := hr.cell (i := i) (by omega)
  have hf := hr.frozen i
  have hiI : (i : Int) < 7 := by omega
  have hi0 : (0 : Int) ≤ (i : Int) := by omega
  go_enter Try.func63, Try.ntmps63
  go_wp2_with fail
  go_end0
  exact ⟨rfl, rfl⟩

set_option maxRecDepth 100000 in
set_option maxHeartbeats 1000000 in
theorem has_any (w : World) (vs vk : Value) (nv : Int) (g cp : Nat) (cs : List Nat) (arr i : Nat) (hc : ∀ j, j < cs.length → w.cell? ⟨g, j, none⟩ = some (.int .i64 (cs.getD j 0))) (hl : cs.length ≤ 2) (hle : ∀ j, j < cs.length → cs.getD j 0 ≤ 4) (ha : arr < cs.length) :
    Calls Try.prog 100 #[.agg #[vs, .int .i64 nv, .slice (some ⟨g, 0, none⟩) cs.length cp, vk], .int .i64 arr, .int .i64 i] w fun e w' => e = .returned (.bool (Mc.has cs arr i)) ∧ Below w.heap.size w w' := by
  have hx := hc arr ha
  have hy := hle arr ha
  obtain ⟨n, hn⟩ : ∃ n, cs.getD arr 0 = n := ⟨_, rfl⟩
  rw [hn] at hx hy
  have hH : Mc.has cs arr i = decide (i < n) := by unfold Mc.has; rw [hn]
  rw [hH]
  have hglt := World.block_lt_of_cell? w _ hx
  have h0 : ¬ (arr : Int) < 0 := by omega
  have h1 : ¬ (cs.length : Int) ≤ (arr : Int) := by omega
  have h2 : ¬ (2 : Int) ≤ (arr : Int) := by omega
  have h3 : (0 : Int) ≤ (i : Int) := by omega
  have h4 : (arr : Int) < (cs.length : Int) := by omega
  have HC := hid hc
  have HE := hid hle
  clear hc hle hn hH
  by_cases hin : i < n
  · have hiI : (i : Int) < (n : Int) := by omega
    have hi4 : (i : Int) < 4 := by omega
    rw [decide_eq_true hin]
    go_enter Try.func100, Try.ntmps100
    go_wp2_with fail
    go_ret
    exact ⟨rfl, (Below.refl _ _).alloc (Nat.le_refl _) _⟩
  · have hiI : ¬ (i : Int) < (n : Int) := by omega
    rw [decide_eq_false hin]
    go_enter Try.func100, Try.ntmps100
    go_wp2_with fail
    go_ret
    exact ⟨rfl, (Below.refl _ _).alloc (Nat.le_refl _) _⟩

theorem has_eq {w : World} {vs vk : Value} {nv : Int} {g cp : Nat} {cs : List Nat} {arr i : Nat} (o : Bool) (hc : ∀ j, j < cs.length → w.cell? ⟨g, j, none⟩ = some (.int .i64 (cs.getD j 0))) (hl : cs.length ≤ 2) (hle : ∀ j, j < cs.length → cs.getD j 0 ≤ 4) (ha : arr < cs.length) (ho : Mc.has cs arr i = o) :
    Calls Try.prog 100 #[.agg #[vs, .int .i64 nv, .slice (some ⟨g, 0, none⟩) cs.length cp, vk], .int .i64 arr, .int .i64 i] w fun e w' => e = .returned (.bool o) ∧ Below w.heap.size w w' := by
  rw [← ho]; exact has_any w vs vk nv g cp cs arr i hc hl hle ha

end Go.Proofs.Ytfnmglfbcpdlnaa
