import Derived.Test.YtfnmglfbcpdlnaaE3
import Derived.Deep.RegionLaw
import Derived.Deep.DeepCutAuto
namespace Go.Proofs.Ytfnmglfbcpdlnaa
open Go.RowKit
set_option linter.unusedVariables false

namespace Mc
/-- One step: what it tells, and the state. -/
def step (cs : List Nat) (code : List Lk.St) (m : M) : Nat × M :=
  if m.trap = true then (80, m)
  else if m.at_ < code.length then
    let s := code.getD m.at_ {}
    let m1 := { m with at_ := s.next }
    if s.kind = 3 then (48 + value m1 s.a, m1)
    else if s.kind = 4 ∨ s.kind = 5 then (if value m1 s.a = 0 then (16, { m1 with at_ := s.els }) else (17, m1))
    else if s.kind = 1 ∨ s.kind = 2 then (32 + value m1 s.a, access m1 cs s (value m1 s.a) (value m1 s.b))
    else (0, put m1 s.slot (apply s.op (value m1 s.a) (value m1 s.b)))
  else (64, m)
end Mc

section
variable (m : Mc.M) (b : Nat) (w : World) (vs vc : Value) (nv : Int)

set_option maxRecDepth 100000 in
set_option maxHeartbeats 1000000 in
theorem step_trap (vk : Value) (hr : w.rowIs b 112 17 (mcell m)) (ht : m.trap = true) :
    Calls Try.prog 64 #[.pointer (some ⟨b, 0, none⟩), .agg #[vs, .int .i64 nv, vc, vk]] w fun e w' => e = .returned (.int .i64 80) ∧ Below w.heap.size w w' := by
  have c16 := hr.cell (i := 16) (by omega)
  rw [show mcell m 16 = .bool m.trap from rfl, ht] at c16
  have hlt := hr.lt
  go_enter Try.func64, Try.ntmps64
  go_wp2_with (first | (go_at_call 88; refine (tell_any 5 0 _ (by omega) (by omega)).mono ?_; rintro e w0 ⟨rfl, hw0⟩; have hw1 := hw0.symm; subst hw1))
  go_ret
  exact ⟨rfl, (Below.refl _ _).alloc (Nat.le_refl _) _⟩

set_option maxRecDepth 100000 in
set_option maxHeartbeats 1000000 in
theorem step_halt (ak : Option Addr) (n ck : Nat) (hr : w.rowIs b 112 17 (mcell m)) (ht : m.trap = false) (hn : n ≤ m.at_) :
    Calls Try.prog 64 #[.pointer (some ⟨b, 0, none⟩), .agg #[vs, .int .i64 nv, vc, .slice ak n ck]] w fun e w' => e = .returned (.int .i64 64) ∧ Below w.heap.size w w' := by
  have c16 := hr.cell (i := 16) (by omega)
  rw [show mcell m 16 = .bool m.trap from rfl, ht] at c16
  have c15 := hr.cell (i := 15) (by omega)
  rw [show mcell m 15 = .int .i64 m.at_ from rfl] at c15
  have hlt := hr.lt
  have hd : decide ((m.at_ : Int) < 0) = false := by simp
  have hd2 : decide ((n : Int) ≤ (m.at_ : Int)) = true := by simp; omega
  go_enter Try.func64, Try.ntmps64
  go_wp2_with fail
  go_quiet (fail)
  go_wp2_with (first | (go_at_call 88; refine (tell_any 4 0 _ (by omega) (by omega)).mono ?_; rintro e w0 ⟨rfl, hw0⟩; have hw1 := hw0.symm; subst hw1))
  go_ret
  exact ⟨rfl, below_drewN ((Below.refl _ _).alloc (Nat.le_refl _) _) _⟩
end
end Go.Proofs.Ytfnmglfbcpdlnaa
