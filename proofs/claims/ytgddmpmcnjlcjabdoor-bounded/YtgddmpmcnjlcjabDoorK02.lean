import Derived.Test.YtgddmpmcnjlcjabDoorB36
import Derived.Test.YtgddmpmcnjlcjabDoorK01
namespace Go.Proofs.YtgddmpmcnjlcjabDoor
open Go.RowKit
set_option linter.unusedVariables false
def rpw (ln : Int) (v1 v2 : Value) (t : Int) (x : Ext) (i : Nat) : Value := if i = 0 then .int .i64 ln else if i = 1 then v1 else if i = 2 then v2 else if i = 3 then .int .i64 t else if i = 4 then .int .i64 x.nv else if i = 5 then .string x.f else if i = 6 then .string x.g else if i = 7 then .int .i64 x.nd else .int .i64 x.cf
set_option maxRecDepth 100000 in
set_option maxHeartbeats 4000000 in
theorem whole_yes (w : World) (g1 g2 : Nat) (ln t : Int) (x : Ext) (a1 a2 b1 b2 : Option Addr) (c1 c2 d1 d2 n : Nat) (hn : n ≤ 10) (f1 f2 : Nat → Nat)
    (h1 : w.rowIs g1 29 9 (rpw ln (.slice a1 n c1) (.slice a2 n c2) t x)) (h2 : w.rowIs g2 29 9 (rpw ln (.slice b1 n d1) (.slice b2 n d2) t x))
    (na1 : NatsAt w a1 n f1) (nb1 : NatsAt w b1 n f1) (na2 : NatsAt w a2 n f2) (nb2 : NatsAt w b2 n f2) :
    Calls Tryd.prog 26 #[.pointer (some ⟨g1, 0, none⟩), .pointer (some ⟨g2, 0, none⟩)] w fun e w' => e = .returned (.bool true) ∧ Below w.heap.size w w' := by
  have p0 := h1.cell (i := 0) (by omega)
  have p1 := h1.cell (i := 1) (by omega)
  have p2 := h1.cell (i := 2) (by omega)
  have p3 := h1.cell (i := 3) (by omega)
  have p4 := h1.cell (i := 4) (by omega)
  have p5 := h1.cell (i := 5) (by omega)
  have p6 := h1.cell (i := 6) (by omega)
  have p7 := h1.cell (i := 7) (by omega)
  have p8 := h1.cell (i := 8) (by omega)
  have q0 := h2.cell (i := 0) (by omega)
  have q1 := h2.cell (i := 1) (by omega)
  have q2 := h2.cell (i := 2) (by omega)
  have q3 := h2.cell (i := 3) (by omega)
  have q4 := h2.cell (i := 4) (by omega)
  have q5 := h2.cell (i := 5) (by omega)
  have q6 := h2.cell (i := 6) (by omega)
  have q7 := h2.cell (i := 7) (by omega)
  have q8 := h2.cell (i := 8) (by omega)
  simp [rpw] at p0 p1 p2 p3 p4 p5 p6 p7 p8 q0 q1 q2 q3 q4 q5 q6 q7 q8
  have HS1 : Hid (∀ y : Nat, Calls Tryd.prog 48 #[.slice a1 n c1, .slice b1 n d1] (w.drewN y) fun e w'' => e = .returned (.bool true) ∧ ∃ m, w'' = w.drewN m) := fun y => by
    refine (same_yes n hn f1 (w.drewN y) a1 b1 c1 d1 na1 nb1).mono ?_
    rintro e w'' ⟨rfl, m, rfl⟩
    exact ⟨rfl, y + m, by simp⟩
  have HS2 : Hid (∀ z y : Nat, Calls Tryd.prog 48 #[.slice a2 n c2, .slice b2 n d2] (w.drewN (z + y)) fun e w'' => e = .returned (.bool true) ∧ ∃ m, w'' = w.drewN (z + m)) := fun z y => by
    refine (same_yes n hn f2 (w.drewN (z + y)) a2 b2 c2 d2 (na2.same (below_drewN (Below.refl _ _) _)) (nb2.same (below_drewN (Below.refl _ _) _))).mono ?_
    rintro e w'' ⟨rfl, m, rfl⟩
    exact ⟨rfl, y + m, by rw [World.drewN_drewN, Nat.add_assoc]⟩
  clear h1 h2 na1 nb1 na2 nb2
  go_enter Tryd.func26, Tryd.ntmps26
  go_wp2_with fail
  go_quiet (first | (go_at_call 48; exact HS1.out _))
  go_wp2_with fail
  go_quiet (first | (go_at_call 48; exact HS2.out _ _))
  go_wp2_with fail
  go_quiet (fail)
  go_wp2_with fail
  go_quiet (fail)
  go_wp2_with fail
  go_ret
  exact ⟨rfl, by first | exact below_drewN (Below.refl _ _) _ | exact below_drewN (below_drewN (Below.refl _ _) _) _ | exact below_drewN (below_drewN (below_drewN (Below.refl _ _) _) _) _⟩
end Go.Proofs.YtgddmpmcnjlcjabDoor
