import Derived.Test.YtgddmpmcnjlcjaaDoorA17
import Derived.Deep.QuietTactic
import Derived.BigQuiet
namespace Go.Proofs.YtgddmpmcnjlcjaaDoor
open Go.RowKit
set_option linter.unusedVariables false

theorem chk3 (p : Nat) (hp : p < 17) (X : World) : Calls Tryd.prog 33 #[.string ⟨(txt p).toArray⟩, .int .i64 3] X fun e w' => e = .returned (.tuple #[.int .i64 0, repLine (lin p)]) ∧ Below X.heap.size X w' :=
  keep_check _ 3 X (lin p) fun W => check_line _ 3 0 0 W (by decide) (by decide) (by decide) (lin p) (by rw [ByteArray.toList_mk]; exact txt_lin p hp) (lin_pos p hp)
theorem chk11 (s : ByteArray) (X : World) : Calls Tryd.prog 33 #[.string s, .int .i64 11] X fun e w' => e = .returned (.tuple #[.int .i64 0, repLine 0]) ∧ Below X.heap.size X w' :=
  keep_check _ 11 X 0 fun W => check_bounds _ 11 0 0 W (.inl (by decide))
theorem chkN (X : World) : Calls Tryd.prog 11 #[.string ⟨#[]⟩, .int .i64 2, .agg #[.int .i64 (-1), .int .i64 0]] X fun e w' => e = .returned (.tuple #[.int .i64 0, repLine 0]) ∧ Below X.heap.size X w' :=
  check_bounds _ 2 (-1) 0 X (.inr (.inl (by decide)))
theorem runB (p : Nat) (hp : p < 17) (X : World) : Calls Tryd.prog 34 #[.string ⟨(txt p).toArray⟩, .slice none 0 0, .int .i64 3] X fun e w' => e = .returned (.slice none 0 0) ∧ Below X.heap.size X w' :=
  run_bad _ none 0 0 3 X (by decide) (by rw [ByteArray.toList_mk, txt_lin p hp]; have := lin_pos p hp; omega)

set_option maxRecDepth 100000 in
set_option maxHeartbeats 2000000 in
theorem wrong_any (c : Int) (hc : -9223372036854775808 ≤ c ∧ c ≤ 9223372036854775807) (w : World) :
    Calls Tryd.prog 14 #[.int .i64 c] w fun e w' => e = .returned (.bool true) ∧ Below w.heap.size w w' := by
  go_enter Tryd.func14, Tryd.ntmps14
  go_wp2_with fail
  generalize hW : World.alloc (World.alloc _ _) _ = W
  have T : Hid (∀ i, i < 17 → W.cell? ⟨w.heap.size, i, none⟩ = some (.string ⟨(txt i).toArray⟩)) := fun i hi => by
    rw [← hW]; exact cell_alloc (newAt w tcells 9 i _ (tcells_at i hi)) _
  have L : Hid (∀ i, i < 17 → W.cell? ⟨w.heap.size + 1, i, none⟩ = some (.int .i64 (lin i))) := fun i hi => by
    rw [← hW]; exact newAt2 w _ lcells 3 i _ (lcells_at i hi)
  have B0 : Hid (Below w.heap.size w W) := by rw [← hW]; exact ((Below.refl _ _).alloc (Nat.le_refl _) _).alloc (by simp) _
  have hsz : W.heap.size = w.heap.size + 2 := by rw [← hW]; simp
  have Hc := hid hc
  clear hW hc
  go_wp2_with (first
    | (go_at_call 32; refine (pick_any c Hc.out _).mono ?_; rintro e W0 ⟨p, hp, rfl, rfl⟩; have tp := T.out p hp; have Hp := hid hp; have hpI : (p : Int) < 17 := (by omega); have hp0 : (0 : Int) ≤ (p : Int) := (by omega); clear hp)
    | (go_at_call_of 33 (Value.int IntKind.i64 3); refine (chk3 p Hp.out _).mono ?_; rintro e w1 ⟨rfl, hb1⟩; have B1 := hid hb1; have z1 := hb1.size; have tp1 := fun o => cell_alloc (cell_later hb1 tp) o; clear hb1)
    | (go_at_call_of 33 (Value.int IntKind.i64 11); refine (chk11 _ _).mono ?_; rintro e w2 ⟨rfl, hb2⟩; have B2 := hid hb2; have z2 := hb2.size; simp at z2; clear hb2)
    | (go_at_call 11; refine (chkN _).mono ?_; rintro e w3 ⟨rfl, hb3⟩; have B3 := hid hb3; have z3 := hb3.size; simp at z3; have tp3 := fun o => cell_alloc (cell_later hb3 (cell_alloc (cell_later B2.out (tp1 _)) _)) o; clear hb3)
    | (go_at_call 34; refine (runB p Hp.out _).mono ?_; rintro e w4 ⟨rfl, hb4⟩; have B4 := hid hb4; have z4 := hb4.size; simp at z4; have r0 := cell_later hb4 (cell_alloc (cell_later B3.out (cell_alloc (cell_later B2.out (newAt w1 #[.int .i64 (lin p), .slice none 0 0, .slice none 0 0, .int .i64 0, .int .i64 0, .string ⟨#[]⟩, .string ⟨#[]⟩, .int .i64 0, .int .i64 0] 26 0 (.int .i64 (lin p)) rfl)) _)) _); have q0 := cell_later hb4 (cell_alloc (cell_later B3.out (newAt w2 #[.int .i64 0, .slice none 0 0, .slice none 0 0, .int .i64 0, .int .i64 0, .string ⟨#[]⟩, .string ⟨#[]⟩, .int .i64 0, .int .i64 0] 26 0 (.int .i64 0) rfl)) _); have p0 := cell_later hb4 (newAt w3 #[.int .i64 0, .slice none 0 0, .slice none 0 0, .int .i64 0, .int .i64 0, .string ⟨#[]⟩, .string ⟨#[]⟩, .int .i64 0, .int .i64 0] 26 0 (.int .i64 0) rfl); have l0 := cell_later hb4 (cell_alloc (cell_later B3.out (cell_alloc (cell_later B2.out (cell_alloc (cell_later B1.out (L.out p Hp.out)) _)) _)) _); clear hb4))
  have lr : ((lin p : Int) == (lin p : Int)) = true := by simp
  have qn : ∀ (w : World) (a : Option Addr) (n c n' c' : Nat), (binOp .eql 24 (.slice a n c) (.slice none n' c')).run Tryd.prog w = .ok (.bool a.isNone) w := fun w a n c n' c' => Lib.run_eql_slice_nil w _ _ a n c n' c' Tryd.underlying24
  go_quiet (fail)
  go_wp2
  go_ret
  exact ⟨rfl, below_drewN (((((((B0.out.trans (B1.out.mono (by omega))).alloc (by omega) _).trans (B2.out.mono (by simp; omega))).alloc (by omega) _).trans (B3.out.mono (by simp; omega))).alloc (by omega) _).trans (B4.out.mono (by simp; omega))) _⟩

set_option maxHeartbeats 400000 in
theorem Wrong_any (c : Int) (hc : -9223372036854775808 ≤ c ∧ c ≤ 9223372036854775807) (w : World) :
    Calls Tryd.prog 4 #[.int .i64 c] w fun e w' => e = .returned (.bool true) ∧ Below w.heap.size w w' := by
  have Hc := hid hc
  clear hc
  go_enter Tryd.func4, Tryd.ntmps4
  go_wp2_with (first | (go_at_call 14; refine (wrong_any c Hc.out _).mono ?_; rintro e w1 ⟨rfl, hb⟩))
  go_ret
  exact ⟨rfl, hb⟩

end Go.Proofs.YtgddmpmcnjlcjaaDoor
