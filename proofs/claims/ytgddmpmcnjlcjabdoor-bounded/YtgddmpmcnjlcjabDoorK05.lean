import Derived.Test.YtgddmpmcnjlcjabDoorK04
namespace Go.Proofs.YtgddmpmcnjlcjabDoor
open Go.RowKit
set_option linter.unusedVariables false
set_option maxRecDepth 100000 in
set_option maxHeartbeats 2000000 in
theorem answers_any (ck : AllChk) (a : Int) (ha : I64 a) (w : World) (hw : Tab w) :
    Calls Tryd.prog 10 #[.int .i64 a] w fun e w' => e = .returned (.bool true) ∧ Below w.heap.size w w' := by
  have h29 := pk_lt a 29 (by omega)
  have HCK := hid ck
  have HTB := hid (fun (W : World) (h : Below w.heap.size w W) => tab_on hw h)
  clear ck hw
  have h11 := pk_lt a 11 (by omega)
  have HP : Hid (∀ W : World, Calls Tryd.prog 24 #[.int .i64 a, .int .i64 29] W fun e w' => e = .returned (.int .i64 (pk a 29)) ∧ w' = W) := fun W => pick29 a ha W
  have HS : Hid (∀ W : World, Calls Tryd.prog 12 #[.int .i64 a] W fun e w' => e = .returned (.int .i64 (pk a 11)) ∧ w' = W) := fun W => steps_any a ha W
  generalize pk a 29 = i at h29 HP
  generalize pk a 11 = k at h11 HS
  have HO : Hid ((Lk.read (⟨(ktx i).toArray⟩ : ByteArray).toList).2 = 0) := by
    show _ = _
    rw [ByteArray.toList_mk]; exact ktx_ok i h29
  have hiI : (i : Int) < 29 := by omega
  have hi0 : (0 : Int) ≤ (i : Int) := by omega
  clear ha
  go_enter Tryd.func10, Tryd.ntmps10
  go_wp2_with (first
    | (go_at_call 23; refine (knowns_any _).mono ?_; rintro e w1 ⟨rfl, hk, hb1⟩; have HB1 := hid hb1; have z1 := hb1.size; have x0 := (hk _ h29).1; have x1 := (hk _ h29).2; have xl := World.block_lt_of_cell? w1 _ x0; clear hk hb1)
    | (go_at_call 24; refine (HP.out _).mono ?_; rintro e w0 ⟨rfl, hw0⟩; have hw1 := hw0.symm; subst hw1))
  go_cut [5, 6] (fun v5 v6 wc => ∃ v : Int, v5 = .int .i64 v ∧ (v = 1 ∨ v = 2) ∧ Below w.heap.size w wc)
  case first =>
    go_region_with (first
      | (go_at_call 12; refine (HS.out _).mono ?_; rintro e w0 ⟨rfl, hw0⟩; have hw1 := hw0.symm; subst hw1)
      | (go_at_call 25; refine (kc_prog HCK.out _ k _ (HTB.out _ ?_) ?_ HO.out).mono ?_; (first | exact (HB1.out.alloc z1 _).drew | (refine Below.drew (Below.alloc (HB1.out.alloc z1 _) ?_ _); simp only [World.size_alloc]; omega)); omega; rintro e w3 ⟨v, a1, n1, c1, a2, n2, c2, t, x, rfl, hv, hb3⟩; have HB3 := hid hb3; have HV := hid hv; have z3 := hb3.size; simp at z3; (first | (with_reducible refine rep_kd hb3 ?_; intro _ c0 c1 c2 c3 c4 c5 c6 c7 c8 cf; simp only [World.size_alloc] at c0 c1 c2 c3 c4 c5 c6 c7 c8 cf) | skip); clear hb3 hv))
    all_goals go_wp2_with fail
    all_goals go_meet
    all_goals refine ⟨v, rfl, HV.out, ?_⟩
    all_goals first
      | (with_reducible refine bel9 ?_ ?_ _ _ _ _ _ _ _ _ _; exact ((HB1.out.alloc z1 _).alloc (by simp; omega) _).drew.trans (HB3.out.mono (by simp; omega)); omega)
      | (with_reducible refine Below.alloc ?_ ?_ _; exact (HB1.out.alloc z1 _).drew.trans (HB3.out.mono (by simp; omega)); omega)
  case rest =>
    obtain ⟨v, rfl, hv, hb⟩ := hcut
    have HB := hid hb
    clear hb
    rcases hv with rfl | rfl
    · go_wp2_with fail
      go_ret
      exact ⟨rfl, HB.out⟩
    · go_wp2_with fail
      go_ret
      exact ⟨rfl, HB.out⟩
end Go.Proofs.YtgddmpmcnjlcjabDoor
