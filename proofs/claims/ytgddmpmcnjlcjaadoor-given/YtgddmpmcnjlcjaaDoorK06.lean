import Derived.Test.YtgddmpmcnjlcjaaDoorK05
import Derived.Deep.QuietTactic
import Derived.BigQuiet
/- Given. -/
namespace Go.Proofs.YtgddmpmcnjlcjaaDoor
open Go.RowKit
set_option linter.unusedVariables false

set_option maxRecDepth 100000 in
set_option maxHeartbeats 2000000 in
theorem given_any (ck : AllChk) (c : Int) (hc : I64 c) (k : Nat) (hk : k ≤ 10) (w : World) (htw : Tab w) :
    Calls Tryd.prog 21 #[.int .i64 c, .int .i64 k] w fun e w' => e = .returned (.bool true) ∧ Below w.heap.size w w' := by
  have h10 := pk_lt c 10 (by omega)
  have HCK := hid ck
  have HTW := hid htw
  clear ck htw
  have HP : Hid (∀ W : World, Calls Tryd.prog 32 #[.int .i64 c, .int .i64 10] W fun e w' => e = .returned (.int .i64 (pk c 10)) ∧ w' = W) := fun W => pick10 c hc W
  generalize pk c 10 = n at h10 HP
  obtain ⟨g1, g2, g3, g4⟩ := gsays n h10
  rw [← gs_list] at g1 g3
  rw [← gt_list] at g2 g4
  have G1 := hid g1
  have G2 := hid g2
  have G3 := hid (g3 k hk)
  have G4 := hid (g4 k hk)
  clear hc g1 g2 g3 g4
  go_enter Tryd.func21, Tryd.ntmps21
  go_wp2_with (first
    | (go_at_call 32; refine (HP.out _).mono ?_; rintro e w0 ⟨rfl, hw0⟩; have hw1 := hw0.symm; subst hw1))
  go_loopw [5, 6] (fun cv iv wr => ∃ (i : Nat) (B : ByteArray), i ≤ n ∧ iv = .int .i64 i ∧ cv = .string B ∧ B = cpB i ∧ B.size ≤ 100 ∧ wr = w) (fun _ iv _ => n - (intOf iv).toNat)
  case atStart => exact ⟨0, ⟨#[]⟩, Nat.zero_le _, rfl, rfl, rfl, by decide, rfl⟩
  case round =>
    obtain ⟨i, B, hi, rfl, rfl, hB, hBs, hw⟩ := hrel
    have hw2 := hw.symm
    clear hw
    subst hw2
    have HBE := hid hB
    clear hB
    by_cases hlt : i < n
    · go_wp2_with fail
      go_roundw
      case rel => exact ⟨i + 1, B ++ gC, by omega, by go_num, rfl, by rw [HBE.out]; rfl, by rw [HBE.out]; show (cpB (i + 1)).size ≤ 100; rw [cpB_size]; omega, trivial⟩
      case measure => simp [intOf]; omega
    · have hin : i = n := by omega
      subst hin
      have h12 : ¬ (12 : Int) < (i : Int) + 3 := by omega
      have G3k := G3.out
      unfold KnSays gAt at G3k
      rw [← HBE.out] at G1 G2 G3k G4
      have HC2 : Hid (∀ W : World, Tab W → Calls Tryd.prog 33 #[.string (gH ++ B ++ gM), .int .i64 k] W fun e w' => ∃ x, e = .returned (.tuple #[.int .i64 1, repSec x]) ∧ Below W.heap.size W w') := fun W hW => kc_sec HCK.out _ k W hW hk G2.out G4.out
      by_cases he : i % 2 = 0
      · rw [if_pos he] at G3k
        by_cases hik : i + 1 < k
        · rw [if_pos (by omega)] at G3k
          have HC1 : Hid (∀ W : World, Tab W → Calls Tryd.prog 33 #[.string (gH ++ B ++ gO), .int .i64 k] W fun e w' => ∃ a1 n1 c1 a2 n2 c2 x, e = .returned (.tuple #[.int .i64 2, repTwo (.slice a1 n1 c1) (.slice a2 n2 c2) ((i : Int) + 1) x]) ∧ Below W.heap.size W w') := fun W hW => (kc_ins HCK.out _ k W hW hk G1.out G3k.1).mono (by rintro e w' ⟨a1, c1, a2, c2, i, j, x, K⟩; exact ⟨_, _, _, _, _, _, x, by rw [← G3k.2]; exact K.res, K.bel⟩)
          clear G3k
          have heI : (i : Int) % 2 = 0 := by omega
          have hikI : (i : Int) + 1 < (k : Int) := by omega
          go_wp2_with (first | (go_at_call 33; refine (HC1.out _ HTW.out).mono ?_; rintro e w1 ⟨a1, n1, c1, a2, n2, c2, x1, rfl, hb1⟩; have HB1 := hid hb1; have z1 := hb1.size; clear hb1 HC1) | (go_at_call 33; refine (HC2.out _ (tab_on HTW.out (HB1.out.alloc z1 _))).mono ?_; rintro e w2 ⟨x2, rfl, hb2⟩; have HB2 := hid hb2; have z2 := hb2.size; simp at z2; have y3 := fun o => cell_alloc (cell_later hb2 (newAt w1 #[.int .i64 0, .slice a1 n1 c1, .slice a2 n2 c2, .int .i64 ((i : Int) + 1), .int .i64 x1.nv, .string x1.f, .string x1.g, .int .i64 x1.nd, .int .i64 x1.cf] 26 3 _ rfl)) o; simp at y3; clear hb2))
          go_ret
          exact ⟨rfl, ((HB1.out.alloc z1 _).trans (HB2.out.mono (by simp; omega))).alloc (by omega) _⟩
        · rw [if_neg (by omega)] at G3k
          have HC1 : Hid (∀ W : World, Tab W → Calls Tryd.prog 33 #[.string (gH ++ B ++ gO), .int .i64 k] W fun e w' => ∃ x, e = .returned (.tuple #[.int .i64 1, repSec x]) ∧ Below W.heap.size W w') := fun W hW => kc_sec HCK.out _ k W hW hk G1.out G3k
          clear G3k
          have hikI : ¬ (i : Int) + 1 < (k : Int) := by omega
          go_wp2_with (first | (go_at_call 33; refine (HC1.out _ HTW.out).mono ?_; rintro e w1 ⟨x1, rfl, hb1⟩; have HB1 := hid hb1; have z1 := hb1.size; clear hb1 HC1) | (go_at_call 33; refine (HC2.out _ (tab_on HTW.out (HB1.out.alloc z1 _))).mono ?_; rintro e w2 ⟨x2, rfl, hb2⟩; have HB2 := hid hb2; have z2 := hb2.size; simp at z2; clear hb2))
          go_ret
          exact ⟨rfl, ((HB1.out.alloc z1 _).trans (HB2.out.mono (by simp; omega))).alloc (by omega) _⟩
      · rw [if_neg he, if_neg (by omega)] at G3k
        have HC1 : Hid (∀ W : World, Tab W → Calls Tryd.prog 33 #[.string (gH ++ B ++ gO), .int .i64 k] W fun e w' => ∃ x, e = .returned (.tuple #[.int .i64 1, repSec x]) ∧ Below W.heap.size W w') := fun W hW => kc_sec HCK.out _ k W hW hk G1.out G3k
        clear G3k
        have heI : ((i : Int) % 2 == 0) = false := by simp; omega
        by_cases hik : i + 1 < k
        · have hikI : (i : Int) + 1 < (k : Int) := by omega
          go_wp2_with (first | (go_at_call 33; refine (HC1.out _ HTW.out).mono ?_; rintro e w1 ⟨x1, rfl, hb1⟩; have HB1 := hid hb1; have z1 := hb1.size; clear hb1 HC1) | (go_at_call 33; refine (HC2.out _ (tab_on HTW.out (HB1.out.alloc z1 _))).mono ?_; rintro e w2 ⟨x2, rfl, hb2⟩; have HB2 := hid hb2; have z2 := hb2.size; simp at z2; clear hb2))
          go_ret
          exact ⟨rfl, ((HB1.out.alloc z1 _).trans (HB2.out.mono (by simp; omega))).alloc (by omega) _⟩
        · have hikI : ¬ (i : Int) + 1 < (k : Int) := by omega
          go_wp2_with (first | (go_at_call 33; refine (HC1.out _ HTW.out).mono ?_; rintro e w1 ⟨x1, rfl, hb1⟩; have HB1 := hid hb1; have z1 := hb1.size; clear hb1 HC1) | (go_at_call 33; refine (HC2.out _ (tab_on HTW.out (HB1.out.alloc z1 _))).mono ?_; rintro e w2 ⟨x2, rfl, hb2⟩; have HB2 := hid hb2; have z2 := hb2.size; simp at z2; clear hb2))
          go_ret
          exact ⟨rfl, ((HB1.out.alloc z1 _).trans (HB2.out.mono (by simp; omega))).alloc (by omega) _⟩

set_option maxHeartbeats 400000 in
theorem Given_any (ck : AllChk) (b : Int) (hb : I64 b) (a : Int) (ha : I64 a) (w : World) (htw : Tab w) :
    Calls Tryd.prog 9 #[.int .i64 b, .int .i64 a] w fun e w' => e = .returned (.bool true) ∧ Below w.heap.size w w' := by
  have HB := hid hb
  have h11 := pk_lt a 11 (by omega)
  have HS : Hid (∀ W : World, Calls Tryd.prog 17 #[.int .i64 a] W fun e w' => e = .returned (.int .i64 (pk a 11)) ∧ w' = W) := fun W => steps_any a ha W
  generalize pk a 11 = k at h11 HS
  clear ha hb
  go_enter Tryd.func9, Tryd.ntmps9
  go_wp2_with (first
    | (go_at_call 17; refine (HS.out _).mono ?_; rintro e w0 ⟨rfl, hw0⟩; have hw1 := hw0.symm; subst hw1)
    | (go_at_call 21; refine (given_any ck b HB.out k ?_ _ htw).mono ?_; omega; rintro e w1 ⟨rfl, hb1⟩))
  go_ret
  exact ⟨rfl, hb1⟩

end Go.Proofs.YtgddmpmcnjlcjaaDoor
