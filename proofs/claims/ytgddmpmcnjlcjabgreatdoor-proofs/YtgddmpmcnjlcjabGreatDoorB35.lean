import Derived.Test.YtgddmpmcnjlcjabGreatDoorB32
import Derived.Test.YtgddmpmcnjlcjabGreatDoorB34
namespace Go.Proofs.YtgddmpmcnjlcjabGreatDoor
open Go.RowKit
set_option linter.unusedVariables false
def sgB : List ByteArray := [⟨#[43]⟩, ⟨#[45]⟩, ⟨#[42]⟩, ⟨#[38]⟩, ⟨#[124]⟩, ⟨#[94]⟩, ⟨#[60, 60]⟩, ⟨#[62, 62]⟩, ⟨#[60]⟩, ⟨#[61, 61]⟩]
def sgC : Array Value := #[.string ⟨#[43]⟩, .string ⟨#[45]⟩, .string ⟨#[42]⟩, .string ⟨#[38]⟩, .string ⟨#[124]⟩, .string ⟨#[94]⟩, .string ⟨#[60, 60]⟩, .string ⟨#[62, 62]⟩, .string ⟨#[60]⟩, .string ⟨#[61, 61]⟩]
theorem sgC_at : ∀ i, i < 10 → sgC[i]? = some (.string (sgB.getD i ByteArray.empty))
  | 0, _ => rfl
  | 1, _ => rfl
  | 2, _ => rfl
  | 3, _ => rfl
  | 4, _ => rfl
  | 5, _ => rfl
  | 6, _ => rfl
  | 7, _ => rfl
  | 8, _ => rfl
  | 9, _ => rfl
  | n + 10, h => absurd h (by omega)
theorem sgB_wds (w : World) : Wds (w.alloc (.cells sgC 9)) w.heap.size sgB := fun i hi => newAt w sgC 9 i _ (sgC_at i hi)
theorem sgB_list : sgB.map ByteArray.toList = Rf.signs := by
  simp [sgB, Rf.signs, ByteArray.toList_eq]
theorem isSome_of {o : Option Nat} (h : 0 ≤ Lk.intO o) : o.isSome = true := by
  cases o with
  | none => simp [Lk.intO] at h
  | some n => rfl
theorem isNone_of {o : Option Nat} (h : Lk.intO o < 0) : o.isSome = false := by
  cases o with
  | none => rfl
  | some n => simp [Lk.intO] at h; omega
theorem wds_later {w w' : World} {g : Nat} {l : List ByteArray} (h : Wds w g l) (hb : Below w.heap.size w w') : Wds w' g l := fun i hi => cell_later hb (h i hi)
namespace PRep
variable {w : World} {base P : Nat} {l : List DB} {vn vk vz vb : Value}
set_option maxRecDepth 100000 in
set_option maxHeartbeats 1000000 in
theorem fits_out (h : PRep w base P l vn vk vz vb) (hl : l.length ≤ 1000) (g cap : Nat) (q0 : ByteArray) (q1 : ByteArray) (hc0 : w.cell? ⟨g, 0, none⟩ = some (.string q0)) (hc1 : w.cell? ⟨g, 1, none⟩ = some (.string q1)) (heo : (q0.toList == [111, 117, 116]) = true) :
    Calls Tryz.prog 64 #[.pointer (some ⟨P, 0, none⟩), .slice (some ⟨g, 0, none⟩) 2 cap] w fun e w' => e = .returned (.bool (Rf.atom (dcs l) q1.toList)) ∧ Below w.heap.size w w' := by
  have HP := hid h
  clear h
  have a0 := fun o => cell_alloc hc0 o
  have a1 := fun o => cell_alloc hc1 o
  go_enter Tryz.func64, Tryz.ntmps64
  go_wp2_with (first
    | (go_at_call 94; refine ((HP.out.alloc _).atom_any q1 hl).mono ?_; rintro e w1 ⟨rfl, hb1⟩))
  go_ret
  exact ⟨rfl, ((Below.refl _ _).alloc (Nat.le_refl _) _).trans (hb1.mono (by simp))⟩
set_option maxRecDepth 100000 in
set_option maxHeartbeats 1000000 in
theorem fits_out_no (h : PRep w base P l vn vk vz vb) (hl : l.length ≤ 1000) (g cap : Nat) (q0 : ByteArray) (hc0 : w.cell? ⟨g, 0, none⟩ = some (.string q0)) (heo : (q0.toList == [111, 117, 116]) = true) (n : Nat) (hn : ((n : Int) != 2) = true) (hn0 : (0 : Int) < (n : Int)) :
    Calls Tryz.prog 64 #[.pointer (some ⟨P, 0, none⟩), .slice (some ⟨g, 0, none⟩) n cap] w fun e w' => e = .returned (.bool (false)) ∧ Below w.heap.size w w' := by
  clear h
  have a0 := fun o => cell_alloc hc0 o
  go_enter Tryz.func64, Tryz.ntmps64
  go_wp2_with fail
  go_ret
  exact ⟨rfl, ((Below.refl _ _).alloc (Nat.le_refl _) _)⟩
set_option maxRecDepth 100000 in
set_option maxHeartbeats 1000000 in
theorem fits_load_no (h : PRep w base P l vn vk vz vb) (hl : l.length ≤ 1000) (g cap : Nat) (q0 : ByteArray) (hc0 : w.cell? ⟨g, 0, none⟩ = some (.string q0)) (heo : (q0.toList == [111, 117, 116]) = false) (hel : (q0.toList == [108, 111, 97, 100]) = true) (n : Nat) (hn : ((n : Int) != 4) = true) (hn0 : (0 : Int) < (n : Int)) :
    Calls Tryz.prog 64 #[.pointer (some ⟨P, 0, none⟩), .slice (some ⟨g, 0, none⟩) n cap] w fun e w' => e = .returned (.bool (false)) ∧ Below w.heap.size w w' := by
  clear h
  have a0 := fun o => cell_alloc hc0 o
  go_enter Tryz.func64, Tryz.ntmps64
  go_wp2_with fail
  go_ret
  exact ⟨rfl, ((Below.refl _ _).alloc (Nat.le_refl _) _)⟩
set_option maxRecDepth 100000 in
set_option maxHeartbeats 1000000 in
theorem fits_store_no (h : PRep w base P l vn vk vz vb) (hl : l.length ≤ 1000) (g cap : Nat) (q0 : ByteArray) (hc0 : w.cell? ⟨g, 0, none⟩ = some (.string q0)) (heo : (q0.toList == [111, 117, 116]) = false) (hel : (q0.toList == [108, 111, 97, 100]) = false) (hes : (q0.toList == [115, 116, 111, 114, 101]) = true) (n : Nat) (hn : ((n : Int) != 4) = true) (hn0 : (0 : Int) < (n : Int)) :
    Calls Tryz.prog 64 #[.pointer (some ⟨P, 0, none⟩), .slice (some ⟨g, 0, none⟩) n cap] w fun e w' => e = .returned (.bool (false)) ∧ Below w.heap.size w w' := by
  clear h
  have a0 := fun o => cell_alloc hc0 o
  go_enter Tryz.func64, Tryz.ntmps64
  go_wp2_with fail
  go_ret
  exact ⟨rfl, ((Below.refl _ _).alloc (Nat.le_refl _) _)⟩
set_option maxRecDepth 100000 in
set_option maxHeartbeats 1000000 in
theorem fits_other (h : PRep w base P l vn vk vz vb) (hl : l.length ≤ 1000) (g cap : Nat) (q0 : ByteArray) (hc0 : w.cell? ⟨g, 0, none⟩ = some (.string q0)) (heo : (q0.toList == [111, 117, 116]) = false) (hel : (q0.toList == [108, 111, 97, 100]) = false) (hes : (q0.toList == [115, 116, 111, 114, 101]) = false) (n : Nat) (hn : ((n : Int) != 3) = true) (hn5 : ((n : Int) != 5) = true) (hn0 : (0 : Int) < (n : Int)) :
    Calls Tryz.prog 64 #[.pointer (some ⟨P, 0, none⟩), .slice (some ⟨g, 0, none⟩) n cap] w fun e w' => e = .returned (.bool (false)) ∧ Below w.heap.size w w' := by
  clear h
  have a0 := fun o => cell_alloc hc0 o
  go_enter Tryz.func64, Tryz.ntmps64
  go_wp2_with fail
  go_ret
  exact ⟨rfl, ((Below.refl _ _).alloc (Nat.le_refl _) _)⟩
set_option maxRecDepth 100000 in
set_option maxHeartbeats 1000000 in
theorem fits_load (h : PRep w base P l vn vk vz vb) (hl : l.length ≤ 1000) (g cap : Nat) (q0 : ByteArray) (q1 : ByteArray) (q2 : ByteArray) (q3 : ByteArray) (hc0 : w.cell? ⟨g, 0, none⟩ = some (.string q0)) (hc1 : w.cell? ⟨g, 1, none⟩ = some (.string q1)) (hc2 : w.cell? ⟨g, 2, none⟩ = some (.string q2)) (hc3 : w.cell? ⟨g, 3, none⟩ = some (.string q3)) (heo : (q0.toList == [111, 117, 116]) = false) (hel : (q0.toList == [108, 111, 97, 100]) = true) :
    Calls Tryz.prog 64 #[.pointer (some ⟨P, 0, none⟩), .slice (some ⟨g, 0, none⟩) 4 cap] w fun e w' => e = .returned (.bool (Rf.scalar (dcs l) q1.toList && Rf.kindOf (dcs l) q2.toList == Rf.wArray && Rf.atom (dcs l) q3.toList)) ∧ Below w.heap.size w w' := by
  have HP := hid h
  clear h
  have a0 := fun o => cell_alloc hc0 o
  have a1 := fun o => cell_alloc hc1 o
  have a2 := fun o => cell_alloc hc2 o
  have a3 := fun o => cell_alloc hc3 o
  go_enter Tryz.func64, Tryz.ntmps64
  go_wp2_with (first
    | (go_at_call 95; refine ((HP.out.alloc _).scalar_any q1 hl).mono ?_; rintro e w0 ⟨rfl, rfl⟩)
    | (go_at_call 91; refine ((HP.out.alloc _).kind_any q2 hl).mono ?_; rintro e w0 ⟨kq, rfl, hkq, rfl⟩; have HKQ := hid hkq; clear hkq)
    | (go_at_call 94; refine ((HP.out.alloc _).atom_any q3 hl).mono ?_; rintro e w1 ⟨rfl, hb1⟩; have HB1 := hid hb1; clear hb1))
  all_goals go_ret
  all_goals refine ⟨ret_bool ?_, ((Below.refl _ _).alloc (Nat.le_refl _) _).trans (HB1.out.mono (by simp))⟩
  all_goals rw [← show kq.toList = _ from HKQ.out]
  all_goals simp [Rf.wArray, *]
set_option maxRecDepth 100000 in
set_option maxHeartbeats 1000000 in
theorem fits_store (h : PRep w base P l vn vk vz vb) (hl : l.length ≤ 1000) (g cap : Nat) (q0 : ByteArray) (q1 : ByteArray) (q2 : ByteArray) (q3 : ByteArray) (hc0 : w.cell? ⟨g, 0, none⟩ = some (.string q0)) (hc1 : w.cell? ⟨g, 1, none⟩ = some (.string q1)) (hc2 : w.cell? ⟨g, 2, none⟩ = some (.string q2)) (hc3 : w.cell? ⟨g, 3, none⟩ = some (.string q3)) (heo : (q0.toList == [111, 117, 116]) = false) (hel : (q0.toList == [108, 111, 97, 100]) = false) (hes : (q0.toList == [115, 116, 111, 114, 101]) = true) :
    Calls Tryz.prog 64 #[.pointer (some ⟨P, 0, none⟩), .slice (some ⟨g, 0, none⟩) 4 cap] w fun e w' => e = .returned (.bool (Rf.kindOf (dcs l) q1.toList == Rf.wArray && Rf.atom (dcs l) q2.toList && Rf.atom (dcs l) q3.toList)) ∧ Below w.heap.size w w' := by
  have HP := hid h
  clear h
  have a0 := fun o => cell_alloc hc0 o
  have a1 := fun o => cell_alloc hc1 o
  have a2 := fun o => cell_alloc hc2 o
  have a3 := fun o => cell_alloc hc3 o
  go_enter Tryz.func64, Tryz.ntmps64
  go_wp2_with (first
    | (go_at_call 91; refine ((HP.out.alloc _).kind_any q1 hl).mono ?_; rintro e w0 ⟨kq, rfl, hkq, rfl⟩; have HKQ := hid hkq; clear hkq)
    | (go_at_call_of 94 (Value.string q2); refine ((HP.out.alloc _).atom_any q2 hl).mono ?_; rintro e w1 ⟨rfl, hb1⟩; have b3 := cell_later hb1 (a3 _); have HB1 := hid hb1; have z1 := hb1.size; simp at z1; clear hb1)
    | (go_at_call_of 94 (Value.string q3); refine (((HP.out.alloc _).below HB1.out).atom_any q3 hl).mono ?_; rintro e w2 ⟨rfl, hb2⟩; have HB2 := hid hb2; clear hb2))
  all_goals go_ret
  all_goals refine ⟨ret_bool ?_, (((Below.refl _ _).alloc (Nat.le_refl _) _).trans (HB1.out.mono (by simp))).trans (HB2.out.mono (by omega))⟩
  all_goals rw [← show kq.toList = _ from HKQ.out]
  all_goals simp [Rf.wArray, *]
set_option maxRecDepth 100000 in
set_option maxHeartbeats 1000000 in
theorem fits_three (h : PRep w base P l vn vk vz vb) (hl : l.length ≤ 1000) (g cap : Nat) (q0 : ByteArray) (q1 : ByteArray) (q2 : ByteArray) (hc0 : w.cell? ⟨g, 0, none⟩ = some (.string q0)) (hc1 : w.cell? ⟨g, 1, none⟩ = some (.string q1)) (hc2 : w.cell? ⟨g, 2, none⟩ = some (.string q2)) (heo : (q0.toList == [111, 117, 116]) = false) (hel : (q0.toList == [108, 111, 97, 100]) = false) (hes : (q0.toList == [115, 116, 111, 114, 101]) = false) :
    Calls Tryz.prog 64 #[.pointer (some ⟨P, 0, none⟩), .slice (some ⟨g, 0, none⟩) 3 cap] w fun e w' => e = .returned (.bool (Rf.scalar (dcs l) q0.toList && q1.toList == [61] && Rf.atom (dcs l) q2.toList)) ∧ Below w.heap.size w w' := by
  have HP := hid h
  clear h
  have a0 := fun o => cell_alloc hc0 o
  have a1 := fun o => cell_alloc hc1 o
  have a2 := fun o => cell_alloc hc2 o
  go_enter Tryz.func64, Tryz.ntmps64
  go_wp2_with (first
    | (go_at_call 95; refine ((HP.out.alloc _).scalar_any q0 hl).mono ?_; rintro e w0 ⟨rfl, rfl⟩)
    | (go_at_call_of 94 (Value.string q2); refine ((HP.out.alloc _).atom_any q2 hl).mono ?_; rintro e w1 ⟨rfl, hb1⟩; have b1 := cell_later hb1 (a1 _); have HB1 := hid hb1; have z1 := hb1.size; simp at z1; clear hb1))
  all_goals go_ret
  all_goals refine ⟨ret_bool ?_, ((Below.refl _ _).alloc (Nat.le_refl _) _).trans (HB1.out.mono (by simp))⟩
  all_goals simp [*]
set_option maxRecDepth 100000 in
set_option maxHeartbeats 1000000 in
theorem fits_five (h : PRep w base P l vn vk vz vb) (hl : l.length ≤ 1000) (g cap : Nat) (q0 : ByteArray) (q1 : ByteArray) (q2 : ByteArray) (q3 : ByteArray) (q4 : ByteArray) (hc0 : w.cell? ⟨g, 0, none⟩ = some (.string q0)) (hc1 : w.cell? ⟨g, 1, none⟩ = some (.string q1)) (hc2 : w.cell? ⟨g, 2, none⟩ = some (.string q2)) (hc3 : w.cell? ⟨g, 3, none⟩ = some (.string q3)) (hc4 : w.cell? ⟨g, 4, none⟩ = some (.string q4)) (heo : (q0.toList == [111, 117, 116]) = false) (hel : (q0.toList == [108, 111, 97, 100]) = false) (hes : (q0.toList == [115, 116, 111, 114, 101]) = false) :
    Calls Tryz.prog 64 #[.pointer (some ⟨P, 0, none⟩), .slice (some ⟨g, 0, none⟩) 5 cap] w fun e w' => e = .returned (.bool ((Rf.scalar (dcs l) q0.toList && q1.toList == [61] && Rf.atom (dcs l) q2.toList) && ((Rf.oneOf q3.toList Rf.signs).isSome && Rf.atom (dcs l) q4.toList))) ∧ Below w.heap.size w w' := by
  have HP := hid h
  clear h
  have a0 := fun o => cell_alloc hc0 o
  have a1 := fun o => cell_alloc hc1 o
  have a2 := fun o => cell_alloc hc2 o
  have a3 := fun o => cell_alloc hc3 o
  have a4 := fun o => cell_alloc hc4 o
  go_enter Tryz.func64, Tryz.ntmps64
  go_wp2_with (first
    | (go_at_call 95; refine ((HP.out.alloc _).scalar_any q0 hl).mono ?_; rintro e w0 ⟨rfl, rfl⟩)
    | (go_at_call_of 94 (Value.string q2); refine ((HP.out.alloc _).atom_any q2 hl).mono ?_; rintro e w1 ⟨rfl, hb1⟩; have b1 := cell_later hb1 (a1 _); have b3 := cell_later hb1 (a3 _); have b4 := cell_later hb1 (a4 _); have HB1 := hid hb1; have z1 := hb1.size; simp at z1; clear hb1)
    | (go_at_call 61; refine (oneOf_pos sgB w.heap.size 10 q3 _ (wds_later (sgB_wds w) HB1.out) (by decide)).mono ?_; rintro e w0 ⟨rfl, rfl⟩)
    | (go_at_call_of 94 (Value.string q4); refine (((HP.out.alloc _).below HB1.out).atom_any q4 hl).mono ?_; rintro e w2 ⟨rfl, hb2⟩; have HB2 := hid hb2; clear hb2))
  all_goals go_ret
  all_goals refine ⟨ret_bool ?_, (((Below.refl _ _).alloc (Nat.le_refl _) _).trans (HB1.out.mono (by simp))).trans (HB2.out.mono (by omega))⟩
  · have hx : 0 ≤ Lk.intO (Rf.oneOf q3.toList (List.map ByteArray.toList sgB)) := by assumption
    rw [sgB_list] at hx
    simp [isSome_of hx, *]
  · have hx : Lk.intO (Rf.oneOf q3.toList (List.map ByteArray.toList sgB)) < 0 := by assumption
    rw [sgB_list] at hx
    simp [isNone_of hx]
  all_goals simp [*]
end PRep
end Go.Proofs.YtgddmpmcnjlcjabGreatDoor
namespace Go.Proofs.YtgddmpmcnjlcjabGreatDoor
open Go.RowKit
set_option linter.unusedVariables false
namespace PRep
variable {w : World} {base P : Nat} {l : List DB} {vn vk vz vb : Value}
theorem fits_any (h : PRep w base P l vn vk vz vb) (hl : l.length ≤ 1000) (g cap : Nat) (ws : List ByteArray) (hw : Wds w g ws) (h0 : 0 < ws.length) :
    Calls Tryz.prog 64 #[.pointer (some ⟨P, 0, none⟩), .slice (some ⟨g, 0, none⟩) ws.length cap] w fun e w' => e = .returned (.bool (Rf.fits (dcs l) (ws.map ByteArray.toList))) ∧ Below w.heap.size w w' := by
  have hc := fun i hi => hw i hi
  have e0 := wd_map ws 0
  have e1 := wd_map ws 1
  have e2 := wd_map ws 2
  have e3 := wd_map ws 3
  have e4 := wd_map ws 4
  have hlm : (ws.map ByteArray.toList).length = ws.length := by simp
  unfold Rf.fits
  rw [e0, e1, e2, e3, e4, hlm]
  cases ho : ((ws.getD 0 ByteArray.empty).toList == [111, 117, 116]) with
  | true =>
    rw [if_pos (show _ = Rf.wOut from eq_of_beq ho)]
    by_cases hn : ws.length = 2
    · rw [hn, decide_eq_true rfl, Bool.true_and]
      exact h.fits_out hl g cap _ _ (hc 0 h0) (hc 1 (by omega)) ho
    · rw [decide_eq_false hn, Bool.false_and]
      exact h.fits_out_no hl g cap _ (hc 0 h0) ho _ (by simp; omega) (by omega)
  | false =>
    rw [if_neg (show ¬ _ = Rf.wOut from ne_of_beq_false ho)]
    cases hlo : ((ws.getD 0 ByteArray.empty).toList == [108, 111, 97, 100]) with
    | true =>
      rw [if_pos (show _ = Rf.wLoad from eq_of_beq hlo)]
      by_cases hn : ws.length = 4
      · rw [hn, decide_eq_true rfl, Bool.true_and]
        exact h.fits_load hl g cap _ _ _ _ (hc 0 h0) (hc 1 (by omega)) (hc 2 (by omega)) (hc 3 (by omega)) ho hlo
      · rw [decide_eq_false hn, Bool.false_and]
        exact h.fits_load_no hl g cap _ (hc 0 h0) ho hlo _ (by simp; omega) (by omega)
    | false =>
      rw [if_neg (show ¬ _ = Rf.wLoad from ne_of_beq_false hlo)]
      cases hst : ((ws.getD 0 ByteArray.empty).toList == [115, 116, 111, 114, 101]) with
      | true =>
        rw [if_pos (show _ = Rf.wStore from eq_of_beq hst)]
        by_cases hn : ws.length = 4
        · rw [hn, decide_eq_true rfl, Bool.true_and]
          exact h.fits_store hl g cap _ _ _ _ (hc 0 h0) (hc 1 (by omega)) (hc 2 (by omega)) (hc 3 (by omega)) ho hlo hst
        · rw [decide_eq_false hn, Bool.false_and]
          exact h.fits_store_no hl g cap _ (hc 0 h0) ho hlo hst _ (by simp; omega) (by omega)
      | false =>
        rw [if_neg (show ¬ _ = Rf.wStore from ne_of_beq_false hst)]
        by_cases h3 : ws.length = 3
        · rw [if_pos h3, h3]
          exact h.fits_three hl g cap _ _ _ (hc 0 h0) (hc 1 (by omega)) (hc 2 (by omega)) ho hlo hst
        · rw [if_neg h3]
          by_cases h5 : ws.length = 5
          · rw [if_pos h5, h5]
            exact h.fits_five hl g cap _ _ _ _ _ (hc 0 h0) (hc 1 (by omega)) (hc 2 (by omega)) (hc 3 (by omega)) (hc 4 (by omega)) ho hlo hst
          · rw [if_neg h5]
            exact h.fits_other hl g cap _ (hc 0 h0) ho hlo hst _ (by simp; omega) (by simp; omega) (by omega)
end PRep
end Go.Proofs.YtgddmpmcnjlcjabGreatDoor
namespace Go.Proofs.YtgddmpmcnjlcjabGreatDoor
open Go.RowKit
set_option linter.unusedVariables false
structure DeclOut (w w' : World) (base P : Nat) (l : List DB) (vn vk vz vb : Value) (o : Option (List Rf.Dc)) : Prop where
  no : o = none → Below w.heap.size w w'
  yes : ∀ ds, o = some ds → ∃ l' vn' vk' vz', ds = dcs l' ∧ l'.length = l.length + 1 ∧ PRep w' base P l' vn' vk' vz' vb ∧ Nw w vn vn' ∧ Nw w vk vk' ∧ Nw w vz vz' ∧
    Frm base (fun k => k = P ∨ vn.ownBlock = some k ∨ vk.ownBlock = some k ∨ vz.ownBlock = some k) w w'
theorem dout_no {w w' : World} {base P : Nat} {l : List DB} {vn vk vz vb : Value} {o : Option (List Rf.Dc)} {e : Ending} (ho : o = none) (h : e = .returned (.bool false) ∧ Below w.heap.size w w') : e = .returned (.bool o.isSome) ∧ DeclOut w w' base P l vn vk vz vb o :=
  ⟨by rw [ho]; exact h.1, ⟨fun _ => h.2, fun ds e => by rw [ho] at e; cases e⟩⟩
theorem dout_yes {w w' : World} {base P : Nat} {l : List DB} {vn vk vz vb : Value} {o : Option (List Rf.Dc)} {e : Ending} {d : DB} (ho : o = some (dcs (l ++ [d])))
    (h : e = .returned (.bool true) ∧ (∃ vn' vk' vz', PRep w' base P (l ++ [d]) vn' vk' vz' vb ∧ Nw w vn vn' ∧ Nw w vk vk' ∧ Nw w vz vz') ∧ Frm base (fun k => k = P ∨ vn.ownBlock = some k ∨ vk.ownBlock = some k ∨ vz.ownBlock = some k) w w') :
    e = .returned (.bool o.isSome) ∧ DeclOut w w' base P l vn vk vz vb o := by
  obtain ⟨rfl, ⟨vn', vk', vz', h1, h2, h3, h4⟩, h5⟩ := h
  exact ⟨by rw [ho]; rfl, ⟨(fun e => by rw [ho] at e; cases e), fun ds e => by rw [ho] at e; cases e; exact ⟨_, vn', vk', vz', rfl, by simp, h1, h2, h3, h4, h5⟩⟩⟩
theorem refDeclare_any {w : World} {base P R : Nat} {l : List DB} {vn vk vz vb : Value} (h : PRep w base P l vn vk vz vb) (hl : l.length ≤ 1000) (g cap : Nat) (ws : List ByteArray) (hw : Wds w g ws) (h0 : 0 < ws.length) (bdy : Bool)
    (hp : w.cell? ⟨R, 0, none⟩ = some (.pointer (some ⟨P, 0, none⟩))) (hb : w.cell? ⟨R, 4, none⟩ = some (.bool bdy)) (hgn : vn.ownBlock ≠ some g) (hgk : vk.ownBlock ≠ some g) (hgP : g ≠ P) :
    Calls Tryz.prog 62 #[.pointer (some ⟨R, 0, none⟩), .slice (some ⟨g, 0, none⟩) ws.length cap] w fun e w' =>
      e = .returned (.bool (Rf.declare (dcs l) bdy (ws.map ByteArray.toList)).isSome) ∧ DeclOut w w' base P l vn vk vz vb (Rf.declare (dcs l) bdy (ws.map ByteArray.toList)) := by
  have hc0 := hw 0 h0
  have e0 := wd_map ws 0
  have e1 := wd_map ws 1
  have e2 := wd_map ws 2
  have hlm : (ws.map ByteArray.toList).length = ws.length := by simp
  obtain ⟨O, hO⟩ : ∃ O, Rf.declare (dcs l) bdy (ws.map ByteArray.toList) = O := ⟨_, rfl⟩
  rw [hO]
  unfold Rf.declare at hO
  rw [e0, e1, e2, hlm] at hO
  cases bdy with
  | true =>
    rw [if_neg (by simp)] at hO
    refine (decl_body h hl g cap _ ByteArray.empty hc0 hp hb ws.length (by omega)).mono ?_
    intro e w' hh
    exact dout_no hO.symm hh
  | false =>
    by_cases hlen : ws.length = if (ws.getD 0 ByteArray.empty).toList = Rf.wArray then 3 else 2
    · have h2 : 1 < ws.length := by rw [hlen]; split <;> omega
      have hc1 := hw 1 h2
      cases hn : Lk.isName (ws.getD 1 ByteArray.empty).toList with
      | false =>
        rw [if_neg (fun c => by rw [hn] at c; simp at c)] at hO
        refine (decl_name h hl g cap _ _ hc0 hp hb hc1 ws.length (by omega) (by omega) hlen hn).mono ?_
        intro e w' hh
        exact dout_no hO.symm hh
      | true =>
        cases ha : ((ws.getD 0 ByteArray.empty).toList == [97, 114, 114, 97, 121]) with
        | true =>
          have haE : (ws.getD 0 ByteArray.empty).toList = Rf.wArray := eq_of_beq ha
          rw [if_pos haE] at hlen
          rw [hlen]
          by_cases hk : Rf.kindOf (dcs l) (ws.getD 1 ByteArray.empty).toList = []
          · rw [if_pos ⟨rfl, by rw [if_pos haE]; exact hlen, hn, hk⟩, if_pos haE] at hO
            have hke : (Rf.kindOf (dcs l) (ws.getD 1 ByteArray.empty).toList).isEmpty = true := by rw [hk]; rfl
            have hc2 := hw 2 (by omega)
            cases hz : Lk.num? (ws.getD 2 ByteArray.empty).toList with
            | none =>
              rw [hz] at hO
              refine (decl_arr_no h hl g cap _ _ hc0 hc1 hp hb hn ha hke _ hc2 (-1) (intO_none hz) (.inl (by omega))).mono ?_
              intro e w' hh
              exact dout_no hO.symm hh
            | some n =>
              rw [hz] at hO
              by_cases hok : 1 ≤ n ∧ n ≤ 4 ∧ Rf.many (dcs l) Rf.wArray < 2
              · dsimp only at hO
                rw [if_pos hok] at hO
                refine (decl_arr h hl g cap _ _ hc0 hc1 hp hb hgn hgk hgP hn ha hke _ hc2 n hz hok).mono ?_
                intro e w' hh
                exact dout_yes (by rw [← hO]; simp [dcs, DB.dc]) hh
              · dsimp only at hO
                rw [if_neg hok] at hO
                refine (decl_arr_no h hl g cap _ _ hc0 hc1 hp hb hn ha hke _ hc2 n (intO_some hz) (by omega)).mono ?_
                intro e w' hh
                exact dout_no hO.symm hh
          · rw [if_neg (fun c => hk c.2.2.2)] at hO
            have hke : (Rf.kindOf (dcs l) (ws.getD 1 ByteArray.empty).toList).isEmpty = false := by
              cases hq : Rf.kindOf (dcs l) (ws.getD 1 ByteArray.empty).toList with
              | nil => exact absurd hq hk
              | cons _ _ => rfl
            refine (decl_taken3 h hl g cap _ _ hc0 hc1 hp hb hn ha hke).mono ?_
            intro e w' hh
            exact dout_no hO.symm hh
        | false =>
          have haE : ¬ (ws.getD 0 ByteArray.empty).toList = Rf.wArray := ne_of_beq_false ha
          rw [if_neg haE] at hlen
          rw [hlen]
          by_cases hk : Rf.kindOf (dcs l) (ws.getD 1 ByteArray.empty).toList = []
          · rw [if_pos ⟨rfl, by rw [if_neg haE]; exact hlen, hn, hk⟩, if_neg haE] at hO
            have hke : (Rf.kindOf (dcs l) (ws.getD 1 ByteArray.empty).toList).isEmpty = true := by rw [hk]; rfl
            cases hv : ((ws.getD 0 ByteArray.empty).toList == [118, 97, 114]) with
            | true =>
              rw [if_pos (show _ = Rf.wVar from eq_of_beq hv)] at hO
              by_cases hok : Rf.many (dcs l) Rf.wVar < 4
              · rw [if_pos hok] at hO
                refine (decl_var h hl g cap _ _ hc0 hc1 hp hb hgn hgk hgP hn ha hv hke hok).mono ?_
                intro e w' hh
                exact dout_yes (by rw [← hO]; simp [dcs, DB.dc]) hh
              · rw [if_neg hok] at hO
                refine (decl_var_no h hl g cap _ _ hc0 hc1 hp hb hn ha hv hke (by omega)).mono ?_
                intro e w' hh
                exact dout_no hO.symm hh
            | false =>
              rw [if_neg (show ¬ _ = Rf.wVar from ne_of_beq_false hv)] at hO
              by_cases hok : Rf.many (dcs l) Rf.wVar = 0 ∧ Rf.many (dcs l) Rf.wSecret + Rf.many (dcs l) Rf.wPublic < 3
              · rw [if_pos hok] at hO
                refine (decl_in h hl g cap _ _ hc0 hc1 hp hb hgn hgk hgP hn ha hv hke hok).mono ?_
                intro e w' hh
                exact dout_yes (by rw [← hO]; simp [dcs, DB.dc]) hh
              · rw [if_neg hok] at hO
                refine (decl_in_no h hl g cap _ _ hc0 hc1 hp hb hn ha hv hke (by omega)).mono ?_
                intro e w' hh
                exact dout_no hO.symm hh
          · rw [if_neg (fun c => hk c.2.2.2)] at hO
            have hke : (Rf.kindOf (dcs l) (ws.getD 1 ByteArray.empty).toList).isEmpty = false := by
              cases hq : Rf.kindOf (dcs l) (ws.getD 1 ByteArray.empty).toList with
              | nil => exact absurd hq hk
              | cons _ _ => rfl
            refine (decl_taken2 h hl g cap _ _ hc0 hc1 hp hb hn ha hke).mono ?_
            intro e w' hh
            exact dout_no hO.symm hh
    · rw [if_neg (fun c => hlen c.2.1)] at hO
      refine (decl_len h hl g cap _ ByteArray.empty hc0 hp hb ws.length (by omega) hlen).mono ?_
      intro e w' hh
      exact dout_no hO.symm hh
end Go.Proofs.YtgddmpmcnjlcjabGreatDoor
