import Derived.Test.YtfnmglfbcpdlnaaE2
import Derived.Test.YtfnmglfbcpdlnaaR0
import Derived.RegionTactic
namespace Go.Proofs.Ytfnmglfbcpdlnaa
open Go.RowKit
set_option linter.unusedVariables false

namespace Mc
/-- A load or a store; or the trap. -/
def access (m : M) (cs : List Nat) (s : Lk.St) (i v : Nat) : M :=
  if has cs s.arr i = true then
    if s.kind = 2 then { m with cel := Lk.upd m.cel (s.arr * 4 + i) v } else put m s.slot (m.cel (s.arr * 4 + i))
  else { m with trap := true }
end Mc

theorem mcell_at (m : Mc.M) {a i : Nat} (ha : a < 2) (hi : i < 4) : mcell m (7 + a * 4 + i) = .int .i64 (m.cel (a * 4 + i)) := by
  rw [show 7 + a * 4 + i = 7 + (a * 4 + i) by omega]; exact mcell_cel m (by omega)
theorem mcell_store (m : Mc.M) (a i v : Nat) (ha : a < 2) (hi : i < 4) (j : Nat) (hj : j < 17) : (if j = 7 + a * 4 + i then .int .i64 (v : Int) else mcell m j) = mcell { m with cel := Lk.upd m.cel (a * 4 + i) v } j := by
  by_cases e : j = 7 + a * 4 + i
  · subst e; rw [if_pos rfl, mcell_at _ ha hi]; simp [Lk.upd]
  · rw [if_neg e]
    unfold mcell
    by_cases h7 : j < 7
    · rw [if_pos h7, if_pos h7]
    · rw [if_neg h7, if_neg h7]
      by_cases h15 : j < 15
      · rw [if_pos h15, if_pos h15]
        show _ = Value.int .i64 ((Lk.upd m.cel (a * 4 + i) v (j - 7) : Nat) : Int)
        unfold Lk.upd
        rw [if_neg (by omega)]
      · rw [if_neg h15, if_neg h15]
theorem mcell_trap (m : Mc.M) (j : Nat) (hj : j < 17) : (if j = 16 then .bool true else mcell m j) = mcell { m with trap := true } j := by
  by_cases e : j = 16
  · subst e; rw [if_pos rfl]; rfl
  · rw [if_neg e]
    unfold mcell
    by_cases h7 : j < 7
    · rw [if_pos h7, if_pos h7]
    · rw [if_neg h7, if_neg h7]
      by_cases h15 : j < 15
      · rw [if_pos h15, if_pos h15]
      · rw [if_neg h15, if_neg h15, if_pos (by omega), if_pos (by omega)]

abbrev stAgg (s : Lk.St) : Value := .agg #[.int .i64 s.kind, .int .i64 s.op, .int .i64 s.slot, .int .i64 s.arr, .bool s.a.named, .int .i64 s.a.val, .bool s.b.named, .int .i64 s.b.val, .int .i64 s.next, .int .i64 s.els]

section
variable (m : Mc.M) (b : Nat) (w : World) (vs vk : Value) (nv : Int) (g cp : Nat) (cs : List Nat) (s : Lk.St) (i v : Nat)

def MPost (w w' : World) (b : Nat) (e : Ending) (m : Mc.M) : Prop := e = .returned (.tuple #[]) ∧ w'.rowIs b 112 17 (mcell m) ∧ Frm 0 (fun k => k = b) w w'

set_option maxRecDepth 100000 in
set_option maxHeartbeats 1000000 in
theorem access_trap (hr : w.rowIs b 112 17 (mcell m)) (hc : ∀ j, j < cs.length → w.cell? ⟨g, j, none⟩ = some (.int .i64 (cs.getD j 0))) (hl : cs.length ≤ 2) (hle : ∀ j, j < cs.length → cs.getD j 0 ≤ 4) (ha : s.arr < cs.length) (hh : Mc.has cs s.arr i = false) :
    Calls Try.prog 90 #[.pointer (some ⟨b, 0, none⟩), .agg #[vs, .int .i64 nv, .slice (some ⟨g, 0, none⟩) cs.length cp, vk], stAgg s, .int .i64 i, .int .i64 v] w fun e w' => MPost w w' b e { m with trap := true } := by
  have HR := hid hr
  have hlt := hr.lt
  have HC := hid hc
  have HE := hid hle
  have HH := hid hh
  have haI : (s.arr : Int) < 2 := by omega
  have ha0 : (0 : Int) ≤ (s.arr : Int) := by omega
  clear hr hc hle hh
  go_enter Try.func90, Try.ntmps90
  go_wp2_with (first
    | (go_at_call 100; refine (has_eq false (fun j hj => cell_alloc (cell_alloc (HC.out j hj) _) _) hl HE.out ha HH.out).mono ?_; rintro e w1 ⟨rfl, hb1⟩; have HB1 := hid hb1; have z1 := hb1.size; simp at z1; have R1 := (((HR.out.alloc _).alloc _).of_block (hb1.block _ (by simp; omega))); have HR1 := hid R1; have k0 := cell_later hb1 (newAt2 w _ _ _ 0 _ rfl); have k2 := cell_later hb1 (newAt2 w _ _ _ 2 _ rfl); have k3 := cell_later hb1 (newAt2 w _ _ _ 3 _ rfl); have c16 := R1.cell (i := 16) (by omega); have f16 := R1.frozen 16; clear R1 hb1))
  first | go_end0 | refine bodyPost_ret (results_none rfl _ _ _) rfl ?_
  exact ⟨rfl, (HR1.out.set 16 _).congr (fun j hj => mcell_trap m j hj), Frm.setCell (p := ⟨b, 16, none⟩) (Frm.ofBelow (S := fun k => k = b) (((Below.refl w.heap.size w).alloc (Nat.le_refl _) _).alloc (by simp) _ |>.trans (HB1.out.mono (by simp; omega))) (Nat.zero_le _)) (Nat.zero_le _) rfl _⟩
set_option maxRecDepth 100000 in
set_option maxHeartbeats 1000000 in
theorem access_store (hr : w.rowIs b 112 17 (mcell m)) (hc : ∀ j, j < cs.length → w.cell? ⟨g, j, none⟩ = some (.int .i64 (cs.getD j 0))) (hl : cs.length ≤ 2) (hle : ∀ j, j < cs.length → cs.getD j 0 ≤ 4) (ha : s.arr < cs.length) (hh : Mc.has cs s.arr i = true) (hk : s.kind = 2) :
    Calls Try.prog 90 #[.pointer (some ⟨b, 0, none⟩), .agg #[vs, .int .i64 nv, .slice (some ⟨g, 0, none⟩) cs.length cp, vk], stAgg s, .int .i64 i, .int .i64 v] w fun e w' => MPost w w' b e { m with cel := Lk.upd m.cel (s.arr * 4 + i) v } := by
  have HR := hid hr
  have hlt := hr.lt
  have HC := hid hc
  have HE := hid hle
  have HH := hid hh
  have haI : (s.arr : Int) < 2 := by omega
  have ha0 : (0 : Int) ≤ (s.arr : Int) := by omega
  have hi4 : i < 4 := by
    have h1 := hle s.arr ha
    have h2 : i < cs.getD s.arr 0 := by simpa [Mc.has] using hh
    omega
  have hi4I : (i : Int) < 4 := by omega
  have hi0I : (0 : Int) ≤ (i : Int) := by omega
  have hkI : ((s.kind : Int) == 2) = true := by simp; omega
  have HK := hid hk
  clear hk
  clear hr hc hle hh
  go_enter Try.func90, Try.ntmps90
  go_wp2_with (first
    | (go_at_call 100; refine (has_eq true (fun j hj => cell_alloc (cell_alloc (HC.out j hj) _) _) hl HE.out ha HH.out).mono ?_; rintro e w1 ⟨rfl, hb1⟩; have HB1 := hid hb1; have z1 := hb1.size; simp at z1; have R1 := (((HR.out.alloc _).alloc _).of_block (hb1.block _ (by simp; omega))); have HR1 := hid R1; have k0 := cell_later hb1 (newAt2 w _ _ _ 0 _ rfl); have k2 := cell_later hb1 (newAt2 w _ _ _ 2 _ rfl); have k3 := cell_later hb1 (newAt2 w _ _ _ 3 _ rfl); have cx := R1.cell (i := 7 + s.arr * 4 + i) (by omega); have fx := R1.frozen (7 + s.arr * 4 + i); clear R1 hb1))
  go_region
  all_goals go_wp2_with fail
  all_goals (first | go_end0 | refine bodyPost_ret (results_none rfl _ _ _) rfl ?_)
  all_goals (exact ⟨rfl, (HR1.out.set (7 + s.arr * 4 + i) _).congr (fun j hj => mcell_store m s.arr i v (by omega) hi4 j hj), Frm.setCell (p := ⟨b, 7 + s.arr * 4 + i, none⟩) (Frm.ofBelow (S := fun k => k = b) (((Below.refl w.heap.size w).alloc (Nat.le_refl _) _).alloc (by simp) _ |>.trans (HB1.out.mono (by simp; omega))) (Nat.zero_le _)).drew (Nat.zero_le _) rfl _⟩)
set_option maxRecDepth 100000 in
set_option maxHeartbeats 1000000 in
theorem access_load (hr : w.rowIs b 112 17 (mcell m)) (hc : ∀ j, j < cs.length → w.cell? ⟨g, j, none⟩ = some (.int .i64 (cs.getD j 0))) (hl : cs.length ≤ 2) (hle : ∀ j, j < cs.length → cs.getD j 0 ≤ 4) (ha : s.arr < cs.length) (hh : Mc.has cs s.arr i = true) (hk : s.kind = 1) (hs7 : s.slot < 7) :
    Calls Try.prog 90 #[.pointer (some ⟨b, 0, none⟩), .agg #[vs, .int .i64 nv, .slice (some ⟨g, 0, none⟩) cs.length cp, vk], stAgg s, .int .i64 i, .int .i64 v] w fun e w' => MPost w w' b e (Mc.put m s.slot (m.cel (s.arr * 4 + i))) := by
  have HR := hid hr
  have hlt := hr.lt
  have HC := hid hc
  have HE := hid hle
  have HH := hid hh
  have haI : (s.arr : Int) < 2 := by omega
  have ha0 : (0 : Int) ≤ (s.arr : Int) := by omega
  have hi4 : i < 4 := by
    have h1 := hle s.arr ha
    have h2 : i < cs.getD s.arr 0 := by simpa [Mc.has] using hh
    omega
  have hi4I : (i : Int) < 4 := by omega
  have hi0I : (0 : Int) ≤ (i : Int) := by omega
  have hkI : ((s.kind : Int) == 2) = false := by simp; omega
  have HK := hid hk
  clear hk
  clear hr hc hle hh
  go_enter Try.func90, Try.ntmps90
  go_wp2_with (first
    | (go_at_call 100; refine (has_eq true (fun j hj => cell_alloc (cell_alloc (HC.out j hj) _) _) hl HE.out ha HH.out).mono ?_; rintro e w1 ⟨rfl, hb1⟩; have HB1 := hid hb1; have z1 := hb1.size; simp at z1; have R1 := (((HR.out.alloc _).alloc _).of_block (hb1.block _ (by simp; omega))); have HR1 := hid R1; have k0 := cell_later hb1 (newAt2 w _ _ _ 0 _ rfl); have k2 := cell_later hb1 (newAt2 w _ _ _ 2 _ rfl); have k3 := cell_later hb1 (newAt2 w _ _ _ 3 _ rfl); have cx := R1.cell (i := 7 + s.arr * 4 + i) (by omega); rw [mcell_at m (by omega) hi4] at cx; clear R1 hb1))
  go_quiet (fail)
  go_wp2_with (first
    | (go_at_call 63; refine (mput_any m b s.slot (m.cel (s.arr * 4 + i)) _ ?_ hs7).mono ?_; exact HR1.out; rintro e w2 ⟨rfl, rfl⟩))
  go_end0
  exact ⟨rfl, (HR1.out.set s.slot _).congr (fun j hj => mcell_put m s.slot _ hs7 j hj), Frm.setCell (p := ⟨b, s.slot, none⟩) ((Frm.ofBelow (S := fun k => k = b) (((Below.refl w.heap.size w).alloc (Nat.le_refl _) _).alloc (by simp) _ |>.trans (HB1.out.mono (by simp; omega))) (Nat.zero_le _)).drewN _) (Nat.zero_le _) rfl _⟩
end
end Go.Proofs.Ytfnmglfbcpdlnaa
