import Derived.Test.YtgddmpmcnjlcjaaGreatDoorB10
import Derived.Test.YtgddmpmcnjlcjaaGreatDoorB01
namespace Go.Proofs.YtgddmpmcnjlcjaaGreatDoor
open Go.RowKit
set_option linter.unusedVariables false
theorem access_any (m : Mc.M) (b : Nat) (w : World) (vs vk : Value) (nv : Int) (g cp : Nat) (cs : List Nat) (s : Lk.St) (i v : Nat) (hr : w.rowIs b 162 17 (mcell m)) (hc : ∀ j, j < cs.length → w.cell? ⟨g, j, none⟩ = some (.int .i64 (cs.getD j 0))) (hl : cs.length ≤ 2) (hle : ∀ j, j < cs.length → cs.getD j 0 ≤ 4) (ha : s.arr < cs.length) (hk : s.kind = 1 ∨ s.kind = 2) (hs : s.slot < 7) :
    Calls Tryz.prog 108 #[.pointer (some ⟨b, 0, none⟩), .agg #[vs, .int .i64 nv, .slice (some ⟨g, 0, none⟩) cs.length cp, vk], stAgg s, .int .i64 i, .int .i64 v] w fun e w' => MPost w w' b e (Mc.access m cs s i v) := by
  unfold Mc.access
  cases hh : Mc.has cs s.arr i with
  | false => rw [if_neg (by simp)]; exact access_trap m b w vs vk nv g cp cs s i v hr hc hl hle ha hh
  | true =>
    rw [if_pos rfl]
    rcases hk with hk | hk
    · rw [if_neg (by omega)]; exact access_load m b w vs vk nv g cp cs s i v hr hc hl hle ha hh hk hs
    · rw [if_pos hk]; exact access_store m b w vs vk nv g cp cs s i v hr hc hl hle ha hh hk
section
variable (m : Mc.M) (b : Nat) (w : World) (vs vc : Value) (nv : Int)
set_option maxRecDepth 100000 in
set_option maxHeartbeats 2000000 in
theorem step_assign (gk ck : Nat) (code : List Lk.St) (s : Lk.St) (hr : w.rowIs b 162 17 (mcell m)) (ht : m.trap = false) (hn : m.at_ < code.length)
    (hcell : ∀ k, k < 10 → w.cell? ⟨gk, m.at_ * 10 + k, none⟩ = (stCells s)[k]?) (hxa : s.a.named = true → s.a.val < 7) (hxb : s.b.named = true → s.b.val < 7) (hk : s.kind = 0) (hv : s.op ≤ 10 ∧ Mc.value { m with at_ := s.next } s.a < 16 ∧ Mc.value { m with at_ := s.next } s.b < 16 ∧ s.slot < 7) :
    Calls Tryz.prog 82 #[.pointer (some ⟨b, 0, none⟩), .agg #[vs, .int .i64 nv, vc, .slice (some ⟨gk, 0, none⟩) code.length ck]] w fun e w' => SPost w w' b e 0 (Mc.put { m with at_ := s.next } s.slot (Mc.apply s.op (Mc.value { m with at_ := s.next } s.a) (Mc.value { m with at_ := s.next } s.b))) := by
  have HK := hid hk
  have HXA := hid hxa
  have HXB := hid hxb
  have HV := hid hv
  clear hk hxa hxb hv
  have c16 := hr.cell (i := 16) (by omega)
  rw [show mcell m 16 = .bool m.trap from rfl, ht] at c16
  clear ht
  have c15 := hr.cell (i := 15) (by omega)
  rw [show mcell m 15 = .int .i64 m.at_ from rfl] at c15
  have hlt := hr.lt
  have hglt : gk < w.heap.size := by
    have := hcell 0 (by omega)
    exact World.block_lt_of_cell? w ⟨gk, m.at_ * 10 + 0, none⟩ this
  have hd : decide ((m.at_ : Int) < 0) = false := by simp
  have hd2 : decide ((code.length : Int) ≤ (m.at_ : Int)) = false := by simp; omega
  have hnI : (m.at_ : Int) < (code.length : Int) := by omega
  have x0 := hcell 0 (by omega)
  have x1 := hcell 1 (by omega)
  have x2 := hcell 2 (by omega)
  have x3 := hcell 3 (by omega)
  have x4 := hcell 4 (by omega)
  have x5 := hcell 5 (by omega)
  have x6 := hcell 6 (by omega)
  have x7 := hcell 7 (by omega)
  have x8 := hcell 8 (by omega)
  have x9 := hcell 9 (by omega)
  simp [stCells] at x0 x1 x2 x3 x4 x5 x6 x7 x8 x9
  have HR := hid hr
  clear hr hcell
  go_enter Tryz.func82, Tryz.ntmps82
  go_wp2_with fail
  go_quiet (fail)
  go_wp2_with fail
  go_cut [5] (fun v5 wc => v5 = .pointer (some ⟨w.heap.size + 1, 0, none⟩) ∧ Cpy w wc b m vs vc nv (.slice (some ⟨gk, 0, none⟩) code.length ck) s)
  case first =>
    go_region
    all_goals go_wp2_with fail
    all_goals go_meet
    all_goals exact ⟨rfl, cpy_mk HR.out vs vc _ nv s _⟩
  case rest =>
    clear x0 x1 x2 x3 x4 x5 x6 x7 x8 x9 c15 c16
    obtain ⟨e5, hcp⟩ := hcut
    subst e5
    have ltc := hcp.row.lt
    have lts := hcp.st.lt
    have sc := hcp.bel.size
    have c15 := hcp.row.cell (i := 15) (by omega)
    have f15 := hcp.row.frozen 15
    have y4 := hcp.st.cell (i := 4) (by omega)
    have y5 := hcp.st.cell (i := 5) (by omega)
    have y6 := hcp.st.cell (i := 6) (by omega)
    have y7 := hcp.st.cell (i := 7) (by omega)
    have y8 := hcp.st.cell (i := 8) (by omega)
    simp [stCells] at y4 y5 y6 y7 y8
    have hbs : b ≠ w.heap.size + 1 := by omega
    have HCP := hid hcp
    have RM := (hcp.row.set 15 (.int .i64 s.next)).congr (fun j hj => mcell_next m s.next j hj)
    have SM := hcp.st.setOther (a := ⟨b, 15, none⟩) (by show w.heap.size + 1 ≠ b; omega) (.int .i64 s.next)
    have HRM := hid RM
    have HSM := hid SM
    clear hcp RM SM
    have hk3 : ((s.kind : Int) == 3) = false := by (have := HK.out; simp; omega)
    have hk4 : ((s.kind : Int) == 4) = false := by (have := HK.out; simp; omega)
    have hk5 : ((s.kind : Int) == 5) = false := by (have := HK.out; simp; omega)
    have hk1 : ((s.kind : Int) == 1) = false := by (have := HK.out; simp; omega)
    have hk2 : ((s.kind : Int) == 2) = false := by (have := HK.out; simp; omega)
    go_wp2_with (first
      | (go_at_call 107; refine (mvalue_any { m with at_ := s.next } b s.a _ HRM.out HXA.out).mono ?_; rintro e wa ⟨rfl, hba⟩; have HBA := hid hba; have za := hba.size; simp at za; have HRA := hid (HRM.out.of_block (hba.block b (by simp; omega))); have HSA := hid (HSM.out.of_block (hba.block _ (by simp; omega))); have q6 := HSA.out.cell (i := 6) (by omega); have q7 := HSA.out.cell (i := 7) (by omega); simp [stCells] at q6 q7; clear hba HRM HSM)
      | (go_at_call 107; refine (mvalue_any { m with at_ := s.next } b s.b _ HRA.out HXB.out).mono ?_; rintro e wb ⟨rfl, hbb⟩; have HBB := hid hbb; have zb := hbb.size; have HRB := hid (HRA.out.of_block (hbb.block b (by omega))); have HS2 := hid (HSA.out.of_block (hbb.block _ (by omega))); have s0 := HS2.out.cell (i := 0) (by omega); have s1 := HS2.out.cell (i := 1) (by omega); have s2 := HS2.out.cell (i := 2) (by omega); simp [stCells] at s0 s1 s2; clear hbb)
      | (go_at_call 109; refine (apply_any s.op (Mc.value { m with at_ := s.next } s.a) (Mc.value { m with at_ := s.next } s.b) _ HV.out.1 HV.out.2.1 HV.out.2.2.1).mono ?_; rintro e w0 ⟨rfl, hw0⟩; have hw1 := hw0.symm; subst hw1)
      | (go_at_call 81; refine (mput_any { m with at_ := s.next } b s.slot (Mc.apply s.op (Mc.value { m with at_ := s.next } s.a) (Mc.value { m with at_ := s.next } s.b)) _ HRB.out HV.out.2.2.2).mono ?_; rintro e w2 ⟨rfl, hw2⟩; have HW2 := hid hw2; subst hw2)
      | (go_at_call 106; refine (tell_any 0 0 _ (by omega) (by omega)).mono ?_; rintro e w0 ⟨rfl, hw0⟩; have hw1 := hw0.symm; subst hw1))
    go_ret
    exact ⟨rfl, (HRB.out.set s.slot _).congr (fun j hj => mcell_put { m with at_ := s.next } s.slot _ HV.out.2.2.2 j hj), Frm.setCell (p := ⟨b, s.slot, none⟩) (((Frm.setCell (p := ⟨b, 15, none⟩) (Frm.ofBelow (S := fun k => k = b) (base := 0) HCP.out.bel (Nat.zero_le _)) (Nat.zero_le _) rfl (.int .i64 s.next)).trans (Frm.ofBelow (S := fun k => k = b) (base := 0) HBA.out (Nat.zero_le _)) (fun _ _ e => e)).trans (Frm.ofBelow (S := fun k => k = b) (base := 0) HBB.out (Nat.zero_le _)) (fun _ _ e => e)) (Nat.zero_le _) rfl _⟩
end
section
variable (m : Mc.M) (b : Nat) (w : World) (vs vc : Value) (nv : Int)
set_option maxRecDepth 100000 in
set_option maxHeartbeats 2000000 in
theorem step_load (gk ck : Nat) (code : List Lk.St) (s : Lk.St) (hr : w.rowIs b 162 17 (mcell m)) (ht : m.trap = false) (hn : m.at_ < code.length)
    (hcell : ∀ k, k < 10 → w.cell? ⟨gk, m.at_ * 10 + k, none⟩ = (stCells s)[k]?) (hxa : s.a.named = true → s.a.val < 7) (hxb : s.b.named = true → s.b.val < 7) (g cp : Nat) (cs : List Nat) (hvc : vc = .slice (some ⟨g, 0, none⟩) cs.length cp) (hc : ∀ j, j < cs.length → w.cell? ⟨g, j, none⟩ = some (.int .i64 (cs.getD j 0))) (hl : cs.length ≤ 2) (hle : ∀ j, j < cs.length → cs.getD j 0 ≤ 4) (ha : s.arr < cs.length) (hgb : g ≠ b) (hs7 : s.slot < 7) (hk : s.kind = 1) (hv : Mc.value { m with at_ := s.next } s.a < 16) :
    Calls Tryz.prog 82 #[.pointer (some ⟨b, 0, none⟩), .agg #[vs, .int .i64 nv, vc, .slice (some ⟨gk, 0, none⟩) code.length ck]] w fun e w' => SPost w w' b e (32 + (Mc.value { m with at_ := s.next } s.a)) (Mc.access { m with at_ := s.next } cs s (Mc.value { m with at_ := s.next } s.a) (Mc.value { m with at_ := s.next } s.b)) := by
  subst hvc
  have HC := hid hc
  have HE := hid hle
  clear hc hle
  have HK := hid hk
  have HXA := hid hxa
  have HXB := hid hxb
  have HV := hid hv
  clear hk hxa hxb hv
  have c16 := hr.cell (i := 16) (by omega)
  rw [show mcell m 16 = .bool m.trap from rfl, ht] at c16
  clear ht
  have c15 := hr.cell (i := 15) (by omega)
  rw [show mcell m 15 = .int .i64 m.at_ from rfl] at c15
  have hlt := hr.lt
  have hglt : gk < w.heap.size := by
    have := hcell 0 (by omega)
    exact World.block_lt_of_cell? w ⟨gk, m.at_ * 10 + 0, none⟩ this
  have hd : decide ((m.at_ : Int) < 0) = false := by simp
  have hd2 : decide ((code.length : Int) ≤ (m.at_ : Int)) = false := by simp; omega
  have hnI : (m.at_ : Int) < (code.length : Int) := by omega
  have x0 := hcell 0 (by omega)
  have x1 := hcell 1 (by omega)
  have x2 := hcell 2 (by omega)
  have x3 := hcell 3 (by omega)
  have x4 := hcell 4 (by omega)
  have x5 := hcell 5 (by omega)
  have x6 := hcell 6 (by omega)
  have x7 := hcell 7 (by omega)
  have x8 := hcell 8 (by omega)
  have x9 := hcell 9 (by omega)
  simp [stCells] at x0 x1 x2 x3 x4 x5 x6 x7 x8 x9
  have HR := hid hr
  clear hr hcell
  go_enter Tryz.func82, Tryz.ntmps82
  go_wp2_with fail
  go_quiet (fail)
  go_wp2_with fail
  go_cut [5] (fun v5 wc => v5 = .pointer (some ⟨w.heap.size + 1, 0, none⟩) ∧ Cpy w wc b m vs (.slice (some ⟨g, 0, none⟩) cs.length cp) nv (.slice (some ⟨gk, 0, none⟩) code.length ck) s)
  case first =>
    go_region
    all_goals go_wp2_with fail
    all_goals go_meet
    all_goals exact ⟨rfl, cpy_mk HR.out vs _ _ nv s _⟩
  case rest =>
    clear x0 x1 x2 x3 x4 x5 x6 x7 x8 x9 c15 c16
    obtain ⟨e5, hcp⟩ := hcut
    subst e5
    have ltc := hcp.row.lt
    have lts := hcp.st.lt
    have sc := hcp.bel.size
    have c15 := hcp.row.cell (i := 15) (by omega)
    have f15 := hcp.row.frozen 15
    have y4 := hcp.st.cell (i := 4) (by omega)
    have y5 := hcp.st.cell (i := 5) (by omega)
    have y6 := hcp.st.cell (i := 6) (by omega)
    have y7 := hcp.st.cell (i := 7) (by omega)
    have y8 := hcp.st.cell (i := 8) (by omega)
    simp [stCells] at y4 y5 y6 y7 y8
    have hbs : b ≠ w.heap.size + 1 := by omega
    have HCP := hid hcp
    have RM := (hcp.row.set 15 (.int .i64 s.next)).congr (fun j hj => mcell_next m s.next j hj)
    have SM := hcp.st.setOther (a := ⟨b, 15, none⟩) (by show w.heap.size + 1 ≠ b; omega) (.int .i64 s.next)
    have HRM := hid RM
    have HSM := hid SM
    have PM := hcp.pr.setOther (a := ⟨b, 15, none⟩) (by show w.heap.size ≠ b; omega) (.int .i64 s.next)
    have HPM := hid PM
    clear hcp RM SM PM
    have HKK := hid (show s.kind = 1 ∨ s.kind = 2 from .inl HK.out)
    have hk3 : ((s.kind : Int) == 3) = false := by (have := HK.out; simp; omega)
    have hk4 : ((s.kind : Int) == 4) = false := by (have := HK.out; simp; omega)
    have hk5 : ((s.kind : Int) == 5) = false := by (have := HK.out; simp; omega)
    have hk1 : ((s.kind : Int) == 1) = true := by (have := HK.out; simp; omega)
    go_wp2_with (first
      | (go_at_call 107; refine (mvalue_any { m with at_ := s.next } b s.a _ HRM.out HXA.out).mono ?_; rintro e wa ⟨rfl, hba⟩; have HBA := hid hba; have za := hba.size; simp at za; have HRA := hid (HRM.out.of_block (hba.block b (by simp; omega))); have HSA := hid (HSM.out.of_block (hba.block _ (by simp; omega))); have q6 := HSA.out.cell (i := 6) (by omega); have q7 := HSA.out.cell (i := 7) (by omega); simp [stCells] at q6 q7; clear hba HRM HSM)
      | (go_at_call 107; refine (mvalue_any { m with at_ := s.next } b s.b _ HRA.out HXB.out).mono ?_; rintro e wb ⟨rfl, hbb⟩; have HBB := hid hbb; have zb := hbb.size; have HRB := hid (HRA.out.of_block (hbb.block b (by omega))); have HS2 := hid (HSA.out.of_block (hbb.block _ (by omega))); have s0 := HS2.out.cell (i := 0) (by omega); have s1 := HS2.out.cell (i := 1) (by omega); have s2 := HS2.out.cell (i := 2) (by omega); have s3 := HS2.out.cell (i := 3) (by omega); have s4 := HS2.out.cell (i := 4) (by omega); have s5 := HS2.out.cell (i := 5) (by omega); have s6 := HS2.out.cell (i := 6) (by omega); have s7 := HS2.out.cell (i := 7) (by omega); have s8 := HS2.out.cell (i := 8) (by omega); have s9 := HS2.out.cell (i := 9) (by omega); simp [stCells] at s0 s1 s2 s3 s4 s5 s6 s7 s8 s9; have HPB := hid ((HPM.out.of_block (HBA.out.block _ (by simp; omega))).of_block (hbb.block _ (by omega))); have p0 := HPB.out.cell (i := 0) (by omega); have p1 := HPB.out.cell (i := 1) (by omega); have p2 := HPB.out.cell (i := 2) (by omega); have p3 := HPB.out.cell (i := 3) (by omega); simp at p0 p1 p2 p3; have HCB := hid (fun j (hj : j < cs.length) => Frm.cell (((Frm.setCell (p := ⟨b, 15, none⟩) (Frm.ofBelow (S := fun k => k = b) (base := 0) HCP.out.bel (Nat.zero_le _)) (Nat.zero_le _) rfl (.int .i64 s.next)).trans (Frm.ofBelow (S := fun k => k = b) (base := 0) HBA.out (Nat.zero_le _)) (fun _ _ e => e)).trans (Frm.ofBelow (S := fun k => k = b) (base := 0) HBB.out (Nat.zero_le _)) (fun _ _ e => e)) (HC.out j hj) (fun e => hgb e)); clear hbb)
      | (go_at_call 108; refine (access_any { m with at_ := s.next } b _ vs _ nv g cp cs s (Mc.value { m with at_ := s.next } s.a) (Mc.value { m with at_ := s.next } s.b) HRB.out HCB.out hl HE.out ha HKK.out hs7).mono ?_; rintro e w3 ⟨rfl, hr3, hfr3⟩; have HR3 := hid hr3; have HF3 := hid hfr3; clear hr3 hfr3)
      | (go_at_call 106; refine (tell_any 2 (Mc.value { m with at_ := s.next } s.a) _ (by omega) HV.out).mono ?_; rintro e w0 ⟨rfl, hw0⟩; have hw1 := hw0.symm; subst hw1))
    go_ret
    exact ⟨congrArg (fun z => Ending.returned (Value.int .i64 z)) (by omega), HR3.out, (((Frm.setCell (p := ⟨b, 15, none⟩) (Frm.ofBelow (S := fun k => k = b) (base := 0) HCP.out.bel (Nat.zero_le _)) (Nat.zero_le _) rfl (.int .i64 s.next)).trans (Frm.ofBelow (S := fun k => k = b) (base := 0) HBA.out (Nat.zero_le _)) (fun _ _ e => e)).trans (Frm.ofBelow (S := fun k => k = b) (base := 0) HBB.out (Nat.zero_le _)) (fun _ _ e => e)).trans HF3.out (fun _ _ e => e)⟩
set_option maxRecDepth 100000 in
set_option maxHeartbeats 2000000 in
theorem step_store (gk ck : Nat) (code : List Lk.St) (s : Lk.St) (hr : w.rowIs b 162 17 (mcell m)) (ht : m.trap = false) (hn : m.at_ < code.length)
    (hcell : ∀ k, k < 10 → w.cell? ⟨gk, m.at_ * 10 + k, none⟩ = (stCells s)[k]?) (hxa : s.a.named = true → s.a.val < 7) (hxb : s.b.named = true → s.b.val < 7) (g cp : Nat) (cs : List Nat) (hvc : vc = .slice (some ⟨g, 0, none⟩) cs.length cp) (hc : ∀ j, j < cs.length → w.cell? ⟨g, j, none⟩ = some (.int .i64 (cs.getD j 0))) (hl : cs.length ≤ 2) (hle : ∀ j, j < cs.length → cs.getD j 0 ≤ 4) (ha : s.arr < cs.length) (hgb : g ≠ b) (hs7 : s.slot < 7) (hk : s.kind = 2) (hv : Mc.value { m with at_ := s.next } s.a < 16) :
    Calls Tryz.prog 82 #[.pointer (some ⟨b, 0, none⟩), .agg #[vs, .int .i64 nv, vc, .slice (some ⟨gk, 0, none⟩) code.length ck]] w fun e w' => SPost w w' b e (32 + (Mc.value { m with at_ := s.next } s.a)) (Mc.access { m with at_ := s.next } cs s (Mc.value { m with at_ := s.next } s.a) (Mc.value { m with at_ := s.next } s.b)) := by
  subst hvc
  have HC := hid hc
  have HE := hid hle
  clear hc hle
  have HK := hid hk
  have HXA := hid hxa
  have HXB := hid hxb
  have HV := hid hv
  clear hk hxa hxb hv
  have c16 := hr.cell (i := 16) (by omega)
  rw [show mcell m 16 = .bool m.trap from rfl, ht] at c16
  clear ht
  have c15 := hr.cell (i := 15) (by omega)
  rw [show mcell m 15 = .int .i64 m.at_ from rfl] at c15
  have hlt := hr.lt
  have hglt : gk < w.heap.size := by
    have := hcell 0 (by omega)
    exact World.block_lt_of_cell? w ⟨gk, m.at_ * 10 + 0, none⟩ this
  have hd : decide ((m.at_ : Int) < 0) = false := by simp
  have hd2 : decide ((code.length : Int) ≤ (m.at_ : Int)) = false := by simp; omega
  have hnI : (m.at_ : Int) < (code.length : Int) := by omega
  have x0 := hcell 0 (by omega)
  have x1 := hcell 1 (by omega)
  have x2 := hcell 2 (by omega)
  have x3 := hcell 3 (by omega)
  have x4 := hcell 4 (by omega)
  have x5 := hcell 5 (by omega)
  have x6 := hcell 6 (by omega)
  have x7 := hcell 7 (by omega)
  have x8 := hcell 8 (by omega)
  have x9 := hcell 9 (by omega)
  simp [stCells] at x0 x1 x2 x3 x4 x5 x6 x7 x8 x9
  have HR := hid hr
  clear hr hcell
  go_enter Tryz.func82, Tryz.ntmps82
  go_wp2_with fail
  go_quiet (fail)
  go_wp2_with fail
  go_cut [5] (fun v5 wc => v5 = .pointer (some ⟨w.heap.size + 1, 0, none⟩) ∧ Cpy w wc b m vs (.slice (some ⟨g, 0, none⟩) cs.length cp) nv (.slice (some ⟨gk, 0, none⟩) code.length ck) s)
  case first =>
    go_region
    all_goals go_wp2_with fail
    all_goals go_meet
    all_goals exact ⟨rfl, cpy_mk HR.out vs _ _ nv s _⟩
  case rest =>
    clear x0 x1 x2 x3 x4 x5 x6 x7 x8 x9 c15 c16
    obtain ⟨e5, hcp⟩ := hcut
    subst e5
    have ltc := hcp.row.lt
    have lts := hcp.st.lt
    have sc := hcp.bel.size
    have c15 := hcp.row.cell (i := 15) (by omega)
    have f15 := hcp.row.frozen 15
    have y4 := hcp.st.cell (i := 4) (by omega)
    have y5 := hcp.st.cell (i := 5) (by omega)
    have y6 := hcp.st.cell (i := 6) (by omega)
    have y7 := hcp.st.cell (i := 7) (by omega)
    have y8 := hcp.st.cell (i := 8) (by omega)
    simp [stCells] at y4 y5 y6 y7 y8
    have hbs : b ≠ w.heap.size + 1 := by omega
    have HCP := hid hcp
    have RM := (hcp.row.set 15 (.int .i64 s.next)).congr (fun j hj => mcell_next m s.next j hj)
    have SM := hcp.st.setOther (a := ⟨b, 15, none⟩) (by show w.heap.size + 1 ≠ b; omega) (.int .i64 s.next)
    have HRM := hid RM
    have HSM := hid SM
    have PM := hcp.pr.setOther (a := ⟨b, 15, none⟩) (by show w.heap.size ≠ b; omega) (.int .i64 s.next)
    have HPM := hid PM
    clear hcp RM SM PM
    have HKK := hid (show s.kind = 1 ∨ s.kind = 2 from .inr HK.out)
    have hk3 : ((s.kind : Int) == 3) = false := by (have := HK.out; simp; omega)
    have hk4 : ((s.kind : Int) == 4) = false := by (have := HK.out; simp; omega)
    have hk5 : ((s.kind : Int) == 5) = false := by (have := HK.out; simp; omega)
    have hk1 : ((s.kind : Int) == 1) = false := by (have := HK.out; simp; omega)
    have hk2 : ((s.kind : Int) == 2) = true := by (have := HK.out; simp; omega)
    go_wp2_with (first
      | (go_at_call 107; refine (mvalue_any { m with at_ := s.next } b s.a _ HRM.out HXA.out).mono ?_; rintro e wa ⟨rfl, hba⟩; have HBA := hid hba; have za := hba.size; simp at za; have HRA := hid (HRM.out.of_block (hba.block b (by simp; omega))); have HSA := hid (HSM.out.of_block (hba.block _ (by simp; omega))); have q6 := HSA.out.cell (i := 6) (by omega); have q7 := HSA.out.cell (i := 7) (by omega); simp [stCells] at q6 q7; clear hba HRM HSM)
      | (go_at_call 107; refine (mvalue_any { m with at_ := s.next } b s.b _ HRA.out HXB.out).mono ?_; rintro e wb ⟨rfl, hbb⟩; have HBB := hid hbb; have zb := hbb.size; have HRB := hid (HRA.out.of_block (hbb.block b (by omega))); have HS2 := hid (HSA.out.of_block (hbb.block _ (by omega))); have s0 := HS2.out.cell (i := 0) (by omega); have s1 := HS2.out.cell (i := 1) (by omega); have s2 := HS2.out.cell (i := 2) (by omega); have s3 := HS2.out.cell (i := 3) (by omega); have s4 := HS2.out.cell (i := 4) (by omega); have s5 := HS2.out.cell (i := 5) (by omega); have s6 := HS2.out.cell (i := 6) (by omega); have s7 := HS2.out.cell (i := 7) (by omega); have s8 := HS2.out.cell (i := 8) (by omega); have s9 := HS2.out.cell (i := 9) (by omega); simp [stCells] at s0 s1 s2 s3 s4 s5 s6 s7 s8 s9; have HPB := hid ((HPM.out.of_block (HBA.out.block _ (by simp; omega))).of_block (hbb.block _ (by omega))); have p0 := HPB.out.cell (i := 0) (by omega); have p1 := HPB.out.cell (i := 1) (by omega); have p2 := HPB.out.cell (i := 2) (by omega); have p3 := HPB.out.cell (i := 3) (by omega); simp at p0 p1 p2 p3; have HCB := hid (fun j (hj : j < cs.length) => Frm.cell (((Frm.setCell (p := ⟨b, 15, none⟩) (Frm.ofBelow (S := fun k => k = b) (base := 0) HCP.out.bel (Nat.zero_le _)) (Nat.zero_le _) rfl (.int .i64 s.next)).trans (Frm.ofBelow (S := fun k => k = b) (base := 0) HBA.out (Nat.zero_le _)) (fun _ _ e => e)).trans (Frm.ofBelow (S := fun k => k = b) (base := 0) HBB.out (Nat.zero_le _)) (fun _ _ e => e)) (HC.out j hj) (fun e => hgb e)); clear hbb)
      | (go_at_call 108; refine (access_any { m with at_ := s.next } b _ vs _ nv g cp cs s (Mc.value { m with at_ := s.next } s.a) (Mc.value { m with at_ := s.next } s.b) HRB.out HCB.out hl HE.out ha HKK.out hs7).mono ?_; rintro e w3 ⟨rfl, hr3, hfr3⟩; have HR3 := hid hr3; have HF3 := hid hfr3; clear hr3 hfr3)
      | (go_at_call 106; refine (tell_any 2 (Mc.value { m with at_ := s.next } s.a) _ (by omega) HV.out).mono ?_; rintro e w0 ⟨rfl, hw0⟩; have hw1 := hw0.symm; subst hw1))
    go_ret
    exact ⟨congrArg (fun z => Ending.returned (Value.int .i64 z)) (by omega), HR3.out, (((Frm.setCell (p := ⟨b, 15, none⟩) (Frm.ofBelow (S := fun k => k = b) (base := 0) HCP.out.bel (Nat.zero_le _)) (Nat.zero_le _) rfl (.int .i64 s.next)).trans (Frm.ofBelow (S := fun k => k = b) (base := 0) HBA.out (Nat.zero_le _)) (fun _ _ e => e)).trans (Frm.ofBelow (S := fun k => k = b) (base := 0) HBB.out (Nat.zero_le _)) (fun _ _ e => e)).trans HF3.out (fun _ _ e => e)⟩
end
end Go.Proofs.YtgddmpmcnjlcjaaGreatDoor
namespace Go.Proofs.YtgddmpmcnjlcjaaGreatDoor.Lk
set_option linter.unusedVariables false
def AtOk (x : At) : Prop := (x.named = true → x.val < 7) ∧ (x.named = false → x.val < 16)
structure StOk (na : Nat) (s : St) : Prop where
  kind : s.kind ≤ 6
  op : s.op ≤ 10
  slot : s.slot < 7
  arr : s.kind = 1 ∨ s.kind = 2 → s.arr < na
  a : AtOk s.a
  b : AtOk s.b
structure RWf (r : RS) : Prop where
  sec : r.secret.length ≤ 3
  var : r.vars ≤ 4
  cel : r.cells.length ≤ 2
  cle : ∀ j, j < r.cells.length → r.cells.getD j 0 ≤ 4
  l1 : ∀ i, (r.letters i).1 = 1 → (r.letters i).2 < r.secret.length + r.vars
  l2 : ∀ i, (r.letters i).1 = 2 → (r.letters i).2 < r.cells.length
  bod : ∀ s, s ∈ r.body → StOk r.cells.length s
theorem atOk_nil : AtOk {} := ⟨fun h => (by cases h), fun _ => by decide⟩
theorem stOk_nil (na : Nat) : StOk na {} := ⟨by decide, by decide, by decide, fun h => (by rcases h with h | h <;> cases h), atOk_nil, atOk_nil⟩
theorem stOk_mark (na n : Nat) : StOk na { kind := 6, next := n } := ⟨Nat.le_refl 6, Nat.zero_le 10, (by show 0 < 7; decide), fun h => (by rcases h with h | h <;> cases h), atOk_nil, atOk_nil⟩
theorem rwf_nil : RWf {} := ⟨by decide, by decide, by decide, fun j h => (by cases h), fun i h => (by cases h), fun i h => (by cases h), fun s h => (by cases h)⟩
theorem num_lt {w : Wd} {n : Nat} (h : num? w = some n) : n < 16 := by
  unfold num? at h
  split at h
  · split at h
    · cases h; omega
    · cases h
  · split at h
    · cases h; omega
    · cases h
  · cases h
theorem oper_le {w : Wd} {n : Nat} (h : oper? w = some n) : n ≤ 10 := by
  unfold oper? at h
  repeat' split at h
  all_goals first | (cases h; done) | (injection h with h; omega)
variable {r r' : RS} {ws : List Wd}
theorem find_slot (h : RWf r) {w : Wd} (e : (find r w).1 = 1) : (find r w).2 < 7 := by
  unfold find at e ⊢
  split at e
  · rename_i hn
    rw [if_pos hn]
    have := h.l1 _ e
    have := h.sec
    have := h.var
    omega
  · cases e
theorem find_arr (h : RWf r) {w : Wd} (e : (find r w).1 = 2) : (find r w).2 < r.cells.length := by
  unfold find at e ⊢
  split at e
  · rename_i hn
    rw [if_pos hn]
    exact h.l2 _ e
  · cases e
theorem atom_ok (h : RWf r) {w : Wd} {x : At} (e : atom? r w = some x) : AtOk x := by
  unfold atom? at e
  split at e
  · rename_i n hn
    cases e
    exact ⟨fun h => (by cases h), fun _ => num_lt hn⟩
  · split at e
    · rename_i hf
      cases e
      exact ⟨fun _ => find_slot h hf, fun h => (by cases h)⟩
    · cases e
theorem rwf_add {s : St} (h : RWf r) (hs : StOk r.cells.length s) (e : add r s = some r') : RWf r' ∧ r'.cells = r.cells := by
  unfold add at e
  split at e
  · cases e
    refine ⟨⟨h.sec, h.var, h.cel, h.cle, h.l1, h.l2, ?_⟩, rfl⟩
    intro x hx
    simp only [List.mem_append, List.mem_singleton] at hx
    rcases hx with hx | rfl
    · exact h.bod x hx
    · exact ⟨hs.kind, hs.op, hs.slot, hs.arr, hs.a, hs.b⟩
  · cases e
theorem bodyAt_ok (h : RWf r) (i : Nat) : StOk r.cells.length (bodyAt r.body i) := by
  unfold bodyAt
  rw [List.getD_eq_getElem?_getD]
  by_cases hi : i < r.body.length
  · rw [List.getElem?_eq_getElem hi]
    exact h.bod _ (List.getElem_mem hi)
  · rw [List.getElem?_eq_none (by omega)]
    exact stOk_nil _
theorem rwf_input {b : Bool} (h : RWf r) (e : takeInput r ws b = some r') : RWf r' := by
  unfold takeInput at e
  split at e
  · rename_i hc
    split at e
    · rename_i r2 hd
      cases e
      unfold declare at hd
      split at hd
      · rename_i hq
        cases hd
        have hb : r.body = [] := List.length_eq_zero_iff.1 hq.1
        refine ⟨by simp; omega, h.var, h.cel, h.cle, ?_, ?_, ?_⟩
        · intro i hi
          simp only [upd] at hi ⊢
          simp only [List.length_append, List.length_singleton]
          split
          · simp; omega
          · rename_i hne
            rw [if_neg hne] at hi
            have := h.l1 i hi
            omega
        · intro i hi
          simp only [upd] at hi ⊢
          split
          · rename_i he
            rw [if_pos he] at hi
            cases hi
          · rename_i hne
            rw [if_neg hne] at hi
            exact h.l2 i hi
        · intro s hs
          simp [hb] at hs
      · cases hd
    · cases e
  · cases e
theorem rwf_var (h : RWf r) (e : takeVar r ws = some r') : RWf r' := by
  unfold takeVar at e
  split at e
  · rename_i hc
    split at e
    · rename_i r2 hd
      cases e
      unfold declare at hd
      split at hd
      · rename_i hq
        cases hd
        have hb : r.body = [] := List.length_eq_zero_iff.1 hq.1
        refine ⟨h.sec, by simp; omega, h.cel, h.cle, ?_, ?_, ?_⟩
        · intro i hi
          simp only [upd] at hi ⊢
          split
          · simp
          · rename_i hne
            rw [if_neg hne] at hi
            have := h.l1 i hi
            omega
        · intro i hi
          simp only [upd] at hi ⊢
          split
          · rename_i he
            rw [if_pos he] at hi
            cases hi
          · rename_i hne
            rw [if_neg hne] at hi
            exact h.l2 i hi
        · intro s hs
          simp [hb] at hs
      · cases hd
    · cases e
  · cases e
theorem rwf_array (h : RWf r) (e : takeArray r ws = some r') : RWf r' := by
  unfold takeArray at e
  split at e
  · rename_i hc
    split at e
    · rename_i n hn
      split at e
      · rename_i hle
        split at e
        · rename_i r2 hd
          cases e
          unfold declare at hd
          split at hd
          · rename_i hq
            cases hd
            have hb : r.body = [] := List.length_eq_zero_iff.1 hq.1
            refine ⟨h.sec, h.var, by simp; omega, ?_, ?_, ?_, ?_⟩
            · intro j hj
              simp only [List.length_append, List.length_singleton] at hj
              simp only [List.getD_eq_getElem?_getD]
              by_cases hjl : j < r.cells.length
              · rw [List.getElem?_append_left hjl, ← List.getD_eq_getElem?_getD]
                exact h.cle j hjl
              · have : j = r.cells.length := by omega
                subst this
                simp; omega
            · intro i hi
              simp only [upd] at hi ⊢
              split
              · rename_i he
                rw [if_pos he] at hi
                cases hi
              · rename_i hne
                rw [if_neg hne] at hi
                exact h.l1 i hi
            · intro i hi
              simp only [upd] at hi ⊢
              simp only [List.length_append, List.length_singleton]
              split
              · simp
              · rename_i hne
                rw [if_neg hne] at hi
                have := h.l2 i hi
                omega
            · intro s hs
              simp [hb] at hs
          · cases hd
        · cases e
      · cases e
    · cases e
  · cases e
theorem rwf_load (h : RWf r) (e : takeLoad r ws = some r') : RWf r' := by
  unfold takeLoad at e
  split at e
  · rename_i hc
    split at e
    · rename_i x hx
      exact (rwf_add h ⟨(by simp), (by simp), find_slot h hc.2.1, fun _ => find_arr h hc.2.2, atom_ok h hx, atOk_nil⟩ e).1
    · cases e
  · cases e
theorem rwf_store (h : RWf r) (e : takeStore r ws = some r') : RWf r' := by
  unfold takeStore at e
  split at e
  · rename_i hc
    split at e
    · rename_i x y hx hy
      exact (rwf_add h ⟨(by simp), (by simp), (by simp), fun _ => find_arr h hc.2, atom_ok h hx, atom_ok h hy⟩ e).1
    · cases e
  · cases e
theorem rwf_out (h : RWf r) (e : takeOut r ws = some r') : RWf r' := by
  unfold takeOut at e
  split at e
  · split at e
    · rename_i x hx
      exact (rwf_add h ⟨(by simp), (by simp), (by simp), fun h => (by rcases h with h | h <;> cases h), atom_ok h hx, atOk_nil⟩ e).1
    · cases e
  · cases e
theorem rwf_assign (h : RWf r) (e : takeAssign r ws = some r') : RWf r' := by
  unfold takeAssign at e
  split at e
  · rename_i hc
    split at e
    · rename_i x hx
      split at e
      · exact (rwf_add h ⟨(by simp), (by simp), find_slot h hc.2.2, fun h => (by rcases h with h | h <;> cases h), atom_ok h hx, atOk_nil⟩ e).1
      · split at e
        · rename_i o y ho hy
          exact (rwf_add h ⟨(by simp), oper_le ho, find_slot h hc.2.2, fun h => (by rcases h with h | h <;> cases h), atom_ok h hx, atom_ok h hy⟩ e).1
        · cases e
    · cases e
  · cases e
theorem rwf_branch {k : Nat} (hk : k = 4 ∨ k = 5) (h : RWf r) (e : takeBranch r ws k = some r') : RWf r' := by
  unfold takeBranch at e
  split at e
  · split at e
    · rename_i x hx
      split at e
      · rename_i r2 h2
        cases e
        have q := (rwf_add h ⟨by show k ≤ 6; omega, (by simp), (by simp), fun h => by have h' : k = 1 ∨ k = 2 := h; omega, atom_ok h hx, atOk_nil⟩ h2).1
        exact ⟨q.sec, q.var, q.cel, q.cle, q.l1, q.l2, q.bod⟩
      · cases e
    · cases e
  · cases e
theorem rwf_else (h : RWf r) (e : takeElse r ws = some r') : RWf r' := by
  unfold takeElse at e
  split at e
  · cases e
    refine ⟨h.sec, h.var, h.cel, h.cle, h.l1, h.l2, ?_⟩
    intro x hx
    simp only [List.mem_append, List.mem_singleton] at hx
    rcases hx with hx | rfl
    · rcases List.mem_or_eq_of_mem_set hx with hx | rfl
      · exact h.bod x hx
      · have q := bodyAt_ok h (r.opn (r.depth - 1)).1
        exact ⟨q.kind, q.op, q.slot, q.arr, q.a, q.b⟩
    · exact stOk_mark _ _
  · cases e
theorem rwf_end (h : RWf r) (e : takeEnd r ws = some r') : RWf r' := by
  unfold takeEnd at e
  split at e
  · cases e
    refine ⟨h.sec, h.var, h.cel, h.cle, h.l1, h.l2, ?_⟩
    intro x hx
    simp only [List.mem_append, List.mem_singleton] at hx
    rcases hx with hx | rfl
    · split at hx
      · rcases List.mem_or_eq_of_mem_set hx with hx | rfl
        · exact h.bod x hx
        · have q := bodyAt_ok h (r.opn (r.depth - 1)).1
          exact ⟨q.kind, q.op, q.slot, q.arr, q.a, q.b⟩
      · rcases List.mem_or_eq_of_mem_set hx with hx | rfl
        · exact h.bod x hx
        · have q := bodyAt_ok h (r.opn (r.depth - 1)).2
          exact ⟨q.kind, q.op, q.slot, q.arr, q.a, q.b⟩
    · exact stOk_mark _ _
  · cases e
theorem ite_some {c : Prop} [Decidable c] {a b : Option RS} (e : (if c then a else b) = some r') : a = some r' ∨ b = some r' := by
  by_cases h : c
  · rw [if_pos h] at e; exact .inl e
  · rw [if_neg h] at e; exact .inr e
theorem rwf_take (h : RWf r) (e : take r ws = some r') : RWf r' := by
  unfold take at e
  rcases ite_some e with e | e
  · cases e
  rcases ite_some e with e | e
  · exact rwf_input h e
  rcases ite_some e with e | e
  · exact rwf_input h e
  rcases ite_some e with e | e
  · exact rwf_var h e
  rcases ite_some e with e | e
  · exact rwf_array h e
  rcases ite_some e with e | e
  · exact rwf_load h e
  rcases ite_some e with e | e
  · exact rwf_store h e
  rcases ite_some e with e | e
  · exact rwf_out h e
  rcases ite_some e with e | e
  · exact rwf_branch (.inl rfl) h e
  rcases ite_some e with e | e
  · exact rwf_branch (.inr rfl) h e
  rcases ite_some e with e | e
  · exact rwf_else h e
  rcases ite_some e with e | e
  · exact rwf_end h e
  · exact rwf_assign h e
theorem rwf_lines (h : RWf r) (n : Nat) (ls : List Wd) : RWf (lines r n ls).1 := by
  induction ls generalizing r n with
  | nil => exact h
  | cons l ls ih =>
    cases ls with
    | nil =>
      unfold lines
      split
      · exact h
      · exact h
    | cons m ls =>
      unfold lines
      split
      · rename_i r2 e
        exact ih (rwf_take h e) _
      · exact h
theorem rwf_read (s : Wd) : RWf (read s).1 := by
  unfold read
  split
  · exact rwf_nil
  · exact rwf_lines rwf_nil _ _
theorem link_ok (h : RWf r) {s : St} (hs : s ∈ link r.body) : StOk r.cells.length s ∧ s.kind ≤ 5 := by
  unfold link at hs
  simp only [List.mem_map, List.mem_filter] at hs
  obtain ⟨x, ⟨hx, hk⟩, rfl⟩ := hs
  have hk6 : x.kind ≠ 6 := by simpa using hk
  have q := h.bod x hx
  have hk5 : x.kind ≤ 5 := by have := q.kind; omega
  unfold linkOne
  split
  · exact ⟨⟨q.kind, q.op, q.slot, q.arr, q.a, q.b⟩, hk5⟩
  · exact ⟨⟨q.kind, q.op, q.slot, q.arr, q.a, q.b⟩, hk5⟩
end Go.Proofs.YtgddmpmcnjlcjaaGreatDoor.Lk
