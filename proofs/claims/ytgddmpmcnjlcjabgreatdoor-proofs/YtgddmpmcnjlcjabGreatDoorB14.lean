import Derived.Test.YtgddmpmcnjlcjabGreatDoorB13
namespace Go.Proofs.YtgddmpmcnjlcjabGreatDoor
open Go.RowKit
set_option linter.unusedVariables false
theorem access_any (m : Mc.M) (b : Nat) (w : World) (vs vk : Value) (nv : Int) (g cp : Nat) (cs : List Nat) (s : Lk.St) (i v : Nat) (hr : w.rowIs b 169 17 (mcell m)) (hc : ∀ j, j < cs.length → w.cell? ⟨g, j, none⟩ = some (.int .i64 (cs.getD j 0))) (hl : cs.length ≤ 2) (hle : ∀ j, j < cs.length → cs.getD j 0 ≤ 4) (ha : s.arr < cs.length) (hk : s.kind = 1 ∨ s.kind = 2) (hs : s.slot < 7) :
    Calls Tryz.prog 105 #[.pointer (some ⟨b, 0, none⟩), .agg #[vs, .int .i64 nv, .slice (some ⟨g, 0, none⟩) cs.length cp, vk], stAgg s, .int .i64 i, .int .i64 v] w fun e w' => MPost w w' b e (Mc.access m cs s i v) := by
  unfold Mc.access
  cases hh : Mc.has cs s.arr i with
  | false => rw [if_neg (by simp)]; exact access_trap m b w vs vk nv g cp cs s i v hr hc hl hle ha hh
  | true =>
    rw [if_pos rfl]
    rcases hk with hk | hk
    · rw [if_neg (by omega)]; exact access_load m b w vs vk nv g cp cs s i v hr hc hl hle ha hh hk hs
    · rw [if_pos hk]; exact access_store m b w vs vk nv g cp cs s i v hr hc hl hle ha hh hk
section
variable (m : Mc.M) (b : Nat) (w : World) (vs vc : Value) (nv : Int)
set_option maxRecDepth 100000 in
set_option maxHeartbeats 2000000 in
theorem step_assign (gk ck : Nat) (code : List Lk.St) (s : Lk.St) (hr : w.rowIs b 169 17 (mcell m)) (ht : m.trap = false) (hn : m.at_ < code.length)
    (hcell : ∀ k, k < 10 → w.cell? ⟨gk, m.at_ * 10 + k, none⟩ = (stCells s)[k]?) (hxa : s.a.named = true → s.a.val < 7) (hxb : s.b.named = true → s.b.val < 7) (hk : s.kind = 0) (hv : s.op ≤ 10 ∧ Mc.value { m with at_ := s.next } s.a < 16 ∧ Mc.value { m with at_ := s.next } s.b < 16 ∧ s.slot < 7) :
    Calls Tryz.prog 84 #[.pointer (some ⟨b, 0, none⟩), .agg #[vs, .int .i64 nv, vc, .slice (some ⟨gk, 0, none⟩) code.length ck]] w fun e w' => SPost w w' b e 0 (Mc.put { m with at_ := s.next } s.slot (Mc.apply s.op (Mc.value { m with at_ := s.next } s.a) (Mc.value { m with at_ := s.next } s.b))) := by
  have HK := hid hk
  have HXA := hid hxa
  have HXB := hid hxb
  have HV := hid hv
  clear hk hxa hxb hv
  have c16 := hr.cell (i := 16) (by omega)
  rw [show mcell m 16 = .bool m.trap from rfl, ht] at c16
  clear ht
  have c15 := hr.cell (i := 15) (by omega)
  rw [show mcell m 15 = .int .i64 m.at_ from rfl] at c15
  have hlt := hr.lt
  have hglt : gk < w.heap.size := by
    have := hcell 0 (by omega)
    exact World.block_lt_of_cell? w ⟨gk, m.at_ * 10 + 0, none⟩ this
  have hd : decide ((m.at_ : Int) < 0) = false := by simp
  have hd2 : decide ((code.length : Int) ≤ (m.at_ : Int)) = false := by simp; omega
  have hnI : (m.at_ : Int) < (code.length : Int) := by omega
  have x0 := hcell 0 (by omega)
  have x1 := hcell 1 (by omega)
  have x2 := hcell 2 (by omega)
  have x3 := hcell 3 (by omega)
  have x4 := hcell 4 (by omega)
  have x5 := hcell 5 (by omega)
  have x6 := hcell 6 (by omega)
  have x7 := hcell 7 (by omega)
  have x8 := hcell 8 (by omega)
  have x9 := hcell 9 (by omega)
  simp [stCells] at x0 x1 x2 x3 x4 x5 x6 x7 x8 x9
  have HR := hid hr
  clear hr hcell
  go_enter Tryz.func84, Tryz.ntmps84
  go_wp2_with fail
  go_quiet (fail)
  go_wp2_with fail
  go_cut [5] (fun v5 wc => v5 = .pointer (some ⟨w.heap.size + 1, 0, none⟩) ∧ Cpy w wc b m vs vc nv (.slice (some ⟨gk, 0, none⟩) code.length ck) s)
  case first =>
    go_region
    all_goals go_wp2_with fail
    all_goals go_meet
    all_goals exact ⟨rfl, cpy_mk HR.out vs vc _ nv s _⟩
  case rest =>
    clear x0 x1 x2 x3 x4 x5 x6 x7 x8 x9 c15 c16
    obtain ⟨e5, hcp⟩ := hcut
    subst e5
    have ltc := hcp.row.lt
    have lts := hcp.st.lt
    have sc := hcp.bel.size
    have c15 := hcp.row.cell (i := 15) (by omega)
    have f15 := hcp.row.frozen 15
    have y4 := hcp.st.cell (i := 4) (by omega)
    have y5 := hcp.st.cell (i := 5) (by omega)
    have y6 := hcp.st.cell (i := 6) (by omega)
    have y7 := hcp.st.cell (i := 7) (by omega)
    have y8 := hcp.st.cell (i := 8) (by omega)
    simp [stCells] at y4 y5 y6 y7 y8
    have hbs : b ≠ w.heap.size + 1 := by omega
    have HCP := hid hcp
    have RM := (hcp.row.set 15 (.int .i64 s.next)).congr (fun j hj => mcell_next m s.next j hj)
    have SM := hcp.st.setOther (a := ⟨b, 15, none⟩) (by show w.heap.size + 1 ≠ b; omega) (.int .i64 s.next)
    have HRM := hid RM
    have HSM := hid SM
    clear hcp RM SM
    have hk3 : ((s.kind : Int) == 3) = false := by (have := HK.out; simp; omega)
    have hk4 : ((s.kind : Int) == 4) = false := by (have := HK.out; simp; omega)
    have hk5 : ((s.kind : Int) == 5) = false := by (have := HK.out; simp; omega)
    have hk1 : ((s.kind : Int) == 1) = false := by (have := HK.out; simp; omega)
    have hk2 : ((s.kind : Int) == 2) = false := by (have := HK.out; simp; omega)
    go_wp2_with (first
      | (go_at_call 104; refine (mvalue_any { m with at_ := s.next } b s.a _ HRM.out HXA.out).mono ?_; rintro e wa ⟨rfl, hba⟩; have HBA := hid hba; have za := hba.size; simp at za; have HRA := hid (HRM.out.of_block (hba.block b (by simp; omega))); have HSA := hid (HSM.out.of_block (hba.block _ (by simp; omega))); have q6 := HSA.out.cell (i := 6) (by omega); have q7 := HSA.out.cell (i := 7) (by omega); simp [stCells] at q6 q7; clear hba HRM HSM)
      | (go_at_call 104; refine (mvalue_any { m with at_ := s.next } b s.b _ HRA.out HXB.out).mono ?_; rintro e wb ⟨rfl, hbb⟩; have HBB := hid hbb; have zb := hbb.size; have HRB := hid (HRA.out.of_block (hbb.block b (by omega))); have HS2 := hid (HSA.out.of_block (hbb.block _ (by omega))); have s0 := HS2.out.cell (i := 0) (by omega); have s1 := HS2.out.cell (i := 1) (by omega); have s2 := HS2.out.cell (i := 2) (by omega); simp [stCells] at s0 s1 s2; clear hbb)
      | (go_at_call 106; refine (apply_any s.op (Mc.value { m with at_ := s.next } s.a) (Mc.value { m with at_ := s.next } s.b) _ HV.out.1 HV.out.2.1 HV.out.2.2.1).mono ?_; rintro e w0 ⟨rfl, hw0⟩; have hw1 := hw0.symm; subst hw1)
      | (go_at_call 83; refine (mput_any { m with at_ := s.next } b s.slot (Mc.apply s.op (Mc.value { m with at_ := s.next } s.a) (Mc.value { m with at_ := s.next } s.b)) _ HRB.out HV.out.2.2.2).mono ?_; rintro e w2 ⟨rfl, hw2⟩; have HW2 := hid hw2; subst hw2)
      | (go_at_call 103; refine (tell_any 0 0 _ (by omega) (by omega)).mono ?_; rintro e w0 ⟨rfl, hw0⟩; have hw1 := hw0.symm; subst hw1))
    go_ret
    exact ⟨rfl, (HRB.out.set s.slot _).congr (fun j hj => mcell_put { m with at_ := s.next } s.slot _ HV.out.2.2.2 j hj), Frm.setCell (p := ⟨b, s.slot, none⟩) (((Frm.setCell (p := ⟨b, 15, none⟩) (Frm.ofBelow (S := fun k => k = b) (base := 0) HCP.out.bel (Nat.zero_le _)) (Nat.zero_le _) rfl (.int .i64 s.next)).trans (Frm.ofBelow (S := fun k => k = b) (base := 0) HBA.out (Nat.zero_le _)) (fun _ _ e => e)).trans (Frm.ofBelow (S := fun k => k = b) (base := 0) HBB.out (Nat.zero_le _)) (fun _ _ e => e)) (Nat.zero_le _) rfl _⟩
end
section
variable (m : Mc.M) (b : Nat) (w : World) (vs vc : Value) (nv : Int)
set_option maxRecDepth 100000 in
set_option maxHeartbeats 2000000 in
theorem step_load (gk ck : Nat) (code : List Lk.St) (s : Lk.St) (hr : w.rowIs b 169 17 (mcell m)) (ht : m.trap = false) (hn : m.at_ < code.length)
    (hcell : ∀ k, k < 10 → w.cell? ⟨gk, m.at_ * 10 + k, none⟩ = (stCells s)[k]?) (hxa : s.a.named = true → s.a.val < 7) (hxb : s.b.named = true → s.b.val < 7) (g cp : Nat) (cs : List Nat) (hvc : vc = .slice (some ⟨g, 0, none⟩) cs.length cp) (hc : ∀ j, j < cs.length → w.cell? ⟨g, j, none⟩ = some (.int .i64 (cs.getD j 0))) (hl : cs.length ≤ 2) (hle : ∀ j, j < cs.length → cs.getD j 0 ≤ 4) (ha : s.arr < cs.length) (hgb : g ≠ b) (hs7 : s.slot < 7) (hk : s.kind = 1) (hv : Mc.value { m with at_ := s.next } s.a < 16) :
    Calls Tryz.prog 84 #[.pointer (some ⟨b, 0, none⟩), .agg #[vs, .int .i64 nv, vc, .slice (some ⟨gk, 0, none⟩) code.length ck]] w fun e w' => SPost w w' b e (32 + (Mc.value { m with at_ := s.next } s.a)) (Mc.access { m with at_ := s.next } cs s (Mc.value { m with at_ := s.next } s.a) (Mc.value { m with at_ := s.next } s.b)) := by
  subst hvc
  have HC := hid hc
  have HE := hid hle
  clear hc hle
  have HK := hid hk
  have HXA := hid hxa
  have HXB := hid hxb
  have HV := hid hv
  clear hk hxa hxb hv
  have c16 := hr.cell (i := 16) (by omega)
  rw [show mcell m 16 = .bool m.trap from rfl, ht] at c16
  clear ht
  have c15 := hr.cell (i := 15) (by omega)
  rw [show mcell m 15 = .int .i64 m.at_ from rfl] at c15
  have hlt := hr.lt
  have hglt : gk < w.heap.size := by
    have := hcell 0 (by omega)
    exact World.block_lt_of_cell? w ⟨gk, m.at_ * 10 + 0, none⟩ this
  have hd : decide ((m.at_ : Int) < 0) = false := by simp
  have hd2 : decide ((code.length : Int) ≤ (m.at_ : Int)) = false := by simp; omega
  have hnI : (m.at_ : Int) < (code.length : Int) := by omega
  have x0 := hcell 0 (by omega)
  have x1 := hcell 1 (by omega)
  have x2 := hcell 2 (by omega)
  have x3 := hcell 3 (by omega)
  have x4 := hcell 4 (by omega)
  have x5 := hcell 5 (by omega)
  have x6 := hcell 6 (by omega)
  have x7 := hcell 7 (by omega)
  have x8 := hcell 8 (by omega)
  have x9 := hcell 9 (by omega)
  simp [stCells] at x0 x1 x2 x3 x4 x5 x6 x7 x8 x9
  have HR := hid hr
  clear hr hcell
  go_enter Tryz.func84, Tryz.ntmps84
  go_wp2_with fail
  go_quiet (fail)
  go_wp2_with fail
  go_cut [5] (fun v5 wc => v5 = .pointer (some ⟨w.heap.size + 1, 0, none⟩) ∧ Cpy w wc b m vs (.slice (some ⟨g, 0, none⟩) cs.length cp) nv (.slice (some ⟨gk, 0, none⟩) code.length ck) s)
  case first =>
    go_region
    all_goals go_wp2_with fail
    all_goals go_meet
    all_goals exact ⟨rfl, cpy_mk HR.out vs _ _ nv s _⟩
  case rest =>
    clear x0 x1 x2 x3 x4 x5 x6 x7 x8 x9 c15 c16
    obtain ⟨e5, hcp⟩ := hcut
    subst e5
    have ltc := hcp.row.lt
    have lts := hcp.st.lt
    have sc := hcp.bel.size
    have c15 := hcp.row.cell (i := 15) (by omega)
    have f15 := hcp.row.frozen 15
    have y4 := hcp.st.cell (i := 4) (by omega)
    have y5 := hcp.st.cell (i := 5) (by omega)
    have y6 := hcp.st.cell (i := 6) (by omega)
    have y7 := hcp.st.cell (i := 7) (by omega)
    have y8 := hcp.st.cell (i := 8) (by omega)
    simp [stCells] at y4 y5 y6 y7 y8
    have hbs : b ≠ w.heap.size + 1 := by omega
    have HCP := hid hcp
    have RM := (hcp.row.set 15 (.int .i64 s.next)).congr (fun j hj => mcell_next m s.next j hj)
    have SM := hcp.st.setOther (a := ⟨b, 15, none⟩) (by show w.heap.size + 1 ≠ b; omega) (.int .i64 s.next)
    have HRM := hid RM
    have HSM := hid SM
    have PM := hcp.pr.setOther (a := ⟨b, 15, none⟩) (by show w.heap.size ≠ b; omega) (.int .i64 s.next)
    have HPM := hid PM
    clear hcp RM SM PM
    have HKK := hid (show s.kind = 1 ∨ s.kind = 2 from .inl HK.out)
    have hk3 : ((s.kind : Int) == 3) = false := by (have := HK.out; simp; omega)
    have hk4 : ((s.kind : Int) == 4) = false := by (have := HK.out; simp; omega)
    have hk5 : ((s.kind : Int) == 5) = false := by (have := HK.out; simp; omega)
    have hk1 : ((s.kind : Int) == 1) = true := by (have := HK.out; simp; omega)
    go_wp2_with (first
      | (go_at_call 104; refine (mvalue_any { m with at_ := s.next } b s.a _ HRM.out HXA.out).mono ?_; rintro e wa ⟨rfl, hba⟩; have HBA := hid hba; have za := hba.size; simp at za; have HRA := hid (HRM.out.of_block (hba.block b (by simp; omega))); have HSA := hid (HSM.out.of_block (hba.block _ (by simp; omega))); have q6 := HSA.out.cell (i := 6) (by omega); have q7 := HSA.out.cell (i := 7) (by omega); simp [stCells] at q6 q7; clear hba HRM HSM)
      | (go_at_call 104; refine (mvalue_any { m with at_ := s.next } b s.b _ HRA.out HXB.out).mono ?_; rintro e wb ⟨rfl, hbb⟩; have HBB := hid hbb; have zb := hbb.size; have HRB := hid (HRA.out.of_block (hbb.block b (by omega))); have HS2 := hid (HSA.out.of_block (hbb.block _ (by omega))); have s0 := HS2.out.cell (i := 0) (by omega); have s1 := HS2.out.cell (i := 1) (by omega); have s2 := HS2.out.cell (i := 2) (by omega); have s3 := HS2.out.cell (i := 3) (by omega); have s4 := HS2.out.cell (i := 4) (by omega); have s5 := HS2.out.cell (i := 5) (by omega); have s6 := HS2.out.cell (i := 6) (by omega); have s7 := HS2.out.cell (i := 7) (by omega); have s8 := HS2.out.cell (i := 8) (by omega); have s9 := HS2.out.cell (i := 9) (by omega); simp [stCells] at s0 s1 s2 s3 s4 s5 s6 s7 s8 s9; have HPB := hid ((HPM.out.of_block (HBA.out.block _ (by simp; omega))).of_block (hbb.block _ (by omega))); have p0 := HPB.out.cell (i := 0) (by omega); have p1 := HPB.out.cell (i := 1) (by omega); have p2 := HPB.out.cell (i := 2) (by omega); have p3 := HPB.out.cell (i := 3) (by omega); simp at p0 p1 p2 p3; have HCB := hid (fun j (hj : j < cs.length) => Frm.cell (((Frm.setCell (p := ⟨b, 15, none⟩) (Frm.ofBelow (S := fun k => k = b) (base := 0) HCP.out.bel (Nat.zero_le _)) (Nat.zero_le _) rfl (.int .i64 s.next)).trans (Frm.ofBelow (S := fun k => k = b) (base := 0) HBA.out (Nat.zero_le _)) (fun _ _ e => e)).trans (Frm.ofBelow (S := fun k => k = b) (base := 0) HBB.out (Nat.zero_le _)) (fun _ _ e => e)) (HC.out j hj) (fun e => hgb e)); clear hbb)
      | (go_at_call 105; refine (access_any { m with at_ := s.next } b _ vs _ nv g cp cs s (Mc.value { m with at_ := s.next } s.a) (Mc.value { m with at_ := s.next } s.b) HRB.out HCB.out hl HE.out ha HKK.out hs7).mono ?_; rintro e w3 ⟨rfl, hr3, hfr3⟩; have HR3 := hid hr3; have HF3 := hid hfr3; clear hr3 hfr3)
      | (go_at_call 103; refine (tell_any 2 (Mc.value { m with at_ := s.next } s.a) _ (by omega) HV.out).mono ?_; rintro e w0 ⟨rfl, hw0⟩; have hw1 := hw0.symm; subst hw1))
    go_ret
    exact ⟨congrArg (fun z => Ending.returned (Value.int .i64 z)) (by omega), HR3.out, (((Frm.setCell (p := ⟨b, 15, none⟩) (Frm.ofBelow (S := fun k => k = b) (base := 0) HCP.out.bel (Nat.zero_le _)) (Nat.zero_le _) rfl (.int .i64 s.next)).trans (Frm.ofBelow (S := fun k => k = b) (base := 0) HBA.out (Nat.zero_le _)) (fun _ _ e => e)).trans (Frm.ofBelow (S := fun k => k = b) (base := 0) HBB.out (Nat.zero_le _)) (fun _ _ e => e)).trans HF3.out (fun _ _ e => e)⟩
set_option maxRecDepth 100000 in
set_option maxHeartbeats 2000000 in
theorem step_store (gk ck : Nat) (code : List Lk.St) (s : Lk.St) (hr : w.rowIs b 169 17 (mcell m)) (ht : m.trap = false) (hn : m.at_ < code.length)
    (hcell : ∀ k, k < 10 → w.cell? ⟨gk, m.at_ * 10 + k, none⟩ = (stCells s)[k]?) (hxa : s.a.named = true → s.a.val < 7) (hxb : s.b.named = true → s.b.val < 7) (g cp : Nat) (cs : List Nat) (hvc : vc = .slice (some ⟨g, 0, none⟩) cs.length cp) (hc : ∀ j, j < cs.length → w.cell? ⟨g, j, none⟩ = some (.int .i64 (cs.getD j 0))) (hl : cs.length ≤ 2) (hle : ∀ j, j < cs.length → cs.getD j 0 ≤ 4) (ha : s.arr < cs.length) (hgb : g ≠ b) (hs7 : s.slot < 7) (hk : s.kind = 2) (hv : Mc.value { m with at_ := s.next } s.a < 16) :
    Calls Tryz.prog 84 #[.pointer (some ⟨b, 0, none⟩), .agg #[vs, .int .i64 nv, vc, .slice (some ⟨gk, 0, none⟩) code.length ck]] w fun e w' => SPost w w' b e (32 + (Mc.value { m with at_ := s.next } s.a)) (Mc.access { m with at_ := s.next } cs s (Mc.value { m with at_ := s.next } s.a) (Mc.value { m with at_ := s.next } s.b)) := by
  subst hvc
  have HC := hid hc
  have HE := hid hle
  clear hc hle
  have HK := hid hk
  have HXA := hid hxa
  have HXB := hid hxb
  have HV := hid hv
  clear hk hxa hxb hv
  have c16 := hr.cell (i := 16) (by omega)
  rw [show mcell m 16 = .bool m.trap from rfl, ht] at c16
  clear ht
  have c15 := hr.cell (i := 15) (by omega)
  rw [show mcell m 15 = .int .i64 m.at_ from rfl] at c15
  have hlt := hr.lt
  have hglt : gk < w.heap.size := by
    have := hcell 0 (by omega)
    exact World.block_lt_of_cell? w ⟨gk, m.at_ * 10 + 0, none⟩ this
  have hd : decide ((m.at_ : Int) < 0) = false := by simp
  have hd2 : decide ((code.length : Int) ≤ (m.at_ : Int)) = false := by simp; omega
  have hnI : (m.at_ : Int) < (code.length : Int) := by omega
  have x0 := hcell 0 (by omega)
  have x1 := hcell 1 (by omega)
  have x2 := hcell 2 (by omega)
  have x3 := hcell 3 (by omega)
  have x4 := hcell 4 (by omega)
  have x5 := hcell 5 (by omega)
  have x6 := hcell 6 (by omega)
  have x7 := hcell 7 (by omega)
  have x8 := hcell 8 (by omega)
  have x9 := hcell 9 (by omega)
  simp [stCells] at x0 x1 x2 x3 x4 x5 x6 x7 x8 x9
  have HR := hid hr
  clear hr hcell
  go_enter Tryz.func84, Tryz.ntmps84
  go_wp2_with fail
  go_quiet (fail)
  go_wp2_with fail
  go_cut [5] (fun v5 wc => v5 = .pointer (some ⟨w.heap.size + 1, 0, none⟩) ∧ Cpy w wc b m vs (.slice (some ⟨g, 0, none⟩) cs.length cp) nv (.slice (some ⟨gk, 0, none⟩) code.length ck) s)
  case first =>
    go_region
    all_goals go_wp2_with fail
    all_goals go_meet
    all_goals exact ⟨rfl, cpy_mk HR.out vs _ _ nv s _⟩
  case rest =>
    clear x0 x1 x2 x3 x4 x5 x6 x7 x8 x9 c15 c16
    obtain ⟨e5, hcp⟩ := hcut
    subst e5
    have ltc := hcp.row.lt
    have lts := hcp.st.lt
    have sc := hcp.bel.size
    have c15 := hcp.row.cell (i := 15) (by omega)
    have f15 := hcp.row.frozen 15
    have y4 := hcp.st.cell (i := 4) (by omega)
    have y5 := hcp.st.cell (i := 5) (by omega)
    have y6 := hcp.st.cell (i := 6) (by omega)
    have y7 := hcp.st.cell (i := 7) (by omega)
    have y8 := hcp.st.cell (i := 8) (by omega)
    simp [stCells] at y4 y5 y6 y7 y8
    have hbs : b ≠ w.heap.size + 1 := by omega
    have HCP := hid hcp
    have RM := (hcp.row.set 15 (.int .i64 s.next)).congr (fun j hj => mcell_next m s.next j hj)
    have SM := hcp.st.setOther (a := ⟨b, 15, none⟩) (by show w.heap.size + 1 ≠ b; omega) (.int .i64 s.next)
    have HRM := hid RM
    have HSM := hid SM
    have PM := hcp.pr.setOther (a := ⟨b, 15, none⟩) (by show w.heap.size ≠ b; omega) (.int .i64 s.next)
    have HPM := hid PM
    clear hcp RM SM PM
    have HKK := hid (show s.kind = 1 ∨ s.kind = 2 from .inr HK.out)
    have hk3 : ((s.kind : Int) == 3) = false := by (have := HK.out; simp; omega)
    have hk4 : ((s.kind : Int) == 4) = false := by (have := HK.out; simp; omega)
    have hk5 : ((s.kind : Int) == 5) = false := by (have := HK.out; simp; omega)
    have hk1 : ((s.kind : Int) == 1) = false := by (have := HK.out; simp; omega)
    have hk2 : ((s.kind : Int) == 2) = true := by (have := HK.out; simp; omega)
    go_wp2_with (first
      | (go_at_call 104; refine (mvalue_any { m with at_ := s.next } b s.a _ HRM.out HXA.out).mono ?_; rintro e wa ⟨rfl, hba⟩; have HBA := hid hba; have za := hba.size; simp at za; have HRA := hid (HRM.out.of_block (hba.block b (by simp; omega))); have HSA := hid (HSM.out.of_block (hba.block _ (by simp; omega))); have q6 := HSA.out.cell (i := 6) (by omega); have q7 := HSA.out.cell (i := 7) (by omega); simp [stCells] at q6 q7; clear hba HRM HSM)
      | (go_at_call 104; refine (mvalue_any { m with at_ := s.next } b s.b _ HRA.out HXB.out).mono ?_; rintro e wb ⟨rfl, hbb⟩; have HBB := hid hbb; have zb := hbb.size; have HRB := hid (HRA.out.of_block (hbb.block b (by omega))); have HS2 := hid (HSA.out.of_block (hbb.block _ (by omega))); have s0 := HS2.out.cell (i := 0) (by omega); have s1 := HS2.out.cell (i := 1) (by omega); have s2 := HS2.out.cell (i := 2) (by omega); have s3 := HS2.out.cell (i := 3) (by omega); have s4 := HS2.out.cell (i := 4) (by omega); have s5 := HS2.out.cell (i := 5) (by omega); have s6 := HS2.out.cell (i := 6) (by omega); have s7 := HS2.out.cell (i := 7) (by omega); have s8 := HS2.out.cell (i := 8) (by omega); have s9 := HS2.out.cell (i := 9) (by omega); simp [stCells] at s0 s1 s2 s3 s4 s5 s6 s7 s8 s9; have HPB := hid ((HPM.out.of_block (HBA.out.block _ (by simp; omega))).of_block (hbb.block _ (by omega))); have p0 := HPB.out.cell (i := 0) (by omega); have p1 := HPB.out.cell (i := 1) (by omega); have p2 := HPB.out.cell (i := 2) (by omega); have p3 := HPB.out.cell (i := 3) (by omega); simp at p0 p1 p2 p3; have HCB := hid (fun j (hj : j < cs.length) => Frm.cell (((Frm.setCell (p := ⟨b, 15, none⟩) (Frm.ofBelow (S := fun k => k = b) (base := 0) HCP.out.bel (Nat.zero_le _)) (Nat.zero_le _) rfl (.int .i64 s.next)).trans (Frm.ofBelow (S := fun k => k = b) (base := 0) HBA.out (Nat.zero_le _)) (fun _ _ e => e)).trans (Frm.ofBelow (S := fun k => k = b) (base := 0) HBB.out (Nat.zero_le _)) (fun _ _ e => e)) (HC.out j hj) (fun e => hgb e)); clear hbb)
      | (go_at_call 105; refine (access_any { m with at_ := s.next } b _ vs _ nv g cp cs s (Mc.value { m with at_ := s.next } s.a) (Mc.value { m with at_ := s.next } s.b) HRB.out HCB.out hl HE.out ha HKK.out hs7).mono ?_; rintro e w3 ⟨rfl, hr3, hfr3⟩; have HR3 := hid hr3; have HF3 := hid hfr3; clear hr3 hfr3)
      | (go_at_call 103; refine (tell_any 2 (Mc.value { m with at_ := s.next } s.a) _ (by omega) HV.out).mono ?_; rintro e w0 ⟨rfl, hw0⟩; have hw1 := hw0.symm; subst hw1))
    go_ret
    exact ⟨congrArg (fun z => Ending.returned (Value.int .i64 z)) (by omega), HR3.out, (((Frm.setCell (p := ⟨b, 15, none⟩) (Frm.ofBelow (S := fun k => k = b) (base := 0) HCP.out.bel (Nat.zero_le _)) (Nat.zero_le _) rfl (.int .i64 s.next)).trans (Frm.ofBelow (S := fun k => k = b) (base := 0) HBA.out (Nat.zero_le _)) (fun _ _ e => e)).trans (Frm.ofBelow (S := fun k => k = b) (base := 0) HBB.out (Nat.zero_le _)) (fun _ _ e => e)).trans HF3.out (fun _ _ e => e)⟩
end
end Go.Proofs.YtgddmpmcnjlcjabGreatDoor
