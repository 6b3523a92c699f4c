import Derived.Test.YtgddmpmcnjlcjabDoorB22
namespace Go.Proofs.YtgddmpmcnjlcjabDoor
open Go.RowKit
set_option linter.unusedVariables false
theorem WrAt.alloc {B wb vars ct : Nat} {bs : List UInt8} {vt : Value} {w : World} (h : WrAt B wb vars ct bs vt w) (o : Obj) : WrAt B wb vars ct bs vt (w.alloc o) := ⟨h.row.alloc o, h.cb, h.own.alloc o, h.hb, h.ne⟩
theorem TabB.alloc {B : Nat} {w : World} (h : TabB B w) (hB : B ≤ w.heap.size) (o : Obj) : TabB B (w.alloc o) := h.on ((Below.refl B w).alloc hB o)
theorem WFr.alloc {B wb : Nat} {a w : World} (h : WFr B wb a w) (hB : B ≤ w.heap.size) (o : Obj) : WFr B wb a (w.alloc o) := ⟨h.1.alloc hB o, h.2.alloc o⟩
def sameB (N : List Nat) (v : Int) (node : Nat) (u : Int) : List UInt8 :=
  if node = 0 then clauseB (-v) u 0 else if node = 1 then clauseB v u 0 else clauseB (-v) u (N.getD node 0) ++ clauseB v u (-(N.getD node 0 : Int))
def sameC (node : Nat) : Nat := if node ≤ 1 then 1 else 2
theorem clauseB_len {a b c : Int} (ha : Lit64 a) (hb : Lit64 b) (hc : Lit64 c) : (clauseB a b c).length ≤ 68 := by
  have := litB_len ha
  have := litB_len hb
  have := litB_len hc
  unfold clauseB
  simp
  omega
section
variable {B wb vars ct : Nat} {bs : List UInt8} {vt : Value} {w : World}
set_option maxRecDepth 100000 in
set_option maxHeartbeats 1000000 in
theorem same_leaf (h : WrAt B wb vars ct bs vt w) (hBw : B ≤ w.heap.size) (v u : Int) (hv : -1000000000 ≤ v ∧ v ≤ 1000000000) (hu : -1000000000 ≤ u ∧ u ≤ 1000000000) (node : Nat) (hn : node ≤ 1) (a1 a2 a3 : Option Addr) (n1 c1 n2 c2 n3 c3 : Nat) (N : List Nat) (hlim : bs.length ≤ 800000000) (htab : TabB B w) :
    Calls Tryd.prog 67 #[.pointer (some ⟨wb, 0, none⟩), .int .i64 v, .int .i64 node, .agg #[.slice a1 n1 c1, .slice a2 n2 c2, .slice a3 n3 c3], .int .i64 u] w fun e w' => e = .returned (.tuple #[]) ∧ ∃ vt', WrAt B wb vars (ct + sameC node) (bs ++ sameB N v node u) vt' w' ∧ WFr B wb w w' := by
  have H := hid h
  have HT := hid htab
  clear h htab
  have HV : Hid (Lit64 v) := ⟨by omega, by omega⟩
  have HV2 : Hid (Lit64 (-v)) := ⟨by omega, by omega⟩
  have HU : Hid (Lit64 u) := ⟨by omega, by omega⟩
  have H0 : Hid (Lit64 0) := ⟨by omega, by omega⟩
  have hv1 := hv.1
  have hv2 := hv.2
  obtain rfl | rfl : node = 0 ∨ node = 1 := by omega
  · go_enter Tryd.func67, Tryd.ntmps67
    go_wp2_with (go_at_call 68; refine (clause_any (H.out.alloc _) (by simp; omega) (-v) u 0 HV2.out HU.out H0.out (by omega) (HT.out.alloc hBw _)).mono ?_; rintro e w1 ⟨rfl, v1, h1, f1⟩; have H1 := hid h1; have F1 := hid f1; clear h1 f1)
    go_end0
    exact ⟨rfl, v1, H1.out, ((WFr.refl B wb w).alloc hBw _).trans F1.out⟩
  · go_enter Tryd.func67, Tryd.ntmps67
    go_wp2_with (go_at_call 68; refine (clause_any (H.out.alloc _) (by simp; omega) v u 0 HV.out HU.out H0.out (by omega) (HT.out.alloc hBw _)).mono ?_; rintro e w1 ⟨rfl, v1, h1, f1⟩; have H1 := hid h1; have F1 := hid f1; clear h1 f1)
    go_end0
    exact ⟨rfl, v1, H1.out, ((WFr.refl B wb w).alloc hBw _).trans F1.out⟩
def runc (a1 a2 a3 : Option Addr) (n1 c1 n2 c2 n3 c3 : Nat) (i : Nat) : Value := if i = 0 then .slice a1 n1 c1 else if i = 1 then .slice a2 n2 c2 else .slice a3 n3 c3
theorem run_new (w : World) (a1 a2 a3 : Option Addr) (n1 c1 n2 c2 n3 c3 : Nat) : (w.alloc (.cells #[.slice a1 n1 c1, .slice a2 n2 c2, .slice a3 n3 c3] 105)).rowIs w.heap.size 105 3 (runc a1 a2 a3 n1 c1 n2 c2 n3 c3) :=
  World.rowIs_alloc w #[.slice a1 n1 c1, .slice a2 n2 c2, .slice a3 n3 c3] 105 (runc a1 a2 a3 n1 c1 n2 c2 n3 c3) (fun i hi => by
    match i, hi with
    | 0, _ => rfl
    | 1, _ => rfl
    | 2, _ => rfl
    | n + 3, h => exact absurd (show n + 3 < 3 from h) (by omega))
set_option maxRecDepth 100000 in
set_option maxHeartbeats 1000000 in
theorem same_node (h : WrAt B wb vars ct bs vt w) (hBw : B ≤ w.heap.size) (v u : Int) (hv : -1000000000 ≤ v ∧ v ≤ 1000000000) (hu : -1000000000 ≤ u ∧ u ≤ 1000000000) (node : Nat) (hn : 2 ≤ node) (a1 a2 a3 : Option Addr) (n1 c1 c2 n3 c3 : Nat) (N : List Nat) (hN : w.ownsRow 0 3 1 (.slice a2 N.length c2) N.length (N.map fun (n : Nat) => .int .i64 n)) (hnN : node < N.length) (hN9 : N.getD node 0 ≤ 1000000000) (hNl : N.length ≤ 1000000000) (hlim : bs.length ≤ 800000000) (htab : TabB B w) :
    Calls Tryd.prog 67 #[.pointer (some ⟨wb, 0, none⟩), .int .i64 v, .int .i64 node, .agg #[.slice a1 n1 c1, .slice a2 N.length c2, .slice a3 n3 c3], .int .i64 u] w fun e w' => e = .returned (.tuple #[]) ∧ ∃ vt', WrAt B wb vars (ct + sameC node) (bs ++ sameB N v node u) vt' w' ∧ WFr B wb w w' := by
  obtain ⟨g, cap, hgv, _, hglt⟩ := hN.form (by omega)
  cases hgv
  have nc := nats_at hN node hnN
  have HNK := hid hN
  have hgw : g ≠ wb := fun e => own_not_row hN h.row (by decide) (by rw [← e]; rfl)
  have HS := hid (show sameB N v node u = clauseB (-v) u (N.getD node 0) ++ clauseB v u (-(N.getD node 0 : Int)) by unfold sameB; rw [if_neg (by omega), if_neg (by omega)])
  generalize N.getD node 0 = y at nc hN9 HS
  have H := hid h
  have HT := hid htab
  have hwbl := h.row.lt
  have hrow := run_new w a1 (some ⟨g, 0, none⟩) a3 n1 c1 N.length c2 n3 c3
  have HRW := hid hrow
  have NC := hid nc
  clear h htab hN
  have HV : Hid (Lit64 v) := ⟨by omega, by omega⟩
  have HV2 : Hid (Lit64 (-v)) := ⟨by omega, by omega⟩
  have HU : Hid (Lit64 u) := ⟨by omega, by omega⟩
  have HY : Hid (Lit64 (y : Int)) := ⟨by omega, by omega⟩
  have HY2 : Hid (Lit64 (-(y : Int))) := ⟨by omega, by omega⟩
  have hv1 := hv.1
  have hv2 := hv.2
  have hnI : (node : Int) < (N.length : Int) := by omega
  have hn2 : ((node : Int) == 0) = false := by simp; omega
  have hn3 : ((node : Int) == 1) = false := by simp; omega
  have hyI : (y : Int) ≤ 1000000000 := by omega
  clear hrow
  go_enter Tryd.func67, Tryd.ntmps67
  go_wp2_with (go_at_call 68; refine (clause_any (H.out.alloc _) (by simp; omega) (-v) u y HV2.out HU.out HY.out (by omega) (HT.out.alloc hBw _)).mono ?_; rintro e w1 ⟨rfl, v1, h1, f1⟩; have H1 := hid h1; have F1 := hid f1; have z1 := f1.1.size; clear h1 f1; refine Hid.out ?_)
  refine hid ?_
  have R1 := row_kept HRW.out F1.out.2 (by simp; omega) (by decide)
  have q1 := R1.cell (i := 1) (by omega)
  rw [show runc a1 (some ⟨g, 0, none⟩) a3 n1 c1 N.length c2 n3 c3 1 = .slice (some ⟨g, 0, none⟩) N.length c2 from rfl] at q1
  have O1 := own_kept (HNK.out.alloc (.cells #[.slice a1 n1 c1, .slice (some ⟨g, 0, none⟩) N.length c2, .slice a3 n3 c3] 105)) F1.out.2 (fun g' e => by have e : g = g' := (by simpa [Value.ownBlock] using e); rw [← e]; simpa using hgw) (by decide)
  have y1 : w1.cell? ⟨g, node, none⟩ = some (.int .i64 y) := by
    have e1 := O1.cellAt node (by omega)
    have e2 := HNK.out.cellAt node (by omega)
    rw [e1, ← e2]
    exact NC.out
  have hbl : bs.length + 68 ≤ 900000000 := by omega
  have L1 : (bs ++ clauseB (-v) u y).length ≤ 900000000 := by rw [List.length_append]; have := clauseB_len HV2.out HU.out HY.out; omega
  clear R1 O1
  have z2 : B ≤ w1.heap.size := by simp at z1; omega
  go_wp2_with (go_at_call 68; refine (clause_any H1.out z2 v u (-(y : Int)) HV.out HU.out HY2.out L1 ((HT.out.alloc hBw _).on F1.out.1)).mono ?_; rintro e w2 ⟨rfl, v2, h2, f2⟩; have H2 := hid h2; have F2 := hid f2; clear h2 f2)
  go_end0
  refine ⟨rfl, v2, ?_, (((WFr.refl B wb w).alloc hBw _).trans F1.out).trans F2.out⟩
  rw [HS.out, ← List.append_assoc, show sameC node = 2 from if_neg (by omega)]
  exact H2.out
end
section
variable {B wb vars ct : Nat} {bs : List UInt8} {vt : Value} {w : World}
theorem same_any (h : WrAt B wb vars ct bs vt w) (hBw : B ≤ w.heap.size) (v u : Int) (hv : -1000000000 ≤ v ∧ v ≤ 1000000000) (hu : -1000000000 ≤ u ∧ u ≤ 1000000000) (node : Nat) (a1 a2 a3 : Option Addr) (n1 c1 c2 n3 c3 : Nat) (N : List Nat) (hN : w.ownsRow 0 3 1 (.slice a2 N.length c2) N.length (N.map fun (n : Nat) => .int .i64 n)) (hnN : node < N.length) (hN9 : N.getD node 0 ≤ 1000000000) (hNl : N.length ≤ 1000000000) (hlim : bs.length ≤ 800000000) (htab : TabB B w) :
    Calls Tryd.prog 67 #[.pointer (some ⟨wb, 0, none⟩), .int .i64 v, .int .i64 node, .agg #[.slice a1 n1 c1, .slice a2 N.length c2, .slice a3 n3 c3], .int .i64 u] w fun e w' => e = .returned (.tuple #[]) ∧ ∃ vt', WrAt B wb vars (ct + sameC node) (bs ++ sameB N v node u) vt' w' ∧ WFr B wb w w' := by
  by_cases h1 : node ≤ 1
  · exact same_leaf h hBw v u hv hu node h1 a1 a2 a3 n1 c1 N.length c2 n3 c3 N hlim htab
  · exact same_node h hBw v u hv hu node (by omega) a1 a2 a3 n1 c1 c2 n3 c3 N hN hnN hN9 hNl hlim htab
theorem sameB_len (N : List Nat) {v u : Int} (hv : -1000000000 ≤ v ∧ v ≤ 1000000000) (hu : -1000000000 ≤ u ∧ u ≤ 1000000000) (node : Nat) (h9 : N.getD node 0 ≤ 1000000000) : (sameB N v node u).length ≤ 136 := by
  have l1 := @clauseB_len (-v) u 0 ⟨by omega, by omega⟩ ⟨by omega, by omega⟩ ⟨by omega, by omega⟩
  have l2 := @clauseB_len v u 0 ⟨by omega, by omega⟩ ⟨by omega, by omega⟩ ⟨by omega, by omega⟩
  have l3 := @clauseB_len (-v) u (N.getD node 0) ⟨by omega, by omega⟩ ⟨by omega, by omega⟩ ⟨by omega, by omega⟩
  have l4 := @clauseB_len v u (-(N.getD node 0 : Int)) ⟨by omega, by omega⟩ ⟨by omega, by omega⟩ ⟨by omega, by omega⟩
  unfold sameB
  split
  · omega
  · split
    · omega
    · rw [List.length_append]; omega
def nodeB (bits N : List Nat) (v : Int) (bit lo hi : Nat) : List UInt8 := sameB N v lo (bits.getD bit 0) ++ sameB N v hi (-(bits.getD bit 0 : Int))
def nodec (bit lo hi : Nat) (sec : Bool) (i : Nat) : Value := if i = 0 then .int .i64 bit else if i = 1 then .int .i64 lo else if i = 2 then .int .i64 hi else .bool sec
theorem node_new (w : World) (bit lo hi : Nat) (sec : Bool) : (w.alloc (.cells #[.int .i64 bit, .int .i64 lo, .int .i64 hi, .bool sec] 139)).rowIs w.heap.size 139 4 (nodec bit lo hi sec) :=
  World.rowIs_alloc w #[.int .i64 bit, .int .i64 lo, .int .i64 hi, .bool sec] 139 (nodec bit lo hi sec) (fun i hi => by
    match i, hi with
    | 0, _ => rfl
    | 1, _ => rfl
    | 2, _ => rfl
    | 3, _ => rfl
    | n + 4, h => exact absurd (show n + 4 < 4 from h) (by omega))
set_option maxRecDepth 100000 in
set_option maxHeartbeats 1000000 in
theorem wnode_any (h : WrAt B wb vars ct bs vt w) (hBw : B ≤ w.heap.size) (v : Int) (hv : -1000000000 ≤ v ∧ v ≤ 1000000000) (bit lo hi : Nat) (sec : Bool) (a1 a2 a3 : Option Addr) (c1 c2 n3 c3 : Nat) (bits N : List Nat) (hb : w.ownsRow 0 3 1 (.slice a1 bits.length c1) bits.length (bits.map fun (n : Nat) => .int .i64 n)) (hN : w.ownsRow 0 3 1 (.slice a2 N.length c2) N.length (N.map fun (n : Nat) => .int .i64 n)) (hbl : bit < bits.length) (hlo : lo < N.length) (hhi : hi < N.length) (hN9 : ∀ i, N.getD i 0 ≤ 1000000000) (hb9 : bits.getD bit 0 ≤ 1000000000) (hNl : N.length ≤ 1000000000) (hbl9 : bits.length ≤ 1000000000) (hlim : bs.length ≤ 700000000) (htab : TabB B w) :
    Calls Tryd.prog 66 #[.pointer (some ⟨wb, 0, none⟩), .int .i64 v, .agg #[.int .i64 bit, .int .i64 lo, .int .i64 hi, .bool sec], .agg #[.slice a1 bits.length c1, .slice a2 N.length c2, .slice a3 n3 c3]] w fun e w' => e = .returned (.tuple #[]) ∧ ∃ vt', WrAt B wb vars (ct + (sameC lo + sameC hi)) (bs ++ nodeB bits N v bit lo hi) vt' w' ∧ WFr B wb w w' := by
  obtain ⟨g, cap, hgv, _, hglt⟩ := hb.form (by omega)
  cases hgv
  have nc := nats_at hb bit hbl
  have HS := hid (show nodeB bits N v bit lo hi = sameB N v lo (bits.getD bit 0) ++ sameB N v hi (-(bits.getD bit 0 : Int)) from rfl)
  generalize bits.getD bit 0 = y at nc hb9 HS
  have H := hid h
  have HT := hid htab
  have HNK := hid hN
  have hwbl := h.row.lt
  have hbI : (bit : Int) < (bits.length : Int) := by omega
  have hyI : (y : Int) ≤ 1000000000 := by omega
  clear h htab hN hb
  obtain ⟨w0, hw0⟩ : ∃ w0 : World, (w.alloc (.cells #[.int .i64 bit, .int .i64 lo, .int .i64 hi, .bool sec] 139)).alloc (.cells #[.slice (some ⟨g, 0, none⟩) bits.length c1, .slice a2 N.length c2, .slice a3 n3 c3] 105) = w0 := ⟨_, rfl⟩
  have hz0 : w0.heap.size = w.heap.size + 2 := by rw [← hw0]; simp
  have HW0 := hid ((H.out.alloc (.cells #[.int .i64 bit, .int .i64 lo, .int .i64 hi, .bool sec] 139)).alloc (.cells #[.slice (some ⟨g, 0, none⟩) bits.length c1, .slice a2 N.length c2, .slice a3 n3 c3] 105))
  have HT0 := hid ((HT.out.alloc hBw (.cells #[.int .i64 bit, .int .i64 lo, .int .i64 hi, .bool sec] 139)).alloc (by simp; omega) (.cells #[.slice (some ⟨g, 0, none⟩) bits.length c1, .slice a2 N.length c2, .slice a3 n3 c3] 105))
  have HN0 := hid ((HNK.out.alloc (.cells #[.int .i64 bit, .int .i64 lo, .int .i64 hi, .bool sec] 139)).alloc (.cells #[.slice (some ⟨g, 0, none⟩) bits.length c1, .slice a2 N.length c2, .slice a3 n3 c3] 105))
  have HF0 := hid (((WFr.refl B wb w).alloc hBw (.cells #[.int .i64 bit, .int .i64 lo, .int .i64 hi, .bool sec] 139)).alloc (by simp; omega) (.cells #[.slice (some ⟨g, 0, none⟩) bits.length c1, .slice a2 N.length c2, .slice a3 n3 c3] 105))
  have HR0 := hid ((node_new w bit lo hi sec).alloc (.cells #[.slice (some ⟨g, 0, none⟩) bits.length c1, .slice a2 N.length c2, .slice a3 n3 c3] 105))
  have HQ0 := hid (run_new (w.alloc (.cells #[.int .i64 bit, .int .i64 lo, .int .i64 hi, .bool sec] 139)) (some ⟨g, 0, none⟩) a2 a3 bits.length c1 N.length c2 n3 c3)
  rw [hw0] at HW0 HT0 HN0 HF0 HR0 HQ0
  have HE := hid hw0
  clear hw0
  have hnwb : (Value.slice a2 N.length c2).ownBlock ≠ some wb := own_not_row HNK.out H.out.row (by decide)
  have HNW := hid hnwb
  clear hnwb
  have HV := hid hv
  have hB0 : B ≤ w0.heap.size := by omega
  have HL : Hid ((bs ++ sameB N v lo y).length ≤ 800000000) := by
    have := sameB_len N (u := (y : Int)) hv ⟨by omega, by omega⟩ lo (hN9 lo)
    refine hid ?_
    rw [List.length_append]
    omega
  go_enter Tryd.func66, Tryd.ntmps66
  go_wp2_with (go_at_call 67; rw [HE.out]; refine (same_any HW0.out hB0 v y HV.out ⟨by omega, by omega⟩ lo _ a2 a3 _ _ c2 n3 c3 N HN0.out hlo (hN9 lo) hNl (by omega) HT0.out).mono ?_; rintro e w1 ⟨rfl, v1, h1, f1⟩; have H1 := hid h1; have F1 := hid f1; have z1 := f1.1.size; clear h1 f1; refine Hid.out ?_)
  refine hid ?_
  have R1 := row_kept HR0.out F1.out.2 (by simp; omega) (by decide)
  have n2 := R1.cell (i := 2) (by omega)
  rw [show nodec bit lo hi sec 2 = .int .i64 hi from rfl] at n2
  have Q1 := row_kept HQ0.out F1.out.2 (by simp; omega) (by decide)
  have q0 := Q1.cell (i := 0) (by omega)
  have q1 := Q1.cell (i := 1) (by omega)
  have q2 := Q1.cell (i := 2) (by omega)
  simp only [World.size_alloc] at q0 q1 q2
  rw [show runc (some ⟨g, 0, none⟩) a2 a3 bits.length c1 N.length c2 n3 c3 0 = .slice (some ⟨g, 0, none⟩) bits.length c1 from rfl] at q0
  rw [show runc (some ⟨g, 0, none⟩) a2 a3 bits.length c1 N.length c2 n3 c3 1 = .slice a2 N.length c2 from rfl] at q1
  rw [show runc (some ⟨g, 0, none⟩) a2 a3 bits.length c1 N.length c2 n3 c3 2 = .slice a3 n3 c3 from rfl] at q2
  clear R1 Q1
  have O1 := hid (own_kept HN0.out F1.out.2 (fun g' e => by intro e2; cases e2; exact HNW.out e) (by decide))
  have hB1 : B ≤ w1.heap.size := by omega
  go_wp2_with (go_at_call 67; refine (same_any H1.out hB1 v (-(y : Int)) HV.out ⟨by omega, by omega⟩ hi _ a2 a3 _ _ c2 n3 c3 N O1.out hhi (hN9 hi) hNl HL.out (HT0.out.on F1.out.1)).mono ?_; rintro e w2 ⟨rfl, v2, h2, f2⟩; have H2 := hid h2; have F2 := hid f2; clear h2 f2)
  go_end0
  refine ⟨rfl, v2, ?_, (HF0.out.trans F1.out).trans F2.out⟩
  rw [HS.out, ← List.append_assoc, ← Nat.add_assoc]
  exact H2.out
end
section
variable {B wb vars ct : Nat} {bs : List UInt8} {vt : Value} {w : World}
theorem WrAt.drew (h : WrAt B wb vars ct bs vt w) : WrAt B wb vars ct bs vt w.drew := ⟨h.row.drew, h.cb, h.own, h.hb, h.ne⟩
theorem TabB.drew (h : TabB B w) : TabB B w.drew := h.on (Below.refl B w).drew
theorem WFr.drew {w' : World} (h : WFr B wb w w') : WFr B wb w w'.drew := ⟨h.1.drew, fun k o a b c => h.2 k o a b c⟩
def saidc (a b : Value) (i : Nat) : Value := if i = 0 then a else b
theorem said_row {w : World} {g : Nat} {a b : Value} (h : w.heap[g]? = some (.cells #[a, b] 109)) : w.rowIs g 109 2 (saidc a b) := ⟨_, h, rfl, fun i hi => by
  match i, hi with
  | 0, _ => rfl
  | 1, _ => rfl
  | n + 2, h => exact absurd h (by omega)⟩
theorem hp_new' (w : World) (o : Obj) (g : Nat) (h : g = w.heap.size) : (w.alloc o).heap[g]? = some o := by subst h; exact heap_alloc_new w o
theorem hp_old' (w : World) (o p : Obj) (g : Nat) (h : w.heap[g]? = some p) : (w.alloc o).heap[g]? = some p := (Below.heap_alloc w o g (Array.getElem?_eq_some_iff.1 h).1).trans h
theorem WrAt.other (h : WrAt B wb vars ct bs vt w) {p : Addr} (hp : wb ≠ p.block) (hv : vt.ownBlock ≠ some p.block) (u : Value) : WrAt B wb vars ct bs vt (w.setCell p u) := ⟨h.row.setOther hp u, h.cb, by
  obtain ⟨b, i, q⟩ := p
  exact h.own.kept (grownBy_setCell w ⟨b, i, q⟩ u) (.inr hv), h.hb, h.ne⟩
theorem WFr.setNew {a : World} (h : WFr B wb a w) {p : Addr} (hB : B ≤ p.block) (hn : a.heap.size ≤ p.block) (u : Value) : WFr B wb a (w.setCell p u) :=
  ⟨h.1.setCell hB u, fun k o hk hne ht => (Below.heap_setCell w p u k (fun e => by have := (Array.getElem?_eq_some_iff.1 hk).1; omega)).trans (h.2 k o hk hne ht)⟩
set_option maxRecDepth 100000 in
set_option maxHeartbeats 1000000 in
theorem wtold_any (h : WrAt B wb vars ct bs vt w) (hBw : B ≤ w.heap.size) (v node : Nat) (hv : v ≤ 1000000000) (a1 a2 a3 : Option Addr) (n1 c1 c2 n3 c3 : Nat) (N : List Nat) (hN : w.ownsRow 0 3 1 (.slice a2 N.length c2) N.length (N.map fun (n : Nat) => .int .i64 n)) (hnN : node < N.length) (hN9 : N.getD node 0 ≤ 1000000000) (hNl : N.length ≤ 1000000000) (hlim : bs.length ≤ 700000000) (htab : TabB B w) :
    Calls Tryd.prog 39 #[.pointer (some ⟨wb, 0, none⟩), .int .i64 v, .int .i64 node, .agg #[.slice a1 n1 c1, .slice a2 N.length c2, .slice a3 n3 c3]] w fun e w' => e = .returned (.agg #[.int .i64 v, .int .i64 ((ct + 1 : Nat) : Int)]) ∧ ∃ vt', WrAt B wb vars (ct + sameC node) (bs ++ sameB N v node 0) vt' w' ∧ WFr B wb w w' := by
  have H := hid h
  have HT := hid htab
  have HN := hid hN
  have hc1 := h.c1
  have hcb := h.cb
  have hctI : (ct : Int) ≤ 1000000000 := by omega
  have hvI : (v : Int) ≤ 1000000000 := by omega
  clear h htab hN
  have hc1a := fun o1 o2 => ((H.out.alloc o1).alloc o2).c1
  obtain ⟨W, hW⟩ : ∃ W : World, ((w.alloc (.cells #[.slice a1 n1 c1, .slice a2 N.length c2, .slice a3 n3 c3] 105)).alloc (.cells #[.int .i64 0, .int .i64 0] 109)).alloc (.cells #[.int .i64 v, .int .i64 ((ct : Int) + 1)] 109) = W := ⟨_, rfl⟩
  have hWz : W.heap.size = w.heap.size + 3 := by rw [← hW]; simp
  have HW := hid (((H.out.alloc (.cells #[.slice a1 n1 c1, .slice a2 N.length c2, .slice a3 n3 c3] 105)).alloc (.cells #[.int .i64 0, .int .i64 0] 109)).alloc (.cells #[.int .i64 v, .int .i64 ((ct : Int) + 1)] 109))
  have HTW := hid (((HT.out.alloc hBw (.cells #[.slice a1 n1 c1, .slice a2 N.length c2, .slice a3 n3 c3] 105)).alloc (by simp; omega) (.cells #[.int .i64 0, .int .i64 0] 109)).alloc (by simp; omega) (.cells #[.int .i64 v, .int .i64 ((ct : Int) + 1)] 109))
  have HNW := hid (((HN.out.alloc (.cells #[.slice a1 n1 c1, .slice a2 N.length c2, .slice a3 n3 c3] 105)).alloc (.cells #[.int .i64 0, .int .i64 0] 109)).alloc (.cells #[.int .i64 v, .int .i64 ((ct : Int) + 1)] 109))
  have HFW := hid ((((WFr.refl B wb w).alloc hBw (.cells #[.slice a1 n1 c1, .slice a2 N.length c2, .slice a3 n3 c3] 105)).alloc (by simp; omega) (.cells #[.int .i64 0, .int .i64 0] 109)).alloc (by simp; omega) (.cells #[.int .i64 v, .int .i64 ((ct : Int) + 1)] 109))
  have HZ := hid (show W.heap[w.heap.size + 1]? = some (.cells #[.int .i64 0, .int .i64 0] 109) by rw [← hW]; exact hp_old' _ _ _ _ (hp_new' _ _ _ (by simp)))
  have HS := hid (show W.heap[w.heap.size + 2]? = some (.cells #[.int .i64 v, .int .i64 ((ct : Int) + 1)] 109) by rw [← hW]; exact hp_new' _ _ _ (by simp))
  rw [hW] at HW HTW HNW HFW
  have HE := hid hW
  clear hW
  have hBW : B ≤ W.heap.size := by omega
  have hwbl := H.out.row.lt
  go_enter Tryd.func39, Tryd.ntmps39
  go_wp2_with (go_at_call 67; rw [HE.out]; refine (same_any HW.out hBW v 0 ⟨by omega, by omega⟩ ⟨by omega, by omega⟩ node a1 a2 a3 n1 c1 c2 n3 c3 N HNW.out hnN hN9 hNl (by omega) HTW.out).mono ?_; rintro e w1 ⟨rfl, v1, h1, f1⟩; have H1 := hid h1; have F1 := hid f1; have z1 := f1.1.size; clear h1 f1; refine Hid.out ?_)
  refine hid ?_
  have s1 := F1.out.2 _ _ HS.out (by simp; omega) (by intro c fz e; cases e)
  have s0 := F1.out.2 _ _ HZ.out (by simp; omega) (by intro c fz e; cases e)
  have r1 := said_row s1
  have r0 := said_row s0
  have e0 := r1.cell (i := 0) (by omega)
  have e1 := r1.cell (i := 1) (by omega)
  have g0 := r0.cell (i := 0) (by omega)
  have g1 := r0.cell (i := 1) (by omega)
  have gf0 := r0.frozen 0
  have gf1 := r0.frozen 1
  dsimp only [saidc] at e0 e1 g0 g1
  have hnv : v1.ownBlock ≠ some (w.heap.size + 1) := own_not_row H1.out.own r0 (by decide)
  have HNV := hid hnv
  clear r1 r0 s1 s0 hnv
  go_wp2_with fail
  refine bodyPost_ret (v := .agg #[.int .i64 v, .int .i64 ((ct : Int) + 1)]) (by simp [results, Tryd.results39, go_sem, g0, g1]) rfl ⟨rfl, ⟨v1, ?_⟩, ?_⟩
  · exact (H1.out.other (p := ⟨w.heap.size + 1, 0, none⟩) (by show wb ≠ w.heap.size + 1; omega) HNV.out _).other (p := ⟨w.heap.size + 1, 1, none⟩) (by show wb ≠ w.heap.size + 1; omega) HNV.out _
  · exact ((HFW.out.trans F1.out).setNew (p := ⟨w.heap.size + 1, 0, none⟩) (by show B ≤ w.heap.size + 1; omega) (by show w.heap.size ≤ w.heap.size + 1; omega) _).setNew (p := ⟨w.heap.size + 1, 1, none⟩) (by show B ≤ w.heap.size + 1; omega) (by show w.heap.size ≤ w.heap.size + 1; omega) _
end
end Go.Proofs.YtgddmpmcnjlcjabDoor
