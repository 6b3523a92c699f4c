import Derived.Test.YtgddmpmcnjlcjabGreatDoorB18
namespace Go.Proofs.YtgddmpmcnjlcjabGreatDoor
open Go.RowKit
set_option linter.unusedVariables false
abbrev TabB (B : Nat) (w : World) : Prop := Lib.TabBelow Tryz.prog B w "internal/strconv.uint64pow10" .u64 Lib.pow10Tab
abbrev Lit64 (l : Int) : Prop := -9223372036854775808 ≤ l ∧ l ≤ 9223372036854775807
theorem litB_len {l : Int} (h : Lit64 l) : (litB l).length ≤ 22 := by
  unfold litB
  split
  · simp
  · have := Lib.itoa_length_le l h.1 h.2
    simp
    omega
theorem WFr.refl (B wb : Nat) (w : World) : WFr B wb w w := ⟨Below.refl _ _, Lib.OthersKept.refl _ _ _⟩
theorem WFr.trans {B wb : Nat} {a b c : World} (h : WFr B wb a b) (k : WFr B wb b c) : WFr B wb a c := ⟨h.1.trans k.1, h.2.trans k.2⟩
section
variable {B wb vars ct : Nat} {bs : List UInt8} {vt : Value} {w : World}
theorem literal_any (h : WrAt B wb vars ct bs vt w) (hBw : B ≤ w.heap.size) (l : Int) (hl : Lit64 l) (hlim : bs.length ≤ 1000000000) (htab : TabB B w) :
    Calls Tryz.prog 81 #[.pointer (some ⟨wb, 0, none⟩), .int .i64 l] w fun e w' => e = .returned (.tuple #[]) ∧ ∃ vt', WrAt B wb vars ct (bs ++ litB l) vt' w' ∧ WFr B wb w w' := by
  unfold litB
  by_cases h0 : l = 0
  · subst h0
    rw [if_pos rfl, List.append_nil]
    exact (literal_zero h).mono (fun e w' hh => ⟨hh.1, vt, by rw [hh.2]; exact h, by rw [hh.2]; exact WFr.refl _ _ _⟩)
  · rw [if_neg h0]
    exact literal_some h hBw l h0 hl.1 hl.2 hlim htab
set_option maxRecDepth 100000 in
set_option maxHeartbeats 1000000 in
theorem end_any (h : WrAt B wb vars ct bs vt w) (hBw : B ≤ w.heap.size) (hlim : bs.length ≤ 1000000000) :
    Calls Tryz.prog 82 #[.pointer (some ⟨wb, 0, none⟩)] w fun e w' => e = .returned (.tuple #[]) ∧ ∃ vt', WrAt B wb vars (ct + 1) (bs ++ [48, 10]) vt' w' ∧ WFr B wb w w' := by
  obtain ⟨t0, ht0, hz0, hz1, hz2⟩ := info_parts Tryz.infoByte
  obtain ⟨av, cv, ev⟩ := body_val h.own
  subst ev
  have H := hid h
  have r1 := h.c2
  have f1 := h.row.frozen 2
  have hcb := h.cb
  have hrl := h.row.lt
  have hne := h.ne
  have HN1 := hid hne
  clear h hne
  go_enter Tryz.func82, Tryz.ntmps82
  go_wp2_with (at_builtin; refine wpList_append_lies _ rfl _ _ 111 rfl B 5 t0 _ 1 1 Tryz.underlying111 ht0 hz0 hz1 hz2 rfl (by omega) _ bs.length (Lib.byteCells bs) rfl (H.out.own.alloc _) ⟨w.heap.size, 0, none⟩ 2 2 [.int .u8 48, .int .u8 10] rfl rfl (World.news_of_block (cs := #[.int .u8 48, .int .u8 10]) (t := 5) (fr := (0, 0)) (heap_alloc_new w _)) (by simp [Value.oneCell']) (by omega) (by unfold maxLen; omega) (by omega) (by simp; omega) (w.heap.size + 1) (by simp) ?_; intro g4 cap4 w4 hown4 hgrow4 hat4 hlt4; have R4 := hid (rowIs_grown (H.out.row.alloc _) hgrow4 HN1.out); have q4 := R4.out.cell (i := 2) (by omega); have qf4 := R4.out.frozen 2; have q5 := R4.out.cell (i := 1) (by omega); have qf5 := R4.out.frozen 1; have HO4 := hid hown4; have HG4 := hid hgrow4; clear hown4 hgrow4 hat4; refine Hid.out ?_)
  refine hid ?_
  rw [show ∀ u, wrc vars ct u 2 = u from fun _ => rfl] at q4
  rw [show ∀ u, wrc vars ct u 1 = .int .i64 ct from fun _ => rfl] at q5
  have hn4 : (Value.slice (some ⟨g4, 0, none⟩) (bs.length + 2) cap4).ownBlock ≠ some wb := own_not_row HO4.out R4.out (by decide)
  have W4 := H.out.txt (bs' := bs ++ [48, 10]) _ R4.out (by rw [List.length_append, Lib.byteCells_append]; exact HO4.out) hn4 (by rw [List.length_append]; omega)
  have q6 := W4.c1
  have qf6 := W4.row.frozen 1
  have HW4 := hid W4
  have HN4 := hid hn4
  have hcI : (ct : Int) ≤ 1000000000 := by omega
  clear W4 hn4
  go_wp2_with fail
  go_end0
  refine ⟨rfl, .slice (some ⟨g4, 0, none⟩) (bs.length + 2) cap4, ?_, ?_, ?_⟩
  · have := HW4.out.cnt (ct + 1) (by rw [List.length_append]; simp; omega)
    simpa using this
  · exact (((((Below.refl B w).alloc hBw _).grown HG4.out (by simp; omega) (fun q hq => (H.out.own.lt q hq).1)).setCell (p := ⟨wb, 2, none⟩) H.out.hb _).setCell (p := ⟨wb, 1, none⟩) H.out.hb _)
  · exact Lib.OthersKept.setCell (Lib.OthersKept.setCell (Lib.OthersKept.grown ((Lib.OthersKept.refl _ _ w).alloc _) HG4.out (fun g hg => own_bytes (H.out.own.alloc _) hg)) ⟨wb, 2, none⟩ rfl _) ⟨wb, 1, none⟩ rfl _
def clauseB (a b c : Int) : List UInt8 := litB a ++ litB b ++ litB c ++ [48, 10]
set_option maxRecDepth 100000 in
set_option maxHeartbeats 1000000 in
theorem clause_any (h : WrAt B wb vars ct bs vt w) (hBw : B ≤ w.heap.size) (a b c : Int) (ha : Lit64 a) (hb : Lit64 b) (hc : Lit64 c) (hlim : bs.length ≤ 900000000) (htab : TabB B w) :
    Calls Tryz.prog 80 #[.pointer (some ⟨wb, 0, none⟩), .int .i64 a, .int .i64 b, .int .i64 c] w fun e w' => e = .returned (.tuple #[]) ∧ ∃ vt', WrAt B wb vars (ct + 1) (bs ++ clauseB a b c) vt' w' ∧ WFr B wb w w' := by
  have H := hid h
  have HT := hid htab
  have la := litB_len ha
  have lb := litB_len hb
  have lc := litB_len hc
  have HA := hid ha
  have HB := hid hb
  have HC := hid hc
  clear h htab ha hb hc
  go_enter Tryz.func80, Tryz.ntmps80
  go_wp2_with (go_at_call 81; refine (literal_any H.out hBw a HA.out (by omega) HT.out).mono ?_; rintro e w1 ⟨rfl, v1, h1, f1⟩; have H1 := hid h1; have F1 := hid f1; have z1 := f1.1.size; clear h1 f1; refine Hid.out ?_)
  refine hid ?_
  have L1 : (bs ++ litB a).length ≤ 1000000000 := by rw [List.length_append]; omega
  go_wp2_with (go_at_call 81; refine (literal_any H1.out (by omega) b HB.out L1 (HT.out.on F1.out.1)).mono ?_; rintro e w2 ⟨rfl, v2, h2, f2⟩; have H2 := hid h2; have F2 := hid f2; have z2 := f2.1.size; clear h2 f2; refine Hid.out ?_)
  refine hid ?_
  have L2 : (bs ++ litB a ++ litB b).length ≤ 1000000000 := by rw [List.length_append, List.length_append]; omega
  go_wp2_with (go_at_call 81; refine (literal_any H2.out (by omega) c HC.out L2 (HT.out.on (F1.out.1.trans F2.out.1))).mono ?_; rintro e w3 ⟨rfl, v3, h3, f3⟩; have H3 := hid h3; have F3 := hid f3; have z3 := f3.1.size; clear h3 f3; refine Hid.out ?_)
  refine hid ?_
  have L3 : (bs ++ litB a ++ litB b ++ litB c).length ≤ 1000000000 := by rw [List.length_append, List.length_append, List.length_append]; omega
  go_wp2_with (go_at_call 82; refine (end_any H3.out (by omega) L3).mono ?_; rintro e w4 ⟨rfl, v4, h4, f4⟩; have H4 := hid h4; have F4 := hid f4; clear h4 f4)
  go_end0
  refine ⟨rfl, v4, ?_, ((F1.out.trans F2.out).trans F3.out).trans F4.out⟩
  have e : bs ++ clauseB a b c = bs ++ litB a ++ litB b ++ litB c ++ [48, 10] := by unfold clauseB; simp
  rw [e]
  exact H4.out
end
theorem own_later_frm {w w' : World} {base wb n sz : Nat} {t : TypeId} {v : Value} {xs : List Value} (h : w.ownsRow base t sz v n xs) (hf : Frm 0 (fun k => k = wb) w w') (hne : v.ownBlock ≠ some wb) : w'.ownsRow base t sz v n xs :=
  ownsRow_blk h (fun k e => hf.keep k (h.lt k e).2 (fun c => hne (by rw [← show k = wb from c]; exact e)))
def freshL (v n : Nat) : List Nat := (List.range n).map fun i => v + 1 + i
theorem freshL_succ (v n : Nat) : freshL v (n + 1) = freshL v n ++ [v + 1 + n] := by
  unfold freshL
  rw [List.range_succ, List.map_append]
  rfl
theorem freshL_len (v n : Nat) : (freshL v n).length = n := by simp [freshL]
set_option maxRecDepth 100000 in
set_option maxHeartbeats 1000000 in
theorem fresh_any {B wb vars ct : Nat} {bs : List UInt8} {vt : Value} {w : World} (h : WrAt B wb vars ct bs vt w) (n : Nat) (hn : n ≤ 1000) (hv : vars ≤ 100000000) :
    Calls Tryz.prog 41 #[.pointer (some ⟨wb, 0, none⟩), .int .i64 n] w fun e w' => ∃ a c, e = .returned (.slice a n c) ∧ w'.ownsRow w.heap.size 3 1 (.slice a n c) n ((freshL vars n).map fun (n : Nat) => .int .i64 n) ∧ WrAt B wb (vars + n) ct bs vt w' ∧ Frm 0 (fun k => k = wb) w w' := by
  obtain ⟨t0, ht0, hz0, hz1, hz2⟩ := info_parts Tryz.infoInt
  have H := hid h
  have hrl := h.row.lt
  have hnI : (n : Int) ≤ 1000 := by omega
  have hvI : (vars : Int) ≤ 100000000 := by omega
  obtain ⟨av, cv, ev⟩ := body_val h.own
  subst ev
  clear h
  go_enter Tryz.func41, Tryz.ntmps41
  go_wp2_with fail
  go_loopw [5, 6] (fun v c wr => ∃ i : Nat, i ≤ n ∧ c = .int .i64 i ∧ wr.ownsRow w.heap.size 3 1 v i ((freshL vars i).map fun (n : Nat) => .int .i64 n) ∧ wr.rowIs wb 113 3 (wrc (vars + i) ct (.slice av bs.length cv)) ∧ Frm 0 (fun k => k = wb) w wr) (fun _ c _ => n - (intOf c).toNat)
  case atStart => exact ⟨0, Nat.zero_le _, rfl, World.ownsRow_nil _ _ _ _, H.out.row, Frm.refl _ _ _⟩
  case round =>
    obtain ⟨i, hin, rfl, hown, hrow, hfr⟩ := hrel
    obtain ⟨ao, co, eo⟩ := body_val hown
    subst eo
    have HO := hid hown
    have HR := hid hrow
    have HF := hid hfr
    have z := hfr.bel.size
    have r0 := hrow.cell (i := 0) (by omega)
    rw [show ∀ x u, wrc x ct u 0 = .int .i64 x from fun _ _ => rfl] at r0
    have f0 := hrow.frozen 0
    have hl2 := hrow.lt
    have hnw : (Value.slice ao i co).ownBlock ≠ some wb := fun e => by have := (hown.lt wb e).1; omega
    have HNW := hid hnw
    clear hown hrow hfr hnw
    by_cases hlt : i < n
    · have hiI : (i : Int) < 1000 := by omega
      have HS := hid (freshL_succ vars i)
      obtain ⟨y, hy⟩ : ∃ y, vars + i = y := ⟨_, rfl⟩
      have hyI : (y : Int) ≤ 100001000 := by omega
      rw [hy] at r0 HR
      have HY := hid (show vars + (i + 1) = y + 1 by omega)
      have HY2 := hid (show vars + 1 + i = y + 1 by omega)
      have HR2 := hid ((HR.out.set 0 (.int .i64 ((y : Int) + 1))).congr (fun j hj => show _ = wrc (y + 1) ct (.slice av bs.length cv) j by
        match j, hj with
        | 0, _ => rfl
        | 1, _ => rfl
        | 2, _ => rfl
        | n + 3, h => omega))
      have c0 := HR2.out.cell (i := 0) (by omega)
      rw [show ∀ u, wrc (y + 1) ct u 0 = .int .i64 ((y : Int) + 1) from fun _ => rfl] at c0
      have HO2 := hid (ownsRow_setCell (i := 0) HO.out HNW.out (.int .i64 ((y : Int) + 1)))
      have HF2 := hid (HF.out.setCell (p := ⟨wb, 0, none⟩) (Nat.zero_le _) rfl (.int .i64 ((y : Int) + 1)))
      clear hy
      go_wp2_with (first | (at_builtin; refine wpList_append_lies _ rfl _ _ 24 rfl w.heap.size 3 t0 _ 1 8 Tryz.underlying24 ht0 hz0 hz1 hz2 rfl (by omega) _ i ((freshL vars i).map fun (n : Nat) => .int .i64 n) rfl (HO2.out.alloc _) ⟨wr.heap.size, 0, none⟩ 1 1 [.int .i64 ((y : Int) + 1)] rfl rfl (by have h := cell_one_new (wr.setCell ⟨wb, 0, none⟩ (.int .i64 ((y : Int) + 1))) (.int .i64 ((y : Int) + 1)) 3; simpa using h) (by simp [Value.oneCell']) (by omega) (by unfold maxLen; omega) (by omega) (by simp; omega) (wr.heap.size + 1) (by simp) ?_; intro g4 cap4 w4 hown4 hgrow4 hat4 hlt4))
      go_roundw
      case rel =>
        refine ⟨i + 1, by omega, by go_num, ?_, ?_, ?_⟩
        · rw [HS.out, HY2.out, List.map_append]
          exact hown4
        · rw [HY.out]
          exact rowIs_grown (HR2.out.alloc _) hgrow4 HNW.out
        · exact (((HF2.out.alloc (Nat.zero_le _) _).down).trans (Frm.grown (Frm.refl 0 (fun k => (Value.slice ao i co).ownBlock = some k) _) hgrow4 (Nat.zero_le _) (fun k e => ⟨Nat.zero_le _, e⟩)) (fun k hk e => by have := (HO.out.lt k e).1; omega))
      case measure => simp [intOf]; omega
    · have hie : n = i := by omega
      subst hie
      go_wp2_with fail
      go_ret
      exact ⟨_, _, rfl, HO.out, ⟨HR.out, H.out.cb, own_later_frm H.out.own HF.out H.out.ne, H.out.hb, H.out.ne⟩, HF.out⟩
theorem WrAt.alloc {B wb vars ct : Nat} {bs : List UInt8} {vt : Value} {w : World} (h : WrAt B wb vars ct bs vt w) (o : Obj) : WrAt B wb vars ct bs vt (w.alloc o) := ⟨h.row.alloc o, h.cb, h.own.alloc o, h.hb, h.ne⟩
theorem TabB.alloc {B : Nat} {w : World} (h : TabB B w) (hB : B ≤ w.heap.size) (o : Obj) : TabB B (w.alloc o) := h.on ((Below.refl B w).alloc hB o)
theorem WFr.alloc {B wb : Nat} {a w : World} (h : WFr B wb a w) (hB : B ≤ w.heap.size) (o : Obj) : WFr B wb a (w.alloc o) := ⟨h.1.alloc hB o, h.2.alloc o⟩
def sameB (N : List Nat) (v : Int) (node : Nat) (u : Int) : List UInt8 :=
  if node = 0 then clauseB (-v) u 0 else if node = 1 then clauseB v u 0 else clauseB (-v) u (N.getD node 0) ++ clauseB v u (-(N.getD node 0 : Int))
def sameC (node : Nat) : Nat := if node ≤ 1 then 1 else 2
theorem clauseB_len {a b c : Int} (ha : Lit64 a) (hb : Lit64 b) (hc : Lit64 c) : (clauseB a b c).length ≤ 68 := by
  have := litB_len ha
  have := litB_len hb
  have := litB_len hc
  unfold clauseB
  simp
  omega
section
variable {B wb vars ct : Nat} {bs : List UInt8} {vt : Value} {w : World}
set_option maxRecDepth 100000 in
set_option maxHeartbeats 1000000 in
theorem same_leaf (h : WrAt B wb vars ct bs vt w) (hBw : B ≤ w.heap.size) (v u : Int) (hv : -1000000000 ≤ v ∧ v ≤ 1000000000) (hu : -1000000000 ≤ u ∧ u ≤ 1000000000) (node : Nat) (hn : node ≤ 1) (a1 a2 a3 : Option Addr) (n1 c1 n2 c2 n3 c3 : Nat) (N : List Nat) (hlim : bs.length ≤ 800000000) (htab : TabB B w) :
    Calls Tryz.prog 79 #[.pointer (some ⟨wb, 0, none⟩), .int .i64 v, .int .i64 node, .agg #[.slice a1 n1 c1, .slice a2 n2 c2, .slice a3 n3 c3], .int .i64 u] w fun e w' => e = .returned (.tuple #[]) ∧ ∃ vt', WrAt B wb vars (ct + sameC node) (bs ++ sameB N v node u) vt' w' ∧ WFr B wb w w' := by
  have H := hid h
  have HT := hid htab
  clear h htab
  have HV : Hid (Lit64 v) := ⟨by omega, by omega⟩
  have HV2 : Hid (Lit64 (-v)) := ⟨by omega, by omega⟩
  have HU : Hid (Lit64 u) := ⟨by omega, by omega⟩
  have H0 : Hid (Lit64 0) := ⟨by omega, by omega⟩
  have hv1 := hv.1
  have hv2 := hv.2
  obtain rfl | rfl : node = 0 ∨ node = 1 := by omega
  · go_enter Tryz.func79, Tryz.ntmps79
    go_wp2_with (go_at_call 80; refine (clause_any (H.out.alloc _) (by simp; omega) (-v) u 0 HV2.out HU.out H0.out (by omega) (HT.out.alloc hBw _)).mono ?_; rintro e w1 ⟨rfl, v1, h1, f1⟩; have H1 := hid h1; have F1 := hid f1; clear h1 f1)
    go_end0
    exact ⟨rfl, v1, H1.out, ((WFr.refl B wb w).alloc hBw _).trans F1.out⟩
  · go_enter Tryz.func79, Tryz.ntmps79
    go_wp2_with (go_at_call 80; refine (clause_any (H.out.alloc _) (by simp; omega) v u 0 HV.out HU.out H0.out (by omega) (HT.out.alloc hBw _)).mono ?_; rintro e w1 ⟨rfl, v1, h1, f1⟩; have H1 := hid h1; have F1 := hid f1; clear h1 f1)
    go_end0
    exact ⟨rfl, v1, H1.out, ((WFr.refl B wb w).alloc hBw _).trans F1.out⟩
def runc (a1 a2 a3 : Option Addr) (n1 c1 n2 c2 n3 c3 : Nat) (i : Nat) : Value := if i = 0 then .slice a1 n1 c1 else if i = 1 then .slice a2 n2 c2 else .slice a3 n3 c3
theorem run_new (w : World) (a1 a2 a3 : Option Addr) (n1 c1 n2 c2 n3 c3 : Nat) : (w.alloc (.cells #[.slice a1 n1 c1, .slice a2 n2 c2, .slice a3 n3 c3] 115)).rowIs w.heap.size 115 3 (runc a1 a2 a3 n1 c1 n2 c2 n3 c3) :=
  World.rowIs_alloc w #[.slice a1 n1 c1, .slice a2 n2 c2, .slice a3 n3 c3] 115 (runc a1 a2 a3 n1 c1 n2 c2 n3 c3) (fun i hi => by
    match i, hi with
    | 0, _ => rfl
    | 1, _ => rfl
    | 2, _ => rfl
    | n + 3, h => exact absurd (show n + 3 < 3 from h) (by omega))
set_option maxRecDepth 100000 in
set_option maxHeartbeats 1000000 in
theorem same_node (h : WrAt B wb vars ct bs vt w) (hBw : B ≤ w.heap.size) (v u : Int) (hv : -1000000000 ≤ v ∧ v ≤ 1000000000) (hu : -1000000000 ≤ u ∧ u ≤ 1000000000) (node : Nat) (hn : 2 ≤ node) (a1 a2 a3 : Option Addr) (n1 c1 c2 n3 c3 : Nat) (N : List Nat) (hN : w.ownsRow 0 3 1 (.slice a2 N.length c2) N.length (N.map fun (n : Nat) => .int .i64 n)) (hnN : node < N.length) (hN9 : N.getD node 0 ≤ 1000000000) (hNl : N.length ≤ 1000000000) (hlim : bs.length ≤ 800000000) (htab : TabB B w) :
    Calls Tryz.prog 79 #[.pointer (some ⟨wb, 0, none⟩), .int .i64 v, .int .i64 node, .agg #[.slice a1 n1 c1, .slice a2 N.length c2, .slice a3 n3 c3], .int .i64 u] w fun e w' => e = .returned (.tuple #[]) ∧ ∃ vt', WrAt B wb vars (ct + sameC node) (bs ++ sameB N v node u) vt' w' ∧ WFr B wb w w' := by
  obtain ⟨g, cap, hgv, _, hglt⟩ := hN.form (by omega)
  cases hgv
  have nc := nats_at hN node hnN
  have HNK := hid hN
  have hgw : g ≠ wb := fun e => own_not_row hN h.row (by decide) (by rw [← e]; rfl)
  have HS := hid (show sameB N v node u = clauseB (-v) u (N.getD node 0) ++ clauseB v u (-(N.getD node 0 : Int)) by unfold sameB; rw [if_neg (by omega), if_neg (by omega)])
  generalize N.getD node 0 = y at nc hN9 HS
  have H := hid h
  have HT := hid htab
  have hwbl := h.row.lt
  have hrow := run_new w a1 (some ⟨g, 0, none⟩) a3 n1 c1 N.length c2 n3 c3
  have HRW := hid hrow
  have NC := hid nc
  clear h htab hN
  have HV : Hid (Lit64 v) := ⟨by omega, by omega⟩
  have HV2 : Hid (Lit64 (-v)) := ⟨by omega, by omega⟩
  have HU : Hid (Lit64 u) := ⟨by omega, by omega⟩
  have HY : Hid (Lit64 (y : Int)) := ⟨by omega, by omega⟩
  have HY2 : Hid (Lit64 (-(y : Int))) := ⟨by omega, by omega⟩
  have hv1 := hv.1
  have hv2 := hv.2
  have hnI : (node : Int) < (N.length : Int) := by omega
  have hn2 : ((node : Int) == 0) = false := by simp; omega
  have hn3 : ((node : Int) == 1) = false := by simp; omega
  have hyI : (y : Int) ≤ 1000000000 := by omega
  clear hrow
  go_enter Tryz.func79, Tryz.ntmps79
  go_wp2_with (go_at_call 80; refine (clause_any (H.out.alloc _) (by simp; omega) (-v) u y HV2.out HU.out HY.out (by omega) (HT.out.alloc hBw _)).mono ?_; rintro e w1 ⟨rfl, v1, h1, f1⟩; have H1 := hid h1; have F1 := hid f1; have z1 := f1.1.size; clear h1 f1; refine Hid.out ?_)
  refine hid ?_
  have R1 := row_kept HRW.out F1.out.2 (by simp; omega) (by decide)
  have q1 := R1.cell (i := 1) (by omega)
  rw [show runc a1 (some ⟨g, 0, none⟩) a3 n1 c1 N.length c2 n3 c3 1 = .slice (some ⟨g, 0, none⟩) N.length c2 from rfl] at q1
  have O1 := own_kept (HNK.out.alloc (.cells #[.slice a1 n1 c1, .slice (some ⟨g, 0, none⟩) N.length c2, .slice a3 n3 c3] 115)) F1.out.2 (fun g' e => by have e : g = g' := (by simpa [Value.ownBlock] using e); rw [← e]; simpa using hgw) (by decide)
  have y1 : w1.cell? ⟨g, node, none⟩ = some (.int .i64 y) := by
    have e1 := O1.cellAt node (by omega)
    have e2 := HNK.out.cellAt node (by omega)
    rw [e1, ← e2]
    exact NC.out
  have hbl : bs.length + 68 ≤ 900000000 := by omega
  have L1 : (bs ++ clauseB (-v) u y).length ≤ 900000000 := by rw [List.length_append]; have := clauseB_len HV2.out HU.out HY.out; omega
  clear R1 O1
  have z2 : B ≤ w1.heap.size := by simp at z1; omega
  go_wp2_with (go_at_call 80; refine (clause_any H1.out z2 v u (-(y : Int)) HV.out HU.out HY2.out L1 ((HT.out.alloc hBw _).on F1.out.1)).mono ?_; rintro e w2 ⟨rfl, v2, h2, f2⟩; have H2 := hid h2; have F2 := hid f2; clear h2 f2)
  go_end0
  refine ⟨rfl, v2, ?_, (((WFr.refl B wb w).alloc hBw _).trans F1.out).trans F2.out⟩
  rw [HS.out, ← List.append_assoc, show sameC node = 2 from if_neg (by omega)]
  exact H2.out
end
section
variable {B wb vars ct : Nat} {bs : List UInt8} {vt : Value} {w : World}
theorem same_any (h : WrAt B wb vars ct bs vt w) (hBw : B ≤ w.heap.size) (v u : Int) (hv : -1000000000 ≤ v ∧ v ≤ 1000000000) (hu : -1000000000 ≤ u ∧ u ≤ 1000000000) (node : Nat) (a1 a2 a3 : Option Addr) (n1 c1 c2 n3 c3 : Nat) (N : List Nat) (hN : w.ownsRow 0 3 1 (.slice a2 N.length c2) N.length (N.map fun (n : Nat) => .int .i64 n)) (hnN : node < N.length) (hN9 : N.getD node 0 ≤ 1000000000) (hNl : N.length ≤ 1000000000) (hlim : bs.length ≤ 800000000) (htab : TabB B w) :
    Calls Tryz.prog 79 #[.pointer (some ⟨wb, 0, none⟩), .int .i64 v, .int .i64 node, .agg #[.slice a1 n1 c1, .slice a2 N.length c2, .slice a3 n3 c3], .int .i64 u] w fun e w' => e = .returned (.tuple #[]) ∧ ∃ vt', WrAt B wb vars (ct + sameC node) (bs ++ sameB N v node u) vt' w' ∧ WFr B wb w w' := by
  by_cases h1 : node ≤ 1
  · exact same_leaf h hBw v u hv hu node h1 a1 a2 a3 n1 c1 N.length c2 n3 c3 N hlim htab
  · exact same_node h hBw v u hv hu node (by omega) a1 a2 a3 n1 c1 c2 n3 c3 N hN hnN hN9 hNl hlim htab
theorem sameB_len (N : List Nat) {v u : Int} (hv : -1000000000 ≤ v ∧ v ≤ 1000000000) (hu : -1000000000 ≤ u ∧ u ≤ 1000000000) (node : Nat) (h9 : N.getD node 0 ≤ 1000000000) : (sameB N v node u).length ≤ 136 := by
  have l1 := @clauseB_len (-v) u 0 ⟨by omega, by omega⟩ ⟨by omega, by omega⟩ ⟨by omega, by omega⟩
  have l2 := @clauseB_len v u 0 ⟨by omega, by omega⟩ ⟨by omega, by omega⟩ ⟨by omega, by omega⟩
  have l3 := @clauseB_len (-v) u (N.getD node 0) ⟨by omega, by omega⟩ ⟨by omega, by omega⟩ ⟨by omega, by omega⟩
  have l4 := @clauseB_len v u (-(N.getD node 0 : Int)) ⟨by omega, by omega⟩ ⟨by omega, by omega⟩ ⟨by omega, by omega⟩
  unfold sameB
  split
  · omega
  · split
    · omega
    · rw [List.length_append]; omega
def nodeB (bits N : List Nat) (v : Int) (bit lo hi : Nat) : List UInt8 := sameB N v lo (bits.getD bit 0) ++ sameB N v hi (-(bits.getD bit 0 : Int))
def nodec (bit lo hi : Nat) (sec : Bool) (i : Nat) : Value := if i = 0 then .int .i64 bit else if i = 1 then .int .i64 lo else if i = 2 then .int .i64 hi else .bool sec
theorem node_new (w : World) (bit lo hi : Nat) (sec : Bool) : (w.alloc (.cells #[.int .i64 bit, .int .i64 lo, .int .i64 hi, .bool sec] 160)).rowIs w.heap.size 160 4 (nodec bit lo hi sec) :=
  World.rowIs_alloc w #[.int .i64 bit, .int .i64 lo, .int .i64 hi, .bool sec] 160 (nodec bit lo hi sec) (fun i hi => by
    match i, hi with
    | 0, _ => rfl
    | 1, _ => rfl
    | 2, _ => rfl
    | 3, _ => rfl
    | n + 4, h => exact absurd (show n + 4 < 4 from h) (by omega))
set_option maxRecDepth 100000 in
set_option maxHeartbeats 1000000 in
theorem wnode_any (h : WrAt B wb vars ct bs vt w) (hBw : B ≤ w.heap.size) (v : Int) (hv : -1000000000 ≤ v ∧ v ≤ 1000000000) (bit lo hi : Nat) (sec : Bool) (a1 a2 a3 : Option Addr) (c1 c2 n3 c3 : Nat) (bits N : List Nat) (hb : w.ownsRow 0 3 1 (.slice a1 bits.length c1) bits.length (bits.map fun (n : Nat) => .int .i64 n)) (hN : w.ownsRow 0 3 1 (.slice a2 N.length c2) N.length (N.map fun (n : Nat) => .int .i64 n)) (hbl : bit < bits.length) (hlo : lo < N.length) (hhi : hi < N.length) (hN9 : ∀ i, N.getD i 0 ≤ 1000000000) (hb9 : bits.getD bit 0 ≤ 1000000000) (hNl : N.length ≤ 1000000000) (hbl9 : bits.length ≤ 1000000000) (hlim : bs.length ≤ 700000000) (htab : TabB B w) :
    Calls Tryz.prog 78 #[.pointer (some ⟨wb, 0, none⟩), .int .i64 v, .agg #[.int .i64 bit, .int .i64 lo, .int .i64 hi, .bool sec], .agg #[.slice a1 bits.length c1, .slice a2 N.length c2, .slice a3 n3 c3]] w fun e w' => e = .returned (.tuple #[]) ∧ ∃ vt', WrAt B wb vars (ct + (sameC lo + sameC hi)) (bs ++ nodeB bits N v bit lo hi) vt' w' ∧ WFr B wb w w' := by
  obtain ⟨g, cap, hgv, _, hglt⟩ := hb.form (by omega)
  cases hgv
  have nc := nats_at hb bit hbl
  have HS := hid (show nodeB bits N v bit lo hi = sameB N v lo (bits.getD bit 0) ++ sameB N v hi (-(bits.getD bit 0 : Int)) from rfl)
  generalize bits.getD bit 0 = y at nc hb9 HS
  have H := hid h
  have HT := hid htab
  have HNK := hid hN
  have hwbl := h.row.lt
  have hbI : (bit : Int) < (bits.length : Int) := by omega
  have hyI : (y : Int) ≤ 1000000000 := by omega
  clear h htab hN hb
  obtain ⟨w0, hw0⟩ : ∃ w0 : World, (w.alloc (.cells #[.int .i64 bit, .int .i64 lo, .int .i64 hi, .bool sec] 160)).alloc (.cells #[.slice (some ⟨g, 0, none⟩) bits.length c1, .slice a2 N.length c2, .slice a3 n3 c3] 115) = w0 := ⟨_, rfl⟩
  have hz0 : w0.heap.size = w.heap.size + 2 := by rw [← hw0]; simp
  have HW0 := hid ((H.out.alloc (.cells #[.int .i64 bit, .int .i64 lo, .int .i64 hi, .bool sec] 160)).alloc (.cells #[.slice (some ⟨g, 0, none⟩) bits.length c1, .slice a2 N.length c2, .slice a3 n3 c3] 115))
  have HT0 := hid ((HT.out.alloc hBw (.cells #[.int .i64 bit, .int .i64 lo, .int .i64 hi, .bool sec] 160)).alloc (by simp; omega) (.cells #[.slice (some ⟨g, 0, none⟩) bits.length c1, .slice a2 N.length c2, .slice a3 n3 c3] 115))
  have HN0 := hid ((HNK.out.alloc (.cells #[.int .i64 bit, .int .i64 lo, .int .i64 hi, .bool sec] 160)).alloc (.cells #[.slice (some ⟨g, 0, none⟩) bits.length c1, .slice a2 N.length c2, .slice a3 n3 c3] 115))
  have HF0 := hid (((WFr.refl B wb w).alloc hBw (.cells #[.int .i64 bit, .int .i64 lo, .int .i64 hi, .bool sec] 160)).alloc (by simp; omega) (.cells #[.slice (some ⟨g, 0, none⟩) bits.length c1, .slice a2 N.length c2, .slice a3 n3 c3] 115))
  have HR0 := hid ((node_new w bit lo hi sec).alloc (.cells #[.slice (some ⟨g, 0, none⟩) bits.length c1, .slice a2 N.length c2, .slice a3 n3 c3] 115))
  have HQ0 := hid (run_new (w.alloc (.cells #[.int .i64 bit, .int .i64 lo, .int .i64 hi, .bool sec] 160)) (some ⟨g, 0, none⟩) a2 a3 bits.length c1 N.length c2 n3 c3)
  rw [hw0] at HW0 HT0 HN0 HF0 HR0 HQ0
  have HE := hid hw0
  clear hw0
  have hnwb : (Value.slice a2 N.length c2).ownBlock ≠ some wb := own_not_row HNK.out H.out.row (by decide)
  have HNW := hid hnwb
  clear hnwb
  have HV := hid hv
  have hB0 : B ≤ w0.heap.size := by omega
  have HL : Hid ((bs ++ sameB N v lo y).length ≤ 800000000) := by
    have := sameB_len N (u := (y : Int)) hv ⟨by omega, by omega⟩ lo (hN9 lo)
    refine hid ?_
    rw [List.length_append]
    omega
  go_enter Tryz.func78, Tryz.ntmps78
  go_wp2_with (go_at_call 79; rw [HE.out]; refine (same_any HW0.out hB0 v y HV.out ⟨by omega, by omega⟩ lo _ a2 a3 _ _ c2 n3 c3 N HN0.out hlo (hN9 lo) hNl (by omega) HT0.out).mono ?_; rintro e w1 ⟨rfl, v1, h1, f1⟩; have H1 := hid h1; have F1 := hid f1; have z1 := f1.1.size; clear h1 f1; refine Hid.out ?_)
  refine hid ?_
  have R1 := row_kept HR0.out F1.out.2 (by simp; omega) (by decide)
  have n2 := R1.cell (i := 2) (by omega)
  rw [show nodec bit lo hi sec 2 = .int .i64 hi from rfl] at n2
  have Q1 := row_kept HQ0.out F1.out.2 (by simp; omega) (by decide)
  have q0 := Q1.cell (i := 0) (by omega)
  have q1 := Q1.cell (i := 1) (by omega)
  have q2 := Q1.cell (i := 2) (by omega)
  simp only [World.size_alloc] at q0 q1 q2
  rw [show runc (some ⟨g, 0, none⟩) a2 a3 bits.length c1 N.length c2 n3 c3 0 = .slice (some ⟨g, 0, none⟩) bits.length c1 from rfl] at q0
  rw [show runc (some ⟨g, 0, none⟩) a2 a3 bits.length c1 N.length c2 n3 c3 1 = .slice a2 N.length c2 from rfl] at q1
  rw [show runc (some ⟨g, 0, none⟩) a2 a3 bits.length c1 N.length c2 n3 c3 2 = .slice a3 n3 c3 from rfl] at q2
  clear R1 Q1
  have O1 := hid (own_kept HN0.out F1.out.2 (fun g' e => by intro e2; cases e2; exact HNW.out e) (by decide))
  have hB1 : B ≤ w1.heap.size := by omega
  go_wp2_with (go_at_call 79; refine (same_any H1.out hB1 v (-(y : Int)) HV.out ⟨by omega, by omega⟩ hi _ a2 a3 _ _ c2 n3 c3 N O1.out hhi (hN9 hi) hNl HL.out (HT0.out.on F1.out.1)).mono ?_; rintro e w2 ⟨rfl, v2, h2, f2⟩; have H2 := hid h2; have F2 := hid f2; clear h2 f2)
  go_end0
  refine ⟨rfl, v2, ?_, (HF0.out.trans F1.out).trans F2.out⟩
  rw [HS.out, ← List.append_assoc, ← Nat.add_assoc]
  exact H2.out
end
end Go.Proofs.YtgddmpmcnjlcjabGreatDoor
