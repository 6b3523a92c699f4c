import Derived.Test.YtgddmpmcnjlcjabDoorB20
import Derived.Shelf.Strconv.AppendIntPublic10
import Derived.Shelf.Lay
import Derived.Ground.NamesProg
import Derived.Lib.ItoaLen
import Derived.Lib.AppendIntMem
import Derived.Deep.QuietTactic
import Derived.BigQuiet
namespace Go.Proofs.YtgddmpmcnjlcjabDoor
open Go.RowKit Go.Shelf
set_option linter.unusedVariables false
shelf_lay LaysM.n176 Nm 176 at Tryd as Tryd.laysAI
theorem appendInt_any (B n : Nat) (i : Int) (h0 : -9223372036854775808 ≤ i) (h1 : i ≤ 9223372036854775807) (sv : Value) (xs : List Value) (w : World) (hown : w.ownsRow B 5 1 sv n xs) (hBw : B ≤ w.heap.size) (hlim : n + 21 ≤ 140737488355328)
    (htab : Lib.TabBelow Tryd.prog B w "internal/strconv.uint64pow10" .u64 Lib.pow10Tab) :
    Calls Tryd.prog 86 #[sv, .int .i64 i, .int .i64 10] w fun e w' => ∃ v', e = .returned v' ∧ w'.ownsRow B 5 1 v' (n + (Lib.itoa i).length) (xs ++ Lib.byteCells (Lib.itoa i)) ∧ RowKit.Below B w w' ∧ Lib.OthersKept 5 none w w' := Any.strconv_AppendInt_10 Tryd.laysAI B n i h0 h1 sv xs w hown hBw hlim htab
end Go.Proofs.YtgddmpmcnjlcjabDoor
namespace Go.Proofs.YtgddmpmcnjlcjabDoor
open Go.RowKit
set_option linter.unusedVariables false
theorem Tryd.infoByte : (Tryd.prog.info? 5).map (fun i => (i.zero, i.size, i.bytes)) = some (some (.int .u8 0), 1, 1) := by kernel_rfl
def wrc (vars ct : Nat) (vt : Value) (i : Nat) : Value := if i = 0 then .int .i64 vars else if i = 1 then .int .i64 ct else vt
structure WrAt (B wb : Nat) (vars ct : Nat) (bs : List UInt8) (vt : Value) (w : World) : Prop where
  row : w.rowIs wb 103 3 (wrc vars ct vt)
  cb : ct ≤ bs.length
  own : w.ownsRow B 5 1 vt bs.length (Lib.byteCells bs)
  hb : B ≤ wb
  ne : vt.ownBlock ≠ some wb
abbrev WFr (B wb : Nat) (w w' : World) : Prop := Below B w w' ∧ Lib.OthersKept 5 (some wb) w w'
theorem row_kept {w w' : World} {b : Nat} {t e : TypeId} {n : Nat} {f : Nat → Value} {bo : Option Nat} (h : w.rowIs b t n f) (hk : Lib.OthersKept e bo w w') (hb : some b ≠ bo) (ht : t ≠ e) : w'.rowIs b t n f := by
  obtain ⟨cs, hg, hs, hc⟩ := h
  exact ⟨cs, hk b _ hg hb (fun c fz e => ht (by cases e; rfl)), hs, hc⟩
theorem own_kept {w w' : World} {base : Nat} {t e : TypeId} {sz n : Nat} {v : Value} {xs : List Value} {bo : Option Nat} (h : w.ownsRow base t sz v n xs) (hk : Lib.OthersKept e bo w w') (hb : ∀ g, v.ownBlock = some g → some g ≠ bo) (ht : t ≠ e) : w'.ownsRow base t sz v n xs := by
  refine ⟨h.1, ?_⟩
  rcases h.2 with hn | ⟨g, cap, cur, rfl, hb', hgg, rest⟩
  · exact .inl hn
  · exact .inr ⟨g, cap, cur, rfl, hb', hk g _ hgg (hb g rfl) (fun c fz e => ht (by cases e; rfl)), rest⟩
theorem own_not_row {w : World} {base b n m sz : Nat} {t e : TypeId} {v : Value} {xs : List Value} {f : Nat → Value} (h : w.ownsRow base e sz v n xs) (hr : w.rowIs b t m f) (ht : t ≠ e) : v.ownBlock ≠ some b := by
  intro hv
  obtain ⟨cs, hg, -⟩ := hr
  rcases h.2 with ⟨e1, _⟩ | ⟨g, cap, cur, rfl, _, hgg, _⟩
  · rw [e1] at hv; simp [Value.ownBlock] at hv
  · have e1 : g = b := by simpa [Value.ownBlock] using hv
    subst e1
    rw [hg] at hgg
    cases hgg
    exact ht rfl
theorem own_bytes {w : World} {base n sz : Nat} {e : TypeId} {v : Value} {xs : List Value} (h : w.ownsRow base e sz v n xs) {g : Nat} (hv : v.ownBlock = some g) : ∃ c fz, w.heap[g]? = some (.cells c e fz) := by
  rcases h.2 with ⟨e1, _⟩ | ⟨g', cap, cur, rfl, _, hgg, _⟩
  · rw [e1] at hv; simp [Value.ownBlock] at hv
  · have e1 : g' = g := by simpa [Value.ownBlock] using hv
    subst e1
    exact ⟨_, _, hgg⟩
def litB (l : Int) : List UInt8 := if l = 0 then [] else Lib.itoa l ++ [32]
section
variable {B wb vars ct : Nat} {bs : List UInt8} {vt : Value} {w : World}
theorem WrAt.txt (h : WrAt B wb vars ct bs vt w) (u : Value) {bs' : List UInt8} {w' : World} (hr : w'.rowIs wb 103 3 (wrc vars ct vt)) (ho : w'.ownsRow B 5 1 u bs'.length (Lib.byteCells bs')) (hne : u.ownBlock ≠ some wb) (hc : bs.length ≤ bs'.length) : WrAt B wb vars ct bs' u (w'.setCell ⟨wb, 2, none⟩ u) :=
  ⟨(hr.set 2 u).congr (fun i hi => by
      match i, hi with
      | 0, _ => rfl
      | 1, _ => rfl
      | 2, _ => rfl
      | n + 3, h => omega), Nat.le_trans h.cb hc, ownsRow_setCell ho hne u, h.hb, hne⟩
theorem WrAt.cnt (h : WrAt B wb vars ct bs vt w) (c : Nat) (hc : c ≤ bs.length) : WrAt B wb vars c bs vt (w.setCell ⟨wb, 1, none⟩ (.int .i64 c)) :=
  ⟨(h.row.set 1 (.int .i64 c)).congr (fun i hi => by
      match i, hi with
      | 0, _ => rfl
      | 1, _ => rfl
      | 2, _ => rfl
      | n + 3, h => omega), hc, ownsRow_setCell h.own h.ne _, h.hb, h.ne⟩
theorem WrAt.var (h : WrAt B wb vars ct bs vt w) (c : Nat) : WrAt B wb c ct bs vt (w.setCell ⟨wb, 0, none⟩ (.int .i64 c)) :=
  ⟨(h.row.set 0 (.int .i64 c)).congr (fun i hi => by
      match i, hi with
      | 0, _ => rfl
      | 1, _ => rfl
      | 2, _ => rfl
      | n + 3, h => omega), h.cb, ownsRow_setCell h.own h.ne _, h.hb, h.ne⟩
theorem WrAt.c0 (h : WrAt B wb vars ct bs vt w) : w.cell? ⟨wb, 0, none⟩ = some (.int .i64 vars) := h.row.cell (i := 0) (by omega)
theorem WrAt.c1 (h : WrAt B wb vars ct bs vt w) : w.cell? ⟨wb, 1, none⟩ = some (.int .i64 ct) := h.row.cell (i := 1) (by omega)
theorem WrAt.c2 (h : WrAt B wb vars ct bs vt w) : w.cell? ⟨wb, 2, none⟩ = some vt := h.row.cell (i := 2) (by omega)
set_option maxRecDepth 100000 in
set_option maxHeartbeats 1000000 in
theorem literal_zero (h : WrAt B wb vars ct bs vt w) : Calls Tryd.prog 69 #[.pointer (some ⟨wb, 0, none⟩), .int .i64 0] w fun e w' => e = .returned (.tuple #[]) ∧ w' = w := by
  go_enter Tryd.func69, Tryd.ntmps69
  go_wp2_with fail
  exact bodyPost_ret (v := .tuple #[]) (by simp [results, Tryd.results69, go_sem]) rfl ⟨rfl, rfl⟩
set_option maxRecDepth 100000 in
set_option maxHeartbeats 1000000 in
theorem literal_some (h : WrAt B wb vars ct bs vt w) (hBw : B ≤ w.heap.size) (l : Int) (h0 : l ≠ 0) (hl0 : -9223372036854775808 ≤ l) (hl1 : l ≤ 9223372036854775807) (hlim : bs.length ≤ 1000000000) (htab : Lib.TabBelow Tryd.prog B w "internal/strconv.uint64pow10" .u64 Lib.pow10Tab) :
    Calls Tryd.prog 69 #[.pointer (some ⟨wb, 0, none⟩), .int .i64 l] w fun e w' => e = .returned (.tuple #[]) ∧ ∃ vt', WrAt B wb vars ct (bs ++ (Lib.itoa l ++ [32])) vt' w' ∧ WFr B wb w w' := by
  obtain ⟨t0, ht0, hz0, hz1, hz2⟩ := info_parts Tryd.infoByte
  obtain ⟨av, cv, ev⟩ := body_val h.own
  subst ev
  have H := hid h
  have HT := hid htab
  have r1 := h.c2
  have f1 := h.row.frozen 2
  have hrl := h.row.lt
  have hne : (l == 0) = false := by simpa using h0
  have lb := Lib.itoa_length_le l hl0 hl1
  clear h htab
  go_enter Tryd.func69, Tryd.ntmps69
  go_wp2_with (go_at_call 86; refine (appendInt_any B bs.length l hl0 hl1 _ _ _ H.out.own hBw (by omega) HT.out).mono ?_; rintro e w1 ⟨v1, he, ho1, hb1, hk1⟩; obtain ⟨a1, c1, e1⟩ := body_val ho1; subst e1; subst he; have HO1 := hid ho1; have HB1 := hid hb1; have HK1 := hid hk1; have z1 := hb1.size; have R1 := hid (row_kept H.out.row hk1 (by simp) (by decide)); have q1 := R1.out.cell (i := 2) (by omega); have qf := R1.out.frozen 2; clear ho1 hb1 hk1; refine Hid.out ?_)
  refine hid ?_
  rw [show wrc vars ct (.slice av bs.length cv) 2 = .slice av bs.length cv from rfl] at q1
  have hn1 : (Value.slice a1 (bs.length + (Lib.itoa l).length) c1).ownBlock ≠ some wb := own_not_row HO1.out R1.out (by decide)
  have W1 := hid (H.out.txt (.slice a1 (bs.length + (Lib.itoa l).length) c1) (bs' := bs ++ Lib.itoa l) R1.out (by rw [List.length_append, Lib.byteCells_append]; exact HO1.out) hn1 (by rw [List.length_append]; omega))
  have HN1 := hid hn1
  have r2 := W1.out.c2
  have f2 := W1.out.row.frozen 2
  have l2 := W1.out.row.lt
  obtain ⟨m, hm⟩ : ∃ m, bs.length + (Lib.itoa l).length = m := ⟨_, rfl⟩
  have hmb : m ≤ 1000000021 := by omega
  obtain ⟨T, hT⟩ : ∃ T, bs ++ Lib.itoa l = T := ⟨_, rfl⟩
  have hTm : T.length = m := by rw [← hT, List.length_append]; exact hm
  have HTT := hid hT
  have HTM := hid hTm
  rw [hm, hT] at W1
  rw [hm] at r2 f2 l2 HN1 ⊢
  have FR1 : Hid (WFr B wb w (w1.setCell ⟨wb, 2, none⟩ (.slice a1 m c1))) := ⟨HB1.out.setCell (p := ⟨wb, 2, none⟩) H.out.hb _, Lib.OthersKept.setCell (fun k o h1 h2 h3 => HK1.out k o h1 (by simp) h3) ⟨wb, 2, none⟩ rfl _⟩
  have z2 : B ≤ (w1.setCell ⟨wb, 2, none⟩ (.slice a1 m c1)).heap.size := by simp; omega
  clear hT hTm hm hn1
  go_wp2_with (at_builtin; refine wpList_append_lies _ rfl _ _ 101 rfl B 5 t0 _ 1 1 Tryd.underlying101 ht0 hz0 hz1 hz2 rfl (by omega) _ m (Lib.byteCells T) rfl (by have h := W1.out.own.alloc (.cells #[.int .u8 32] 5); rw [HTM.out] at h; exact h) ⟨w1.heap.size, 0, none⟩ 1 1 [.int .u8 32] rfl rfl (by have h := cell_one_new (w1.setCell ⟨wb, 2, none⟩ (.slice a1 m c1)) (.int .u8 32) 5; simpa using h) (by simp [Value.oneCell']) (by omega) (by unfold maxLen; omega) (by omega) (by simp; omega) (w1.heap.size + 1) (by simp) ?_; intro g4 cap4 w4 hown4 hgrow4 hat4 hlt4; have R4 := hid (rowIs_grown (W1.out.row.alloc _) hgrow4 HN1.out); have q4 := R4.out.cell (i := 2) (by omega); have qf4 := R4.out.frozen 2; have HO4 := hid hown4; have HG4 := hid hgrow4; clear hown4 hgrow4 hat4; refine Hid.out ?_)
  refine hid ?_
  rw [show ∀ u, wrc vars ct u 2 = u from fun _ => rfl] at q4
  go_wp2_with fail
  go_end0
  have hn4 : (Value.slice (some ⟨g4, 0, none⟩) (m + 1) cap4).ownBlock ≠ some wb := own_not_row HO4.out R4.out (by decide)
  have eb : bs ++ (Lib.itoa l ++ [32]) = T ++ [32] := by rw [← HTT.out, List.append_assoc]
  refine ⟨rfl, .slice (some ⟨g4, 0, none⟩) (m + 1) cap4, ?_, ?_, ?_⟩
  · rw [eb]
    refine W1.out.txt _ R4.out ?_ hn4 (by rw [List.length_append]; omega)
    rw [List.length_append, HTM.out, Lib.byteCells_append]
    exact HO4.out
  · exact (((FR1.out.1.alloc z2 _).grown HG4.out (by simp; omega) (fun q hq => (W1.out.own.lt q hq).1)).setCell (p := ⟨wb, 2, none⟩) H.out.hb _)
  · exact Lib.OthersKept.setCell (Lib.OthersKept.grown (FR1.out.2.alloc _) HG4.out (fun g hg => own_bytes (W1.out.own.alloc _) hg)) ⟨wb, 2, none⟩ rfl _
end
abbrev TabB (B : Nat) (w : World) : Prop := Lib.TabBelow Tryd.prog B w "internal/strconv.uint64pow10" .u64 Lib.pow10Tab
abbrev Lit64 (l : Int) : Prop := -9223372036854775808 ≤ l ∧ l ≤ 9223372036854775807
theorem litB_len {l : Int} (h : Lit64 l) : (litB l).length ≤ 22 := by
  unfold litB
  split
  · simp
  · have := Lib.itoa_length_le l h.1 h.2
    simp
    omega
theorem WFr.refl (B wb : Nat) (w : World) : WFr B wb w w := ⟨Below.refl _ _, Lib.OthersKept.refl _ _ _⟩
theorem WFr.trans {B wb : Nat} {a b c : World} (h : WFr B wb a b) (k : WFr B wb b c) : WFr B wb a c := ⟨h.1.trans k.1, h.2.trans k.2⟩
section
variable {B wb vars ct : Nat} {bs : List UInt8} {vt : Value} {w : World}
theorem literal_any (h : WrAt B wb vars ct bs vt w) (hBw : B ≤ w.heap.size) (l : Int) (hl : Lit64 l) (hlim : bs.length ≤ 1000000000) (htab : TabB B w) :
    Calls Tryd.prog 69 #[.pointer (some ⟨wb, 0, none⟩), .int .i64 l] w fun e w' => e = .returned (.tuple #[]) ∧ ∃ vt', WrAt B wb vars ct (bs ++ litB l) vt' w' ∧ WFr B wb w w' := by
  unfold litB
  by_cases h0 : l = 0
  · subst h0
    rw [if_pos rfl, List.append_nil]
    exact (literal_zero h).mono (fun e w' hh => ⟨hh.1, vt, by rw [hh.2]; exact h, by rw [hh.2]; exact WFr.refl _ _ _⟩)
  · rw [if_neg h0]
    exact literal_some h hBw l h0 hl.1 hl.2 hlim htab
set_option maxRecDepth 100000 in
set_option maxHeartbeats 1000000 in
theorem end_any (h : WrAt B wb vars ct bs vt w) (hBw : B ≤ w.heap.size) (hlim : bs.length ≤ 1000000000) :
    Calls Tryd.prog 70 #[.pointer (some ⟨wb, 0, none⟩)] w fun e w' => e = .returned (.tuple #[]) ∧ ∃ vt', WrAt B wb vars (ct + 1) (bs ++ [48, 10]) vt' w' ∧ WFr B wb w w' := by
  obtain ⟨t0, ht0, hz0, hz1, hz2⟩ := info_parts Tryd.infoByte
  obtain ⟨av, cv, ev⟩ := body_val h.own
  subst ev
  have H := hid h
  have r1 := h.c2
  have f1 := h.row.frozen 2
  have hcb := h.cb
  have hrl := h.row.lt
  have hne := h.ne
  have HN1 := hid hne
  clear h hne
  go_enter Tryd.func70, Tryd.ntmps70
  go_wp2_with (at_builtin; refine wpList_append_lies _ rfl _ _ 101 rfl B 5 t0 _ 1 1 Tryd.underlying101 ht0 hz0 hz1 hz2 rfl (by omega) _ bs.length (Lib.byteCells bs) rfl (H.out.own.alloc _) ⟨w.heap.size, 0, none⟩ 2 2 [.int .u8 48, .int .u8 10] rfl rfl (World.news_of_block (cs := #[.int .u8 48, .int .u8 10]) (t := 5) (fr := (0, 0)) (heap_alloc_new w _)) (by simp [Value.oneCell']) (by omega) (by unfold maxLen; omega) (by omega) (by simp; omega) (w.heap.size + 1) (by simp) ?_; intro g4 cap4 w4 hown4 hgrow4 hat4 hlt4; have R4 := hid (rowIs_grown (H.out.row.alloc _) hgrow4 HN1.out); have q4 := R4.out.cell (i := 2) (by omega); have qf4 := R4.out.frozen 2; have q5 := R4.out.cell (i := 1) (by omega); have qf5 := R4.out.frozen 1; have HO4 := hid hown4; have HG4 := hid hgrow4; clear hown4 hgrow4 hat4; refine Hid.out ?_)
  refine hid ?_
  rw [show ∀ u, wrc vars ct u 2 = u from fun _ => rfl] at q4
  rw [show ∀ u, wrc vars ct u 1 = .int .i64 ct from fun _ => rfl] at q5
  have hn4 : (Value.slice (some ⟨g4, 0, none⟩) (bs.length + 2) cap4).ownBlock ≠ some wb := own_not_row HO4.out R4.out (by decide)
  have W4 := H.out.txt (bs' := bs ++ [48, 10]) _ R4.out (by rw [List.length_append, Lib.byteCells_append]; exact HO4.out) hn4 (by rw [List.length_append]; omega)
  have q6 := W4.c1
  have qf6 := W4.row.frozen 1
  have HW4 := hid W4
  have HN4 := hid hn4
  have hcI : (ct : Int) ≤ 1000000000 := by omega
  clear W4 hn4
  go_wp2_with fail
  go_end0
  refine ⟨rfl, .slice (some ⟨g4, 0, none⟩) (bs.length + 2) cap4, ?_, ?_, ?_⟩
  · have := HW4.out.cnt (ct + 1) (by rw [List.length_append]; simp; omega)
    simpa using this
  · exact (((((Below.refl B w).alloc hBw _).grown HG4.out (by simp; omega) (fun q hq => (H.out.own.lt q hq).1)).setCell (p := ⟨wb, 2, none⟩) H.out.hb _).setCell (p := ⟨wb, 1, none⟩) H.out.hb _)
  · exact Lib.OthersKept.setCell (Lib.OthersKept.setCell (Lib.OthersKept.grown ((Lib.OthersKept.refl _ _ w).alloc _) HG4.out (fun g hg => own_bytes (H.out.own.alloc _) hg)) ⟨wb, 2, none⟩ rfl _) ⟨wb, 1, none⟩ rfl _
def clauseB (a b c : Int) : List UInt8 := litB a ++ litB b ++ litB c ++ [48, 10]
set_option maxRecDepth 100000 in
set_option maxHeartbeats 1000000 in
theorem clause_any (h : WrAt B wb vars ct bs vt w) (hBw : B ≤ w.heap.size) (a b c : Int) (ha : Lit64 a) (hb : Lit64 b) (hc : Lit64 c) (hlim : bs.length ≤ 900000000) (htab : TabB B w) :
    Calls Tryd.prog 68 #[.pointer (some ⟨wb, 0, none⟩), .int .i64 a, .int .i64 b, .int .i64 c] w fun e w' => e = .returned (.tuple #[]) ∧ ∃ vt', WrAt B wb vars (ct + 1) (bs ++ clauseB a b c) vt' w' ∧ WFr B wb w w' := by
  have H := hid h
  have HT := hid htab
  have la := litB_len ha
  have lb := litB_len hb
  have lc := litB_len hc
  have HA := hid ha
  have HB := hid hb
  have HC := hid hc
  clear h htab ha hb hc
  go_enter Tryd.func68, Tryd.ntmps68
  go_wp2_with (go_at_call 69; refine (literal_any H.out hBw a HA.out (by omega) HT.out).mono ?_; rintro e w1 ⟨rfl, v1, h1, f1⟩; have H1 := hid h1; have F1 := hid f1; have z1 := f1.1.size; clear h1 f1; refine Hid.out ?_)
  refine hid ?_
  have L1 : (bs ++ litB a).length ≤ 1000000000 := by rw [List.length_append]; omega
  go_wp2_with (go_at_call 69; refine (literal_any H1.out (by omega) b HB.out L1 (HT.out.on F1.out.1)).mono ?_; rintro e w2 ⟨rfl, v2, h2, f2⟩; have H2 := hid h2; have F2 := hid f2; have z2 := f2.1.size; clear h2 f2; refine Hid.out ?_)
  refine hid ?_
  have L2 : (bs ++ litB a ++ litB b).length ≤ 1000000000 := by rw [List.length_append, List.length_append]; omega
  go_wp2_with (go_at_call 69; refine (literal_any H2.out (by omega) c HC.out L2 (HT.out.on (F1.out.1.trans F2.out.1))).mono ?_; rintro e w3 ⟨rfl, v3, h3, f3⟩; have H3 := hid h3; have F3 := hid f3; have z3 := f3.1.size; clear h3 f3; refine Hid.out ?_)
  refine hid ?_
  have L3 : (bs ++ litB a ++ litB b ++ litB c).length ≤ 1000000000 := by rw [List.length_append, List.length_append, List.length_append]; omega
  go_wp2_with (go_at_call 70; refine (end_any H3.out (by omega) L3).mono ?_; rintro e w4 ⟨rfl, v4, h4, f4⟩; have H4 := hid h4; have F4 := hid f4; clear h4 f4)
  go_end0
  refine ⟨rfl, v4, ?_, ((F1.out.trans F2.out).trans F3.out).trans F4.out⟩
  have e : bs ++ clauseB a b c = bs ++ litB a ++ litB b ++ litB c ++ [48, 10] := by unfold clauseB; simp
  rw [e]
  exact H4.out
end
theorem wfr_of {B wb : Nat} {w w' : World} (h : Frm 0 (fun k => k = wb) w w') (hb : B ≤ wb) (hB : B ≤ w.heap.size) : WFr B wb w w' :=
  ⟨(h.lift (base := B) (fun k _ e => by have e : k = wb := e; rw [e]; exact hb) hB).bel, fun k o hk hne _ => (h.keep k (Array.getElem?_eq_some_iff.1 hk).1 (fun e => hne (by rw [show k = wb from e]))).trans hk⟩
theorem own_later_frm {w w' : World} {base wb n sz : Nat} {t : TypeId} {v : Value} {xs : List Value} (h : w.ownsRow base t sz v n xs) (hf : Frm 0 (fun k => k = wb) w w') (hne : v.ownBlock ≠ some wb) : w'.ownsRow base t sz v n xs :=
  ownsRow_blk h (fun k e => hf.keep k (h.lt k e).2 (fun c => hne (by rw [← show k = wb from c]; exact e)))
def freshL (v n : Nat) : List Nat := (List.range n).map fun i => v + 1 + i
theorem freshL_succ (v n : Nat) : freshL v (n + 1) = freshL v n ++ [v + 1 + n] := by
  unfold freshL
  rw [List.range_succ, List.map_append]
  rfl
theorem freshL_len (v n : Nat) : (freshL v n).length = n := by simp [freshL]
set_option maxRecDepth 100000 in
set_option maxHeartbeats 1000000 in
theorem fresh_any {B wb vars ct : Nat} {bs : List UInt8} {vt : Value} {w : World} (h : WrAt B wb vars ct bs vt w) (n : Nat) (hn : n ≤ 1000) (hv : vars ≤ 100000000) :
    Calls Tryd.prog 37 #[.pointer (some ⟨wb, 0, none⟩), .int .i64 n] w fun e w' => ∃ a c, e = .returned (.slice a n c) ∧ w'.ownsRow w.heap.size 3 1 (.slice a n c) n ((freshL vars n).map fun (n : Nat) => .int .i64 n) ∧ WrAt B wb (vars + n) ct bs vt w' ∧ Frm 0 (fun k => k = wb) w w' := by
  obtain ⟨t0, ht0, hz0, hz1, hz2⟩ := info_parts Tryd.infoInt
  have H := hid h
  have hrl := h.row.lt
  have hnI : (n : Int) ≤ 1000 := by omega
  have hvI : (vars : Int) ≤ 100000000 := by omega
  obtain ⟨av, cv, ev⟩ := body_val h.own
  subst ev
  clear h
  go_enter Tryd.func37, Tryd.ntmps37
  go_wp2_with fail
  go_loopw [5, 6] (fun v c wr => ∃ i : Nat, i ≤ n ∧ c = .int .i64 i ∧ wr.ownsRow w.heap.size 3 1 v i ((freshL vars i).map fun (n : Nat) => .int .i64 n) ∧ wr.rowIs wb 103 3 (wrc (vars + i) ct (.slice av bs.length cv)) ∧ Frm 0 (fun k => k = wb) w wr) (fun _ c _ => n - (intOf c).toNat)
  case atStart => exact ⟨0, Nat.zero_le _, rfl, World.ownsRow_nil _ _ _ _, H.out.row, Frm.refl _ _ _⟩
  case round =>
    obtain ⟨i, hin, rfl, hown, hrow, hfr⟩ := hrel
    obtain ⟨ao, co, eo⟩ := body_val hown
    subst eo
    have HO := hid hown
    have HR := hid hrow
    have HF := hid hfr
    have z := hfr.bel.size
    have r0 := hrow.cell (i := 0) (by omega)
    rw [show ∀ x u, wrc x ct u 0 = .int .i64 x from fun _ _ => rfl] at r0
    have f0 := hrow.frozen 0
    have hl2 := hrow.lt
    have hnw : (Value.slice ao i co).ownBlock ≠ some wb := fun e => by have := (hown.lt wb e).1; omega
    have HNW := hid hnw
    clear hown hrow hfr hnw
    by_cases hlt : i < n
    · have hiI : (i : Int) < 1000 := by omega
      have HS := hid (freshL_succ vars i)
      obtain ⟨y, hy⟩ : ∃ y, vars + i = y := ⟨_, rfl⟩
      have hyI : (y : Int) ≤ 100001000 := by omega
      rw [hy] at r0 HR
      have HY := hid (show vars + (i + 1) = y + 1 by omega)
      have HY2 := hid (show vars + 1 + i = y + 1 by omega)
      have HR2 := hid ((HR.out.set 0 (.int .i64 ((y : Int) + 1))).congr (fun j hj => show _ = wrc (y + 1) ct (.slice av bs.length cv) j by
        match j, hj with
        | 0, _ => rfl
        | 1, _ => rfl
        | 2, _ => rfl
        | n + 3, h => omega))
      have c0 := HR2.out.cell (i := 0) (by omega)
      rw [show ∀ u, wrc (y + 1) ct u 0 = .int .i64 ((y : Int) + 1) from fun _ => rfl] at c0
      have HO2 := hid (ownsRow_setCell (i := 0) HO.out HNW.out (.int .i64 ((y : Int) + 1)))
      have HF2 := hid (HF.out.setCell (p := ⟨wb, 0, none⟩) (Nat.zero_le _) rfl (.int .i64 ((y : Int) + 1)))
      clear hy
      go_wp2_with (first | (at_builtin; refine wpList_append_lies _ rfl _ _ 27 rfl w.heap.size 3 t0 _ 1 8 Tryd.underlying27 ht0 hz0 hz1 hz2 rfl (by omega) _ i ((freshL vars i).map fun (n : Nat) => .int .i64 n) rfl (HO2.out.alloc _) ⟨wr.heap.size, 0, none⟩ 1 1 [.int .i64 ((y : Int) + 1)] rfl rfl (by have h := cell_one_new (wr.setCell ⟨wb, 0, none⟩ (.int .i64 ((y : Int) + 1))) (.int .i64 ((y : Int) + 1)) 3; simpa using h) (by simp [Value.oneCell']) (by omega) (by unfold maxLen; omega) (by omega) (by simp; omega) (wr.heap.size + 1) (by simp) ?_; intro g4 cap4 w4 hown4 hgrow4 hat4 hlt4))
      go_roundw
      case rel =>
        refine ⟨i + 1, by omega, by go_num, ?_, ?_, ?_⟩
        · rw [HS.out, HY2.out, List.map_append]
          exact hown4
        · rw [HY.out]
          exact rowIs_grown (HR2.out.alloc _) hgrow4 HNW.out
        · exact (((HF2.out.alloc (Nat.zero_le _) _).down).trans (Frm.grown (Frm.refl 0 (fun k => (Value.slice ao i co).ownBlock = some k) _) hgrow4 (Nat.zero_le _) (fun k e => ⟨Nat.zero_le _, e⟩)) (fun k hk e => by have := (HO.out.lt k e).1; omega))
      case measure => simp [intOf]; omega
    · have hie : n = i := by omega
      subst hie
      go_wp2_with fail
      go_ret
      exact ⟨_, _, rfl, HO.out, ⟨HR.out, H.out.cb, own_later_frm H.out.own HF.out H.out.ne, H.out.hb, H.out.ne⟩, HF.out⟩
end Go.Proofs.YtgddmpmcnjlcjabDoor
