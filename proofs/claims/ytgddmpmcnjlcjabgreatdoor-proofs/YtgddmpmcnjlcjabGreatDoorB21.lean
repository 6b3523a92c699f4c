import Derived.Test.YtgddmpmcnjlcjabGreatDoorB20
namespace Go.Proofs.YtgddmpmcnjlcjabGreatDoor
open Go.RowKit
set_option linter.unusedVariables false
structure WpAt (B wb : Nat) (lns nx : Nat) (bs : List UInt8) (vt : Value) (w : World) : Prop where
  row : w.rowIs wb 130 3 (wrc lns nx vt)
  cb : lns ≤ bs.length
  own : w.ownsRow B 5 1 vt bs.length (Lib.byteCells bs)
  hb : B ≤ wb
  ne : vt.ownBlock ≠ some wb
section
variable {B wb lns nx : Nat} {bs : List UInt8} {vt : Value} {w : World}
theorem WpAt.txt (h : WpAt B wb lns nx bs vt w) (u : Value) {bs' : List UInt8} {w' : World} (hr : w'.rowIs wb 130 3 (wrc lns nx vt)) (ho : w'.ownsRow B 5 1 u bs'.length (Lib.byteCells bs')) (hne : u.ownBlock ≠ some wb) (hc : bs.length ≤ bs'.length) : WpAt B wb lns nx bs' u (w'.setCell ⟨wb, 2, none⟩ u) :=
  ⟨(hr.set 2 u).congr (fun i hi => by
      match i, hi with
      | 0, _ => rfl
      | 1, _ => rfl
      | 2, _ => rfl
      | n + 3, h => omega), Nat.le_trans h.cb hc, ownsRow_setCell ho hne u, h.hb, hne⟩
theorem WpAt.cnt (h : WpAt B wb lns nx bs vt w) (c : Nat) : WpAt B wb lns c bs vt (w.setCell ⟨wb, 1, none⟩ (.int .i64 c)) :=
  ⟨(h.row.set 1 (.int .i64 c)).congr (fun i hi => by
      match i, hi with
      | 0, _ => rfl
      | 1, _ => rfl
      | 2, _ => rfl
      | n + 3, h => omega), h.cb, ownsRow_setCell h.own h.ne _, h.hb, h.ne⟩
theorem WpAt.var (h : WpAt B wb lns nx bs vt w) (c : Nat) (hc : c ≤ bs.length) : WpAt B wb c nx bs vt (w.setCell ⟨wb, 0, none⟩ (.int .i64 c)) :=
  ⟨(h.row.set 0 (.int .i64 c)).congr (fun i hi => by
      match i, hi with
      | 0, _ => rfl
      | 1, _ => rfl
      | 2, _ => rfl
      | n + 3, h => omega), hc, ownsRow_setCell h.own h.ne _, h.hb, h.ne⟩
theorem WpAt.c0 (h : WpAt B wb lns nx bs vt w) : w.cell? ⟨wb, 0, none⟩ = some (.int .i64 lns) := h.row.cell (i := 0) (by omega)
theorem WpAt.c1 (h : WpAt B wb lns nx bs vt w) : w.cell? ⟨wb, 1, none⟩ = some (.int .i64 nx) := h.row.cell (i := 1) (by omega)
theorem WpAt.c2 (h : WpAt B wb lns nx bs vt w) : w.cell? ⟨wb, 2, none⟩ = some vt := h.row.cell (i := 2) (by omega)
set_option maxRecDepth 100000 in
set_option maxHeartbeats 1000000 in
theorem pwrite_any (h : WpAt B wb lns nx bs vt w) (hBw : B ≤ w.heap.size) (l : Int) (hl0 : -9223372036854775808 ≤ l) (hl1 : l ≤ 9223372036854775807) (hlim : bs.length ≤ 1000000000) (htab : Lib.TabBelow Tryz.prog B w "internal/strconv.uint64pow10" .u64 Lib.pow10Tab) :
    Calls Tryz.prog 86 #[.pointer (some ⟨wb, 0, none⟩), .int .i64 l] w fun e w' => e = .returned (.tuple #[]) ∧ ∃ vt', WpAt B wb lns nx (bs ++ (Lib.itoa l ++ [32])) vt' w' ∧ WFr B wb w w' := by
  obtain ⟨t0, ht0, hz0, hz1, hz2⟩ := info_parts Tryz.infoByte
  obtain ⟨av, cv, ev⟩ := body_val h.own
  subst ev
  have H := hid h
  have HT := hid htab
  have r1 := h.c2
  have f1 := h.row.frozen 2
  have hrl := h.row.lt
  have lb := Lib.itoa_length_le l hl0 hl1
  clear h htab
  go_enter Tryz.func86, Tryz.ntmps86
  go_wp2_with (go_at_call 102; refine (appendInt_any B bs.length l hl0 hl1 _ _ _ H.out.own hBw (by omega) HT.out).mono ?_; rintro e w1 ⟨v1, he, ho1, hb1, hk1⟩; obtain ⟨a1, c1, e1⟩ := body_val ho1; subst e1; subst he; have HO1 := hid ho1; have HB1 := hid hb1; have HK1 := hid hk1; have z1 := hb1.size; have R1 := hid (row_kept H.out.row hk1 (by simp) (by decide)); have q1 := R1.out.cell (i := 2) (by omega); have qf := R1.out.frozen 2; clear ho1 hb1 hk1; refine Hid.out ?_)
  refine hid ?_
  rw [show wrc lns nx (.slice av bs.length cv) 2 = .slice av bs.length cv from rfl] at q1
  have hn1 : (Value.slice a1 (bs.length + (Lib.itoa l).length) c1).ownBlock ≠ some wb := own_not_row HO1.out R1.out (by decide)
  have W1 := hid (H.out.txt (.slice a1 (bs.length + (Lib.itoa l).length) c1) (bs' := bs ++ Lib.itoa l) R1.out (by rw [List.length_append, Lib.byteCells_append]; exact HO1.out) hn1 (by rw [List.length_append]; omega))
  have HN1 := hid hn1
  have r2 := W1.out.c2
  have f2 := W1.out.row.frozen 2
  have l2 := W1.out.row.lt
  obtain ⟨m, hm⟩ : ∃ m, bs.length + (Lib.itoa l).length = m := ⟨_, rfl⟩
  have hmb : m ≤ 1000000021 := by omega
  obtain ⟨T, hT⟩ : ∃ T, bs ++ Lib.itoa l = T := ⟨_, rfl⟩
  have hTm : T.length = m := by rw [← hT, List.length_append]; exact hm
  have HTT := hid hT
  have HTM := hid hTm
  rw [hm, hT] at W1
  rw [hm] at r2 f2 l2 HN1 ⊢
  have FR1 : Hid (WFr B wb w (w1.setCell ⟨wb, 2, none⟩ (.slice a1 m c1))) := ⟨HB1.out.setCell (p := ⟨wb, 2, none⟩) H.out.hb _, Lib.OthersKept.setCell (fun k o h1 h2 h3 => HK1.out k o h1 (by simp) h3) ⟨wb, 2, none⟩ rfl _⟩
  have z2 : B ≤ (w1.setCell ⟨wb, 2, none⟩ (.slice a1 m c1)).heap.size := by simp; omega
  clear hT hTm hm hn1
  go_wp2_with (at_builtin; refine wpList_append_lies _ rfl _ _ 111 rfl B 5 t0 _ 1 1 Tryz.underlying111 ht0 hz0 hz1 hz2 rfl (by omega) _ m (Lib.byteCells T) rfl (by have h := W1.out.own.alloc (.cells #[.int .u8 32] 5); rw [HTM.out] at h; exact h) ⟨w1.heap.size, 0, none⟩ 1 1 [.int .u8 32] rfl rfl (by have h := cell_one_new (w1.setCell ⟨wb, 2, none⟩ (.slice a1 m c1)) (.int .u8 32) 5; simpa using h) (by simp [Value.oneCell']) (by omega) (by unfold maxLen; omega) (by omega) (by simp; omega) (w1.heap.size + 1) (by simp) ?_; intro g4 cap4 w4 hown4 hgrow4 hat4 hlt4; have R4 := hid (rowIs_grown (W1.out.row.alloc _) hgrow4 HN1.out); have q4 := R4.out.cell (i := 2) (by omega); have qf4 := R4.out.frozen 2; have HO4 := hid hown4; have HG4 := hid hgrow4; clear hown4 hgrow4 hat4; refine Hid.out ?_)
  refine hid ?_
  rw [show ∀ u, wrc lns nx u 2 = u from fun _ => rfl] at q4
  go_wp2_with fail
  go_end0
  have hn4 : (Value.slice (some ⟨g4, 0, none⟩) (m + 1) cap4).ownBlock ≠ some wb := own_not_row HO4.out R4.out (by decide)
  have eb : bs ++ (Lib.itoa l ++ [32]) = T ++ [32] := by rw [← HTT.out, List.append_assoc]
  refine ⟨rfl, .slice (some ⟨g4, 0, none⟩) (m + 1) cap4, ?_, ?_, ?_⟩
  · rw [eb]
    refine W1.out.txt _ R4.out ?_ hn4 (by rw [List.length_append]; omega)
    rw [List.length_append, HTM.out, Lib.byteCells_append]
    exact HO4.out
  · exact (((FR1.out.1.alloc z2 _).grown HG4.out (by simp; omega) (fun q hq => (W1.out.own.lt q hq).1)).setCell (p := ⟨wb, 2, none⟩) H.out.hb _)
  · exact Lib.OthersKept.setCell (Lib.OthersKept.grown (FR1.out.2.alloc _) HG4.out (fun g hg => own_bytes (W1.out.own.alloc _) hg)) ⟨wb, 2, none⟩ rfl _
end
def wrdB (l : Int) : List UInt8 := Lib.itoa l ++ [32]
theorem wrdB_len {l : Int} (h : Lit64 l) : (wrdB l).length ≤ 22 := by
  have := Lib.itoa_length_le l h.1 h.2
  unfold wrdB
  simp
  omega
def wrdsB (l : List Int) (n : Nat) : List UInt8 := (List.range n).flatMap fun i => wrdB (l.getD i 0)
theorem wrdsB_succ (l : List Int) (n : Nat) : wrdsB l (n + 1) = wrdsB l n ++ wrdB (l.getD n 0) := by
  unfold wrdsB
  rw [List.range_succ, List.flatMap_append]
  simp
theorem wrdsB_len (l : List Int) (h : ∀ i, Lit64 (l.getD i 0)) (n : Nat) : (wrdsB l n).length ≤ 22 * n := by
  induction n with
  | zero => simp [wrdsB]
  | succ n ih =>
    have := wrdB_len (h n)
    rw [wrdsB_succ, List.length_append]
    omega
def lineB (nx : Nat) (ls hs : List Int) : List UInt8 := wrdB nx ++ wrdsB ls ls.length ++ wrdB 0 ++ wrdsB hs hs.length ++ [48, 10]
theorem lineB_len {nx : Nat} {ls hs : List Int} (hn : nx ≤ 1000000000) (hl : ∀ i, Lit64 (ls.getD i 0)) (hh : ∀ i, Lit64 (hs.getD i 0)) : (lineB nx ls hs).length ≤ 46 + 22 * ls.length + 22 * hs.length := by
  have h1 := @wrdB_len nx ⟨by omega, by omega⟩
  have h2 := @wrdB_len 0 ⟨by omega, by omega⟩
  have h3 := wrdsB_len ls hl ls.length
  have h4 := wrdsB_len hs hh hs.length
  unfold lineB
  rw [List.length_append, List.length_append, List.length_append, List.length_append]
  simp only [List.length_cons, List.length_nil]
  omega
theorem zs_at {w : World} {base : Nat} {e : TypeId} {l : List Int} {g cap : Nat} (h : w.ownsRow base e 1 (.slice (some ⟨g, 0, none⟩) l.length cap) l.length (l.map fun n => .int .i64 n)) (i : Nat) (hi : i < l.length) : w.cell? ⟨g, i, none⟩ = some (.int .i64 (l.getD i 0)) := by
  rw [h.cellAt i (by omega)]; simp [hi]
section
variable {B wb lns nx : Nat} {bs : List UInt8} {vt : Value} {w : World}
theorem pw_any (h : WpAt B wb lns nx bs vt w) (hBw : B ≤ w.heap.size) (l : Int) (hl : Lit64 l) (hlim : bs.length ≤ 1000000000) (htab : TabB B w) :
    Calls Tryz.prog 86 #[.pointer (some ⟨wb, 0, none⟩), .int .i64 l] w fun e w' => e = .returned (.tuple #[]) ∧ ∃ vt', WpAt B wb lns nx (bs ++ wrdB l) vt' w' ∧ WFr B wb w w' := pwrite_any h hBw l hl.1 hl.2 hlim htab
set_option maxRecDepth 100000 in
set_option maxHeartbeats 1000000 in
theorem line_any (h : WpAt B wb lns nx bs vt w) (hBw : B ≤ w.heap.size) (a1 a2 : Option Addr) (c1 c2 : Nat) (ls hs : List Int) (h1 : w.ownsRow 0 3 1 (.slice a1 ls.length c1) ls.length (ls.map fun n => .int .i64 n)) (h2 : w.ownsRow 0 3 1 (.slice a2 hs.length c2) hs.length (hs.map fun n => .int .i64 n)) (hnx : nx ≤ 1000000000) (hl : ∀ i, Lit64 (ls.getD i 0)) (hh : ∀ i, Lit64 (hs.getD i 0)) (hll : ls.length ≤ 1000) (hhl : hs.length ≤ 1000) (hlim : bs.length ≤ 700000000) (htab : TabB B w) :
    Calls Tryz.prog 51 #[.pointer (some ⟨wb, 0, none⟩), .slice a1 ls.length c1, .slice a2 hs.length c2] w fun e w' => e = .returned (.int .i64 nx) ∧ ∃ vt', WpAt B wb (lns + 1) (nx + 1) (bs ++ lineB nx ls hs) vt' w' ∧ WFr B wb w w' := by
  obtain ⟨t0, ht0, hz0, hz1, hz2⟩ := info_parts Tryz.infoByte
  have H := hid h
  have HT := hid htab
  have HA := hid h1
  have HB := hid h2
  have hwbl := h.row.lt
  have r1 := h.c1
  have HAW := hid (show (Value.slice a1 ls.length c1).ownBlock ≠ some wb from own_not_row h1 h.row (by decide))
  have HBW := hid (show (Value.slice a2 hs.length c2).ownBlock ≠ some wb from own_not_row h2 h.row (by decide))
  have hllI : (ls.length : Int) ≤ 1000 := by omega
  have hhlI : (hs.length : Int) ≤ 1000 := by omega
  have LN : Hid (Lit64 (nx : Int)) := ⟨by omega, by omega⟩
  have L0 : Hid (Lit64 0) := ⟨by omega, by omega⟩
  clear h htab h1 h2
  go_enter Tryz.func51, Tryz.ntmps51
  go_wp2_with (go_at_call 86; refine (pw_any H.out hBw nx LN.out (by omega) HT.out).mono ?_; rintro e w1 ⟨rfl, v1, h1, f1⟩; have H1 := hid h1; have F1 := hid f1; have z1 := f1.1.size; clear h1 f1; refine Hid.out ?_)
  refine hid ?_
  go_wp2_with fail
  obtain ⟨b1, hb1⟩ : ∃ b1, bs ++ wrdB nx = b1 := ⟨_, rfl⟩
  have HL1 := hid (show b1.length ≤ 700000022 by rw [← hb1, List.length_append]; have := wrdB_len LN.out; omega)
  rw [hb1] at H1
  have HBE := hid hb1
  clear hb1
  go_loopw [21] (fun c wr => ∃ (L : Nat) (vt1 : Value), L ≤ ls.length ∧ c = .int .i64 L ∧ WpAt B wb lns nx (b1 ++ wrdsB ls L) vt1 wr ∧ WFr B wb w wr) (fun c _ => ls.length - (intOf c).toNat)
  case atStart => exact ⟨0, v1, Nat.zero_le _, rfl, by rw [show wrdsB ls 0 = [] from rfl, List.append_nil]; exact H1.out, F1.out⟩
  case round =>
    clear H1 F1 z1
    obtain ⟨L, vt2, hL, rfl, hwr, hfr⟩ := hrel
    have H1 := hid hwr
    have F1 := hid hfr
    have z1 := hfr.1.size
    clear hwr hfr
    have hLI : (L : Int) ≤ 1000 := by omega
    have HL2 := hid (show (b1 ++ wrdsB ls L).length ≤ 700022022 by have := wrdsB_len ls hl L; have := HL1.out; rw [List.length_append]; omega)
    have hB1 : B ≤ wr.heap.size := by omega
    by_cases hlt : L < ls.length
    · have OD := own_kept HA.out F1.out.2 (fun g' e => by intro e2; cases e2; exact HAW.out e) (by decide)
      obtain ⟨gd, capd, hvd, _, hgdl⟩ := OD.form (by omega)
      cases hvd
      have dc := zs_at OD L hlt
      clear OD
      have HS := hid (wrdsB_succ ls L)
      have LD := hid (hl L)
      generalize ls.getD L 0 = d at dc HS LD
      have hMD : (L : Int) < (ls.length : Int) := by omega
      go_wp2_with (go_at_call 86; refine (pw_any H1.out hB1 d LD.out (by have := HL2.out; omega) (HT.out.on F1.out.1)).mono ?_; rintro e w5 ⟨rfl, v5, h5, f5⟩; have H5 := hid h5; have F5 := hid (F1.out.trans f5); clear h5 f5)
      go_roundw
      case rel =>
        refine ⟨L + 1, v5, by omega, by go_num, ?_, F5.out⟩
        rw [HS.out, ← List.append_assoc]
        exact H5.out
      case measure => simp [intOf]; omega
    · have hle : ls.length = L := by omega
      have HLE := hid hle
      clear hle
      go_wp2_with (go_at_call 86; refine (pw_any H1.out hB1 0 L0.out (by have := HL2.out; omega) (HT.out.on F1.out.1)).mono ?_; rintro e w5 ⟨rfl, v5, h5, f5⟩; have H5 := hid h5; have F5 := hid (F1.out.trans f5); have z5 := f5.1.size; clear h5 f5; refine Hid.out ?_)
      refine hid ?_
      obtain ⟨b2, hb2⟩ : ∃ b2, b1 ++ wrdsB ls L ++ wrdB 0 = b2 := ⟨_, rfl⟩
      have HL3 := hid (show b2.length ≤ 700022044 by rw [← hb2, List.length_append]; have := wrdB_len L0.out; have := HL2.out; omega)
      rw [hb2] at H5
      have HBE2 := hid hb2
      clear hb2 H1 F1 z1 HL2
      go_wp2_with fail
      go_loopw [33] (fun c wr => ∃ (M : Nat) (vt1 : Value), M ≤ hs.length ∧ c = .int .i64 M ∧ WpAt B wb lns nx (b2 ++ wrdsB hs M) vt1 wr ∧ WFr B wb w wr) (fun c _ => hs.length - (intOf c).toNat)
      case atStart => exact ⟨0, v5, Nat.zero_le _, rfl, by rw [show wrdsB hs 0 = [] from rfl, List.append_nil]; exact H5.out, F5.out⟩
      case round =>
        clear H5 F5 z5
        obtain ⟨M, vt3, hM, rfl, hwr, hfr⟩ := hrel
        have H1 := hid hwr
        have F1 := hid hfr
        have z1 := hfr.1.size
        clear hwr hfr
        have hMI : (M : Int) ≤ 1000 := by omega
        have HL4 := hid (show (b2 ++ wrdsB hs M).length ≤ 700044044 by have := wrdsB_len hs hh M; have := HL3.out; rw [List.length_append]; omega)
        have hB1 : B ≤ wr.heap.size := by omega
        by_cases hlt2 : M < hs.length
        · have OD := own_kept HB.out F1.out.2 (fun g' e => by intro e2; cases e2; exact HBW.out e) (by decide)
          obtain ⟨gd, capd, hvd, _, hgdl⟩ := OD.form (by omega)
          cases hvd
          have dc := zs_at OD M hlt2
          clear OD
          have HS := hid (wrdsB_succ hs M)
          have LD := hid (hh M)
          generalize hs.getD M 0 = d at dc HS LD
          have hMD : (M : Int) < (hs.length : Int) := by omega
          go_wp2_with (go_at_call 86; refine (pw_any H1.out hB1 d LD.out (by have := HL4.out; omega) (HT.out.on F1.out.1)).mono ?_; rintro e w5 ⟨rfl, v5, h5, f5⟩; have H5 := hid h5; have F5 := hid (F1.out.trans f5); clear h5 f5)
          go_roundw
          case rel =>
            refine ⟨M + 1, v5, by omega, by go_num, ?_, F5.out⟩
            rw [HS.out, ← List.append_assoc]
            exact H5.out
          case measure => simp [intOf]; omega
        · have hle : hs.length = M := by omega
          have HLM := hid hle
          clear hle
          obtain ⟨b3, hb3⟩ : ∃ b3, b2 ++ wrdsB hs M = b3 := ⟨_, rfl⟩
          rw [hb3] at H1 HL4
          have HBE3 := hid hb3
          clear hb3
          have hb3l : b3.length ≤ 700044044 := HL4.out
          obtain ⟨av, cv, ev⟩ := body_val H1.out.own
          subst ev
          have q2 := H1.out.c2
          have qf2 := H1.out.row.frozen 2
          have HN1 := hid H1.out.ne
          have hlb := H1.out.cb
          have hlbI : (lns : Int) ≤ 1000000000 := by omega
          have hnxI : (nx : Int) ≤ 1000000000 := by omega
          go_wp2_with (at_builtin; refine wpList_append_lies _ rfl _ _ 111 rfl B 5 t0 _ 1 1 Tryz.underlying111 ht0 hz0 hz1 hz2 rfl (by omega) _ b3.length (Lib.byteCells b3) rfl (H1.out.own.alloc _) ⟨wr.heap.size, 0, none⟩ 2 2 [.int .u8 48, .int .u8 10] rfl rfl (World.news_of_block (cs := #[.int .u8 48, .int .u8 10]) (t := 5) (fr := (0, 0)) (heap_alloc_new wr _)) (by simp [Value.oneCell']) (by omega) (by unfold maxLen; omega) (by omega) (by simp; omega) (wr.heap.size + 1) (by simp) ?_; intro g4 cap4 w4 hown4 hgrow4 hat4 hlt4; have R4 := hid (rowIs_grown (H1.out.row.alloc _) hgrow4 HN1.out); have q4 := R4.out.cell (i := 2) (by omega); have qf4 := R4.out.frozen 2; have HO4 := hid hown4; have HG4 := hid hgrow4; clear hown4 hgrow4 hat4; refine Hid.out ?_)
          refine hid ?_
          rw [show ∀ u, wrc lns nx u 2 = u from fun _ => rfl] at q4
          have hn4 : (Value.slice (some ⟨g4, 0, none⟩) (b3.length + 2) cap4).ownBlock ≠ some wb := own_not_row HO4.out R4.out (by decide)
          have W4 := H1.out.txt (bs' := b3 ++ [48, 10]) _ R4.out (by rw [List.length_append, Lib.byteCells_append]; exact HO4.out) hn4 (by rw [List.length_append]; omega)
          have W5 := W4.cnt (nx + 1)
          have W6 := W5.var (lns + 1) (by rw [List.length_append]; simp; omega)
          have e1 := W4.c1
          have ef1 := W4.row.frozen 1
          have e0 := W5.c0
          have ef0 := W5.row.frozen 0
          have HW6 := hid W6
          have HN4 := hid hn4
          clear W4 W5 W6 hn4
          push_cast at e0 ef0
          go_wp2_with fail
          go_ret
          refine ⟨rfl, .slice (some ⟨g4, 0, none⟩) (b3.length + 2) cap4, ?_, ?_⟩
          · have e : bs ++ lineB nx ls hs = b3 ++ [48, 10] := by
              rw [← HBE3.out, ← HBE2.out, ← HBE.out, ← HLM.out, ← HLE.out]
              unfold lineB
              simp
            rw [e]
            simpa using HW6.out
          · refine ⟨?_, ?_⟩
            · exact (((((F1.out.1.alloc hB1 _).grown HG4.out (by simp; omega) (fun q hq => (H1.out.own.lt q hq).1)).setCell (p := ⟨wb, 2, none⟩) H1.out.hb _).setCell (p := ⟨wb, 1, none⟩) H1.out.hb _).setCell (p := ⟨wb, 0, none⟩) H1.out.hb _)
            · exact Lib.OthersKept.setCell (Lib.OthersKept.setCell (Lib.OthersKept.setCell (Lib.OthersKept.grown (F1.out.2.alloc _) HG4.out (fun g hg => own_bytes (H1.out.own.alloc _) hg)) ⟨wb, 2, none⟩ rfl _) ⟨wb, 1, none⟩ rfl _) ⟨wb, 0, none⟩ rfl _
end
namespace Cl
structure Bt where
  node : Nat := 0
  v1 : Nat := 0
  c1 : Nat := 0
  v2 : Nat := 0
  c2 : Nat := 0
  vd : Nat := 0
  cd : Nat := 0
deriving DecidableEq, Inhabited
def Bt.cells (b : Bt) : List Value := [.int .i64 b.node, .int .i64 b.v1, .int .i64 b.c1, .int .i64 b.v2, .int .i64 b.c2, .int .i64 b.vd, .int .i64 b.cd]
abbrev Bt.agg (b : Bt) : Value := .agg #[.int .i64 b.node, .int .i64 b.v1, .int .i64 b.c1, .int .i64 b.v2, .int .i64 b.c2, .int .i64 b.vd, .int .i64 b.cd]
structure Bt.Ok (b : Bt) : Prop where
  v1 : b.v1 ≤ 1000000000
  c1 : b.c1 ≤ 1000000000
  v2 : b.v2 ≤ 1000000000
  c2 : b.c2 ≤ 1000000000
  vd : b.vd ≤ 1000000000
  cd : b.cd ≤ 1000000000
def eqL (b : Bt) : Nat := if b.node ≤ 1 then 1 else 2
def eqB (nx : Nat) (b : Bt) : List UInt8 :=
  if b.node = 0 then lineB nx [-(b.vd : Int)] [b.c1, b.c2, b.cd]
  else if b.node = 1 then lineB nx [-(b.vd : Int)] [b.c1, b.c2, (b.cd : Int) + 1]
  else lineB nx [-(b.vd : Int), b.v1] [b.cd, b.c2, (b.c1 : Int) + 1] ++ lineB (nx + 1) [-(b.vd : Int)] [nx, b.c1, (b.c2 : Int) + 1, (b.cd : Int) + 1]
def eqR (nx : Nat) (b : Bt) : Nat := if b.node ≤ 1 then nx else nx + 1
theorem eqB_len {nx : Nat} {b : Bt} (hn : nx ≤ 999999999) (h : b.Ok) : (eqB nx b).length ≤ 400 := by
  have := h.v1
  have := h.c1
  have := h.v2
  have := h.c2
  have := h.vd
  have := h.cd
  have lit : ∀ (l : List Int), (∀ x ∈ l, Lit64 x) → ∀ i, Lit64 (l.getD i 0) := fun l hl i => by
    by_cases c : i < l.length
    · rw [List.getD_eq_getElem?_getD, List.getElem?_eq_getElem c]; exact hl _ (List.getElem_mem c)
    · rw [List.getD_eq_getElem?_getD, List.getElem?_eq_none (by omega)]; exact ⟨by decide, by decide⟩
  have a1 := lineB_len (nx := nx) (ls := [-(b.vd : Int)]) (hs := [b.c1, b.c2, b.cd]) (by omega) (lit _ (by intro x hx; simp at hx; unfold Lit64; omega)) (lit _ (by intro x hx; simp at hx; unfold Lit64; omega))
  have a2 := lineB_len (nx := nx) (ls := [-(b.vd : Int)]) (hs := [b.c1, b.c2, (b.cd : Int) + 1]) (by omega) (lit _ (by intro x hx; simp at hx; unfold Lit64; omega)) (lit _ (by intro x hx; simp at hx; unfold Lit64; omega))
  have a3 := lineB_len (nx := nx) (ls := [-(b.vd : Int), b.v1]) (hs := [b.cd, b.c2, (b.c1 : Int) + 1]) (by omega) (lit _ (by intro x hx; simp at hx; unfold Lit64; omega)) (lit _ (by intro x hx; simp at hx; unfold Lit64; omega))
  have a4 := lineB_len (nx := nx + 1) (ls := [-(b.vd : Int)]) (hs := [nx, b.c1, (b.c2 : Int) + 1, (b.cd : Int) + 1]) (by omega) (lit _ (by intro x hx; simp at hx; unfold Lit64; omega)) (lit _ (by intro x hx; simp at hx; unfold Lit64; omega))
  simp only [List.length_cons, List.length_nil] at a1 a2 a3 a4
  unfold eqB
  split
  · omega
  · split
    · omega
    · rw [List.length_append]; omega
def prfN (bits : List Bt) (nx0 : Nat) : Nat → Nat × List UInt8 × List Int
  | 0 => (nx0, [], [])
  | i + 1 => let x := prfN bits nx0 i; let b := bits.getD i {}; (x.1 + eqL b, x.2.1 ++ eqB x.1 b, x.2.2 ++ [(eqR x.1 b : Int)])
theorem prfN_ok (bits : List Bt) (nx0 : Nat) (hb : ∀ i, (bits.getD i {}).Ok) (i : Nat) (hn : nx0 + 2 * i ≤ 999999999) : (prfN bits nx0 i).1 ≤ nx0 + 2 * i ∧ nx0 ≤ (prfN bits nx0 i).1 ∧ (prfN bits nx0 i).2.1.length ≤ 400 * i ∧ (prfN bits nx0 i).2.2.length = i ∧ (∀ x ∈ (prfN bits nx0 i).2.2, 0 ≤ x ∧ x ≤ 1000000000) := by
  induction i with
  | zero => exact ⟨Nat.le_refl _, Nat.le_refl _, by simp [prfN], rfl, fun x h => by cases h⟩
  | succ i ih =>
    obtain ⟨h1, h2, h3, h4, h5⟩ := ih (by omega)
    have l := eqB_len (nx := (prfN bits nx0 i).1) (by omega) (hb i)
    have e : eqL (bits.getD i {}) ≤ 2 := by unfold eqL; split <;> omega
    have f : eqR (prfN bits nx0 i).1 (bits.getD i {}) ≤ (prfN bits nx0 i).1 + 1 := by unfold eqR; split <;> omega
    refine ⟨?_, ?_, ?_, ?_, fun x hx => ?_⟩
    · show (prfN bits nx0 i).1 + eqL _ ≤ _; omega
    · show _ ≤ (prfN bits nx0 i).1 + eqL _; omega
    · show ((prfN bits nx0 i).2.1 ++ _).length ≤ _; rw [List.length_append]; omega
    · show ((prfN bits nx0 i).2.2 ++ [_]).length = _; rw [List.length_append, h4]; rfl
    · rcases List.mem_append.1 (show x ∈ (prfN bits nx0 i).2.2 ++ [_] from hx) with hx | hx
      · exact h5 x hx
      · rw [List.mem_singleton.1 hx]; omega
end Cl
end Go.Proofs.YtgddmpmcnjlcjabGreatDoor
