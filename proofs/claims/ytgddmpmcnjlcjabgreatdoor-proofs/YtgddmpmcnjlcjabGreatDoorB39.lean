import Derived.Test.YtgddmpmcnjlcjabGreatDoorB38
import Derived.Deep.RegionHeld3
import Derived.Deep.LoopGhost
import Derived.Deep.QuietTactic
import Derived.BigQuiet
namespace Go.Proofs.YtgddmpmcnjlcjabGreatDoor
open Go.RowKit
set_option linter.unusedVariables false
set_option maxRecDepth 100000 in
set_option maxHeartbeats 4000000 in
theorem block_gen (L : List ByteArray) (gl cl d : Nat) (hd4 : d ≤ 4) (IH : d < 4 → BlockOk L gl cl (d + 1)) (hL : L.length ≤ 1000) (hLz : ∀ i, i < L.length → (L.getD i ByteArray.empty).size ≤ 1000000) (f0 : Nat) (w : World) (base P R : Nat) (l0 : List DB) (s0 : Rf.Rs) (vn0 vk0 vz0 vb : Value)
    (F0 : FRep w base P R l0 (fst_ P gl cl L.length s0) L gl vn0 vk0 vz0 vb) (hds0 : s0.ds = dcs l0) (hf0 : L.length ≤ s0.at_ + 1 + f0) (hat0 : s0.at_ < L.length) (hc0 : s0.cnt ≤ 12) (hl0 : (s0.bdy = true ∧ l0.length ≤ 1000) ∨ l0.length + L.length ≤ 1000) (hRb : base ≤ R) :
    Calls Tryz.prog 32 #[.pointer (some ⟨R, 0, none⟩), .int .i64 d] w fun e w' => BPost w w' base P R gl cl L s0 l0 vn0 vk0 vz0 vb (Rf.blk (L.map ByteArray.toList) f0 d s0 []).2.1 e (Rf.blkS (L.map ByteArray.toList) f0 d s0) := by
  obtain ⟨i0, hi, hz0, hz1, hz2⟩ := info_parts Tryz.infoPt
  have HL := hid hLz
  have HI := hid IH
  have hRel : Hid (BRel w base P R gl cl L d f0 s0 l0 vn0 vk0 vz0 vb f0 (.slice none 0 0) w s0 l0 vn0 vk0 vz0 0 []) :=
    ⟨F0, hds0, hat0, hc0, hf0, Nat.le_refl _, by omega, fun e => ⟨e, rfl, rfl, rfl, rfl, Frm.refl _ _ _⟩, Below.refl _ _, F0.baseLe, World.ownsRow_nil _ _ _ _, Nat.zero_le _, fun k e => by simp [Value.ownBlock] at e, rfl, F0.row.lt, ⟨[], [], rfl, .nil, fun _ => rfl, rfl⟩⟩
  have hdI : (d : Int) ≤ 4 := by omega
  obtain ⟨O, hO⟩ : ∃ O, Rf.blkS (L.map ByteArray.toList) f0 d s0 = O := ⟨_, rfl⟩
  rw [hO]
  have HO := hid hO
  obtain ⟨T, hT⟩ : ∃ T, (Rf.blk (L.map ByteArray.toList) f0 d s0 []).2.1 = T := ⟨_, rfl⟩
  rw [hT]
  have HT := hid hT
  have HL0 := hid hl0
  clear hO hT IH hLz F0 hds0 hf0 hat0 hc0 hl0
  go_enter Tryz.func32, Tryz.ntmps32
  go_wp2_with fail
  go_loopg [6] f0 (fun k v wr => ∃ s l vn vk vz n xs, BRel w base P R gl cl L d f0 s0 l0 vn0 vk0 vz0 vb k v wr s l vn vk vz n xs)
  case atStart => exact ⟨s0, l0, vn0, vk0, vz0, 0, [], hRel.out⟩
  case round =>
    obtain ⟨s, l, vn, vk, vz, n, xs, hb⟩ := hrel
    have HR := hid hb
    have HLL := hid (brel_len hb HL0.out)
    have ltR := hb.rep.row.lt
    have r1 := hb.rep.row.cell (i := 1) (by omega)
    have r2 := hb.rep.row.cell (i := 2) (by omega)
    rw [show fst_ P gl cl L.length s 1 = .slice (some ⟨gl, 0, none⟩) L.length cl from rfl] at r1
    rw [show fst_ P gl cl L.length s 2 = .int .i64 s.at_ from rfl] at r2
    have hlt := hb.lt
    have hlI : (s.at_ : Int) < (L.length : Int) := by omega
    have hLI : (L.length : Int) ≤ 1000 := by omega
    have hLJ : (1 : Int) ≤ (L.length : Int) := by omega
    have h0I : (0 : Int) ≤ (s.at_ : Int) := by omega
    have hnI : (n : Int) ≤ 1000 := by have := hb.num; omega
    have hcI : (s.cnt : Int) ≤ 12 := by have := hb.cnt; omega
    have HFU := hid hb.fuel
    have HLOW := hid hb.low
    obtain ⟨av, cv, hv⟩ := body_val hb.own
    subst hv
    clear hb
    have hLm : (L.map ByteArray.toList).length = L.length := by simp
    by_cases hat : s.at_ + 1 < L.length
    · have hatI : (s.at_ : Int) < (L.length : Int) - 1 := by omega
      obtain ⟨gk', rfl⟩ : ∃ k', gk = k' + 1 := ⟨gk - 1, by have := HFU.out; omega⟩
      have lq := HR.out.rep.lin s.at_ hlt
      obtain ⟨q, hq⟩ : ∃ q, L.getD s.at_ ByteArray.empty = q := ⟨_, rfl⟩
      rw [hq] at lq
      have HQZ := hid (HL.out s.at_ hlt)
      rw [hq] at HQZ
      have HQ := hid hq
      clear hq
      go_wp2_with fail
      go_quiet (fail)
      go_wp2_with fail
      go_region_held3 (fun w' => w'.cell? ⟨R, 1, none⟩ = some (.slice (some ⟨gl, 0, none⟩) L.length cl) ∧ w'.cell? ⟨R, 2, none⟩ = some (.int .i64 s.at_) ∧ w'.cell? ⟨gl, s.at_, none⟩ = some (.string q))
        (first
          | go_keep
          | (go_split_ands
             exact ⟨cell_later hb1 (by assumption), cell_later hb1 (by assumption), cell_later hb1 (by assumption)⟩))
        ((go_at_call 23; refine (cut_any q 32 _ HQZ.out).mono ?_; rintro e w1 ⟨g, cap, ws, rfl, hws, hown1, hb1⟩))
      have HF1 := hid ((HR.out.rep.drewN (nq + 1)).below hb1)
      have HB1 := hid (bel_drewN hb1)
      have HW1 := hid (wds_own hown1)
      have hw0 := len_cut hws
      have hgge : wr.heap.size ≤ g := (hown1.lt g rfl).1
      have hgst : ¬ Stand P R gl vn vk vz g := fun e => by have := HR.out.rep.stand_lt e; omega
      have hgR : g ≠ R := fun e => hgst (.inl e)
      have HGS := hid hgst
      have c0 := HW1.out 0 hw0
      obtain ⟨q0, hq0⟩ : ∃ x, ws.getD 0 ByteArray.empty = x := ⟨_, rfl⟩
      rw [hq0] at c0
      have hlx := line_map L s.at_
      rw [HQ.out] at hlx
      have hw0q : Lk.wd (ws.map ByteArray.toList) 0 = q0.toList := by rw [wd_map, hq0]
      have hcu : Lk.cut 32 ((L.map ByteArray.toList).getD s.at_ []) = ws.map ByteArray.toList := by rw [hlx, hws]
      have HCU := hid hcu
      have hatm : s.at_ + 1 < (L.map ByteArray.toList).length := by rw [hLm]; exact hat
      have HAT := hid hatm
      clear hcu hatm
      have hwI : (1 : Int) ≤ (ws.length : Int) := by omega
      clear hq0 hws hown1 hb1 hlx hgst hLm
      obtain ⟨oo, hoo⟩ : ∃ x, Rf.oneOf q0.toList (dcB.map ByteArray.toList) = x := ⟨_, rfl⟩
      cases oo with
      | some i =>
        have hde : Rf.isDecl (Lk.wd (ws.map ByteArray.toList) 0) = true := by rw [hw0q, isDecl_oneOf, hoo]; rfl
        have HDE := hid hde
        clear hde
        have HOO := hid (show Lk.intO (Rf.oneOf q0.toList (dcB.map ByteArray.toList)) = (i : Int) by rw [hoo]; rfl)
        have hiI : (0 : Int) ≤ (i : Int) := by omega
        obtain ⟨od, hod⟩ : ∃ x, Rf.declare (dcs l) s.bdy (ws.map ByteArray.toList) = x := ⟨_, rfl⟩
        have HOD := hid hod
        clear hod hoo hw0q
        cases od with
        | none =>
          have HBK := hid (blk_none (f := gk') (d := d) HAT.out HCU.out HDE.out (by rw [HR.out.ds]; exact HOD.out))
          go_wp2_with (first
            | (go_at_call 61; refine (decls_of q0 w1 (i : Int) HOO.out).mono ?_; rintro e w2 ⟨rfl, hb2⟩; have HF2 := hid (HF1.out.below hb2); have HW2 := hid (wds_later HW1.out hb2); have HB2 := hid (bel_trans HB1.out hb2); have y0 := cell_later hb2 c0; have lt2 := HF2.out.row.lt; have hg2 := World.block_lt_of_cell? w2 _ y0; have x0 := HF2.out.row.cell (i := 0) (by omega); rw [show fst_ P gl cl L.length s 0 = .pointer (some ⟨P, 0, none⟩) from rfl] at x0; have z0 := HF2.out.row.frozen 0; have x4 := HF2.out.row.cell (i := 4) (by omega); rw [show fst_ P gl cl L.length s 4 = .bool s.bdy from rfl] at x4; have z4 := HF2.out.row.frozen 4; clear hb2)
            | (go_at_call 62; have hh := refDeclare_any (R := R) HF2.out.prog HLL.out g cap ws HW2.out hw0 s.bdy x0 x4 (fun e => HGS.out (.inr (.inr (.inr (.inl e))))) (fun e => HGS.out (.inr (.inr (.inr (.inr (.inl e)))))) (fun e => HGS.out (.inr (.inl e))); rw [HOD.out] at hh; refine hh.mono ?_; rintro e w3 ⟨rfl, hd3⟩; have HD3 := hid hd3; clear hd3 hh))
          go_ret2
          have hb3 := bel_trans HB2.out (HD3.out.no rfl)
          exact bpost_of HR.out HO.out HT.out HBK.out (HR.out.rep.below hb3) HR.out.ds (Frm.ofBelow hb3 HR.out.rep.baseLe) none 0 0 rfl (fun h => absurd h (by simp))
        | some dn =>
          have HBK := hid (blk_some (f := gk') (d := d) HAT.out HCU.out HDE.out (by rw [HR.out.ds]; exact HOD.out))
          have HKT := hid (fun ts => (Rf.blk_decl (out := ts) (f := gk') (d := d) HAT.out HCU.out HDE.out (by rw [HR.out.ds]; exact HOD.out)).symm)
          have hbd : s.bdy = false := by
            cases hbb : s.bdy with
            | false => rfl
            | true => have hz := HOD.out; rw [hbb, Rf.declare_body] at hz; cases hz
          have HBD := hid hbd
          clear hbd
          go_wp2_with (first
            | (go_at_call 61; refine (decls_of q0 w1 (i : Int) HOO.out).mono ?_; rintro e w2 ⟨rfl, hb2⟩; have HF2 := hid (HF1.out.below hb2); have HW2 := hid (wds_later HW1.out hb2); have HB2 := hid (bel_trans HB1.out hb2); have y0 := cell_later hb2 c0; have lt2 := HF2.out.row.lt; have hg2 := World.block_lt_of_cell? w2 _ y0; have x0 := HF2.out.row.cell (i := 0) (by omega); rw [show fst_ P gl cl L.length s 0 = .pointer (some ⟨P, 0, none⟩) from rfl] at x0; have z0 := HF2.out.row.frozen 0; have x4 := HF2.out.row.cell (i := 4) (by omega); rw [show fst_ P gl cl L.length s 4 = .bool s.bdy from rfl] at x4; have z4 := HF2.out.row.frozen 4; clear hb2)
            | (go_at_call 62; have hh := refDeclare_any (R := R) HF2.out.prog HLL.out g cap ws HW2.out hw0 s.bdy x0 x4 (fun e => HGS.out (.inr (.inr (.inr (.inl e))))) (fun e => HGS.out (.inr (.inr (.inr (.inr (.inl e)))))) (fun e => HGS.out (.inr (.inl e))); rw [HOD.out] at hh; refine hh.mono ?_; rintro e w3 ⟨rfl, hd3⟩; obtain ⟨l', vn', vk', vz', hdl, hll, hpr, hn1, hn2, hn3, hfr⟩ := hd3.yes _ rfl; have HF3 := hid (HF2.out.declared hpr hn1 hn2 hn3 hfr); have HFR := hid hfr; have HN1 := hid hn1; have HN2 := hid hn2; have HN3 := hid hn3; have HDL := hid hdl; have HLN := hid hll; clear hd3 hh hfr hpr hn1 hn2 hn3 hdl hll; have lt3 := HF3.out.row.lt; have t2 := HF3.out.row.cell (i := 2) (by omega); rw [show fst_ P gl cl L.length s 2 = .int .i64 s.at_ from rfl] at t2; have k2 := HF3.out.row.frozen 2))
          go_roundg gk'
          case measure => omega
          case rel =>
            have hdl := HDL.out
            subst hdl
            exact ⟨_, l', vn', vk', vz', n, xs, brel_decl HR.out HB2.out HBK.out.symm HKT.out HBD.out hat (by have := HFU.out; omega) HLN.out ((HF3.out.put 2 _).congr (fun i hi => fst_up P gl cl L.length s i hi)) HN1.out HN2.out HN3.out
              (Frm.setCell (HFR.out.imp (fun k _ e => .inr e)) hRb (.inl rfl) _)⟩
      | none =>
        have hde : Rf.isDecl (Lk.wd (ws.map ByteArray.toList) 0) = false := by rw [hw0q, isDecl_oneOf, hoo]; rfl
        have hbk := blk_stmt (f := gk') (d := d) HAT.out HCU.out hde
        have HDE := hid hde
        clear hde
        have HOO := hid (show Lk.intO (Rf.oneOf q0.toList (dcB.map ByteArray.toList)) = -1 by rw [hoo]; rfl)
        clear hoo
        have hnN : n ≤ 1000 := by omega
        cases he : (q0.toList == [101, 108, 115, 101]) with
        | true =>
          by_cases hl1 : ws.length = 1
          · have hl1I : ((ws.length : Int) == 1) = true := by simp; omega
            have HL1 := hid hl1
            clear hl1
            by_cases hd0 : 0 < d
            · have hd0I : (0 : Int) < (d : Int) := by omega
              have HBK := hid (hbk.trans (Rf.stmt_end (.inl (by rw [hw0q]; exact eq_of_beq he))))
              have HLT := hid (fun ts => Rf.blk_here (out := ts) (f := gk') (d := d) HAT.out HCU.out HDE.out (.inl (by rw [hw0q]; exact eq_of_beq he)))
              clear hbk hw0q
              go_wp2_with (first
                | (go_at_call 61; refine (decls_of q0 w1 (-1) HOO.out).mono ?_; rintro e w2 ⟨rfl, hb2⟩; have HF2 := hid (HF1.out.below hb2); have HW2 := hid (wds_later HW1.out hb2); have HB2 := hid (bel_trans HB1.out hb2); have y0 := cell_later hb2 c0; have lt2 := HF2.out.row.lt; have hg2 := World.block_lt_of_cell? w2 _ y0; have x0 := HF2.out.row.cell (i := 0) (by omega); rw [show fst_ P gl cl L.length s 0 = .pointer (some ⟨P, 0, none⟩) from rfl] at x0; have z0 := HF2.out.row.frozen 0; have x2 := HF2.out.row.cell (i := 2) (by omega); rw [show fst_ P gl cl L.length s 2 = .int .i64 s.at_ from rfl] at x2; have z2 := HF2.out.row.frozen 2; have x3 := HF2.out.row.cell (i := 3) (by omega); rw [show fst_ P gl cl L.length s 3 = .int .i64 s.cnt from rfl] at x3; have z3 := HF2.out.row.frozen 3; have x4 := HF2.out.row.cell (i := 4) (by omega); rw [show fst_ P gl cl L.length s 4 = .bool s.bdy from rfl] at x4; have z4 := HF2.out.row.frozen 4; clear hb2))
              go_ret2
              exact bpost_of HR.out HO.out HT.out HBK.out ((HF2.out.put 4 (.bool true)).congr (fun i hi => fst_body P gl cl L.length s i hi)) HR.out.ds (Frm.setCell (p := ⟨R, 4, none⟩) (Frm.ofBelow HB2.out HR.out.rep.baseLe) hRb (.inl rfl) _) av n cv (by simp [HL1.out, hd0]) (fun _ => ⟨rfl, HLT.out, Frm.setCell (p := ⟨R, 4, none⟩) (Frm.ofBelow (S := fun k => k = R) HB2.out HR.out.rep.baseLe) hRb rfl _⟩)
            · have hd0I : ¬ (0 : Int) < (d : Int) := by omega
              have HBK := hid (hbk.trans (Rf.stmt_end (.inl (by rw [hw0q]; exact eq_of_beq he))))
              have HLT := hid (fun ts => Rf.blk_here (out := ts) (f := gk') (d := d) HAT.out HCU.out HDE.out (.inl (by rw [hw0q]; exact eq_of_beq he)))
              clear hbk hw0q
              go_wp2_with (first
                | (go_at_call 61; refine (decls_of q0 w1 (-1) HOO.out).mono ?_; rintro e w2 ⟨rfl, hb2⟩; have HF2 := hid (HF1.out.below hb2); have HW2 := hid (wds_later HW1.out hb2); have HB2 := hid (bel_trans HB1.out hb2); have y0 := cell_later hb2 c0; have lt2 := HF2.out.row.lt; have hg2 := World.block_lt_of_cell? w2 _ y0; have x0 := HF2.out.row.cell (i := 0) (by omega); rw [show fst_ P gl cl L.length s 0 = .pointer (some ⟨P, 0, none⟩) from rfl] at x0; have z0 := HF2.out.row.frozen 0; have x2 := HF2.out.row.cell (i := 2) (by omega); rw [show fst_ P gl cl L.length s 2 = .int .i64 s.at_ from rfl] at x2; have z2 := HF2.out.row.frozen 2; have x3 := HF2.out.row.cell (i := 3) (by omega); rw [show fst_ P gl cl L.length s 3 = .int .i64 s.cnt from rfl] at x3; have z3 := HF2.out.row.frozen 3; have x4 := HF2.out.row.cell (i := 4) (by omega); rw [show fst_ P gl cl L.length s 4 = .bool s.bdy from rfl] at x4; have z4 := HF2.out.row.frozen 4; clear hb2))
              go_ret2
              exact bpost_of HR.out HO.out HT.out HBK.out ((HF2.out.put 4 (.bool true)).congr (fun i hi => fst_body P gl cl L.length s i hi)) HR.out.ds (Frm.setCell (p := ⟨R, 4, none⟩) (Frm.ofBelow HB2.out HR.out.rep.baseLe) hRb (.inl rfl) _) av n cv (by simp [HL1.out, hd0]) (fun _ => ⟨rfl, HLT.out, Frm.setCell (p := ⟨R, 4, none⟩) (Frm.ofBelow (S := fun k => k = R) HB2.out HR.out.rep.baseLe) hRb rfl _⟩)
          · have hl1I : ((ws.length : Int) == 1) = false := by simp; omega
            have HL1 := hid hl1
            clear hl1
            have HBK := hid (hbk.trans (Rf.stmt_end (.inl (by rw [hw0q]; exact eq_of_beq he))))
            have HLT := hid (fun ts => Rf.blk_here (out := ts) (f := gk') (d := d) HAT.out HCU.out HDE.out (.inl (by rw [hw0q]; exact eq_of_beq he)))
            clear hbk hw0q
            go_wp2_with (first
              | (go_at_call 61; refine (decls_of q0 w1 (-1) HOO.out).mono ?_; rintro e w2 ⟨rfl, hb2⟩; have HF2 := hid (HF1.out.below hb2); have HW2 := hid (wds_later HW1.out hb2); have HB2 := hid (bel_trans HB1.out hb2); have y0 := cell_later hb2 c0; have lt2 := HF2.out.row.lt; have hg2 := World.block_lt_of_cell? w2 _ y0; have x0 := HF2.out.row.cell (i := 0) (by omega); rw [show fst_ P gl cl L.length s 0 = .pointer (some ⟨P, 0, none⟩) from rfl] at x0; have z0 := HF2.out.row.frozen 0; have x2 := HF2.out.row.cell (i := 2) (by omega); rw [show fst_ P gl cl L.length s 2 = .int .i64 s.at_ from rfl] at x2; have z2 := HF2.out.row.frozen 2; have x3 := HF2.out.row.cell (i := 3) (by omega); rw [show fst_ P gl cl L.length s 3 = .int .i64 s.cnt from rfl] at x3; have z3 := HF2.out.row.frozen 3; have x4 := HF2.out.row.cell (i := 4) (by omega); rw [show fst_ P gl cl L.length s 4 = .bool s.bdy from rfl] at x4; have z4 := HF2.out.row.frozen 4; clear hb2))
            go_ret2
            exact bpost_of HR.out HO.out HT.out HBK.out ((HF2.out.put 4 (.bool true)).congr (fun i hi => fst_body P gl cl L.length s i hi)) HR.out.ds (Frm.setCell (p := ⟨R, 4, none⟩) (Frm.ofBelow HB2.out HR.out.rep.baseLe) hRb (.inl rfl) _) av n cv (by simp [HL1.out]) (fun _ => ⟨rfl, HLT.out, Frm.setCell (p := ⟨R, 4, none⟩) (Frm.ofBelow (S := fun k => k = R) HB2.out HR.out.rep.baseLe) hRb rfl _⟩)
        | false =>
        cases hn : (q0.toList == [101, 110, 100]) with
        | true =>
          by_cases hl1 : ws.length = 1
          · have hl1I : ((ws.length : Int) == 1) = true := by simp; omega
            have HL1 := hid hl1
            clear hl1
            by_cases hd0 : 0 < d
            · have hd0I : (0 : Int) < (d : Int) := by omega
              have HBK := hid (hbk.trans (Rf.stmt_end (.inr (by rw [hw0q]; exact eq_of_beq hn))))
              have HLT := hid (fun ts => Rf.blk_here (out := ts) (f := gk') (d := d) HAT.out HCU.out HDE.out (.inr (by rw [hw0q]; exact eq_of_beq hn)))
              clear hbk hw0q
              go_wp2_with (first
                | (go_at_call 61; refine (decls_of q0 w1 (-1) HOO.out).mono ?_; rintro e w2 ⟨rfl, hb2⟩; have HF2 := hid (HF1.out.below hb2); have HW2 := hid (wds_later HW1.out hb2); have HB2 := hid (bel_trans HB1.out hb2); have y0 := cell_later hb2 c0; have lt2 := HF2.out.row.lt; have hg2 := World.block_lt_of_cell? w2 _ y0; have x0 := HF2.out.row.cell (i := 0) (by omega); rw [show fst_ P gl cl L.length s 0 = .pointer (some ⟨P, 0, none⟩) from rfl] at x0; have z0 := HF2.out.row.frozen 0; have x2 := HF2.out.row.cell (i := 2) (by omega); rw [show fst_ P gl cl L.length s 2 = .int .i64 s.at_ from rfl] at x2; have z2 := HF2.out.row.frozen 2; have x3 := HF2.out.row.cell (i := 3) (by omega); rw [show fst_ P gl cl L.length s 3 = .int .i64 s.cnt from rfl] at x3; have z3 := HF2.out.row.frozen 3; have x4 := HF2.out.row.cell (i := 4) (by omega); rw [show fst_ P gl cl L.length s 4 = .bool s.bdy from rfl] at x4; have z4 := HF2.out.row.frozen 4; clear hb2))
              go_ret2
              exact bpost_of HR.out HO.out HT.out HBK.out ((HF2.out.put 4 (.bool true)).congr (fun i hi => fst_body P gl cl L.length s i hi)) HR.out.ds (Frm.setCell (p := ⟨R, 4, none⟩) (Frm.ofBelow HB2.out HR.out.rep.baseLe) hRb (.inl rfl) _) av n cv (by simp [HL1.out, hd0]) (fun _ => ⟨rfl, HLT.out, Frm.setCell (p := ⟨R, 4, none⟩) (Frm.ofBelow (S := fun k => k = R) HB2.out HR.out.rep.baseLe) hRb rfl _⟩)
            · have hd0I : ¬ (0 : Int) < (d : Int) := by omega
              have HBK := hid (hbk.trans (Rf.stmt_end (.inr (by rw [hw0q]; exact eq_of_beq hn))))
              have HLT := hid (fun ts => Rf.blk_here (out := ts) (f := gk') (d := d) HAT.out HCU.out HDE.out (.inr (by rw [hw0q]; exact eq_of_beq hn)))
              clear hbk hw0q
              go_wp2_with (first
                | (go_at_call 61; refine (decls_of q0 w1 (-1) HOO.out).mono ?_; rintro e w2 ⟨rfl, hb2⟩; have HF2 := hid (HF1.out.below hb2); have HW2 := hid (wds_later HW1.out hb2); have HB2 := hid (bel_trans HB1.out hb2); have y0 := cell_later hb2 c0; have lt2 := HF2.out.row.lt; have hg2 := World.block_lt_of_cell? w2 _ y0; have x0 := HF2.out.row.cell (i := 0) (by omega); rw [show fst_ P gl cl L.length s 0 = .pointer (some ⟨P, 0, none⟩) from rfl] at x0; have z0 := HF2.out.row.frozen 0; have x2 := HF2.out.row.cell (i := 2) (by omega); rw [show fst_ P gl cl L.length s 2 = .int .i64 s.at_ from rfl] at x2; have z2 := HF2.out.row.frozen 2; have x3 := HF2.out.row.cell (i := 3) (by omega); rw [show fst_ P gl cl L.length s 3 = .int .i64 s.cnt from rfl] at x3; have z3 := HF2.out.row.frozen 3; have x4 := HF2.out.row.cell (i := 4) (by omega); rw [show fst_ P gl cl L.length s 4 = .bool s.bdy from rfl] at x4; have z4 := HF2.out.row.frozen 4; clear hb2))
              go_ret2
              exact bpost_of HR.out HO.out HT.out HBK.out ((HF2.out.put 4 (.bool true)).congr (fun i hi => fst_body P gl cl L.length s i hi)) HR.out.ds (Frm.setCell (p := ⟨R, 4, none⟩) (Frm.ofBelow HB2.out HR.out.rep.baseLe) hRb (.inl rfl) _) av n cv (by simp [HL1.out, hd0]) (fun _ => ⟨rfl, HLT.out, Frm.setCell (p := ⟨R, 4, none⟩) (Frm.ofBelow (S := fun k => k = R) HB2.out HR.out.rep.baseLe) hRb rfl _⟩)
          · have hl1I : ((ws.length : Int) == 1) = false := by simp; omega
            have HL1 := hid hl1
            clear hl1
            have HBK := hid (hbk.trans (Rf.stmt_end (.inr (by rw [hw0q]; exact eq_of_beq hn))))
            have HLT := hid (fun ts => Rf.blk_here (out := ts) (f := gk') (d := d) HAT.out HCU.out HDE.out (.inr (by rw [hw0q]; exact eq_of_beq hn)))
            clear hbk hw0q
            go_wp2_with (first
              | (go_at_call 61; refine (decls_of q0 w1 (-1) HOO.out).mono ?_; rintro e w2 ⟨rfl, hb2⟩; have HF2 := hid (HF1.out.below hb2); have HW2 := hid (wds_later HW1.out hb2); have HB2 := hid (bel_trans HB1.out hb2); have y0 := cell_later hb2 c0; have lt2 := HF2.out.row.lt; have hg2 := World.block_lt_of_cell? w2 _ y0; have x0 := HF2.out.row.cell (i := 0) (by omega); rw [show fst_ P gl cl L.length s 0 = .pointer (some ⟨P, 0, none⟩) from rfl] at x0; have z0 := HF2.out.row.frozen 0; have x2 := HF2.out.row.cell (i := 2) (by omega); rw [show fst_ P gl cl L.length s 2 = .int .i64 s.at_ from rfl] at x2; have z2 := HF2.out.row.frozen 2; have x3 := HF2.out.row.cell (i := 3) (by omega); rw [show fst_ P gl cl L.length s 3 = .int .i64 s.cnt from rfl] at x3; have z3 := HF2.out.row.frozen 3; have x4 := HF2.out.row.cell (i := 4) (by omega); rw [show fst_ P gl cl L.length s 4 = .bool s.bdy from rfl] at x4; have z4 := HF2.out.row.frozen 4; clear hb2))
            go_ret2
            exact bpost_of HR.out HO.out HT.out HBK.out ((HF2.out.put 4 (.bool true)).congr (fun i hi => fst_body P gl cl L.length s i hi)) HR.out.ds (Frm.setCell (p := ⟨R, 4, none⟩) (Frm.ofBelow HB2.out HR.out.rep.baseLe) hRb (.inl rfl) _) av n cv (by simp [HL1.out]) (fun _ => ⟨rfl, HLT.out, Frm.setCell (p := ⟨R, 4, none⟩) (Frm.ofBelow (S := fun k => k = R) HB2.out HR.out.rep.baseLe) hRb rfl _⟩)
        | false =>
        have hne : ¬ (Lk.wd (ws.map ByteArray.toList) 0 = Rf.wElse ∨ Lk.wd (ws.map ByteArray.toList) 0 = Rf.wEnd) := by
          rw [hw0q]
          intro c
          rcases c with c | c
          · exact ne_of_beq_false he c
          · exact ne_of_beq_false hn c
        have HNE := hid hne
        by_cases hc : s.cnt = 12
        · have HBK := hid (hbk.trans (Rf.stmt_full hne hc))
          have hcJ : ((s.cnt : Int) == 12) = true := by simp; omega
          clear hbk hw0q hc
          go_wp2_with (first
            | (go_at_call 61; refine (decls_of q0 w1 (-1) HOO.out).mono ?_; rintro e w2 ⟨rfl, hb2⟩; have HF2 := hid (HF1.out.below hb2); have HW2 := hid (wds_later HW1.out hb2); have HB2 := hid (bel_trans HB1.out hb2); have y0 := cell_later hb2 c0; have lt2 := HF2.out.row.lt; have hg2 := World.block_lt_of_cell? w2 _ y0; have x0 := HF2.out.row.cell (i := 0) (by omega); rw [show fst_ P gl cl L.length s 0 = .pointer (some ⟨P, 0, none⟩) from rfl] at x0; have z0 := HF2.out.row.frozen 0; have x2 := HF2.out.row.cell (i := 2) (by omega); rw [show fst_ P gl cl L.length s 2 = .int .i64 s.at_ from rfl] at x2; have z2 := HF2.out.row.frozen 2; have x3 := HF2.out.row.cell (i := 3) (by omega); rw [show fst_ P gl cl L.length s 3 = .int .i64 s.cnt from rfl] at x3; have z3 := HF2.out.row.frozen 3; have x4 := HF2.out.row.cell (i := 4) (by omega); rw [show fst_ P gl cl L.length s 4 = .bool s.bdy from rfl] at x4; have z4 := HF2.out.row.frozen 4; clear hb2))
          go_ret2
          exact bpost_of HR.out HO.out HT.out HBK.out (HF2.out.stmt _) HR.out.ds (Frm.alloc (Frm.setCell (p := ⟨R, 4, none⟩) (Frm.ofBelow HB2.out HR.out.rep.baseLe) hRb (.inl rfl) _) (by have := HF2.out.baseLe; simp; omega) _) none 0 0 rfl (fun h => absurd h (by simp))
        · have hcJ : ((s.cnt : Int) == 12) = false := by simp; omega
          cases hif : (q0.toList == [105, 102]) with
          | true =>
            obtain ⟨⟨nb, sn⟩, hno⟩ : ∃ o, Rf.nestS (Rf.blkS (L.map ByteArray.toList) gk') (L.map ByteArray.toList) d { s with bdy := true } (ws.map ByteArray.toList) = o := ⟨_, rfl⟩
            have HNO := hid hno
            have hpn := Rf.post_nest (B := Rf.blkS (L.map ByteArray.toList) gk') (L := L.map ByteArray.toList) d { s with bdy := true } (fun d' s' g1 g2 g3 => Rf.post_blk _ gk' d' s' g2 g3 (by have := HFU.out; have e : s.at_ + 1 ≤ s'.at_ := g1; simp; omega)) (ws.map ByteArray.toList) HAT.out (by show s.cnt < 12; omega)
            rw [hno] at hpn
            have HP1 := hid (show sn.at_ < L.length by have := hpn.1; simpa using this)
            have HP3 := hid (show sn.cnt ≤ 12 from hpn.2.2.1)
            have HP4 := hid (show sn.bdy = true ∧ sn.ds = s.ds from hpn.2.2.2.1 rfl)
            have HP5 := hid (hpn.2.2.2.2)
            have HCN := hid (show s.cnt < 12 by omega)
            clear hno hpn
            have HHC := hid hc
            cases nb with
            | false =>
              clear HP5
              have HBK := hid (hbk.trans (Rf.stmt_nestF hne hc (.inl (by rw [hw0q]; exact eq_of_beq hif)) HNO.out))
              clear hbk hw0q hc
              go_wp2_with (first
                | (go_at_call 61; refine (decls_of q0 w1 (-1) HOO.out).mono ?_; rintro e w2 ⟨rfl, hb2⟩; have HF2 := hid (HF1.out.below hb2); have HW2 := hid (wds_later HW1.out hb2); have HB2 := hid (bel_trans HB1.out hb2); have y0 := cell_later hb2 c0; have lt2 := HF2.out.row.lt; have hg2 := World.block_lt_of_cell? w2 _ y0; have x0 := HF2.out.row.cell (i := 0) (by omega); rw [show fst_ P gl cl L.length s 0 = .pointer (some ⟨P, 0, none⟩) from rfl] at x0; have z0 := HF2.out.row.frozen 0; have x2 := HF2.out.row.cell (i := 2) (by omega); rw [show fst_ P gl cl L.length s 2 = .int .i64 s.at_ from rfl] at x2; have z2 := HF2.out.row.frozen 2; have x3 := HF2.out.row.cell (i := 3) (by omega); rw [show fst_ P gl cl L.length s 3 = .int .i64 s.cnt from rfl] at x3; have z3 := HF2.out.row.frozen 3; have x4 := HF2.out.row.cell (i := 4) (by omega); rw [show fst_ P gl cl L.length s 4 = .bool s.bdy from rfl] at x4; have z4 := HF2.out.row.frozen 4; clear hb2)
                | (go_at_call 63; refine (nested_at (cap := cap) HF2.out HLL.out hL HW2.out hw0 hgR hg2 HR.out.ds HFU.out hat HCN.out hd4 HI.out hRb _ HNO.out).mono ?_; rintro e w4 ⟨rfl, hF4, hfr4, hT4⟩; have HT4 := hid hT4; have HZ4 := hid hfr4.bel.size; clear hT4; have HF4 := hid hF4; have HFR4 := hid ((Frm.ofBelow (S := fun k => k = R) HB2.out HR.out.rep.baseLe).trans hfr4 (fun k _ e => e)); have HOWN := hid (own_keep HR.out HFR4.out.down (fun k _ e => .inl e)); have HSZ := hid (Nat.le_trans HR.out.bel.size HFR4.out.bel.size); clear hF4 hfr4))
              go_ret2
              exact bpost_of HR.out HO.out HT.out HBK.out HF4.out (HP4.out.2.trans HR.out.ds) (HFR4.out.imp (fun k _ e => .inl e)) none 0 0 rfl (fun h => absurd h (by simp))
            | true =>
              have HP6 := hid (show s.at_ + 1 ≤ sn.at_ from HP5.out rfl)
              clear HP5
              have HBK := hid (hbk.trans (Rf.stmt_nestT hne hc (.inl (by rw [hw0q]; exact eq_of_beq hif)) HNO.out))
              have HKT := hid (fun ts => (Rf.blk_nest (out := ts) HAT.out HCU.out HDE.out hne hc (.inl (by rw [hw0q]; exact eq_of_beq hif)) HNO.out).symm)
              clear hbk hw0q hc
              go_wp2_with (first
                | (go_at_call 61; refine (decls_of q0 w1 (-1) HOO.out).mono ?_; rintro e w2 ⟨rfl, hb2⟩; have HF2 := hid (HF1.out.below hb2); have HW2 := hid (wds_later HW1.out hb2); have HB2 := hid (bel_trans HB1.out hb2); have y0 := cell_later hb2 c0; have lt2 := HF2.out.row.lt; have hg2 := World.block_lt_of_cell? w2 _ y0; have x0 := HF2.out.row.cell (i := 0) (by omega); rw [show fst_ P gl cl L.length s 0 = .pointer (some ⟨P, 0, none⟩) from rfl] at x0; have z0 := HF2.out.row.frozen 0; have x2 := HF2.out.row.cell (i := 2) (by omega); rw [show fst_ P gl cl L.length s 2 = .int .i64 s.at_ from rfl] at x2; have z2 := HF2.out.row.frozen 2; have x3 := HF2.out.row.cell (i := 3) (by omega); rw [show fst_ P gl cl L.length s 3 = .int .i64 s.cnt from rfl] at x3; have z3 := HF2.out.row.frozen 3; have x4 := HF2.out.row.cell (i := 4) (by omega); rw [show fst_ P gl cl L.length s 4 = .bool s.bdy from rfl] at x4; have z4 := HF2.out.row.frozen 4; clear hb2)
                | (go_at_call 63; refine (nested_at (cap := cap) HF2.out HLL.out hL HW2.out hw0 hgR hg2 HR.out.ds HFU.out hat HCN.out hd4 HI.out hRb _ HNO.out).mono ?_; rintro e w4 ⟨rfl, hF4, hfr4, hT4⟩; have HT4 := hid hT4; have HZ4 := hid hfr4.bel.size; clear hT4; have HF4 := hid hF4; have HFR4 := hid ((Frm.ofBelow (S := fun k => k = R) HB2.out HR.out.rep.baseLe).trans hfr4 (fun k _ e => e)); have HOWN := hid (own_keep HR.out HFR4.out.down (fun k _ e => .inl e)); have HSZ := hid (Nat.le_trans HR.out.bel.size HFR4.out.bel.size); clear hF4 hfr4)
                | (at_builtin; refine wpList_append_lies _ rfl _ _ 87 rfl w.heap.size 143 i0 _ 1 8 Tryz.underlying87 hi hz0 hz1 hz2 rfl (by omega) _ n xs rfl (World.ownsRow.alloc HOWN.out _) ⟨w4.heap.size, 0, none⟩ 1 1 [.pointer (some ⟨w2.heap.size, 0, none⟩)] rfl rfl (cell_one_new _ _ _) (by simp [Value.oneCell']) (by omega) (by unfold maxLen; omega) (by omega) (by have := HSZ.out; simp; omega) (w4.heap.size + 1) (by simp) ?_; intro g1 p1 x1 hown1 hgrow1 hat1 hlt1))
              go_roundg gk'
              case measure => omega
              case rel =>
                have p5 : s.at_ + 1 ≤ sn.at_ := HP6.out
                exact ⟨sn, l, vn, vk, vz, n + 1, _, brel_push HR.out HBK.out.symm HKT.out (ts_up (HT4.out trivial) hgge hg2 HB2.out.size HZ4.out) rfl (HP4.out.2.trans HR.out.ds) HP1.out HP3.out (by have := HFU.out; omega) p5 HP4.out.1 HF4.out HFR4.out hown1 hgrow1 hat1⟩
          | false =>
          cases hwh : (q0.toList == [119, 104, 105, 108, 101]) with
          | true =>
            obtain ⟨⟨nb, sn⟩, hno⟩ : ∃ o, Rf.nestS (Rf.blkS (L.map ByteArray.toList) gk') (L.map ByteArray.toList) d { s with bdy := true } (ws.map ByteArray.toList) = o := ⟨_, rfl⟩
            have HNO := hid hno
            have hpn := Rf.post_nest (B := Rf.blkS (L.map ByteArray.toList) gk') (L := L.map ByteArray.toList) d { s with bdy := true } (fun d' s' g1 g2 g3 => Rf.post_blk _ gk' d' s' g2 g3 (by have := HFU.out; have e : s.at_ + 1 ≤ s'.at_ := g1; simp; omega)) (ws.map ByteArray.toList) HAT.out (by show s.cnt < 12; omega)
            rw [hno] at hpn
            have HP1 := hid (show sn.at_ < L.length by have := hpn.1; simpa using this)
            have HP3 := hid (show sn.cnt ≤ 12 from hpn.2.2.1)
            have HP4 := hid (show sn.bdy = true ∧ sn.ds = s.ds from hpn.2.2.2.1 rfl)
            have HP5 := hid (hpn.2.2.2.2)
            have HCN := hid (show s.cnt < 12 by omega)
            clear hno hpn
            have HHC := hid hc
            cases nb with
            | false =>
              clear HP5
              have HBK := hid (hbk.trans (Rf.stmt_nestF hne hc (.inr (by rw [hw0q]; exact eq_of_beq hwh)) HNO.out))
              clear hbk hw0q hc
              go_wp2_with (first
                | (go_at_call 61; refine (decls_of q0 w1 (-1) HOO.out).mono ?_; rintro e w2 ⟨rfl, hb2⟩; have HF2 := hid (HF1.out.below hb2); have HW2 := hid (wds_later HW1.out hb2); have HB2 := hid (bel_trans HB1.out hb2); have y0 := cell_later hb2 c0; have lt2 := HF2.out.row.lt; have hg2 := World.block_lt_of_cell? w2 _ y0; have x0 := HF2.out.row.cell (i := 0) (by omega); rw [show fst_ P gl cl L.length s 0 = .pointer (some ⟨P, 0, none⟩) from rfl] at x0; have z0 := HF2.out.row.frozen 0; have x2 := HF2.out.row.cell (i := 2) (by omega); rw [show fst_ P gl cl L.length s 2 = .int .i64 s.at_ from rfl] at x2; have z2 := HF2.out.row.frozen 2; have x3 := HF2.out.row.cell (i := 3) (by omega); rw [show fst_ P gl cl L.length s 3 = .int .i64 s.cnt from rfl] at x3; have z3 := HF2.out.row.frozen 3; have x4 := HF2.out.row.cell (i := 4) (by omega); rw [show fst_ P gl cl L.length s 4 = .bool s.bdy from rfl] at x4; have z4 := HF2.out.row.frozen 4; clear hb2)
                | (go_at_call 63; refine (nested_at (cap := cap) HF2.out HLL.out hL HW2.out hw0 hgR hg2 HR.out.ds HFU.out hat HCN.out hd4 HI.out hRb _ HNO.out).mono ?_; rintro e w4 ⟨rfl, hF4, hfr4, hT4⟩; have HT4 := hid hT4; have HZ4 := hid hfr4.bel.size; clear hT4; have HF4 := hid hF4; have HFR4 := hid ((Frm.ofBelow (S := fun k => k = R) HB2.out HR.out.rep.baseLe).trans hfr4 (fun k _ e => e)); have HOWN := hid (own_keep HR.out HFR4.out.down (fun k _ e => .inl e)); have HSZ := hid (Nat.le_trans HR.out.bel.size HFR4.out.bel.size); clear hF4 hfr4))
              go_ret2
              exact bpost_of HR.out HO.out HT.out HBK.out HF4.out (HP4.out.2.trans HR.out.ds) (HFR4.out.imp (fun k _ e => .inl e)) none 0 0 rfl (fun h => absurd h (by simp))
            | true =>
              have HP6 := hid (show s.at_ + 1 ≤ sn.at_ from HP5.out rfl)
              clear HP5
              have HBK := hid (hbk.trans (Rf.stmt_nestT hne hc (.inr (by rw [hw0q]; exact eq_of_beq hwh)) HNO.out))
              have HKT := hid (fun ts => (Rf.blk_nest (out := ts) HAT.out HCU.out HDE.out hne hc (.inr (by rw [hw0q]; exact eq_of_beq hwh)) HNO.out).symm)
              clear hbk hw0q hc
              go_wp2_with (first
                | (go_at_call 61; refine (decls_of q0 w1 (-1) HOO.out).mono ?_; rintro e w2 ⟨rfl, hb2⟩; have HF2 := hid (HF1.out.below hb2); have HW2 := hid (wds_later HW1.out hb2); have HB2 := hid (bel_trans HB1.out hb2); have y0 := cell_later hb2 c0; have lt2 := HF2.out.row.lt; have hg2 := World.block_lt_of_cell? w2 _ y0; have x0 := HF2.out.row.cell (i := 0) (by omega); rw [show fst_ P gl cl L.length s 0 = .pointer (some ⟨P, 0, none⟩) from rfl] at x0; have z0 := HF2.out.row.frozen 0; have x2 := HF2.out.row.cell (i := 2) (by omega); rw [show fst_ P gl cl L.length s 2 = .int .i64 s.at_ from rfl] at x2; have z2 := HF2.out.row.frozen 2; have x3 := HF2.out.row.cell (i := 3) (by omega); rw [show fst_ P gl cl L.length s 3 = .int .i64 s.cnt from rfl] at x3; have z3 := HF2.out.row.frozen 3; have x4 := HF2.out.row.cell (i := 4) (by omega); rw [show fst_ P gl cl L.length s 4 = .bool s.bdy from rfl] at x4; have z4 := HF2.out.row.frozen 4; clear hb2)
                | (go_at_call 63; refine (nested_at (cap := cap) HF2.out HLL.out hL HW2.out hw0 hgR hg2 HR.out.ds HFU.out hat HCN.out hd4 HI.out hRb _ HNO.out).mono ?_; rintro e w4 ⟨rfl, hF4, hfr4, hT4⟩; have HT4 := hid hT4; have HZ4 := hid hfr4.bel.size; clear hT4; have HF4 := hid hF4; have HFR4 := hid ((Frm.ofBelow (S := fun k => k = R) HB2.out HR.out.rep.baseLe).trans hfr4 (fun k _ e => e)); have HOWN := hid (own_keep HR.out HFR4.out.down (fun k _ e => .inl e)); have HSZ := hid (Nat.le_trans HR.out.bel.size HFR4.out.bel.size); clear hF4 hfr4)
                | (at_builtin; refine wpList_append_lies _ rfl _ _ 87 rfl w.heap.size 143 i0 _ 1 8 Tryz.underlying87 hi hz0 hz1 hz2 rfl (by omega) _ n xs rfl (World.ownsRow.alloc HOWN.out _) ⟨w4.heap.size, 0, none⟩ 1 1 [.pointer (some ⟨w2.heap.size, 0, none⟩)] rfl rfl (cell_one_new _ _ _) (by simp [Value.oneCell']) (by omega) (by unfold maxLen; omega) (by omega) (by have := HSZ.out; simp; omega) (w4.heap.size + 1) (by simp) ?_; intro g1 p1 x1 hown1 hgrow1 hat1 hlt1))
              go_roundg gk'
              case measure => omega
              case rel =>
                have p5 : s.at_ + 1 ≤ sn.at_ := HP6.out
                exact ⟨sn, l, vn, vk, vz, n + 1, _, brel_push HR.out HBK.out.symm HKT.out (ts_up (HT4.out trivial) hgge hg2 HB2.out.size HZ4.out) rfl (HP4.out.2.trans HR.out.ds) HP1.out HP3.out (by have := HFU.out; omega) p5 HP4.out.1 HF4.out HFR4.out hown1 hgrow1 hat1⟩
          | false =>
            have hni : ¬ (Lk.wd (ws.map ByteArray.toList) 0 = Rf.wIf ∨ Lk.wd (ws.map ByteArray.toList) 0 = Rf.wWhile) := by
              rw [hw0q]
              intro c
              rcases c with c | c
              · exact ne_of_beq_false hif c
              · exact ne_of_beq_false hwh c
            obtain ⟨nb, hno⟩ : ∃ o, Rf.fits (dcs l) (ws.map ByteArray.toList) = o := ⟨_, rfl⟩
            have HNO := hid hno
            have HCN := hid (show s.cnt < 12 by omega)
            clear hno
            cases nb with
            | false =>
              have HBK := hid (hbk.trans (Rf.stmt_fitF hne hc hni (by rw [← HNO.out]; exact congrArg (fun x => Rf.fits x _) HR.out.ds)))
              clear hbk hw0q hc
              go_wp2_with (first
                | (go_at_call 61; refine (decls_of q0 w1 (-1) HOO.out).mono ?_; rintro e w2 ⟨rfl, hb2⟩; have HF2 := hid (HF1.out.below hb2); have HW2 := hid (wds_later HW1.out hb2); have HB2 := hid (bel_trans HB1.out hb2); have y0 := cell_later hb2 c0; have lt2 := HF2.out.row.lt; have hg2 := World.block_lt_of_cell? w2 _ y0; have x0 := HF2.out.row.cell (i := 0) (by omega); rw [show fst_ P gl cl L.length s 0 = .pointer (some ⟨P, 0, none⟩) from rfl] at x0; have z0 := HF2.out.row.frozen 0; have x2 := HF2.out.row.cell (i := 2) (by omega); rw [show fst_ P gl cl L.length s 2 = .int .i64 s.at_ from rfl] at x2; have z2 := HF2.out.row.frozen 2; have x3 := HF2.out.row.cell (i := 3) (by omega); rw [show fst_ P gl cl L.length s 3 = .int .i64 s.cnt from rfl] at x3; have z3 := HF2.out.row.frozen 3; have x4 := HF2.out.row.cell (i := 4) (by omega); rw [show fst_ P gl cl L.length s 4 = .bool s.bdy from rfl] at x4; have z4 := HF2.out.row.frozen 4; clear hb2)
                | (go_at_call 64; refine (fits_at (cap := cap) HF2.out HLL.out HW2.out hw0 hgR hg2 hRb _ HNO.out).mono ?_; rintro e w4 ⟨rfl, hF4, hfr4, hT4⟩; have HT4 := hid hT4; have HZ4 := hid hfr4.bel.size; clear hT4; have HF4 := hid hF4; have HFR4 := hid ((Frm.ofBelow (S := fun k => k = R) HB2.out HR.out.rep.baseLe).trans hfr4 (fun k _ e => e)); have lt4 := HF4.out.row.lt; have a2 := HF4.out.row.cell (i := 2) (by omega); rw [show fst_ P gl cl L.length { s with bdy := true } 2 = .int .i64 s.at_ from rfl] at a2; have a3 := HF4.out.row.cell (i := 3) (by omega); rw [show fst_ P gl cl L.length { s with bdy := true } 3 = .int .i64 s.cnt from rfl] at a3; have b2 := HF4.out.row.frozen 2; have b3 := HF4.out.row.frozen 3; clear hF4 hfr4))
              go_ret2
              exact bpost_of HR.out HO.out HT.out HBK.out ((HF4.out.put 3 (.int .i64 ((s.cnt : Int) + 1))).congr (fun i hi => fst_cnt P gl cl L.length { s with bdy := true } i hi)) HR.out.ds ((Frm.setCell (p := ⟨R, 3, none⟩) HFR4.out hRb rfl (.int .i64 ((s.cnt : Int) + 1))).imp (fun k _ e => .inl e)) none 0 0 rfl (fun h => absurd h (by simp))
            | true =>
              have HBK := hid (hbk.trans (Rf.stmt_fitT hne hc hni (by rw [← HNO.out]; exact congrArg (fun x => Rf.fits x _) HR.out.ds)))
              have HKT := hid (fun ts => (Rf.blk_fit (out := ts) (f := gk') (d := d) HAT.out HCU.out HDE.out hne hc hni (by rw [← HNO.out]; exact congrArg (fun x => Rf.fits x _) HR.out.ds)).symm)
              clear hbk hw0q hc
              go_wp2_with (first
                | (go_at_call 61; refine (decls_of q0 w1 (-1) HOO.out).mono ?_; rintro e w2 ⟨rfl, hb2⟩; have HF2 := hid (HF1.out.below hb2); have HW2 := hid (wds_later HW1.out hb2); have HB2 := hid (bel_trans HB1.out hb2); have y0 := cell_later hb2 c0; have lt2 := HF2.out.row.lt; have hg2 := World.block_lt_of_cell? w2 _ y0; have x0 := HF2.out.row.cell (i := 0) (by omega); rw [show fst_ P gl cl L.length s 0 = .pointer (some ⟨P, 0, none⟩) from rfl] at x0; have z0 := HF2.out.row.frozen 0; have x2 := HF2.out.row.cell (i := 2) (by omega); rw [show fst_ P gl cl L.length s 2 = .int .i64 s.at_ from rfl] at x2; have z2 := HF2.out.row.frozen 2; have x3 := HF2.out.row.cell (i := 3) (by omega); rw [show fst_ P gl cl L.length s 3 = .int .i64 s.cnt from rfl] at x3; have z3 := HF2.out.row.frozen 3; have x4 := HF2.out.row.cell (i := 4) (by omega); rw [show fst_ P gl cl L.length s 4 = .bool s.bdy from rfl] at x4; have z4 := HF2.out.row.frozen 4; clear hb2)
                | (go_at_call 64; refine (fits_at (cap := cap) HF2.out HLL.out HW2.out hw0 hgR hg2 hRb _ HNO.out).mono ?_; rintro e w4 ⟨rfl, hF4, hfr4, hT4⟩; have HT4 := hid hT4; have HZ4 := hid hfr4.bel.size; clear hT4; have HF4 := hid hF4; have HFR4 := hid ((Frm.ofBelow (S := fun k => k = R) HB2.out HR.out.rep.baseLe).trans hfr4 (fun k _ e => e)); have lt4 := HF4.out.row.lt; have a2 := HF4.out.row.cell (i := 2) (by omega); rw [show fst_ P gl cl L.length { s with bdy := true } 2 = .int .i64 s.at_ from rfl] at a2; have a3 := HF4.out.row.cell (i := 3) (by omega); rw [show fst_ P gl cl L.length { s with bdy := true } 3 = .int .i64 s.cnt from rfl] at a3; have b2 := HF4.out.row.frozen 2; have b3 := HF4.out.row.frozen 3; have HFX := hid (Frm.setCell (p := ⟨R, 2, none⟩) (Frm.setCell (p := ⟨R, 3, none⟩) HFR4.out hRb rfl (.int .i64 ((s.cnt : Int) + 1))) hRb rfl (.int .i64 ((s.at_ : Int) + 1))); have HOWN := hid (own_keep HR.out HFX.out.down (fun k _ e => .inl e)); have HSZ := hid (Nat.le_trans HR.out.bel.size HFR4.out.bel.size);clear hF4 hfr4)
                | (at_builtin; go_loud (refine wpList_append_lies _ rfl _ _ 87 rfl w.heap.size 143 i0 _ 1 8 Tryz.underlying87 hi hz0 hz1 hz2 rfl (by omega) _ n xs rfl (World.ownsRow.alloc HOWN.out _) ⟨w4.heap.size, 0, none⟩ 1 1 [.pointer (some ⟨w2.heap.size, 0, none⟩)] rfl rfl (by have h := cell_one_new ((w4.setCell ⟨R, 3, none⟩ (.int .i64 ((s.cnt : Int) + 1))).setCell ⟨R, 2, none⟩ (.int .i64 ((s.at_ : Int) + 1))) (.pointer (some ⟨w2.heap.size, 0, none⟩)) 143; simpa using h) (by simp [Value.oneCell']) (by omega) (by unfold maxLen; omega) (by omega) (by have := HSZ.out; simp; omega) (w4.heap.size + 1) (by simp) ?_); intro g1 p1 x1 hown1 hgrow1 hat1 hlt1))
              go_roundg gk'
              case measure => omega
              case rel =>
                exact ⟨_, l, vn, vk, vz, n + 1, _, brel_push HR.out HBK.out.symm HKT.out (ts_set (ts_set (ts_up HT4.out hgge hg2 HB2.out.size HZ4.out) ltR) ltR) rfl HR.out.ds hat (show s.cnt + 1 ≤ 12 by have := HCN.out; omega) (by have := HFU.out; show L.length ≤ s.at_ + 1 + 1 + gk'; omega) (Nat.le_refl _) rfl
                  ((((HF4.out.put 3 (.int .i64 ((s.cnt : Int) + 1))).congr (fun i hi => fst_cnt P gl cl L.length { s with bdy := true } i hi)).put 2 (.int .i64 ((s.at_ : Int) + 1))).congr (fun i hi => fst_up P gl cl L.length { s with bdy := true, cnt := s.cnt + 1 } i hi)) HFX.out hown1 hgrow1 (hat1.imp id (fun e => by simpa using e))⟩
    · have hatI : ¬ (s.at_ : Int) < (L.length : Int) - 1 := by omega
      have hbk : Rf.blkS (L.map ByteArray.toList) gk d s = (decide (d = 0), s) := by
        cases gk with
        | zero => rfl
        | succ k => unfold Rf.blkS; rw [if_neg (by rw [hLm]; exact hat)]
      have HBK := hid hbk
      clear hbk
      have hdd : ((d : Int) == 0) = decide (d = 0) := by
        by_cases h : d = 0
        · simp [h]
        · rw [decide_eq_false h]; simp; omega
      go_wp2_with fail
      go_quiet (fail)
      go_wp2_with fail
      go_ret2
      exact bpost_of HR.out HO.out HT.out HBK.out (HR.out.rep.drewN _) HR.out.ds ((Frm.refl _ _ _).drewN _) av n cv (by first | rfl | rw [hdd] | simp [hdd]) (fun _ => ⟨rfl, fun ts => Rf.blk_last (by rw [hLm]; exact hat), (Frm.refl _ _ _).drewN _⟩)
end Go.Proofs.YtgddmpmcnjlcjabGreatDoor
