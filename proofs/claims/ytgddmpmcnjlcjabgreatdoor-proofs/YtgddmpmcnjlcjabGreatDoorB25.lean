import Derived.Test.YtgddmpmcnjlcjabGreatDoorB24
import Derived.Test.YtgddmpmcnjlcjabGreatDoorB11
namespace Go.Proofs.YtgddmpmcnjlcjabGreatDoor
open Go.RowKit
set_option linter.unusedVariables false
section
variable {w : World}
set_option maxRecDepth 100000 in
set_option maxHeartbeats 4000000 in
theorem cw_all (sec : List Bool) (nodes : List Dg.Nd) (D : List Nat) (vs vc vk vN vT : Value) (nv : Int) (hs3 : sec.length ≤ 3) (hs : w.ownsRow 0 4 1 vs sec.length (sec.map Value.bool))
    (hN : w.ownsRow 0 160 4 vN nodes.length (nodes.flatMap Dg.Nd.cells)) (hT : w.ownsRow 0 3 1 vT D.length (D.map fun (n : Nat) => .int .i64 n)) (hL : nodes.length ≤ 400000) (hD : D.length ≤ 70) (hDn : ∀ i, i < D.length → D.getD i 0 < nodes.length)
    (hOk : ∀ i, 2 ≤ i → i < nodes.length → (Dg.ndAt nodes i).lo < i ∧ (Dg.ndAt nodes i).hi < i ∧ (Dg.ndAt nodes i).bit < 4 * sec.length) (htab : TabB w.heap.size w) :
    Calls Tryz.prog 19 #[.agg #[vs, .int .i64 nv, vc, vk], .agg #[vN, vT]] w fun e w' => ∃ vb, e = .returned (.agg #[.int .i64 (Cl.form sec nodes D).vars, .int .i64 (Cl.form sec nodes D).ct, .string ⟨(Cl.form sec nodes D).bs.toArray⟩, vb]) ∧ w'.ownsRow 0 121 7 vb D.length ((Cl.form sec nodes D).bits.flatMap Cl.Bt.cells) ∧ Below w.heap.size w w' := by
  obtain ⟨t0, ht0, hz0, hz1, hz2⟩ := info_parts Tryz.infoInt
  obtain ⟨as0, cs0, es⟩ := body_val hs
  obtain ⟨aN, cN, eN⟩ := body_val hN
  obtain ⟨aT, cT, eT⟩ := body_val hT
  subst es eN eT
  have hsI : (sec.length : Int) ≤ 3 := by omega
  have hDI : (D.length : Int) ≤ 70 := by omega
  have HS := hid hs
  have HN := hid hN
  have HTL := hid hT
  have HT := hid htab
  have HDN := hid hDn
  have HOK := hid hOk
  obtain ⟨FM, hFM⟩ : ∃ FM, Cl.form sec nodes D = FM := ⟨_, rfl⟩
  rw [hFM]
  have HFM := hid hFM
  clear hFM
  clear hOk
  clear hs hN hT htab hDn
  obtain ⟨W0, hW0⟩ : ∃ W0 : World, ((((((w.alloc (.cells #[.slice as0 sec.length cs0, .int .i64 nv, vc, vk] 49)).alloc (.cells #[.slice aN nodes.length cN, .slice aT D.length cT] 54)).alloc (.cells #[.int .i64 0, .int .i64 0, .string ⟨#[]⟩, .slice none 0 0] 59)).alloc (.cells #[.int .i64 0, .int .i64 0, .slice none 0 0] 113)).alloc (.cells #[.slice none 0 0, .slice none 0 0, .slice none 0 0] 115)).alloc (.cells #[.slice none 0 0, .slice none 0 0, .slice none 0 0] 115)) = W0 := ⟨_, rfl⟩
  have H0 := hid (hW0 ▸ cw_start (w := w) (.slice aN nodes.length cN) (.slice aT D.length cT) (.slice as0 sec.length cs0) (.int .i64 nv) vc vk)
  have HPB := hid (show W0.rowIs w.heap.size 49 4 (fun i => if i = 0 then .slice as0 sec.length cs0 else if i = 1 then .int .i64 nv else if i = 2 then vc else vk) by
    rw [← hW0]
    exact cells_row (hp_old' _ _ _ _ (hp_old' _ _ _ _ (hp_old' _ _ _ _ (hp_old' _ _ _ _ (hp_old' _ _ _ _ (hp_new' _ _ _ rfl)))))) rfl (fun i hi => by
      match i, hi with
      | 0, _ => rfl
      | 1, _ => rfl
      | 2, _ => rfl
      | 3, _ => rfl
      | n + 4, h => omega))
  have HE := hid hW0
  clear hW0
  have C0 := hid (fresh_any H0.out.wt (4 * sec.length) (by omega) (by omega))
  rw [show ((4 * sec.length : Nat) : Int) = (sec.length : Int) * 4 by omega, Nat.zero_add] at C0
  go_enter Tryz.func19, Tryz.ntmps19
  go_wp2_with (go_at_call 41; rw [HE.out]; refine C0.out.mono ?_; rintro e w1 ⟨a1, c1, rfl, ho1, hw1, hf1⟩; have H1 := hid (H0.out.fresh hw1 hf1); have O1 := hid ho1; have F1 := hid hf1; have z1 := hf1.bel.size; clear ho1 hw1 hf1; refine Hid.out ?_)
  refine hid ?_
  have k0 := H1.out.r1.cell (i := 0) (by omega)
  have f0 := H1.out.r1.frozen 0
  have p0 := (frm_row HPB.out F1.out (by omega)).cell (i := 0) (by omega)
  dsimp only [run3] at k0 p0
  rw [if_pos rfl] at k0 p0
  obtain ⟨W1, hW1⟩ : ∃ W1 : World, w1.setCell ⟨w.heap.size + 4, 0, none⟩ (.slice a1 (4 * sec.length) c1) = W1 := ⟨_, rfl⟩
  have H2 := hid (show CwAt w (.slice aN nodes.length cN) (.slice aT D.length cT) (4 * sec.length) 0 [] (.slice none 0 0) (Cl.b1 sec) [] (.slice a1 (4 * sec.length) c1) (.slice none 0 0) (.slice none 0 0) (.slice none 0 0) W1 by
    rw [← hW1]
    refine H1.out.setV1 ?_ (fun g e => by simp [Value.ownBlock])
    rw [Cl.b1_len]
    exact ownsRow_low O1.out (by have := H0.out.bel.size; omega))
  have HE1 := hid hW1
  have z1' : W1.heap.size = w1.heap.size := by rw [← hW1]; simp
  clear hW1 C0 H0 HE O1 H1 F1
  go_wp2_with fail
  rw [HE1.out]
  clear k0 f0 p0 HE1 HPB
  go_loopw [28] (fun c wr => ∃ (i : Nat) (v2 : Value), i ≤ sec.length ∧ c = .int .i64 i ∧ CwAt w (.slice aN nodes.length cN) (.slice aT D.length cT) (Cl.secB sec i).1 0 [] (.slice none 0 0) (Cl.b1 sec) (Cl.secB sec i).2 (.slice a1 (4 * sec.length) c1) v2 (.slice none 0 0) (.slice none 0 0) wr) (fun c _ => sec.length - (intOf c).toNat)
  case atStart => exact ⟨0, _, Nat.zero_le _, rfl, H2.out⟩
  case round =>
    clear H2
    obtain ⟨i, v2, hi, rfl, hcw⟩ := hrel
    have hiI : (i : Int) ≤ 3 := by omega
    have hz := hcw.bel.size
    by_cases hlt : i < sec.length
    · obtain ⟨gs, cs', es, _, hgs⟩ := HS.out.form (by omega)
      cases es
      have sc := (hcw.bel.cell (p := ⟨gs, i, none⟩) hgs).trans (bl_at HS.out i hlt)
      have hb1 := hcw.o1
      rw [Cl.b1_len] at hb1
      obtain ⟨g1, c1', e1, hcap, hg1⟩ := hb1.form (by omega)
      cases e1
      obtain ⟨a2, c2, e2⟩ := body_val hcw.o2
      subst e2
      have HCW := hid hcw
      have q0 := hcw.r1.cell (i := 0) (by omega)
      rw [show run3 (.slice (some ⟨g1, 0, none⟩) (4 * sec.length) c1) (.slice none 0 0) (.slice none 0 0) 0 = .slice (some ⟨g1, 0, none⟩) (4 * sec.length) c1 from rfl] at q0
      have hlI : (i : Int) < (sec.length : Int) := by omega
      have HSB := hid (show Cl.secB sec (i + 1) = if sec.getD i false then ((Cl.secB sec i).1 + 4, (Cl.secB sec i).2 ++ freshL (Cl.secB sec i).1 4) else ((Cl.secB sec i).1, (Cl.secB sec i).2 ++ freshL (4 * i) 4) from rfl)
      have hcp := own_cap hb1
      have hcapI : (4 * (sec.length : Int)) ≤ (c1 : Int) := by omega
      have hm4 : (i + 1) * 4 - i * 4 = 4 := by omega
      have hl2 := Cl.secB_len sec i
      have hvl := Cl.secB_le sec i
      obtain ⟨X, hX⟩ : ∃ X, Cl.secB sec i = X := ⟨_, rfl⟩
      rw [hX] at HCW HSB hl2 hvl
      have hl2' : X.2.length ≤ 12 := by omega
      have HL2 := hid hl2
      have f2 := HCW.out.r2.frozen 0
      have q2 := HCW.out.r2.cell (i := 0) (by omega)
      rw [show ∀ v, run3 v (.slice none 0 0) (.slice none 0 0) 0 = v from fun _ => rfl] at q2
      clear hX hl2
      clear hcw hb1
      cases hsb : sec.getD i false with
      | true =>
        rw [hsb] at sc HSB
        have C := hid (fresh_any HCW.out.wt 4 (by omega) (by omega))
        go_wp2_with (go_at_call 41; refine C.out.mono ?_; rintro e w3 ⟨a3, c3, rfl, ho3, hw3, hf3⟩; have H3 := hid (HCW.out.fresh hw3 hf3); have O3 := hid ho3; have F3 := hid hf3; have z3 := hf3.bel.size; clear ho3 hw3 hf3; refine Hid.out ?_)
        refine hid ?_
        obtain ⟨g3, c3', e3, _, hg3⟩ := O3.out.form (by omega)
        cases e3
        have q3 := H3.out.r2.cell (i := 0) (by omega)
        rw [show ∀ v, run3 v (.slice none 0 0) (.slice none 0 0) 0 = v from fun _ => rfl] at q3
        have HNW := hid (show ∀ j u, ((freshL X.1 4).map fun (n : Nat) => Value.int .i64 n)[j]? = some u → w3.cell? ((⟨g3, 0, none⟩ : Addr).add j) = some u from fun j u hj => by
          have hj4 : j < 4 := by
            have := (List.getElem?_eq_some_iff.1 hj).1
            simpa [freshL] using this
          have h1 := O3.out.cellAt j (by omega)
          rw [show (⟨g3, 0, none⟩ : Addr).add j = ⟨g3, j, none⟩ by simp [Addr.add]; exact fun h => h.symm, h1, hj])
        go_wp2_with (first | (at_builtin; refine wpList_append_lies _ rfl _ _ 24 rfl w.heap.size 3 t0 _ 1 8 Tryz.underlying24 ht0 hz0 hz1 hz2 rfl (by omega) _ X.2.length (X.2.map fun (n : Nat) => .int .i64 n) rfl H3.out.o2 ⟨g3, 0, none⟩ 4 c3 ((freshL X.1 4).map fun (n : Nat) => .int .i64 n) rfl (by simp [freshL]) HNW.out (by simp [Value.oneCell']) (by omega) (by unfold maxLen; omega) (by omega) (by omega) w3.heap.size rfl ?_; intro g4 cap4 w4 hown4 hgrow4 hat4 hlt4; have r4 := rowIs_grown H3.out.r2 hgrow4 (own_not_row H3.out.o2 H3.out.r2 (by decide)); have q4 := r4.cell (i := 0) (by omega); have qf4 := r4.frozen 0; have H4 := hid (H3.out.app (l := X.2 ++ freshL X.1 4) (by rw [List.length_append, List.map_append, freshL_len]; exact hown4) hgrow4 hat4); clear r4 hown4 hgrow4 hat4))
        go_roundw
        case rel => exact ⟨i + 1, _, by omega, by go_num, by rw [HSB.out]; exact H4.out⟩
        case measure => simp [intOf]; omega
      | false =>
        rw [hsb] at sc HSB
        have HNW := hid (show ∀ j u, ((freshL (4 * i) 4).map fun (n : Nat) => Value.int .i64 n)[j]? = some u → wr.cell? ((⟨g1, i * 4, none⟩ : Addr).add j) = some u from fun j u hj => by
          have hj4 : j < 4 := by
            have := (List.getElem?_eq_some_iff.1 hj).1
            simpa [freshL] using this
          have h1 := nums_at (by have h := HCW.out.o1; rw [Cl.b1_len]; rw [Cl.b1_len] at h; exact h) (i * 4 + j) (by rw [Cl.b1_len]; omega)
          rw [show (⟨g1, i * 4, none⟩ : Addr).add j = ⟨g1, i * 4 + j, none⟩ by simp [Addr.add], h1, show (Cl.b1 sec).getD (i * 4 + j) 0 = 0 + 1 + (i * 4 + j) from Cl.freshL_get 0 _ _ (by omega)]
          rw [← hj]
          simp [freshL, hj4]
          omega)
        go_wp2_with (first | (at_builtin; refine wpList_append_lies _ rfl _ _ 24 rfl w.heap.size 3 t0 _ 1 8 Tryz.underlying24 ht0 hz0 hz1 hz2 rfl (by omega) _ X.2.length (X.2.map fun (n : Nat) => .int .i64 n) rfl HCW.out.o2 ⟨g1, i * 4, none⟩ ((i + 1) * 4 - i * 4) (c1 - i * 4) ((freshL (4 * i) 4).map fun (n : Nat) => .int .i64 n) rfl (by simp [freshL]; omega) HNW.out (by simp [Value.oneCell']) (by omega) (by unfold maxLen; omega) (by omega) hz wr.heap.size rfl ?_; intro g4 cap4 w4 hown4 hgrow4 hat4 hlt4; have r4 := rowIs_grown HCW.out.r2 hgrow4 (own_not_row HCW.out.o2 HCW.out.r2 (by decide)); have q4 := r4.cell (i := 0) (by omega); have qf4 := r4.frozen 0; rw [hm4] at hown4; have H4 := hid (HCW.out.app (l := X.2 ++ freshL (4 * i) 4) (by rw [List.length_append, List.map_append, freshL_len]; exact hown4) hgrow4 hat4); clear r4 hown4 hgrow4 hat4))
        go_roundw
        case rel => exact ⟨i + 1, _, by omega, by go_num, by rw [HSB.out]; exact H4.out⟩
        case measure => simp [intOf]; omega
    · have HIE := hid (show i = sec.length by omega)
      rw [HIE.out] at hcw
      have H2 := hid hcw
      clear hcw
      have hv := Cl.vin_le sec
      have HV := hid (show (Cl.secB sec sec.length).1 = Cl.vin sec from rfl)
      have HB2 := hid (show (Cl.secB sec sec.length).2 = Cl.b2 sec from rfl)
      rw [HV.out, HB2.out] at H2
      obtain ⟨V, hV⟩ : ∃ V, Cl.vin sec = V := ⟨_, rfl⟩
      rw [hV] at H2 hv
      have hVb : V ≤ 24 := by omega
      obtain ⟨a2, c2, e2⟩ := body_val H2.out.o2
      subst e2
      have HVE := hid hV
      have d1 := H2.out.db.cell (i := 1) (by omega)
      rw [show ∀ a b, prc a b 1 = b from fun _ _ => rfl] at d1
      have C := hid (fresh_any H2.out.wt D.length (by omega) (by omega))
      clear hV hv
      go_wp2_with (go_at_call 41; refine C.out.mono ?_; rintro e w3 ⟨a3, c3, rfl, ho3, hw3, hf3⟩; have H3 := hid (H2.out.fresh hw3 hf3); have O3 := hid ho3; have F3 := hid hf3; have z3 := hf3.bel.size; clear ho3 hw3 hf3; refine Hid.out ?_)
      refine hid ?_
      have k3 := H3.out.r1.cell (i := 2) (by omega)
      have f3 := H3.out.r1.frozen 2
      have d3 := H3.out.db.cell (i := 1) (by omega)
      rw [show ∀ a b, prc a b 1 = b from fun _ _ => rfl] at d3
      obtain ⟨W3, hW3⟩ : ∃ W3 : World, w3.setCell ⟨w.heap.size + 4, 2, none⟩ (.slice a3 D.length c3) = W3 := ⟨_, rfl⟩
      have HE3 := hid hW3
      have H4 := hid (hW3 ▸ H3.out.setT1 (.slice a3 D.length c3))
      have O4 := hid (show W3.ownsRow w.heap.size 3 1 (.slice a3 D.length c3) D.length ((freshL V D.length).map fun (n : Nat) => .int .i64 n) by rw [← hW3]; exact ownsRow_setCell (ownsRow_low O3.out hz) (own_not_row O3.out H3.out.r1 (by decide)) _)
      have z4 : W3.heap.size = w3.heap.size := by rw [← hW3]; simp
      have C2 := hid (fresh_any H4.out.wt D.length (by omega) (by omega))
      clear hW3 C d1 H2
      go_wp2_with (go_at_call 41; rw [HE3.out]; refine C2.out.mono ?_; rintro e w5 ⟨a5, c5, rfl, ho5, hw5, hf5⟩; have H5 := hid (H4.out.fresh hw5 hf5); have O5 := hid ho5; have O45 := hid (frm_own O4.out hf5 (own_not_row O4.out H4.out.wt.row (by decide))); have z5 := hf5.bel.size; clear ho5 hw5 hf5; refine Hid.out ?_)
      refine hid ?_
      have k5 := H5.out.r2.cell (i := 2) (by omega)
      have f5 := H5.out.r2.frozen 2
      have d5 := H5.out.db.cell (i := 1) (by omega)
      rw [show ∀ a b, prc a b 1 = b from fun _ _ => rfl] at d5
      obtain ⟨W5, hW5⟩ : ∃ W5 : World, w5.setCell ⟨w.heap.size + 5, 2, none⟩ (.slice a5 D.length c5) = W5 := ⟨_, rfl⟩
      have HE5 := hid hW5
      have H6 := hid (hW5 ▸ H5.out.setT2 (.slice a5 D.length c5))
      have O6 := hid (show W5.ownsRow w.heap.size 3 1 (.slice a5 D.length c5) D.length ((freshL (V + D.length) D.length).map fun (n : Nat) => .int .i64 n) by rw [← hW5]; exact ownsRow_setCell (ownsRow_low O5.out (by omega)) (own_not_row O5.out H5.out.r2 (by decide)) _)
      have O46 := hid (show W5.ownsRow w.heap.size 3 1 (.slice a3 D.length c3) D.length ((freshL V D.length).map fun (n : Nat) => .int .i64 n) by rw [← hW5]; exact ownsRow_setCell O45.out (own_not_row O45.out H5.out.r2 (by decide)) _)
      have z6 : W5.heap.size = w5.heap.size := by rw [← hW5]; simp
      have C3 := hid (fresh_any H6.out.wt D.length (by omega) (by omega))
      clear hW5 C2 k3 f3 d3 H3 H4 O3 O4 O45 O5 HE3
      go_wp2_with (go_at_call 41; rw [HE5.out]; refine C3.out.mono ?_; rintro e w7 ⟨a7, c7, rfl, ho7, hw7, hf7⟩; have H7 := hid (H6.out.fresh hw7 hf7); have O7r := hid ho7; have O47 := hid (frm_own O46.out hf7 (own_not_row O46.out H6.out.wt.row (by decide))); have O67 := hid (frm_own O6.out hf7 (own_not_row O6.out H6.out.wt.row (by decide))); have z7 := hf7.bel.size; clear ho7 hw7 hf7; refine Hid.out ?_)
      refine hid ?_
      have O7 := hid (show w7.ownsRow w.heap.size 3 1 (.slice a7 D.length c7) D.length ((freshL (V + D.length + D.length) D.length).map fun (n : Nat) => .int .i64 n) from ownsRow_low O7r.out (by omega))
      clear C3 k5 f5 d5 H5 H6 O46 O6 HE5 O7r
      rw [show V + D.length + D.length + D.length = V + 3 * D.length by omega] at H7
      have C4 := hid (wnodes_any H7.out.wt H7.out.bel.size nodes hL (Cl.b1 sec) (Cl.b2 sec) (w.heap.size + 4) (w.heap.size + 5) (.slice aN nodes.length cN) (.slice aT D.length cT) a1 a3 a2 a5 c1 D.length c3 c2 D.length c5 (ownsRow_same HN.out H7.out.bel.block)
        (by rw [Cl.b1_len]; exact H7.out.r1.congr (fun i hi => rfl)) (H7.out.r2.congr (fun i hi => rfl)) (by omega) (by omega) (by omega)
        (by have h := H7.out.o1; rw [Cl.b1_len] at h ⊢; exact ownsRow_low h (Nat.zero_le _)) (ownsRow_low H7.out.o2 (Nat.zero_le _)) (HT.out.on H7.out.bel) (by simp) (fun i => Nat.le_trans (Cl.b1_le sec i) (by rw [HVE.out]; omega)) (fun i => Nat.le_trans (Cl.b2_le sec i) (by rw [HVE.out]; omega)) (by rw [Cl.b1_len]; omega) (by rw [Cl.b2_len]; omega)
        (fun i hi => by rw [← HVE.out]; exact Cl.nds_ok sec nodes D.length hs3 hD hL i (by omega)) (fun i h2 hi => by obtain ⟨q1, q2, q3⟩ := HOK.out i h2 hi; exact ⟨q1, q2, by rw [Cl.b1_len]; exact q3, by rw [Cl.b2_len]; exact q3⟩))
      rw [Cl.b1_len] at C4
      have d7 := H7.out.db.cell (i := 0) (by omega)
      have e7 := H7.out.db.cell (i := 1) (by omega)
      rw [show ∀ a b, prc a b 0 = a from fun _ _ => rfl] at d7
      rw [show ∀ a b, prc a b 1 = b from fun _ _ => rfl] at e7
      go_wp2_with (go_at_call 42; refine C4.out.mono ?_; rintro e w8 ⟨rfl, vt8, g1, g2, hn8⟩; have H8 := hid hn8; clear hn8; refine Hid.out ?_)
      refine hid ?_
      have HMK : ∀ w : World, (Instr.makeSlice 57 (.int .i64 (D.length : Int)) (.int .i64 (D.length : Int))).run Tryz.prog w = .ok (.slice (some ⟨w.heap.size, 0, none⟩) D.length D.length) (w.alloc (.cells (madeCells #[.int .i64 0, .int .i64 0, .int .i64 0, .int .i64 0, .int .i64 0, .int .i64 0, .int .i64 0] (D.length * 7)) 121)) := fun w => by
        obtain ⟨b0, hb0, x0, x1, x2⟩ := info_parts Tryz.infoBit
        have h := run_make (P := Tryz.prog) w 57 121 b0 _ Tryz.underlying57 hb0 x0 .i64 .i64 (D.length : Int) (D.length : Int) (by omega) (Int.le_refl _) (by rw [x2]; omega) (by omega)
        rw [x1, Int.toNat_natCast] at h
        exact h
      have HXE := hid (show Cl.nodesN nodes (Cl.b1 sec) (Cl.b2 sec) ⟨V + 3 * D.length, 0, fun _ => 0, fun _ => 0, []⟩ nodes.length = Cl.nds sec nodes D.length by rw [← HVE.out]; rfl)
      have HXO := hid (show Cl.NsOk (Cl.nds sec nodes D.length) (234 + 2 * nodes.length) (544 * nodes.length) from Cl.nds_ok sec nodes D.length hs3 hD hL _ (by omega))
      rw [HXE.out] at H8
      obtain ⟨X, hX⟩ : ∃ X, Cl.nds sec nodes D.length = X := ⟨_, rfl⟩
      rw [hX] at H8 HXO
      have HXX := hid hX
      clear hX HXE C4
      have z8 := H8.out.bel.size
      have hz7 := H7.out.bel.size
      have e8 := (H8.out.kp.rowIs H7.out.db (by omega) (by decide)).cell (i := 1) (by omega)
      rw [show ∀ a b, prc a b 1 = b from fun _ _ => rfl] at e8
      have e8a := fun o => ((H8.out.kp.rowIs H7.out.db (by omega) (by decide)).alloc o).cell (i := 1) (by omega)
      rw [show ∀ a b, prc a b 1 = b from fun _ _ => rfl] at e8a
      obtain ⟨W8, hW8⟩ : ∃ W8 : World, w8.alloc (.cells (madeCells #[.int .i64 0, .int .i64 0, .int .i64 0, .int .i64 0, .int .i64 0, .int .i64 0, .int .i64 0] (D.length * 7)) 121) = W8 := ⟨_, rfl⟩
      have H9 := hid (show FwAt w (.slice aN nodes.length cN) (.slice aT D.length cT) X.vars X.ct X.bs vt8 D.length nodes.length V g1 g2 w8.heap.size X.f1 X.f2 (.slice a1 (4 * sec.length) c1) (.slice a2 (Cl.b2 sec).length c2) (.slice a3 D.length c3) (.slice a5 D.length c5) (.slice a7 D.length c7) (fun _ => {}) W8 by
        rw [← hW8]
        have no : ∀ {v : Value} {xs : List Value}, w7.ownsRow w.heap.size 3 1 v D.length xs → ∀ g, v.ownBlock = some g → ¬ (g = w.heap.size + 3 ∨ g = w.heap.size + 4 ∨ g = w.heap.size + 5) := fun h g e c => by
          rcases c with c | c | c
          · subst c; exact own_not_row h H7.out.wt.row (by decide) e
          · subst c; exact own_not_row h H7.out.r1 (by decide) e
          · subst c; exact own_not_row h H7.out.r2 (by decide) e
        refine ⟨by have h := H8.out.wr; rw [List.nil_append] at h; exact h.alloc _, (H8.out.kp.rowIs H7.out.db (by omega) (by decide)).alloc _, (H8.out.kp.rowIs H7.out.fb (by omega) (by decide)).alloc _, (H8.out.r1.congr (fun i hi => rfl)).alloc _, (H8.out.r2.congr (fun i hi => rfl)).alloc _, H8.out.t1.alloc _, H8.out.t2.alloc _, (H8.out.kp.own O47.out (no O47.out) (by decide)).alloc _, (H8.out.kp.own O67.out (no O67.out) (by decide)).alloc _, (H8.out.kp.own O7.out (no O7.out) (by decide)).alloc _, cells_row (hp_new' _ _ _ rfl) (size_madeCells _ _) (fun c hc => made7 _ _ hc), by omega, (H7.out.bel.trans H8.out.bel).alloc (by omega) _⟩)
      have HE8 := hid hW8
      clear hW8
      go_wp2_with fail
      rw [HE8.out]
      obtain ⟨gb, hgb⟩ : ∃ gb, w8.heap.size = gb := ⟨_, rfl⟩
      rw [hgb] at H9 ⊢
      clear HE8 e8 e8a d7 e7 H8 H7 O47 O67 O7 HMK hgb z8
      have hXv := HXO.out.vars
      have hXb := HXO.out.bs
      have HF1 := hid (show ∀ j, X.f1 j ≤ 1000000000 from fun j => Nat.le_trans (HXO.out.f1 j) (by omega))
      have HF2 := hid (show ∀ j, X.f2 j ≤ 1000000000 from fun j => Nat.le_trans (HXO.out.f2 j) (by omega))
      obtain ⟨T1, hT1⟩ : ∃ T1 : Nat → Nat × List UInt8, Cl.tl1 sec nodes D = T1 := ⟨_, rfl⟩
      have HT10 := hid (show T1 0 = (X.ct, []) by rw [← hT1, ← HXX.out]; rfl)
      have HT1S := hid (show ∀ j, T1 (j + 1) = ((T1 j).1 + sameC (D.getD j 0), (T1 j).2 ++ sameB (Cl.tab nodes.length X.f1) ((V + 1 + j : Nat) : Int) (D.getD j 0) 0) from fun j => by rw [← hT1, ← HVE.out, ← HXX.out]; rfl)
      have HT1L := hid (show ∀ j, j ≤ D.length → (T1 j).2.length ≤ 136 * j from fun j hj => by
        rw [← hT1]
        exact Cl.tldN_len _ _ _ _ j (fun q => by rw [Cl.n1, HXX.out]; exact Cl.tab_le _ _ _ HF1.out q) (by rw [HVE.out]; omega))
      have HTE1 := hid hT1
      clear hT1
      go_loopw [72] (fun c wr => ∃ (j : Nat) (vt : Value), j ≤ D.length ∧ c = .int .i64 j ∧ FwAt w (.slice aN nodes.length cN) (.slice aT D.length cT) X.vars (T1 j).1 (X.bs ++ (T1 j).2) vt D.length nodes.length V g1 g2 gb X.f1 X.f2 (.slice a1 (4 * sec.length) c1) (.slice a2 (Cl.b2 sec).length c2) (.slice a3 D.length c3) (.slice a5 D.length c5) (.slice a7 D.length c7) (fun i => if i < j then ⟨D.getD i 0, V + 1 + i, (T1 i).1 + 1, 0, 0, 0, 0⟩ else {}) wr) (fun c _ => D.length - (intOf c).toNat)
      case atStart => exact ⟨0, vt8, Nat.zero_le _, rfl, by rw [HT10.out]; show FwAt _ _ _ _ _ (X.bs ++ []) _ _ _ _ _ _ _ _ _ _ _ _ _ _ _ _; rw [List.append_nil]; exact H9.out.congr (fun i _ => by simp)⟩
      case round =>
        clear H9
        obtain ⟨wo, rfl⟩ : ∃ wo : World, wo = wr := ⟨wr, rfl⟩
        obtain ⟨j, vt, hj, rfl, hfw⟩ := hrel
        have hjI : (j : Int) ≤ 70 := by omega
        by_cases hlt1 : j < D.length
        · obtain ⟨gT, cT', eT, _, hgT⟩ := HTL.out.form (by omega)
          cases eT
          have tc := (hfw.bel.cell (p := ⟨gT, j, none⟩) hgT).trans (nums_at HTL.out j hlt1)
          have hdn := HDN.out j hlt1
          have HS1 := hid (HT1S.out j)
          have hTl := HT1L.out j (by omega)
          have HDG := hid (show D.getD j 0 = D.getD j 0 from rfl)
          obtain ⟨dj, hdj⟩ : ∃ dj, D.getD j 0 = dj := ⟨_, rfl⟩
          rw [hdj] at tc hdn HS1
          have HDJ := hid hdj
          clear hdj HDG
          have hjD : (j : Int) < (D.length : Int) := by omega
          have bc := hfw.bt.cell (i := j * 7) (by omega)
          have bf := hfw.bt.frozen (j * 7)
          have HFW := hid hfw
          clear hfw
          go_upto_region 21 with fail
          obtain ⟨W, hW⟩ : ∃ W : World, wo.setCell ⟨gb, j * 7, none⟩ (.int .i64 dj) = W := ⟨_, rfl⟩
          rw [hW]
          have HFW1 := hid (hW ▸ HFW.out.node j dj)
          clear hW bc bf tc
          obtain ⟨g3, c3', e3, _, hg3⟩ := HFW1.out.o1.form (by omega)
          cases e3
          have HC := hid (show Calls Tryz.prog 43 #[.pointer (some ⟨w.heap.size + 3, 0, none⟩), .int .i64 ((V + 1 + j : Nat) : Int), .int .i64 dj, .agg #[.slice a1 (4 * sec.length) c1, .slice (some ⟨g1, 0, none⟩) nodes.length nodes.length, .slice (some ⟨g3, 0, none⟩) D.length c3]] W.drew (fun e w' => e = .returned (.agg #[.int .i64 ((V + 1 + j : Nat) : Int), .int .i64 (((T1 j).1 + 1 : Nat) : Int)]) ∧ ∃ vt', FwAt w (.slice aN nodes.length cN) (.slice (some ⟨gT, 0, none⟩) D.length cT) X.vars (T1 (j + 1)).1 (X.bs ++ (T1 (j + 1)).2) vt' D.length nodes.length V g1 g2 gb X.f1 X.f2 (.slice a1 (4 * sec.length) c1) (.slice a2 (Cl.b2 sec).length c2) (.slice (some ⟨g3, 0, none⟩) D.length c3) (.slice a5 D.length c5) (.slice a7 D.length c7) (updB (fun i => if i < j then ⟨D.getD i 0, V + 1 + i, (T1 i).1 + 1, 0, 0, 0, 0⟩ else {}) j { (if j < j then ⟨D.getD j 0, V + 1 + j, (T1 j).1 + 1, 0, 0, 0, 0⟩ else {} : Cl.Bt) with node := dj }) w') by
            have hn := HFW1.out.drew
            have c := wtold_any hn.wt hn.bel.size (V + 1 + j) dj (by omega) a1 (some ⟨g1, 0, none⟩) (some ⟨g3, 0, none⟩) (4 * sec.length) c1 nodes.length D.length c3 (Cl.tab nodes.length X.f1) (row_tab hL hn.n1) (by rw [Cl.tab_len]; exact hdn) (Cl.tab_le _ _ _ HF1.out _) (by rw [Cl.tab_len]; omega) (by rw [List.length_append]; omega) (HT.out.on hn.bel)
            rw [Cl.tab_len] at c
            refine c.mono ?_
            rintro e w' ⟨rfl, vt', h1, q1⟩
            refine ⟨rfl, vt', ?_⟩
            rw [HS1.out, ← List.append_assoc]
            exact hn.wrote h1 q1)
          have x0 := HFW1.out.r1.cell (i := 0) (by omega)
          have x1 := HFW1.out.r1.cell (i := 1) (by omega)
          have x2 := HFW1.out.r1.cell (i := 2) (by omega)
          have x3 : W.cell? ⟨g3, j, none⟩ = some (.int .i64 ((V + 1 + j : Nat) : Int)) := by
            rw [HFW1.out.o1.cellAt j (by omega)]
            simp [freshL, hlt1]
          dsimp only [run3] at x0 x1 x2
          rw [if_pos rfl] at x0
          rw [if_neg (by decide), if_pos rfl] at x1
          rw [if_neg (by decide), if_neg (by decide)] at x2
          have HBE := hid (show ∀ q, q < D.length → updB (updB (updB (fun i => if i < j then ⟨D.getD i 0, V + 1 + i, (T1 i).1 + 1, 0, 0, 0, 0⟩ else {}) j { (if j < j then ⟨D.getD j 0, V + 1 + j, (T1 j).1 + 1, 0, 0, 0, 0⟩ else {} : Cl.Bt) with node := dj }) j { (updB (fun i => if i < j then ⟨D.getD i 0, V + 1 + i, (T1 i).1 + 1, 0, 0, 0, 0⟩ else {}) j { (if j < j then ⟨D.getD j 0, V + 1 + j, (T1 j).1 + 1, 0, 0, 0, 0⟩ else {} : Cl.Bt) with node := dj } j) with v1 := V + 1 + j }) j { (updB (fun i => if i < j then ⟨D.getD i 0, V + 1 + i, (T1 i).1 + 1, 0, 0, 0, 0⟩ else {}) j { (if j < j then ⟨D.getD j 0, V + 1 + j, (T1 j).1 + 1, 0, 0, 0, 0⟩ else {} : Cl.Bt) with node := dj } j) with v1 := V + 1 + j, c1 := (T1 j).1 + 1 } q = (if q < j + 1 then ⟨D.getD q 0, V + 1 + q, (T1 q).1 + 1, 0, 0, 0, 0⟩ else {}) from fun q _ => by
            unfold updB
            by_cases e : q = j
            · subst e
              rw [← HDJ.out]
              simp
            · simp only [e, if_false]
              by_cases e2 : q < j
              · rw [if_pos e2, if_pos (by omega)]
              · rw [if_neg e2, if_neg (by omega)])
          go_wp2_with fail
          go_region_with (go_at_call 43; refine HC.out.mono ?_; rintro e w9 ⟨rfl, vt9, hf9⟩; have y1 := hf9.bt.cell (i := j * 7 + 1) (by omega); have y2 := hf9.bt.cell (i := j * 7 + 2) (by omega); have yf1 := hf9.bt.frozen (j * 7 + 1); have yf2 := hf9.bt.frozen (j * 7 + 2); have HF9 := hid hf9; clear hf9)
          all_goals go_wp2_with fail
          all_goals go_roundw
          all_goals first
            | exact ⟨j + 1, vt9, by omega, by go_num, (HF9.out.said1 j (V + 1 + j) ((T1 j).1 + 1)).congr HBE.out⟩
            | (simp [intOf]; omega)
        · have HJE := hid (show j = D.length by omega)
          rw [HJE.out] at hfw
          have H10 := hid hfw
          clear hfw
          have hTl := HT1L.out D.length (Nat.le_refl _)
          obtain ⟨Y, hY⟩ : ∃ Y, T1 D.length = Y := ⟨_, rfl⟩
          rw [hY] at H10 hTl
          obtain ⟨T2, hT2⟩ : ∃ T2 : Nat → Nat × List UInt8, Cl.tl2 sec nodes D = T2 := ⟨_, rfl⟩
          have HT20 := hid (show T2 0 = (Y.1, []) by rw [← hT2, ← hY, ← HTE1.out]; rfl)
          have HT2S := hid (show ∀ j, T2 (j + 1) = ((T2 j).1 + sameC (D.getD j 0), (T2 j).2 ++ sameB (Cl.tab nodes.length X.f2) ((V + D.length + 1 + j : Nat) : Int) (D.getD j 0) 0) from fun j => by rw [← hT2, ← HVE.out, ← HXX.out]; rfl)
          have HT2L := hid (show ∀ j, j ≤ D.length → (T2 j).2.length ≤ 136 * j from fun j hj => by
            rw [← hT2]
            exact Cl.tldN_len _ _ _ _ j (fun q => by rw [Cl.n2, HXX.out]; exact Cl.tab_le _ _ _ HF2.out q) (by rw [HVE.out]; omega))
          have HTE2 := hid hT2
          have HYE := hid hY
          obtain ⟨bs1, hbs1⟩ : ∃ bs1, X.bs ++ Y.2 = bs1 := ⟨_, rfl⟩
          rw [hbs1] at H10
          have hbl1 : bs1.length ≤ 500000000 := by rw [← hbs1, List.length_append]; omega
          have HBS1 := hid hbs1
          have e10 := H10.out.db.cell (i := 1) (by omega)
          rw [show ∀ a b, prc a b 1 = b from fun _ _ => rfl] at e10
          clear hT2 hY hbs1
          go_wp2_with fail
          clear e10
          go_loopw [98] (fun c wr => ∃ (j : Nat) (vt : Value), j ≤ D.length ∧ c = .int .i64 j ∧ FwAt w (.slice aN nodes.length cN) (.slice aT D.length cT) X.vars (T2 j).1 (bs1 ++ (T2 j).2) vt D.length nodes.length V g1 g2 gb X.f1 X.f2 (.slice a1 (4 * sec.length) c1) (.slice a2 (Cl.b2 sec).length c2) (.slice a3 D.length c3) (.slice a5 D.length c5) (.slice a7 D.length c7) (fun i => if i < j then ⟨D.getD i 0, V + 1 + i, (T1 i).1 + 1, V + D.length + 1 + i, (T2 i).1 + 1, 0, 0⟩ else ⟨D.getD i 0, V + 1 + i, (T1 i).1 + 1, 0, 0, 0, 0⟩) wr) (fun c _ => D.length - (intOf c).toNat)
          case atStart => exact ⟨0, _, Nat.zero_le _, rfl, by rw [HT20.out]; show FwAt _ _ _ _ _ (bs1 ++ []) _ _ _ _ _ _ _ _ _ _ _ _ _ _ _ _; rw [List.append_nil]; exact H10.out.congr (fun i hi => by simp [hi])⟩
          case round =>
            clear H10
            obtain ⟨wo2, rfl⟩ : ∃ wo2 : World, wo2 = wr := ⟨wr, rfl⟩
            obtain ⟨q, vt, hq, rfl, hfw⟩ := hrel
            have hqI : (q : Int) ≤ 70 := by omega
            by_cases hlt2 : q < D.length
            · obtain ⟨gT, cT', eT, _, hgT⟩ := HTL.out.form (by omega)
              cases eT
              have tc := (hfw.bel.cell (p := ⟨gT, q, none⟩) hgT).trans (nums_at HTL.out q hlt2)
              have hdn := HDN.out q hlt2
              have HS1 := hid (HT2S.out q)
              have hTl2 := HT2L.out q (by omega)
              obtain ⟨dj, hdj⟩ : ∃ dj, D.getD q 0 = dj := ⟨_, rfl⟩
              rw [hdj] at tc hdn HS1
              have HDJ := hid hdj
              clear hdj
              have hqD : (q : Int) < (D.length : Int) := by omega
              have HFW1 := hid hfw
              clear hfw
              go_upto_region 26 with fail
              clear tc
              obtain ⟨g3, c3', e3, _, hg3⟩ := HFW1.out.o2.form (by omega)
              cases e3
              have HC := hid (show Calls Tryz.prog 43 #[.pointer (some ⟨w.heap.size + 3, 0, none⟩), .int .i64 ((V + D.length + 1 + q : Nat) : Int), .int .i64 dj, .agg #[.slice a2 (Cl.b2 sec).length c2, .slice (some ⟨g2, 0, none⟩) nodes.length nodes.length, .slice (some ⟨g3, 0, none⟩) D.length c5]] wo2.drew (fun e w' => e = .returned (.agg #[.int .i64 ((V + D.length + 1 + q : Nat) : Int), .int .i64 (((T2 q).1 + 1 : Nat) : Int)]) ∧ ∃ vt', FwAt w (.slice aN nodes.length cN) (.slice (some ⟨gT, 0, none⟩) D.length cT) X.vars (T2 (q + 1)).1 (bs1 ++ (T2 (q + 1)).2) vt' D.length nodes.length V g1 g2 gb X.f1 X.f2 (.slice a1 (4 * sec.length) c1) (.slice a2 (Cl.b2 sec).length c2) (.slice a3 D.length c3) (.slice (some ⟨g3, 0, none⟩) D.length c5) (.slice a7 D.length c7) (fun i => if i < q then ⟨D.getD i 0, V + 1 + i, (T1 i).1 + 1, V + D.length + 1 + i, (T2 i).1 + 1, 0, 0⟩ else ⟨D.getD i 0, V + 1 + i, (T1 i).1 + 1, 0, 0, 0, 0⟩) w') by
                have hn := HFW1.out.drew
                have c := wtold_any hn.wt hn.bel.size (V + D.length + 1 + q) dj (by omega) a2 (some ⟨g2, 0, none⟩) (some ⟨g3, 0, none⟩) (Cl.b2 sec).length c2 nodes.length D.length c5 (Cl.tab nodes.length X.f2) (row_tab hL hn.n2) (by rw [Cl.tab_len]; exact hdn) (Cl.tab_le _ _ _ HF2.out _) (by rw [Cl.tab_len]; omega) (by rw [List.length_append]; omega) (HT.out.on hn.bel)
                rw [Cl.tab_len] at c
                refine c.mono ?_
                rintro e w' ⟨rfl, vt', h1, q1⟩
                refine ⟨rfl, vt', ?_⟩
                rw [HS1.out, ← List.append_assoc]
                exact hn.wrote h1 q1)
              have x0 := HFW1.out.r2.cell (i := 0) (by omega)
              have x1 := HFW1.out.r2.cell (i := 1) (by omega)
              have x2 := HFW1.out.r2.cell (i := 2) (by omega)
              have x3 : wo2.cell? ⟨g3, q, none⟩ = some (.int .i64 ((V + D.length + 1 + q : Nat) : Int)) := by
                rw [HFW1.out.o2.cellAt q (by omega)]
                simp [freshL, hlt2]
              dsimp only [run3] at x0 x1 x2
              rw [if_pos rfl] at x0
              rw [if_neg (by decide), if_pos rfl] at x1
              rw [if_neg (by decide), if_neg (by decide)] at x2
              have HBE := hid (show ∀ i, i < D.length → updB (updB (fun i => if i < q then ⟨D.getD i 0, V + 1 + i, (T1 i).1 + 1, V + D.length + 1 + i, (T2 i).1 + 1, 0, 0⟩ else ⟨D.getD i 0, V + 1 + i, (T1 i).1 + 1, 0, 0, 0, 0⟩) q { (if q < q then ⟨D.getD q 0, V + 1 + q, (T1 q).1 + 1, V + D.length + 1 + q, (T2 q).1 + 1, 0, 0⟩ else ⟨D.getD q 0, V + 1 + q, (T1 q).1 + 1, 0, 0, 0, 0⟩ : Cl.Bt) with v2 := V + D.length + 1 + q }) q { (if q < q then ⟨D.getD q 0, V + 1 + q, (T1 q).1 + 1, V + D.length + 1 + q, (T2 q).1 + 1, 0, 0⟩ else ⟨D.getD q 0, V + 1 + q, (T1 q).1 + 1, 0, 0, 0, 0⟩ : Cl.Bt) with v2 := V + D.length + 1 + q, c2 := (T2 q).1 + 1 } i = (if i < q + 1 then ⟨D.getD i 0, V + 1 + i, (T1 i).1 + 1, V + D.length + 1 + i, (T2 i).1 + 1, 0, 0⟩ else ⟨D.getD i 0, V + 1 + i, (T1 i).1 + 1, 0, 0, 0, 0⟩) from fun i _ => by
                unfold updB
                by_cases e : i = q
                · subst e
                  simp
                · simp only [e, if_false]
                  by_cases e2 : i < q
                  · rw [if_pos e2, if_pos (by omega)]
                  · rw [if_neg e2, if_neg (by omega)])
              go_wp2_with fail
              go_region_with (go_at_call 43; refine HC.out.mono ?_; rintro e w9 ⟨rfl, vt9, hf9⟩; have y1 := hf9.bt.cell (i := q * 7 + 3) (by omega); have y2 := hf9.bt.cell (i := q * 7 + 4) (by omega); have yf1 := hf9.bt.frozen (q * 7 + 3); have yf2 := hf9.bt.frozen (q * 7 + 4); have HF9 := hid hf9; clear hf9)
              all_goals go_wp2_with fail
              all_goals go_roundw
              all_goals first
                | exact ⟨q + 1, vt9, by omega, by go_num, (HF9.out.said2 q (V + D.length + 1 + q) ((T2 q).1 + 1)).congr HBE.out⟩
                | (simp [intOf]; omega)
            · have HQE := hid (show q = D.length by omega)
              rw [HQE.out] at hfw
              have H11 := hid hfw
              clear hfw
              have hTl2 := HT2L.out D.length (Nat.le_refl _)
              obtain ⟨Z, hZ⟩ : ∃ Z, T2 D.length = Z := ⟨_, rfl⟩
              rw [hZ] at H11 hTl2
              have HZE := hid hZ
              obtain ⟨bs2, hbs2⟩ : ∃ bs2, bs1 ++ Z.2 = bs2 := ⟨_, rfl⟩
              rw [hbs2] at H11
              have hbl2 : bs2.length ≤ 500100000 := by rw [← hbs2, List.length_append]; omega
              have HBS2 := hid hbs2
              clear hbs2 hZ
              go_wp2_with fail
              go_loopw [118] (fun c wr => ∃ (q3 : Nat) (vt : Value), q3 ≤ D.length ∧ c = .int .i64 q3 ∧ FwAt w (.slice aN nodes.length cN) (.slice aT D.length cT) X.vars (Z.1 + 4 * q3) (bs2 ++ Cl.difN V D.length q3) vt D.length nodes.length V g1 g2 gb X.f1 X.f2 (.slice a1 (4 * sec.length) c1) (.slice a2 (Cl.b2 sec).length c2) (.slice a3 D.length c3) (.slice a5 D.length c5) (.slice a7 D.length c7) (fun i => if i < q3 then ⟨D.getD i 0, V + 1 + i, (T1 i).1 + 1, V + D.length + 1 + i, (T2 i).1 + 1, V + 2 * D.length + 1 + i, Z.1 + 4 * i + 1⟩ else ⟨D.getD i 0, V + 1 + i, (T1 i).1 + 1, V + D.length + 1 + i, (T2 i).1 + 1, 0, 0⟩) wr) (fun c _ => D.length - (intOf c).toNat)
              case atStart => exact ⟨0, _, Nat.zero_le _, rfl, by show FwAt _ _ _ _ _ (bs2 ++ []) _ _ _ _ _ _ _ _ _ _ _ _ _ _ _ _; rw [List.append_nil]; exact H11.out.congr (fun i hi => by simp [hi])⟩
              case round =>
                clear H11
                obtain ⟨wo3, rfl⟩ : ∃ wo3 : World, wo3 = wr := ⟨wr, rfl⟩
                obtain ⟨q3, vt, hq3, rfl, hfw⟩ := hrel
                have hq3I : (q3 : Int) ≤ 70 := by omega
                have hdl := Cl.difN_len V D.length q3 (by omega)
                by_cases hlt3 : q3 < D.length
                · obtain ⟨g7, c7', e7, _, hg7⟩ := hfw.o3.form (by omega)
                  cases e7
                  obtain ⟨g3, c3', e3, _, hg3⟩ := hfw.o1.form (by omega)
                  cases e3
                  obtain ⟨g5, c5', e5, _, hg5⟩ := hfw.o2.form (by omega)
                  cases e5
                  have tc : wo3.cell? ⟨g7, q3, none⟩ = some (.int .i64 ((V + 2 * D.length + 1 + q3 : Nat) : Int)) := by
                    rw [hfw.o3.cellAt q3 (by omega), show V + 2 * D.length + 1 + q3 = V + D.length + D.length + 1 + q3 by omega]
                    simp [freshL, hlt3]
                  have HS1 := hid (show Cl.difN V D.length (q3 + 1) = Cl.difN V D.length q3 ++ dif4 (V + 2 * D.length + 1 + q3) (V + 1 + q3) (V + D.length + 1 + q3) from rfl)
                  have hqD : (q3 : Int) < (D.length : Int) := by omega
                  have HFW1 := hid hfw
                  clear hfw
                  go_upto_region 31 with fail
                  clear tc
                  have HC := hid (show Calls Tryz.prog 44 #[.pointer (some ⟨w.heap.size + 3, 0, none⟩), .int .i64 ((V + 2 * D.length + 1 + q3 : Nat) : Int), .int .i64 ((V + 1 + q3 : Nat) : Int), .int .i64 ((V + D.length + 1 + q3 : Nat) : Int)] wo3.drew (fun e w' => e = .returned (.agg #[.int .i64 ((V + 2 * D.length + 1 + q3 : Nat) : Int), .int .i64 ((Z.1 + 4 * q3 + 1 : Nat) : Int)]) ∧ ∃ vt', FwAt w (.slice aN nodes.length cN) (.slice aT D.length cT) X.vars (Z.1 + 4 * (q3 + 1)) (bs2 ++ Cl.difN V D.length (q3 + 1)) vt' D.length nodes.length V g1 g2 gb X.f1 X.f2 (.slice a1 (4 * sec.length) c1) (.slice a2 (Cl.b2 sec).length c2) (.slice (some ⟨g3, 0, none⟩) D.length c3) (.slice (some ⟨g5, 0, none⟩) D.length c5) (.slice (some ⟨g7, 0, none⟩) D.length c7) (fun i => if i < q3 then ⟨D.getD i 0, V + 1 + i, (T1 i).1 + 1, V + D.length + 1 + i, (T2 i).1 + 1, V + 2 * D.length + 1 + i, Z.1 + 4 * i + 1⟩ else ⟨D.getD i 0, V + 1 + i, (T1 i).1 + 1, V + D.length + 1 + i, (T2 i).1 + 1, 0, 0⟩) w') by
                    have hn := HFW1.out.drew
                    have c := wdif_any hn.wt hn.bel.size (V + 2 * D.length + 1 + q3) (V + 1 + q3) (V + D.length + 1 + q3) (by omega) (by omega) (by omega) (by rw [List.length_append]; omega) (HT.out.on hn.bel)
                    refine c.mono ?_
                    rintro e w' ⟨rfl, vt', h1, q1⟩
                    refine ⟨rfl, vt', ?_⟩
                    rw [HS1.out, ← List.append_assoc, show Z.1 + 4 * (q3 + 1) = Z.1 + 4 * q3 + 4 by omega]
                    exact hn.wrote h1 q1)
                  have x2 := HFW1.out.r1.cell (i := 2) (by omega)
                  have z2 := HFW1.out.r2.cell (i := 2) (by omega)
                  have x3 : wo3.cell? ⟨g3, q3, none⟩ = some (.int .i64 ((V + 1 + q3 : Nat) : Int)) := by
                    rw [HFW1.out.o1.cellAt q3 (by omega)]
                    simp [freshL, hlt3]
                  have z3 : wo3.cell? ⟨g5, q3, none⟩ = some (.int .i64 ((V + D.length + 1 + q3 : Nat) : Int)) := by
                    rw [HFW1.out.o2.cellAt q3 (by omega)]
                    simp [freshL, hlt3]
                  dsimp only [run3] at x2 z2
                  rw [if_neg (by decide), if_neg (by decide)] at x2 z2
                  have HBE := hid (show ∀ i, i < D.length → updB (updB (fun i => if i < q3 then ⟨D.getD i 0, V + 1 + i, (T1 i).1 + 1, V + D.length + 1 + i, (T2 i).1 + 1, V + 2 * D.length + 1 + i, Z.1 + 4 * i + 1⟩ else ⟨D.getD i 0, V + 1 + i, (T1 i).1 + 1, V + D.length + 1 + i, (T2 i).1 + 1, 0, 0⟩) q3 { (if q3 < q3 then ⟨D.getD q3 0, V + 1 + q3, (T1 q3).1 + 1, V + D.length + 1 + q3, (T2 q3).1 + 1, V + 2 * D.length + 1 + q3, Z.1 + 4 * q3 + 1⟩ else ⟨D.getD q3 0, V + 1 + q3, (T1 q3).1 + 1, V + D.length + 1 + q3, (T2 q3).1 + 1, 0, 0⟩ : Cl.Bt) with vd := V + 2 * D.length + 1 + q3 }) q3 { (if q3 < q3 then ⟨D.getD q3 0, V + 1 + q3, (T1 q3).1 + 1, V + D.length + 1 + q3, (T2 q3).1 + 1, V + 2 * D.length + 1 + q3, Z.1 + 4 * q3 + 1⟩ else ⟨D.getD q3 0, V + 1 + q3, (T1 q3).1 + 1, V + D.length + 1 + q3, (T2 q3).1 + 1, 0, 0⟩ : Cl.Bt) with vd := V + 2 * D.length + 1 + q3, cd := Z.1 + 4 * q3 + 1 } i = (if i < q3 + 1 then ⟨D.getD i 0, V + 1 + i, (T1 i).1 + 1, V + D.length + 1 + i, (T2 i).1 + 1, V + 2 * D.length + 1 + i, Z.1 + 4 * i + 1⟩ else ⟨D.getD i 0, V + 1 + i, (T1 i).1 + 1, V + D.length + 1 + i, (T2 i).1 + 1, 0, 0⟩) from fun i _ => by
                    unfold updB
                    by_cases e : i = q3
                    · subst e
                      simp
                    · simp only [e, if_false]
                      by_cases e2 : i < q3
                      · rw [if_pos e2, if_pos (by omega)]
                      · rw [if_neg e2, if_neg (by omega)])
                  go_wp2_with fail
                  go_region_with (go_at_call 44; refine HC.out.mono ?_; rintro e w9 ⟨rfl, vt9, hf9⟩; have y1 := hf9.bt.cell (i := q3 * 7 + 5) (by omega); have y2 := hf9.bt.cell (i := q3 * 7 + 6) (by omega); have yf1 := hf9.bt.frozen (q3 * 7 + 5); have yf2 := hf9.bt.frozen (q3 * 7 + 6); have HF9 := hid hf9; clear hf9)
                  all_goals go_wp2_with fail
                  all_goals go_roundw
                  all_goals first
                    | exact ⟨q3 + 1, vt9, by omega, by go_num, (HF9.out.said3 q3 (V + 2 * D.length + 1 + q3) (Z.1 + 4 * q3 + 1)).congr HBE.out⟩
                    | (simp [intOf]; omega)
                · have HRE := hid (show q3 = D.length by omega)
                  rw [HRE.out] at hfw hdl
                  have H12 := hid hfw
                  clear hfw
                  obtain ⟨bs3, hbs3⟩ : ∃ bs3, bs2 ++ Cl.difN V D.length D.length = bs3 := ⟨_, rfl⟩
                  rw [hbs3] at H12
                  have hbl3 : bs3.length ≤ 500200000 := by rw [← hbs3, List.length_append]; omega
                  have HBS3 := hid hbs3
                  clear hbs3
                  have C := hid (wany_any H12.out.wt H12.out.bel.size a7 c7 (freshL (V + D.length + D.length) D.length) (by rw [freshL_len]; exact ownsRow_low H12.out.o3 (Nat.zero_le _)) (fun i => Nat.le_trans (Cl.freshL_le _ _ _) (by omega)) (by rw [freshL_len]; omega) (by omega) (HT.out.on H12.out.bel))
                  rw [freshL_len] at C
                  go_wp2_with (go_at_call 45; refine C.out.mono ?_; rintro e w13 ⟨rfl, vt13, h13, f13⟩; have H13 := hid (H12.out.wrote h13 f13); clear h13 f13; refine Hid.out ?_)
                  refine hid ?_
                  obtain ⟨bs4, hbs4⟩ : ∃ bs4, bs3 ++ litsB (freshL (V + D.length + D.length) D.length) D.length ++ [48, 10] = bs4 := ⟨_, rfl⟩
                  rw [hbs4] at H13
                  have hb4n : bs4 ≠ [] := by rw [← hbs4]; simp
                  have HM1 := hid (show FM.vars = X.vars by rw [← HFM.out]; exact congrArg Cl.Ns.vars HXX.out)
                  have HM2 := hid (show FM.ct = Z.1 + 4 * D.length + 1 by rw [← HFM.out, ← HZE.out, ← HTE2.out]; rfl)
                  have HM3 := hid (show FM.bs = bs4 by
                    rw [← hbs4, ← HBS3.out, ← HBS2.out, ← HBS1.out, ← HZE.out, ← HYE.out, ← HTE2.out, ← HTE1.out, ← HXX.out, ← HVE.out, ← HFM.out, show Cl.vin sec + D.length + D.length = Cl.vin sec + 2 * D.length by omega]
                    rfl)
                  have HM4 := hid (show FM.bits = (List.range D.length).map (fun i => if i < D.length then ⟨D.getD i 0, V + 1 + i, (T1 i).1 + 1, V + D.length + 1 + i, (T2 i).1 + 1, V + 2 * D.length + 1 + i, Z.1 + 4 * i + 1⟩ else ⟨D.getD i 0, V + 1 + i, (T1 i).1 + 1, V + D.length + 1 + i, (T2 i).1 + 1, 0, 0⟩) by
                    rw [← HFM.out]
                    refine List.map_congr_left (fun i hi => ?_)
                    rw [if_pos (List.mem_range.1 hi), ← HZE.out, ← HTE2.out, ← HTE1.out, ← HVE.out]
                    rfl)
                  have HBT := hid H13.out.bt
                  have HFB := hid H13.out.fb
                  have HBL := hid H13.out.bel
                  obtain ⟨at5, ct5, et5⟩ := body_val H13.out.wt.own
                  subst et5
                  have c0 := H13.out.wt.c0
                  have c1' := H13.out.wt.c1
                  have c2' := H13.out.wt.c2
                  have hcv := conv_text H13.out.wt.own hb4n
                  have s0 := H13.out.fb.cell (i := 0) (by omega)
                  have s1 := H13.out.fb.cell (i := 1) (by omega)
                  have s2 := H13.out.fb.cell (i := 2) (by omega)
                  have s3 := H13.out.fb.cell (i := 3) (by omega)
                  have sf0 := H13.out.fb.frozen 0
                  have sf1 := H13.out.fb.frozen 1
                  have sf2 := H13.out.fb.frozen 2
                  have sf3 := H13.out.fb.frozen 3
                  dsimp only [frc] at s0 s1 s2 s3
                  clear H13 H12 C hbs4 hb4n
                  go_wp2_with fail
                  refine bodyPost_ret (v := .agg #[.int .i64 X.vars, .int .i64 ((Z.1 : Int) + 4 * D.length + 1), .string ⟨bs4.toArray⟩, .slice (some ⟨gb, 0, none⟩) D.length D.length]) (by simp [results, Tryz.results19, go_sem, s0, s1, s2, s3]) rfl ⟨.slice (some ⟨gb, 0, none⟩) D.length D.length, ?_, ?_, ?_⟩
                  · rw [HM1.out, HM2.out, HM3.out]
                    rfl
                  · rw [HM4.out]
                    have ne : gb ≠ w.heap.size + 2 := row_ne HBT.out HFB.out (by decide)
                    exact bits_own (by omega) ((((HBT.out.setOther ne _).setOther ne _).setOther ne _).setOther ne _)
                  · exact (((HBL.out.setCell (p := ⟨w.heap.size + 2, 0, none⟩) (by show w.heap.size ≤ w.heap.size + 2; omega) _).setCell (p := ⟨w.heap.size + 2, 1, none⟩) (by show w.heap.size ≤ w.heap.size + 2; omega) _).setCell (p := ⟨w.heap.size + 2, 2, none⟩) (by show w.heap.size ≤ w.heap.size + 2; omega) _).setCell (p := ⟨w.heap.size + 2, 3, none⟩) (by show w.heap.size ≤ w.heap.size + 2; omega) _
end
end Go.Proofs.YtgddmpmcnjlcjabGreatDoor
