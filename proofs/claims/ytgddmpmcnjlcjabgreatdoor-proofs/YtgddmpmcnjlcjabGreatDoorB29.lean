import Derived.Test.YtgddmpmcnjlcjabGreatDoorB28
import Derived.Deep.RegionHeld3
namespace Go.Proofs.YtgddmpmcnjlcjabGreatDoor
open Go.RowKit
set_option linter.unusedVariables false
set_option maxRecDepth 100000 in
set_option maxHeartbeats 4000000 in
theorem check_fit (s : ByteArray) (k n c : Nat) (w : World) (htab : Tab w) (hk : k ≤ 10) (hn : n ≤ 1048576) (hc : c ≤ 1048576) (hl : (Lk.read s.toList).2 = 0) (hfit : Dg.Fits (pgOf s.toList) k n) :
    Calls Tryz.prog 6 #[.string s, .int .i64 k, .agg #[.int .i64 n, .int .i64 c]] w fun e w' => CkOut w w' e (pgOf s.toList) k n c := by
  have h1 : wi k 10 = true := by unfold wi; exact decide_eq_true ⟨by omega, by omega⟩
  have h2 : wi n 1048576 = true := by unfold wi; exact decide_eq_true ⟨by omega, by omega⟩
  have h3 : wi c 1048576 = true := by unfold wi; exact decide_eq_true ⟨by omega, by omega⟩
  have HR := hid (show ∀ W : World, Calls Tryz.prog 17 #[.string s] W fun e w1 => ∃ vs vc vk nv, e = .returned (.tuple #[.agg #[vs, .int .i64 nv, vc, vk], .int .i64 0]) ∧ PgAt w1 (pgOf s.toList) vs vc vk ∧ Below W.heap.size W w1 from fun W => (read_any _ _).mono (fun e w1 R => by
    obtain ⟨vs, vc, vk, he, o1, o2, o3⟩ := R.good hl
    exact ⟨vs, vc, vk, _, he, ⟨ownsRow_low o1 (Nat.zero_le _), ownsRow_low o2 (Nat.zero_le _), ownsRow_low o3 (Nat.zero_le _)⟩, R.bel⟩))
  have OK := hid (pgOf_ok s.toList)
  have HT := hid htab
  clear hl htab
  generalize pgOf s.toList = p at HR OK hfit
  have HNF := hid hfit
  clear hfit
  obtain ⟨W0, hW0⟩ : ∃ W0 : World, (w.alloc (.cells #[.int .i64 n, .int .i64 c] 30)).alloc (.cells #[.int .i64 0, .slice none 0 0, .slice none 0 0, .int .i64 0, .int .i64 0, .string ⟨#[]⟩, .string ⟨#[]⟩, .int .i64 0, .int .i64 0] 26) = W0 := ⟨_, rfl⟩
  have hz0 : W0.heap.size = w.heap.size + 2 := by rw [← hW0]; simp
  have HB0 := hid (show Below w.heap.size w W0 by rw [← hW0]; exact ((Below.refl _ _).alloc (Nat.le_refl _) _).alloc (by simp) _)
  have HL0 := hid (show W0.rowIs w.heap.size 30 2 (prc (.int .i64 n) (.int .i64 c)) by
    rw [← hW0]
    exact cells_row (hp_old' _ _ _ _ (hp_new' _ _ _ rfl)) rfl (fun i hi => by
      match i, hi with
      | 0, _ => rfl
      | 1, _ => rfl
      | n + 2, h => omega))
  have HR0 := hid (show W0.rowIs (w.heap.size + 1) 26 9 rpc by
    rw [← hW0]
    exact cells_row (hp_new' _ _ _ (by simp)) rfl (fun i hi => by
      match i, hi with
      | 0, _ => rfl
      | 1, _ => rfl
      | 2, _ => rfl
      | 3, _ => rfl
      | 4, _ => rfl
      | 5, _ => rfl
      | 6, _ => rfl
      | 7, _ => rfl
      | 8, _ => rfl
      | n + 9, h => omega))
  have HE := hid hW0
  clear hW0
  go_enter Tryz.func6, Tryz.ntmps6
  go_wp2_with (first
    | (go_at_call 16; refine (within_any _ _ _).mono ?_; rintro e w' ⟨rfl, rfl⟩)
    | (go_at_call 17; rw [HE.out]; refine (HR.out _).mono ?_; rintro e w1 ⟨vs, vc, vk, nv, rfl, hp1, hb1⟩; have HP1 := hid hp1; have HB1 := hid hb1; clear hp1 hb1; refine Hid.out ?_))
  refine hid ?_
  obtain ⟨as0, cs0, es⟩ := body_val HP1.out.s
  obtain ⟨ac, cc, ec⟩ := body_val HP1.out.c
  obtain ⟨ak, ck, ek⟩ := body_val HP1.out.k
  subst es ec ek
  obtain ⟨W1, hW1⟩ : ∃ W1 : World, w1.alloc (.cells #[.slice as0 p.sec.length cs0, .int .i64 nv, .slice ac p.cells.length cc, .slice ak p.code.length ck] 49) = W1 := ⟨_, rfl⟩
  have z1 := HB1.out.size
  have hz1 : W1.heap.size = w1.heap.size + 1 := by rw [← hW1]; simp
  have HBW1 := hid (show Below w1.heap.size w1 W1 by rw [← hW1]; exact (Below.refl _ _).alloc (Nat.le_refl _) _)
  have HP2 := hid (HP1.out.same HBW1.out)
  have HPB := hid (show W1.rowIs w1.heap.size 49 4 (pgc (.slice as0 p.sec.length cs0) (.slice ac p.cells.length cc) (.slice ak p.code.length ck) nv) by rw [← hW1]; exact pg_row (hp_new' _ _ _ rfl))
  have HB01 := hid (show Below w.heap.size w W1 from (HB0.out.trans (HB1.out.mono (by omega))).trans (HBW1.out.mono (by omega)))
  have HL1 := hid (row_later (row_later HL0.out HB1.out) HBW1.out)
  have HR1 := hid (row_later (row_later HR0.out HB1.out) HBW1.out)
  have HE1 := hid hW1
  have l0 := fun o => ((row_later HL0.out HB1.out).alloc o).cell (i := 0) (by omega)
  have l0' := (row_later HL0.out HB1.out).cell (i := 0) (by omega)
  rw [show ∀ a b, prc a b 0 = a from fun _ _ => rfl] at l0 l0'
  have C := hid ((of_any p OK.out k hk n hn W1 _ _ _ nv HP2.out).mono (fun e w' h => (⟨h.yes HNF.out, h.bel⟩ : _ ∧ _)))
  clear hW1 HE HR
  go_wp2_with (go_at_call 18; rw [HE1.out]; refine C.out.mono ?_; rintro e w2 ⟨⟨vN, vT, rfl, hN, hT⟩, hb2⟩; obtain ⟨aN, cN, eN⟩ := body_val hN; obtain ⟨aT, cT, eT⟩ := body_val hT; subst eN eT; have HN := hid hN; have HTL := hid hT; have HB2 := hid hb2; clear hN hT hb2; refine Hid.out ?_)
  refine hid ?_
  have z2 := HB2.out.size
  have HL2 := hid (row_later HL1.out HB2.out)
  have HR2 := hid (row_later HR1.out HB2.out)
  have HPB2 := hid (row_later HPB.out HB2.out)
  have HP3 := hid (HP2.out.same HB2.out)
  have HBB2 := hid (show Below w.heap.size w w2 from HB01.out.trans (HB2.out.mono (by omega)))
  clear HE1 l0 l0' C HL0 HR0 HL1 HR1 HPB HP1 HP2 HB0 HB01
  obtain ⟨DO, hTl, hTn, hNl⟩ := Ck.dia_ok OK.out k hk
  obtain ⟨hBl, hBo, hCt⟩ := Ck.bits_ok OK.out k hk
  have HFM := hid (show Ck.fm p k = Cl.form p.sec (Ck.nodes p k) (Ck.told p k) from rfl)
  have HPF := hid (show Ck.pf p k = Cl.prf (Ck.fm p k).bits (Ck.fm p k).ct from rfl)
  have HN' := hid (show w2.ownsRow W1.heap.size 160 4 (.slice aN (Ck.nodes p k).length cN) (Ck.nodes p k).length ((Ck.nodes p k).flatMap Dg.Nd.cells) from HN.out)
  have HT' := hid (show w2.ownsRow W1.heap.size 3 1 (.slice aT (Ck.told p k).length cT) (Ck.told p k).length ((Ck.told p k).map fun (n : Nat) => .int .i64 n) from HTL.out)
  have HDO := hid (show ∀ i, 2 ≤ i → i < (Ck.nodes p k).length → (Dg.ndAt (Ck.nodes p k) i).lo < i ∧ (Dg.ndAt (Ck.nodes p k) i).hi < i ∧ (Dg.ndAt (Ck.nodes p k) i).bit < 4 * p.sec.length from fun i h2 hi => ⟨DO.lo i h2 hi, DO.hi i h2 hi, DO.bit i h2 hi⟩)
  rw [show (Dg.dia p k (7 * k)).1.nodes = Ck.nodes p k from rfl, show (Dg.dia p k (7 * k)).2 = Ck.told p k from rfl]
  clear DO HN HTL
  obtain ⟨ns, hns⟩ : ∃ ns, Ck.nodes p k = ns := ⟨_, rfl⟩
  obtain ⟨tl, htl⟩ : ∃ tl, Ck.told p k = tl := ⟨_, rfl⟩
  rw [hns] at HFM HN' HDO hTn hNl ⊢
  rw [htl] at HFM HT' hTl hTn ⊢
  have HNS := hid hns
  have hTl7 : tl.length ≤ 70 := by omega
  have HTN := hid (show ∀ i, i < tl.length → tl.getD i 0 < ns.length from fun i hi => hTn i (by omega))
  have HBL := hid hBl
  have HBO := hid hBo
  have HTLL := hid hTl
  clear hns htl hTn hTl hBl hBo
  obtain ⟨W2, hW2⟩ : ∃ W2 : World, w2.alloc (.cells #[.slice aN ns.length cN, .slice aT tl.length cT] 54) = W2 := ⟨_, rfl⟩
  have hz2 : W2.heap.size = w2.heap.size + 1 := by rw [← hW2]; simp
  have HBW2 := hid (show Below w2.heap.size w2 W2 by rw [← hW2]; exact (Below.refl _ _).alloc (Nat.le_refl _) _)
  have HDB := hid (show W2.rowIs w2.heap.size 54 2 (prc (.slice aN ns.length cN) (.slice aT tl.length cT)) by
    rw [← hW2]
    exact cells_row (hp_new' _ _ _ rfl) rfl (fun i hi => by
      match i, hi with
      | 0, _ => rfl
      | 1, _ => rfl
      | n + 2, h => omega))
  have HBB3 := hid (show Below w.heap.size w W2 from HBB2.out.trans (HBW2.out.mono (by omega)))
  have HL3 := hid (row_later HL2.out HBW2.out)
  have HR3 := hid (row_later HR2.out HBW2.out)
  have HPB3 := hid (row_later HPB2.out HBW2.out)
  have HP4 := hid (HP3.out.same HBW2.out)
  have HN3 := hid (ownsRow_same HN'.out HBW2.out.block)
  have HT3 := hid (ownsRow_same HT'.out HBW2.out.block)
  have C2 := hid (cw_all p.sec ns tl (.slice as0 p.sec.length cs0) (.slice ac p.cells.length cc) (.slice ak p.code.length ck) (.slice aN ns.length cN) (.slice aT tl.length cT) nv OK.out.sec HP4.out.s (ownsRow_low HN3.out (Nat.zero_le _)) (ownsRow_low HT3.out (Nat.zero_le _)) hNl hTl7 HTN.out HDO.out (Lib.tabBelow_of_tabIs (tab_on HT.out HBB3.out)))
  rw [← HFM.out] at C2
  have HE2 := hid hW2
  have p0 := fun o => (HPB2.out.alloc o).cell (i := 0) (by omega)
  have p1 := fun o => (HPB2.out.alloc o).cell (i := 1) (by omega)
  have p2 := fun o => (HPB2.out.alloc o).cell (i := 2) (by omega)
  have p3 := fun o => (HPB2.out.alloc o).cell (i := 3) (by omega)
  simp only [pgc, Nat.reduceEqDiff, if_true, if_false] at p0 p1 p2 p3
  clear hW2 HPB2 HP3 HL2 HR2
  go_wp2_with (go_at_call 19; rw [HE2.out]; refine C2.out.mono ?_; rintro e w3 ⟨vb, rfl, hbt, hb3⟩; obtain ⟨ab, cb, eb⟩ := body_val hbt; subst eb; have HBT := hid hbt; have HB3 := hid hb3; clear hbt hb3; refine Hid.out ?_)
  refine hid ?_
  have z3 := HB3.out.size
  obtain ⟨fm, hfm⟩ : ∃ fm, Ck.fm p k = fm := ⟨_, rfl⟩
  rw [hfm] at HFM HPF hCt HBL HBO HBT ⊢
  have HFE := hid hfm
  clear hfm C2 HE2 p0 p1 p2 p3
  obtain ⟨W3, hW3⟩ : ∃ W3 : World, w3.alloc (.cells #[.int .i64 fm.vars, .int .i64 fm.ct, .string ⟨fm.bs.toArray⟩, .slice ab tl.length cb] 59) = W3 := ⟨_, rfl⟩
  have hz3 : W3.heap.size = w3.heap.size + 1 := by rw [← hW3]; simp
  have HBW3 := hid (show Below w3.heap.size w3 W3 by rw [← hW3]; exact (Below.refl _ _).alloc (Nat.le_refl _) _)
  have HFB := hid (show W3.rowIs w3.heap.size 59 4 (frc fm.vars fm.ct ⟨fm.bs.toArray⟩ (.slice ab tl.length cb)) by
    rw [← hW3]
    exact cells_row (hp_new' _ _ _ rfl) rfl (fun i hi => by
      match i, hi with
      | 0, _ => rfl
      | 1, _ => rfl
      | 2, _ => rfl
      | 3, _ => rfl
      | n + 4, h => omega))
  have HBB4 := hid (show Below w.heap.size w W3 from (HBB3.out.trans (HB3.out.mono (by have := HBB3.out.size; omega))).trans (HBW3.out.mono (by omega)))
  have HL4 := hid (row_later (row_later HL3.out HB3.out) HBW3.out)
  have HR4 := hid (row_later (row_later HR3.out HB3.out) HBW3.out)
  have HPB4 := hid (row_later (row_later HPB3.out HB3.out) HBW3.out)
  have HDB4 := hid (row_later (row_later HDB.out HB3.out) HBW3.out)
  have HP5 := hid ((HP4.out.same HB3.out).same HBW3.out)
  have HBT4 := hid (ownsRow_same HBT.out HBW3.out.block)
  have HE3 := hid hW3
  have d0 := fun o => ((row_later HDB.out HB3.out).alloc o).cell (i := 0) (by omega)
  have d1 := fun o => ((row_later HDB.out HB3.out).alloc o).cell (i := 1) (by omega)
  rw [show ∀ a b, prc a b 0 = a from fun _ _ => rfl] at d0
  rw [show ∀ a b, prc a b 1 = b from fun _ _ => rfl] at d1
  clear hW3 HL3 HR3 HPB3 HDB HP4 HBT
  go_wp2_with fail
  rw [HE3.out]
  have HCD := hid (fun W => dec_any aN aT ns.length cN tl.length cT (by omega) W)
  have x0 := HFB.out.cell (i := 0) (by omega)
  have x2 := HFB.out.cell (i := 2) (by omega)
  have y0 := HDB4.out.cell (i := 0) (by omega)
  have y1 := HDB4.out.cell (i := 1) (by omega)
  simp [frc, prc] at x0 x2 y0 y1
  clear d0 d1
  have ne1 : ¬ w2.heap.size = w3.heap.size + 1 := by omega
  have ne2 : ¬ w3.heap.size + 1 = w2.heap.size := by omega
  go_cut [13] (fun v wc => ∃ g, v = .pointer (some ⟨g, 0, none⟩) ∧ W3.heap.size ≤ g ∧ wc.rowIs g 26 9 (rpd fm.vars ⟨fm.bs.toArray⟩ ((ns.length : Int) - 2)) ∧ Below W3.heap.size W3 wc)
  case first =>
    go_region_held3 (fun w' => w'.cell? ⟨w3.heap.size, 0, none⟩ = some (.int .i64 fm.vars) ∧ w'.cell? ⟨w3.heap.size, 2, none⟩ = some (.string ⟨fm.bs.toArray⟩) ∧ w'.cell? ⟨w2.heap.size, 0, none⟩ = some (.slice aN ns.length cN) ∧ w'.cell? ⟨w2.heap.size, 1, none⟩ = some (.slice aT tl.length cT))
      (first
        | go_keep
        | ((try dsimp only); (repeat' apply And.intro); all_goals go_keep))
      ((go_at_call 20; refine (HCD.out _).mono ?_; rintro e w4 ⟨rfl, hb4⟩; have z4 := hb4.size; simp at z4; (first | (have F4 := row_later HFB.out.drew hb4; have G4 := row_later HDB4.out.drew hb4) | (have F4 := row_later (HFB.out.alloc _).drew hb4; have G4 := row_later (HDB4.out.alloc _).drew hb4)); have u0 : w4.cell? ⟨w3.heap.size, 0, none⟩ = some (.int .i64 fm.vars) := F4.cell (i := 0) (by omega); have u2 : w4.cell? ⟨w3.heap.size, 2, none⟩ = some (.string ⟨fm.bs.toArray⟩) := F4.cell (i := 2) (by omega); have t0 : w4.cell? ⟨w2.heap.size, 0, none⟩ = some (.slice aN ns.length cN) := G4.cell (i := 0) (by omega); have t1 : w4.cell? ⟨w2.heap.size, 1, none⟩ = some (.slice aT tl.length cT) := G4.cell (i := 1) (by omega); have u0a : ∀ o, (w4.alloc o).cell? ⟨w3.heap.size, 0, none⟩ = some (.int .i64 fm.vars) := fun o => (F4.alloc o).cell (i := 0) (by omega); have u2a : ∀ o, (w4.alloc o).cell? ⟨w3.heap.size, 2, none⟩ = some (.string ⟨fm.bs.toArray⟩) := fun o => (F4.alloc o).cell (i := 2) (by omega); have t0a : ∀ o, (w4.alloc o).cell? ⟨w2.heap.size, 0, none⟩ = some (.slice aN ns.length cN) := fun o => (G4.alloc o).cell (i := 0) (by omega); have t1a : ∀ o, (w4.alloc o).cell? ⟨w2.heap.size, 1, none⟩ = some (.slice aT tl.length cT) := fun o => (G4.alloc o).cell (i := 1) (by omega); clear F4 G4; (first | (with_reducible refine rep_kd9 hb4 ?_; intro c0 c1 c2 c3 c4 c5 c6 c7 c8 cf; simp only [hz3] at c0 c1 c2 c3 c4 c5 c6 c7 c8 cf) | skip); have HB4 := hid hb4; clear hb4))
    all_goals go_wp2_with fail
    all_goals go_meet
    all_goals first
      | (have h := rep_setA HB4.out hz3 fm.vars ⟨fm.bs.toArray⟩ ((ns.length : Int) - 2); exact ⟨_, rfl, Nat.le_of_eq hz3, h.1, h.2⟩)
      | (have h := rep_setB HB4.out fm.vars ⟨fm.bs.toArray⟩ ((ns.length : Int) - 2); exact ⟨_, rfl, by omega, h.1, h.2⟩)
  case rest =>
    obtain ⟨g, rfl, hg, hrow, hbel⟩ := hcut
    have HB4 := hid hbel
    have HRP := hid hrow
    have z4 := hbel.size
    clear hrow hbel x0 x2 y0 y1 HCD ne1 ne2 HE3
    have HBB5 := hid (show Below w.heap.size w wc from HBB4.out.trans (HB4.out.mono (by omega)))
    have HL5 := hid (row_later HL4.out HB4.out)
    have HR5 := hid (row_later HR4.out HB4.out)
    have HFB5 := hid (row_later HFB.out HB4.out)
    have HP6 := hid (HP5.out.same HB4.out)
    have HBT5 := hid (ownsRow_same HBT4.out HB4.out.block)
    have HPB5 := row_later HPB4.out HB4.out
    have p0 := HPB5.cell (i := 0) (by omega)
    have p1 := HPB5.cell (i := 1) (by omega)
    have p2 := HPB5.cell (i := 2) (by omega)
    have p3 := HPB5.cell (i := 3) (by omega)
    simp only [pgc, Nat.reduceEqDiff, if_true, if_false] at p0 p1 p2 p3
    clear HPB5 HPB4 HL4 HR4 HFB HP5 HBT4 HDB4
    have C5 := hid (search_any p OK.out _ _ _ _ nv HP6.out k hk)
    by_cases hin : (Pr.fd p k).al < k
    · have HD := hid (decide_eq_true hin)
      have HIN := hid hin
      clear hin
      go_wp2_with (go_at_call 21; refine C5.out.mono ?_; rintro e w5 ⟨b1, n1, d1, b2, n2, d2, at_, he, hfv, hb5⟩; rw [HD.out] at he; subst he; obtain ⟨i, j, hfi, hat, ho1, ho2⟩ := fdv_some hfv HIN.out; obtain ⟨u1, u2, eu⟩ := body_val ho1; cases eu; obtain ⟨u3, u4, eu2⟩ := body_val ho2; cases eu2; subst hat; have HFI := hid hfi; have HO1 := hid ho1; have HO2 := hid ho2; have HB5 := hid hb5; clear hfi ho1 ho2 hb5 hfv; refine Hid.out ?_)
      refine hid ?_
      have z5 := HB5.out.size
      go_upto_region 13 with fail
      obtain ⟨W5, hW5⟩ : ∃ W5 : World, w5.alloc (.cells #[.slice b1 p.sec.length d1, .slice b2 p.sec.length d2, .int .i64 (Pr.fd p k).al] 62) = W5 := ⟨_, rfl⟩
      rw [hW5]
      have hz5 : W5.heap.size = w5.heap.size + 1 := by rw [← hW5]; simp
      have HBW5 := hid (show Below w5.heap.size w5 W5 by rw [← hW5]; exact (Below.refl _ _).alloc (Nat.le_refl _) _)
      have HPR := hid (show W5.rowIs w5.heap.size 62 3 (run3 (.slice b1 p.sec.length d1) (.slice b2 p.sec.length d2) (.int .i64 (Pr.fd p k).al)) by
        rw [← hW5]
        exact cells_row (hp_new' _ _ _ rfl) rfl (fun i hi => by
          match i, hi with
          | 0, _ => rfl
          | 1, _ => rfl
          | 2, _ => rfl
          | n + 3, h => omega))
      have HRP6 := hid (row_later (row_later HRP.out HB5.out) HBW5.out)
      have HR6 := hid (row_later (row_later HR5.out HB5.out) HBW5.out)
      have O1 := hid (ownsRow_same HO1.out HBW5.out.block)
      have O2 := hid (ownsRow_same HO2.out HBW5.out.block)
      have HBB6 := hid (show Below w.heap.size w W5 from (HBB5.out.trans (HB5.out.mono (by have := HBB5.out.size; omega))).trans (HBW5.out.mono (by have := HBB5.out.size; omega)))
      have hgc := HRP.out.lt
      have hgl : g < w5.heap.size := by omega
      have m0 := HPR.out.cell (i := 0) (by omega)
      have m1 := HPR.out.cell (i := 1) (by omega)
      have m2 := HPR.out.cell (i := 2) (by omega)
      simp [run3] at m0 m1 m2
      have r1 := HRP6.out.cell (i := 1) (by omega)
      have r2 := HRP6.out.cell (i := 2) (by omega)
      have r3 := HRP6.out.cell (i := 3) (by omega)
      have rf1 := HRP6.out.frozen 1
      have rf2 := HRP6.out.frozen 2
      have rf3 := HRP6.out.frozen 3
      have ng1 : ¬ w5.heap.size = g := by omega
      have ng2 : ¬ g = w5.heap.size := by omega
      clear hW5
      go_upto_region 16 with fail
      obtain ⟨W6, hW6⟩ : ∃ W6 : World, ((W5.setCell ⟨g, 1, none⟩ (.slice b1 p.sec.length d1)).setCell ⟨g, 2, none⟩ (.slice b2 p.sec.length d2)).setCell ⟨g, 3, none⟩ (.int .i64 (Pr.fd p k).al) = W6 := ⟨_, rfl⟩
      rw [hW6]
      have FR6 := hid (show Frm 0 (fun q => q = g) W5 W6 by rw [← hW6]; exact Frm.setCell (p := ⟨g, 3, none⟩) (Frm.setCell (p := ⟨g, 2, none⟩) (Frm.setCell (p := ⟨g, 1, none⟩) (Frm.refl 0 (fun q => q = g) W5) (Nat.zero_le _) rfl _) (Nat.zero_le _) rfl _) (Nat.zero_le _) rfl _)
      have HRP7 := hid (show W6.rowIs g 26 9 (fun i => if i = 3 then .int .i64 (Pr.fd p k).al else if i = 2 then .slice b2 p.sec.length d2 else if i = 1 then .slice b1 p.sec.length d1 else rpd fm.vars ⟨fm.bs.toArray⟩ ((ns.length : Int) - 2) i) by rw [← hW6]; exact ((HRP6.out.set 1 _).set 2 _).set 3 _)
      have hgw : w.heap.size + 1 ≠ g := by omega
      have HR7 := hid (HR6.out.of_block (FR6.out.keep _ HR6.out.lt hgw))
      have HBB7 := hid (show Below w.heap.size w W6 by rw [← hW6]; exact ((HBB6.out.setCell (p := ⟨g, 1, none⟩) (by show w.heap.size ≤ g; omega) _).setCell (p := ⟨g, 2, none⟩) (by show w.heap.size ≤ g; omega) _).setCell (p := ⟨g, 3, none⟩) (by show w.heap.size ≤ g; omega) _)
      have O3 := hid (ownsRow_blk O1.out (fun q e => FR6.out.keep q (O1.out.lt q e).2 (fun e2 => by have := (O1.out.lt q e).1; have e2 : q = g := e2; omega)))
      have O4 := hid (ownsRow_blk O2.out (fun q e => FR6.out.keep q (O2.out.lt q e).2 (fun e2 => by have := (O2.out.lt q e).1; have e2 : q = g := e2; omega)))
      clear hW6 m0 m1 m2 r1 r2 r3 rf1 rf2 rf3
      have s0 := HRP7.out.cell (i := 0) (by omega)
      have s1 := HRP7.out.cell (i := 1) (by omega)
      have s2 := HRP7.out.cell (i := 2) (by omega)
      have s3 := HRP7.out.cell (i := 3) (by omega)
      have s4 := HRP7.out.cell (i := 4) (by omega)
      have s5 := HRP7.out.cell (i := 5) (by omega)
      have s6 := HRP7.out.cell (i := 6) (by omega)
      have s7 := HRP7.out.cell (i := 7) (by omega)
      have s8 := HRP7.out.cell (i := 8) (by omega)
      simp [rpd, rpc] at s0 s1 s2 s3 s4 s5 s6 s7 s8
      have q0 := HR7.out.cell (i := 0) (by omega)
      have q1 := HR7.out.cell (i := 1) (by omega)
      have q2 := HR7.out.cell (i := 2) (by omega)
      have q3 := HR7.out.cell (i := 3) (by omega)
      have q4 := HR7.out.cell (i := 4) (by omega)
      have q5 := HR7.out.cell (i := 5) (by omega)
      have q6 := HR7.out.cell (i := 6) (by omega)
      have q7 := HR7.out.cell (i := 7) (by omega)
      have q8 := HR7.out.cell (i := 8) (by omega)
      have qf := fun i => HR7.out.frozen i
      simp [rpc] at q0 q1 q2 q3 q4 q5 q6 q7 q8
      go_wp2_with fail
      go_region
      all_goals go_wp2_with fail
      have FR := frm9k (q := w.heap.size + 1) (w := W6) (.int .i64 0) (.slice b1 p.sec.length d1) (.slice b2 p.sec.length d2) (.int .i64 (Pr.fd p k).al) (.int .i64 fm.vars) (.string ⟨fm.bs.toArray⟩) (.string ⟨#[]⟩) (.int .i64 ((ns.length : Int) - 2)) (.int .i64 0) |>.drew
      clear HL5 HFB5 HBT5 HP6 HRP HPR HRP6 HR6 O1 O2
      refine bodyPost_ret (v := .tuple #[.int .i64 2, .agg #[.int .i64 0, .slice b1 p.sec.length d1, .slice b2 p.sec.length d2, .int .i64 (Pr.fd p k).al, .int .i64 fm.vars, .string ⟨fm.bs.toArray⟩, .string ⟨#[]⟩, .int .i64 ((ns.length : Int) - 2), .int .i64 0]]) (by simp [results, Tryz.results6, go_sem, q0, q1, q2, q3, q4, q5, q6, q7, q8]) rfl ⟨?_, fun c => ?_, fun _ _ => ⟨b1, d1, b2, d2, i, j, ?_, HFI.out, ?_, ?_⟩, fun _ c => absurd HIN.out c⟩
      · exact (bel9k HBB7.out (Nat.le_succ _) _ _ _ _ _ _ _ _ _).drew
      · rcases c with c | c
        · exact absurd HNF.out c
        · exact absurd HIN.out c.1
      · rw [HFE.out, HNS.out]
      · exact ownsRow_low (ownsRow_blk O3.out (fun q e => FR.keep q (O3.out.lt q e).2 (fun e2 => by have := (O3.out.lt q e).1; have e2 : q = w.heap.size + 1 := e2; have := HBB5.out.size; omega))) HBB5.out.size
      · exact ownsRow_low (ownsRow_blk O4.out (fun q e => FR.keep q (O4.out.lt q e).2 (fun e2 => by have := (O4.out.lt q e).1; have e2 : q = w.heap.size + 1 := e2; have := HBB5.out.size; omega))) HBB5.out.size
    · have HD := hid (decide_eq_false hin)
      have HIN := hid hin
      clear hin
      go_wp2_with (go_at_call 21; refine C5.out.mono ?_; rintro e w5 ⟨b1, n1, d1, b2, n2, d2, at_, he, hfv, hb5⟩; rw [HD.out] at he; subst he; have HB5 := hid hb5; clear hb5 hfv; refine Hid.out ?_)
      refine hid ?_
      have z5 := HB5.out.size
      obtain ⟨W5, hW5⟩ : ∃ W5 : World, w5.alloc (.cells #[.slice b1 n1 d1, .slice b2 n2 d2, .int .i64 at_] 62) = W5 := ⟨_, rfl⟩
      have hz5 : W5.heap.size = w5.heap.size + 1 := by rw [← hW5]; simp
      have HBW5 := hid (show Below w5.heap.size w5 W5 by rw [← hW5]; exact (Below.refl _ _).alloc (Nat.le_refl _) _)
      have HRP6 := hid (row_later (row_later HRP.out HB5.out) HBW5.out)
      have HR6 := hid (row_later (row_later HR5.out HB5.out) HBW5.out)
      have HBB6 := hid (show Below w.heap.size w W5 from (HBB5.out.trans (HB5.out.mono (by have := HBB5.out.size; omega))).trans (HBW5.out.mono (by have := HBB5.out.size; omega)))
      have hgc := HRP.out.lt
      have hgl : g < w5.heap.size := by omega
      have HBTW := hid (ownsRow_same (ownsRow_same HBT5.out HB5.out.block) HBW5.out.block)
      have hTF : tl.length = fm.bits.length := by rw [HBL.out, HTLL.out]
      rw [hTF] at HBTW
      have C6 := hid (pw_all fm.vars fm.ct ⟨fm.bs.toArray⟩ fm.bits (.slice ab fm.bits.length cb) hCt (by omega) HBO.out HBTW.out c hc (Lib.tabBelow_of_tabIs (tab_on HT.out HBB6.out)))
      rw [← hTF, ← HPF.out] at C6
      have f0 := fun o => ((row_later HFB5.out HB5.out).alloc o).cell (i := 0) (by omega)
      have f1 := fun o => ((row_later HFB5.out HB5.out).alloc o).cell (i := 1) (by omega)
      have f2 := fun o => ((row_later HFB5.out HB5.out).alloc o).cell (i := 2) (by omega)
      have f3 := fun o => ((row_later HFB5.out HB5.out).alloc o).cell (i := 3) (by omega)
      have l1 := fun o => ((row_later HL5.out HB5.out).alloc o).cell (i := 1) (by omega)
      simp [frc, prc] at f0 f1 f2 f3 l1
      have HE5 := hid hW5
      have HTF := hid hTF
      clear hW5 hTF HBTW
      by_cases hlim : c = 0 ∨ (Ck.pf p k).1 ≤ c
      · have C7 := hid (C6.out.mono (fun e w' h => (⟨h.2.1 hlim, h.1⟩ : _ ∧ _)))
        have HLIM := hid hlim
        clear hlim C6
        go_wp2_with (go_at_call 22; rw [HE5.out]; refine C7.out.mono ?_; rintro e w6 ⟨rfl, hb6⟩; have HB6 := hid hb6; clear hb6; refine Hid.out ?_)
        refine hid ?_
        obtain ⟨pf, hpf⟩ : ∃ pf, Ck.pf p k = pf := ⟨_, rfl⟩
        rw [hpf]
        have HPE := hid hpf
        clear hpf C7 f0 f1 f2 f3 l1 HE5
        have z6 := HB6.out.size
        go_upto_region 20 with fail
        obtain ⟨W6, hW6⟩ : ∃ W6 : World, w6.alloc (.cells #[.int .i64 pf.1, .string ⟨pf.2.toArray⟩] 66) = W6 := ⟨_, rfl⟩
        rw [hW6]
        have hz6 : W6.heap.size = w6.heap.size + 1 := by rw [← hW6]; simp
        have HBW6 := hid (show Below w6.heap.size w6 W6 by rw [← hW6]; exact (Below.refl _ _).alloc (Nat.le_refl _) _)
        have HPR := hid (show W6.rowIs w6.heap.size 66 2 (prc (.int .i64 pf.1) (.string ⟨pf.2.toArray⟩)) by
          rw [← hW6]
          exact cells_row (hp_new' _ _ _ rfl) rfl (fun i hi => by
            match i, hi with
            | 0, _ => rfl
            | 1, _ => rfl
            | n + 2, h => omega))
        have HRPx := hid (row_later (row_later HRP6.out HB6.out) HBW6.out)
        have HRx := hid (row_later (row_later HR6.out HB6.out) HBW6.out)
        have HBB7 := hid (show Below w.heap.size w W6 from (HBB6.out.trans (HB6.out.mono (by have := HBB6.out.size; omega))).trans (HBW6.out.mono (by have := HBB6.out.size; omega)))
        have m0 := HPR.out.cell (i := 0) (by omega)
        have m1 := HPR.out.cell (i := 1) (by omega)
        simp [prc] at m0 m1
        have r6 := HRPx.out.cell (i := 6) (by omega)
        have r8 := HRPx.out.cell (i := 8) (by omega)
        have rf6 := HRPx.out.frozen 6
        have rf8 := HRPx.out.frozen 8
        have ng1 : ¬ w6.heap.size = g := by omega
        have ng2 : ¬ g = w6.heap.size := by omega
        clear hW6
        go_upto_region 22 with fail
        obtain ⟨W7, hW7⟩ : ∃ W7 : World, (W6.setCell ⟨g, 6, none⟩ (.string ⟨pf.2.toArray⟩)).setCell ⟨g, 8, none⟩ (.int .i64 pf.1) = W7 := ⟨_, rfl⟩
        rw [hW7]
        have hgw : w.heap.size + 1 ≠ g := by omega
        have FR7 := hid (show Frm 0 (fun q => q = g) W6 W7 by rw [← hW7]; exact Frm.setCell (p := ⟨g, 8, none⟩) (Frm.setCell (p := ⟨g, 6, none⟩) (Frm.refl 0 (fun q => q = g) W6) (Nat.zero_le _) rfl _) (Nat.zero_le _) rfl _)
        have HRP7 := hid (show W7.rowIs g 26 9 (fun i => if i = 8 then .int .i64 pf.1 else if i = 6 then .string ⟨pf.2.toArray⟩ else rpd fm.vars ⟨fm.bs.toArray⟩ ((ns.length : Int) - 2) i) by rw [← hW7]; exact (HRPx.out.set 6 _).set 8 _)
        have HR7 := hid (HRx.out.of_block (FR7.out.keep _ HRx.out.lt hgw))
        have HBB8 := hid (show Below w.heap.size w W7 by rw [← hW7]; exact (HBB7.out.setCell (p := ⟨g, 6, none⟩) (by show w.heap.size ≤ g; omega) _).setCell (p := ⟨g, 8, none⟩) (by show w.heap.size ≤ g; omega) _)
        clear hW7 m0 m1 r6 r8 rf6 rf8
        have s0 := HRP7.out.cell (i := 0) (by omega)
        have s1 := HRP7.out.cell (i := 1) (by omega)
        have s2 := HRP7.out.cell (i := 2) (by omega)
        have s3 := HRP7.out.cell (i := 3) (by omega)
        have s4 := HRP7.out.cell (i := 4) (by omega)
        have s5 := HRP7.out.cell (i := 5) (by omega)
        have s6 := HRP7.out.cell (i := 6) (by omega)
        have s7 := HRP7.out.cell (i := 7) (by omega)
        have s8 := HRP7.out.cell (i := 8) (by omega)
        simp [rpd, rpc] at s0 s1 s2 s3 s4 s5 s6 s7 s8
        have q0 := HR7.out.cell (i := 0) (by omega)
        have q1 := HR7.out.cell (i := 1) (by omega)
        have q2 := HR7.out.cell (i := 2) (by omega)
        have q3 := HR7.out.cell (i := 3) (by omega)
        have q4 := HR7.out.cell (i := 4) (by omega)
        have q5 := HR7.out.cell (i := 5) (by omega)
        have q6 := HR7.out.cell (i := 6) (by omega)
        have q7 := HR7.out.cell (i := 7) (by omega)
        have q8 := HR7.out.cell (i := 8) (by omega)
        have qf := fun i => HR7.out.frozen i
        simp [rpc] at q0 q1 q2 q3 q4 q5 q6 q7 q8
        clear HL5 HFB5 HBT5 HP6 HRP HPR HRPx HRx HRP6 HR6
        go_wp2_with fail
        go_region
        all_goals go_wp2_with fail
        refine bodyPost_ret (v := .tuple #[.int .i64 1, .agg #[.int .i64 0, .slice none 0 0, .slice none 0 0, .int .i64 0, .int .i64 fm.vars, .string ⟨fm.bs.toArray⟩, .string ⟨pf.2.toArray⟩, .int .i64 ((ns.length : Int) - 2), .int .i64 pf.1]]) (by simp [results, Tryz.results6, go_sem, q0, q1, q2, q3, q4, q5, q6, q7, q8]) rfl ⟨?_, fun c => ?_, fun _ c => absurd c HIN.out, fun _ _ _ => ?_⟩
        · exact (bel9k HBB8.out (Nat.le_succ _) _ _ _ _ _ _ _ _ _).drew
        · exfalso
          rcases c with c | c
          · exact c HNF.out
          · rcases HLIM.out with d | d
            · exact c.2.1 d
            · have := c.2.2; omega
        · rw [HFE.out, HNS.out, HPE.out]
      · have hl2 : c ≠ 0 ∧ c < (Ck.pf p k).1 := by omega
        have C7 := hid (C6.out.mono (fun e w' h => (⟨h.2.2 hl2.1 hl2.2, h.1⟩ : _ ∧ _)))
        have HLIM := hid hlim
        clear hlim hl2 C6
        go_wp2_with (go_at_call 22; rw [HE5.out]; refine C7.out.mono ?_; rintro e w6 ⟨rfl, hb6⟩; have HB6 := hid hb6; clear hb6; refine Hid.out ?_)
        refine hid ?_
        have z6 := HB6.out.size
        have q0 := fun o => ((row_later HR6.out HB6.out).alloc o).cell (i := 0) (by omega)
        have q1 := fun o => ((row_later HR6.out HB6.out).alloc o).cell (i := 1) (by omega)
        have q2 := fun o => ((row_later HR6.out HB6.out).alloc o).cell (i := 2) (by omega)
        have q3 := fun o => ((row_later HR6.out HB6.out).alloc o).cell (i := 3) (by omega)
        have q4 := fun o => ((row_later HR6.out HB6.out).alloc o).cell (i := 4) (by omega)
        have q5 := fun o => ((row_later HR6.out HB6.out).alloc o).cell (i := 5) (by omega)
        have q6 := fun o => ((row_later HR6.out HB6.out).alloc o).cell (i := 6) (by omega)
        have q7 := fun o => ((row_later HR6.out HB6.out).alloc o).cell (i := 7) (by omega)
        have q8 := fun o => ((row_later HR6.out HB6.out).alloc o).cell (i := 8) (by omega)
        have qf := fun i o => ((row_later HR6.out HB6.out).alloc o).frozen i
        simp [rpc] at q0 q1 q2 q3 q4 q5 q6 q7 q8
        have HBB7 := hid (show Below w.heap.size w w6 from HBB6.out.trans (HB6.out.mono (by have := HBB6.out.size; omega)))
        clear HL5 HFB5 HBT5 HP6 HRP HRP6 HR6 C7 f0 f1 f2 f3 l1 HE5
        go_wp2_with fail
        refine bodyPost_ret (v := .tuple #[.int .i64 3, repLine 0]) (by simp [results, Tryz.results6, go_sem, q0, q1, q2, q3, q4, q5, q6, q7, q8]) rfl ⟨?_, fun _ => rfl, fun _ c => absurd c HIN.out, fun _ _ c => absurd c HLIM.out⟩
        exact bel9k (HBB7.out.alloc (by have := HBB7.out.size; omega) _) (Nat.le_succ _) _ _ _ _ _ _ _ _ _
end Go.Proofs.YtgddmpmcnjlcjabGreatDoor
