import Derived.Test.YtgddmpmcnjlcjabGreatDoorB17
import Derived.Shelf.Strconv.AppendIntPublic10
import Derived.Shelf.Lay
import Derived.Ground.NamesProg
import Derived.Lib.ItoaLen
import Derived.Lib.AppendIntMem
import Derived.Deep.QuietTactic
import Derived.BigQuiet
namespace Go.Proofs.YtgddmpmcnjlcjabGreatDoor
open Go.RowKit
set_option linter.unusedVariables false
set_option maxRecDepth 100000 in
set_option maxHeartbeats 4000000 in
theorem of_any (p : Pg) (ok : PgOk p) (k : Nat) (hk : k ≤ 10) (most : Nat) (hm : most ≤ 1048576) (w : World) (vs vc vk : Value) (nv : Int) (hp : PgAt w p vs vc vk) :
    Calls Tryz.prog 18 #[.agg #[vs, .int .i64 nv, vc, vk], .int .i64 k, .int .i64 most] w (OfOut w p k most) := by
  obtain ⟨t0, ht0, hz0q, hz1, hz2⟩ := info_parts Tryz.infoInt
  obtain ⟨as0, cs0, e0⟩ := body_val hp.s
  obtain ⟨ac, cc, e1⟩ := body_val hp.c
  obtain ⟨ak, ck, e2⟩ := body_val hp.k
  subst e0 e1 e2
  have HP := hid hp
  have OK := hid ok
  have hs3 := ok.sec
  have hsI : (p.sec.length : Int) ≤ 3 := by omega
  have hkI : (k : Int) ≤ 10 := by omega
  have hmI : (most : Int) ≤ 1048576 := by omega
  have hol := Dg.order_len p.sec.length
  have hbl : (Dg.order p.sec.length).length ≤ 12 := by omega
  have hblI : ((Dg.order p.sec.length).length : Int) ≤ 12 := by omega
  have HBB : Hid (∀ b ∈ Dg.order p.sec.length, b < 4 * p.sec.length) := Dg.ordK_lt _ 4 (Nat.le_refl _)
  have HBD : Hid (∀ i, i < (Dg.order p.sec.length).length → (Dg.order p.sec.length).getD i 0 < 4 * p.sec.length) := Dg.order_lt p.sec.length
  have HDI := hid (show ∀ c, Dg.dia p k c = Dg.stp p.sec (2 ^ (Dg.order p.sec.length).length) (Dg.order p.sec.length) (Dg.told p (Dg.order p.sec.length) k) c from fun _ => rfl)
  have HOA := hid (order_any p.sec.length hs3)
  clear hp ok hol
  generalize Dg.order p.sec.length = bits at hbl hblI HBB HBD HDI HOA
  obtain ⟨W0, hW0⟩ : ∃ W0 : World, (w.alloc (.cells #[.slice as0 p.sec.length cs0, .int .i64 nv, .slice ac p.cells.length cc, .slice ak p.code.length ck] 49)).alloc (.cells #[.slice none 0 0, .slice none 0 0] 54) = W0 := ⟨_, rfl⟩
  have hz0 : W0.heap.size = w.heap.size + 2 := by rw [← hW0]; simp
  have HRP := hid (show W0.heap[w.heap.size]? = some (.cells #[.slice as0 p.sec.length cs0, .int .i64 nv, .slice ac p.cells.length cc, .slice ak p.code.length ck] 49) by rw [← hW0]; exact hp_old _ _ _ _ (hp_new _ _ _ rfl))
  have HRR := hid (show W0.heap[w.heap.size + 1]? = some (.cells #[.slice none 0 0, .slice none 0 0] 54) by rw [← hW0]; exact hp_new _ _ _ (by simp))
  have HB0 := hid (show Below w.heap.size w W0 by rw [← hW0]; exact ((Below.refl _ _).alloc (Nat.le_refl _) _).alloc (by simp) _)
  have HE := hid hW0
  clear hW0
  go_enter Tryz.func18, Tryz.ntmps18
  go_wp2_with (go_at_call 36; rw [HE.out]; refine (HOA.out _).mono ?_; rintro e w1 ⟨ab, cb, rfl, ho1, hb1⟩; have HO1 := hid ho1; have HB1 := hid hb1; have z1 := hb1.size; clear ho1 hb1; refine Hid.out ?_)
  refine hid ?_
  have r1 := pg_row ((HB1.out.block w.heap.size (by omega)).trans HRP.out)
  have x0 := r1.cell (i := 0) (by omega)
  have x1 := r1.cell (i := 1) (by omega)
  have x2 := r1.cell (i := 2) (by omega)
  have x3 := r1.cell (i := 3) (by omega)
  dsimp only [pgc] at x0 x1 x2 x3
  have HP1 := hid (HP.out.same (HB0.out.trans (HB1.out.mono (by omega))))
  have HB01 := hid (HB0.out.trans (HB1.out.mono (by omega)))
  clear r1
  go_wp2_with (go_at_call 37; refine (tellAll_any p OK.out bits HBB.out hbl k hk _ _ _ _ _ nv HP1.out (ownsRow_low HO1.out (Nat.zero_le _))).mono ?_; rintro e w2 ⟨vr, fr, rfl, hr2, hb2⟩; have HR2 := hid hr2; have HB2 := hid hb2; have z2 := hb2.size; clear hr2 hb2; refine Hid.out ?_)
  refine hid ?_
  obtain ⟨ar, cr, er⟩ := body_val HR2.out.own
  subst er
  have r2 := pg_row (((HB2.out.block w.heap.size (by omega)).trans (HB1.out.block w.heap.size (by omega))).trans HRP.out)
  have y0' := r2.cell (i := 0) (by omega)
  have y1' := r2.cell (i := 1) (by omega)
  have y2' := r2.cell (i := 2) (by omega)
  have y3' := r2.cell (i := 3) (by omega)
  dsimp only [pgc] at y0' y1' y2' y3'
  have HB02 := hid (HB01.out.trans (HB2.out.mono (by omega)))
  obtain ⟨M, hM⟩ : ∃ M, 2 ^ bits.length = M := ⟨_, rfl⟩
  have hM4 : M ≤ 4096 := by rw [← hM]; exact Nat.pow_le_pow_right (by omega) hbl
  have hMI : (M : Int) ≤ 4096 := by omega
  have HMB := hid hM.symm
  rw [hM] at HR2 HDI ⊢
  clear r2 hM x0 x1 x2 x3
  go_wp2_with (go_at_call 38; refine (begin_any _ _ _ _ _ _ _ _ _ nv _ _ _ M hM4 _).mono ?_; rintro e w3 ⟨gn, gh, gb, gr, rfl, q1, q2, q3, q4, q5, q6, hb3⟩; have Q1 := hid q1; have Q2 := hid q2; have Q3 := hid q3; have Q4 := hid q4; have Q5 := hid q5; have Q6 := hid q6; have HB3 := hid hb3; have z3 := hb3.size; clear q1 q2 q3 q4 q5 q6 hb3; refine Hid.out ?_)
  refine hid ?_
  go_wp2_with fail
  obtain ⟨S, hS⟩ : ∃ S : Nat → Dg.St × List Nat, ∀ c, Dg.stp p.sec M bits (Dg.told p bits k) c = S c := ⟨_, fun _ => rfl⟩
  have HS0 := hid (show S 0 = ({}, []) from (hS 0).symm)
  have HSS := hid (show ∀ c, S (c + 1) = ((Dg.levs p.sec M bits (S c).1 (Dg.layR (Dg.told p bits k) (c / 7) (c % 7)) M bits.length).1, (S c).2 ++ [(Dg.levs p.sec M bits (S c).1 (Dg.layR (Dg.told p bits k) (c / 7) (c % 7)) M bits.length).2 0]) from fun c => by rw [← hS, ← hS]; rfl)
  have HSO := hid (show ∀ c, Dg.Ok p.sec.length M (S c).1 ∧ (S c).2.length = c ∧ (S c).1.nodes.length ≤ 2 + c * M from fun c => by rw [← hS]; obtain ⟨a, b, _, d⟩ := Dg.stp_ok p.sec.length p.sec M bits (Dg.told p bits k) HBD.out c; exact ⟨a, b, d⟩)
  have HSM := hid (show ∀ c, c ≤ 7 * k → (S c).1.nodes.length ≤ (S (7 * k)).1.nodes.length from fun c hc => by rw [← hS, ← hS]; exact Dg.stp_mono p.sec.length p.sec M bits (Dg.told p bits k) HBD.out c _ hc)
  have HSD := hid (show Dg.dia p k (7 * k) = S (7 * k) by rw [HDI.out, hS])
  clear hS
  obtain ⟨mb, hmb⟩ : ∃ mb, w3.heap.size = mb := ⟨_, rfl⟩
  obtain ⟨pv, hpv⟩ : ∃ pv : Nat → Value, pv = fun i => if i = 4 then .slice ab bits.length cb else pgc (.slice as0 p.sec.length cs0) (.slice ac p.cells.length cc) (.slice ak p.code.length ck) nv i := ⟨_, rfl⟩
  have hpv0 : pv 0 = .slice as0 p.sec.length cs0 := by rw [hpv]; rfl
  have hpv4 : pv 4 = .slice ab bits.length cb := by rw [hpv]; rfl
  have HI := hid (show OfAt w2 mb gh gr M {} (fun _ => 0) pv (sl gn 2 2) (sl gb 2 2) (.slice none 0 0) [] (w3.alloc (.cells #[.slice as0 p.sec.length cs0, .int .i64 nv, .slice ac p.cells.length cc, .slice ak p.code.length ck, .slice ab bits.length cb, sl gn 2 2, sl gh M M, sl gb 2 2, sl gr M M] 108)) by
    have hb3 := HB3.out
    obtain ⟨b1, b2, b3, b4⟩ := Q5.out
    obtain ⟨n1, n2, n3, n4, n5, n6⟩ := Q6.out
    refine ⟨⟨?_, ?_, ?_, ?_, ?_, by omega, b2, b4, n5, ?_, ?_, hb3.alloc (by omega) _⟩, World.ownsRow_nil _ _ _ _, fun k e => by simp [Value.ownBlock] at e⟩
    · rw [← hmb]
      exact World.rowIs_alloc w3 _ 108 _ (fun i hi => by
        rw [hpv]
        match i, hi with
        | 0, _ => rfl
        | 1, _ => rfl
        | 2, _ => rfl
        | 3, _ => rfl
        | 4, _ => rfl
        | 5, _ => rfl
        | 6, _ => rfl
        | 7, _ => rfl
        | 8, _ => rfl
        | n + 9, h => exact absurd (show n + 9 < 9 from h) (by omega))
    · exact own_of_cells (n := 2) (hp_old _ _ _ _ Q1.out) b1 (by omega) rfl (by omega)
    · exact own_of_cells (n := 2) (hp_old _ _ _ _ Q3.out) b3 (by omega) rfl (by omega)
    · exact rowIs_of_made (hp_old _ _ _ _ Q2.out)
    · exact rowIs_of_made (hp_old _ _ _ _ Q4.out)
    · intro e; exact n4 (by simpa [Value.ownBlock] using e.symm)
    · intro e; exact n6 (by simpa [Value.ownBlock] using e))
  have HRX := hid (show ∀ wx : World, Below w2.heap.size w2 wx → wx.heap[w.heap.size + 1]? = some (.cells #[.slice none 0 0, .slice none 0 0] 54) from fun wx hx => (((hx.block _ (by omega)).trans (HB2.out.block _ (by omega))).trans (HB1.out.block _ (by omega))).trans HRR.out)
  have HPS := hid (show w2.ownsRow 0 4 1 (pv 0) p.sec.length (p.sec.map Value.bool) by rw [hpv0]; exact (HP1.out.same HB2.out).s)
  have HPB := hid (show w2.ownsRow 0 3 1 (pv 4) bits.length (bits.map fun (n : Nat) => .int .i64 n) by rw [hpv4]; exact ownsRow_low (ownsRow_same HO1.out HB2.out.block) (Nat.zero_le _))
  rw [hmb]
  clear y0' y1' y2' y3' hmb hpv hpv0 hpv4 Q1 Q2 Q3 Q4 Q5 Q6 HO1 HP1 HRP
  go_loopw [11, 12] (fun tv cv wr => ∃ (st : Nat) (r : Nat → Nat) (vN vB : Value), st ≤ k ∧ cv = .int .i64 st ∧ OfAt w2 mb gh gr M (S (7 * st)).1 r pv vN vB tv (S (7 * st)).2 wr ∧ (most = 0 ∨ (S (7 * st)).1.nodes.length ≤ most + 2)) (fun _ cv _ => k - (intOf cv).toNat)
  case atStart => exact ⟨0, _, _, _, Nat.zero_le _, rfl, by rw [HS0.out]; exact HI.out, .inr (by rw [HS0.out]; show 2 ≤ _; omega)⟩
  case round =>
    clear HI
    obtain ⟨st, r, vN, vB, hst, rfl, hof, hfit⟩ := hrel
    obtain ⟨at1, ct1, et1⟩ := body_val hof.told
    subst et1
    have HOF := hid hof
    have HFI := hid hfit
    have hstI : (st : Int) ≤ 10 := by omega
    by_cases hlt : st < k
    · clear hof hfit
      go_wp2_with fail
      go_loopw [11, 13] (fun tv cv wr => ∃ (bt : Nat) (r : Nat → Nat) (vN vB : Value), bt ≤ 7 ∧ cv = .int .i64 bt ∧ OfAt w2 mb gh gr M (S (7 * st + bt)).1 r pv vN vB tv (S (7 * st + bt)).2 wr ∧ (most = 0 ∨ (S (7 * st + bt)).1.nodes.length ≤ most + 2)) (fun _ cv _ => 7 - (intOf cv).toNat)
      case atStart => exact ⟨0, _, _, _, Nat.zero_le _, rfl, HOF.out, HFI.out⟩
      case round =>
        clear HOF HFI
        obtain ⟨bt, r1, vN1, vB1, hbt, rfl, hof, hfit⟩ := hrel
        obtain ⟨at2, ct2, et2⟩ := body_val hof.told
        subst et2
        have HOF := hid hof
        have HFI := hid hfit
        have hbtI : (bt : Int) ≤ 7 := by omega
        clear hof hfit
        by_cases hlt2 : bt < 7
        · obtain ⟨sok, slen, sbig⟩ := HSO.out (7 * st + bt)
          have HSU := hid (HSS.out (7 * st + bt))
          have hc1 : (7 * st + bt) / 7 = st := by omega
          have hc2 : (7 * st + bt) % 7 = bt := by omega
          rw [hc1, hc2] at HSU
          have hbig : 7 * st + bt + 1 ≤ 70 := by omega
          have hbM : (7 * st + bt) * M ≤ 70 * 4096 := Nat.mul_le_mul (by omega) hM4
          obtain ⟨C, hC⟩ : ∃ C, S (7 * st + bt) = C := ⟨_, rfl⟩
          have HCE := hid hC
          rw [hC] at HOF sok slen sbig HSU HFI ⊢
          have hlen2 : C.1.nodes.length + M ≤ 400000 := by omega
          have hmono := HSM.out (7 * st + bt + 1) (by omega)
          have HMN := hid hmono
          have SOK := hid sok
          have HTL := hid slen
          have hClen : C.2.length ≤ 70 := by omega
          clear sok slen sbig hC hmono
          go_wp2_with (go_at_call 39; refine (lay_any HOF.out.mm HR2.out hM4 hk (fun i j => Dg.told_lt OK.out bits k i j) (fun i => Dg.told_len p bits k i) st bt hlt hlt2).mono ?_; rintro e w5 ⟨rfl, m5, f5⟩; have HOF5 := hid (HOF.out.lay m5 f5); clear m5 f5; refine Hid.out ?_)
          refine hid ?_
          go_wp2_with (go_at_call 40; refine (fold_any HOF5.out.mm SOK.out (fun j => Nat.lt_of_lt_of_le (Dg.layR_lt _ _ _ j) SOK.out.two) hM4 p.sec rfl hs3 HPS.out hlen2 bits HPB.out HMB.out hbl HBD.out).mono ?_; rintro e w6 ⟨rfl, vN6, vB6, m6, f6⟩; have HOF6 := hid (HOF5.out.fold m6 f6); clear m6 f6; refine Hid.out ?_)
          refine hid ?_
          obtain ⟨Y, hY⟩ : ∃ Y, Dg.levs p.sec M bits C.1 (Dg.layR (Dg.told p bits k) st bt) M bits.length = Y := ⟨_, rfl⟩
          rw [hY] at HOF6 HSU ⊢
          rw [HSU.out] at HMN
          clear hY HOF HOF5
          obtain ⟨aN, cN, eN⟩ := body_val HOF6.out.mm.nodes
          subst eN
          have hYl : Y.1.nodes.length ≤ 400000 := by
            have q1 := (HSO.out (7 * st + bt + 1)).2.2
            rw [HSU.out] at q1
            have q2 : (7 * st + bt + 1) * M ≤ 70 * 4096 := Nat.mul_le_mul hbig hM4
            have q3 : Y.1.nodes.length ≤ 2 + (7 * st + bt + 1) * M := q1
            omega
          obtain ⟨x, hx⟩ : ∃ x, Y.2 0 = x := ⟨_, rfl⟩
          rw [hx] at HSU ⊢
          clear hx
          have z6 := HOF6.out.mm.bel.size
          go_wp2_with (at_builtin; refine wpList_append_lies _ rfl _ _ 24 rfl w2.heap.size 3 t0 _ 1 8 Tryz.underlying24 ht0 hz0q hz1 hz2 rfl (by omega) _ C.2.length (C.2.map fun (n : Nat) => .int .i64 n) rfl (HOF6.out.told.alloc _) ⟨w6.heap.size, 0, none⟩ 1 1 [.int .i64 x] rfl rfl (cell_one_new _ _ _) (by simp [Value.oneCell']) (by omega) (by unfold maxLen; omega) (by omega) (by simp; omega) (w6.heap.size + 1) (by simp) ?_; intro g4 cap4 w7 hown4 hgrow4 hat4 hlt4; have HOF7 := hid (HOF6.out.push hown4 hgrow4 hat4); clear hown4 hgrow4 hat4; refine Hid.out ?_)
          refine hid ?_
          have c5 := HOF7.out.mm.c5
          have hYI : (Y.1.nodes.length : Int) ≤ 400000 := by omega
          have hY2 : 2 ≤ Y.1.nodes.length := by have := (HSO.out (7 * st + bt + 1)).1.two; rw [HSU.out] at this; exact this
          have hY2I : 2 ≤ (Y.1.nodes.length : Int) := by omega
          have HB7 := hid (HB02.out.trans (HOF7.out.mm.bel.mono (by omega)))
          by_cases hm0 : most = 0
          · have HFT := hid hm0
            have hm0I : ((most : Int) != 0) = false := by simp; omega
            clear hmI hm0
            go_wp2_with fail
            go_roundw
            case rel => exact ⟨bt + 1, _, _, _, by omega, by go_num, by rw [← Nat.add_assoc, HSU.out]; exact HOF7.out, .inl HFT.out⟩
            case measure => simp [intOf]; omega
          · have hm0I : ((most : Int) != 0) = true := by simp; omega
            by_cases hbg : most + 2 < Y.1.nodes.length
            · have hbgI : (most : Int) < (Y.1.nodes.length : Int) - 2 := by omega
              have r7 := nil_row (HRX.out w7 HOF7.out.mm.bel)
              have g0 := r7.cell (i := 0) (by omega)
              have g1 := r7.cell (i := 1) (by omega)
              have gf0 := r7.frozen 0
              have gf1 := r7.frozen 1
              have HNF := hid (show ¬ Dg.Fits p k most from fun c => by
                rcases c with c | c
                · exact hm0 c
                · rw [HSD.out] at c
                  have := HMN.out
                  omega)
              clear r7
              go_wp2_with fail
              refine bodyPost_ret (v := .tuple #[.agg #[.slice none 0 0, .slice none 0 0], .bool false]) (by simp [results, Tryz.results18, go_sem, g0, g1]) rfl ⟨?_, fun c => absurd c HNF.out, fun _ => rfl⟩
              exact (HB7.out.setCell (p := ⟨w.heap.size + 1, 0, none⟩) (by show w.heap.size ≤ w.heap.size + 1; omega) _).setCell (p := ⟨w.heap.size + 1, 1, none⟩) (by show w.heap.size ≤ w.heap.size + 1; omega) _
            · have hbgI : ¬ (most : Int) < (Y.1.nodes.length : Int) - 2 := by omega
              have HFT := hid (show Y.1.nodes.length ≤ most + 2 by omega)
              clear hbg
              go_wp2_with fail
              go_roundw
              case rel => exact ⟨bt + 1, _, _, _, by omega, by go_num, by rw [← Nat.add_assoc, HSU.out]; exact HOF7.out, .inr (by rw [← Nat.add_assoc, HSU.out]; exact HFT.out)⟩
              case measure => simp [intOf]; omega
        · have hb7 : bt = 7 := by omega
          subst hb7
          go_wp2_with fail
          go_roundw
          case rel => exact ⟨st + 1, _, _, _, by omega, by go_num, by rw [Nat.mul_add]; exact HOF.out, by rw [Nat.mul_add]; exact HFI.out⟩
          case measure => simp [intOf]; omega
    · have HKE := hid (show k = st by omega)
      obtain ⟨aN, cN, eN⟩ := body_val hof.mm.nodes
      subst eN
      have c5 := hof.mm.c5
      have r7 := nil_row (HRX.out wr hof.mm.bel)
      have g0 := r7.cell (i := 0) (by omega)
      have g1 := r7.cell (i := 1) (by omega)
      have gf0 := r7.frozen 0
      have gf1 := r7.frozen 1
      clear hof hfit r7
      go_wp2_with fail
      have FR : Frm 0 (fun q => q = w.heap.size + 1) wr ((wr.setCell ⟨w.heap.size + 1, 0, none⟩ (.slice aN (S (7 * st)).1.nodes.length cN)).setCell ⟨w.heap.size + 1, 1, none⟩ (.slice at1 (S (7 * st)).2.length ct1)) := Frm.setCell (p := ⟨w.heap.size + 1, 1, none⟩) (Frm.setCell (p := ⟨w.heap.size + 1, 0, none⟩) (Frm.refl 0 (fun q => q = w.heap.size + 1) wr) (Nat.zero_le _) rfl _) (Nat.zero_le _) rfl _
      refine bodyPost_ret (v := .tuple #[.agg #[.slice aN (S (7 * st)).1.nodes.length cN, .slice at1 (S (7 * st)).2.length ct1], .bool true]) (by simp [results, Tryz.results18, go_sem, g0, g1]) rfl ⟨?_, fun _ => ⟨_, _, rfl, ?_, ?_⟩, fun c => ?_⟩
      · exact ((HB02.out.trans (HOF.out.mm.bel.mono (by omega))).setCell (p := ⟨w.heap.size + 1, 0, none⟩) (by show w.heap.size ≤ w.heap.size + 1; omega) _).setCell (p := ⟨w.heap.size + 1, 1, none⟩) (by show w.heap.size ≤ w.heap.size + 1; omega) _
      · rw [HSD.out, HKE.out]
        exact ownsRow_low (ownsRow_blk HOF.out.mm.nodes (fun q e => FR.keep q (HOF.out.mm.nodes.lt q e).2 (fun e2 => by have := (HOF.out.mm.nodes.lt q e).1; have e2 : q = w.heap.size + 1 := e2; omega))) (by omega)
      · rw [HSD.out, HKE.out]
        exact ownsRow_low (ownsRow_blk HOF.out.told (fun q e => FR.keep q (HOF.out.told.lt q e).2 (fun e2 => by have := (HOF.out.told.lt q e).1; have e2 : q = w.heap.size + 1 := e2; omega))) (by omega)
      · exfalso
        refine c ?_
        unfold Dg.Fits
        rw [HSD.out, HKE.out]
        exact HFI.out
end Go.Proofs.YtgddmpmcnjlcjabGreatDoor
namespace Go.Proofs.YtgddmpmcnjlcjabGreatDoor
open Go.RowKit Go.Shelf
set_option linter.unusedVariables false
shelf_lay LaysM.n176 Nm 176 at Tryz as Tryz.laysAI
theorem appendInt_any (B n : Nat) (i : Int) (h0 : -9223372036854775808 ≤ i) (h1 : i ≤ 9223372036854775807) (sv : Value) (xs : List Value) (w : World) (hown : w.ownsRow B 5 1 sv n xs) (hBw : B ≤ w.heap.size) (hlim : n + 21 ≤ 140737488355328)
    (htab : Lib.TabBelow Tryz.prog B w "internal/strconv.uint64pow10" .u64 Lib.pow10Tab) :
    Calls Tryz.prog 102 #[sv, .int .i64 i, .int .i64 10] w fun e w' => ∃ v', e = .returned v' ∧ w'.ownsRow B 5 1 v' (n + (Lib.itoa i).length) (xs ++ Lib.byteCells (Lib.itoa i)) ∧ RowKit.Below B w w' ∧ Lib.OthersKept 5 none w w' := Any.strconv_AppendInt_10 Tryz.laysAI B n i h0 h1 sv xs w hown hBw hlim htab
end Go.Proofs.YtgddmpmcnjlcjabGreatDoor
namespace Go.Proofs.YtgddmpmcnjlcjabGreatDoor
open Go.RowKit
set_option linter.unusedVariables false
theorem Tryz.infoByte : (Tryz.prog.info? 5).map (fun i => (i.zero, i.size, i.bytes)) = some (some (.int .u8 0), 1, 1) := by kernel_rfl
def wrc (vars ct : Nat) (vt : Value) (i : Nat) : Value := if i = 0 then .int .i64 vars else if i = 1 then .int .i64 ct else vt
structure WrAt (B wb : Nat) (vars ct : Nat) (bs : List UInt8) (vt : Value) (w : World) : Prop where
  row : w.rowIs wb 113 3 (wrc vars ct vt)
  cb : ct ≤ bs.length
  own : w.ownsRow B 5 1 vt bs.length (Lib.byteCells bs)
  hb : B ≤ wb
  ne : vt.ownBlock ≠ some wb
abbrev WFr (B wb : Nat) (w w' : World) : Prop := Below B w w' ∧ Lib.OthersKept 5 (some wb) w w'
theorem row_kept {w w' : World} {b : Nat} {t e : TypeId} {n : Nat} {f : Nat → Value} {bo : Option Nat} (h : w.rowIs b t n f) (hk : Lib.OthersKept e bo w w') (hb : some b ≠ bo) (ht : t ≠ e) : w'.rowIs b t n f := by
  obtain ⟨cs, hg, hs, hc⟩ := h
  exact ⟨cs, hk b _ hg hb (fun c fz e => ht (by cases e; rfl)), hs, hc⟩
theorem own_kept {w w' : World} {base : Nat} {t e : TypeId} {sz n : Nat} {v : Value} {xs : List Value} {bo : Option Nat} (h : w.ownsRow base t sz v n xs) (hk : Lib.OthersKept e bo w w') (hb : ∀ g, v.ownBlock = some g → some g ≠ bo) (ht : t ≠ e) : w'.ownsRow base t sz v n xs := by
  refine ⟨h.1, ?_⟩
  rcases h.2 with hn | ⟨g, cap, cur, rfl, hb', hgg, rest⟩
  · exact .inl hn
  · exact .inr ⟨g, cap, cur, rfl, hb', hk g _ hgg (hb g rfl) (fun c fz e => ht (by cases e; rfl)), rest⟩
theorem own_not_row {w : World} {base b n m sz : Nat} {t e : TypeId} {v : Value} {xs : List Value} {f : Nat → Value} (h : w.ownsRow base e sz v n xs) (hr : w.rowIs b t m f) (ht : t ≠ e) : v.ownBlock ≠ some b := by
  intro hv
  obtain ⟨cs, hg, -⟩ := hr
  rcases h.2 with ⟨e1, _⟩ | ⟨g, cap, cur, rfl, _, hgg, _⟩
  · rw [e1] at hv; simp [Value.ownBlock] at hv
  · have e1 : g = b := by simpa [Value.ownBlock] using hv
    subst e1
    rw [hg] at hgg
    cases hgg
    exact ht rfl
theorem own_bytes {w : World} {base n sz : Nat} {e : TypeId} {v : Value} {xs : List Value} (h : w.ownsRow base e sz v n xs) {g : Nat} (hv : v.ownBlock = some g) : ∃ c fz, w.heap[g]? = some (.cells c e fz) := by
  rcases h.2 with ⟨e1, _⟩ | ⟨g', cap, cur, rfl, _, hgg, _⟩
  · rw [e1] at hv; simp [Value.ownBlock] at hv
  · have e1 : g' = g := by simpa [Value.ownBlock] using hv
    subst e1
    exact ⟨_, _, hgg⟩
def litB (l : Int) : List UInt8 := if l = 0 then [] else Lib.itoa l ++ [32]
section
variable {B wb vars ct : Nat} {bs : List UInt8} {vt : Value} {w : World}
theorem WrAt.txt (h : WrAt B wb vars ct bs vt w) (u : Value) {bs' : List UInt8} {w' : World} (hr : w'.rowIs wb 113 3 (wrc vars ct vt)) (ho : w'.ownsRow B 5 1 u bs'.length (Lib.byteCells bs')) (hne : u.ownBlock ≠ some wb) (hc : bs.length ≤ bs'.length) : WrAt B wb vars ct bs' u (w'.setCell ⟨wb, 2, none⟩ u) :=
  ⟨(hr.set 2 u).congr (fun i hi => by
      match i, hi with
      | 0, _ => rfl
      | 1, _ => rfl
      | 2, _ => rfl
      | n + 3, h => omega), Nat.le_trans h.cb hc, ownsRow_setCell ho hne u, h.hb, hne⟩
theorem WrAt.cnt (h : WrAt B wb vars ct bs vt w) (c : Nat) (hc : c ≤ bs.length) : WrAt B wb vars c bs vt (w.setCell ⟨wb, 1, none⟩ (.int .i64 c)) :=
  ⟨(h.row.set 1 (.int .i64 c)).congr (fun i hi => by
      match i, hi with
      | 0, _ => rfl
      | 1, _ => rfl
      | 2, _ => rfl
      | n + 3, h => omega), hc, ownsRow_setCell h.own h.ne _, h.hb, h.ne⟩
theorem WrAt.var (h : WrAt B wb vars ct bs vt w) (c : Nat) : WrAt B wb c ct bs vt (w.setCell ⟨wb, 0, none⟩ (.int .i64 c)) :=
  ⟨(h.row.set 0 (.int .i64 c)).congr (fun i hi => by
      match i, hi with
      | 0, _ => rfl
      | 1, _ => rfl
      | 2, _ => rfl
      | n + 3, h => omega), h.cb, ownsRow_setCell h.own h.ne _, h.hb, h.ne⟩
theorem WrAt.c0 (h : WrAt B wb vars ct bs vt w) : w.cell? ⟨wb, 0, none⟩ = some (.int .i64 vars) := h.row.cell (i := 0) (by omega)
theorem WrAt.c1 (h : WrAt B wb vars ct bs vt w) : w.cell? ⟨wb, 1, none⟩ = some (.int .i64 ct) := h.row.cell (i := 1) (by omega)
theorem WrAt.c2 (h : WrAt B wb vars ct bs vt w) : w.cell? ⟨wb, 2, none⟩ = some vt := h.row.cell (i := 2) (by omega)
set_option maxRecDepth 100000 in
set_option maxHeartbeats 1000000 in
theorem literal_zero (h : WrAt B wb vars ct bs vt w) : Calls Tryz.prog 81 #[.pointer (some ⟨wb, 0, none⟩), .int .i64 0] w fun e w' => e = .returned (.tuple #[]) ∧ w' = w := by
  go_enter Tryz.func81, Tryz.ntmps81
  go_wp2_with fail
  exact bodyPost_ret (v := .tuple #[]) (by simp [results, Tryz.results81, go_sem]) rfl ⟨rfl, rfl⟩
set_option maxRecDepth 100000 in
set_option maxHeartbeats 1000000 in
theorem literal_some (h : WrAt B wb vars ct bs vt w) (hBw : B ≤ w.heap.size) (l : Int) (h0 : l ≠ 0) (hl0 : -9223372036854775808 ≤ l) (hl1 : l ≤ 9223372036854775807) (hlim : bs.length ≤ 1000000000) (htab : Lib.TabBelow Tryz.prog B w "internal/strconv.uint64pow10" .u64 Lib.pow10Tab) :
    Calls Tryz.prog 81 #[.pointer (some ⟨wb, 0, none⟩), .int .i64 l] w fun e w' => e = .returned (.tuple #[]) ∧ ∃ vt', WrAt B wb vars ct (bs ++ (Lib.itoa l ++ [32])) vt' w' ∧ WFr B wb w w' := by
  obtain ⟨t0, ht0, hz0, hz1, hz2⟩ := info_parts Tryz.infoByte
  obtain ⟨av, cv, ev⟩ := body_val h.own
  subst ev
  have H := hid h
  have HT := hid htab
  have r1 := h.c2
  have f1 := h.row.frozen 2
  have hrl := h.row.lt
  have hne : (l == 0) = false := by simpa using h0
  have lb := Lib.itoa_length_le l hl0 hl1
  clear h htab
  go_enter Tryz.func81, Tryz.ntmps81
  go_wp2_with (go_at_call 102; refine (appendInt_any B bs.length l hl0 hl1 _ _ _ H.out.own hBw (by omega) HT.out).mono ?_; rintro e w1 ⟨v1, he, ho1, hb1, hk1⟩; obtain ⟨a1, c1, e1⟩ := body_val ho1; subst e1; subst he; have HO1 := hid ho1; have HB1 := hid hb1; have HK1 := hid hk1; have z1 := hb1.size; have R1 := hid (row_kept H.out.row hk1 (by simp) (by decide)); have q1 := R1.out.cell (i := 2) (by omega); have qf := R1.out.frozen 2; clear ho1 hb1 hk1; refine Hid.out ?_)
  refine hid ?_
  rw [show wrc vars ct (.slice av bs.length cv) 2 = .slice av bs.length cv from rfl] at q1
  have hn1 : (Value.slice a1 (bs.length + (Lib.itoa l).length) c1).ownBlock ≠ some wb := own_not_row HO1.out R1.out (by decide)
  have W1 := hid (H.out.txt (.slice a1 (bs.length + (Lib.itoa l).length) c1) (bs' := bs ++ Lib.itoa l) R1.out (by rw [List.length_append, Lib.byteCells_append]; exact HO1.out) hn1 (by rw [List.length_append]; omega))
  have HN1 := hid hn1
  have r2 := W1.out.c2
  have f2 := W1.out.row.frozen 2
  have l2 := W1.out.row.lt
  obtain ⟨m, hm⟩ : ∃ m, bs.length + (Lib.itoa l).length = m := ⟨_, rfl⟩
  have hmb : m ≤ 1000000021 := by omega
  obtain ⟨T, hT⟩ : ∃ T, bs ++ Lib.itoa l = T := ⟨_, rfl⟩
  have hTm : T.length = m := by rw [← hT, List.length_append]; exact hm
  have HTT := hid hT
  have HTM := hid hTm
  rw [hm, hT] at W1
  rw [hm] at r2 f2 l2 HN1 ⊢
  have FR1 : Hid (WFr B wb w (w1.setCell ⟨wb, 2, none⟩ (.slice a1 m c1))) := ⟨HB1.out.setCell (p := ⟨wb, 2, none⟩) H.out.hb _, Lib.OthersKept.setCell (fun k o h1 h2 h3 => HK1.out k o h1 (by simp) h3) ⟨wb, 2, none⟩ rfl _⟩
  have z2 : B ≤ (w1.setCell ⟨wb, 2, none⟩ (.slice a1 m c1)).heap.size := by simp; omega
  clear hT hTm hm hn1
  go_wp2_with (at_builtin; refine wpList_append_lies _ rfl _ _ 111 rfl B 5 t0 _ 1 1 Tryz.underlying111 ht0 hz0 hz1 hz2 rfl (by omega) _ m (Lib.byteCells T) rfl (by have h := W1.out.own.alloc (.cells #[.int .u8 32] 5); rw [HTM.out] at h; exact h) ⟨w1.heap.size, 0, none⟩ 1 1 [.int .u8 32] rfl rfl (by have h := cell_one_new (w1.setCell ⟨wb, 2, none⟩ (.slice a1 m c1)) (.int .u8 32) 5; simpa using h) (by simp [Value.oneCell']) (by omega) (by unfold maxLen; omega) (by omega) (by simp; omega) (w1.heap.size + 1) (by simp) ?_; intro g4 cap4 w4 hown4 hgrow4 hat4 hlt4; have R4 := hid (rowIs_grown (W1.out.row.alloc _) hgrow4 HN1.out); have q4 := R4.out.cell (i := 2) (by omega); have qf4 := R4.out.frozen 2; have HO4 := hid hown4; have HG4 := hid hgrow4; clear hown4 hgrow4 hat4; refine Hid.out ?_)
  refine hid ?_
  rw [show ∀ u, wrc vars ct u 2 = u from fun _ => rfl] at q4
  go_wp2_with fail
  go_end0
  have hn4 : (Value.slice (some ⟨g4, 0, none⟩) (m + 1) cap4).ownBlock ≠ some wb := own_not_row HO4.out R4.out (by decide)
  have eb : bs ++ (Lib.itoa l ++ [32]) = T ++ [32] := by rw [← HTT.out, List.append_assoc]
  refine ⟨rfl, .slice (some ⟨g4, 0, none⟩) (m + 1) cap4, ?_, ?_, ?_⟩
  · rw [eb]
    refine W1.out.txt _ R4.out ?_ hn4 (by rw [List.length_append]; omega)
    rw [List.length_append, HTM.out, Lib.byteCells_append]
    exact HO4.out
  · exact (((FR1.out.1.alloc z2 _).grown HG4.out (by simp; omega) (fun q hq => (W1.out.own.lt q hq).1)).setCell (p := ⟨wb, 2, none⟩) H.out.hb _)
  · exact Lib.OthersKept.setCell (Lib.OthersKept.grown (FR1.out.2.alloc _) HG4.out (fun g hg => own_bytes (W1.out.own.alloc _) hg)) ⟨wb, 2, none⟩ rfl _
end
end Go.Proofs.YtgddmpmcnjlcjabGreatDoor
