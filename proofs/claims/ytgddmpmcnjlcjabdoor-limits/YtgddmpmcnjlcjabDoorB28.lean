import Derived.Test.YtgddmpmcnjlcjabDoorB27
import Derived.Test.YtgddmpmcnjlcjabDoorB24
namespace Go.Proofs.YtgddmpmcnjlcjabDoor
open Go.RowKit
set_option linter.unusedVariables false
namespace Cl
def prf (bits : List Bt) (ct : Nat) : Nat × List UInt8 :=
  let x := prfN bits (ct + 1) bits.length
  (x.1 - (ct + 1) + 1, x.2.1 ++ lineB x.1 [] (x.2.2 ++ [(ct : Int)]))
end Cl
namespace Cl
theorem bt_flat_len (l : List Bt) : (l.flatMap Bt.cells).length = l.length * 7 := by
  induction l with
  | nil => rfl
  | cons a l ih => rw [List.flatMap_cons, List.length_append, ih, List.length_cons]; simp [Bt.cells]; omega
theorem bt_flat_get (l : List Bt) : ∀ (i j : Nat), i < l.length → j < 7 → (l.flatMap Bt.cells)[i * 7 + j]? = (l.getD i {}).cells[j]? := by
  induction l with
  | nil => intro i j h; exact absurd h (by simp)
  | cons a l ih =>
    intro i j h hj
    rw [List.flatMap_cons]
    cases i with
    | zero => rw [List.getElem?_append_left (by simp [Bt.cells]; omega)]; simp
    | succ i =>
      rw [List.getElem?_append_right (by simp [Bt.cells]; omega), show a.cells.length = 7 from rfl, show (i + 1) * 7 + j - 7 = i * 7 + j by omega, ih i j (by simpa using h) hj]
      simp
end Cl
theorem bt_at {w : World} {base : Nat} {l : List Cl.Bt} {g cap : Nat} (h : w.ownsRow base 111 7 (.slice (some ⟨g, 0, none⟩) l.length cap) l.length (l.flatMap Cl.Bt.cells)) (i : Nat) (hi : i < l.length) (j : Nat) (hj : j < 7) : w.cell? ⟨g, i * 7 + j, none⟩ = (l.getD i {}).cells[j]? := (h.cellAt (i * 7 + j) (by omega)).trans (Cl.bt_flat_get _ i j hi hj)
def frc (vars ct : Nat) (txt : ByteArray) (vb : Value) (i : Nat) : Value := if i = 0 then .int .i64 vars else if i = 1 then .int .i64 ct else if i = 2 then .string txt else vb
def prc (a b : Value) (i : Nat) : Value := if i = 0 then a else b
structure PfAt (w : World) (vars ct : Nat) (txt : ByteArray) (vb : Value) (x : Nat × List UInt8 × List Int) (vt hv : Value) (wr : World) : Prop where
  wp : WpAt w.heap.size (w.heap.size + 2) (x.1 - (ct + 1)) x.1 x.2.1 vt wr
  hin : wr.ownsRow w.heap.size 3 1 hv x.2.2.length (x.2.2.map fun n => .int .i64 n)
  fr : wr.rowIs w.heap.size 54 4 (frc vars ct txt vb)
  pr : wr.rowIs (w.heap.size + 1) 62 2 (prc (.int .i64 0) (.string ⟨#[]⟩))
  bel : Below w.heap.size w wr
section
variable {w wr : World} {vars ct : Nat} {txt : ByteArray} {vb vt hv : Value} {x : Nat × List UInt8 × List Int}
theorem PfAt.alloc (h : PfAt w vars ct txt vb x vt hv wr) (o : Obj) : PfAt w vars ct txt vb x vt hv (wr.alloc o) := ⟨h.wp.alloc o, h.hin.alloc o, h.fr.alloc o, h.pr.alloc o, h.bel.alloc h.bel.size o⟩
theorem PfAt.wrote (h : PfAt w vars ct txt vb x vt hv wr) {w' : World} {vt' : Value} {n : Nat} {b : List UInt8} (hx : ct + 1 ≤ x.1) (hw : WpAt w.heap.size (w.heap.size + 2) (x.1 - (ct + 1) + n) (x.1 + n) (x.2.1 ++ b) vt' w') (hf : WFr w.heap.size (w.heap.size + 2) wr w') : PfAt w vars ct txt vb (x.1 + n, x.2.1 ++ b, x.2.2) vt' hv w' :=
  ⟨by show WpAt _ _ (x.1 + n - (ct + 1)) _ _ _ _; rw [show x.1 + n - (ct + 1) = x.1 - (ct + 1) + n by omega]; exact hw, own_kept h.hin hf.2 (fun g e => by intro e2; cases e2; exact own_not_row h.hin h.wp.row (by decide) e) (by decide), row_kept h.fr hf.2 (by simp) (by decide), row_kept h.pr hf.2 (by simp) (by decide), h.bel.trans hf.1⟩
theorem PfAt.push (h : PfAt w vars ct txt vb x vt hv wr) {o : Obj} {w' : World} {g' cap' : Nat} {n : Int} (hown : w'.ownsRow w.heap.size 3 1 (.slice (some ⟨g', 0, none⟩) (x.2.2.length + 1) cap') (x.2.2.length + 1) ((x.2.2.map fun n => .int .i64 n) ++ [.int .i64 n])) (hg : (wr.alloc o).grownBy w' hv.ownBlock) : PfAt w vars ct txt vb (x.1, x.2.1, x.2.2 ++ [n]) vt (.slice (some ⟨g', 0, none⟩) (x.2.2.length + 1) cap') w' := by
  have h2 := h.alloc o
  refine ⟨⟨rowIs_grown h2.wp.row hg (own_not_row h2.hin h2.wp.row (by decide)), h2.wp.cb, ownsRow_blk h2.wp.own (fun k e => hg.block k (h2.wp.own.lt k e).2 (fun e2 => ?_)), h2.wp.hb, h2.wp.ne⟩, ?_, rowIs_grown h2.fr hg (own_not_row h2.hin h2.fr (by decide)), rowIs_grown h2.pr hg (own_not_row h2.hin h2.pr (by decide)), h2.bel.grown hg h2.bel.size (fun k e => (h.hin.lt k e).1)⟩
  · obtain ⟨c1, f1, a1⟩ := own_bytes h2.wp.own e
    obtain ⟨c2, f2, a2⟩ := own_bytes h2.hin e2.symm
    rw [a1] at a2
    exact absurd (show 5 = 3 by cases a2) (by decide)
  · show World.ownsRow _ _ _ _ _ (x.2.2 ++ [n]).length ((x.2.2 ++ [n]).map fun n => .int .i64 n)
    rw [show (x.2.2 ++ [n]).length = x.2.2.length + 1 by simp, List.map_append]
    exact hown
end
section
variable {w : World}
set_option maxRecDepth 100000 in
set_option maxHeartbeats 4000000 in
theorem pw_all (vars ct : Nat) (txt : ByteArray) (bits : List Cl.Bt) (vb : Value) (hct : ct ≤ 900000000) (hbl : bits.length ≤ 70) (hbo : ∀ i, (bits.getD i {}).Ok) (hb : w.ownsRow 0 111 7 vb bits.length (bits.flatMap Cl.Bt.cells)) (most : Nat) (hm : most ≤ 1048576) (htab : TabB w.heap.size w) :
    Calls Tryd.prog 21 #[.agg #[.int .i64 vars, .int .i64 ct, .string txt, vb], .int .i64 most] w fun e w' => Below w.heap.size w w' ∧
      (most = 0 ∨ (Cl.prf bits ct).1 ≤ most → e = .returned (.tuple #[.agg #[.int .i64 (Cl.prf bits ct).1, .string ⟨(Cl.prf bits ct).2.toArray⟩], .bool true])) ∧
      (most ≠ 0 → most < (Cl.prf bits ct).1 → e = .returned (.tuple #[.agg #[.int .i64 0, .string ⟨#[]⟩], .bool false])) := by
  obtain ⟨t0, ht0, hz0, hz1, hz2⟩ := info_parts Tryd.infoInt
  obtain ⟨ab, cb, eb⟩ := body_val hb
  subst eb
  have HB := hid hb
  have HT := hid htab
  have HBO := hid hbo
  have HPO := hid (show ∀ i, i ≤ bits.length → _ from fun i hi => Cl.prfN_ok bits (ct + 1) hbo i (by omega))
  have HP0 := hid (show Cl.prfN bits (ct + 1) 0 = (ct + 1, [], []) from rfl)
  have HPS := hid (show ∀ i, Cl.prfN bits (ct + 1) (i + 1) = ((Cl.prfN bits (ct + 1) i).1 + Cl.eqL (bits.getD i {}), (Cl.prfN bits (ct + 1) i).2.1 ++ Cl.eqB (Cl.prfN bits (ct + 1) i).1 (bits.getD i {}), (Cl.prfN bits (ct + 1) i).2.2 ++ [(Cl.eqR (Cl.prfN bits (ct + 1) i).1 (bits.getD i {}) : Int)]) from fun _ => rfl)
  have HPF := hid (show Cl.prf bits ct = ((Cl.prfN bits (ct + 1) bits.length).1 - (ct + 1) + 1, (Cl.prfN bits (ct + 1) bits.length).2.1 ++ lineB (Cl.prfN bits (ct + 1) bits.length).1 [] ((Cl.prfN bits (ct + 1) bits.length).2.2 ++ [(ct : Int)])) from rfl)
  generalize Cl.prf bits ct = PF at HPF
  generalize Cl.prfN bits (ct + 1) = P at HPO HP0 HPS HPF
  have hctI : (ct : Int) ≤ 900000000 := by omega
  have hblI : (bits.length : Int) ≤ 70 := by omega
  have hmI : (most : Int) ≤ 1048576 := by omega
  clear hb htab hbo
  go_enter Tryd.func21, Tryd.ntmps21
  go_wp2_with fail
  obtain ⟨W0, hW0⟩ : ∃ W0 : World, ((w.alloc (.cells #[.int .i64 vars, .int .i64 ct, .string txt, .slice ab bits.length cb] 54)).alloc (.cells #[.int .i64 0, .string ⟨#[]⟩] 62)).alloc (.cells #[.int .i64 0, .int .i64 ((ct : Int) + 1), .slice none 0 0] 120) = W0 := ⟨_, rfl⟩
  rw [hW0]
  have HI := hid (show PfAt w vars ct txt (.slice ab bits.length cb) (ct + 1, [], []) (.slice none 0 0) (.slice none 0 0) W0 by
    rw [← hW0]
    refine ⟨⟨?_, by simp, World.ownsRow_nil _ _ _ _, by omega, by simp [Value.ownBlock]⟩, World.ownsRow_nil _ _ _ _, ?_, ?_, ?_⟩
    · rw [show ct + 1 - (ct + 1) = 0 by omega]
      refine ⟨_, hp_new' _ _ _ (by simp), rfl, fun i hi => ?_⟩
      match i, hi with
      | 0, _ => rfl
      | 1, _ => rfl
      | 2, _ => rfl
      | n + 3, h => omega
    · refine ⟨_, hp_old' _ _ _ _ (hp_old' _ _ _ _ (hp_new' _ _ _ rfl)), rfl, fun i hi => ?_⟩
      match i, hi with
      | 0, _ => rfl
      | 1, _ => rfl
      | 2, _ => rfl
      | 3, _ => rfl
      | n + 4, h => omega
    · refine ⟨_, hp_old' _ _ _ _ (hp_new' _ _ _ (by simp)), rfl, fun i hi => ?_⟩
      match i, hi with
      | 0, _ => rfl
      | 1, _ => rfl
      | n + 2, h => omega
    · exact ((((Below.refl w.heap.size w).alloc (Nat.le_refl _) _).alloc (by simp) _).alloc (by simp; omega) _))
  clear hW0
  go_loopw [7, 18] (fun hv c wr => ∃ (i : Nat) (vt : Value), i ≤ bits.length ∧ c = .int .i64 i ∧ PfAt w vars ct txt (.slice ab bits.length cb) (P i) vt hv wr) (fun _ c _ => bits.length - (intOf c).toNat)
  case atStart => exact ⟨0, _, Nat.zero_le _, rfl, by rw [HP0.out]; exact HI.out⟩
  case round =>
    clear HI
    obtain ⟨i, vt, hi, rfl, hpf⟩ := hrel
    obtain ⟨o1, o2, o3, o4, o5⟩ := HPO.out i hi
    have hiI : (i : Int) ≤ 70 := by omega
    obtain ⟨ah, ch, eh⟩ := body_val hpf.hin
    subst eh
    by_cases hlt : i < bits.length
    · have HS := hid (HPS.out i)
      obtain ⟨X, hX⟩ : ∃ X, P i = X := ⟨_, rfl⟩
      rw [hX] at hpf o1 o2 o3 o4 HS ⊢
      have BO := hid (HBO.out i)
      obtain ⟨gb, cb', hvb, _, hgb⟩ := HB.out.form (by omega)
      cases hvb
      have bel := hpf.bel
      have OB := ownsRow_same HB.out bel.block
      have d0 := bt_at OB i hlt 0 (by omega)
      have d1 := bt_at OB i hlt 1 (by omega)
      have d2 := bt_at OB i hlt 2 (by omega)
      have d3 := bt_at OB i hlt 3 (by omega)
      have d4 := bt_at OB i hlt 4 (by omega)
      have d5 := bt_at OB i hlt 5 (by omega)
      have d6 := bt_at OB i hlt 6 (by omega)
      generalize bits.getD i {} = b at d0 d1 d2 d3 d4 d5 d6 HS BO
      replace d0 : wr.cell? ⟨gb, i * 7, none⟩ = some (.int .i64 b.node) := d0
      replace d1 : wr.cell? ⟨gb, i * 7 + 1, none⟩ = some (.int .i64 b.v1) := d1
      replace d2 : wr.cell? ⟨gb, i * 7 + 2, none⟩ = some (.int .i64 b.c1) := d2
      replace d3 : wr.cell? ⟨gb, i * 7 + 3, none⟩ = some (.int .i64 b.v2) := d3
      replace d4 : wr.cell? ⟨gb, i * 7 + 4, none⟩ = some (.int .i64 b.c2) := d4
      replace d5 : wr.cell? ⟨gb, i * 7 + 5, none⟩ = some (.int .i64 b.vd) := d5
      replace d6 : wr.cell? ⟨gb, i * 7 + 6, none⟩ = some (.int .i64 b.cd) := d6
      have HF := hid hpf
      have zr := bel.size
      have hlI : (i : Int) < (bits.length : Int) := by omega
      have HBA := hid (HF.out.alloc (.cells #[.int .i64 b.node, .int .i64 b.v1, .int .i64 b.c1, .int .i64 b.v2, .int .i64 b.c2, .int .i64 b.vd, .int .i64 b.cd] 111))
      have hxl : X.2.2.length ≤ 70 := by omega
      clear hpf bel OB hX o4 o5
      go_wp2_with (go_at_call 46; refine (eq_any HBA.out.wp (by simp; omega) b BO.out (by omega) (by omega) (HT.out.on HBA.out.bel)).mono ?_; rintro e w1 ⟨rfl, vt1, h1, f1⟩; have H1 := hid (HBA.out.wrote (by omega) h1 f1); clear h1 f1; refine Hid.out ?_)
      refine hid ?_
      have z1 := H1.out.bel.size
      go_wp2_with (first | (at_builtin; refine wpList_append_lies _ rfl _ _ 27 rfl w.heap.size 3 t0 _ 1 8 Tryd.underlying27 ht0 hz0 hz1 hz2 rfl (by omega) _ X.2.2.length (X.2.2.map fun n => .int .i64 n) rfl (H1.out.hin.alloc _) ⟨w1.heap.size, 0, none⟩ 1 1 [.int .i64 (Cl.eqR X.1 b)] rfl rfl (cell_one_new _ _ _) (by simp [Value.oneCell']) (by omega) (by unfold maxLen; omega) (by omega) (by simp; omega) (w1.heap.size + 1) (by simp) ?_; intro g4 cap4 w4 hown4 hgrow4 hat4 hlt4; have H4 := hid (H1.out.push hown4 hgrow4); clear hown4 hgrow4 hat4))
      go_roundw
      case rel => exact ⟨i + 1, vt1, by omega, by go_num, by rw [HS.out]; exact H4.out⟩
      case measure => simp [intOf]; omega
    · have hie : bits.length = i := by omega
      rw [hie] at HPF
      have HIE := hid hie
      obtain ⟨X, hX⟩ : ∃ X, P i = X := ⟨_, rfl⟩
      rw [hX] at hpf o1 o2 o3 o4 o5 HPF ⊢
      have HF := hid hpf
      have zr := hpf.bel.size
      have hxl : X.2.2.length ≤ 70 := by omega
      have HO5 := hid o5
      have f1 := hpf.fr.cell (i := 1) (by omega)
      rw [show frc vars ct txt (.slice ab bits.length cb) 1 = .int .i64 ct from rfl] at f1
      clear hpf hX o4 o5 hie
      go_wp2_with (first | (at_builtin; refine wpList_append_lies _ rfl _ _ 27 rfl w.heap.size 3 t0 _ 1 8 Tryd.underlying27 ht0 hz0 hz1 hz2 rfl (by omega) _ X.2.2.length (X.2.2.map fun n => .int .i64 n) rfl (HF.out.hin.alloc _) ⟨wr.heap.size, 0, none⟩ 1 1 [.int .i64 ct] rfl rfl (cell_one_new _ _ _) (by simp [Value.oneCell']) (by omega) (by unfold maxLen; omega) (by omega) (by simp; omega) (wr.heap.size + 1) (by simp) ?_; intro g4 cap4 w4 hown4 hgrow4 hat4 hlt4; have H4 := hid (HF.out.push hown4 hgrow4); clear hown4 hgrow4 hat4; refine Hid.out ?_))
      refine hid ?_
      have z4 := H4.out.bel.size
      have C := hid (line_any H4.out.wp (by omega) none (some ⟨g4, 0, none⟩) 0 cap4 [] (X.2.2 ++ [(ct : Int)]) (World.ownsRow_nil _ _ _ _) (ownsRow_low (by have h := H4.out.hin; rw [show (X.2.2 ++ [(ct : Int)]).length = X.2.2.length + 1 by simp]; simpa using h) (Nat.zero_le _)) (by omega) (fun i => by simp; exact ⟨by decide, by decide⟩) (lit_of (fun x hx => by
        rcases List.mem_append.1 hx with hx | hx
        · have := HO5.out x hx; unfold Lit64; omega
        · rw [List.mem_singleton.1 hx]; unfold Lit64; omega)) (by simp) (by rw [List.length_append]; simp; omega) (by show X.2.1.length ≤ 700000000; omega) (HT.out.on H4.out.bel))
      rw [show (X.2.2 ++ [(ct : Int)]).length = X.2.2.length + 1 by simp] at C
      go_wp2_with (go_at_call 47; refine C.out.mono ?_; rintro e w5 ⟨rfl, vt5, h5, f5⟩; have H5 := hid (H4.out.wrote (n := 1) (by show ct + 1 ≤ X.1; omega) h5 f5); clear h5 f5; refine Hid.out ?_)
      refine hid ?_
      obtain ⟨N, hN⟩ : ∃ N, X.1 + 1 - (ct + 1) = N := ⟨_, rfl⟩
      obtain ⟨T, hT⟩ : ∃ T, X.2.1 ++ lineB X.1 [] (X.2.2 ++ [(ct : Int)]) = T := ⟨_, rfl⟩
      have hP1 : PF.1 = N := by rw [HPF.out]; show X.1 - (ct + 1) + 1 = N; omega
      have hP2 : PF.2 = T := by rw [HPF.out]; exact hT
      have HP1 := hid hP1
      have HP2 := hid hP2
      have hwp := H5.out.wp
      dsimp only at hwp
      rw [hN, hT] at hwp
      have hTn : T ≠ [] := by
        rw [← hT]
        intro e
        have := congrArg List.length e
        rw [List.length_append] at this
        unfold lineB at this
        simp at this
      have HWP := hid hwp
      have hNb : N ≤ 1000 := by omega
      have hNI : (N : Int) ≤ 1000 := by omega
      obtain ⟨at5, ct5, et5⟩ := body_val hwp.own
      subst et5
      have c0 := hwp.c0
      have c2 := hwp.c2
      have hcv := conv_text hwp.own hTn
      have r0 := H5.out.pr.cell (i := 0) (by omega)
      have r1 := H5.out.pr.cell (i := 1) (by omega)
      have rf0 := H5.out.pr.frozen 0
      have rf1 := H5.out.pr.frozen 1
      have HB5 := hid H5.out.bel
      dsimp only [prc] at r0 r1
      clear hwp hN hT hP1 hP2 H5 H4 C HF hTn
      by_cases hm0 : most = 0
      · have hm0I : ((most : Int) != 0) = false := by simp; omega
        have HM := hid hm0
        clear hm0
        go_wp2_with fail
        refine bodyPost_ret (v := .tuple #[.agg #[.int .i64 N, .string ⟨T.toArray⟩], .bool true]) (by simp [results, Tryd.results21, go_sem, r0, r1]) rfl ⟨?_, fun _ => by rw [HP1.out, HP2.out], fun c => absurd HM.out c⟩
        exact (HB5.out.setCell (p := ⟨w.heap.size + 1, 0, none⟩) (by show w.heap.size ≤ w.heap.size + 1; omega) _).setCell (p := ⟨w.heap.size + 1, 1, none⟩) (by show w.heap.size ≤ w.heap.size + 1; omega) _
      · have hm0I : ((most : Int) != 0) = true := by simp; omega
        have HM := hid hm0
        clear hm0
        by_cases hbg : most < N
        · have hbgI : (most : Int) < (N : Int) := by omega
          go_wp2_with fail
          refine bodyPost_ret (v := .tuple #[.agg #[.int .i64 0, .string ⟨#[]⟩], .bool false]) (by simp [results, Tryd.results21, go_sem, r0, r1]) rfl ⟨?_, fun c => ?_, fun _ _ => rfl⟩
          · exact (HB5.out.setCell (p := ⟨w.heap.size + 1, 0, none⟩) (by show w.heap.size ≤ w.heap.size + 1; omega) _).setCell (p := ⟨w.heap.size + 1, 1, none⟩) (by show w.heap.size ≤ w.heap.size + 1; omega) _
          · exfalso
            rw [HP1.out] at c
            rcases c with c | c
            · exact HM.out c
            · omega
        · have hbgI : ¬ (most : Int) < (N : Int) := by omega
          have HBG := hid hbg
          clear hbg
          go_wp2_with fail
          refine bodyPost_ret (v := .tuple #[.agg #[.int .i64 N, .string ⟨T.toArray⟩], .bool true]) (by simp [results, Tryd.results21, go_sem, r0, r1]) rfl ⟨?_, fun _ => by rw [HP1.out, HP2.out], fun _ c => absurd (by rw [HP1.out] at c; exact c) HBG.out⟩
          exact (HB5.out.setCell (p := ⟨w.heap.size + 1, 0, none⟩) (by show w.heap.size ≤ w.heap.size + 1; omega) _).setCell (p := ⟨w.heap.size + 1, 1, none⟩) (by show w.heap.size ≤ w.heap.size + 1; omega) _
end
end Go.Proofs.YtgddmpmcnjlcjabDoor
