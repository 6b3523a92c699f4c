import Derived.Test.YtgddmpmcnjlcjaaK24
import Derived.Deep.QuietTactic
import Derived.BigQuiet
import Derived.Test.YtgddmpmcnjlcjaaK16
import Derived.Test.YtgddmpmcnjlcjaaK08
import Derived.Test.YtgddmpmcnjlcjaaK22
import Derived.Test.YtgddmpmcnjlcjaaK01
import Derived.Laws.CopyOwn
/- A program that was read: what it keeps to; what both sides tell. -/
namespace Go.Proofs.Ytgddmpmcnjlcjaa
open Go.RowKit
open Tm (TsOk DsOk Wd16)
set_option linter.unusedVariables false

theorem prog_ok {t : Lk.Wd} {ds : List Rf.Dc} {ts : List Rf.Tr} (h : Rf.read t = (some (ds, ts), 0)) (ht : t.length ≤ 600) : TsOk ds ts ∧ DsOk ds ∧ ds.length ≤ 1000 := by
  obtain ⟨s, hb, rfl⟩ := Tm.ref_read h
  have h1 := (Tm.blk_ok hb .nil (fun _ => rfl)).1
  have h2 := Tm.blk_names hb (fun d hd => by cases hd)
  have hne : 0 < (Lk.cut 10 t).length := by
    have := Lk.cut_ne 10 t
    cases hc : Lk.cut 10 t with
    | nil => exact absurd hc this
    | cons x xs => simp
  have h3 := (Rf.post_blk (Lk.cut 10 t) (Lk.cut 10 t).length 0 {} hne (Nat.zero_le _) (Nat.le_add_left _ _)).lt
  have h4 := (Rf.blk_shadow (Lk.cut 10 t) (Lk.cut 10 t).length 0 {} []).2
  rw [hb] at h4
  rw [← h4] at h3
  have h5 := (cut_len 10 t).1
  have h6 : s.ds.length + 0 ≤ 0 + s.at_ := h2.2
  have h7 : s.at_ < (Lk.cut 10 t).length := h3
  exact ⟨h1, h2.1, by omega⟩

theorem tells_eq {t : Lk.Wd} {ds : List Rf.Dc} {ts : List Rf.Tr} (h : (Lk.read t).2 = 0) (hr : Rf.read t = (some (ds, ts), 0)) (ins : List Nat) (hi : ins.length = (Lk.read t).1.secret.length) (k : Nat) : Mc.tells (pgOf t) (Mc.ini ins) k = tellL ds (Tm.start ds ts ins) k := by
  induction k with
  | zero => rfl
  | succ k ih => rw [Mc.tells_succ, tellL_succ, ih, Tm.num_read h hr ins hi]

theorem readS_pos (t : Lk.Wd) (h : (Rf.readS t).1 = false) : (Rf.readS t).2 ≠ 0 := by
  have hne : 0 < (Lk.cut 10 t).length := by
    have := Lk.cut_ne 10 t
    cases hc : Lk.cut 10 t with
    | nil => exact absurd hc this
    | cons x xs => simp
  unfold Rf.readS at h ⊢
  generalize Rf.blkS (Lk.cut 10 t) (Lk.cut 10 t).length 0 {} = o at h ⊢
  obtain ⟨b, os⟩ := o
  cases b with
  | false => simp
  | true =>
    dsimp only at h ⊢
    by_cases c : (Lk.cut 10 t).getD ((Lk.cut 10 t).length - 1) [] = []
    · rw [if_pos c] at h; cases h
    · rw [if_neg c]; show (Lk.cut 10 t).length ≠ 0; omega
theorem readS_zero (t : Lk.Wd) (h : (Rf.readS t).1 = true) : (Rf.readS t).2 = 0 := by
  unfold Rf.readS at h ⊢
  generalize Rf.blkS (Lk.cut 10 t) (Lk.cut 10 t).length 0 {} = o at h ⊢
  obtain ⟨b, os⟩ := o
  cases b with
  | false => cases h
  | true =>
    dsimp only at h ⊢
    by_cases c : (Lk.cut 10 t).getD ((Lk.cut 10 t).length - 1) [] = []
    · rw [if_pos c]
    · rw [if_neg c] at h; cases h

end Go.Proofs.Ytgddmpmcnjlcjaa

/- The reference's Secrets. -/
namespace Go.Proofs.Ytgddmpmcnjlcjaa
open Go.RowKit
set_option linter.unusedVariables false

theorem ints_own {w : World} {base : Nat} {v : Value} {l : List Nat} {n : Nat} (h : w.ownsRow base 3 1 v n (l.map fun (n : Nat) => .int .i64 n)) : w.ownsRow base 3 1 v (ints l).length ((ints l).map fun x => .int .i64 x) := by
  have hl : l.length = n := by have h1 := h.1; simpa using h1
  rw [ints_len, hl]
  unfold ints
  rw [List.map_map]
  exact h

theorem InAt.cast {w : World} {v : Value} {xs ys : List Int} (h : InAt w v xs) (e : xs = ys) : InAt w v ys := e ▸ h
theorem rep_later {w w' : World} {base P : Nat} {l : List DB} {vn vk vz vb : Value} (h : PRep w base P l vn vk vz vb) (hb : Below w.heap.size w w') : PRep w' base P l vn vk vz vb :=
  ⟨h.row.of_block (hb.block P h.lt), h.ge, ownsRow_blk h.nm (fun k e => hb.block k (h.nm.lt k e).2), ownsRow_blk h.kd (fun k e => hb.block k (h.kd.lt k e).2), ownsRow_blk h.sz (fun k e => hb.block k (h.sz.lt k e).2), h.np, h.kp, h.zp, h.nk, h.nz, h.kz⟩
theorem sub_later {w0 w w' : World} {v : Value} {ts : List Rf.Tr} (h : Sub w (NewB w0 w) v ts) (hb : Below w.heap.size w w') : Sub w' (NewB w0 w) v ts := h.move (fun k hk => ⟨hb.block k hk.2, hk⟩)

def secL (ds : List Rf.Dc) : List Bool := (ds.filter Tm.isIn).map fun d => d.kind == Rf.wSecret
theorem secL_take {ds : List Rf.Dc} {i : Nat} (h : i < ds.length) : secL (ds.take (i + 1)) = secL (ds.take i) ++ (if Tm.isIn ds[i] = true then [ds[i].kind == Rf.wSecret] else []) := by
  unfold secL
  rw [List.take_succ_eq_append_getElem h, List.filter_append, List.map_append]
  congr 1
  by_cases c : Tm.isIn ds[i] = true
  · rw [if_pos c]; simp [c]
  · rw [if_neg c]; simp [c]
theorem secL_len (ds : List Rf.Dc) : (secL ds).length = (ds.filter Tm.isIn).length := by simp [secL]

set_option maxRecDepth 100000 in
set_option maxHeartbeats 1000000 in
theorem secrets_run {w : World} {base P : Nat} {l : List DB} {vn vk vz vb : Value} (rep : PRep w base P l vn vk vz vb) (hl : l.length ≤ 1000) :
    Calls Try.prog 9 #[.pointer (some ⟨P, 0, none⟩)] w fun e w' => ∃ a c, e = .returned (.slice a (secL (dcs l)).length c) ∧ w'.ownsRow w.heap.size 4 1 (.slice a (secL (dcs l)).length c) (secL (dcs l)).length ((secL (dcs l)).map Value.bool) ∧ Below w.heap.size w w' := by
  obtain ⟨t0, ht0, hz0, hz1, hz2⟩ := info_parts Try.infoBool
  obtain ⟨ak, ck, ek⟩ := body_val rep.kd
  have p1 := rep.row.cell (i := 1) (by omega)
  rw [show pcell vn vk vz vb 1 = vk from rfl] at p1
  have REP := hid rep
  have hPl := rep.lt
  clear rep
  subst ek
  have P1 := hid p1
  have hlI : (l.length : Int) ≤ 1000 := by omega
  have hdl : (dcs l).length = l.length := by simp [dcs]
  go_enter Try.func9, Try.ntmps9
  go_wp2_with fail
  go_loopw [3, 4] (fun v c wr => ∃ i : Nat, i ≤ l.length ∧ c = .int .i64 i ∧ Below w.heap.size w wr ∧ wr.ownsRow w.heap.size 4 1 v (secL ((dcs l).take i)).length ((secL ((dcs l).take i)).map Value.bool)) (fun _ c _ => l.length - (intOf c).toNat)
  case atStart => exact ⟨0, Nat.zero_le _, rfl, Below.refl _ _, World.ownsRow_nil _ _ _ _⟩
  case round =>
    obtain ⟨i, hil, rfl, hbel, hown⟩ := hrel
    obtain ⟨ao, co, eo⟩ := body_val hown
    subst eo
    have HB := hid hbel
    have HO := hid hown
    have hz := hbel.size
    have q1 := (World.cell?_of_block (hbel.block P hPl)).trans P1.out
    by_cases hlt : i < l.length
    · obtain ⟨gk, ck', ek', hkc⟩ := kinds_at REP.out hlt
      cases ek'
      have hgk := World.block_lt_of_cell? w _ hkc
      have kc := (World.cell?_of_block (hbel.block gk hgk)).trans hkc
      have h' : i < (dcs l).length := by omega
      have hst := secL_take h'
      rw [isIn_bytes hlt h', (at_dc hlt).2] at hst
      have hkd : (dbAt l i).dc.kind = (dbAt l i).kind.toList := rfl
      rw [hkd] at hst
      have hsl : (secL ((dcs l).take i)).length ≤ 1000 := by
        rw [secL_len]
        have h1 := (List.filter_sublist (p := Tm.isIn) (l := (dcs l).take i)).length_le
        have h2 := (List.take_sublist i (dcs l)).length_le
        omega
      generalize hSi : secL ((dcs l).take i) = S at hst hsl HO ⊢
      generalize hSj : secL ((dcs l).take (i + 1)) = S' at hst
      have HSj := hid hSj
      have HST := hid hst
      generalize (dbAt l i).kind = kb at kc HST
      have hsI : (S.length : Int) ≤ 1000 := by omega
      clear hbel hown hkc hst hSi hSj hkd
      cases hs : (kb.toList == [115, 101, 99, 114, 101, 116]) with
      | true =>
        have HS1 := hid (show S' = S ++ [true] by rw [HST.out, hs]; simp; exact eq_of_beq hs)
        go_wp2_with (first | (at_builtin; refine wpList_append_lies _ rfl _ _ 34 rfl w.heap.size 4 t0 _ 1 1 Try.underlying34 ht0 hz0 hz1 hz2 rfl (by omega) _ S.length (S.map Value.bool) rfl (HO.out.alloc _) ⟨wr.heap.size, 0, none⟩ 1 1 [.bool true] rfl rfl (cell_one_new _ _ _) (by simp [Value.oneCell']) (by omega) (by unfold maxLen; omega) (by omega) (by simp; omega) (wr.heap.size + 1) (by simp) ?_; intro g2 cap2 w3 hown3 hgrow hat hltg))
        go_roundw
        case rel =>
          refine ⟨i + 1, by omega, by go_num, (HB.out.alloc hz _).grown hgrow (by simp; omega) (fun q hq => (HO.out.lt q hq).1), ?_⟩
          rw [HSj.out, HS1.out, List.length_append, List.map_append]
          exact hown3
        case measure => simp [intOf]; omega
      | false =>
      cases hp : (kb.toList == [112, 117, 98, 108, 105, 99]) with
      | true =>
        have HS1 := hid (show S' = S ++ [false] by rw [HST.out, hs, hp]; simp; exact ne_of_beq_false hs)
        go_wp2_with (first | (at_builtin; refine wpList_append_lies _ rfl _ _ 34 rfl w.heap.size 4 t0 _ 1 1 Try.underlying34 ht0 hz0 hz1 hz2 rfl (by omega) _ S.length (S.map Value.bool) rfl (HO.out.alloc _) ⟨wr.heap.size, 0, none⟩ 1 1 [.bool false] rfl rfl (cell_one_new _ _ _) (by simp [Value.oneCell']) (by omega) (by unfold maxLen; omega) (by omega) (by simp; omega) (wr.heap.size + 1) (by simp) ?_; intro g2 cap2 w3 hown3 hgrow hat hltg))
        go_roundw
        case rel =>
          refine ⟨i + 1, by omega, by go_num, (HB.out.alloc hz _).grown hgrow (by simp; omega) (fun q hq => (HO.out.lt q hq).1), ?_⟩
          rw [HSj.out, HS1.out, List.length_append, List.map_append]
          exact hown3
        case measure => simp [intOf]; omega
      | false =>
        have HS1 := hid (show S' = S by rw [HST.out, hs, hp]; simp)
        go_wp2_with fail
        go_roundw
        case rel =>
          refine ⟨i + 1, by omega, by go_num, HB.out, ?_⟩
          rw [HSj.out, HS1.out]
          exact HO.out
        case measure => simp [intOf]; omega
    · have hie : i = (dcs l).length := by omega
      have hE : (dcs l).take i = dcs l := by rw [hie, List.take_length]
      rw [hE] at HO ⊢
      clear hbel hown hie hE
      go_wp2_with fail
      go_ret
      exact ⟨_, _, rfl, HO.out, HB.out⟩
end Go.Proofs.Ytgddmpmcnjlcjaa

/- Run, of a program and inputs that fit. -/
namespace Go.Proofs.Ytgddmpmcnjlcjaa
open Go.RowKit
set_option linter.unusedVariables false

set_option maxRecDepth 100000 in
set_option maxHeartbeats 1000000 in
theorem words_ok (l : List Nat) (hlm : l.length ≤ 3) (h16 : ∀ x, x ∈ l → x < 16) (w : World) (v : Value) (hi : w.ownsRow 0 3 1 v l.length (l.map fun (n : Nat) => .int .i64 n)) :
    Calls Try.prog 13 #[v] w fun e w' => e = .returned (.bool true) ∧ Below w.heap.size w w' := by
  obtain ⟨a, c, e⟩ := body_val hi
  have HI := hid hi
  have H16 := hid h16
  clear hi h16
  subst e
  go_enter Try.func13, Try.ntmps13
  go_wp2_with fail
  go_loopw [7] (fun cv wr => ∃ i : Nat, i ≤ l.length ∧ cv = .int .i64 i ∧ Below w.heap.size w wr) (fun cv _ => l.length - (intOf cv).toNat)
  case atStart => exact ⟨0, Nat.zero_le _, rfl, Below.refl _ _⟩
  case round =>
    obtain ⟨i, hil, rfl, hbel⟩ := hrel
    have HB := hid hbel
    by_cases hlt : i < l.length
    · obtain ⟨g, cap, hv, _, hglt⟩ := HI.out.form (by omega)
      cases hv
      have hx := (hbel.cell (p := ⟨g, i, none⟩) hglt).trans (nats_at HI.out i hlt)
      have hx16 : l.getD i 0 < 16 := by
        rw [List.getD_eq_getElem?_getD, List.getElem?_eq_getElem hlt]; exact H16.out _ (List.getElem_mem hlt)
      generalize l.getD i 0 = x at hx hx16
      have hwi : wi (x : Int) 15 = true := by unfold wi; exact decide_eq_true ⟨by omega, by omega⟩
      clear hbel
      go_wp2_with (first | (go_at_call 11; refine (within_any _ _ _).mono ?_; rintro e w0 ⟨rfl, hw0⟩; have hw1 := hw0.symm; subst hw1; rw [hwi]))
      go_roundw
      case rel => exact ⟨i + 1, by omega, by go_num, HB.out⟩
      case measure => simp [intOf]; omega
    · clear hbel
      go_wp2_with fail
      go_ret
      exact ⟨rfl, HB.out⟩

set_option maxRecDepth 100000 in
set_option maxHeartbeats 1000000 in
theorem run_ok (s : ByteArray) (k : Nat) (hk : k ≤ 10) (l : List Nat) (h16 : ∀ x, x ∈ l → x < 16) (hl : (Lk.read s.toList).2 = 0) (hlen : l.length = (pgOf s.toList).sec.length) (w : World) (v : Value) (hi : w.ownsRow 0 3 1 v l.length (l.map fun (n : Nat) => .int .i64 n)) :
    Calls Try.prog 5 #[.string s, v, .int .i64 k] w fun e w' => ∃ a c, e = .returned (.slice a k c) ∧ w'.ownsRow w.heap.size 3 1 (.slice a k c) k ((Mc.tells (pgOf s.toList) (Mc.ini l) k).map fun (n : Nat) => .int .i64 n) ∧ Below w.heap.size w w' := by
  have h1 : wi k 10 = true := by unfold wi; exact decide_eq_true ⟨by omega, by omega⟩
  obtain ⟨a, c, e⟩ := body_val hi
  have HI := hid hi
  have H16 := hid h16
  have HL := hid hl
  have HK := hid (pgOf_ok s.toList)
  have HLEN := hid hlen
  have hl3 : l.length ≤ 3 := by rw [hlen]; exact (pgOf_ok s.toList).sec
  have hleq : (Lk.read s.toList).1.secret.length = l.length := hlen.symm
  have HLQ := hid hleq
  clear hi h16 hl hlen hleq
  subst e
  go_enter Try.func5, Try.ntmps5
  go_wp2_with (first
    | (go_at_call 11; refine (within_any _ _ _).mono ?_; rintro e w' ⟨rfl, rfl⟩)
    | (go_at_call 12; refine (read_any _ _).mono ?_; rintro e w1 R; obtain ⟨vs, vc, vk, he, o1, o2, o3⟩ := R.good HL.out; subst he; have hpg : PgAt w1 (pgOf s.toList) vs vc vk := ⟨ownsRow_low o1 (Nat.zero_le _), ownsRow_low o2 (Nat.zero_le _), ownsRow_low o3 (Nat.zero_le _)⟩; obtain ⟨a1, p1, e1⟩ := body_val o1; obtain ⟨a2, p2, e2⟩ := body_val o2; obtain ⟨a3, p3, e3⟩ := body_val o3; subst e1 e2 e3; have HPG := hid hpg; have hb := R.bel; have z1 := hb.size; have HB := hid hb; have HI1 := hid (ownsRow_same HI.out hb.block); rw [HLQ.out] at HPG; rw [HLQ.out]; clear R hb o1 o2 o3 hpg)
    | (go_at_call 13; refine (words_ok l hl3 H16.out _ _ (HI1.out.alloc _)).mono ?_; rintro e w2 ⟨rfl, hb2⟩; have z2 := hb2.size; simp at z2; have HB2 := hid hb2; have x0 := cell_later hb2 (newAt w1 _ _ 0 _ rfl); have x1 := cell_later hb2 (newAt w1 _ _ 1 _ rfl); have x2 := cell_later hb2 (newAt w1 _ _ 2 _ rfl); have x3 := cell_later hb2 (newAt w1 _ _ 3 _ rfl); simp only [List.getElem_toArray, List.getElem_cons_zero, List.getElem_cons_succ] at x0 x1 x2 x3; clear hb2)
    | (go_at_call 14; refine (tell_run (pgOf s.toList) HK.out l hl3 H16.out k hk _ _ _ _ _ _ ((HPG.out.same ((Below.refl _ _).alloc (Nat.le_refl _) _)).same HB2.out) (ownsRow_same (HI1.out.alloc _) HB2.out.block)).mono ?_; rintro e w3 ⟨v3, rfl, hown3, hb3⟩; obtain ⟨q3, p3', e3⟩ := body_val hown3; subst e3; have HO3 := hid hown3; have HB3 := hid hb3; clear hown3 hb3))
  go_ret
  exact ⟨_, _, rfl, ownsRow_low HO3.out (by omega), ((HB.out.alloc z1 _).trans (HB2.out.mono (by simp; omega))).trans (HB3.out.mono (by omega))⟩
end Go.Proofs.Ytgddmpmcnjlcjaa

/- Run, of whatever; what the law calls beside it. -/
namespace Go.Proofs.Ytgddmpmcnjlcjaa
open Go.RowKit
set_option linter.unusedVariables false

set_option maxRecDepth 100000 in
set_option maxHeartbeats 1000000 in
theorem same_true (va vb : Value) (xs : List Int) (w : World) (ha : InAt w va xs) (hb : InAt w vb xs) (hl : xs.length ≤ 100000) :
    Calls Try.prog 6 #[va, vb] w fun e w' => e = .returned (.bool true) ∧ Below w.heap.size w w' := by
  obtain ⟨aa, ca, ea⟩ := ha.val
  obtain ⟨ab, cb, eb⟩ := hb.val
  have HA := hid ha
  have HB := hid hb
  clear ha hb
  subst ea eb
  have hlI : (xs.length : Int) ≤ 100000 := by omega
  go_enter Try.func6, Try.ntmps6
  go_wp2_with fail
  go_loopw [5] (fun c wr => ∃ i : Nat, i ≤ xs.length ∧ c = .int .i64 i ∧ Below w.heap.size w wr) (fun c _ => xs.length - (intOf c).toNat)
  case atStart => exact ⟨0, Nat.zero_le _, rfl, Below.refl _ _⟩
  case round =>
    obtain ⟨i, hil, rfl, hbel⟩ := hrel
    have HBL := hid hbel
    by_cases hlt : i < xs.length
    · obtain ⟨ga, oa, ca', hva, ica⟩ := HA.out.at_ i hlt
      obtain ⟨gb, ob, cb', hvb, icb⟩ := HB.out.at_ i hlt
      have h1 := (slice_inj hva).1
      have h2 := (slice_inj hvb).1
      subst h1 h2
      have ya := (World.cell?_of_block (hbel.block ga (World.block_lt_of_cell? w _ ica))).trans ica
      have yb := (World.cell?_of_block (hbel.block gb (World.block_lt_of_cell? w _ icb))).trans icb
      generalize xs.getD i 0 = x at ya yb
      clear hbel ica icb hva hvb
      go_wp2_with fail
      go_quiet (fail)
      go_wp2_with fail
      go_roundw
      case rel => exact ⟨i + 1, by omega, by go_num, below_drewN HBL.out _⟩
      case measure => simp [intOf]; omega
    · clear hbel
      go_wp2_with fail
      go_ret
      exact ⟨rfl, HBL.out⟩

/-- Are they words? -/
def wds (xs : List Int) : Bool := xs.all fun x => wi x 15

theorem wds_take (xs : List Int) (i : Nat) (h : i < xs.length) : wds (xs.take (i + 1)) = (wds (xs.take i) && wi (xs.getD i 0) 15) := by
  unfold wds
  rw [List.take_succ_eq_append_getElem h, List.all_append]
  simp [h]
theorem wds_no {xs : List Int} {i : Nat} (h : i < xs.length) (hw : wi (xs.getD i 0) 15 = false) : wds xs = false := by
  unfold wds
  rw [List.all_eq_false]
  refine ⟨xs.getD i 0, ?_, by rw [hw]; simp⟩
  have e : xs.getD i 0 = xs[i] := by simp [h]
  rw [e]
  exact List.getElem_mem h

set_option maxRecDepth 100000 in
set_option maxHeartbeats 1000000 in
theorem words_all (v : Value) (xs : List Int) (hl : xs.length ≤ 100000) (w : World) (hi : InAt w v xs) :
    Calls Try.prog 13 #[v] w fun e w' => e = .returned (.bool (wds xs)) ∧ Below w.heap.size w w' := by
  obtain ⟨a, c, e⟩ := hi.val
  have HI := hid hi
  clear hi
  subst e
  have hlI : (xs.length : Int) ≤ 100000 := by omega
  go_enter Try.func13, Try.ntmps13
  go_wp2_with fail
  go_loopw [7] (fun cv wr => ∃ i : Nat, i ≤ xs.length ∧ cv = .int .i64 i ∧ wds (xs.take i) = true ∧ Below w.heap.size w wr) (fun cv _ => xs.length - (intOf cv).toNat)
  case atStart => exact ⟨0, Nat.zero_le _, rfl, rfl, Below.refl _ _⟩
  case round =>
    obtain ⟨i, hil, rfl, hw, hbel⟩ := hrel
    have HB := hid hbel
    have HW := hid hw
    clear hw
    by_cases hlt : i < xs.length
    · obtain ⟨ga, oa, ca', hva, ica⟩ := HI.out.at_ i hlt
      have h1 := (slice_inj hva).1
      subst h1
      have ya := (World.cell?_of_block (hbel.block ga (World.block_lt_of_cell? w _ ica))).trans ica
      have HT := hid (wds_take xs i hlt)
      have HN := hid (fun h => wds_no (xs := xs) (i := i) hlt h)
      generalize xs.getD i 0 = x at ya HT HN
      clear hbel ica hva
      cases hx : wi x 15 with
      | true =>
        go_wp2_with (first | (go_at_call 11; refine (within_any _ _ _).mono ?_; rintro e w0 ⟨rfl, hw0⟩; have hw1 := hw0.symm; subst hw1; rw [hx]))
        go_roundw
        case rel => exact ⟨i + 1, by omega, by go_num, by rw [HT.out, HW.out, hx]; rfl, HB.out⟩
        case measure => simp [intOf]; omega
      | false =>
        go_wp2_with (first | (go_at_call 11; refine (within_any _ _ _).mono ?_; rintro e w0 ⟨rfl, hw0⟩; have hw1 := hw0.symm; subst hw1; rw [hx]))
        go_ret
        exact ⟨by rw [HN.out hx]; rfl, HB.out⟩
    · have hie : i = xs.length := by omega
      have hf : wds xs = true := by have h := HW.out; rw [hie, List.take_length] at h; exact h
      clear hbel
      go_wp2_with fail
      go_ret
      exact ⟨by rw [hf]; rfl, HB.out⟩

section
variable (s : ByteArray) (k : Int) (v : Value) (xs : List Int) (w : World)

set_option maxRecDepth 100000 in
set_option maxHeartbeats 1000000 in
theorem run_k (h : wi k 10 = false) : Calls Try.prog 5 #[.string s, v, .int .i64 k] w fun e w' => e = .returned (.slice none 0 0) ∧ Below w.heap.size w w' := by
  go_enter Try.func5, Try.ntmps5
  go_wp2_with (first | (go_at_call 11; refine (within_any _ _ _).mono ?_; rintro e w' ⟨rfl, rfl⟩))
  go_ret
  exact ⟨rfl, Below.refl _ _⟩

set_option maxRecDepth 100000 in
set_option maxHeartbeats 1000000 in
theorem run_wrong (h : wi k 10 = true) (n : Nat) (hl : (Lk.read s.toList).2 = n) (hn : n ≠ 0) : Calls Try.prog 5 #[.string s, v, .int .i64 k] w fun e w' => e = .returned (.slice none 0 0) ∧ Below w.heap.size w w' := by
  have HL := hid hl
  have HN := hid hn
  have hnI : ((n : Int) != 0) = true := by simp; omega
  clear hl
  go_enter Try.func5, Try.ntmps5
  go_wp2_with (first
    | (go_at_call 11; refine (within_any _ _ _).mono ?_; rintro e w' ⟨rfl, rfl⟩)
    | (go_at_call 12; refine (read_any _ _).mono ?_; rintro e w1 R; have he := R.bad (by rw [HL.out]; exact HN.out); rw [HL.out] at he; subst he; have HB := hid R.bel; clear R))
  go_ret
  exact ⟨rfl, HB.out.alloc HB.out.size _⟩

set_option maxRecDepth 100000 in
set_option maxHeartbeats 1000000 in
theorem run_len (h : wi k 10 = true) (hl : (Lk.read s.toList).2 = 0) (n : Nat) (hn : (Lk.read s.toList).1.secret.length = n) (hi : InAt w v xs) (hne : xs.length ≠ n) (hx : xs.length ≤ 100000) : Calls Try.prog 5 #[.string s, v, .int .i64 k] w fun e w' => e = .returned (.slice none 0 0) ∧ Below w.heap.size w w' := by
  obtain ⟨a, c, e⟩ := hi.val
  have HL := hid hl
  have HN := hid hn
  have hnI : ((xs.length : Int) != (n : Int)) = true := by simp; omega
  clear hl hn hi
  subst e
  go_enter Try.func5, Try.ntmps5
  go_wp2_with (first
    | (go_at_call 11; refine (within_any _ _ _).mono ?_; rintro e w' ⟨rfl, rfl⟩)
    | (go_at_call 12; refine (read_any _ _).mono ?_; rintro e w1 R; obtain ⟨vs, vc, vk, he, o1, o2, o3⟩ := R.good HL.out; subst he; rw [HN.out] at o1; obtain ⟨a1, p1, e1⟩ := body_val o1; obtain ⟨a2, p2, e2⟩ := body_val o2; obtain ⟨a3, p3, e3⟩ := body_val o3; subst e1 e2 e3; have HB := hid R.bel; clear R o1 o2 o3))
  go_ret
  exact ⟨rfl, HB.out.alloc HB.out.size _⟩

set_option maxRecDepth 100000 in
set_option maxHeartbeats 1000000 in
theorem run_words (h : wi k 10 = true) (hl : (Lk.read s.toList).2 = 0) (n : Nat) (hn : (Lk.read s.toList).1.secret.length = n) (hi : InAt w v xs) (hne : xs.length = n) (hx : xs.length ≤ 100000) (hw : wds xs = false) : Calls Try.prog 5 #[.string s, v, .int .i64 k] w fun e w' => e = .returned (.slice none 0 0) ∧ Below w.heap.size w w' := by
  subst hne
  obtain ⟨a, c, e⟩ := hi.val
  have HL := hid hl
  have HN := hid hn
  have HI := hid hi
  clear hl hn hi
  subst e
  go_enter Try.func5, Try.ntmps5
  go_wp2_with (first
    | (go_at_call 11; refine (within_any _ _ _).mono ?_; rintro e w' ⟨rfl, rfl⟩)
    | (go_at_call 12; refine (read_any _ _).mono ?_; rintro e w1 R; obtain ⟨vs, vc, vk, he, o1, o2, o3⟩ := R.good HL.out; subst he; rw [HN.out] at o1; obtain ⟨a1, p1, e1⟩ := body_val o1; obtain ⟨a2, p2, e2⟩ := body_val o2; obtain ⟨a3, p3, e3⟩ := body_val o3; subst e1 e2 e3; have HB := hid R.bel; have z1 := R.bel.size; clear R o1 o2 o3)
    | (go_at_call 13; refine (words_all _ xs hx _ (HI.out.later (fun k hk => (Below.heap_alloc w1 _ k (by omega)).trans (HB.out.block k hk)))).mono ?_; rintro e w2 ⟨he, hb2⟩; rw [hw] at he; subst he; have HB2 := hid hb2; clear hb2))
  go_ret
  exact ⟨rfl, (HB.out.alloc z1 _).trans (HB2.out.mono (by simp; omega))⟩
end
end Go.Proofs.Ytgddmpmcnjlcjaa

namespace Go.Proofs.Ytgddmpmcnjlcjaa
open Go.RowKit
set_option linter.unusedVariables false

set_option maxRecDepth 100000 in
set_option maxHeartbeats 1000000 in
theorem bounded_no (k n c : Int) (w : World) (h : wi k 10 = false ∨ wi n 1048576 = false ∨ wi c 1048576 = false) :
    Calls Try.prog 7 #[.int .i64 k, .agg #[.int .i64 n, .int .i64 c]] w fun e w' => e = .returned (.bool false) ∧ Below w.heap.size w w' := by
  have H := hid h
  clear h
  by_cases h1 : k < 0
  · go_enter Try.func7, Try.ntmps7
    go_wp2
    go_ret
    exact ⟨rfl, (Below.refl _ _).alloc (Nat.le_refl _) _⟩
  · by_cases h2 : 10 < k
    · go_enter Try.func7, Try.ntmps7
      go_wp2
      go_ret
      exact ⟨rfl, (Below.refl _ _).alloc (Nat.le_refl _) _⟩
    · by_cases h3 : 0 ≤ n
      · by_cases h4 : n ≤ 1048576
        · by_cases h5 : 0 ≤ c
          · have h6 : ¬ c ≤ 1048576 := by
              intro h6
              rcases H.out with h | h | h
              · exact wi_false h ⟨by omega, by omega⟩
              · exact wi_false h ⟨h3, h4⟩
              · exact wi_false h ⟨h5, h6⟩
            go_enter Try.func7, Try.ntmps7
            go_wp2
            go_ret
            exact ⟨rfl, (Below.refl _ _).alloc (Nat.le_refl _) _⟩
          · go_enter Try.func7, Try.ntmps7
            go_wp2
            go_ret
            exact ⟨rfl, (Below.refl _ _).alloc (Nat.le_refl _) _⟩
        · go_enter Try.func7, Try.ntmps7
          go_wp2
          go_ret
          exact ⟨rfl, (Below.refl _ _).alloc (Nat.le_refl _) _⟩
      · go_enter Try.func7, Try.ntmps7
        go_wp2
        go_ret
        exact ⟨rfl, (Below.refl _ _).alloc (Nat.le_refl _) _⟩

set_option maxRecDepth 100000 in
set_option maxHeartbeats 1000000 in
theorem bounded_yes (k n c : Int) (w : World) (h1 : wi k 10 = true) (h2 : wi n 1048576 = true) (h3 : wi c 1048576 = true) :
    Calls Try.prog 7 #[.int .i64 k, .agg #[.int .i64 n, .int .i64 c]] w fun e w' => e = .returned (.bool true) ∧ Below w.heap.size w w' := by
  obtain ⟨a1, a2⟩ := wi_true h1
  obtain ⟨b1, b2⟩ := wi_true h2
  obtain ⟨c1, c2⟩ := wi_true h3
  clear h1 h2 h3
  have a3 : ¬ k < 0 := by omega
  have a4 : ¬ 10 < k := by omega
  go_enter Try.func7, Try.ntmps7
  go_wp2
  go_ret
  exact ⟨rfl, (Below.refl _ _).alloc (Nat.le_refl _) _⟩

end Go.Proofs.Ytgddmpmcnjlcjaa

/- Run, held against the reference. -/
namespace Go.Proofs.Ytgddmpmcnjlcjaa
open Go.RowKit
open Tm (TsOk DsOk Wd16)
set_option linter.unusedVariables false

theorem addp (b o i : Nat) : (⟨b, o, none⟩ : Addr).add i = ⟨b, o + i, none⟩ := by unfold Addr.add; split <;> simp_all
theorem cposI {w w1 : World} {g : Nat} {ab : Option Addr} {cb : Nat} {xs : List Int} (hb : Below w.heap.size w w1) (h : InAt w (.slice ab xs.length cb) xs) :
    0 < (xs.map fun x => Value.int .i64 x).length → (some (⟨g, 0, none⟩ : Addr)) = some ⟨g, 0, none⟩ ∧ ∃ ad : Addr, ab = some ad ∧ ∀ j v, (xs.map fun x => Value.int .i64 x)[j]? = some v → w1.cell? (ad.add j) = some v := by
  intro h0
  rw [List.length_map] at h0
  obtain ⟨g', off, c, hv, _⟩ := h.at_ 0 h0
  have ha := (slice_inj hv).1
  subst ha
  refine ⟨rfl, _, rfl, fun j v hj => ?_⟩
  have hjl : j < xs.length := by
    rcases Nat.lt_or_ge j xs.length with hq | hq
    · exact hq
    · rw [List.getElem?_eq_none (by simpa using hq)] at hj; cases hj
  obtain ⟨g2, off2, c2, hv2, hc⟩ := h.at_ j hjl
  have ha := (slice_inj hv2).1
  cases ha
  have e : v = .int .i64 (xs.getD j 0) := by
    rw [List.getElem?_map, List.getElem?_eq_getElem hjl] at hj
    simp at hj
    rw [← hj]
    simp [hjl]
  subst e
  rw [addp]
  exact (World.cell?_of_block (hb.block g' (World.block_lt_of_cell? w _ hc))).trans hc
theorem own_cells {w : World} {g base : Nat} {t : TypeId} {cs : List Value} (hb : base ≤ g) (hm : cs.length ≤ 100000) (h : w.heap[g]? = some (.cells cs.toArray t (0, 0))) : w.ownsRow base t 1 (.slice (some ⟨g, 0, none⟩) cs.length cs.length) cs.length cs :=
  ⟨by simp, .inr ⟨g, _, cs.toArray, rfl, hb, h, Nat.le_refl _, by unfold maxLen; omega, by simp, by simp⟩⟩
theorem own_ints {w : World} {g : Nat} {xs : List Int} {n : Nat} (hn : xs.length = n) (hm : n ≤ 100000) (h : w.heap[g]? = some (.cells (xs.map fun x => Value.int .i64 x).toArray 3 (0, 0))) : w.ownsRow 0 3 1 (.slice (some ⟨g, 0, none⟩) n n) n (xs.map fun x => Value.int .i64 x) := by
  have e := own_cells (base := 0) (t := 3) (Nat.zero_le g) (by rw [List.length_map]; omega) h
  rw [List.length_map, hn] at e
  exact e
theorem made_len' (z : Array Value) (n : Nat) : (madeCells z n).toList.length = n := by rw [Array.length_toList, size_madeCells]
theorem own_full' {w : World} {base e g n : Nat} {xs : List Value} (h : w.ownsRow base e 1 (.slice (some ⟨g, 0, none⟩) n n) n xs) : w.heap[g]? = some (.cells xs.toArray e (0, 0)) := by
  rcases h.2 with ⟨h1, _⟩ | ⟨g', cap, cur, hv, _, hg, _, _, hs, ht⟩
  · cases h1
  · cases hv
    rw [List.take_of_length_le (by rw [Array.length_toList]; omega)] at ht
    rw [hg, ← ht]
theorem splice_all' (L cs : List Value) (h : L.length = cs.length) : splice L 0 cs = cs := by
  unfold splice
  rw [List.take_zero, List.nil_append, Nat.zero_add, List.drop_of_length_le (by omega), List.append_nil]

theorem nil_nil (w : World) : (binOp .eql 22 (.slice none 0 0) (.slice none 0 0)).run Try.prog w = .ok (.bool true) w := by kernel_rfl

/-- Run answers nothing. -/
def RunNil (s : ByteArray) (k : Int) (xs : List Int) : Prop := ∀ (w : World) (v : Value), InAt w v xs → Calls Try.prog 5 #[.string s, v, .int .i64 k] w fun e w' => e = .returned (.slice none 0 0) ∧ Below w.heap.size w w'
abbrev RanOut (w w' : World) (e : Ending) : Prop := (∃ a n c, e = .returned (.tuple #[.slice a n c, .bool true])) ∧ Below w.heap.size w w'

set_option maxRecDepth 100000 in
set_option maxHeartbeats 1000000 in
theorem ran_k (s : ByteArray) (k : Int) (vi : Value) (xs : List Int) (hs : s.size ≤ 16384) (hx : xs.length ≤ 16384) (w : World) (hi : InAt w vi xs) (rn : RunNil s k xs) (hk : wi k 10 = false) :
    Calls Try.prog 4 #[.string s, vi, .int .i64 k] w fun e w' => RanOut w w' e := by
  obtain ⟨t0, ht0, hz0, hz1, hz2⟩ := info_parts Try.infoInt
  obtain ⟨ai, ci, ei⟩ := hi.val
  have HI := hid hi
  clear hi
  subst ei
  have HSZ : Hid ((Try.prog.info? 3).map (·.size) = some 1) := by
    show _ = _
    rw [ht0]; simp [hz1]
  have HN : Hid ((xs.map fun x => Value.int .i64 x).length = Nat.min xs.length xs.length) := by
    show _ = _
    rw [List.length_map]; exact (Nat.min_self _).symm
  have HFIT : Hid (0 + (xs.map fun x => Value.int .i64 x).length ≤ (madeCells (Value.int .i64 0).cells (xs.length * 1)).toList.length) := by
    show _ ≤ _
    rw [made_len', List.length_map]; omega
  have HONE : Hid (∀ v ∈ (xs.map fun x => Value.int .i64 x), v.oneCell' = true) := by
    intro v hv
    obtain ⟨n, _, rfl⟩ := List.mem_map.1 hv
    rfl
  have hnn := nil_nil
  have hlI : (xs.length : Int) ≤ 20000 := by omega
  have hsI : (s.size : Int) ≤ 20000 := by omega
  have RN := hid rn
  clear rn
  go_enter Try.func4, Try.ntmps4
  go_wp2_with (first
    | (at_make; refine wpList_make_full _ rfl _ _ 22 rfl w.heap.size 3 t0 (.int .i64 0) 1 Try.underlying22 ht0 hz0 hz1 .i64 .i64 _ _ xs.length rfl rfl rfl rfl (by rw [hz2]; omega) (by unfold maxLen; omega) (Nat.le_refl _) ?_; intro w1 hown1 hgrow1; have HG1 := hid (own_full' hown1); have HB1 := hid (Below.grown (Below.refl w.heap.size w) hgrow1 (Nat.le_refl _) (fun q hq => by cases hq)); have hlt1 := (hown1.lt w.heap.size rfl).2; clear hown1 hgrow1)
    | (refine wpList_copy_splice rfl (.tmp 21) (.tmp 22) 22 22 rfl 3 Try.underlying22 HSZ.out _ _ xs.length xs.length xs.length ci rfl rfl w.heap.size 0 _ 3 HG1.out (xs.map fun x => Value.int .i64 x) HN.out (cposI HB1.out HI.out) HFIT.out HONE.out w.heap.size w HB1.out (Nat.le_refl _) ?_; intro w2 HG2 hB2; have HB2 := hid hB2; have z2 := hB2.size; clear hB2))
  rw [splice_all' _ _ (by rw [made_len', List.length_map, Nat.mul_one])] at HG2
  have HO2 := hid (own_ints (xs := xs) rfl (by omega) HG2.out)
  have HL2 := hid (InAt.ofOwn HO2.out)
  have HI2 := hid (HI.out.later HB2.out.block)
  clear HG1 HG2 hlt1
  go_wp2_with (first
    | (go_at_call 5; refine (RN.out _ _ HL2.out).mono ?_; rintro e w3 ⟨rfl, hb3⟩; have HB3 := hid hb3; have z3 := hb3.size; have HL3 := hid (HL2.out.later hb3.block); have HI3 := hid (HI2.out.later hb3.block); clear hb3)
    | (go_at_call 6; refine (same_true _ _ xs _ HL3.out HI3.out (by omega)).mono ?_; rintro e w4 ⟨rfl, hb4⟩; have HB4 := hid hb4; have z4 := hb4.size; clear hb4)
    | (go_at_call 7; refine (bounded_no k 0 0 _ (.inl hk)).mono ?_; rintro e w5 ⟨rfl, hb5⟩; have HB5 := hid hb5; have z5 := hb5.size; clear hb5))
  go_ret2
  exact ⟨⟨_, _, _, rfl⟩, ((HB2.out.trans (HB3.out.mono z2)).trans (HB4.out.mono (Nat.le_trans z2 z3))).trans (HB5.out.mono (by omega))⟩

set_option maxRecDepth 100000 in
set_option maxHeartbeats 1000000 in
theorem ran_long (s : ByteArray) (k : Int) (vi : Value) (xs : List Int) (hs : s.size ≤ 16384) (hx : xs.length ≤ 16384) (w : World) (hi : InAt w vi xs) (rn : RunNil s k xs) (hk : wi k 10 = true) (hs6 : 600 < s.size) :
    Calls Try.prog 4 #[.string s, vi, .int .i64 k] w fun e w' => RanOut w w' e := by
  obtain ⟨t0, ht0, hz0, hz1, hz2⟩ := info_parts Try.infoInt
  obtain ⟨ai, ci, ei⟩ := hi.val
  have HI := hid hi
  clear hi
  subst ei
  have HSZ : Hid ((Try.prog.info? 3).map (·.size) = some 1) := by
    show _ = _
    rw [ht0]; simp [hz1]
  have HN : Hid ((xs.map fun x => Value.int .i64 x).length = Nat.min xs.length xs.length) := by
    show _ = _
    rw [List.length_map]; exact (Nat.min_self _).symm
  have HFIT : Hid (0 + (xs.map fun x => Value.int .i64 x).length ≤ (madeCells (Value.int .i64 0).cells (xs.length * 1)).toList.length) := by
    show _ ≤ _
    rw [made_len', List.length_map]; omega
  have HONE : Hid (∀ v ∈ (xs.map fun x => Value.int .i64 x), v.oneCell' = true) := by
    intro v hv
    obtain ⟨n, _, rfl⟩ := List.mem_map.1 hv
    rfl
  have hnn := nil_nil
  have hlI : (xs.length : Int) ≤ 20000 := by omega
  have hsI : (s.size : Int) ≤ 20000 := by omega
  have RN := hid rn
  have h6I : (600 : Int) < (s.size : Int) := by omega
  clear rn
  go_enter Try.func4, Try.ntmps4
  go_wp2_with (first
    | (at_make; refine wpList_make_full _ rfl _ _ 22 rfl w.heap.size 3 t0 (.int .i64 0) 1 Try.underlying22 ht0 hz0 hz1 .i64 .i64 _ _ xs.length rfl rfl rfl rfl (by rw [hz2]; omega) (by unfold maxLen; omega) (Nat.le_refl _) ?_; intro w1 hown1 hgrow1; have HG1 := hid (own_full' hown1); have HB1 := hid (Below.grown (Below.refl w.heap.size w) hgrow1 (Nat.le_refl _) (fun q hq => by cases hq)); have hlt1 := (hown1.lt w.heap.size rfl).2; clear hown1 hgrow1)
    | (refine wpList_copy_splice rfl (.tmp 21) (.tmp 22) 22 22 rfl 3 Try.underlying22 HSZ.out _ _ xs.length xs.length xs.length ci rfl rfl w.heap.size 0 _ 3 HG1.out (xs.map fun x => Value.int .i64 x) HN.out (cposI HB1.out HI.out) HFIT.out HONE.out w.heap.size w HB1.out (Nat.le_refl _) ?_; intro w2 HG2 hB2; have HB2 := hid hB2; have z2 := hB2.size; clear hB2))
  rw [splice_all' _ _ (by rw [made_len', List.length_map, Nat.mul_one])] at HG2
  have HO2 := hid (own_ints (xs := xs) rfl (by omega) HG2.out)
  have HL2 := hid (InAt.ofOwn HO2.out)
  have HI2 := hid (HI.out.later HB2.out.block)
  clear HG1 HG2 hlt1
  go_wp2_with (first
    | (go_at_call 5; refine (RN.out _ _ HL2.out).mono ?_; rintro e w3 ⟨rfl, hb3⟩; have HB3 := hid hb3; have z3 := hb3.size; have HL3 := hid (HL2.out.later hb3.block); have HI3 := hid (HI2.out.later hb3.block); clear hb3)
    | (go_at_call 6; refine (same_true _ _ xs _ HL3.out HI3.out (by omega)).mono ?_; rintro e w4 ⟨rfl, hb4⟩; have HB4 := hid hb4; have z4 := hb4.size; clear hb4)
    | (go_at_call 7; refine (bounded_yes k 0 0 _ hk (by decide) (by decide)).mono ?_; rintro e w5 ⟨rfl, hb5⟩; have HB5 := hid hb5; have z5 := hb5.size; clear hb5))
  go_ret2
  exact ⟨⟨_, _, _, rfl⟩, ((HB2.out.trans (HB3.out.mono z2)).trans (HB4.out.mono (Nat.le_trans z2 z3))).trans (HB5.out.mono (by omega))⟩

set_option maxRecDepth 100000 in
set_option maxHeartbeats 1000000 in
theorem ran_none (s : ByteArray) (k : Int) (vi : Value) (xs : List Int) (hs : s.size ≤ 16384) (hx : xs.length ≤ 16384) (w : World) (hi : InAt w vi xs) (rn : RunNil s k xs) (hk : wi k 10 = true) (hs6 : s.size ≤ 600) (hr : (Rf.readS s.toList).1 = false) :
    Calls Try.prog 4 #[.string s, vi, .int .i64 k] w fun e w' => RanOut w w' e := by
  obtain ⟨t0, ht0, hz0, hz1, hz2⟩ := info_parts Try.infoInt
  obtain ⟨ai, ci, ei⟩ := hi.val
  have HI := hid hi
  clear hi
  subst ei
  have HSZ : Hid ((Try.prog.info? 3).map (·.size) = some 1) := by
    show _ = _
    rw [ht0]; simp [hz1]
  have HN : Hid ((xs.map fun x => Value.int .i64 x).length = Nat.min xs.length xs.length) := by
    show _ = _
    rw [List.length_map]; exact (Nat.min_self _).symm
  have HFIT : Hid (0 + (xs.map fun x => Value.int .i64 x).length ≤ (madeCells (Value.int .i64 0).cells (xs.length * 1)).toList.length) := by
    show _ ≤ _
    rw [made_len', List.length_map]; omega
  have HONE : Hid (∀ v ∈ (xs.map fun x => Value.int .i64 x), v.oneCell' = true) := by
    intro v hv
    obtain ⟨n, _, rfl⟩ := List.mem_map.1 hv
    rfl
  have hnn := nil_nil
  have hlI : (xs.length : Int) ≤ 20000 := by omega
  have hsI : (s.size : Int) ≤ 20000 := by omega
  have RN := hid rn
  have HR := hid hr
  have h6I : ¬ (600 : Int) < (s.size : Int) := by omega
  clear rn hr
  go_enter Try.func4, Try.ntmps4
  go_wp2_with (first
    | (at_make; refine wpList_make_full _ rfl _ _ 22 rfl w.heap.size 3 t0 (.int .i64 0) 1 Try.underlying22 ht0 hz0 hz1 .i64 .i64 _ _ xs.length rfl rfl rfl rfl (by rw [hz2]; omega) (by unfold maxLen; omega) (Nat.le_refl _) ?_; intro w1 hown1 hgrow1; have HG1 := hid (own_full' hown1); have HB1 := hid (Below.grown (Below.refl w.heap.size w) hgrow1 (Nat.le_refl _) (fun q hq => by cases hq)); have hlt1 := (hown1.lt w.heap.size rfl).2; clear hown1 hgrow1)
    | (refine wpList_copy_splice rfl (.tmp 21) (.tmp 22) 22 22 rfl 3 Try.underlying22 HSZ.out _ _ xs.length xs.length xs.length ci rfl rfl w.heap.size 0 _ 3 HG1.out (xs.map fun x => Value.int .i64 x) HN.out (cposI HB1.out HI.out) HFIT.out HONE.out w.heap.size w HB1.out (Nat.le_refl _) ?_; intro w2 HG2 hB2; have HB2 := hid hB2; have z2 := hB2.size; clear hB2))
  rw [splice_all' _ _ (by rw [made_len', List.length_map, Nat.mul_one])] at HG2
  have HO2 := hid (own_ints (xs := xs) rfl (by omega) HG2.out)
  have HL2 := hid (InAt.ofOwn HO2.out)
  have HI2 := hid (HI.out.later HB2.out.block)
  clear HG1 HG2 hlt1
  go_wp2_with (first
    | (go_at_call 5; refine (RN.out _ _ HL2.out).mono ?_; rintro e w3 ⟨rfl, hb3⟩; have HB3 := hid hb3; have z3 := hb3.size; have HL3 := hid (HL2.out.later hb3.block); have HI3 := hid (HI2.out.later hb3.block); clear hb3)
    | (go_at_call 6; refine (same_true _ _ xs _ HL3.out HI3.out (by omega)).mono ?_; rintro e w4 ⟨rfl, hb4⟩; have HB4 := hid hb4; have z4 := hb4.size; clear hb4)
    | (go_at_call 7; refine (bounded_yes k 0 0 _ hk (by decide) (by decide)).mono ?_; rintro e w5 ⟨rfl, hb5⟩; have HB5 := hid hb5; have z5 := hb5.size; clear hb5)
    | (go_at_call 8; refine (refRead_any s hs6 _).mono ?_; rintro e w6 hr6; obtain ⟨_, he⟩ := hr6.2.1 HR.out; subst he; have HB6 := hid hr6.1; have z6 := hr6.1.size; clear hr6))
  go_ret2
  exact ⟨⟨_, _, _, rfl⟩, (((HB2.out.trans (HB3.out.mono z2)).trans (HB4.out.mono (Nat.le_trans z2 z3))).trans (HB5.out.mono (by omega))).trans (HB6.out.mono (by omega))⟩

end Go.Proofs.Ytgddmpmcnjlcjaa
