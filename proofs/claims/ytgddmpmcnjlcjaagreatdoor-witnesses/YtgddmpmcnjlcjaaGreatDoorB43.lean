import Derived.Test.YtgddmpmcnjlcjaaGreatDoorB42
import Derived.Test.YtgddmpmcnjlcjaaGreatDoorB09
import Derived.Test.YtgddmpmcnjlcjaaGreatDoorB38
import Derived.Test.YtgddmpmcnjlcjaaGreatDoorB25
import Derived.Test.YtgddmpmcnjlcjaaGreatDoorB22
namespace Go.Proofs.YtgddmpmcnjlcjaaGreatDoor
open Go.RowKit
open Tm (TsOk DsOk Wd16)
set_option linter.unusedVariables false
def OKx (ds : List Rf.Dc) (ts : List Rf.Tr) (k x : Nat) : Prop :=
  Pr.anyS (secL ds) (Pr.dg (secL ds).length x) = true → tellL ds (Tm.start ds ts (Pr.dg (secL ds).length x)) k = tellL ds (Tm.start ds ts (Pr.zr (secL ds) (Pr.dg (secL ds).length x))) k
theorem pow16 {i : Nat} (h : i ≤ 3) : 16 ^ i ≤ 4096 := Nat.pow_le_pow_right (by omega) h
theorem bool_own {w : World} {base : Nat} {v : Value} {S : List Bool} (h : w.ownsRow base 4 1 v S.length (S.map Value.bool)) {i : Nat} (hi : i < S.length) : ∃ g c, v = .slice (some ⟨g, 0, none⟩) S.length c ∧ w.cell? ⟨g, i, none⟩ = some (.bool (S.getD i false)) := by
  rcases h.2 with ⟨_, c⟩ | ⟨g, c, cur, hv, _⟩
  · omega
  · refine ⟨g, c, hv, ?_⟩
    subst hv
    rw [h.cellAt i (by omega)]
    simp [hi]
theorem sub_old {w w' : World} {A : Nat → Prop} {v : Value} {ts : List Rf.Tr} (h : Sub w A v ts) (hA : ∀ k, A k → k < w.heap.size) (hb : Below w.heap.size w w') : Sub w' A v ts := h.move (fun k hk => ⟨hb.block k (hA k hk), hk⟩)
structure Two (B : Nat) (w1 w : World) (n : Nat) (a b : List Nat) (va vb : Value) : Prop where
  bel : Below w1.heap.size w1 w
  oa : w.ownsRow w1.heap.size 3 1 va n (a.map fun (n : Nat) => .int .i64 n)
  ob : w.ownsRow w1.heap.size 3 1 vb n (b.map fun (n : Nat) => .int .i64 n)
  ne : va.ownBlock = none ∨ va.ownBlock ≠ vb.ownBlock
theorem Two.first {B n : Nat} {w1 w w' : World} {a b : List Nat} {va vb : Value} (h : Two B w1 w n a b va vb) {o : Obj} {x g2 cap2 : Nat} (hown : w'.ownsRow w1.heap.size 3 1 (.slice (some ⟨g2, 0, none⟩) (n + 1) cap2) (n + 1) ((a ++ [x]).map fun (n : Nat) => .int .i64 n)) (hg : (w.alloc o).grownBy w' va.ownBlock) (hat : va.ownBlock = some g2 ∨ g2 = w.heap.size + 1) :
    Below w1.heap.size w1 w' ∧ w'.ownsRow w1.heap.size 3 1 vb n (b.map fun (n : Nat) => .int .i64 n) ∧ vb.ownBlock ≠ some g2 ∧ w.heap.size < w'.heap.size := by
  have hz := h.bel.size
  have z1 : (w.alloc o).heap.size = w.heap.size + 1 := by simp
  have hs := hg.size
  rw [z1] at hs
  refine ⟨(h.bel.alloc hz o).grown hg (by rw [z1]; omega) (fun q hq => (h.oa.lt q hq).1), ownsRow_blk h.ob (fun k e => ?_), fun e => ?_, by omega⟩
  · have hk := (h.ob.lt k e).2
    refine (hg.block k (by rw [z1]; omega) (fun c => ?_)).trans (Below.heap_alloc w o k hk)
    rcases h.ne with c2 | c2
    · rw [c2] at c; cases c
    · exact c2 (by rw [← c, e])
  · have hk := (h.ob.lt g2 e).2
    rcases hat with c | c
    · rcases h.ne with c2 | c2
      · rw [c2] at c; cases c
      · exact c2 (by rw [c, e])
    · omega
theorem two_next {n : Nat} {w1 w w3 w4 : World} {a b a' b' : List Nat} {vb : Value} {x g2 cap2 g4 cap4 : Nat} {xs : List Value} {o : Obj} (hf : Below w1.heap.size w1 w3 ∧ w3.ownsRow w1.heap.size 3 1 vb n (b.map fun (n : Nat) => .int .i64 n) ∧ vb.ownBlock ≠ some g2 ∧ w.heap.size < w3.heap.size)
    (ho : w3.ownsRow w1.heap.size 3 1 (.slice (some ⟨g2, 0, none⟩) (n + 1) cap2) (n + 1) xs) (ea : a' = a) (eb : b' = b ++ [x]) (hxs : xs = a.map fun (n : Nat) => .int .i64 n)
    (hown : w4.ownsRow w1.heap.size 3 1 (.slice (some ⟨g4, 0, none⟩) (n + 1) cap4) (n + 1) ((b ++ [x]).map fun (n : Nat) => .int .i64 n)) (hg : (w3.alloc o).grownBy w4 vb.ownBlock) (hat : vb.ownBlock = some g4 ∨ g4 = w3.heap.size + 1) :
    Two 0 w1 w4 (n + 1) a' b' (.slice (some ⟨g2, 0, none⟩) (n + 1) cap2) (.slice (some ⟨g4, 0, none⟩) (n + 1) cap4) := by
  subst ea eb hxs
  have z1 : (w3.alloc o).heap.size = w3.heap.size + 1 := by simp
  have hz := hf.1.size
  have hg2 := (ho.lt g2 rfl).2
  refine ⟨(hf.1.alloc hz o).grown hg (by rw [z1]; omega) (fun q hq => (hf.2.1.lt q hq).1), ownsRow_blk ho (fun k e => ?_), hown, .inr (fun e => ?_)⟩
  · have e : g2 = k := by simpa [Value.ownBlock] using e
    subst e
    exact (hg.block g2 (by rw [z1]; omega) (fun c => hf.2.2.1 c.symm)).trans (Below.heap_alloc w3 o g2 hg2)
  · have e : g2 = g4 := by simpa [Value.ownBlock] using e
    rcases hat with c | c
    · exact hf.2.2.1 (by rw [c, e])
    · omega
set_option maxRecDepth 100000 in
set_option maxHeartbeats 4000000 in
theorem const_run {w : World} {base P : Nat} {l : List DB} {vn vk vz vb : Value} (rep : PRep w base P l vn vk vz vb) (hl : l.length ≤ 1000) (hok : DsOk (dcs l)) {A : Nat → Prop} {ts : List Rf.Tr} (hs : Sub w A vb ts) (hA : ∀ k, A k → k < w.heap.size) (ht : TsOk (dcs l) ts) (h3 : (secL (dcs l)).length ≤ 3) (k : Nat) (hk : k ≤ 10) :
    Calls Tryz.prog 8 #[.pointer (some ⟨P, 0, none⟩), .int .i64 k] w fun e w' => ∃ b : Bool, e = .returned (.bool b) ∧ (b = true ↔ ∀ x, x < 16 ^ (secL (dcs l)).length → OKx (dcs l) ts k x) ∧ Below w.heap.size w w' := by
  obtain ⟨t0, ht0, hz0, hz1, hz2⟩ := info_parts Tryz.infoInt
  have REP := hid rep
  have HOK := hid hok
  have HS := hid hs
  have HAA := hid hA
  have HT := hid ht
  have HLEN := hid (secL_len (dcs l))
  have HLN := hid hl
  clear rep hok hs hA ht
  obtain ⟨S, hS⟩ : ∃ S, secL (dcs l) = S := ⟨_, rfl⟩
  have HSS := hid hS
  have OKE : Hid (∀ x, OKx (dcs l) ts k x ↔ (Pr.anyS S (Pr.dg S.length x) = true → tellL (dcs l) (Tm.start (dcs l) ts (Pr.dg S.length x)) k = tellL (dcs l) (Tm.start (dcs l) ts (Pr.zr S (Pr.dg S.length x))) k)) := by
    intro x
    rw [← hS]
    exact Iff.rfl
  rw [hS] at h3 HLEN
  rw [hS]
  obtain ⟨n, hn⟩ : ∃ n, S.length = n := ⟨_, rfl⟩
  have HN := hid hn
  rw [hn] at h3 HLEN
  rw [hn]
  rw [hn] at OKE
  obtain ⟨M, hM⟩ : ∃ M, 16 ^ n = M := ⟨_, rfl⟩
  have HM := hid hM
  have hM4 : M ≤ 4096 := by rw [← hM]; exact pow16 h3
  have hMI : (M : Int) ≤ 4096 := by omega
  have hnI : (n : Int) ≤ 3 := by omega
  have hkI : (k : Int) ≤ 10 := by omega
  obtain ⟨OK, hOK⟩ : ∃ OK : Nat → Prop, OK = OKx (dcs l) ts k := ⟨_, rfl⟩
  rw [hM, ← hOK]
  rw [← hOK] at OKE
  clear hS hn hM hOK
  go_enter Tryz.func8, Tryz.ntmps8
  go_wp2_with (first
    | (go_at_call 22; refine (secrets_run REP.out HLN.out).mono ?_; rintro e w1 ⟨as_, cs_, he, ho1, hb1⟩; rw [HSS.out, HN.out] at he; rw [HSS.out, HN.out] at ho1; subst he; have HO1 := hid ho1; have HB1 := hid hb1; have z1 := hb1.size; clear ho1 hb1))
  go_loopw [6, 7] (fun nv c wr => ∃ i : Nat, i ≤ n ∧ c = .int .i64 i ∧ nv = .int .i64 ((16 ^ i : Nat) : Int) ∧ Below w1.heap.size w1 wr) (fun _ c _ => n - (intOf c).toNat)
  case atStart => exact ⟨0, Nat.zero_le _, rfl, rfl, Below.refl _ _⟩
  case round =>
    obtain ⟨i, hil, rfl, rfl, hbel1⟩ := hrel
    have HBA := hid hbel1
    clear hbel1
    by_cases hlt : i < n
    · obtain ⟨q, hq⟩ : ∃ q, 16 ^ i = q := ⟨_, rfl⟩
      have hq4 : q ≤ 4096 := by rw [← hq]; exact pow16 (by omega)
      have hqI : (q : Int) ≤ 4096 := by omega
      have HQ := hid (show 16 ^ (i + 1) = q * 16 by rw [Nat.pow_succ, hq])
      rw [hq]
      clear hq
      go_wp2_with fail
      go_roundw
      case rel => exact ⟨i + 1, by omega, by go_num, by rw [HQ.out]; go_num, HBA.out⟩
      case measure => simp [intOf]; omega
    · have hie : i = n := by omega
      rw [hie, HM.out]
      clear hie hlt
      go_wp2_with fail
      go_loopw [8] (fun c wr2 => ∃ x : Nat, x ≤ M ∧ c = .int .i64 x ∧ (∀ y, y < x → OK y) ∧ Below w1.heap.size w1 wr2) (fun c _ => M - (intOf c).toNat)
      case atStart => exact ⟨0, Nat.zero_le _, rfl, fun y hy => absurd hy (by omega), HBA.out⟩
      case round =>
        obtain ⟨x, hxM, rfl, hall, hbel⟩ := hrel
        have HALL := hid hall
        have HB := hid hbel
        clear hall hbel
        by_cases hltx : x < M
        · go_wp2_with fail
          go_loopw [9, 10, 11, 12, 13] (fun va vz lf sm c wq => ∃ i : Nat, i ≤ n ∧ c = .int .i64 i ∧ lf = .int .i64 ((x / 16 ^ i : Nat) : Int) ∧ sm = .bool (Pr.anyS (S.take i) (Pr.dg i x)) ∧ Two 0 w1 wq i (Pr.dg i x) (Pr.zr (S.take i) (Pr.dg i x)) va vz) (fun _ _ _ _ c _ => n - (intOf c).toNat)
          case atStart => exact ⟨0, Nat.zero_le _, rfl, by simp, rfl, ⟨HB.out, World.ownsRow_nil _ _ _ _, World.ownsRow_nil _ _ _ _, .inl rfl⟩⟩
          case round =>
            obtain ⟨i, hil, rfl, rfl, rfl, htw⟩ := hrel
            have TW := hid htw
            obtain ⟨aa, ca, ea⟩ := body_val htw.oa
            obtain ⟨ab, cb, eb⟩ := body_val htw.ob
            subst ea eb
            have hbq := htw.bel
            have zq := hbq.size
            by_cases hlt3 : i < n
            · have hiS : i < S.length := by rw [HN.out]; exact hlt3
              obtain ⟨gs, cs', hvs, hsc⟩ := bool_own (S := S) (by rw [HN.out]; exact HO1.out) hiS
              rw [HN.out] at hvs
              have has := (slice_inj hvs).1
              subst has
              have hgsl := World.block_lt_of_cell? w1 _ hsc
              obtain ⟨y, hy⟩ : ∃ y, x / 16 ^ i = y := ⟨_, rfl⟩
              have hyx : y ≤ x := by rw [← hy]; exact Nat.div_le_self _ _
              have HDG := hid (show Pr.dg (i + 1) x = Pr.dg i x ++ [y % 16] by rw [Pr.dg_succ, hy])
              have HY1 := hid (show x / 16 ^ (i + 1) = y / 16 by rw [Nat.pow_succ, ← Nat.div_div_eq_div_mul, hy])
              have htk : S.take (i + 1) = S.take i ++ [S.getD i false] := by
                rw [List.take_succ_eq_append_getElem hiS]
                simp [hiS]
              have hdl : (Pr.dg i x).length = (S.take i).length := by rw [Pr.dg_len, List.length_take]; omega
              have hzr : Pr.zr (S.take (i + 1)) (Pr.dg (i + 1) x) = Pr.zr (S.take i) (Pr.dg i x) ++ [if S.getD i false = true then 0 else y % 16] := by rw [htk, HDG.out, Pr.zr_app _ _ hdl]
              have hany : Pr.anyS (S.take (i + 1)) (Pr.dg (i + 1) x) = (Pr.anyS (S.take i) (Pr.dg i x) || (S.getD i false && decide (0 < y % 16))) := by rw [htk, HDG.out, Pr.anyS_app _ _ hdl]
              rw [hy]
              generalize S.getD i false = b at hsc hzr hany
              have hyI : (y : Int) ≤ 4096 := by omega
              have hyJ : (0 : Int) ≤ (y : Int) := by omega
              clear hy htk hdl hvs htw hbq
              cases b with
              | false =>
                have HZR := hid (show Pr.zr (S.take (i + 1)) (Pr.dg (i + 1) x) = Pr.zr (S.take i) (Pr.dg i x) ++ [y % 16] from hzr)
                have HANY := hid (show Pr.anyS (S.take (i + 1)) (Pr.dg (i + 1) x) = Pr.anyS (S.take i) (Pr.dg i x) by rw [hany]; simp)
                clear hzr hany
                go_wp2_with (at_builtin; refine wpList_append_lies _ rfl _ _ 24 rfl w1.heap.size 3 t0 _ 1 8 Tryz.underlying24 ht0 hz0 hz1 hz2 rfl (by omega) _ i ((Pr.dg i x).map fun (n : Nat) => .int .i64 n) rfl (TW.out.oa.alloc _) ⟨wr.heap.size, 0, none⟩ 1 1 [.int .i64 ((y % 16 : Nat) : Int)] rfl rfl (cell_one_new _ _ _) (by simp [Value.oneCell']) (by omega) (by unfold maxLen; omega) (by omega) (by simp; omega) (wr.heap.size + 1) (by simp) ?_; intro g2 cap2 w3 hown3 hgrow3 hat3 hlt3'; have hf := TW.out.first (x := y % 16) (by rw [List.map_append]; exact hown3) hgrow3 hat3; have HF := hid hf; have HO3 := hid hown3; have zb := hf.1.size; have zw := hf.2.2.2; have ys := (World.cell?_of_block (hf.1.block gs hgsl)).trans hsc; clear hown3 hgrow3 hat3 hf; refine Hid.out ?_)
                refine hid ?_
                go_wp2_with (at_builtin; refine wpList_append_lies _ rfl _ _ 24 rfl w1.heap.size 3 t0 _ 1 8 Tryz.underlying24 ht0 hz0 hz1 hz2 rfl (by omega) _ i ((Pr.zr (S.take i) (Pr.dg i x)).map fun (n : Nat) => .int .i64 n) rfl (HF.out.2.1.alloc _) ⟨w3.heap.size, 0, none⟩ 1 1 [.int .i64 ((y % 16 : Nat) : Int)] rfl rfl (cell_one_new _ _ _) (by simp [Value.oneCell']) (by omega) (by unfold maxLen; omega) (by omega) (by simp; omega) (w3.heap.size + 1) (by simp) ?_; intro g4 cap4 w4 hown4 hgrow4 hat4 hlt4)
                go_roundw
                case rel => exact ⟨i + 1, by omega, by go_num, by rw [HY1.out]; go_num, by rw [HANY.out], two_next HF.out HO3.out HDG.out HZR.out (by rw [List.map_append]; rfl) (by rw [List.map_append]; exact hown4) hgrow4 hat4⟩
                case measure => simp [intOf]; omega
              | true =>
                have HZR := hid (show Pr.zr (S.take (i + 1)) (Pr.dg (i + 1) x) = Pr.zr (S.take i) (Pr.dg i x) ++ [0] from hzr)
                have HANY := hid (show Pr.anyS (S.take (i + 1)) (Pr.dg (i + 1) x) = (Pr.anyS (S.take i) (Pr.dg i x) || decide (0 < y % 16)) by rw [hany]; simp)
                clear hzr hany
                generalize Pr.anyS (S.take i) (Pr.dg i x) = sm at HANY ⊢
                cases sm with
                | true =>
                  go_wp2_with (at_builtin; refine wpList_append_lies _ rfl _ _ 24 rfl w1.heap.size 3 t0 _ 1 8 Tryz.underlying24 ht0 hz0 hz1 hz2 rfl (by omega) _ i ((Pr.dg i x).map fun (n : Nat) => .int .i64 n) rfl (TW.out.oa.alloc _) ⟨wr.heap.size, 0, none⟩ 1 1 [.int .i64 ((y % 16 : Nat) : Int)] rfl rfl (cell_one_new _ _ _) (by simp [Value.oneCell']) (by omega) (by unfold maxLen; omega) (by omega) (by simp; omega) (wr.heap.size + 1) (by simp) ?_; intro g2 cap2 w3 hown3 hgrow3 hat3 hlt3'; have hf := TW.out.first (x := y % 16) (by rw [List.map_append]; exact hown3) hgrow3 hat3; have HF := hid hf; have HO3 := hid hown3; have zb := hf.1.size; have zw := hf.2.2.2; have ys := (World.cell?_of_block (hf.1.block gs hgsl)).trans hsc; clear hown3 hgrow3 hat3 hf; refine Hid.out ?_)
                  refine hid ?_
                  go_wp2_with (at_builtin; refine wpList_append_lies _ rfl _ _ 24 rfl w1.heap.size 3 t0 _ 1 8 Tryz.underlying24 ht0 hz0 hz1 hz2 rfl (by omega) _ i ((Pr.zr (S.take i) (Pr.dg i x)).map fun (n : Nat) => .int .i64 n) rfl (HF.out.2.1.alloc _) ⟨w3.heap.size, 0, none⟩ 1 1 [.int .i64 0] rfl rfl (cell_one_new _ _ _) (by simp [Value.oneCell']) (by omega) (by unfold maxLen; omega) (by omega) (by simp; omega) (w3.heap.size + 1) (by simp) ?_; intro g4 cap4 w4 hown4 hgrow4 hat4 hlt4)
                  go_roundw
                  case rel => exact ⟨i + 1, by omega, by go_num, by rw [HY1.out]; go_num, by rw [HANY.out]; rfl, two_next HF.out HO3.out HDG.out HZR.out (by rw [List.map_append]; rfl) (by rw [List.map_append]; exact hown4) hgrow4 hat4⟩
                  case measure => simp [intOf]; omega
                | false =>
                  by_cases hd : 0 < y % 16
                  · have hdI : (0 : Int) < (y : Int) % 16 := by omega
                    go_wp2_with (at_builtin; refine wpList_append_lies _ rfl _ _ 24 rfl w1.heap.size 3 t0 _ 1 8 Tryz.underlying24 ht0 hz0 hz1 hz2 rfl (by omega) _ i ((Pr.dg i x).map fun (n : Nat) => .int .i64 n) rfl (TW.out.oa.alloc _) ⟨wr.heap.size, 0, none⟩ 1 1 [.int .i64 ((y % 16 : Nat) : Int)] rfl rfl (cell_one_new _ _ _) (by simp [Value.oneCell']) (by omega) (by unfold maxLen; omega) (by omega) (by simp; omega) (wr.heap.size + 1) (by simp) ?_; intro g2 cap2 w3 hown3 hgrow3 hat3 hlt3'; have hf := TW.out.first (x := y % 16) (by rw [List.map_append]; exact hown3) hgrow3 hat3; have HF := hid hf; have HO3 := hid hown3; have zb := hf.1.size; have zw := hf.2.2.2; have ys := (World.cell?_of_block (hf.1.block gs hgsl)).trans hsc; clear hown3 hgrow3 hat3 hf; refine Hid.out ?_)
                    refine hid ?_
                    go_wp2_with (at_builtin; refine wpList_append_lies _ rfl _ _ 24 rfl w1.heap.size 3 t0 _ 1 8 Tryz.underlying24 ht0 hz0 hz1 hz2 rfl (by omega) _ i ((Pr.zr (S.take i) (Pr.dg i x)).map fun (n : Nat) => .int .i64 n) rfl (HF.out.2.1.alloc _) ⟨w3.heap.size, 0, none⟩ 1 1 [.int .i64 0] rfl rfl (cell_one_new _ _ _) (by simp [Value.oneCell']) (by omega) (by unfold maxLen; omega) (by omega) (by simp; omega) (w3.heap.size + 1) (by simp) ?_; intro g4 cap4 w4 hown4 hgrow4 hat4 hlt4)
                    go_roundw
                    case rel => exact ⟨i + 1, by omega, by go_num, by rw [HY1.out]; go_num, by rw [HANY.out]; simp [hd], two_next HF.out HO3.out HDG.out HZR.out (by rw [List.map_append]; rfl) (by rw [List.map_append]; exact hown4) hgrow4 hat4⟩
                    case measure => simp [intOf]; omega
                  · have hdI : ¬ (0 : Int) < (y : Int) % 16 := by omega
                    go_wp2_with (at_builtin; refine wpList_append_lies _ rfl _ _ 24 rfl w1.heap.size 3 t0 _ 1 8 Tryz.underlying24 ht0 hz0 hz1 hz2 rfl (by omega) _ i ((Pr.dg i x).map fun (n : Nat) => .int .i64 n) rfl (TW.out.oa.alloc _) ⟨wr.heap.size, 0, none⟩ 1 1 [.int .i64 ((y % 16 : Nat) : Int)] rfl rfl (cell_one_new _ _ _) (by simp [Value.oneCell']) (by omega) (by unfold maxLen; omega) (by omega) (by simp; omega) (wr.heap.size + 1) (by simp) ?_; intro g2 cap2 w3 hown3 hgrow3 hat3 hlt3'; have hf := TW.out.first (x := y % 16) (by rw [List.map_append]; exact hown3) hgrow3 hat3; have HF := hid hf; have HO3 := hid hown3; have zb := hf.1.size; have zw := hf.2.2.2; have ys := (World.cell?_of_block (hf.1.block gs hgsl)).trans hsc; clear hown3 hgrow3 hat3 hf; refine Hid.out ?_)
                    refine hid ?_
                    go_wp2_with (at_builtin; refine wpList_append_lies _ rfl _ _ 24 rfl w1.heap.size 3 t0 _ 1 8 Tryz.underlying24 ht0 hz0 hz1 hz2 rfl (by omega) _ i ((Pr.zr (S.take i) (Pr.dg i x)).map fun (n : Nat) => .int .i64 n) rfl (HF.out.2.1.alloc _) ⟨w3.heap.size, 0, none⟩ 1 1 [.int .i64 0] rfl rfl (cell_one_new _ _ _) (by simp [Value.oneCell']) (by omega) (by unfold maxLen; omega) (by omega) (by simp; omega) (w3.heap.size + 1) (by simp) ?_; intro g4 cap4 w4 hown4 hgrow4 hat4 hlt4)
                    go_roundw
                    case rel => exact ⟨i + 1, by omega, by go_num, by rw [HY1.out]; go_num, by rw [HANY.out]; simp [hd]; omega, two_next HF.out HO3.out HDG.out HZR.out (by rw [List.map_append]; rfl) (by rw [List.map_append]; exact hown4) hgrow4 hat4⟩
                    case measure => simp [intOf]; omega
            · have hie : n = i := by omega
              subst hie
              have hST : S.take n = S := by rw [← HN.out, List.take_length]
              rw [hST] at TW ⊢
              have ALLX : Hid (OK x → ∀ y, y < x + 1 → OK y) := fun h y hy => by
                by_cases e : y = x
                · rw [e]; exact h
                · exact HALL.out y (by omega)
              clear hST htw hbq hlt3 hil
              generalize hsm : Pr.anyS S (Pr.dg n x) = sm
              have HSM := hid hsm
              cases sm with
              | false =>
                have HOKX := hid ((OKE.out x).2 (fun h => by rw [hsm] at h; cases h))
                clear hsm
                go_wp2_with fail
                go_roundw
                case rel => exact ⟨x + 1, by omega, by go_num, ALLX.out HOKX.out, TW.out.bel⟩
                case measure => simp [intOf]; omega
              | true =>
                clear hsm
                have HB0 := hid (HB1.out.trans (TW.out.bel.mono z1))
                have RP := hid (rep_later REP.out HB0.out)
                have SB := hid (sub_old HS.out HAA.out HB0.out)
                have IA := hid (InAt.ofOwn (ints_own TW.out.oa))
                have IB := hid (InAt.ofOwn (ints_own TW.out.ob))
                have z0 := HB0.out.size
                have zn : (Pr.zr S (Pr.dg n x)).length = n := by rw [Pr.zr_len _ _ (by rw [Pr.dg_len, HN.out]), HN.out]
                have ZN := hid zn
                obtain ⟨X, hX⟩ : ∃ X, tellL (dcs l) (Tm.start (dcs l) ts (Pr.dg n x)) k = X := ⟨_, rfl⟩
                obtain ⟨Y, hY⟩ : ∃ Y, tellL (dcs l) (Tm.start (dcs l) ts (Pr.zr S (Pr.dg n x))) k = Y := ⟨_, rfl⟩
                have hXl : X.length = k := by rw [← hX, tellL_len]
                have hYl : Y.length = k := by rw [← hY, tellL_len]
                have HX := hid hX
                have HY := hid hY
                have XL := hid hXl
                have YL := hid hYl
                clear hX hY hXl hYl zn
                go_wp2_with (go_at_call 23; refine (tells_run RP.out HLN.out HOK.out SB.out HT.out (Pr.dg n x) (Pr.dg_lt n x) ((Pr.dg_len n x).trans HLEN.out) _ IA.out k hk).mono ?_; rintro e w2 ⟨a2, c2, rfl, ho2, hb2⟩; rw [HX.out] at ho2; have HO2 := hid ho2; have HB2 := hid hb2; have z2 := hb2.size; clear ho2 hb2; refine Hid.out ?_)
                refine hid ?_
                have HBW := hid (HB0.out.trans (HB2.out.mono z0))
                have RP2 := hid (rep_later REP.out HBW.out)
                have SB2 := hid (sub_old HS.out HAA.out HBW.out)
                have IB2 := hid (IB.out.later HB2.out.block)
                go_wp2_with (go_at_call 23; refine (tells_run RP2.out HLN.out HOK.out SB2.out HT.out (Pr.zr S (Pr.dg n x)) (Pr.zr_lt S _ (Pr.dg_lt n x)) (ZN.out.trans HLEN.out) _ IB2.out k hk).mono ?_; rintro e w3 ⟨a3, c3, rfl, ho3, hb3⟩; rw [HY.out] at ho3; have HO3 := hid ho3; have HB3 := hid hb3; have z3 := hb3.size; clear ho3 hb3; refine Hid.out ?_)
                refine hid ?_
                have JA := hid ((InAt.ofOwn (ints_own HO2.out)).later HB3.out.block)
                have JB := hid (InAt.ofOwn (ints_own HO3.out))
                go_wp2_with (go_at_call 24; refine (rsame_any _ _ (ints X) (ints Y) _ JA.out JB.out (by rw [ints_len, XL.out]; omega) (by rw [ints_len, ints_len, XL.out, YL.out])).mono ?_; rintro e w4 ⟨bq, rfl, hbq, hb4⟩; have HQ := hid (hbq.trans (ints_same (XL.out.trans YL.out.symm))); have HB4 := hid hb4; clear hbq hb4; refine Hid.out ?_)
                refine hid ?_
                have z4 := HB4.out.size
                cases bq with
                | true =>
                  have HOKX := hid ((OKE.out x).2 (fun _ => by rw [HX.out, HY.out]; exact HQ.out.1 rfl))
                  go_wp2_with fail
                  go_roundw
                  case rel => exact ⟨x + 1, by omega, by go_num, ALLX.out HOKX.out, ((TW.out.bel.trans (HB2.out.mono (TW.out.bel.size))).trans (HB3.out.mono (by have := TW.out.bel.size; omega))).trans (HB4.out.mono (by have := TW.out.bel.size; omega))⟩
                  case measure => simp [intOf]; omega
                | false =>
                  go_wp2_with fail
                  go_ret
                  refine ⟨false, rfl, ⟨fun h => (by cases h), fun h => ?_⟩, (HBW.out.trans (HB3.out.mono (by omega))).trans (HB4.out.mono (by omega))⟩
                  have h1 := (OKE.out x).1 (h x hltx) HSM.out
                  rw [HX.out, HY.out] at h1
                  exact absurd (HQ.out.2 h1) (by simp)
        · have hxe : x = M := by omega
          have HE := hid hxe
          clear hxe
          go_wp2_with fail
          go_ret
          exact ⟨true, rfl, ⟨fun _ y hy => HALL.out y (by rw [HE.out]; exact hy), fun _ => rfl⟩, HB1.out.trans (HB.out.mono z1)⟩
end Go.Proofs.YtgddmpmcnjlcjaaGreatDoor
namespace Go.Proofs.YtgddmpmcnjlcjaaGreatDoor
open Go.RowKit
set_option linter.unusedVariables false
set_option maxRecDepth 100000 in
set_option maxHeartbeats 1000000 in
theorem bounded_no (k n c : Int) (w : World) (h : wi k 10 = false ∨ wi n 1048576 = false ∨ wi c 1048576 = false) :
    Calls Tryz.prog 13 #[.int .i64 k, .agg #[.int .i64 n, .int .i64 c]] w fun e w' => e = .returned (.bool false) ∧ Below w.heap.size w w' := by
  have H := hid h
  clear h
  by_cases h1 : k < 0
  · go_enter Tryz.func13, Tryz.ntmps13
    go_wp2
    go_ret
    exact ⟨rfl, (Below.refl _ _).alloc (Nat.le_refl _) _⟩
  · by_cases h2 : 10 < k
    · go_enter Tryz.func13, Tryz.ntmps13
      go_wp2
      go_ret
      exact ⟨rfl, (Below.refl _ _).alloc (Nat.le_refl _) _⟩
    · by_cases h3 : 0 ≤ n
      · by_cases h4 : n ≤ 1048576
        · by_cases h5 : 0 ≤ c
          · have h6 : ¬ c ≤ 1048576 := by
              intro h6
              rcases H.out with h | h | h
              · exact wi_false h ⟨by omega, by omega⟩
              · exact wi_false h ⟨h3, h4⟩
              · exact wi_false h ⟨h5, h6⟩
            go_enter Tryz.func13, Tryz.ntmps13
            go_wp2
            go_ret
            exact ⟨rfl, (Below.refl _ _).alloc (Nat.le_refl _) _⟩
          · go_enter Tryz.func13, Tryz.ntmps13
            go_wp2
            go_ret
            exact ⟨rfl, (Below.refl _ _).alloc (Nat.le_refl _) _⟩
        · go_enter Tryz.func13, Tryz.ntmps13
          go_wp2
          go_ret
          exact ⟨rfl, (Below.refl _ _).alloc (Nat.le_refl _) _⟩
      · go_enter Tryz.func13, Tryz.ntmps13
        go_wp2
        go_ret
        exact ⟨rfl, (Below.refl _ _).alloc (Nat.le_refl _) _⟩
set_option maxRecDepth 100000 in
set_option maxHeartbeats 1000000 in
theorem bounded_yes (k n c : Int) (w : World) (h1 : wi k 10 = true) (h2 : wi n 1048576 = true) (h3 : wi c 1048576 = true) :
    Calls Tryz.prog 13 #[.int .i64 k, .agg #[.int .i64 n, .int .i64 c]] w fun e w' => e = .returned (.bool true) ∧ Below w.heap.size w w' := by
  obtain ⟨a1, a2⟩ := wi_true h1
  obtain ⟨b1, b2⟩ := wi_true h2
  obtain ⟨c1, c2⟩ := wi_true h3
  clear h1 h2 h3
  have a3 : ¬ k < 0 := by omega
  have a4 : ¬ 10 < k := by omega
  go_enter Tryz.func13, Tryz.ntmps13
  go_wp2
  go_ret
  exact ⟨rfl, (Below.refl _ _).alloc (Nat.le_refl _) _⟩
end Go.Proofs.YtgddmpmcnjlcjaaGreatDoor
namespace Go.Proofs.YtgddmpmcnjlcjaaGreatDoor
open Go.RowKit
open Tm (TsOk DsOk Wd16)
set_option linter.unusedVariables false
theorem const_iff {t : Lk.Wd} {ds : List Rf.Dc} {ts : List Rf.Tr} (h : (Lk.read t).2 = 0) (hr : Rf.read t = (some (ds, ts), 0)) (k : Nat) : (∀ x, x < 16 ^ (secL ds).length → OKx ds ts k x) ↔ ¬ (Pr.fd (pgOf t) k).al < k := by
  have nr := (Tm.read_laid h hr).2
  have hsec : (pgOf t).sec = secL ds := nr.sec
  have te : ∀ vs : List Nat, vs.length = (secL ds).length → tellL ds (Tm.start ds ts vs) k = Pr.tl (pgOf t) k vs := fun vs hv => (tells_eq h hr vs (by rw [hv, ← hsec]; rfl) k).symm
  constructor
  · intro ha hlt
    obtain ⟨x, hx, hany, hne⟩ := Pr.fd_insecure hlt
    rw [hsec] at hx hany hne
    have h1 := ha x hx hany
    rw [te _ (Pr.dg_len _ _), te _ (Pr.zr_len _ _ (Pr.dg_len _ _))] at h1
    exact hne h1
  · intro hn x hx hany
    rw [te _ (Pr.dg_len _ _), te _ (Pr.zr_len _ _ (Pr.dg_len _ _))]
    have h1 := Pr.fd_secure hn (Pr.dg (secL ds).length x) (by rw [Pr.dg_len, hsec]) (Pr.dg_lt _ _)
    rw [hsec] at h1
    exact h1
section
variable (s : ByteArray) (k : Int) (w : World)
set_option maxRecDepth 100000 in
set_option maxHeartbeats 1000000 in
theorem prog_nil (h : wi k 10 = false ∨ 600 < s.size ∨ (s.size ≤ 600 ∧ (Rf.readS s.toList).1 = false)) : Calls Tryz.prog 6 #[.string s, .int .i64 k] w fun e w' => e = .returned (.pointer none) ∧ Below w.heap.size w w' := by
  cases hk : wi k 10 with
  | false =>
    go_enter Tryz.func6, Tryz.ntmps6
    go_wp2_with (first
      | (go_at_call 13; refine (bounded_no k 0 0 _ (.inl hk)).mono ?_; rintro e w5 ⟨rfl, hb5⟩; have HB5 := hid hb5; clear hb5))
    go_ret
    exact ⟨rfl, HB5.out⟩
  | true =>
    by_cases h6 : 600 < s.size
    · have h6I : (600 : Int) < (s.size : Int) := by omega
      go_enter Tryz.func6, Tryz.ntmps6
      go_wp2_with (first
        | (go_at_call 13; refine (bounded_yes k 0 0 _ hk (by decide) (by decide)).mono ?_; rintro e w5 ⟨rfl, hb5⟩; have HB5 := hid hb5; clear hb5))
      go_ret
      exact ⟨rfl, HB5.out⟩
    · have h6I : ¬ (600 : Int) < (s.size : Int) := by omega
      have hs6 : s.size ≤ 600 := by omega
      have hr : (Rf.readS s.toList).1 = false := by
        rcases h with h | h | h
        · rw [hk] at h; cases h
        · omega
        · exact h.2
      have HR := hid hr
      clear h hr
      go_enter Tryz.func6, Tryz.ntmps6
      go_wp2_with (first
        | (go_at_call 13; refine (bounded_yes k 0 0 _ hk (by decide) (by decide)).mono ?_; rintro e w5 ⟨rfl, hb5⟩; have HB5 := hid hb5; have z5 := hb5.size; clear hb5)
        | (go_at_call 14; refine (refRead_any s hs6 _).mono ?_; rintro e w6 hr6; obtain ⟨_, he⟩ := hr6.2.1 HR.out; subst he; have HB6 := hid hr6.1; clear hr6))
      go_ret
      exact ⟨rfl, HB5.out.trans (HB6.out.mono z5)⟩
set_option maxRecDepth 100000 in
set_option maxHeartbeats 1000000 in
theorem prog_some (hk : wi k 10 = true) (hs6 : s.size ≤ 600) (ds : List Rf.Dc) (ts : List Rf.Tr) (rp : ∀ w : World, Calls Tryz.prog 14 #[.string s] w fun e w' => e = .returned (.tuple #[.pointer (some ⟨w.heap.size, 0, none⟩), .int .i64 0]) ∧ Below w.heap.size w w' ∧ ProgAt w w' ds ts) :
    Calls Tryz.prog 6 #[.string s, .int .i64 k] w fun e w' => ∃ w5 : World, e = .returned (.pointer (some ⟨w5.heap.size, 0, none⟩)) ∧ Below w.heap.size w w' ∧ ProgAt w5 w' ds ts := by
  have RP := hid rp
  have h6I : ¬ (600 : Int) < (s.size : Int) := by omega
  clear rp
  go_enter Tryz.func6, Tryz.ntmps6
  go_wp2_with (first
    | (go_at_call 13; refine (bounded_yes k 0 0 _ hk (by decide) (by decide)).mono ?_; rintro e w5 ⟨rfl, hb5⟩; have HB5 := hid hb5; have z5 := hb5.size; clear hb5)
    | (go_at_call 14; refine (RP.out _).mono ?_; rintro e w6 ⟨rfl, hb6, hp6⟩; have HB6 := hid hb6; have HP6 := hid hp6; clear hb6 hp6))
  go_ret
  exact ⟨w5, rfl, HB5.out.trans (HB6.out.mono z5), HP6.out⟩
end
end Go.Proofs.YtgddmpmcnjlcjaaGreatDoor
