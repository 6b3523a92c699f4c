import Derived.Test.YtgddmpmcnjlcjaaGreatDoorB43
import Derived.Deep.RegionWith
namespace Go.Proofs.YtgddmpmcnjlcjaaGreatDoor
open Go.RowKit
open Tm (TsOk DsOk Wd16)
set_option linter.unusedVariables false
theorem InAt.take {w : World} {a : Option Addr} {n c : Nat} {xs : List Int} (h : InAt w (.slice a n c) xs) (m : Nat) (hm : m ≤ xs.length) : InAt w (.slice a m c) (xs.take m) := by
  have hl : (xs.take m).length = m := by rw [List.length_take]; omega
  refine ⟨⟨a, c, by rw [hl]⟩, fun j hj => ?_⟩
  rw [hl] at hj
  obtain ⟨g, off, c', hv, hc⟩ := h.at_ j (by omega)
  have h1 := (slice_inj hv).1
  subst h1
  refine ⟨g, off, c, by rw [hl], ?_⟩
  rw [List.getD_eq_getElem?_getD, List.getElem?_take, if_pos hj, ← List.getD_eq_getElem?_getD]
  exact hc
theorem own_len {w : World} {base k c : Nat} {a : Option Addr} {xs : List Value} (h : w.ownsRow base 3 1 (.slice a k c) k xs) : k ≤ c := by
  rcases h.2 with ⟨e, _⟩ | ⟨g, cap, cur, hv, _, _, hc, _⟩
  · cases e; exact Nat.le_refl _
  · cases hv; exact hc
theorem take_tell (ds : List Rf.Dc) (m : Tm.M) (k t : Nat) (h : t ≤ k) : (ints (tellL ds m k)).take t = ints (tellL ds m t) := by
  unfold ints tellL
  rw [← List.map_take, ← List.map_take, List.take_range, Nat.min_eq_left h]
theorem tellL_at (ds : List Rf.Dc) (m : Tm.M) (k t : Nat) (h : t < k) : (tellL ds m k).getD t 0 = Tm.num ds m t := by
  unfold tellL
  simp [h]
set_option maxRecDepth 100000 in
set_option maxHeartbeats 2000000 in
theorem witness_true {w : World} {base P : Nat} {l : List DB} {vn vk vz vb : Value} (rep : PRep w base P l vn vk vz vb) (hl : l.length ≤ 1000) (hok : DsOk (dcs l)) {A : Nat → Prop} {ts : List Rf.Tr} (hs : Sub w A vb ts) (hA : ∀ k, A k → k < w.heap.size) (ht : TsOk (dcs l) ts) (h3 : (secL (dcs l)).length ≤ 3) (k : Nat) (hk : k ≤ 10)
    (a b : List Nat) (va v2 : Value) (ia : InAt w va (ints a)) (ib : InAt w v2 (ints b)) (la : a.length = (secL (dcs l)).length) (lb : b.length = (secL (dcs l)).length) (a16 : ∀ x ∈ a, x < 16) (b16 : ∀ x ∈ b, x < 16) (pub : ∀ t, t < (secL (dcs l)).length → (secL (dcs l)).getD t false = false → a.getD t 0 = b.getD t 0)
    (at_ : Nat) (hat : at_ < k) (hag : ∀ t, t < at_ → Tm.num (dcs l) (Tm.start (dcs l) ts a) t = Tm.num (dcs l) (Tm.start (dcs l) ts b) t) (hdf : Tm.num (dcs l) (Tm.start (dcs l) ts a) at_ ≠ Tm.num (dcs l) (Tm.start (dcs l) ts b) at_) :
    Calls Tryz.prog 9 #[.pointer (some ⟨P, 0, none⟩), va, v2, .int .i64 at_, .int .i64 k] w fun e w' => e = .returned (.bool true) ∧ Below w.heap.size w w' := by
  obtain ⟨aa, ca, ea⟩ := ia.val
  obtain ⟨ab, cb, eb⟩ := ib.val
  rw [ints_len, la] at ea
  rw [ints_len, lb] at eb
  have REP := hid rep
  have HOK := hid hok
  have HS := hid hs
  have HAA := hid hA
  have HT := hid ht
  have HLN := hid hl
  have IA := hid ia
  have IB := hid ib
  have A16 := hid a16
  have B16 := hid b16
  have HLA := hid (la.trans (secL_len (dcs l)))
  have HLB := hid (lb.trans (secL_len (dcs l)))
  obtain ⟨S, hS⟩ : ∃ S, secL (dcs l) = S := ⟨_, rfl⟩
  have HSS := hid hS
  rw [hS] at la lb pub h3 ea eb
  have HPUB := hid pub
  obtain ⟨n, hn⟩ : ∃ n, S.length = n := ⟨_, rfl⟩
  have HN := hid hn
  rw [hn] at la lb h3 ea eb
  have LA := hid la
  have LB := hid lb
  subst ea eb
  have hnI : (n : Int) ≤ 3 := by omega
  have hkI : (k : Int) ≤ 10 := by omega
  have haI : (at_ : Int) < (k : Int) := by omega
  have ha0 : (0 : Int) ≤ (at_ : Int) := by omega
  have hd1 : decide (k ≤ at_) = false := decide_eq_false (by omega)
  have hd2 : decide ((at_ : Int) < 0) = false := decide_eq_false (by omega)
  have hd3 : decide ((k : Int) ≤ (at_ : Int)) = false := decide_eq_false (by omega)
  have HAG := hid (show tellL (dcs l) (Tm.start (dcs l) ts a) at_ = tellL (dcs l) (Tm.start (dcs l) ts b) at_ from List.map_congr_left (fun t h => hag t (List.mem_range.1 h)))
  have HDF := hid hdf
  clear rep hok hs hA ht hl ia ib a16 b16 pub hS hn hag hdf la lb
  go_enter Tryz.func9, Tryz.ntmps9
  go_wp2_with (first
    | (go_at_call 22; refine (secrets_run REP.out HLN.out).mono ?_; rintro e w1 ⟨as_, cs_, he, ho1, hb1⟩; rw [HSS.out, HN.out] at he; rw [HSS.out, HN.out] at ho1; subst he; have HO1 := hid ho1; have HB1 := hid hb1; have z1 := hb1.size; clear ho1 hb1))
  go_loopw [12] (fun c wr => ∃ i : Nat, i ≤ n ∧ c = .int .i64 i ∧ Below w1.heap.size w1 wr) (fun c _ => n - (intOf c).toNat)
  case atStart => exact ⟨0, Nat.zero_le _, rfl, Below.refl _ _⟩
  case round =>
    obtain ⟨i, hil, rfl, hbel⟩ := hrel
    have HB := hid hbel
    by_cases hlt : i < n
    · have hiS : i < S.length := by rw [HN.out]; exact hlt
      obtain ⟨gs, cs', hvs, hsc⟩ := bool_own (S := S) (by rw [HN.out]; exact HO1.out) hiS
      rw [HN.out] at hvs
      have has := (slice_inj hvs).1
      subst has
      have sc := (World.cell?_of_block (hbel.block gs (World.block_lt_of_cell? w1 _ hsc))).trans hsc
      obtain ⟨ga, oa, ca', hva, ica⟩ := IA.out.at_ i (by rw [ints_len, LA.out]; exact hlt)
      obtain ⟨gb, ob, cb', hvb, icb⟩ := IB.out.at_ i (by rw [ints_len, LB.out]; exact hlt)
      have h1 := (slice_inj hva).1
      have h2 := (slice_inj hvb).1
      subst h1 h2
      have hb0 := HB1.out.trans (hbel.mono z1)
      have ya := (World.cell?_of_block (hb0.block ga (World.block_lt_of_cell? w _ ica))).trans ica
      have yb := (World.cell?_of_block (hb0.block gb (World.block_lt_of_cell? w _ icb))).trans icb
      rw [ints_at] at ya yb
      have hp := HPUB.out i hiS
      have hx16 : a.getD i 0 < 16 := by
        have h : i < a.length := by rw [LA.out]; exact hlt
        have e : a.getD i 0 = a[i] := by simp [h]
        rw [e]; exact A16.out _ (List.getElem_mem h)
      have hy16 : b.getD i 0 < 16 := by
        have h : i < b.length := by rw [LB.out]; exact hlt
        have e : b.getD i 0 = b[i] := by simp [h]
        rw [e]; exact B16.out _ (List.getElem_mem h)
      generalize a.getD i 0 = x at ya hp hx16
      generalize b.getD i 0 = y at yb hp hy16
      generalize S.getD i false = q at sc hp
      have hxI : (x : Int) < 16 := by omega
      have hyI : (y : Int) < 16 := by omega
      have hx0 : ¬ (x : Int) < 0 := by omega
      have hy0 : ¬ (y : Int) < 0 := by omega
      have hxJ : ¬ (16 : Int) ≤ (x : Int) := by omega
      have hyJ : ¬ (16 : Int) ≤ (y : Int) := by omega
      have dx0 : decide ((x : Int) < 0) = false := decide_eq_false hx0
      have dy0 : decide ((y : Int) < 0) = false := decide_eq_false hy0
      have dx1 : decide ((16 : Int) ≤ (x : Int)) = false := decide_eq_false hxJ
      have dy1 : decide ((16 : Int) ≤ (y : Int)) = false := decide_eq_false hyJ
      have ex1 : decide (16 ≤ x) = false := decide_eq_false (by omega)
      have ey1 : decide (16 ≤ y) = false := decide_eq_false (by omega)
      clear hbel hb0 ica icb hva hvb hvs hsc
      cases q with
      | false =>
        have e := hp rfl
        subst e
        clear hp
        go_wp2_with fail
        go_cut [88] from 39 to 88 (fun sv wc => sv = .bool false ∧ Below w1.heap.size w1 wc)
        case first =>
          go_quiet (fail)
          go_wp2_with fail
          go_meet
          exact ⟨by first | rfl | (simp; omega), below_drewN HB.out _⟩
        case rest =>
          obtain ⟨rfl, hbc⟩ := hcut
          have HC := hid hbc
          clear hbc
          go_wp2_with fail
          go_roundw
          case rel => exact ⟨i + 1, by omega, by go_num, HC.out⟩
          case measure => simp [intOf]; omega
      | true =>
        clear hp
        go_wp2_with fail
        go_cut [88] from 39 to 88 (fun sv wc => sv = .bool false ∧ Below w1.heap.size w1 wc)
        case first =>
          go_quiet (fail)
          go_wp2_with fail
          go_meet
          exact ⟨by first | rfl | (simp; omega), below_drewN HB.out _⟩
        case rest =>
          obtain ⟨rfl, hbc⟩ := hcut
          have HC := hid hbc
          clear hbc
          go_wp2_with fail
          go_roundw
          case rel => exact ⟨i + 1, by omega, by go_num, HC.out⟩
          case measure => simp [intOf]; omega
    · have hb0 := HB1.out.trans (hbel.mono z1)
      have z0 := hb0.size
      have HB0 := hid hb0
      have RP := hid (rep_later REP.out hb0)
      have SB := hid (sub_old HS.out HAA.out hb0)
      have IA2 := hid (IA.out.later hb0.block)
      have IB2 := hid (IB.out.later hb0.block)
      clear hbel hb0
      go_wp2_with (go_at_call 23; refine (tells_run RP.out HLN.out HOK.out SB.out HT.out a A16.out HLA.out _ IA2.out k hk).mono ?_; rintro e w2 ⟨a2, c2, rfl, ho2, hb2⟩; have HO2 := hid ho2; have HB2 := hid hb2; have z2 := hb2.size; clear ho2 hb2; refine Hid.out ?_)
      refine hid ?_
      have HBW := hid (HB0.out.trans (HB2.out.mono z0))
      have RP2 := hid (rep_later REP.out HBW.out)
      have SB2 := hid (sub_old HS.out HAA.out HBW.out)
      have IB3 := hid (IB2.out.later HB2.out.block)
      go_wp2_with (go_at_call 23; refine (tells_run RP2.out HLN.out HOK.out SB2.out HT.out b B16.out HLB.out _ IB3.out k hk).mono ?_; rintro e w3 ⟨a3, c3, rfl, ho3, hb3⟩; have HO3 := hid ho3; have HB3 := hid hb3; have z3 := hb3.size; clear ho3 hb3; refine Hid.out ?_)
      refine hid ?_
      have hc2 := own_len HO2.out
      have hc3 := own_len HO3.out
      have c2I : (k : Int) ≤ (c2 : Int) := by omega
      have c3I : (k : Int) ≤ (c3 : Int) := by omega
      have JA := hid ((InAt.ofOwn (ints_own HO2.out)).later HB3.out.block)
      have JB := hid (InAt.ofOwn (ints_own HO3.out))
      have hXl : (ints (tellL (dcs l) (Tm.start (dcs l) ts a) k)).length = k := by rw [ints_len, tellL_len]
      have hYl : (ints (tellL (dcs l) (Tm.start (dcs l) ts b) k)).length = k := by rw [ints_len, tellL_len]
      obtain ⟨g2, o2, c2', hv2, hx2⟩ := JA.out.at_ at_ (by rw [hXl]; exact hat)
      obtain ⟨g3, o3, c3', hv3, hx3⟩ := JB.out.at_ at_ (by rw [hYl]; exact hat)
      have e2 := (slice_inj hv2).1
      have e3 := (slice_inj hv3).1
      subst e2 e3
      rw [ints_at, tellL_at _ _ _ _ hat] at hx2 hx3
      have KA := hid (JA.out.take at_ (by rw [hXl]; omega))
      have KB := hid (JB.out.take at_ (by rw [hYl]; omega))
      have hag2 : (ints (tellL (dcs l) (Tm.start (dcs l) ts a) k)).take at_ = (ints (tellL (dcs l) (Tm.start (dcs l) ts b) k)).take at_ := by
        rw [take_tell _ _ _ _ (by omega), take_tell _ _ _ _ (by omega), HAG.out]
      have hT : ((ints (tellL (dcs l) (Tm.start (dcs l) ts b) k)).take at_).length = at_ := by rw [List.length_take, hYl]; omega
      rw [hag2] at KA
      have HDF2 := HDF.out
      generalize Tm.num (dcs l) (Tm.start (dcs l) ts a) at_ = x at hx2 HDF2
      generalize Tm.num (dcs l) (Tm.start (dcs l) ts b) at_ = y at hx3 HDF2
      have hne : ((x : Int) != (y : Int)) = true := by simp; omega
      have hne2 : ((x : Int) == (y : Int)) = false := by simp; omega
      have ga2 := World.block_lt_of_cell? w3 _ hx2
      have ga3 := World.block_lt_of_cell? w3 _ hx3
      generalize (ints (tellL (dcs l) (Tm.start (dcs l) ts b) k)).take at_ = Z at KA KB hT
      have HTZ := hid hT
      clear hXl hYl hv2 hv3 hag2 hT HDF2
      have hZl : Z.length ≤ 100000 := by rw [HTZ.out]; omega
      have RS : Hid (Calls Tryz.prog 24 #[.slice (some ⟨g2, o2, none⟩) at_ c2, .slice (some ⟨g3, o3, none⟩) at_ c3] w3.drew fun e w' => e = .returned (.bool true) ∧ Below w3.heap.size w3.drew w') :=
        (rsame_any (.slice (some ⟨g2, o2, none⟩) at_ c2) (.slice (some ⟨g3, o3, none⟩) at_ c3) Z Z w3.drew (KA.out.later (fun _ _ => rfl)) (KB.out.later (fun _ _ => rfl)) hZl rfl).mono (fun e w' hh => by
          obtain ⟨b, he, hb, hbel⟩ := hh
          exact ⟨by rw [he, hb.2 (fun _ _ => rfl)], hbel⟩)
      have X2 := hid hx2
      have X3 := hid hx3
      clear hZl hx2 hx3
      go_wp2_with fail
      go_region_with (go_at_call 24; refine RS.out.mono ?_; rintro e w4 ⟨rfl, hb4⟩; have HB4 := hid hb4; have yx := (World.cell?_of_block (hb4.block g2 ga2)).trans X2.out; have yy := (World.cell?_of_block (hb4.block g3 ga3)).trans X3.out; clear hb4)
      all_goals
        go_wp2_with fail
        go_quiet (fail)
        go_wp2_with fail
        go_ret
        refine ⟨rfl, below_drewN (((HBW.out.trans (HB3.out.mono (by omega))).drew).trans (HB4.out.mono (by show w.heap.size ≤ w3.heap.size; omega))) _⟩
end Go.Proofs.YtgddmpmcnjlcjaaGreatDoor
