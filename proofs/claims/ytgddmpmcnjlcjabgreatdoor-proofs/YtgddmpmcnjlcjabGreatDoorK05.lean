import Derived.Test.YtgddmpmcnjlcjabGreatDoorK04
import Derived.Deep.QuietTactic
import Derived.BigQuiet
import Derived.Test.YtgddmpmcnjlcjabGreatDoorK02
import Derived.Deep.LoopGhost
namespace Go.Proofs.YtgddmpmcnjlcjabGreatDoor
open Go.RowKit
set_option linter.unusedVariables false
set_option maxRecDepth 100000 in
set_option maxHeartbeats 1000000 in
theorem rsame_yes (va vb : Value) (xs : List Int) (w : World) (ha : InAt w va xs) (hb : InAt w vb xs) (hl : xs.length ≤ 100000) :
    Calls Tryz.prog 26 #[va, vb] w fun e w' => e = .returned (.bool true) ∧ Below w.heap.size w w' := by
  obtain ⟨aa, ca, ea⟩ := ha.val
  obtain ⟨ab, cb, eb⟩ := hb.val
  have HA := hid ha
  have HB := hid hb
  clear ha hb
  subst ea eb
  have hlI : (xs.length : Int) ≤ 100000 := by omega
  go_enter Tryz.func26, Tryz.ntmps26
  go_wp2_with fail
  go_loopw [5] (fun c wr => ∃ i : Nat, i ≤ xs.length ∧ c = .int .i64 i ∧ Below w.heap.size w wr) (fun c _ => xs.length - (intOf c).toNat)
  case atStart => exact ⟨0, Nat.zero_le _, rfl, Below.refl _ _⟩
  case round =>
    obtain ⟨i, hil, rfl, hbel⟩ := hrel
    have HBL := hid hbel
    by_cases hlt : i < xs.length
    · obtain ⟨ga, oa, ca', hva, ica⟩ := HA.out.at_ i hlt
      obtain ⟨gb, ob, cb', hvb, icb⟩ := HB.out.at_ i hlt
      have h1 := (slice_inj hva).1
      have h2 := (slice_inj hvb).1
      subst h1 h2
      have ya := (World.cell?_of_block (hbel.block ga (World.block_lt_of_cell? w _ ica))).trans ica
      have yb := (World.cell?_of_block (hbel.block gb (World.block_lt_of_cell? w _ icb))).trans icb
      generalize xs.getD i 0 = x at ya yb
      clear hbel ica icb hva hvb
      go_wp2_with fail
      go_quiet (fail)
      go_wp2_with fail
      go_roundw
      case rel => exact ⟨i + 1, by omega, by go_num, below_drewN HBL.out _⟩
      case measure => simp [intOf]; omega
    · clear hbel
      go_wp2_with fail
      go_ret
      exact ⟨rfl, HBL.out⟩
structure TlOk (cs : List (List Int)) (V m at_ : Nat) : Prop where
  len : cs.length = at_ + 4 * m + 1
  d0 : ∀ i, i < m → cs.getD (at_ + 4 * i) [] = [-((V + 2 * m + 1 + i : Nat) : Int), ((V + 1 + i : Nat) : Int), ((V + m + 1 + i : Nat) : Int)]
  d1 : ∀ i, i < m → cs.getD (at_ + 4 * i + 1) [] = [-((V + 2 * m + 1 + i : Nat) : Int), -((V + 1 + i : Nat) : Int), -((V + m + 1 + i : Nat) : Int)]
  d2 : ∀ i, i < m → cs.getD (at_ + 4 * i + 2) [] = [((V + 2 * m + 1 + i : Nat) : Int), -((V + 1 + i : Nat) : Int), ((V + m + 1 + i : Nat) : Int)]
  d3 : ∀ i, i < m → cs.getD (at_ + 4 * i + 3) [] = [((V + 2 * m + 1 + i : Nat) : Int), ((V + 1 + i : Nat) : Int), -((V + m + 1 + i : Nat) : Int)]
  last : cs.getD (at_ + 4 * m) [] = (List.range m).map fun i => ((V + 2 * m + 1 + i : Nat) : Int)
  low : ∀ i, i < at_ → ∀ l ∈ cs.getD i [], l.natAbs ≤ 100000000 ∧ (l.natAbs ≤ V + 2 * m ∨ V + 3 * m < l.natAbs)
  lens : ∀ i, i < at_ → (cs.getD i []).length ≤ 100000
theorem in_new3 (w : World) (x y z : Int) : InAt (w.alloc (.cells #[.int .i64 x, .int .i64 y, .int .i64 z] 3)) (.slice (some ⟨w.heap.size, 0, none⟩) 3 3) [x, y, z] :=
  ⟨⟨_, _, rfl⟩, fun j hj => ⟨w.heap.size, 0, 3, rfl, by
    have h3 : j = 0 ∨ j = 1 ∨ j = 2 := by simp at hj; omega
    rcases h3 with rfl | rfl | rfl
    · exact newAt w _ _ 0 _ rfl
    · exact newAt w _ _ 1 _ rfl
    · exact newAt w _ _ 2 _ rfl⟩⟩
set_option maxRecDepth 100000 in
set_option maxHeartbeats 4000000 in
theorem tail_any (cs : List (List Int)) (V k at_ : Nat) (cv : Value) (w : World) (hk : k ≤ 10) (hV : V ≤ 1000) (hc : ClsAt w cv cs) (ht : TlOk cs V (7 * k) at_) (hat : at_ ≤ 100000000) :
    Calls Tryz.prog 10 #[cv, .int .i64 V, .int .i64 k] w fun e w' => ∃ a c, e = .returned (.tuple #[.slice a at_ c, .bool true]) ∧ ClsAt w' (.slice a at_ c) (cs.take at_) ∧ Below w.heap.size w w' := by
  obtain ⟨t0, ht0, hz0, hz1, hz2⟩ := info_parts Tryz.infoInt
  have hlen := ht.len
  have HT := hid ht
  have HC := hid hc
  obtain ⟨m, hm⟩ : ∃ m, 7 * k = m := ⟨_, rfl⟩
  have hmI : (7 : Int) * (k : Int) = (m : Int) := by omega
  have hm70 : m ≤ 70 := by omega
  rw [hm] at HT hlen
  obtain ⟨a, ca, hcv, hcap⟩ := hc.val
  have hcap2 : at_ ≤ ca := by omega
  clear hcap
  subst hcv
  obtain ⟨gc, oc, cc', uu, h1, _, _⟩ := hc.at_ 0 (by omega)
  have ha := (slice_inj h1).1
  subst ha
  have hcell : ∀ j, j < cs.length → ∃ u, w.cell? ⟨gc, oc + j, none⟩ = some u ∧ InAt w u (cs.getD j []) := fun j hj => by
    obtain ⟨g', off', c'', u, h1, h2, h3⟩ := HC.out.at_ j hj
    have e := Option.some.inj (slice_inj h1).1
    have e1 : g' = gc := by injection e with e1 _ _; exact e1.symm
    have e2 : off' = oc := by injection e with _ e2 _; exact e2.symm
    subst e1 e2
    exact ⟨u, h2, h3⟩
  have HCE := hid hcell
  rw [hlen]
  have hatI : (at_ : Int) ≤ 100000000 := by omega
  clear ht hc h1 hcell hat hk
  go_enter Tryz.func10, Tryz.ntmps10
  go_wp2_with fail
  rw [show (at_ : Int) + 4 * (m : Int) + 1 - 4 * (m : Int) - 1 = (at_ : Int) by omega]
  go_loopg [10, 11, 12, 13, 14, 15, 16, 17, 18, 19] m (fun gk ov iv a1 a2 a3 a4 b1 b2 b3 b4 wr => ∃ (i : Nat), i ≤ m ∧ m ≤ i + gk ∧ iv = .int .i64 i ∧ wr.ownsRow w.heap.size 3 1 ov i ((List.range i).map fun j => .int .i64 ((V + 2 * m + 1 + j : Nat) : Int)) ∧ Below w.heap.size w wr)
  case atStart => exact ⟨0, Nat.zero_le _, by omega, rfl, World.ownsRow_nil _ _ _ _, Below.refl _ _⟩
  case round =>
    obtain ⟨i, hi, hgk, rfl, hown, hbel⟩ := hrel
    have HO := hid hown
    have HBL := hid hbel
    have zb := hbel.size
    by_cases hlt : i < m
    · obtain ⟨u0, c0, i0⟩ := HCE.out (at_ + 4 * i) (by omega)
      obtain ⟨u1, c1, i1⟩ := HCE.out (at_ + 4 * i + 1) (by omega)
      obtain ⟨u2, c2, i2⟩ := HCE.out (at_ + 4 * i + 2) (by omega)
      obtain ⟨u3, c3, i3⟩ := HCE.out (at_ + 4 * i + 3) (by omega)
      rw [HT.out.d0 i hlt] at i0
      rw [HT.out.d1 i hlt] at i1
      rw [HT.out.d2 i hlt] at i2
      rw [HT.out.d3 i hlt] at i3
      have HI0 := hid i0
      have HI1 := hid i1
      have HI2 := hid i2
      have HI3 := hid i3
      have y0 := cell_later hbel c0
      have C1 := hid c1
      have C2 := hid c2
      have C3 := hid c3
      clear hown hbel i0 i1 i2 i3 c0 c1 c2 c3
      go_upto_region 13 with fail
      obtain ⟨A, hA⟩ : ∃ A, V + 1 + i = A := ⟨_, rfl⟩
      obtain ⟨B, hB⟩ : ∃ B, A + m = B := ⟨_, rfl⟩
      obtain ⟨E, hE⟩ : ∃ E, B + m = E := ⟨_, rfl⟩
      obtain ⟨X, hX⟩ : ∃ X, at_ + 4 * i = X := ⟨_, rfl⟩
      rw [show V + 2 * m + 1 + i = E by omega, show V + m + 1 + i = B by omega, hA] at HI0 HI1 HI2 HI3
      rw [hX] at y0 C1 C2 C3
      rw [show (V : Int) + 1 + (i : Int) + (m : Int) + (m : Int) = (E : Int) by omega, show (V : Int) + 1 + (i : Int) + (m : Int) = (B : Int) by omega, show (V : Int) + 1 + (i : Int) = (A : Int) by omega, show (at_ : Int) + 4 * (i : Int) = (X : Int) by omega]
      have hEb : E ≤ 2000 := by omega
      have hBb : B ≤ 2000 := by omega
      have hAb : A ≤ 2000 := by omega
      have hXb : X + 3 < at_ + 4 * m + 1 := by omega
      have HEE := hid (show E = V + 2 * m + 1 + i by omega)
      clear hA hB hE hX
      go_upto_region 14 with (first | (go_at_call 26; refine (rsame_yes _ _ [-(E : Int), (A : Int), (B : Int)] _ (HI0.out.below (HBL.out.alloc zb _)) (in_new3 wr _ _ _) (by simp)).mono ?_; rintro e v0 ⟨rfl, hb⟩; have P0 := hid (((Below.refl wr.heap.size wr).alloc (Nat.le_refl _) _).trans (hb.mono (by simp))); have K0 := hid ((HBL.out.alloc zb _).trans (hb.mono (by simp; omega))); have p0 := P0.out.size; have k0 := K0.out.size; clear hb))
      have y1 := cell_later K0.out C1.out
      go_upto_region 15 with (first | (go_at_call 26; refine (rsame_yes _ _ [-(E : Int), -(A : Int), -(B : Int)] _ (HI1.out.below (K0.out.alloc k0 _)) (in_new3 v0 _ _ _) (by simp)).mono ?_; rintro e v1 ⟨rfl, hb⟩; have P1 := hid ((P0.out.alloc p0 _).trans (hb.mono (by simp; omega))); have p1 := P1.out.size; have K1 := hid ((K0.out.alloc k0 _).trans (hb.mono (by simp; omega))); have k1 := K1.out.size; clear hb))
      have y2 := cell_later K1.out C2.out
      go_upto_region 16 with (first | (go_at_call 26; refine (rsame_yes _ _ [(E : Int), -(A : Int), (B : Int)] _ (HI2.out.below (K1.out.alloc k1 _)) (in_new3 v1 _ _ _) (by simp)).mono ?_; rintro e v2 ⟨rfl, hb⟩; have P2 := hid ((P1.out.alloc p1 _).trans (hb.mono (by simp; omega))); have p2 := P2.out.size; have K2 := hid ((K1.out.alloc k1 _).trans (hb.mono (by simp; omega))); have k2 := K2.out.size; clear hb))
      have y3 := cell_later K2.out C3.out
      go_upto_region 17 with (first | (go_at_call 26; refine (rsame_yes _ _ [(E : Int), (A : Int), -(B : Int)] _ (HI3.out.below (K2.out.alloc k2 _)) (in_new3 v2 _ _ _) (by simp)).mono ?_; rintro e v3 ⟨rfl, hb⟩; have P3 := hid ((P2.out.alloc p2 _).trans (hb.mono (by simp; omega))); have p3 := P3.out.size; have K3 := hid ((K2.out.alloc k2 _).trans (hb.mono (by simp; omega))); have k3 := K3.out.size; clear hb))
      have HO3 := hid (ownsRow_blk HO.out (fun q e => P3.out.block q (HO.out.lt q e).2))
      go_wp2_with (first | (at_builtin; refine wpList_append_lies _ rfl _ _ 24 rfl w.heap.size 3 t0 _ 1 8 Tryz.underlying24 ht0 hz0 hz1 hz2 rfl (by omega) _ i ((List.range i).map fun j => .int .i64 ((V + 2 * m + 1 + j : Nat) : Int)) rfl (HO3.out.alloc _) ⟨v3.heap.size, 0, none⟩ 1 1 [.int .i64 (E : Int)] rfl rfl (cell_one_new _ _ _) (by simp [Value.oneCell']) (by omega) (by unfold maxLen; omega) (by omega) (by simp; omega) (v3.heap.size + 1) (by simp) ?_; intro g2 cap2 w3 hown1 hgrow hat hlt1))
      go_roundg (gk - 1)
      case measure => omega
      case rel =>
        refine ⟨i + 1, by omega, by omega, by go_num, ?_, ?_⟩
        · rw [List.range_succ, List.map_append]
          show w3.ownsRow w.heap.size 3 1 _ (i + 1) (_ ++ [.int .i64 ((V + 2 * m + 1 + i : Nat) : Int)])
          rw [← HEE.out]
          exact hown1
        · exact Below.grown (K3.out.alloc (by omega) _) hgrow (by simp; omega) (fun q hq => (HO.out.lt q hq).1)
    · have hie : i = m := by omega
      subst hie
      obtain ⟨ul, cl, il⟩ := HCE.out (at_ + 4 * i) (by omega)
      rw [HT.out.last] at il
      obtain ⟨ao, co, rfl⟩ := body_val hown
      have HIL := hid (il.below hbel)
      have HIO := hid (show InAt wr (.slice ao i co) ((List.range i).map fun j => ((V + 2 * i + 1 + j : Nat) : Int)) from by
        have h1 : wr.ownsRow w.heap.size 3 1 (.slice ao i co) ((List.range i).map fun j => ((V + 2 * i + 1 + j : Nat) : Int)).length (((List.range i).map fun j => ((V + 2 * i + 1 + j : Nat) : Int)).map fun x => .int .i64 x) := by
          rw [List.map_map, List.length_map, List.length_range]
          exact hown
        exact InAt.ofOwn h1)
      have yl := cell_later hbel cl
      clear hown il cl hbel
      go_upto_region 21 with (first | (go_at_call 26; refine (rsame_yes _ _ _ _ HIL.out HIO.out (by simp; omega)).mono ?_; rintro e w2 ⟨rfl, hb2⟩; have HB2 := hid (HBL.out.trans (hb2.mono zb)); have z2 := HB2.out.size; clear hb2))
      go_wp2_with fail
      go_loopg [22, 23, 24] at_ (fun gk iv jv lv wq => ∃ q : Nat, q ≤ at_ ∧ at_ ≤ q + gk ∧ iv = .int .i64 q ∧ wq = w2)
      case atStart => exact ⟨0, Nat.zero_le _, by omega, rfl, rfl⟩
      case round =>
        obtain ⟨q, hq, hgq, rfl, rfl⟩ := hrel
        by_cases hqt : q < at_
        · obtain ⟨u, cu, iu⟩ := HCE.out q (by omega)
          obtain ⟨au, du, rfl⟩ := iu.val
          have yu := cell_later HB2.out cu
          have hcl := HT.out.lens q hqt
          have HLO := hid (HT.out.low q hqt)
          have HIU := hid (iu.below HB2.out)
          obtain ⟨c, hce⟩ : ∃ c, cs.getD q [] = c := ⟨_, rfl⟩
          rw [hce] at yu hcl HLO HIU
          have hclI : (c.length : Int) ≤ 100000 := by omega
          obtain ⟨G, hG⟩ : ∃ G : Nat, G = gk := ⟨_, rfl⟩
          clear iu cu hce
          go_wp2_with fail
          go_loopg [23, 24] c.length (fun gj jv lv wq => ∃ j : Nat, j ≤ c.length ∧ c.length ≤ j + gj ∧ jv = .int .i64 j ∧ wq = wr)
          case atStart => exact ⟨0, Nat.zero_le _, by omega, rfl, rfl⟩
          case round =>
            obtain ⟨j, hj, hgj, rfl, rfl⟩ := hrel
            by_cases hjt : j < c.length
            · obtain ⟨g', off, rfl, x1⟩ := HIU.out.cell hjt
              obtain ⟨hb8, hor⟩ := HLO.out (c.getD j 0) (by rw [List.getD_eq_getElem?_getD, List.getElem?_eq_getElem hjt]; exact List.getElem_mem hjt)
              generalize c.getD j 0 = l at x1 hb8 hor
              by_cases hl0 : l < 0
              · have hl1 : -100000000 ≤ l := by omega
                by_cases ha : l.natAbs ≤ V + 2 * i
                · have f1 : ¬ ((V : Int) + 2 * (i : Int) < -l) := by omega
                  clear ha hor hb8
                  go_wp2_with fail
                  go_roundg (gk - 1)
                  case measure => omega
                  case rel => exact ⟨j + 1, by omega, by omega, by go_num, rfl⟩
                · have f1 : (V : Int) + 2 * (i : Int) < -l := by omega
                  have f2 : ¬ (-l ≤ (V : Int) + 2 * (i : Int) + (i : Int)) := by omega
                  clear ha hor hb8
                  go_wp2_with fail
                  go_roundg (gk - 1)
                  case measure => omega
                  case rel => exact ⟨j + 1, by omega, by omega, by go_num, rfl⟩
              · have hl1 : l ≤ 100000000 := by omega
                by_cases ha : l.natAbs ≤ V + 2 * i
                · have f1 : ¬ ((V : Int) + 2 * (i : Int) < l) := by omega
                  clear ha hor hb8
                  go_wp2_with fail
                  go_roundg (gk - 1)
                  case measure => omega
                  case rel => exact ⟨j + 1, by omega, by omega, by go_num, rfl⟩
                · have f1 : (V : Int) + 2 * (i : Int) < l := by omega
                  have f2 : ¬ (l ≤ (V : Int) + 2 * (i : Int) + (i : Int)) := by omega
                  clear ha hor hb8
                  go_wp2_with fail
                  go_roundg (gk - 1)
                  case measure => omega
                  case rel => exact ⟨j + 1, by omega, by omega, by go_num, rfl⟩
            · clear hj hgj
              go_wp2_with fail
              go_roundg (G - 1)
              case measure => omega
              case rel => exact ⟨q + 1, by omega, by omega, by go_num, rfl⟩
        · clear hq hgq
          go_wp2_with fail
          refine bodyPost_ret (v := .tuple #[.slice (some ⟨gc, oc, none⟩) at_ ca, .bool true]) (by simp [results, Tryz.results10, go_sem]) rfl ⟨_, _, rfl, ?_, HB2.out⟩
          have hl : (cs.take at_).length = at_ := by rw [List.length_take]; omega
          refine ⟨⟨_, _, by rw [hl], by rw [hl]; exact hcap2⟩, fun j hj => ?_⟩
          rw [hl] at hj
          obtain ⟨u, x1, x2⟩ := HCE.out j (by omega)
          refine ⟨gc, oc, ca, u, by rw [hl], cell_later HB2.out x1, ?_⟩
          rw [List.getD_eq_getElem?_getD, List.getElem?_take, if_pos hj, ← List.getD_eq_getElem?_getD]
          exact x2.below HB2.out
end Go.Proofs.YtgddmpmcnjlcjabGreatDoor
namespace Go.Proofs.YtgddmpmcnjlcjabGreatDoor
open Go.RowKit
open Go.Lib (itoa decDigits)
set_option linter.unusedVariables false
theorem in_part {w : World} {base g n c : Nat} {ns : List Int} (h : w.ownsRow base 3 1 (.slice (some ⟨g, 0, none⟩) n c) n (ns.map fun z => .int .i64 z)) (o : Nat) (xs : List Int) (d : Nat) (hx : ∀ j, j < xs.length → ns.getD (o + j) 0 = xs.getD j 0 ∧ o + j < ns.length) : InAt w (.slice (some ⟨g, o, none⟩) xs.length d) xs := by
  have hl : ns.length = n := by have := h.1; simpa using this
  refine ⟨⟨_, _, rfl⟩, fun j hj => ⟨g, o, d, rfl, ?_⟩⟩
  obtain ⟨h1, h2⟩ := hx j hj
  rw [h.cellAt (o + j) (by omega), List.getElem?_map, List.getElem?_eq_getElem h2, ← h1, List.getD_eq_getElem?_getD, List.getElem?_eq_getElem h2]; rfl
set_option maxRecDepth 100000 in
set_option maxHeartbeats 2000000 in
theorem parts_any (s : ByteArray) (nx vars : Nat) (ls hs : List Int) (w : World) (hsz : s.size ≤ 1000000000) (hc : Lk.cut 32 s.toList = ((nx : Int) :: (ls ++ 0 :: (hs ++ [0]))).map itoa) (hn : nx < 100000000) (hv : vars < 100000000) (hls : ∀ l ∈ ls, l ≠ 0 ∧ l.natAbs ≤ vars) (hhs : ∀ h ∈ hs, h.natAbs < 100000000) (hl1 : ls.length ≤ 1000) (hl2 : hs.length ≤ 1000) :
    Calls Tryz.prog 28 #[.string s, .int .i64 nx, .int .i64 vars] w fun e w' => ∃ v1 v2, e = .returned (.tuple #[v1, v2, .bool true]) ∧ InAt w' v1 ls ∧ InAt w' v2 hs ∧ (∀ q, v1.ownBlock = some q → w.heap.size ≤ q ∧ q < w'.heap.size) ∧ Below w.heap.size w w' := by
  have HN := hid (fun W => numbers_any s ((nx : Int) :: (ls ++ 0 :: (hs ++ [0]))) W hsz hc (fun z hz => by
    rcases List.mem_cons.1 hz with e | hz
    · omega
    · rcases List.mem_append.1 hz with h | h
      · have := (hls z h).2; omega
      · rcases List.mem_cons.1 h with e | h
        · rw [e]; decide
        · rcases List.mem_append.1 h with h | h
          · exact hhs z h
          · rw [List.mem_singleton.1 h]; decide))
  have HV := hid hv
  have HLS := hid hls
  clear hsz hc hn hv hls hhs
  obtain ⟨T, hT⟩ : ∃ T, ls.length + hs.length + 1 = T := ⟨_, rfl⟩
  have hnl : ((nx : Int) :: (ls ++ 0 :: (hs ++ [0]))).length = T + 2 := by simp; omega
  have hT2 : T ≤ 3000 := by omega
  have g0 : ((nx : Int) :: (ls ++ 0 :: (hs ++ [0]))).getD 0 0 = (nx : Int) := rfl
  have gl : ((nx : Int) :: (ls ++ 0 :: (hs ++ [0]))).getD (T + 1) 0 = 0 := by
    rw [List.getD_cons_succ, List.getD_eq_getElem?_getD, List.getElem?_append_right (by omega), show T - ls.length = hs.length + 1 by omega]
    simp
  have gz : ((nx : Int) :: (ls ++ 0 :: (hs ++ [0]))).getD (1 + ls.length) 0 = 0 := by
    rw [Nat.add_comm, List.getD_cons_succ, List.getD_eq_getElem?_getD, List.getElem?_append_right (Nat.le_refl _)]
    simp
  have gk_ : ∀ j, j < ls.length → ((nx : Int) :: (ls ++ 0 :: (hs ++ [0]))).getD (1 + j) 0 = ls.getD j 0 := fun j hj => by
    rw [Nat.add_comm, List.getD_cons_succ, List.getD_eq_getElem?_getD, List.getElem?_append_left hj, ← List.getD_eq_getElem?_getD]
  have gh : ∀ j, j < hs.length → ((nx : Int) :: (ls ++ 0 :: (hs ++ [0]))).getD (1 + (ls.length + 1) + j) 0 = hs.getD j 0 := fun j hj => by
    rw [show 1 + (ls.length + 1) + j = (ls.length + (1 + j)) + 1 by omega, List.getD_cons_succ, List.getD_eq_getElem?_getD, List.getElem?_append_right (by omega), show ls.length + (1 + j) - ls.length = j + 1 by omega, List.getElem?_cons_succ, List.getElem?_append_left hj, ← List.getD_eq_getElem?_getD]
  have HGK := hid gk_
  have HGH := hid gh
  clear gk_ gh
  generalize hns : ((nx : Int) :: (ls ++ 0 :: (hs ++ [0]))) = ns at HN hnl g0 gl gz HGK HGH
  clear hns
  go_enter Tryz.func28, Tryz.ntmps28
  go_upto_region 2 with (first | (go_at_call 24; refine (HN.out _).mono ?_; rintro e w2 ⟨an, cn, rfl, hon, hb2⟩; have HON := hid hon; have HB2 := hid hb2; have z2 := hb2.size; clear hb2 hon))
  rw [hnl] at HON
  obtain ⟨ga, dn, hva, hga1, hga2⟩ := HON.out.form (by omega)
  have hva1 := (slice_inj hva).1
  have hva3 := (slice_inj hva).2.2
  subst hva1 hva3
  have hcap : T + 2 ≤ cn := by
    rcases HON.out.2 with ⟨h, _⟩ | ⟨g', cap', cur, h, _, _, h3, _⟩
    · cases h
    · have := (slice_inj h).2.2; omega
  have hat : ∀ j, j < T + 2 → w2.cell? ⟨ga, j, none⟩ = some (.int .i64 (ns.getD j 0)) := fun j hj => by
    rw [HON.out.cellAt j (by omega), List.getElem?_map, List.getElem?_eq_getElem (by omega), List.getD_eq_getElem?_getD, List.getElem?_eq_getElem (by omega)]; rfl
  have HAT := hid hat
  have x0 := hat 0 (by omega)
  have xl := hat (T + 1) (by omega)
  rw [gl] at xl
  rw [g0] at x0
  clear hat g0 gl
  go_wp2_with fail
  rw [show T + 2 - 1 - 1 = T by omega]
  clear x0 xl
  go_loopg [11] ls.length (fun gk kv wq => ∃ k : Nat, k ≤ ls.length ∧ ls.length ≤ k + gk ∧ kv = .int .i64 k ∧ wq = w2)
  case atStart => exact ⟨0, Nat.zero_le _, by omega, rfl, rfl⟩
  case round =>
    obtain ⟨k, hk, hgk, rfl, rfl⟩ := hrel
    by_cases hlt : k < ls.length
    · have x1 := HAT.out (1 + k) (by omega)
      rw [HGK.out k hlt] at x1
      obtain ⟨l0, l1⟩ := HLS.out (ls.getD k 0) (by rw [List.getD_eq_getElem?_getD, List.getElem?_eq_getElem hlt]; exact List.getElem_mem hlt)
      generalize ls.getD k 0 = l at x1 l0 l1
      have f0 : (l != 0) = true := by simpa using l0
      have f1 : ¬ ((vars : Int) < l) := by omega
      have f2 : ¬ (l < -(vars : Int)) := by omega
      have hvI : (vars : Int) ≤ 100000000 := by have := HV.out; omega
      clear l0 l1
      go_wp2_with fail
      go_roundg (gk - 1)
      case measure => omega
      case rel => exact ⟨k + 1, by omega, by omega, by go_num, rfl⟩
    · have hke : k = ls.length := by omega
      subst hke
      have x1 := HAT.out (1 + ls.length) (by omega)
      rw [gz] at x1
      have f1 : ((ls.length : Int) == (T : Int)) = false := by simp; omega
      clear hk hgk
      go_upto_region 12 with fail
      go_quiet (fail)
      go_wp2_with fail
      refine bodyPost_ret (v := .tuple #[.slice (some ⟨ga, 1, none⟩) ls.length (cn - 1), .slice (some ⟨ga, 1 + (ls.length + 1), none⟩) hs.length (cn - 1 - (ls.length + 1)), .bool true]) ?_ rfl ⟨_, _, rfl, ?_, ?_, ?_, ?_⟩
      · simp [results, Tryz.results28, go_sem]
        omega
      · exact (in_part HON.out 1 ls _ (fun j hj => ⟨HGK.out j hj, by omega⟩)).below (below_drewN (Below.refl _ _) _)
      · exact (in_part HON.out (1 + (ls.length + 1)) hs _ (fun j hj => ⟨HGH.out j hj, by omega⟩)).below (below_drewN (Below.refl _ _) _)
      · intro q hq
        have hq : ga = q := by injection hq
        subst hq
        exact ⟨(HON.out.lt ga rfl).1, (HON.out.lt ga rfl).2⟩
      · exact below_drewN HB2.out _
end Go.Proofs.YtgddmpmcnjlcjabGreatDoor
namespace Go.Proofs.YtgddmpmcnjlcjabGreatDoor
open Go.RowKit
set_option linter.unusedVariables false
structure VaAt (w : World) (g n : Nat) (V : Nat → Int) : Prop where
  row : w.rowIs g 3 (n + 1) (fun i => .int .i64 (V i))
  tri : ∀ j, V j = 0 ∨ V j = 1 ∨ V j = -1
theorem VaAt.cell {w : World} {g n : Nat} {V : Nat → Int} (h : VaAt w g n V) {i : Nat} (hi : i ≤ n) : w.cell? ⟨g, i, none⟩ = some (.int .i64 (V i)) := h.row.cell (i := i) (by omega)
set_option maxRecDepth 100000 in
set_option maxHeartbeats 1000000 in
theorem holds_any (g n c : Nat) (V : Nat → Int) (l : Int) (w : World) (hv : VaAt w g n V) (hl : l.natAbs ≤ n) (hn : n ≤ 100000000) :
    Calls Tryz.prog 52 #[.slice (some ⟨g, 0, none⟩) (n + 1) c, .int .i64 l] w fun e w' => e = .returned (.int .i64 (Cl.hold V l)) ∧ Below w.heap.size w w' := by
  have hc := hv.cell hl
  have ht := hv.tri l.natAbs
  clear hv
  unfold Cl.hold
  generalize V l.natAbs = x at hc ht
  by_cases h : l < 0
  · rw [if_pos h]
    obtain ⟨m, rfl⟩ : ∃ m : Nat, l = -(m : Int) := ⟨l.natAbs, by omega⟩
    rw [show (-(m : Int)).natAbs = m by omega] at hc hl
    go_enter Tryz.func52, Tryz.ntmps52
    go_wp2_with fail
    go_ret
    exact ⟨rfl, Below.refl _ _⟩
  · rw [if_neg h]
    obtain ⟨m, rfl⟩ : ∃ m : Nat, l = (m : Int) := ⟨l.natAbs, by omega⟩
    rw [show ((m : Int)).natAbs = m by omega] at hc hl
    go_enter Tryz.func52, Tryz.ntmps52
    go_wp2_with fail
    go_ret
    exact ⟨rfl, Below.refl _ _⟩
theorem VaAt.put {w : World} {g n : Nat} {V : Nat → Int} (h : VaAt w g n V) (l : Int) : VaAt (w.setCell ⟨g, l.natAbs, none⟩ (.int .i64 (if l < 0 then -1 else 1))) g n (Cl.putP V l) := by
  refine ⟨(h.row.set l.natAbs _).congr fun i hi => ?_, fun j => ?_⟩
  · unfold Cl.putP
    by_cases c : i = l.natAbs
    · rw [if_pos c, if_pos c]
    · rw [if_neg c, if_neg c]
  · unfold Cl.putP
    by_cases c : j = l.natAbs
    · rw [if_pos c]; split
      · exact .inr (.inr rfl)
      · exact .inr (.inl rfl)
    · rw [if_neg c]; exact h.tri j
set_option maxRecDepth 100000 in
set_option maxHeartbeats 1000000 in
theorem put_any (g n c : Nat) (V : Nat → Int) (l : Int) (w : World) (hv : VaAt w g n V) (hl : l.natAbs ≤ n) (hn : n ≤ 100000000) :
    Calls Tryz.prog 53 #[.slice (some ⟨g, 0, none⟩) (n + 1) c, .int .i64 l] w fun e w' => e = .returned (.tuple #[]) ∧ w' = w.setCell ⟨g, l.natAbs, none⟩ (.int .i64 (if l < 0 then -1 else 1)) := by
  have hc := hv.cell hl
  have hf := hv.row.frozen l.natAbs
  clear hv
  generalize V l.natAbs = x at hc
  by_cases h : l < 0
  · rw [if_pos h]
    obtain ⟨m, rfl⟩ : ∃ m : Nat, l = -(m : Int) := ⟨l.natAbs, by omega⟩
    rw [show (-(m : Int)).natAbs = m by omega] at hc hl hf ⊢
    go_enter Tryz.func53, Tryz.ntmps53
    go_wp2_with fail
    go_end0
    exact ⟨rfl, rfl⟩
  · rw [if_neg h]
    obtain ⟨m, rfl⟩ : ∃ m : Nat, l = (m : Int) := ⟨l.natAbs, by omega⟩
    rw [show ((m : Int)).natAbs = m by omega] at hc hl hf ⊢
    go_enter Tryz.func53, Tryz.ntmps53
    go_wp2_with fail
    go_end0
    exact ⟨rfl, rfl⟩
theorem VaAt.later {w w' : World} {g n : Nat} {V : Nat → Int} (h : VaAt w g n V) (hb : Below w.heap.size w w') : VaAt w' g n V := ⟨h.row.of_block (hb.block g h.row.lt), h.tri⟩
theorem drop_get (c : List Int) {i : Nat} (h : i < c.length) : c.drop i = c.getD i 0 :: c.drop (i + 1) := by
  rw [List.drop_eq_getElem_cons h, List.getD_eq_getElem?_getD, List.getElem?_eq_getElem h]; rfl
theorem getD_mem {c : List Int} {i : Nat} (h : i < c.length) : c.getD i 0 ∈ c := by
  rw [List.getD_eq_getElem?_getD, List.getElem?_eq_getElem h]; exact List.getElem_mem h
theorem hold_tri {V : Nat → Int} (h : ∀ j, V j = 0 ∨ V j = 1 ∨ V j = -1) (l : Int) : Cl.hold V l = 0 ∨ Cl.hold V l = 1 ∨ Cl.hold V l = -1 := by
  unfold Cl.hold
  have := h l.natAbs
  split <;> omega
set_option maxRecDepth 100000 in
set_option maxHeartbeats 2000000 in
theorem one_any (cl : List Int) (vc : Value) (g n c : Nat) (V : Nat → Int) (w : World) (hc : InAt w vc cl) (hv : VaAt w g n V) (hz : ∀ l ∈ cl, l ≠ 0 ∧ l.natAbs ≤ n) (hl : cl.length ≤ 1000000) (hn : n ≤ 100000000) :
    Calls Tryz.prog 54 #[vc, .slice (some ⟨g, 0, none⟩) (n + 1) c] w fun e w' => e = .returned (.tuple #[.int .i64 (Cl.oneP V 0 cl).1, .int .i64 (Cl.oneP V 0 cl).2]) ∧ Below w.heap.size w w' := by
  obtain ⟨a, ca, rfl⟩ := hc.val
  have HC := hid hc
  have HV := hid hv
  have hz' := hid hz
  have hlI : (cl.length : Int) ≤ 1000000 := by omega
  clear hc hv hz
  obtain ⟨R1, R2, hR⟩ : ∃ a b, Cl.oneP V 0 cl = (a, b) := ⟨_, _, rfl⟩
  rw [hR]
  go_enter Tryz.func54, Tryz.ntmps54
  go_wp2_with fail
  go_loopg [6, 7, 8] cl.length (fun gk ov iv hv wr => ∃ (i : Nat) (op : Int), i ≤ cl.length ∧ cl.length ≤ i + gk ∧ iv = .int .i64 i ∧ ov = .int .i64 op ∧ Cl.oneP V op (cl.drop i) = (R1, R2) ∧ Below w.heap.size w wr)
  case atStart => exact ⟨0, 0, Nat.zero_le _, by omega, rfl, rfl, hR, Below.refl _ _⟩
  case round =>
    obtain ⟨i, op, hi, hg, rfl, rfl, ho, hbel⟩ := hrel
    have HBL := hid hbel
    have zb := hbel.size
    by_cases hlt : i < cl.length
    · obtain ⟨gc, oc, rfl, hcell⟩ := HC.out.cell hlt
      have hc1 := cell_later hbel hcell
      have hm := hz'.out _ (getD_mem hlt)
      rw [drop_get cl hlt] at ho
      unfold Cl.oneP at ho
      have HH := hid (fun (W : World) (hb : Below w.heap.size w W) => holds_any g n c V (cl.getD i 0) W (HV.out.later hb) hm.2 hn)
      obtain ⟨l, hle⟩ : ∃ l, cl.getD i 0 = l := ⟨_, rfl⟩
      rw [hle] at hc1 hm ho HH
      have ht := hold_tri HV.out.tri l
      generalize Cl.hold V l = h at ht ho HH
      clear hcell hle hbel
      have arm : True := trivial
      rcases ht with rfl | rfl | rfl
      · rw [if_neg (by decide), if_pos rfl] at ho
        by_cases h3 : op ≠ 0 ∧ op ≠ l
        · rw [if_pos h3] at ho
          have h3a : (op != 0) = true := by simpa using h3.1
          have h3b : (op != l) = true := by simpa using h3.2
          have e1 := congrArg Prod.fst ho
          have e2 := congrArg Prod.snd ho
          simp only at e1 e2
          subst e1 e2
          clear h3 ho
          go_wp2_with (first | (go_at_call 52; refine (HH.out _ HBL.out).mono ?_; rintro e w1 ⟨rfl, hb1⟩; have hc2 := cell_later hb1 hc1; have HB1 := hid (HBL.out.trans (hb1.mono zb)); clear hb1))
          refine bodyPost_ret (v := .tuple #[.int .i64 2, .int .i64 0]) (by simp [results, Tryz.results54, go_sem]) rfl ⟨rfl, HB1.out⟩
        · rw [if_neg h3] at ho
          have HO := hid ho
          clear ho
          by_cases h0 : op = 0
          · have h3a : (op != 0) = false := by simpa using h0
            clear h3
            go_wp2_with (first | (go_at_call 52; refine (HH.out _ HBL.out).mono ?_; rintro e w1 ⟨rfl, hb1⟩; have hc2 := cell_later hb1 hc1; have HB1 := hid (HBL.out.trans (hb1.mono zb)); clear hb1))
            go_roundg (gk - 1)
            case measure => omega
            case rel => exact ⟨i + 1, l, by omega, by omega, by go_num, rfl, HO.out, HB1.out⟩
          · have h1 : op = l := Classical.byContradiction fun q => h3 ⟨h0, q⟩
            have h3a : (op != 0) = true := by simpa using h0
            have h3b : (op != l) = false := by simpa using h1
            clear h3 h0
            go_wp2_with (first | (go_at_call 52; refine (HH.out _ HBL.out).mono ?_; rintro e w1 ⟨rfl, hb1⟩; have hc2 := cell_later hb1 hc1; have HB1 := hid (HBL.out.trans (hb1.mono zb)); clear hb1))
            go_roundg (gk - 1)
            case measure => omega
            case rel => exact ⟨i + 1, l, by omega, by omega, by go_num, rfl, HO.out, HB1.out⟩
      · rw [if_pos (by decide)] at ho
        have e1 := congrArg Prod.fst ho
        have e2 := congrArg Prod.snd ho
        simp only at e1 e2
        subst e1 e2
        clear ho
        go_wp2_with (first | (go_at_call 52; refine (HH.out _ HBL.out).mono ?_; rintro e w1 ⟨rfl, hb1⟩; have HB1 := hid (HBL.out.trans (hb1.mono zb)); clear hb1))
        refine bodyPost_ret (v := .tuple #[.int .i64 2, .int .i64 0]) (by simp [results, Tryz.results54, go_sem]) rfl ⟨rfl, HB1.out⟩
      · rw [if_neg (by decide), if_neg (by decide)] at ho
        have HO := hid ho
        clear ho
        go_wp2_with (first | (go_at_call 52; refine (HH.out _ HBL.out).mono ?_; rintro e w1 ⟨rfl, hb1⟩; have HB1 := hid (HBL.out.trans (hb1.mono zb)); clear hb1))
        go_roundg (gk - 1)
        case measure => omega
        case rel => exact ⟨i + 1, op, by omega, by omega, by go_num, rfl, HO.out, HB1.out⟩
    · rw [List.drop_of_length_le (by omega)] at ho
      unfold Cl.oneP at ho
      clear hbel
      by_cases h0 : op = 0
      · rw [if_pos h0] at ho
        have h0b : (op == 0) = true := by simpa using h0
        have e1 := congrArg Prod.fst ho
        have e2 := congrArg Prod.snd ho
        simp only at e1 e2
        subst e1 e2
        clear ho
        go_wp2_with fail
        refine bodyPost_ret (v := .tuple #[.int .i64 0, .int .i64 0]) (by simp [results, Tryz.results54, go_sem]) rfl ⟨rfl, HBL.out⟩
      · rw [if_neg h0] at ho
        have h0b : (op == 0) = false := by simpa using h0
        have e1 := congrArg Prod.fst ho
        have e2 := congrArg Prod.snd ho
        simp only at e1 e2
        subst e1 e2
        clear ho
        go_wp2_with fail
        refine bodyPost_ret (v := .tuple #[.int .i64 1, .int .i64 op]) (by simp [results, Tryz.results54, go_sem]) rfl ⟨rfl, HBL.out⟩
structure OnAt (w : World) (v : Value) (n : Nat) : Prop where
  val : ∃ g c, v = .slice (some ⟨g, 0, none⟩) n c
  at_ : ∀ j, 1 ≤ j → j < n → ∃ g c, v = .slice (some ⟨g, 0, none⟩) n c ∧ w.cell? ⟨g, j, none⟩ = some (.bool true)
theorem OnAt.later {w w' : World} {v : Value} {n : Nat} (h : OnAt w v n) (hb : Below w.heap.size w w') : OnAt w' v n :=
  ⟨h.val, fun j h1 h2 => by obtain ⟨g, c, e, hc⟩ := h.at_ j h1 h2; exact ⟨g, c, e, cell_later hb hc⟩⟩
set_option maxRecDepth 100000 in
set_option maxHeartbeats 4000000 in
theorem follows_any (all : List (List Int)) (cv ov lv hv : Value) (vars : Nat) (ls hs : List Int) (w : World) (hc : ClsAt w cv all) (ho : OnAt w ov all.length) (hl : InAt w lv ls) (hh : InAt w hv hs) (hvars : vars < 100000000)
    (hz : ∀ i, i < all.length → (∀ l ∈ all.getD i [], l ≠ 0 ∧ l.natAbs ≤ vars) ∧ (all.getD i []).length ≤ 1000000) (hlz : ∀ l ∈ ls, l ≠ 0 ∧ l.natAbs ≤ vars) (hn : Cl.negOk (fun _ => 0) ls) (hf : Cl.folP all (Cl.negP (fun _ => 0) ls) hs = true) (hl1 : ls.length ≤ 1000) (hl2 : hs.length ≤ 1000) (hal : all.length ≤ 1000000000) :
    Calls Tryz.prog 29 #[cv, ov, .int .i64 vars, lv, hv] w fun e w' => e = .returned (.bool true) ∧ Below w.heap.size w w' := by
  obtain ⟨ac, cc, rfl, hcc⟩ := hc.val
  obtain ⟨go_, co, rfl⟩ := ho.val
  obtain ⟨al, cl, rfl⟩ := hl.val
  obtain ⟨ah, ch, rfl⟩ := hh.val
  have HC := hid hc
  have HO := hid ho
  have HL := hid hl
  have HH := hid hh
  have HZ := hid hz
  have HLZ := hid hlz
  have HVR := hid hvars
  have HMK := hid (show ∀ w : World, (Instr.makeSlice 24 (.int .i64 ((vars + 1 : Nat) : Int)) (.int .i64 ((vars + 1 : Nat) : Int))).run Tryz.prog w = .ok (.slice (some ⟨w.heap.size, 0, none⟩) (vars + 1) (vars + 1)) (w.alloc (.cells (madeCells #[.int .i64 0] (vars + 1)) 3)) from fun w => run_make_row' 24 3 (.int .i64 0) 8 Tryz.underlying24 Tryz.infoInt rfl .i64 .i64 (vars + 1) (by omega) (by omega) w)
  have hvI : (vars : Int) < 100000000 := by omega
  have hl1I : (ls.length : Int) ≤ 1000 := by omega
  have hl2I : (hs.length : Int) ≤ 1000 := by omega
  have halI : (all.length : Int) ≤ 1000000000 := by omega
  have HN := hid hn
  have HF := hid hf
  clear hc ho hl hh hz hlz hvars hn hf hal hcc
  have hmk := HMK.out
  simp only [Int.natCast_add, Int.natCast_one] at hmk
  go_enter Tryz.func29, Tryz.ntmps29
  go_wp2_with fail
  clear hmk HMK
  obtain ⟨W1, hW1⟩ : ∃ W1 : World, w.alloc (.cells (madeCells #[.int .i64 0] (vars + 1)) 3) = W1 := ⟨_, rfl⟩
  have HVA := hid (show VaAt W1 w.heap.size vars (fun _ => 0) from ⟨by rw [← hW1]; exact World.rowIs_made w (.int .i64 0) (vars + 1) 3, fun _ => .inl rfl⟩)
  have HB1 := hid (show Below w.heap.size w W1 by rw [← hW1]; exact (Below.refl _ _).alloc (Nat.le_refl _) _)
  rw [hW1]
  clear hW1
  go_loopg [12, 13] ls.length (fun gk iv hv wr => ∃ (i : Nat) (V : Nat → Int), i ≤ ls.length ∧ ls.length ≤ i + gk ∧ iv = .int .i64 i ∧ VaAt wr w.heap.size vars V ∧ Cl.negP V (ls.drop i) = Cl.negP (fun _ => 0) ls ∧ Cl.negOk V (ls.drop i) ∧ Below w.heap.size w wr)
  case atStart => exact ⟨0, _, Nat.zero_le _, by omega, rfl, HVA.out, rfl, HN.out, HB1.out⟩
  case round =>
    obtain ⟨i, V, hi, hgk, rfl, hva, hng, hno, hbel⟩ := hrel
    have HV := hid hva
    have HBL := hid hbel
    have zb := hbel.size
    by_cases hlt : i < ls.length
    · obtain ⟨g', off, rfl, hcl⟩ := HL.out.cell hlt
      have x1 := cell_later hbel hcl
      obtain ⟨m0, m1⟩ := HLZ.out _ (getD_mem hlt)
      rw [drop_get ls hlt] at hng hno
      generalize ls.getD i 0 = l at x1 m0 m1 hng hno
      have hle : Cl.hold V l ≤ 0 := hno.1
      have HNG := hid (show Cl.negP (Cl.putP V (-l)) (ls.drop (i + 1)) = Cl.negP (fun _ => 0) ls from hng)
      have HNO := hid (show Cl.negOk (Cl.putP V (-l)) (ls.drop (i + 1)) from hno.2)
      have HHD := hid (holds_any w.heap.size vars (vars + 1) V l wr hva m1 (by have := HVR.out; omega))
      have hf : ¬ (0 : Int) < Cl.hold V l := by omega
      have hm1 : (-l).natAbs ≤ vars := by omega
      have HLB := hid (show -1000000000 ≤ l ∧ l ≤ 1000000000 by omega)
      clear hvI
      generalize Cl.hold V l = h at hf HHD
      clear hcl hng hno hle hva hbel m1
      go_upto_region 8 with (first | (go_at_call 52; refine HHD.out.mono ?_; rintro e w1 ⟨rfl, hb1⟩; have x2 := cell_later hb1 x1; have HB2 := hid hb1; clear hb1))
      have HV1 := hid (HV.out.later HB2.out)
      have HPT := hid (put_any w.heap.size vars (vars + 1) V (-l) w1 HV1.out hm1 (by have := HVR.out; omega))
      have HB3 := hid (HBL.out.trans (HB2.out.mono zb))
      obtain ⟨hlb1, hlb2⟩ := HLB.out
      go_wp2_with (first | (go_at_call 53; refine HPT.out.mono ?_; rintro e w2 ⟨rfl, hw2⟩; have HW2 := hid hw2; clear hw2))
      go_roundg (gk - 1)
      case measure => omega
      case rel =>
        refine ⟨i + 1, Cl.putP V (-l), by omega, by omega, by go_num, ?_, HNG.out, HNO.out, ?_⟩
        · rw [HW2.out]; exact HV1.out.put (-l)
        · rw [HW2.out]; exact HB3.out.setCell (Nat.le_refl _) _
    · rw [List.drop_of_length_le (by omega)] at hng
      have HF2 := hid (show Cl.folP all V hs = true by rw [show V = Cl.negP V [] from rfl, hng]; exact HF.out)
      clear hng hno hva hbel
      go_wp2_with fail
      go_loopg [14, 15, 16, 17] hs.length (fun gk iv h1 h2 h3 wr => ∃ (i : Nat) (V : Nat → Int), i ≤ hs.length ∧ hs.length ≤ i + gk ∧ iv = .int .i64 i ∧ VaAt wr w.heap.size vars V ∧ Cl.folP all V (hs.drop i) = true ∧ Below w.heap.size w wr)
      case atStart => exact ⟨0, V, Nat.zero_le _, by omega, rfl, HV.out, HF2.out, HBL.out⟩
      case round =>
        clear HF2 HV HBL zb hi hgk hlt
        obtain ⟨i, V, hi, hgk, rfl, hva, hfo, hbel⟩ := hrel
        have HV := hid hva
        have HBL := hid hbel
        have zb := hbel.size
        by_cases hlt : i < hs.length
        · obtain ⟨g', off, rfl, hcl⟩ := HH.out.cell hlt
          have x1 := cell_later hbel hcl
          rw [drop_get hs hlt] at hfo
          unfold Cl.folP at hfo
          by_cases hr : 1 ≤ hs.getD i 0 ∧ hs.getD i 0 < all.length
          · rw [if_pos hr] at hfo
            obtain ⟨n, hne⟩ : ∃ n : Nat, hs.getD i 0 = (n : Int) := ⟨(hs.getD i 0).toNat, by omega⟩
            rw [hne] at hr x1 hfo
            rw [show ((n : Int)).toNat = n by omega] at hfo
            have hn1 : 1 ≤ n := by omega
            have hn2 : n < all.length := by omega
            obtain ⟨g1, c1, e1, on1⟩ := HO.out.at_ n hn1 hn2
            have eg : go_ = g1 := by
              have := Option.some.inj (slice_inj e1).1
              injection this
            subst eg
            have x2 := cell_later hbel on1
            obtain ⟨gq, oq, cq, uq, e2, cq1, iq⟩ := HC.out.at_ n hn2
            have eq := (slice_inj e2).1
            subst eq
            have x3 := cell_later hbel cq1
            obtain ⟨zq, zl⟩ := HZ.out n hn2
            have HON := hid (one_any (all.getD n []) uq w.heap.size vars (vars + 1) V wr (iq.below hbel) hva zq zl (by have := HVR.out; omega))
            have HCS := hid (Cl.oneP_cases (V := V) (all.getD n []) 0 (fun l hl => (zq l hl).1))
            have HZQ := hid (fun l hl => (zq l hl).2)
            obtain ⟨o1, o2, hoe⟩ : ∃ a b, Cl.oneP V 0 (all.getD n []) = (a, b) := ⟨_, _, rfl⟩
            rw [hoe] at HON HCS hfo
            have f1 : ¬ (n : Int) < 1 := by omega
            have f2 : ¬ (all.length : Int) ≤ (n : Int) := by omega
            have HFO := hid hfo
            clear hcl hr hne on1 e1 e2 cq1 iq zq zl hoe hfo hva hbel hvI
            rcases HCS.out with h | ⟨h, _, _⟩ | ⟨q, h, q0, _, qm, _⟩
            · have h1 := congrArg Prod.fst h
              have h1 : o1 = 2 := h1
              have := HFO.out
              subst h1
              rw [if_neg (show ¬ ((2 : Int) = 0) by decide), if_pos (show (2 : Int) = 2 from rfl)] at this
              cases this
            · have h1 : o1 = 0 := congrArg Prod.fst h
              have h2 : o2 = 0 := congrArg Prod.snd h
              subst h1 h2
              go_wp2_with (first | (go_at_call 54; refine HON.out.mono ?_; rintro e w1 ⟨rfl, hb1⟩; have HB2 := hid hb1; clear hb1))
              go_ret
              exact ⟨rfl, HBL.out.trans (HB2.out.mono zb)⟩
            · have h1 : o1 = 1 := congrArg Prod.fst h
              have h2 : o2 = q := congrArg Prod.snd h
              subst h1 h2
              have HFN := hid (show Cl.folP all (Cl.putP V o2) (hs.drop (i + 1)) = true from HFO.out)
              have hqm : o2.natAbs ≤ vars := by
                rcases qm with ⟨qm, _⟩ | qm
                · exact HZQ.out _ qm
                · exact absurd qm q0
              go_upto_region 20 with (first | (go_at_call 54; refine HON.out.mono ?_; rintro e w1 ⟨rfl, hb1⟩; have HB2 := hid hb1; clear hb1))
              have HV1 := hid (HV.out.later HB2.out)
              have HPT := hid (put_any w.heap.size vars (vars + 1) V o2 w1 HV1.out hqm (by have := HVR.out; omega))
              have HB3 := hid (HBL.out.trans (HB2.out.mono zb))
              go_wp2_with (first | (go_at_call 53; refine HPT.out.mono ?_; rintro e w2 ⟨rfl, hw2⟩; have HW2 := hid hw2; clear hw2))
              go_roundg (gk - 1)
              case measure => omega
              case rel =>
                refine ⟨i + 1, Cl.putP V o2, by omega, by omega, by go_num, ?_, HFN.out, ?_⟩
                · rw [HW2.out]; exact HV1.out.put o2
                · rw [HW2.out]; exact HB3.out.setCell (Nat.le_refl _) _
          · rw [if_neg hr] at hfo; cases hfo
        · rw [List.drop_of_length_le (by omega)] at hfo
          cases hfo
end Go.Proofs.YtgddmpmcnjlcjabGreatDoor
