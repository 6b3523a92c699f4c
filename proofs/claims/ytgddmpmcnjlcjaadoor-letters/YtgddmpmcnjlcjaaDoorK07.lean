import Derived.Test.YtgddmpmcnjlcjaaDoorK02
import Derived.Test.YtgddmpmcnjlcjaaDoorK04
import Derived.Test.YtgddmpmcnjlcjaaDoorK06
namespace Go.Proofs.YtgddmpmcnjlcjaaDoor
open Go.RowKit
set_option linter.unusedVariables false
theorem rpw9 {w : World} {g : Nat} {ln t : Int} {v1 v2 : Value} {x : Ext} (h : w.heap[g]? = some (.cells #[.int .i64 ln, v1, v2, .int .i64 t, .int .i64 x.nv, .string x.f, .string x.g, .int .i64 x.nd, .int .i64 x.cf] 26)) : w.rowIs g 26 9 (rpw ln v1 v2 t x) := cells_row h rfl (rpd9 rfl rfl rfl rfl rfl rfl rfl rfl rfl)
theorem pg_rn (S : List UInt8) : pgOf (Lk.rnl true S) = pgOf S := by
  obtain ⟨_, f, e, _⟩ := Lk.read_rn S
  unfold pgOf
  rw [e]
  rfl
set_option maxRecDepth 100000 in
set_option maxHeartbeats 4000000 in
theorem alike_ok (s : ByteArray) (k : Nat) (w : World) (hw : Tab w) (hk : k ≤ 10) (hs : s.size ≤ 16384) (hl : (Lk.read s.toList).2 = 0) (hs3 : (pgOf s.toList).sec.length ≤ 3) :
    Calls Tryd.prog 22 #[.string s, .int .i64 k] w fun e w' => e = .returned (.bool true) ∧ Below w.heap.size w w' := by
  have HC := hid (fun W hW => kc_x s k W hW hk hl)
  have HD := hid (fun (B : ByteArray) (hB : B.toList = Lk.rnl true s.toList) W hW => show Calls _ _ _ _ fun e w' => RepX W w' e (pgOf s.toList) k by have := kc_x B k W hW hk (by rw [hB, (Lk.read_rn _).1]; exact hl); rw [hB, pg_rn] at this; exact this)
  have HT := hid (fun W => renamed_any s hs W)
  have HW := hid hw
  clear hl hw
  generalize pgOf s.toList = p at HC HD hs3
  go_enter Tryd.func22, Tryd.ntmps22
  go_wp2_with (first | (go_at_call 33; refine (HC.out _ HW.out).mono ?_; rintro e w1 ⟨a1, c1, a2, c2, he, ho1, ho2, hb⟩; subst he; have HO1 := hid ho1; have HO2 := hid ho2; have HB := hid hb; have z1 := hb.size; clear hb ho1 ho2; refine Hid.out ?_))
  refine hid ?_
  obtain ⟨W1, hW1⟩ : ∃ W1 : World, w1.alloc (.cells #[.int .i64 0, .slice a1 (Ck.n p k) c1, .slice a2 (Ck.n p k) c2, .int .i64 (Ck.t p k), .int .i64 (Ck.x p k).nv, .string (Ck.x p k).f, .string (Ck.x p k).g, .int .i64 (Ck.x p k).nd, .int .i64 (Ck.x p k).cf] 26) = W1 := ⟨_, rfl⟩
  have hz1 : W1.heap.size = w1.heap.size + 1 := by rw [← hW1]; simp
  have HBW1 := hid (show Below w1.heap.size w1 W1 by rw [← hW1]; exact (Below.refl _ _).alloc (Nat.le_refl _) _)
  have HR1 := hid (show W1.rowIs w1.heap.size 26 9 (rpw 0 (.slice a1 (Ck.n p k) c1) (.slice a2 (Ck.n p k) c2) (Ck.t p k) (Ck.x p k)) by rw [← hW1]; exact rpw9 (hp_new' _ _ _ rfl))
  have HB1 := hid (show Below w.heap.size w W1 from HB.out.trans (HBW1.out.mono z1))
  have HE1 := hid hW1
  clear hW1
  go_wp2_with (first | (go_at_call 40; rw [HE1.out]; refine (HT.out _).mono ?_; rintro e wt ⟨B, rfl, hB, hbt⟩; have HBT := hid hbt; have HTX := hid hB; have zt := hbt.size; clear hB hbt; refine Hid.out ?_))
  refine hid ?_
  have HBt := hid (show Below w.heap.size w wt from HB1.out.trans (HBT.out.mono (by omega)))
  have HRt := hid (row_later HR1.out HBT.out)
  go_wp2_with (first | (go_at_call 33; refine (HD.out B HTX.out _ (tab_on HW.out HBt.out)).mono ?_; rintro e w2 ⟨b1, d1, b2, d2, he, ho1, ho2, hb⟩; subst he; have HO3 := hid ho1; have HO4 := hid ho2; have HB2 := hid hb; have z2 := hb.size; clear hb ho1 ho2; refine Hid.out ?_))
  refine hid ?_
  obtain ⟨W2, hW2⟩ : ∃ W2 : World, w2.alloc (.cells #[.int .i64 0, .slice b1 (Ck.n p k) d1, .slice b2 (Ck.n p k) d2, .int .i64 (Ck.t p k), .int .i64 (Ck.x p k).nv, .string (Ck.x p k).f, .string (Ck.x p k).g, .int .i64 (Ck.x p k).nd, .int .i64 (Ck.x p k).cf] 26) = W2 := ⟨_, rfl⟩
  have HBW2 := hid (show Below w2.heap.size w2 W2 by rw [← hW2]; exact (Below.refl _ _).alloc (Nat.le_refl _) _)
  have HR2 := hid (show W2.rowIs w2.heap.size 26 9 (rpw 0 (.slice b1 (Ck.n p k) d1) (.slice b2 (Ck.n p k) d2) (Ck.t p k) (Ck.x p k)) by rw [← hW2]; exact rpw9 (hp_new' _ _ _ rfl))
  have HRA := hid (row_later (row_later HRt.out HB2.out) HBW2.out)
  have hn10 : Ck.n p k ≤ 10 := by unfold Ck.n; split <;> omega
  have e1 : (Ck.l1 p k).length = Ck.n p k := by have := HO1.out.1; simpa using this
  have e2 : (Ck.l2 p k).length = Ck.n p k := by have := HO2.out.1; simpa using this
  have N1 := (((NatsAt.of e1 HO1.out).same HBW1.out).same HBT.out).same HB2.out |>.same HBW2.out
  have N2 := (((NatsAt.of e2 HO2.out).same HBW1.out).same HBT.out).same HB2.out |>.same HBW2.out
  have N3 := (NatsAt.of e1 HO3.out).same HBW2.out
  have N4 := (NatsAt.of e2 HO4.out).same HBW2.out
  have C := hid (whole_yes W2 w1.heap.size w2.heap.size 0 (Ck.t p k) (Ck.x p k) a1 a2 b1 b2 c1 c2 d1 d2 (Ck.n p k) hn10 _ _ HRA.out HR2.out N1 N3 N2 N4)
  have HB3 := hid (show Below w.heap.size w W2 from (HBt.out.trans (HB2.out.mono (by omega))).trans (HBW2.out.mono (by omega)))
  have HE2 := hid hW2
  have z3 := HB3.out.size
  clear hW2 e1 e2 N1 N2 N3 N4 HO1 HO2 HO3 HO4
  go_wp2_with (first | (go_at_call 41; rw [HE2.out]; refine C.out.mono ?_; rintro e w3 ⟨rfl, hb3⟩; have HB4 := hid hb3; clear hb3))
  go_ret
  exact ⟨rfl, HB3.out.trans (HB4.out.mono z3)⟩
set_option maxRecDepth 100000 in
set_option maxHeartbeats 4000000 in
theorem alike_rej (s : ByteArray) (k : Nat) (w : World) (hk : k ≤ 10) (hs : s.size ≤ 16384) (l : Nat) (hl : (Lk.read s.toList).2 = l) (hl0 : l ≠ 0) :
    Calls Tryd.prog 22 #[.string s, .int .i64 k] w fun e w' => e = .returned (.bool true) ∧ Below w.heap.size w w' := by
  have HC := hid (fun W => kc_rej s k W hk l hl hl0)
  have HD := hid (fun (B : ByteArray) (hB : B.toList = Lk.rnl true s.toList) W => kc_rej B k W hk l (by rw [hB, (Lk.read_rn _).1]; exact hl) hl0)
  have HT := hid (fun W => renamed_any s hs W)
  clear hl
  go_enter Tryd.func22, Tryd.ntmps22
  go_wp2_with (first | (go_at_call 33; refine (HC.out _).mono ?_; rintro e w1 ⟨rfl, hb⟩; have HB := hid hb; have z1 := hb.size; clear hb; refine Hid.out ?_))
  refine hid ?_
  obtain ⟨W1, hW1⟩ : ∃ W1 : World, w1.alloc (.cells #[.int .i64 l, .slice none 0 0, .slice none 0 0, .int .i64 0, .int .i64 0, .string ⟨#[]⟩, .string ⟨#[]⟩, .int .i64 0, .int .i64 0] 26) = W1 := ⟨_, rfl⟩
  have hz1 : W1.heap.size = w1.heap.size + 1 := by rw [← hW1]; simp
  have HBW1 := hid (show Below w1.heap.size w1 W1 by rw [← hW1]; exact (Below.refl _ _).alloc (Nat.le_refl _) _)
  have HR1 := hid (show W1.rowIs w1.heap.size 26 9 (rpw l (.slice none 0 0) (.slice none 0 0) 0 ⟨0, ⟨#[]⟩, ⟨#[]⟩, 0, 0⟩) by rw [← hW1]; exact rpw9 (x := ⟨0, ⟨#[]⟩, ⟨#[]⟩, 0, 0⟩) (hp_new' _ _ _ rfl))
  have HB1 := hid (show Below w.heap.size w W1 from HB.out.trans (HBW1.out.mono z1))
  have HE1 := hid hW1
  clear hW1
  go_wp2_with (first | (go_at_call 40; rw [HE1.out]; refine (HT.out _).mono ?_; rintro e wt ⟨B, rfl, hB, hbt⟩; have HBT := hid hbt; have HTX := hid hB; have zt := hbt.size; clear hB hbt; refine Hid.out ?_))
  refine hid ?_
  have HBt := hid (show Below w.heap.size w wt from HB1.out.trans (HBT.out.mono (by omega)))
  have HRt := hid (row_later HR1.out HBT.out)
  go_wp2_with (first | (go_at_call 33; refine (HD.out B HTX.out _).mono ?_; rintro e w2 ⟨rfl, hb⟩; have HB2 := hid hb; have z2 := hb.size; clear hb; refine Hid.out ?_))
  refine hid ?_
  obtain ⟨W2, hW2⟩ : ∃ W2 : World, w2.alloc (.cells #[.int .i64 l, .slice none 0 0, .slice none 0 0, .int .i64 0, .int .i64 0, .string ⟨#[]⟩, .string ⟨#[]⟩, .int .i64 0, .int .i64 0] 26) = W2 := ⟨_, rfl⟩
  have HBW2 := hid (show Below w2.heap.size w2 W2 by rw [← hW2]; exact (Below.refl _ _).alloc (Nat.le_refl _) _)
  have HR2 := hid (show W2.rowIs w2.heap.size 26 9 (rpw l (.slice none 0 0) (.slice none 0 0) 0 ⟨0, ⟨#[]⟩, ⟨#[]⟩, 0, 0⟩) by rw [← hW2]; exact rpw9 (x := ⟨0, ⟨#[]⟩, ⟨#[]⟩, 0, 0⟩) (hp_new' _ _ _ rfl))
  have HRA := hid (row_later (row_later HRt.out HB2.out) HBW2.out)
  have N0 : NatsAt W2 none 0 (fun _ => 0) := fun h => absurd h (by omega)
  have C := hid (whole_yes W2 w1.heap.size w2.heap.size l 0 ⟨0, ⟨#[]⟩, ⟨#[]⟩, 0, 0⟩ none none none none 0 0 0 0 0 (by omega) _ _ HRA.out HR2.out N0 N0 N0 N0)
  have HB3 := hid (show Below w.heap.size w W2 from (HBt.out.trans (HB2.out.mono (by omega))).trans (HBW2.out.mono (by omega)))
  have HE2 := hid hW2
  have z3 := HB3.out.size
  clear hW2 N0
  go_wp2_with (first | (go_at_call 41; rw [HE2.out]; refine C.out.mono ?_; rintro e w3 ⟨rfl, hb3⟩; have HB4 := hid hb3; clear hb3))
  go_ret
  exact ⟨rfl, HB3.out.trans (HB4.out.mono z3)⟩
theorem alike_any (s : ByteArray) (k : Nat) (w : World) (hw : Tab w) (hk : k ≤ 10) (hs : s.size ≤ 16384) : Calls Tryd.prog 22 #[.string s, .int .i64 k] w fun e w' => e = .returned (.bool true) ∧ Below w.heap.size w w' := by
  by_cases h : (Lk.read s.toList).2 = 0
  · exact alike_ok s k w hw hk hs h (pgOf_ok _).sec
  · exact alike_rej s k w hk hs _ rfl h
set_option maxRecDepth 100000 in
set_option maxHeartbeats 1000000 in
theorem Letters_any (ck : AllChk) (s : ByteArray) (a : Int) (ha : I64 a) (w : World) (hw : Tab w) :
    Calls Tryd.prog 10 #[.string s, .int .i64 a] w fun e w' => e = .returned (.bool true) ∧ Below w.heap.size w w' := by
  by_cases hs : s.size ≤ 16384
  · have hsI : ¬ (16384 : Int) < (s.size : Int) := by omega
    have h11 := pk_lt a 11 (by omega)
    have HAN : Hid (∀ W : World, Tab W → Calls Tryd.prog 15 #[.int .i64 a] W fun e w' => e = .returned (.bool true) ∧ Below W.heap.size W w') := fun W hW => answers_any ck a ha W hW
    have HS : Hid (∀ W : World, Calls Tryd.prog 17 #[.int .i64 a] W fun e w' => e = .returned (.int .i64 (pk a 11)) ∧ w' = W) := fun W => steps_any a ha W
    generalize pk a 11 = k at h11 HS
    clear ha
    go_enter Tryd.func10, Tryd.ntmps10
    go_wp2_with (first
      | (go_at_call 15; refine (HAN.out _ hw).mono ?_; rintro e w1 ⟨rfl, hb1⟩; have HB1 := hid hb1; have z1 := hb1.size; clear hb1)
      | (go_at_call 17; refine (HS.out _).mono ?_; rintro e w0 ⟨rfl, hw0⟩; have hw1 := hw0.symm; subst hw1)
      | (go_at_call 22; refine (alike_any s k _ (tab_on hw HB1.out) ?_ hs).mono ?_; omega; rintro e w2 ⟨rfl, hb2⟩; have HB2 := hid hb2; clear hb2))
    go_ret
    exact ⟨rfl, HB1.out.trans (HB2.out.mono z1)⟩
  · have hsI : (16384 : Int) < (s.size : Int) := by omega
    go_enter Tryd.func10, Tryd.ntmps10
    go_wp2
    go_ret
    exact ⟨rfl, Below.refl _ _⟩
end Go.Proofs.YtgddmpmcnjlcjaaDoor
