import Derived.Test.YtgddmpmcnjlcjabDoorK06
namespace Go.Proofs.YtgddmpmcnjlcjabDoor
open Go.RowKit
set_option linter.unusedVariables false
def Ck.ov (p : Pg) (k n c : Nat) : Prop := ¬ Dg.Fits p k n ∨ (¬ (Pr.fd p k).al < k ∧ c ≠ 0 ∧ c < (Ck.pf p k).1)
theorem chk_l (s : ByteArray) (k n c : Nat) (w : World) (hw : Tab w) (hk : k ≤ 10) (hn : n ≤ 1048576) (hc : c ≤ 1048576) (hl : (Lk.read s.toList).2 = 0) (ho : ¬ Ck.ov (pgOf s.toList) k n c) :
    Calls Tryd.prog 8 #[.string s, .int .i64 k, .agg #[.int .i64 n, .int .i64 c]] w fun e w' => RepX w w' e (pgOf s.toList) k := by
  have hf : Dg.Fits (pgOf s.toList) k n := Classical.byContradiction fun h => ho (.inl h)
  refine (check_all s k n c w hw hk hn hc hl).mono ?_
  rintro e w' C
  by_cases h : (Pr.fd (pgOf s.toList) k).al < k
  · obtain ⟨a1, c1, a2, c2, i, j, he, hfi, o1, o2⟩ := C.ins hf h
    refine ⟨a1, c1, a2, c2, ?_, ?_, ?_, C.bel⟩
    · rw [he]; unfold Ck.v Ck.n Ck.t Ck.x; rw [if_pos h, if_pos h, if_pos h, if_pos h]
    · unfold Ck.n Ck.l1; rw [if_pos h, if_pos h, hfi]; exact o1
    · unfold Ck.n Ck.l2; rw [if_pos h, if_pos h, hfi]; exact o2
  · have hq : c = 0 ∨ (Ck.pf (pgOf s.toList) k).1 ≤ c := by
      by_cases c0 : c = 0
      · exact .inl c0
      · exact .inr (Nat.le_of_not_lt fun q => ho (.inr ⟨h, c0, q⟩))
    refine ⟨none, 0, none, 0, ?_, ?_, ?_, C.bel⟩
    · rw [C.sec hf h hq]; unfold Ck.v Ck.n Ck.t Ck.x; rw [if_neg h, if_neg h, if_neg h, if_neg h]
    · unfold Ck.n Ck.l1; rw [if_neg h, if_neg h]; exact World.ownsRow_nil _ _ _ _
    · unfold Ck.n Ck.l2; rw [if_neg h, if_neg h]; exact World.ownsRow_nil _ _ _ _
theorem chk_u (s : ByteArray) (k n c : Nat) (w : World) (hw : Tab w) (hk : k ≤ 10) (hn : n ≤ 1048576) (hc : c ≤ 1048576) (hl : (Lk.read s.toList).2 = 0) (ho : Ck.ov (pgOf s.toList) k n c) :
    Calls Tryd.prog 8 #[.string s, .int .i64 k, .agg #[.int .i64 n, .int .i64 c]] w fun e w' => e = .returned (.tuple #[.int .i64 3, repLine 0]) ∧ Below w.heap.size w w' := by
  refine (check_all s k n c w hw hk hn hc hl).mono ?_
  rintro e w' C
  exact ⟨C.unk ho, C.bel⟩
theorem v_cases (p : Pg) (k : Nat) : Ck.v p k = 1 ∨ Ck.v p k = 2 := by
  unfold Ck.v; split
  · exact .inr rfl
  · exact .inl rfl
set_option maxRecDepth 100000 in
set_option maxHeartbeats 4000000 in
theorem limited_rej (s : ByteArray) (k : Nat) (b c : Int) (hb : I64 b) (hc : I64 c) (w : World) (hk : k ≤ 10) (l : Nat) (hl : (Lk.read s.toList).2 = l) (hl0 : l ≠ 0) :
    Calls Tryd.prog 11 #[.string s, .int .i64 k, .int .i64 b, .int .i64 c] w fun e w' => e = .returned (.bool true) ∧ Below w.heap.size w w' := by
  have HC := hid (fun W => kc_rej s k W hk l hl hl0)
  have HP := hid (fun W => pick3000 b hb W)
  have HQ := hid (fun W => pick40 c hc W)
  have hn := pk_lt b 3000 (by omega)
  have hm := pk_lt c 40 (by omega)
  generalize pk b 3000 = n at HP hn
  generalize pk c 40 = m at HQ hm
  have HL := hid (fun W => check_line s k n m W (by unfold wi; exact decide_eq_true ⟨by omega, by omega⟩) (by unfold wi; exact decide_eq_true ⟨by omega, by omega⟩) (by unfold wi; exact decide_eq_true ⟨by omega, by omega⟩) l hl (by omega))
  clear hl hb hc
  go_enter Tryd.func11, Tryd.ntmps11
  go_wp2_with (first | (go_at_call 25; refine (HC.out _).mono ?_; rintro e w1 ⟨rfl, hb⟩; have HB := hid hb; have z1 := hb.size; clear hb; refine Hid.out ?_))
  refine hid ?_
  obtain ⟨W1, hW1⟩ : ∃ W1 : World, w1.alloc (.cells #[.int .i64 l, .slice none 0 0, .slice none 0 0, .int .i64 0, .int .i64 0, .string ⟨#[]⟩, .string ⟨#[]⟩, .int .i64 0, .int .i64 0] 29) = W1 := ⟨_, rfl⟩
  have HB1 := hid (show Below w.heap.size w W1 by rw [← hW1]; exact HB.out.alloc z1 _)
  have z2 := HB1.out.size
  have HE1 := hid hW1
  clear hW1
  go_wp2_with (first | (go_at_call 24; rw [HE1.out]; refine (HP.out _).mono ?_; rintro e w2 ⟨rfl, hw2⟩; have hw3 := hw2.symm; subst hw3; refine Hid.out ?_))
  refine hid ?_
  go_wp2_with (first | (go_at_call 24; refine (HQ.out _).mono ?_; rintro e w2 ⟨rfl, hw2⟩; have hw3 := hw2.symm; subst hw3; refine Hid.out ?_))
  refine hid ?_
  go_wp2_with (first | (go_at_call 8; refine (HL.out _).mono ?_; rintro e w3 ⟨rfl, hb⟩; have HB3 := hid (HB1.out.trans (hb.mono z2)); have z3 := HB3.out.size; clear hb))
  go_ret
  exact ⟨rfl, HB3.out.alloc z3 _⟩
set_option maxRecDepth 100000 in
set_option maxHeartbeats 4000000 in
theorem limited_ov (s : ByteArray) (k : Nat) (b c : Int) (hb : I64 b) (hc : I64 c) (w : World) (hw : Tab w) (hk : k ≤ 10) (hl : (Lk.read s.toList).2 = 0) (ho : Ck.ov (pgOf s.toList) k (pk b 3000) (pk c 40)) :
    Calls Tryd.prog 11 #[.string s, .int .i64 k, .int .i64 b, .int .i64 c] w fun e w' => e = .returned (.bool true) ∧ Below w.heap.size w w' := by
  have HC := hid (fun W hW => kc_x s k W hW hk hl)
  have HP := hid (fun W => pick3000 b hb W)
  have HQ := hid (fun W => pick40 c hc W)
  have hn := pk_lt b 3000 (by omega)
  have hm := pk_lt c 40 (by omega)
  generalize pk b 3000 = n at HP hn ho
  generalize pk c 40 = m at HQ hm ho
  have HL := hid (fun W hW => chk_u s k n m W hW hk (by omega) (by omega) hl ho)
  have HW := hid hw
  clear hl hb hc hw ho
  generalize pgOf s.toList = p at HC HL
  have hv := v_cases p k
  have hv0 : (Ck.v p k != 0) = true := by rcases hv with h | h <;> rw [h] <;> rfl
  have hv3 : (Ck.v p k == 3) = false := by rcases hv with h | h <;> rw [h] <;> rfl
  have hvv : (Ck.v p k == Ck.v p k) = true := by simp
  clear hv
  go_enter Tryd.func11, Tryd.ntmps11
  go_wp2_with (first | (go_at_call 25; refine (HC.out _ HW.out).mono ?_; rintro e w1 ⟨a1, c1, a2, c2, he, ho1, ho2, hb⟩; subst he; have HB := hid hb; have z1 := hb.size; clear hb ho1 ho2; refine Hid.out ?_))
  refine hid ?_
  obtain ⟨W1, hW1⟩ : ∃ W1 : World, w1.alloc (.cells #[.int .i64 0, .slice a1 (Ck.n p k) c1, .slice a2 (Ck.n p k) c2, .int .i64 (Ck.t p k), .int .i64 (Ck.x p k).nv, .string (Ck.x p k).f, .string (Ck.x p k).g, .int .i64 (Ck.x p k).nd, .int .i64 (Ck.x p k).cf] 29) = W1 := ⟨_, rfl⟩
  have HB1 := hid (show Below w.heap.size w W1 by rw [← hW1]; exact HB.out.alloc z1 _)
  have z2 := HB1.out.size
  have HE1 := hid hW1
  clear hW1
  go_wp2_with (first | (go_at_call 24; rw [HE1.out]; refine (HP.out _).mono ?_; rintro e w2 ⟨rfl, hw2⟩; have hw3 := hw2.symm; subst hw3; refine Hid.out ?_))
  refine hid ?_
  go_wp2_with (first | (go_at_call 24; refine (HQ.out _).mono ?_; rintro e w2 ⟨rfl, hw2⟩; have hw3 := hw2.symm; subst hw3; refine Hid.out ?_))
  refine hid ?_
  go_wp2_with (first | (go_at_call 8; refine (HL.out _ (tab_on HW.out HB1.out)).mono ?_; rintro e w3 ⟨rfl, hb⟩; have HB3 := hid (HB1.out.trans (hb.mono z2)); have z3 := HB3.out.size; clear hb))
  go_ret
  exact ⟨rfl, HB3.out.alloc z3 _⟩
set_option maxRecDepth 100000 in
set_option maxHeartbeats 4000000 in
theorem limited_no (s : ByteArray) (k : Nat) (b c : Int) (hb : I64 b) (hc : I64 c) (w : World) (hw : Tab w) (hk : k ≤ 10) (hl : (Lk.read s.toList).2 = 0) (ho : ¬ Ck.ov (pgOf s.toList) k (pk b 3000) (pk c 40)) :
    Calls Tryd.prog 11 #[.string s, .int .i64 k, .int .i64 b, .int .i64 c] w fun e w' => e = .returned (.bool true) ∧ Below w.heap.size w w' := by
  have HC := hid (fun W hW => kc_x s k W hW hk hl)
  have HP := hid (fun W => pick3000 b hb W)
  have HQ := hid (fun W => pick40 c hc W)
  have hn := pk_lt b 3000 (by omega)
  have hm := pk_lt c 40 (by omega)
  generalize pk b 3000 = n at HP hn ho
  generalize pk c 40 = m at HQ hm ho
  have HL := hid (fun W hW => chk_l s k n m W hW hk (by omega) (by omega) hl ho)
  have HW := hid hw
  clear hl hb hc hw ho
  generalize pgOf s.toList = p at HC HL
  have hv := v_cases p k
  have hv0 : (Ck.v p k != 0) = true := by rcases hv with h | h <;> rw [h] <;> rfl
  have hv3 : (Ck.v p k == 3) = false := by rcases hv with h | h <;> rw [h] <;> rfl
  have hvv : (Ck.v p k == Ck.v p k) = true := by simp
  clear hv
  go_enter Tryd.func11, Tryd.ntmps11
  go_wp2_with (first | (go_at_call 25; refine (HC.out _ HW.out).mono ?_; rintro e w1 ⟨a1, c1, a2, c2, he, ho1, ho2, hb⟩; subst he; have HB := hid hb; have z1 := hb.size; clear hb ho1 ho2; refine Hid.out ?_))
  refine hid ?_
  obtain ⟨W1, hW1⟩ : ∃ W1 : World, w1.alloc (.cells #[.int .i64 0, .slice a1 (Ck.n p k) c1, .slice a2 (Ck.n p k) c2, .int .i64 (Ck.t p k), .int .i64 (Ck.x p k).nv, .string (Ck.x p k).f, .string (Ck.x p k).g, .int .i64 (Ck.x p k).nd, .int .i64 (Ck.x p k).cf] 29) = W1 := ⟨_, rfl⟩
  have HB1 := hid (show Below w.heap.size w W1 by rw [← hW1]; exact HB.out.alloc z1 _)
  have z2 := HB1.out.size
  have HE1 := hid hW1
  clear hW1
  go_wp2_with (first | (go_at_call 24; rw [HE1.out]; refine (HP.out _).mono ?_; rintro e w2 ⟨rfl, hw2⟩; have hw3 := hw2.symm; subst hw3; refine Hid.out ?_))
  refine hid ?_
  go_wp2_with (first | (go_at_call 24; refine (HQ.out _).mono ?_; rintro e w2 ⟨rfl, hw2⟩; have hw3 := hw2.symm; subst hw3; refine Hid.out ?_))
  refine hid ?_
  go_wp2_with (first | (go_at_call 8; refine (HL.out _ (tab_on HW.out HB1.out)).mono ?_; rintro e w3 ⟨b1, d1, b2, d2, he, ho1, ho2, hb⟩; subst he; have HB3 := hid (HB1.out.trans (hb.mono z2)); have z3 := HB3.out.size; clear hb ho1 ho2))
  go_ret
  exact ⟨rfl, HB3.out.alloc z3 _⟩
theorem limited_any (s : ByteArray) (k : Nat) (b c : Int) (hb : I64 b) (hc : I64 c) (w : World) (hw : Tab w) (hk : k ≤ 10) : Calls Tryd.prog 11 #[.string s, .int .i64 k, .int .i64 b, .int .i64 c] w fun e w' => e = .returned (.bool true) ∧ Below w.heap.size w w' := by
  by_cases h : (Lk.read s.toList).2 = 0
  · by_cases ho : Ck.ov (pgOf s.toList) k (pk b 3000) (pk c 40)
    · exact limited_ov s k b c hb hc w hw hk h ho
    · exact limited_no s k b c hb hc w hw hk h ho
  · exact limited_rej s k b c hb hc w hk _ rfl h
set_option maxRecDepth 100000 in
set_option maxHeartbeats 1000000 in
theorem Bounded_any (ck : AllChk) (s : ByteArray) (a : Int) (ha : I64 a) (b : Int) (hb : I64 b) (c : Int) (hc : I64 c) (w : World) (hw : Tab w) :
    Calls Tryd.prog 4 #[.string s, .int .i64 a, .int .i64 b, .int .i64 c] w fun e w' => e = .returned (.bool true) ∧ Below w.heap.size w w' := by
  by_cases hs : s.size ≤ 16384
  · have hsI : ¬ (16384 : Int) < (s.size : Int) := by omega
    have h11 := pk_lt a 11 (by omega)
    have HAN : Hid (∀ W : World, Tab W → Calls Tryd.prog 10 #[.int .i64 a] W fun e w' => e = .returned (.bool true) ∧ Below W.heap.size W w') := fun W hW => answers_any ck a ha W hW
    have HS : Hid (∀ W : World, Calls Tryd.prog 12 #[.int .i64 a] W fun e w' => e = .returned (.int .i64 (pk a 11)) ∧ w' = W) := fun W => steps_any a ha W
    generalize pk a 11 = k at h11 HS
    have HL := hid (fun W hW => limited_any s k b c hb hc W hW (by omega))
    clear ha hb hc
    go_enter Tryd.func4, Tryd.ntmps4
    go_wp2_with (first
      | (go_at_call 10; refine (HAN.out _ hw).mono ?_; rintro e w1 ⟨rfl, hb1⟩; have HB1 := hid hb1; have z1 := hb1.size; clear hb1)
      | (go_at_call 12; refine (HS.out _).mono ?_; rintro e w0 ⟨rfl, hw0⟩; have hw1 := hw0.symm; subst hw1)
      | (go_at_call 11; refine (HL.out _ (tab_on hw HB1.out)).mono ?_; rintro e w2 ⟨rfl, hb2⟩; have HB2 := hid hb2; clear hb2))
    go_ret
    exact ⟨rfl, HB1.out.trans (HB2.out.mono z1)⟩
  · have hsI : (16384 : Int) < (s.size : Int) := by omega
    go_enter Tryd.func4, Tryd.ntmps4
    go_wp2
    go_ret
    exact ⟨rfl, Below.refl _ _⟩
end Go.Proofs.YtgddmpmcnjlcjabDoor
