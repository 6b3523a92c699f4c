import Derived.Test.YtgddmpmcnjlcjabDoorK01
import Derived.Deep.DeepCutAuto
namespace Go.Proofs.YtgddmpmcnjlcjabDoor
open Go.RowKit
set_option linter.unusedVariables false
def Ck.ov (p : Pg) (k n c : Nat) : Prop := ¬ Dg.Fits p k n ∨ (¬ (Pr.fd p k).al < k ∧ c ≠ 0 ∧ c < (Ck.pf p k).1)
theorem chk_l (s : ByteArray) (k n c : Nat) (w : World) (hw : Tab w) (hk : k ≤ 10) (hn : n ≤ 1048576) (hc : c ≤ 1048576) (hl : (Lk.read s.toList).2 = 0) (ho : ¬ Ck.ov (pgOf s.toList) k n c) :
    Calls Tryd.prog 8 #[.string s, .int .i64 k, .agg #[.int .i64 n, .int .i64 c]] w fun e w' => RepX w w' e (pgOf s.toList) k := by
  have hf : Dg.Fits (pgOf s.toList) k n := Classical.byContradiction fun h => ho (.inl h)
  refine (check_all s k n c w hw hk hn hc hl).mono ?_
  rintro e w' C
  by_cases h : (Pr.fd (pgOf s.toList) k).al < k
  · obtain ⟨a1, c1, a2, c2, i, j, he, hfi, o1, o2⟩ := C.ins hf h
    refine ⟨a1, c1, a2, c2, ?_, ?_, ?_, C.bel⟩
    · rw [he]; unfold Ck.v Ck.n Ck.t Ck.x; rw [if_pos h, if_pos h, if_pos h, if_pos h]
    · unfold Ck.n Ck.l1; rw [if_pos h, if_pos h, hfi]; exact o1
    · unfold Ck.n Ck.l2; rw [if_pos h, if_pos h, hfi]; exact o2
  · have hq : c = 0 ∨ (Ck.pf (pgOf s.toList) k).1 ≤ c := by
      by_cases c0 : c = 0
      · exact .inl c0
      · exact .inr (Nat.le_of_not_lt fun q => ho (.inr ⟨h, c0, q⟩))
    refine ⟨none, 0, none, 0, ?_, ?_, ?_, C.bel⟩
    · rw [C.sec hf h hq]; unfold Ck.v Ck.n Ck.t Ck.x; rw [if_neg h, if_neg h, if_neg h, if_neg h]
    · unfold Ck.n Ck.l1; rw [if_neg h, if_neg h]; exact World.ownsRow_nil _ _ _ _
    · unfold Ck.n Ck.l2; rw [if_neg h, if_neg h]; exact World.ownsRow_nil _ _ _ _
theorem chk_u (s : ByteArray) (k n c : Nat) (w : World) (hw : Tab w) (hk : k ≤ 10) (hn : n ≤ 1048576) (hc : c ≤ 1048576) (hl : (Lk.read s.toList).2 = 0) (ho : Ck.ov (pgOf s.toList) k n c) :
    Calls Tryd.prog 8 #[.string s, .int .i64 k, .agg #[.int .i64 n, .int .i64 c]] w fun e w' => e = .returned (.tuple #[.int .i64 3, repLine 0]) ∧ Below w.heap.size w w' := by
  refine (check_all s k n c w hw hk hn hc hl).mono ?_
  rintro e w' C
  exact ⟨C.unk ho, C.bel⟩
theorem v_cases (p : Pg) (k : Nat) : Ck.v p k = 1 ∨ Ck.v p k = 2 := by
  unfold Ck.v; split
  · exact .inr rfl
  · exact .inl rfl
set_option maxRecDepth 100000 in
set_option maxHeartbeats 4000000 in
theorem limited_rej (s : ByteArray) (k : Nat) (b c : Int) (hb : I64 b) (hc : I64 c) (w : World) (hk : k ≤ 10) (l : Nat) (hl : (Lk.read s.toList).2 = l) (hl0 : l ≠ 0) :
    Calls Tryd.prog 11 #[.string s, .int .i64 k, .int .i64 b, .int .i64 c] w fun e w' => e = .returned (.bool true) ∧ Below w.heap.size w w' := by
  have HC := hid (fun W => kc_rej s k W hk l hl hl0)
  have HP := hid (fun W => pick3000 b hb W)
  have HQ := hid (fun W => pick40 c hc W)
  have hn := pk_lt b 3000 (by omega)
  have hm := pk_lt c 40 (by omega)
  generalize pk b 3000 = n at HP hn
  generalize pk c 40 = m at HQ hm
  have HL := hid (fun W => check_line s k n m W (by unfold wi; exact decide_eq_true ⟨by omega, by omega⟩) (by unfold wi; exact decide_eq_true ⟨by omega, by omega⟩) (by unfold wi; exact decide_eq_true ⟨by omega, by omega⟩) l hl (by omega))
  clear hl hb hc
  go_enter Tryd.func11, Tryd.ntmps11
  go_wp2_with (first | (go_at_call 25; refine (HC.out _).mono ?_; rintro e w1 ⟨rfl, hb⟩; have HB := hid hb; have z1 := hb.size; clear hb; refine Hid.out ?_))
  refine hid ?_
  obtain ⟨W1, hW1⟩ : ∃ W1 : World, w1.alloc (.cells #[.int .i64 l, .slice none 0 0, .slice none 0 0, .int .i64 0, .int .i64 0, .string ⟨#[]⟩, .string ⟨#[]⟩, .int .i64 0, .int .i64 0] 29) = W1 := ⟨_, rfl⟩
  have HB1 := hid (show Below w.heap.size w W1 by rw [← hW1]; exact HB.out.alloc z1 _)
  have z2 := HB1.out.size
  have HE1 := hid hW1
  clear hW1
  go_wp2_with (first | (go_at_call 24; rw [HE1.out]; refine (HP.out _).mono ?_; rintro e w2 ⟨rfl, hw2⟩; have hw3 := hw2.symm; subst hw3; refine Hid.out ?_))
  refine hid ?_
  go_wp2_with (first | (go_at_call 24; refine (HQ.out _).mono ?_; rintro e w2 ⟨rfl, hw2⟩; have hw3 := hw2.symm; subst hw3; refine Hid.out ?_))
  refine hid ?_
  go_wp2_with (first | (go_at_call 8; refine (HL.out _).mono ?_; rintro e w3 ⟨rfl, hb⟩; have HB3 := hid (HB1.out.trans (hb.mono z2)); have z3 := HB3.out.size; clear hb))
  go_ret
  exact ⟨rfl, HB3.out.alloc z3 _⟩
set_option maxRecDepth 100000 in
set_option maxHeartbeats 4000000 in
theorem limited_ov (s : ByteArray) (k : Nat) (b c : Int) (hb : I64 b) (hc : I64 c) (w : World) (hw : Tab w) (hk : k ≤ 10) (hl : (Lk.read s.toList).2 = 0) (ho : Ck.ov (pgOf s.toList) k (pk b 3000) (pk c 40)) :
    Calls Tryd.prog 11 #[.string s, .int .i64 k, .int .i64 b, .int .i64 c] w fun e w' => e = .returned (.bool true) ∧ Below w.heap.size w w' := by
  have HC := hid (fun W hW => kc_x s k W hW hk hl)
  have HP := hid (fun W => pick3000 b hb W)
  have HQ := hid (fun W => pick40 c hc W)
  have hn := pk_lt b 3000 (by omega)
  have hm := pk_lt c 40 (by omega)
  generalize pk b 3000 = n at HP hn ho
  generalize pk c 40 = m at HQ hm ho
  have HL := hid (fun W hW => chk_u s k n m W hW hk (by omega) (by omega) hl ho)
  have HW := hid hw
  clear hl hb hc hw ho
  generalize pgOf s.toList = p at HC HL
  have hv := v_cases p k
  have hv0 : (Ck.v p k != 0) = true := by rcases hv with h | h <;> rw [h] <;> rfl
  have hv3 : (Ck.v p k == 3) = false := by rcases hv with h | h <;> rw [h] <;> rfl
  have hvv : (Ck.v p k == Ck.v p k) = true := by simp
  clear hv
  go_enter Tryd.func11, Tryd.ntmps11
  go_wp2_with (first | (go_at_call 25; refine (HC.out _ HW.out).mono ?_; rintro e w1 ⟨a1, c1, a2, c2, he, ho1, ho2, hb⟩; subst he; have HB := hid hb; have z1 := hb.size; clear hb ho1 ho2; refine Hid.out ?_))
  refine hid ?_
  obtain ⟨W1, hW1⟩ : ∃ W1 : World, w1.alloc (.cells #[.int .i64 0, .slice a1 (Ck.n p k) c1, .slice a2 (Ck.n p k) c2, .int .i64 (Ck.t p k), .int .i64 (Ck.x p k).nv, .string (Ck.x p k).f, .string (Ck.x p k).g, .int .i64 (Ck.x p k).nd, .int .i64 (Ck.x p k).cf] 29) = W1 := ⟨_, rfl⟩
  have HB1 := hid (show Below w.heap.size w W1 by rw [← hW1]; exact HB.out.alloc z1 _)
  have z2 := HB1.out.size
  have HE1 := hid hW1
  clear hW1
  go_wp2_with (first | (go_at_call 24; rw [HE1.out]; refine (HP.out _).mono ?_; rintro e w2 ⟨rfl, hw2⟩; have hw3 := hw2.symm; subst hw3; refine Hid.out ?_))
  refine hid ?_
  go_wp2_with (first | (go_at_call 24; refine (HQ.out _).mono ?_; rintro e w2 ⟨rfl, hw2⟩; have hw3 := hw2.symm; subst hw3; refine Hid.out ?_))
  refine hid ?_
  go_wp2_with (first | (go_at_call 8; refine (HL.out _ (tab_on HW.out HB1.out)).mono ?_; rintro e w3 ⟨rfl, hb⟩; have HB3 := hid (HB1.out.trans (hb.mono z2)); have z3 := HB3.out.size; clear hb))
  go_ret
  exact ⟨rfl, HB3.out.alloc z3 _⟩
set_option maxRecDepth 100000 in
set_option maxHeartbeats 4000000 in
theorem limited_no (s : ByteArray) (k : Nat) (b c : Int) (hb : I64 b) (hc : I64 c) (w : World) (hw : Tab w) (hk : k ≤ 10) (hl : (Lk.read s.toList).2 = 0) (ho : ¬ Ck.ov (pgOf s.toList) k (pk b 3000) (pk c 40)) :
    Calls Tryd.prog 11 #[.string s, .int .i64 k, .int .i64 b, .int .i64 c] w fun e w' => e = .returned (.bool true) ∧ Below w.heap.size w w' := by
  have HC := hid (fun W hW => kc_x s k W hW hk hl)
  have HP := hid (fun W => pick3000 b hb W)
  have HQ := hid (fun W => pick40 c hc W)
  have hn := pk_lt b 3000 (by omega)
  have hm := pk_lt c 40 (by omega)
  generalize pk b 3000 = n at HP hn ho
  generalize pk c 40 = m at HQ hm ho
  have HL := hid (fun W hW => chk_l s k n m W hW hk (by omega) (by omega) hl ho)
  have HW := hid hw
  clear hl hb hc hw ho
  generalize pgOf s.toList = p at HC HL
  have hv := v_cases p k
  have hv0 : (Ck.v p k != 0) = true := by rcases hv with h | h <;> rw [h] <;> rfl
  have hv3 : (Ck.v p k == 3) = false := by rcases hv with h | h <;> rw [h] <;> rfl
  have hvv : (Ck.v p k == Ck.v p k) = true := by simp
  clear hv
  go_enter Tryd.func11, Tryd.ntmps11
  go_wp2_with (first | (go_at_call 25; refine (HC.out _ HW.out).mono ?_; rintro e w1 ⟨a1, c1, a2, c2, he, ho1, ho2, hb⟩; subst he; have HB := hid hb; have z1 := hb.size; clear hb ho1 ho2; refine Hid.out ?_))
  refine hid ?_
  obtain ⟨W1, hW1⟩ : ∃ W1 : World, w1.alloc (.cells #[.int .i64 0, .slice a1 (Ck.n p k) c1, .slice a2 (Ck.n p k) c2, .int .i64 (Ck.t p k), .int .i64 (Ck.x p k).nv, .string (Ck.x p k).f, .string (Ck.x p k).g, .int .i64 (Ck.x p k).nd, .int .i64 (Ck.x p k).cf] 29) = W1 := ⟨_, rfl⟩
  have HB1 := hid (show Below w.heap.size w W1 by rw [← hW1]; exact HB.out.alloc z1 _)
  have z2 := HB1.out.size
  have HE1 := hid hW1
  clear hW1
  go_wp2_with (first | (go_at_call 24; rw [HE1.out]; refine (HP.out _).mono ?_; rintro e w2 ⟨rfl, hw2⟩; have hw3 := hw2.symm; subst hw3; refine Hid.out ?_))
  refine hid ?_
  go_wp2_with (first | (go_at_call 24; refine (HQ.out _).mono ?_; rintro e w2 ⟨rfl, hw2⟩; have hw3 := hw2.symm; subst hw3; refine Hid.out ?_))
  refine hid ?_
  go_wp2_with (first | (go_at_call 8; refine (HL.out _ (tab_on HW.out HB1.out)).mono ?_; rintro e w3 ⟨b1, d1, b2, d2, he, ho1, ho2, hb⟩; subst he; have HB3 := hid (HB1.out.trans (hb.mono z2)); have z3 := HB3.out.size; clear hb ho1 ho2))
  go_ret
  exact ⟨rfl, HB3.out.alloc z3 _⟩
theorem limited_any (s : ByteArray) (k : Nat) (b c : Int) (hb : I64 b) (hc : I64 c) (w : World) (hw : Tab w) (hk : k ≤ 10) : Calls Tryd.prog 11 #[.string s, .int .i64 k, .int .i64 b, .int .i64 c] w fun e w' => e = .returned (.bool true) ∧ Below w.heap.size w w' := by
  by_cases h : (Lk.read s.toList).2 = 0
  · by_cases ho : Ck.ov (pgOf s.toList) k (pk b 3000) (pk c 40)
    · exact limited_ov s k b c hb hc w hw hk h ho
    · exact limited_no s k b c hb hc w hw hk h ho
  · exact limited_rej s k b c hb hc w hk _ rfl h
set_option maxRecDepth 100000 in
set_option maxHeartbeats 1000000 in
theorem Bounded_any (ck : AllChk) (s : ByteArray) (a : Int) (ha : I64 a) (b : Int) (hb : I64 b) (c : Int) (hc : I64 c) (w : World) (hw : Tab w) :
    Calls Tryd.prog 4 #[.string s, .int .i64 a, .int .i64 b, .int .i64 c] w fun e w' => e = .returned (.bool true) ∧ Below w.heap.size w w' := by
  by_cases hs : s.size ≤ 16384
  · have hsI : ¬ (16384 : Int) < (s.size : Int) := by omega
    have h11 := pk_lt a 11 (by omega)
    have HAN : Hid (∀ W : World, Tab W → Calls Tryd.prog 10 #[.int .i64 a] W fun e w' => e = .returned (.bool true) ∧ Below W.heap.size W w') := fun W hW => answers_any ck a ha W hW
    have HS : Hid (∀ W : World, Calls Tryd.prog 12 #[.int .i64 a] W fun e w' => e = .returned (.int .i64 (pk a 11)) ∧ w' = W) := fun W => steps_any a ha W
    generalize pk a 11 = k at h11 HS
    have HL := hid (fun W hW => limited_any s k b c hb hc W hW (by omega))
    clear ha hb hc
    go_enter Tryd.func4, Tryd.ntmps4
    go_wp2_with (first
      | (go_at_call 10; refine (HAN.out _ hw).mono ?_; rintro e w1 ⟨rfl, hb1⟩; have HB1 := hid hb1; have z1 := hb1.size; clear hb1)
      | (go_at_call 12; refine (HS.out _).mono ?_; rintro e w0 ⟨rfl, hw0⟩; have hw1 := hw0.symm; subst hw1)
      | (go_at_call 11; refine (HL.out _ (tab_on hw HB1.out)).mono ?_; rintro e w2 ⟨rfl, hb2⟩; have HB2 := hid hb2; clear hb2))
    go_ret
    exact ⟨rfl, HB1.out.trans (HB2.out.mono z1)⟩
  · have hsI : (16384 : Int) < (s.size : Int) := by omega
    go_enter Tryd.func4, Tryd.ntmps4
    go_wp2
    go_ret
    exact ⟨rfl, Below.refl _ _⟩
theorem rpx9 {w : World} {g : Nat} {ln t : Int} {v1 v2 : Value} {x : Ext} (h : w.heap[g]? = some (.cells #[.int .i64 ln, v1, v2, .int .i64 t, .int .i64 x.nv, .string x.f, .string x.g, .int .i64 x.nd, .int .i64 x.cf] 29)) : w.rowIs g 29 9 (rpw ln v1 v2 t x) := cells_row h rfl (rpd9 rfl rfl rfl rfl rfl rfl rfl rfl rfl)
set_option maxRecDepth 100000 in
set_option maxHeartbeats 1000000 in
theorem same_ints (n : Nat) (hn : n ≤ 10) (f : Nat → Nat) (w : World) (a b : Option Addr) (ca cb : Nat) (ha : NatsAt w a n f) (hb : NatsAt w b n f) :
    Calls Tryd.prog 22 #[.slice a n ca, .slice b n cb] w fun e w' => e = .returned (.bool true) ∧ ∃ m, w' = w.drewN m := by
  have HA := hid ha
  have HB := hid hb
  clear ha hb
  go_enter Tryd.func22, Tryd.ntmps22
  go_wp2_with fail
  go_loopw [5] (fun cv wr => ∃ i : Nat, i ≤ n ∧ cv = .int .i64 i ∧ ∃ m, wr = w.drewN m) (fun cv _ => n - (intOf cv).toNat)
  case atStart => exact ⟨0, Nat.zero_le _, rfl, 0, rfl⟩
  case round =>
    obtain ⟨i, hi, rfl, m, rfl⟩ := hrel
    by_cases hlt : i < n
    · obtain ⟨g, rfl, hg, hcg⟩ := HA.out (by omega)
      obtain ⟨h, rfl, hh, hch⟩ := HB.out (by omega)
      have x0 := hcg i hlt
      have x1 := hch i hlt
      generalize f i = x at x0 x1
      clear hcg hch
      go_wp2_with fail
      go_quiet (fail)
      go_wp2_with fail
      go_roundw
      case rel => exact ⟨i + 1, by omega, by go_num, _, rfl⟩
      case measure => simp [intOf]; omega
    · go_wp2_with fail
      go_ret
      exact ⟨rfl, _, rfl⟩
theorem ov_counts {p : Pg} {k n c : Nat} (h : Ck.ov p k n c) : (0 < (n : Int) ∧ (n : Int) < (Ck.x p k).nd) ∨ (0 < (c : Int) ∧ (c : Int) < (Ck.x p k).cf) := by
  rcases h with h | ⟨h1, h2, h3⟩
  · left
    unfold Dg.Fits at h
    have e : (Ck.x p k).nd = ((Ck.nodes p k).length : Int) - 2 := by unfold Ck.x; split <;> rfl
    have h4 : n ≠ 0 := fun e => h (.inl e)
    have h5 : ¬ (Ck.nodes p k).length ≤ n + 2 := fun e => h (.inr e)
    rw [e]
    omega
  · right
    have e : (Ck.x p k).cf = ((Ck.pf p k).1 : Int) := by unfold Ck.x; rw [if_neg h1]
    rw [e]
    omega
theorem nov_counts {p : Pg} {k n c : Nat} (h : ¬ Ck.ov p k n c) : ¬ (0 < (c : Int) ∧ (c : Int) < (Ck.x p k).cf) := by
  rintro ⟨h1, h2⟩
  by_cases hi : (Pr.fd p k).al < k
  · have e : (Ck.x p k).cf = 0 := by unfold Ck.x; rw [if_pos hi]
    omega
  · have e : (Ck.x p k).cf = ((Ck.pf p k).1 : Int) := by unfold Ck.x; rw [if_neg hi]
    exact h (.inr ⟨hi, by omega, by omega⟩)
set_option maxRecDepth 100000 in
set_option maxHeartbeats 4000000 in
theorem limit_ov (s : ByteArray) (k n c : Nat) (w : World) (hw : Tab w) (hk : k ≤ 10) (hl : (Lk.read s.toList).2 = 0) (ho : Ck.ov (pgOf s.toList) k n c) (g : Nat) (hr : w.rowIs g 29 9 (rpw 0 (.slice none 0 0) (.slice none 0 0) 0 ⟨0, ⟨#[]⟩, ⟨#[]⟩, 0, 0⟩)) :
    Calls Tryd.prog 9 #[.string s, .int .i64 k, .agg #[.int .i64 n, .int .i64 c], .int .i64 3, .pointer (some ⟨g, 0, none⟩)] w fun e w' => e = .returned (.bool true) ∧ Below w.heap.size w w' := by
  have HC := hid (fun W hW => chk_x s k W hW hk hl)
  have hcn := ov_counts ho
  have HW := hid hw
  have HR := hid hr
  clear hl hw ho hr
  generalize pgOf s.toList = p at HC hcn
  go_enter Tryd.func9, Tryd.ntmps9
  go_upto_region 2 with (first | (go_at_call 8; refine (HC.out _ (tab_on HW.out ((Below.refl _ _).alloc (Nat.le_refl _) _))).mono ?_; rintro e w1 ⟨a1, c1, a2, c2, he, ho1, ho2, hb⟩; subst he; have HB := hid hb; have z1 := hb.size; simp at z1; clear hb ho1 ho2))
  obtain ⟨W1, hW1⟩ : ∃ W1 : World, w1.alloc (.cells #[.int .i64 0, .slice a1 (Ck.n p k) c1, .slice a2 (Ck.n p k) c2, .int .i64 (Ck.t p k), .int .i64 (Ck.x p k).nv, .string (Ck.x p k).f, .string (Ck.x p k).g, .int .i64 (Ck.x p k).nd, .int .i64 (Ck.x p k).cf] 29) = W1 := ⟨_, rfl⟩
  have HBW1 := hid (show Below w1.heap.size w1 W1 by rw [← hW1]; exact (Below.refl _ _).alloc (Nat.le_refl _) _)
  have HB0 := hid (show Below w.heap.size w w1 from ((Below.refl _ _).alloc (Nat.le_refl _) _).trans (HB.out.mono (by simp)))
  have HB1 := hid (show Below w.heap.size w W1 from HB0.out.trans (HBW1.out.mono (by omega)))
  have HQ := hid (show W1.rowIs w1.heap.size 29 9 (rpw 0 (.slice a1 (Ck.n p k) c1) (.slice a2 (Ck.n p k) c2) (Ck.t p k) (Ck.x p k)) by rw [← hW1]; exact rpx9 (hp_new' _ _ _ rfl))
  have l0 : W1.cell? ⟨w.heap.size, 0, none⟩ = some (.int .i64 n) := cell_later HBW1.out (cell_later HB.out (newAt w _ _ 0 _ rfl))
  have l1 : W1.cell? ⟨w.heap.size, 1, none⟩ = some (.int .i64 c) := cell_later HBW1.out (cell_later HB.out (newAt w _ _ 1 _ rfl))
  have q7 := HQ.out.cell (i := 7) (by omega)
  have q8 := HQ.out.cell (i := 8) (by omega)
  simp [rpw] at q7 q8
  have HRW := hid (row_later HR.out HB1.out)
  rw [hW1]
  clear hW1
  generalize hnd : (Ck.x p k).nd = nd at hcn q7
  generalize hcf : (Ck.x p k).cf = cf at hcn q8
  go_cut [13] (fun nv wc => ∃ A : Bool, nv = .bool A ∧ (A = true ↔ (0 < (n : Int) ∧ (n : Int) < nd)) ∧ wc = W1)
  case first =>
    by_cases h0 : 0 < (n : Int)
    · by_cases h1 : (n : Int) < nd
      · go_wp2_with fail
        go_meet
        exact ⟨_, rfl, ⟨fun _ => ⟨h0, h1⟩, fun _ => rfl⟩, rfl⟩
      · go_wp2_with fail
        go_meet
        exact ⟨_, rfl, ⟨fun h => (by cases h), fun h => (by omega)⟩, rfl⟩
    · go_wp2_with fail
      go_meet
      exact ⟨_, rfl, ⟨fun h => (by cases h), fun h => (by omega)⟩, rfl⟩
  case rest =>
  obtain ⟨A, rfl, hA, rfl⟩ := hcut
  have HAA := hid hA
  clear hA
  go_upto_region 3 with fail
  go_cut [14] (fun nv wd => ∃ A : Bool, nv = .bool A ∧ (A = true ↔ (0 < (c : Int) ∧ (c : Int) < cf)) ∧ wd = wc)
  case first =>
    by_cases h0 : 0 < (c : Int)
    · by_cases h1 : (c : Int) < cf
      · go_wp2_with fail
        go_meet
        exact ⟨_, rfl, ⟨fun _ => ⟨h0, h1⟩, fun _ => rfl⟩, rfl⟩
      · go_wp2_with fail
        go_meet
        exact ⟨_, rfl, ⟨fun h => (by cases h), fun h => (by omega)⟩, rfl⟩
    · go_wp2_with fail
      go_meet
      exact ⟨_, rfl, ⟨fun h => (by cases h), fun h => (by omega)⟩, rfl⟩
  case rest =>
  obtain ⟨B, rfl, hB, rfl⟩ := hcut
  have HBB := hid hB
  clear hB
  have p5 := HRW.out.cell (i := 5) (by omega)
  have p6 := HRW.out.cell (i := 6) (by omega)
  simp [rpw] at p5 p6
  have hor : A = true ∨ B = true := by
    rcases hcn with h | h
    · exact .inl (HAA.out.2 h)
    · exact .inr (HBB.out.2 h)
  clear hcn HAA HBB
  cases A with
  | true =>
    go_wp2_with fail
    go_ret
    exact ⟨rfl, HB1.out⟩
  | false =>
    have hB : B = true := by
      rcases hor with h | h
      · cases h
      · exact h
    subst hB
    go_wp2_with fail
    go_ret
    exact ⟨rfl, HB1.out⟩
set_option maxRecDepth 100000 in
set_option maxHeartbeats 4000000 in
theorem limit_no (s : ByteArray) (k n c : Nat) (w : World) (hw : Tab w) (hk : k ≤ 10) (hl : (Lk.read s.toList).2 = 0) (ho : ¬ Ck.ov (pgOf s.toList) k n c) (g : Nat) (b1 b2 : Option Addr) (d1 d2 : Nat) (na1 : NatsAt w b1 (Ck.n (pgOf s.toList) k) (fun i => (Ck.l1 (pgOf s.toList) k).getD i 0)) (na2 : NatsAt w b2 (Ck.n (pgOf s.toList) k) (fun i => (Ck.l2 (pgOf s.toList) k).getD i 0)) (hs3 : (pgOf s.toList).sec.length ≤ 3) (hr : w.rowIs g 29 9 (rpw 0 (.slice b1 (Ck.n (pgOf s.toList) k) d1) (.slice b2 (Ck.n (pgOf s.toList) k) d2) (Ck.t (pgOf s.toList) k) (Ck.x (pgOf s.toList) k))) :
    Calls Tryd.prog 9 #[.string s, .int .i64 k, .agg #[.int .i64 n, .int .i64 c], .int .i64 (Ck.v (pgOf s.toList) k), .pointer (some ⟨g, 0, none⟩)] w fun e w' => e = .returned (.bool true) ∧ Below w.heap.size w w' := by
  have HC := hid (fun W hW => chk_x s k W hW hk hl)
  have hcn := hid (nov_counts ho)
  have HW := hid hw
  have HR := hid hr
  have HN1 := hid na1
  have HN2 := hid na2
  have hv := v_cases (pgOf s.toList) k
  have hv3 : (Ck.v (pgOf s.toList) k == 3) = false := by rcases hv with h | h <;> rw [h] <;> rfl
  clear hl hw ho hr hv na1 na2
  generalize pgOf s.toList = p at HC hcn HR HN1 HN2 hv3 hs3
  go_enter Tryd.func9, Tryd.ntmps9
  go_upto_region 2 with (first | (go_at_call 8; refine (HC.out _ (tab_on HW.out ((Below.refl _ _).alloc (Nat.le_refl _) _))).mono ?_; rintro e w1 ⟨a1, c1, a2, c2, he, ho1, ho2, hb⟩; subst he; have HB := hid hb; have z1 := hb.size; simp at z1; have HO1 := hid ho1; have HO2 := hid ho2; clear hb ho1 ho2))
  obtain ⟨W1, hW1⟩ : ∃ W1 : World, w1.alloc (.cells #[.int .i64 0, .slice a1 (Ck.n p k) c1, .slice a2 (Ck.n p k) c2, .int .i64 (Ck.t p k), .int .i64 (Ck.x p k).nv, .string (Ck.x p k).f, .string (Ck.x p k).g, .int .i64 (Ck.x p k).nd, .int .i64 (Ck.x p k).cf] 29) = W1 := ⟨_, rfl⟩
  have HBW1 := hid (show Below w1.heap.size w1 W1 by rw [← hW1]; exact (Below.refl _ _).alloc (Nat.le_refl _) _)
  have HB0 := hid (show Below w.heap.size w w1 from ((Below.refl _ _).alloc (Nat.le_refl _) _).trans (HB.out.mono (by simp)))
  have HB1 := hid (show Below w.heap.size w W1 from HB0.out.trans (HBW1.out.mono (by omega)))
  have HQ := hid (show W1.rowIs w1.heap.size 29 9 (rpw 0 (.slice a1 (Ck.n p k) c1) (.slice a2 (Ck.n p k) c2) (Ck.t p k) (Ck.x p k)) by rw [← hW1]; exact rpx9 (hp_new' _ _ _ rfl))
  have l0 : W1.cell? ⟨w.heap.size, 0, none⟩ = some (.int .i64 n) := cell_later HBW1.out (cell_later HB.out (newAt w _ _ 0 _ rfl))
  have l1 : W1.cell? ⟨w.heap.size, 1, none⟩ = some (.int .i64 c) := cell_later HBW1.out (cell_later HB.out (newAt w _ _ 1 _ rfl))
  have q7 := HQ.out.cell (i := 7) (by omega)
  have q8 := HQ.out.cell (i := 8) (by omega)
  simp [rpw] at q7 q8
  have HRW := hid (row_later HR.out HB1.out)
  rw [hW1]
  clear hW1
  generalize hnd : (Ck.x p k).nd = nd at hcn q7
  generalize hcf : (Ck.x p k).cf = cf at hcn q8
  go_cut [13] (fun nv wc => ∃ A : Bool, nv = .bool A ∧ (A = true ↔ (0 < (n : Int) ∧ (n : Int) < nd)) ∧ wc = W1)
  case first =>
    by_cases h0 : 0 < (n : Int)
    · by_cases h1 : (n : Int) < nd
      · go_wp2_with fail
        go_meet
        exact ⟨_, rfl, ⟨fun _ => ⟨h0, h1⟩, fun _ => rfl⟩, rfl⟩
      · go_wp2_with fail
        go_meet
        exact ⟨_, rfl, ⟨fun h => (by cases h), fun h => (by omega)⟩, rfl⟩
    · go_wp2_with fail
      go_meet
      exact ⟨_, rfl, ⟨fun h => (by cases h), fun h => (by omega)⟩, rfl⟩
  case rest =>
  obtain ⟨A, rfl, hA, rfl⟩ := hcut
  have HAA := hid hA
  clear hA
  go_upto_region 3 with fail
  go_cut [14] (fun nv wd => ∃ A : Bool, nv = .bool A ∧ (A = true ↔ (0 < (c : Int) ∧ (c : Int) < cf)) ∧ wd = wc)
  case first =>
    by_cases h0 : 0 < (c : Int)
    · by_cases h1 : (c : Int) < cf
      · go_wp2_with fail
        go_meet
        exact ⟨_, rfl, ⟨fun _ => ⟨h0, h1⟩, fun _ => rfl⟩, rfl⟩
      · go_wp2_with fail
        go_meet
        exact ⟨_, rfl, ⟨fun h => (by cases h), fun h => (by omega)⟩, rfl⟩
    · go_wp2_with fail
      go_meet
      exact ⟨_, rfl, ⟨fun h => (by cases h), fun h => (by omega)⟩, rfl⟩
  case rest =>
  obtain ⟨B, rfl, hB, rfl⟩ := hcut
  have HBB := hid hB
  clear hB
  have p1 := HRW.out.cell (i := 1) (by omega)
  have p2 := HRW.out.cell (i := 2) (by omega)
  have p3 := HRW.out.cell (i := 3) (by omega)
  have p4 := HRW.out.cell (i := 4) (by omega)
  have p5 := HRW.out.cell (i := 5) (by omega)
  have p6 := HRW.out.cell (i := 6) (by omega)
  have p7 := HRW.out.cell (i := 7) (by omega)
  have p8 := HRW.out.cell (i := 8) (by omega)
  have q1 := HQ.out.cell (i := 1) (by omega)
  have q2 := HQ.out.cell (i := 2) (by omega)
  have q3 := HQ.out.cell (i := 3) (by omega)
  have q4 := HQ.out.cell (i := 4) (by omega)
  have q5 := HQ.out.cell (i := 5) (by omega)
  have q6 := HQ.out.cell (i := 6) (by omega)
  simp [rpw, hnd, hcf] at p1 p2 p3 p4 p5 p6 p7 p8 q1 q2 q3 q4 q5 q6
  have hno : B = false := by
    cases B with
    | false => rfl
    | true => exact absurd (HBB.out.1 rfl) hcn.out
  subst hno
  have hn10 : Ck.n p k ≤ 10 := by unfold Ck.n; split <;> omega
  have e1 : (Ck.l1 p k).length = Ck.n p k := by have := HO1.out.1; simpa using this
  have e2 : (Ck.l2 p k).length = Ck.n p k := by have := HO2.out.1; simpa using this
  have N1 := (NatsAt.of e1 HO1.out).same HBW1.out
  have N2 := (NatsAt.of e2 HO2.out).same HBW1.out
  have M1 := HN1.out.same HB1.out
  have M2 := HN2.out.same HB1.out
  have HS1 : Hid (∀ y : Nat, Calls Tryd.prog 22 #[.slice b1 (Ck.n p k) d1, .slice a1 (Ck.n p k) c1] (wc.drewN y) fun e w'' => e = .returned (.bool true) ∧ ∃ m, w'' = wc.drewN m) := fun y => by
    refine (same_ints _ hn10 _ (wc.drewN y) b1 a1 d1 c1 M1 N1).mono ?_
    rintro e w'' ⟨rfl, m, rfl⟩
    exact ⟨rfl, y + m, by simp⟩
  have HS2 : Hid (∀ z y : Nat, Calls Tryd.prog 22 #[.slice b2 (Ck.n p k) d2, .slice a2 (Ck.n p k) c2] (wc.drewN (z + y)) fun e w'' => e = .returned (.bool true) ∧ ∃ m, w'' = wc.drewN (z + m)) := fun z y => by
    refine (same_ints _ hn10 _ (wc.drewN (z + y)) b2 a2 d2 c2 (M2.same (below_drewN (Below.refl _ _) _)) (N2.same (below_drewN (Below.refl _ _) _))).mono ?_
    rintro e w'' ⟨rfl, m, rfl⟩
    exact ⟨rfl, y + m, by rw [World.drewN_drewN, Nat.add_assoc]⟩
  clear N1 N2 M1 M2 e1 e2 hcn HQ HRW HAA HBB
  generalize (Ck.x p k).f = xf at p5 q5
  generalize (Ck.x p k).g = xg at p6 q6
  generalize (Ck.x p k).nv = xn at p4 q4
  generalize Ck.t p k = xt at p3 q3
  go_wp2_with fail
  go_quiet (first | (go_at_call 22; exact HS1.out _))
  go_wp2_with fail
  go_quiet (first | (go_at_call 22; exact HS2.out _ _))
  go_wp2_with fail
  go_quiet (fail)
  go_wp2_with fail
  go_quiet (fail)
  go_wp2_with fail
  go_quiet (fail)
  go_wp2_with fail
  go_ret
  exact ⟨rfl, by repeat (first | exact HB1.out | refine below_drewN ?_ _)⟩
theorem wi_nat {k : Int} (h : wi k 10 = true) : ∃ m : Nat, k = m ∧ m ≤ 10 := by
  unfold wi at h
  have h := of_decide_eq_true h
  exact ⟨k.toNat, by omega, by omega⟩
theorem wi_lim {k : Int} (h : wi k 1048576 = true) : ∃ m : Nat, k = m ∧ m ≤ 1048576 := by
  unfold wi at h
  have h := of_decide_eq_true h
  exact ⟨k.toNat, by omega, by omega⟩
end Go.Proofs.YtgddmpmcnjlcjabDoor
