import Derived.Test.YtfnmglfbcpdlnaaF5
import Derived.Test.YtfnmglfbcpdlnaaC2
/- The keeps' own small functions. -/
namespace Go.Proofs.Ytfnmglfbcpdlnaa
open Go.RowKit
set_option linter.unusedVariables false

theorem kc_rej (s : ByteArray) (k : Nat) (w : World) (hk : k ≤ 10) (l : Nat) (hl : (Lk.read s.toList).2 = l) (hl0 : l ≠ 0) :
    Calls Try.prog 40 #[.string s, .int .i64 k] w fun e w' => e = .returned (.tuple #[.int .i64 0, repLine l]) ∧ Below w.heap.size w w' :=
  keep_check _ k w l fun W => check_line _ k 0 0 W (by unfold wi; exact decide_eq_true ⟨by omega, by omega⟩) (by decide) (by decide) l hl (by omega)

set_option maxRecDepth 100000 in
set_option maxHeartbeats 1000000 in
theorem kc_sec (s : ByteArray) (k : Nat) (w : World) (hk : k ≤ 10) (hl : (Lk.read s.toList).2 = 0) (hin : ¬ (Pr.fd (pgOf s.toList) k).al < k) :
    Calls Try.prog 40 #[.string s, .int .i64 k] w fun e w' => e = .returned (.tuple #[.int .i64 1, repLine 0]) ∧ Below w.heap.size w w' := by
  have HL := hid hl
  have HIN := hid hin
  clear hl hin
  go_enter Try.func40, Try.ntmps40
  go_wp2_with (first | (go_at_call 15; refine (check_prog s k 0 0 _ hk (by decide) (by decide) HL.out).mono ?_; rintro e w1 C; have he := C.sec HIN.out; subst he; have hb := C.bel; have z1 := hb.size; simp at z1; obtain ⟨c0, c1, c2, c3, c4, c5, c6, c7, c8, cf⟩ := rep_facts1 hb; have HB := hid hb; clear hb C))
  refine bodyPost_ret (v := .tuple #[.int .i64 1, repLine 0]) (by simp [results, Try.results40, go_sem, c0, c1, c2, c3, c4, c5, c6, c7, c8]) rfl ⟨rfl, ?_⟩
  exact ((((((((((((Below.refl _ _).alloc (Nat.le_refl _) _).trans (HB.out.mono (by simp))).setCell (Nat.le_refl _) _).setCell (Nat.le_refl _) _).setCell (Nat.le_refl _) _).setCell (Nat.le_refl _) _).setCell (Nat.le_refl _) _).setCell (Nat.le_refl _) _).setCell (Nat.le_refl _) _).setCell (Nat.le_refl _) _).setCell (Nat.le_refl _) _)

structure KIns (w w' : World) (e : Ending) (p : Pg) (k : Nat) (a1 : Option Addr) (c1 : Nat) (a2 : Option Addr) (c2 i j : Nat) : Prop where
  bel : Below w.heap.size w w'
  res : e = .returned (.tuple #[.int .i64 2, repTwo (.slice a1 p.sec.length c1) (.slice a2 p.sec.length c2) (Pr.fd p k).al])
  fi : (Pr.fd p k).fi = some (i, j)
  o1 : w'.ownsRow w.heap.size 3 1 (.slice a1 p.sec.length c1) p.sec.length ((Pr.inp p.sec i 0).map fun (n : Nat) => .int .i64 n)
  o2 : w'.ownsRow w.heap.size 3 1 (.slice a2 p.sec.length c2) p.sec.length ((Pr.inp p.sec i j).map fun (n : Nat) => .int .i64 n)

set_option maxRecDepth 100000 in
set_option maxHeartbeats 1000000 in
theorem kc_ins (s : ByteArray) (k : Nat) (w : World) (hk : k ≤ 10) (hl : (Lk.read s.toList).2 = 0) (hin : (Pr.fd (pgOf s.toList) k).al < k) :
    Calls Try.prog 40 #[.string s, .int .i64 k] w fun e w' => ∃ a1 c1 a2 c2 i j, KIns w w' e (pgOf s.toList) k a1 c1 a2 c2 i j := by
  have HL := hid hl
  have HIN := hid hin
  clear hl hin
  go_enter Try.func40, Try.ntmps40
  go_wp2_with (first | (go_at_call 15; refine (check_prog s k 0 0 _ hk (by decide) (by decide) HL.out).mono ?_; rintro e w1 C; obtain ⟨a1, c1, a2, c2, i, j, he, hfi, ho1, ho2⟩ := C.ins HIN.out; subst he; have hb := C.bel; have z1 := hb.size; simp at z1; obtain ⟨x0, x1, x2, x3, x4, x5, x6, x7, x8, xf⟩ := rep_facts1 hb; have HB := hid hb; have HO1 := hid ho1; have HO2 := hid ho2; have HFI := hid hfi; clear hb C ho1 ho2 hfi))
  have FR := Frm.setCell (p := ⟨w.heap.size, 8, none⟩) (Frm.setCell (p := ⟨w.heap.size, 7, none⟩) (Frm.setCell (p := ⟨w.heap.size, 6, none⟩) (Frm.setCell (p := ⟨w.heap.size, 5, none⟩) (Frm.setCell (p := ⟨w.heap.size, 4, none⟩) (Frm.setCell (p := ⟨w.heap.size, 3, none⟩) (Frm.setCell (p := ⟨w.heap.size, 2, none⟩) (Frm.setCell (p := ⟨w.heap.size, 1, none⟩) (Frm.setCell (p := ⟨w.heap.size, 0, none⟩) ((Frm.refl 0 (fun q => q = w.heap.size) w1)) (Nat.zero_le _) rfl (.int .i64 0)) (Nat.zero_le _) rfl (.slice a1 (pgOf s.toList).sec.length c1)) (Nat.zero_le _) rfl (.slice a2 (pgOf s.toList).sec.length c2)) (Nat.zero_le _) rfl (.int .i64 (Pr.fd (pgOf s.toList) k).al)) (Nat.zero_le _) rfl (.int .i64 0)) (Nat.zero_le _) rfl (.string ⟨#[]⟩)) (Nat.zero_le _) rfl (.string ⟨#[]⟩)) (Nat.zero_le _) rfl (.int .i64 0)) (Nat.zero_le _) rfl (.int .i64 0)
  refine bodyPost_ret (v := .tuple #[.int .i64 2, repTwo (.slice a1 (pgOf s.toList).sec.length c1) (.slice a2 (pgOf s.toList).sec.length c2) (Pr.fd (pgOf s.toList) k).al]) (by simp [results, Try.results40, go_sem, x0, x1, x2, x3, x4, x5, x6, x7, x8]) rfl ⟨a1, c1, a2, c2, i, j, ?_, rfl, HFI.out, ?_, ?_⟩
  · exact ((((((((((((Below.refl _ _).alloc (Nat.le_refl _) _).trans (HB.out.mono (by simp))).setCell (Nat.le_refl _) _).setCell (Nat.le_refl _) _).setCell (Nat.le_refl _) _).setCell (Nat.le_refl _) _).setCell (Nat.le_refl _) _).setCell (Nat.le_refl _) _).setCell (Nat.le_refl _) _).setCell (Nat.le_refl _) _).setCell (Nat.le_refl _) _)
  · exact ownsRow_low (ownsRow_blk HO1.out (fun g e => FR.keep g (HO1.out.lt g e).2 (fun e2 => by have := (HO1.out.lt g e).1; simp at this; omega))) (by simp)
  · exact ownsRow_low (ownsRow_blk HO2.out (fun g e => FR.keep g (HO2.out.lt g e).2 (fun e2 => by have := (HO2.out.lt g e).1; simp at this; omega))) (by simp)

/-- Of a program: one of the two. -/
theorem kc_prog (s : ByteArray) (k : Nat) (w : World) (hk : k ≤ 10) (hl : (Lk.read s.toList).2 = 0) :
    Calls Try.prog 40 #[.string s, .int .i64 k] w fun e w' => ∃ (v : Int) (a1 : Option Addr) (n1 c1 : Nat) (a2 : Option Addr) (n2 c2 : Nat) (t : Int), e = .returned (.tuple #[.int .i64 v, repTwo (.slice a1 n1 c1) (.slice a2 n2 c2) t]) ∧ (v = 1 ∨ v = 2) ∧ Below w.heap.size w w' := by
  by_cases hin : (Pr.fd (pgOf s.toList) k).al < k
  · refine (kc_ins s k w hk hl hin).mono ?_
    rintro e w' ⟨a1, c1, a2, c2, i, j, K⟩
    exact ⟨2, a1, _, c1, a2, _, c2, _, K.res, .inr rfl, K.bel⟩
  · refine (kc_sec s k w hk hl hin).mono ?_
    rintro e w' ⟨rfl, hb⟩
    exact ⟨1, none, 0, 0, none, 0, 0, 0, rfl, .inl rfl, hb⟩

abbrev I64 (c : Int) : Prop := -9223372036854775808 ≤ c ∧ c ≤ 9223372036854775807
/-- Which of n things a raw number speaks of. -/
def pk (c : Int) (n : Nat) : Nat := ((if c < 0 then -(c + 1) else c) % n).toNat
theorem pk_lt (c : Int) (n : Nat) (h : 0 < n) : pk c n < n := by
  unfold pk
  have b2 := Int.emod_lt_of_pos (if c < 0 then -(c + 1) else c) (show (0 : Int) < (n : Int) by omega)
  have b1 := Int.emod_nonneg (if c < 0 then -(c + 1) else c) (show (n : Int) ≠ 0 by omega)
  omega

set_option maxHeartbeats 400000 in
theorem pick29 (c : Int) (hc : I64 c) (w : World) :
    Calls Try.prog 39 #[.int .i64 c, .int .i64 29] w fun e w' => e = .returned (.int .i64 (pk c 29)) ∧ w' = w := by
  have q := pk_lt c 29 (by omega)
  unfold pk at q ⊢
  by_cases h : c < 0
  · rw [if_pos h] at q ⊢
    go_enter Try.func39, Try.ntmps39
    go_wp2
    go_ret
    have e : -(c + 1).tmod 29 = (-(c + 1)) % 29 := by rw [← Int.neg_tmod, Int.tmod_eq_emod_of_nonneg (by omega)]
    have b1 := Int.emod_nonneg (-(c + 1)) (show (29 : Int) ≠ 0 by omega)
    exact ⟨ret_int (e.trans (by omega)), rfl⟩
  · rw [if_neg h] at q ⊢
    have h0 : 0 ≤ c := by omega
    go_enter Try.func39, Try.ntmps39
    go_wp2
    go_ret
    exact ⟨ret_int (by omega), rfl⟩

set_option maxHeartbeats 400000 in
theorem pick11 (c : Int) (hc : I64 c) (w : World) :
    Calls Try.prog 39 #[.int .i64 c, .int .i64 11] w fun e w' => e = .returned (.int .i64 (pk c 11)) ∧ w' = w := by
  have q := pk_lt c 11 (by omega)
  unfold pk at q ⊢
  by_cases h : c < 0
  · rw [if_pos h] at q ⊢
    go_enter Try.func39, Try.ntmps39
    go_wp2
    go_ret
    have e : -(c + 1).tmod 11 = (-(c + 1)) % 11 := by rw [← Int.neg_tmod, Int.tmod_eq_emod_of_nonneg (by omega)]
    have b1 := Int.emod_nonneg (-(c + 1)) (show (11 : Int) ≠ 0 by omega)
    exact ⟨ret_int (e.trans (by omega)), rfl⟩
  · rw [if_neg h] at q ⊢
    have h0 : 0 ≤ c := by omega
    go_enter Try.func39, Try.ntmps39
    go_wp2
    go_ret
    exact ⟨ret_int (by omega), rfl⟩

set_option maxHeartbeats 400000 in
theorem pick10 (c : Int) (hc : I64 c) (w : World) :
    Calls Try.prog 39 #[.int .i64 c, .int .i64 10] w fun e w' => e = .returned (.int .i64 (pk c 10)) ∧ w' = w := by
  have q := pk_lt c 10 (by omega)
  unfold pk at q ⊢
  by_cases h : c < 0
  · rw [if_pos h] at q ⊢
    go_enter Try.func39, Try.ntmps39
    go_wp2
    go_ret
    have e : -(c + 1).tmod 10 = (-(c + 1)) % 10 := by rw [← Int.neg_tmod, Int.tmod_eq_emod_of_nonneg (by omega)]
    have b1 := Int.emod_nonneg (-(c + 1)) (show (10 : Int) ≠ 0 by omega)
    exact ⟨ret_int (e.trans (by omega)), rfl⟩
  · rw [if_neg h] at q ⊢
    have h0 : 0 ≤ c := by omega
    go_enter Try.func39, Try.ntmps39
    go_wp2
    go_ret
    exact ⟨ret_int (by omega), rfl⟩

set_option maxHeartbeats 400000 in
theorem pick4096 (c : Int) (hc : I64 c) (w : World) :
    Calls Try.prog 39 #[.int .i64 c, .int .i64 4096] w fun e w' => e = .returned (.int .i64 (pk c 4096)) ∧ w' = w := by
  have q := pk_lt c 4096 (by omega)
  unfold pk at q ⊢
  by_cases h : c < 0
  · rw [if_pos h] at q ⊢
    go_enter Try.func39, Try.ntmps39
    go_wp2
    go_ret
    have e : -(c + 1).tmod 4096 = (-(c + 1)) % 4096 := by rw [← Int.neg_tmod, Int.tmod_eq_emod_of_nonneg (by omega)]
    have b1 := Int.emod_nonneg (-(c + 1)) (show (4096 : Int) ≠ 0 by omega)
    exact ⟨ret_int (e.trans (by omega)), rfl⟩
  · rw [if_neg h] at q ⊢
    have h0 : 0 ≤ c := by omega
    go_enter Try.func39, Try.ntmps39
    go_wp2
    go_ret
    exact ⟨ret_int (by omega), rfl⟩

theorem steps_any (a : Int) (ha : I64 a) (w : World) :
    Calls Try.prog 24 #[.int .i64 a] w fun e w' => e = .returned (.int .i64 (pk a 11)) ∧ w' = w := by
  have HA := hid ha
  clear ha
  go_enter Try.func24, Try.ntmps24
  go_wp2_with (first | (go_at_call 39; refine (pick11 a HA.out _).mono ?_; rintro e w0 ⟨rfl, hw0⟩; have hw1 := hw0.symm; subst hw1))
  go_ret
  exact ⟨rfl, rfl⟩

end Go.Proofs.Ytfnmglfbcpdlnaa
