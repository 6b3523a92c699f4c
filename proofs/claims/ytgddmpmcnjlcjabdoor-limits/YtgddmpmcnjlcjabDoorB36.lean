import Derived.Test.YtgddmpmcnjlcjabDoorB35
import Derived.Test.YtgddmpmcnjlcjabDoorB33
import Derived.KernelRfl
import Derived.Test.YtgddmpmcnjlcjabDoorRows
import Derived.Lib.LaidTab
import Derived.LaidMore
import Derived.MakeChecks
import Derived.Stop.LaidErr
namespace Go.Proofs.YtgddmpmcnjlcjabDoor
open Go.RowKit
set_option linter.unusedVariables false
theorem check_all (s : ByteArray) (k n c : Nat) (w : World) (htab : Tab w) (hk : k ≤ 10) (hn : n ≤ 1048576) (hc : c ≤ 1048576) (hl : (Lk.read s.toList).2 = 0) :
    Calls Tryd.prog 8 #[.string s, .int .i64 k, .agg #[.int .i64 n, .int .i64 c]] w fun e w' => CkOut w w' e (pgOf s.toList) k n c := by
  by_cases hf : Dg.Fits (pgOf s.toList) k n
  · exact check_fit s k n c w htab hk hn hc hl hf
  · exact check_nofit s k n c w htab hk hn hc hl hf
theorem chk_ok (s : ByteArray) (k : Nat) (hk : k ≤ 10) (hl : (Lk.read s.toList).2 = 0) : ChkOk s k := fun w hw => by
  refine (check_all s k 0 0 w hw hk (by omega) (by omega) hl).mono ?_
  rintro e w' C
  refine ⟨C.bel, fun h => ⟨_, _, _, _, _, C.sec (.inl rfl) h (.inl rfl)⟩, fun h => ?_⟩
  obtain ⟨a1, c1, a2, c2, i, j, he, hfi, o1, o2⟩ := C.ins (.inl rfl) h
  exact ⟨a1, c1, a2, c2, i, j, _, _, _, _, _, he, hfi, o1, o2⟩
theorem rep_facts1 {w w1 : World} (hb : Below (w.alloc (.cells #[.int .i64 0, .slice none 0 0, .slice none 0 0, .int .i64 0, .int .i64 0, .string ⟨#[]⟩, .string ⟨#[]⟩, .int .i64 0, .int .i64 0] 29)).heap.size (w.alloc (.cells #[.int .i64 0, .slice none 0 0, .slice none 0 0, .int .i64 0, .int .i64 0, .string ⟨#[]⟩, .string ⟨#[]⟩, .int .i64 0, .int .i64 0] 29)) w1) :
    (w1.cell? ⟨w.heap.size, 0, none⟩ = some (.int .i64 0)) ∧
    (w1.cell? ⟨w.heap.size, 1, none⟩ = some (.slice none 0 0)) ∧
    (w1.cell? ⟨w.heap.size, 2, none⟩ = some (.slice none 0 0)) ∧
    (w1.cell? ⟨w.heap.size, 3, none⟩ = some (.int .i64 0)) ∧
    (w1.cell? ⟨w.heap.size, 4, none⟩ = some (.int .i64 0)) ∧
    (w1.cell? ⟨w.heap.size, 5, none⟩ = some (.string ⟨#[]⟩)) ∧
    (w1.cell? ⟨w.heap.size, 6, none⟩ = some (.string ⟨#[]⟩)) ∧
    (w1.cell? ⟨w.heap.size, 7, none⟩ = some (.int .i64 0)) ∧
    (w1.cell? ⟨w.heap.size, 8, none⟩ = some (.int .i64 0)) ∧
    (∀ i, w1.frozen? ⟨w.heap.size, i, none⟩ = false) := by
  refine ⟨cell_later hb (newAt w _ _ 0 _ rfl), cell_later hb (newAt w _ _ 1 _ rfl), cell_later hb (newAt w _ _ 2 _ rfl), cell_later hb (newAt w _ _ 3 _ rfl), cell_later hb (newAt w _ _ 4 _ rfl), cell_later hb (newAt w _ _ 5 _ rfl), cell_later hb (newAt w _ _ 6 _ rfl), cell_later hb (newAt w _ _ 7 _ rfl), cell_later hb (newAt w _ _ 8 _ rfl), fun i => froz_later hb (by simp) (froz_new w _ _ i)⟩
set_option maxRecDepth 100000 in
set_option maxHeartbeats 1000000 in
theorem keep_check (s : ByteArray) (k : Int) (w : World) (l : Nat) (h : ∀ W : World, Calls Tryd.prog 8 #[.string s, .int .i64 k, .agg #[.int .i64 0, .int .i64 0]] W fun e w' => e = .returned (.tuple #[.int .i64 0, repLine l]) ∧ Below W.heap.size W w') :
    Calls Tryd.prog 25 #[.string s, .int .i64 k] w fun e w' => e = .returned (.tuple #[.int .i64 0, repLine l]) ∧ Below w.heap.size w w' := by
  go_enter Tryd.func25, Tryd.ntmps25
  go_wp2_with (first | (go_at_call 8; refine (h _).mono ?_; rintro e w1 ⟨rfl, hb⟩; have z1 := hb.size; simp at z1; obtain ⟨c0, c1, c2, c3, c4, c5, c6, c7, c8, cf⟩ := rep_facts1 hb; have HB := hid hb; clear hb))
  refine bodyPost_ret (v := .tuple #[.int .i64 0, repLine l]) (by simp [results, Tryd.results25, go_sem, c0, c1, c2, c3, c4, c5, c6, c7, c8]) rfl ⟨rfl, ?_⟩
  exact ((((((((((((Below.refl _ _).alloc (Nat.le_refl _) _).trans (HB.out.mono (by simp))).setCell (Nat.le_refl _) _).setCell (Nat.le_refl _) _).setCell (Nat.le_refl _) _).setCell (Nat.le_refl _) _).setCell (Nat.le_refl _) _).setCell (Nat.le_refl _) _).setCell (Nat.le_refl _) _).setCell (Nat.le_refl _) _).setCell (Nat.le_refl _) _)
structure Ext where
  nv : Int
  f : ByteArray
  g : ByteArray
  nd : Int
  cf : Int
abbrev repTwo (v1 v2 : Value) (n : Int) (x : Ext) : Value := .agg #[.int .i64 0, v1, v2, .int .i64 n, .int .i64 x.nv, .string x.f, .string x.g, .int .i64 x.nd, .int .i64 x.cf]
abbrev repSec (x : Ext) : Value := repTwo (.slice none 0 0) (.slice none 0 0) 0 x
abbrev AllChk : Prop := ∀ (s : ByteArray) (k : Nat), k ≤ 10 → (Lk.read s.toList).2 = 0 → ChkOk s k
abbrev AllLim : Prop := ∀ (s : ByteArray) (k : Nat) (n c : Int) (w : World), Tab w → k ≤ 10 → wi n 1048576 = true → wi c 1048576 = true → (Lk.read s.toList).2 = 0 → Calls Tryd.prog 8 #[.string s, .int .i64 k, .agg #[.int .i64 n, .int .i64 c]] w fun e w' => Below w.heap.size w w' ∧ ∃ (v : Int) (a1 : Option Addr) (n1 c1 : Nat) (a2 : Option Addr) (n2 c2 : Nat) (t : Int) (x : Ext), e = .returned (.tuple #[.int .i64 v, repTwo (.slice a1 n1 c1) (.slice a2 n2 c2) t x]) ∧ v ≠ 0
theorem kc_rej (s : ByteArray) (k : Nat) (w : World) (hk : k ≤ 10) (l : Nat) (hl : (Lk.read s.toList).2 = l) (hl0 : l ≠ 0) :
    Calls Tryd.prog 25 #[.string s, .int .i64 k] w fun e w' => e = .returned (.tuple #[.int .i64 0, repLine l]) ∧ Below w.heap.size w w' :=
  keep_check _ k w l fun W => check_line _ k 0 0 W (by unfold wi; exact decide_eq_true ⟨by omega, by omega⟩) (by decide) (by decide) l hl (by omega)
set_option maxRecDepth 100000 in
set_option maxHeartbeats 1000000 in
theorem kc_sec (ck : AllChk) (s : ByteArray) (k : Nat) (w : World) (hw : Tab w) (hk : k ≤ 10) (hl : (Lk.read s.toList).2 = 0) (hin : ¬ (Pr.fd (pgOf s.toList) k).al < k) :
    Calls Tryd.prog 25 #[.string s, .int .i64 k] w fun e w' => ∃ x : Ext, e = .returned (.tuple #[.int .i64 1, repSec x]) ∧ Below w.heap.size w w' := by
  have HC := hid (ck s k hk hl)
  have HW := hid hw
  have HIN := hid hin
  clear hl hin hw ck
  go_enter Tryd.func25, Tryd.ntmps25
  go_wp2_with (first | (go_at_call 8; refine (HC.out _ (tab_on HW.out ((Below.refl _ _).alloc (Nat.le_refl _) _))).mono ?_; rintro e w1 C; obtain ⟨nv, f, g, nd, cf, he⟩ := C.sec HIN.out; subst he; have hb := C.bel; have z1 := hb.size; simp at z1; obtain ⟨c0, c1, c2, c3, c4, c5, c6, c7, c8, cfz⟩ := rep_facts1 hb; have HB := hid hb; clear hb C))
  refine bodyPost_ret (v := .tuple #[.int .i64 1, repSec ⟨nv, f, g, nd, cf⟩]) (by simp [results, Tryd.results25, go_sem, c0, c1, c2, c3, c4, c5, c6, c7, c8]) rfl ⟨⟨nv, f, g, nd, cf⟩, rfl, ?_⟩
  exact ((((((((((((Below.refl _ _).alloc (Nat.le_refl _) _).trans (HB.out.mono (by simp))).setCell (Nat.le_refl _) _).setCell (Nat.le_refl _) _).setCell (Nat.le_refl _) _).setCell (Nat.le_refl _) _).setCell (Nat.le_refl _) _).setCell (Nat.le_refl _) _).setCell (Nat.le_refl _) _).setCell (Nat.le_refl _) _).setCell (Nat.le_refl _) _)
structure KIns (w w' : World) (e : Ending) (p : Pg) (k : Nat) (a1 : Option Addr) (c1 : Nat) (a2 : Option Addr) (c2 i j : Nat) (x : Ext) : Prop where
  bel : Below w.heap.size w w'
  res : e = .returned (.tuple #[.int .i64 2, repTwo (.slice a1 p.sec.length c1) (.slice a2 p.sec.length c2) (Pr.fd p k).al x])
  fi : (Pr.fd p k).fi = some (i, j)
  o1 : w'.ownsRow w.heap.size 3 1 (.slice a1 p.sec.length c1) p.sec.length ((Pr.inp p.sec i 0).map fun (n : Nat) => .int .i64 n)
  o2 : w'.ownsRow w.heap.size 3 1 (.slice a2 p.sec.length c2) p.sec.length ((Pr.inp p.sec i j).map fun (n : Nat) => .int .i64 n)
set_option maxRecDepth 100000 in
set_option maxHeartbeats 1000000 in
theorem kc_ins (ck : AllChk) (s : ByteArray) (k : Nat) (w : World) (hw : Tab w) (hk : k ≤ 10) (hl : (Lk.read s.toList).2 = 0) (hin : (Pr.fd (pgOf s.toList) k).al < k) :
    Calls Tryd.prog 25 #[.string s, .int .i64 k] w fun e w' => ∃ a1 c1 a2 c2 i j x, KIns w w' e (pgOf s.toList) k a1 c1 a2 c2 i j x := by
  have HC := hid (ck s k hk hl)
  have HW := hid hw
  have HIN := hid hin
  clear hl hin hw ck
  go_enter Tryd.func25, Tryd.ntmps25
  go_wp2_with (first | (go_at_call 8; refine (HC.out _ (tab_on HW.out ((Below.refl _ _).alloc (Nat.le_refl _) _))).mono ?_; rintro e w1 C; obtain ⟨a1, c1, a2, c2, i, j, nv, f, g, nd, cf, he, hfi, ho1, ho2⟩ := C.ins HIN.out; subst he; have hb := C.bel; have z1 := hb.size; simp at z1; obtain ⟨x0, x1, x2, x3, x4, x5, x6, x7, x8, xf⟩ := rep_facts1 hb; have HB := hid hb; have HO1 := hid ho1; have HO2 := hid ho2; have HFI := hid hfi; clear hb C ho1 ho2 hfi))
  have FR := Frm.setCell (p := ⟨w.heap.size, 8, none⟩) (Frm.setCell (p := ⟨w.heap.size, 7, none⟩) (Frm.setCell (p := ⟨w.heap.size, 6, none⟩) (Frm.setCell (p := ⟨w.heap.size, 5, none⟩) (Frm.setCell (p := ⟨w.heap.size, 4, none⟩) (Frm.setCell (p := ⟨w.heap.size, 3, none⟩) (Frm.setCell (p := ⟨w.heap.size, 2, none⟩) (Frm.setCell (p := ⟨w.heap.size, 1, none⟩) (Frm.setCell (p := ⟨w.heap.size, 0, none⟩) ((Frm.refl 0 (fun q => q = w.heap.size) w1)) (Nat.zero_le _) rfl (.int .i64 0)) (Nat.zero_le _) rfl (.slice a1 (pgOf s.toList).sec.length c1)) (Nat.zero_le _) rfl (.slice a2 (pgOf s.toList).sec.length c2)) (Nat.zero_le _) rfl (.int .i64 (Pr.fd (pgOf s.toList) k).al)) (Nat.zero_le _) rfl (.int .i64 nv)) (Nat.zero_le _) rfl (.string f)) (Nat.zero_le _) rfl (.string g)) (Nat.zero_le _) rfl (.int .i64 nd)) (Nat.zero_le _) rfl (.int .i64 cf)
  refine bodyPost_ret (v := .tuple #[.int .i64 2, repTwo (.slice a1 (pgOf s.toList).sec.length c1) (.slice a2 (pgOf s.toList).sec.length c2) (Pr.fd (pgOf s.toList) k).al ⟨nv, f, g, nd, cf⟩]) (by simp [results, Tryd.results25, go_sem, x0, x1, x2, x3, x4, x5, x6, x7, x8]) rfl ⟨a1, c1, a2, c2, i, j, ⟨nv, f, g, nd, cf⟩, ?_, rfl, HFI.out, ?_, ?_⟩
  · exact ((((((((((((Below.refl _ _).alloc (Nat.le_refl _) _).trans (HB.out.mono (by simp))).setCell (Nat.le_refl _) _).setCell (Nat.le_refl _) _).setCell (Nat.le_refl _) _).setCell (Nat.le_refl _) _).setCell (Nat.le_refl _) _).setCell (Nat.le_refl _) _).setCell (Nat.le_refl _) _).setCell (Nat.le_refl _) _).setCell (Nat.le_refl _) _)
  · exact ownsRow_low (ownsRow_blk HO1.out (fun g e => FR.keep g (HO1.out.lt g e).2 (fun e2 => by have := (HO1.out.lt g e).1; simp at this; omega))) (by simp)
  · exact ownsRow_low (ownsRow_blk HO2.out (fun g e => FR.keep g (HO2.out.lt g e).2 (fun e2 => by have := (HO2.out.lt g e).1; simp at this; omega))) (by simp)
theorem kc_prog (ck : AllChk) (s : ByteArray) (k : Nat) (w : World) (hw : Tab w) (hk : k ≤ 10) (hl : (Lk.read s.toList).2 = 0) :
    Calls Tryd.prog 25 #[.string s, .int .i64 k] w fun e w' => ∃ (v : Int) (a1 : Option Addr) (n1 c1 : Nat) (a2 : Option Addr) (n2 c2 : Nat) (t : Int) (x : Ext), e = .returned (.tuple #[.int .i64 v, repTwo (.slice a1 n1 c1) (.slice a2 n2 c2) t x]) ∧ (v = 1 ∨ v = 2) ∧ Below w.heap.size w w' := by
  by_cases hin : (Pr.fd (pgOf s.toList) k).al < k
  · refine (kc_ins ck s k w hw hk hl hin).mono ?_
    rintro e w' ⟨a1, c1, a2, c2, i, j, x, K⟩
    exact ⟨2, a1, _, c1, a2, _, c2, _, x, K.res, .inr rfl, K.bel⟩
  · refine (kc_sec ck s k w hw hk hl hin).mono ?_
    rintro e w' ⟨x, rfl, hb⟩
    exact ⟨1, none, 0, 0, none, 0, 0, 0, x, rfl, .inl rfl, hb⟩
abbrev I64 (c : Int) : Prop := -9223372036854775808 ≤ c ∧ c ≤ 9223372036854775807
def pk (c : Int) (n : Nat) : Nat := ((if c < 0 then -(c + 1) else c) % n).toNat
theorem pk_lt (c : Int) (n : Nat) (h : 0 < n) : pk c n < n := by
  unfold pk
  have b2 := Int.emod_lt_of_pos (if c < 0 then -(c + 1) else c) (show (0 : Int) < (n : Int) by omega)
  have b1 := Int.emod_nonneg (if c < 0 then -(c + 1) else c) (show (n : Int) ≠ 0 by omega)
  omega
set_option maxHeartbeats 400000 in
theorem pick29 (c : Int) (hc : I64 c) (w : World) :
    Calls Tryd.prog 24 #[.int .i64 c, .int .i64 29] w fun e w' => e = .returned (.int .i64 (pk c 29)) ∧ w' = w := by
  have q := pk_lt c 29 (by omega)
  unfold pk at q ⊢
  by_cases h : c < 0
  · rw [if_pos h] at q ⊢
    go_enter Tryd.func24, Tryd.ntmps24
    go_wp2
    go_ret
    have e : -(c + 1).tmod 29 = (-(c + 1)) % 29 := by rw [← Int.neg_tmod, Int.tmod_eq_emod_of_nonneg (by omega)]
    have b1 := Int.emod_nonneg (-(c + 1)) (show (29 : Int) ≠ 0 by omega)
    exact ⟨ret_int (e.trans (by omega)), rfl⟩
  · rw [if_neg h] at q ⊢
    have h0 : 0 ≤ c := by omega
    go_enter Tryd.func24, Tryd.ntmps24
    go_wp2
    go_ret
    exact ⟨ret_int (by omega), rfl⟩
set_option maxHeartbeats 400000 in
theorem pick11 (c : Int) (hc : I64 c) (w : World) :
    Calls Tryd.prog 24 #[.int .i64 c, .int .i64 11] w fun e w' => e = .returned (.int .i64 (pk c 11)) ∧ w' = w := by
  have q := pk_lt c 11 (by omega)
  unfold pk at q ⊢
  by_cases h : c < 0
  · rw [if_pos h] at q ⊢
    go_enter Tryd.func24, Tryd.ntmps24
    go_wp2
    go_ret
    have e : -(c + 1).tmod 11 = (-(c + 1)) % 11 := by rw [← Int.neg_tmod, Int.tmod_eq_emod_of_nonneg (by omega)]
    have b1 := Int.emod_nonneg (-(c + 1)) (show (11 : Int) ≠ 0 by omega)
    exact ⟨ret_int (e.trans (by omega)), rfl⟩
  · rw [if_neg h] at q ⊢
    have h0 : 0 ≤ c := by omega
    go_enter Tryd.func24, Tryd.ntmps24
    go_wp2
    go_ret
    exact ⟨ret_int (by omega), rfl⟩
set_option maxHeartbeats 400000 in
theorem pick10 (c : Int) (hc : I64 c) (w : World) :
    Calls Tryd.prog 24 #[.int .i64 c, .int .i64 10] w fun e w' => e = .returned (.int .i64 (pk c 10)) ∧ w' = w := by
  have q := pk_lt c 10 (by omega)
  unfold pk at q ⊢
  by_cases h : c < 0
  · rw [if_pos h] at q ⊢
    go_enter Tryd.func24, Tryd.ntmps24
    go_wp2
    go_ret
    have e : -(c + 1).tmod 10 = (-(c + 1)) % 10 := by rw [← Int.neg_tmod, Int.tmod_eq_emod_of_nonneg (by omega)]
    have b1 := Int.emod_nonneg (-(c + 1)) (show (10 : Int) ≠ 0 by omega)
    exact ⟨ret_int (e.trans (by omega)), rfl⟩
  · rw [if_neg h] at q ⊢
    have h0 : 0 ≤ c := by omega
    go_enter Tryd.func24, Tryd.ntmps24
    go_wp2
    go_ret
    exact ⟨ret_int (by omega), rfl⟩
set_option maxHeartbeats 400000 in
theorem pick4096 (c : Int) (hc : I64 c) (w : World) :
    Calls Tryd.prog 24 #[.int .i64 c, .int .i64 4096] w fun e w' => e = .returned (.int .i64 (pk c 4096)) ∧ w' = w := by
  have q := pk_lt c 4096 (by omega)
  unfold pk at q ⊢
  by_cases h : c < 0
  · rw [if_pos h] at q ⊢
    go_enter Tryd.func24, Tryd.ntmps24
    go_wp2
    go_ret
    have e : -(c + 1).tmod 4096 = (-(c + 1)) % 4096 := by rw [← Int.neg_tmod, Int.tmod_eq_emod_of_nonneg (by omega)]
    have b1 := Int.emod_nonneg (-(c + 1)) (show (4096 : Int) ≠ 0 by omega)
    exact ⟨ret_int (e.trans (by omega)), rfl⟩
  · rw [if_neg h] at q ⊢
    have h0 : 0 ≤ c := by omega
    go_enter Tryd.func24, Tryd.ntmps24
    go_wp2
    go_ret
    exact ⟨ret_int (by omega), rfl⟩
theorem steps_any (a : Int) (ha : I64 a) (w : World) :
    Calls Tryd.prog 12 #[.int .i64 a] w fun e w' => e = .returned (.int .i64 (pk a 11)) ∧ w' = w := by
  have HA := hid ha
  clear ha
  go_enter Tryd.func12, Tryd.ntmps12
  go_wp2_with (first | (go_at_call 24; refine (pick11 a HA.out _).mono ?_; rintro e w0 ⟨rfl, hw0⟩; have hw1 := hw0.symm; subst hw1))
  go_ret
  exact ⟨rfl, rfl⟩
theorem all_chk : AllChk := fun s k hk hl => chk_ok s k hk hl
theorem all_lim : AllLim := fun s k n c w hw hk hn hc hl => by
  unfold wi at hn hc
  have hn := of_decide_eq_true hn
  have hc := of_decide_eq_true hc
  obtain ⟨n', rfl⟩ : ∃ n' : Nat, n = n' := ⟨n.toNat, by omega⟩
  obtain ⟨c', rfl⟩ : ∃ c' : Nat, c = c' := ⟨c.toNat, by omega⟩
  refine (check_all s k n' c' w hw hk (by omega) (by omega) hl).mono ?_
  rintro e w' C
  refine ⟨C.bel, ?_⟩
  by_cases hf : Dg.Fits (pgOf s.toList) k n'
  · by_cases hin : (Pr.fd (pgOf s.toList) k).al < k
    · obtain ⟨a1, c1, a2, c2, i, j, he, -⟩ := C.ins hf hin
      exact ⟨2, a1, _, c1, a2, _, c2, _, ⟨_, _, _, _, _⟩, he, by decide⟩
    · by_cases hl : c' = 0 ∨ (Ck.pf (pgOf s.toList) k).1 ≤ c'
      · exact ⟨1, none, 0, 0, none, 0, 0, 0, ⟨_, _, _, _, _⟩, C.sec hf hin hl, by decide⟩
      · exact ⟨3, none, 0, 0, none, 0, 0, 0, ⟨0, ⟨#[]⟩, ⟨#[]⟩, 0, 0⟩, C.unk (.inr ⟨hin, by omega, by omega⟩), by decide⟩
  · exact ⟨3, none, 0, 0, none, 0, 0, 0, ⟨0, ⟨#[]⟩, ⟨#[]⟩, 0, 0⟩, C.unk (.inl hf), by decide⟩
abbrev laid3 {H : Type} : List (String × DataW H) := [("math/bits.deBruijn32tab", Rows.laid_math_bits_deBruijn32tab), ("math/bits.deBruijn64tab", Rows.laid_math_bits_deBruijn64tab), ("internal/strconv.uint64pow10", Rows.laid_internal_strconv_uint64pow10)]
set_option maxRecDepth 100000 in
theorem tab_of_laid {W : World} (h : laidMetH Tryd.prog laid3 W) : Tab W := by
  rw [MakeChecks.laidMetH_plain _ _ _ (by kernel_rfl)] at h
  have h2 : laidMet Tryd.prog (("internal/strconv.uint64pow10", Lib.tabData .u64 Lib.pow10Tab) :: []) W := h.tail.tail
  exact Lib.tabIs_of_head (g := 0) (t := 174) (e := 167) (n := 20) (by kernel_rfl) (by kernel_rfl) (by kernel_rfl) (by kernel_rfl) (by kernel_rfl) (by kernel_rfl) h2
end Go.Proofs.YtgddmpmcnjlcjabDoor
