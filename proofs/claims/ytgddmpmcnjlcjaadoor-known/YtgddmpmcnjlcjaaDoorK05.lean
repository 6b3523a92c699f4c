import Derived.Test.YtgddmpmcnjlcjaaDoorK04
import Derived.Deep.QuietTactic
import Derived.BigQuiet
/- Known. -/
namespace Go.Proofs.YtgddmpmcnjlcjaaDoor
open Go.RowKit
set_option linter.unusedVariables false

set_option maxRecDepth 100000 in
set_option maxHeartbeats 2000000 in
theorem known_any (ck : AllChk) (c : Int) (hc : I64 c) (w : World) (hw : Tab w) :
    Calls Tryd.prog 20 #[.int .i64 c] w fun e w' => e = .returned (.bool true) ∧ Below w.heap.size w w' := by
  have h29 := pk_lt c 29 (by omega)
  have HCK := hid ck
  have HTB := hid (fun (W : World) (h : Below w.heap.size w W) => tab_on hw h)
  clear ck hw
  have HP : Hid (∀ W : World, Calls Tryd.prog 32 #[.int .i64 c, .int .i64 29] W fun e w' => e = .returned (.int .i64 (pk c 29)) ∧ w' = W) := fun W => pick29 c hc W
  generalize pk c 29 = i at h29 HP
  have HO : Hid ((Lk.read (⟨(ktx i).toArray⟩ : ByteArray).toList).2 = 0) := by
    show _ = _
    rw [ByteArray.toList_mk]; exact ktx_ok i h29
  have HK : Hid (∀ k, k ≤ 10 → KnSays (pgOf (⟨(ktx i).toArray⟩ : ByteArray).toList) (kat i) k) := by
    show ∀ _, _
    rw [ByteArray.toList_mk]; exact kn_all i h29
  obtain ⟨kb1, kb2⟩ := kat_b i h29
  have hiI : (i : Int) < 29 := by omega
  have hi0 : (0 : Int) ≤ (i : Int) := by omega
  clear hc
  go_enter Tryd.func20, Tryd.ntmps20
  go_wp2_with (first
    | (go_at_call 35; refine (knowns_any _).mono ?_; rintro e w1 ⟨rfl, hk, hb1⟩; have HB1 := hid hb1; have z1 := hb1.size; have x0 := (hk _ h29).1; have x1 := (hk _ h29).2; have xl := World.block_lt_of_cell? w1 _ x0; clear hk hb1)
    | (go_at_call 32; refine (HP.out _).mono ?_; rintro e w0 ⟨rfl, hw0⟩; have hw1 := hw0.symm; subst hw1))
  generalize hS : (⟨(ktx i).toArray⟩ : ByteArray) = s at HO HK x0 ⊢
  generalize hT : kat i = t at HK kb1 kb2 x1 ⊢
  clear hS hT x0 x1
  have q0 := newAt w1 #[.string s, .int .i64 t] 79 0 _ rfl
  have q1 := newAt w1 #[.string s, .int .i64 t] 79 1 _ rfl
  have Q0 := hid q0
  have Q1 := hid q1
  clear q0 q1
  go_loopw [5] (fun kv wr => ∃ k : Nat, k ≤ 11 ∧ kv = .int .i64 k ∧ wr.cell? ⟨w1.heap.size, 0, none⟩ = some (.string s) ∧ wr.cell? ⟨w1.heap.size, 1, none⟩ = some (.int .i64 t) ∧ Below w.heap.size w wr) (fun kv _ => 11 - (intOf kv).toNat)
  case atStart => exact ⟨0, by omega, rfl, Q0.out, Q1.out, HB1.out.alloc z1 _⟩
  case round =>
    obtain ⟨k, hk, rfl, hx0, hx1, hbel⟩ := hrel
    have HB := hid hbel
    have hz := hbel.size
    have hxl := World.block_lt_of_cell? wr _ hx0
    clear hbel Q0 Q1
    by_cases hk10 : k ≤ 10
    · have hkn := HK.out k hk10
      unfold KnSays at hkn
      have hkI : (k : Int) ≤ 10 := by omega
      by_cases hq : 0 ≤ t ∧ t < k
      · rw [if_pos hq] at hkn
        obtain ⟨hq1, hq2⟩ := hq
        have HC : Hid (∀ W : World, Tab W → Calls Tryd.prog 33 #[.string s, .int .i64 k] W fun e w' => ∃ a1 n1 c1 a2 n2 c2 x, e = .returned (.tuple #[.int .i64 2, repTwo (.slice a1 n1 c1) (.slice a2 n2 c2) t x]) ∧ Below W.heap.size W w') := fun W hW => (kc_ins HCK.out s k W hW hk10 HO.out hkn.1).mono (by rintro e w' ⟨a1, c1, a2, c2, i, j, x, K⟩; exact ⟨_, _, _, _, _, _, x, by rw [← hkn.2]; exact K.res, K.bel⟩)
        clear hkn
        go_wp2_with (first | (go_at_call 33; refine (HC.out _ (HTB.out _ HB.out)).mono ?_; rintro e w2 ⟨b1, m1, d1, b2, m2, d2, x2, rfl, hb2⟩; have HB2 := hid hb2; have z2 := hb2.size; have y0 := fun o => cell_alloc (cell_later hb2 hx0) o; have y1 := fun o => cell_alloc (cell_later hb2 hx1) o; have z0 := cell_later hb2 hx0; have z1' := cell_later hb2 hx1; clear hb2))
        go_roundw
        case rel => exact ⟨k + 1, by omega, by go_num, y0 _, y1 _, (HB.out.trans (HB2.out.mono hz)).alloc (by omega) _⟩
        case measure => simp [intOf]; omega
      · rw [if_neg hq] at hkn
        have HC : Hid (∀ W : World, Tab W → Calls Tryd.prog 33 #[.string s, .int .i64 k] W fun e w' => ∃ x, e = .returned (.tuple #[.int .i64 1, repSec x]) ∧ Below W.heap.size W w') := fun W hW => kc_sec HCK.out s k W hW hk10 HO.out hkn
        clear hkn
        by_cases ht0 : 0 ≤ t
        · have ht1 : ¬ t < (k : Int) := by omega
          go_wp2_with (first | (go_at_call 33; refine (HC.out _ (HTB.out _ HB.out)).mono ?_; rintro e w2 ⟨x2, rfl, hb2⟩; have HB2 := hid hb2; have z2 := hb2.size; have y0 := fun o => cell_alloc (cell_later hb2 hx0) o; have y1 := fun o => cell_alloc (cell_later hb2 hx1) o; have z0 := cell_later hb2 hx0; have z1' := cell_later hb2 hx1; clear hb2))
          go_roundw
          case rel => exact ⟨k + 1, by omega, by go_num, y0 _, y1 _, (HB.out.trans (HB2.out.mono hz)).alloc (by omega) _⟩
          case measure => simp [intOf]; omega
        · go_wp2_with (first | (go_at_call 33; refine (HC.out _ (HTB.out _ HB.out)).mono ?_; rintro e w2 ⟨x2, rfl, hb2⟩; have HB2 := hid hb2; have z2 := hb2.size; have y0 := fun o => cell_alloc (cell_later hb2 hx0) o; have y1 := fun o => cell_alloc (cell_later hb2 hx1) o; have z0 := cell_later hb2 hx0; have z1' := cell_later hb2 hx1; clear hb2))
          go_roundw
          case rel => exact ⟨k + 1, by omega, by go_num, y0 _, y1 _, (HB.out.trans (HB2.out.mono hz)).alloc (by omega) _⟩
          case measure => simp [intOf]; omega
    · have hkI : ¬ (k : Int) ≤ 10 := by omega
      go_wp2_with fail
      go_ret
      exact ⟨rfl, HB.out⟩

set_option maxHeartbeats 400000 in
theorem Known_any (ck : AllChk) (c : Int) (hc : I64 c) (w : World) (hw : Tab w) :
    Calls Tryd.prog 8 #[.int .i64 c] w fun e w' => e = .returned (.bool true) ∧ Below w.heap.size w w' := by
  have Hc := hid hc
  clear hc
  go_enter Tryd.func8, Tryd.ntmps8
  go_wp2_with (first | (go_at_call 20; refine (known_any ck c Hc.out _ hw).mono ?_; rintro e w1 ⟨rfl, hb⟩))
  go_ret
  exact ⟨rfl, hb⟩

end Go.Proofs.YtgddmpmcnjlcjaaDoor
