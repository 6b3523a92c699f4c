import Derived.Test.YtfnmglfbcpdlnaaA2
import Derived.Test.YtfnmglfbcpdlnaaH0
import Derived.Test.YtfnmglfbcpdlnaaS27
import Derived.Laws.IdiomStrings
namespace Go.Proofs.Ytfnmglfbcpdlnaa
open Go.RowKit
set_option linter.unusedVariables false

theorem toList_append (a b : ByteArray) : (a ++ b).toList = a.toList ++ b.toList := by
  rw [ByteArray.toList_eq, ByteArray.toList_eq, ByteArray.toList_eq]; simp

theorem seg_snoc (L : List UInt8) (a k : Nat) (c : UInt8) (ha : a ≤ k) (hk : L[k]? = some c) : (L.drop a).take (k - a) ++ [c] = (L.drop a).take (k + 1 - a) := by
  obtain ⟨hlt, hv⟩ := List.getElem?_eq_some_iff.1 hk
  rw [show k + 1 - a = (k - a) + 1 by omega, List.take_succ_eq_append_getElem (by simp; omega)]
  simp [← hv, show a + (k - a) = k by omega]

theorem take_one (s : ByteArray) (k : Nat) (h : k < s.size) : (s.toList.drop k).take 1 = [s[k]] := by
  have h1 : k < s.toList.length := by rw [tl_len]; exact h
  have h2 := tl_get s k h
  rw [List.getElem?_eq_getElem h1] at h2
  rw [List.drop_eq_getElem_cons h1, List.take_succ_cons, List.take_zero, Option.some.inj h2]

set_option maxRecDepth 100000 in
set_option maxHeartbeats 1000000 in
theorem cut_any (s : ByteArray) (c : UInt8) (w : World) (hs : s.size ≤ 1000000) :
    Calls Try.prog 37 #[.string s, .int .u8 c.toNat] w fun e w' => ∃ (g cap : Nat) (ws : List ByteArray), e = .returned (.slice (some ⟨g, 0, none⟩) ws.length cap) ∧ ws.map ByteArray.toList = Lk.cut c s.toList ∧
      w'.ownsRow w.heap.size 9 1 (.slice (some ⟨g, 0, none⟩) ws.length cap) ws.length (ws.map Value.string) ∧ Below w.heap.size w w' := by
  obtain ⟨i0, hi, hz0, hz1, hz2⟩ := info_parts Try.infoStr
  go_enter Try.func37, Try.ntmps37
  go_wp2
  go_loopw [5, 6, 7] (fun t v i wr => ∃ (k a : Nat) (tb : ByteArray) (ws : List ByteArray), k ≤ s.size ∧ a ≤ k ∧ i = .int .i64 k ∧ t = .string tb ∧ tb.toList = (s.toList.drop a).take (k - a) ∧ wr.ownsRow w.heap.size 9 1 v ws.length (ws.map Value.string) ∧ Below w.heap.size w wr ∧
      ws.length ≤ k ∧ ws.map ByteArray.toList ++ Lk.cut c (s.toList.drop a) = Lk.cut c s.toList ∧ (∀ j, a ≤ j → j < k → s.toList[j]? ≠ some c))
    (fun _ _ i _ => s.size - (intOf i).toNat)
  case atStart => exact ⟨0, 0, _, [], Nat.zero_le _, Nat.le_refl _, rfl, rfl, by simp, World.ownsRow_nil _ _ _ _, Below.refl _ _, Nat.le_refl _, rfl, fun j _ h => by omega⟩
  case round =>
    obtain ⟨k, a, tb, ws, hk, ha, rfl, rfl, htb, hown, hnx, hwl, hcut, hno⟩ := hrel
    have Hcut := hid hcut
    have Hno := hid hno
    have Htb := hid htb
    clear hcut hno htb
    by_cases hlt : k < s.size
    · by_cases hsp : s[k] = c
      · have hspI : (((s[k].toNat : Int)) == (c.toNat : Int)) = true := by rw [hsp]; simp
        have Hsp := hid hsp
        clear hsp
        go_wp2_with (first | (at_builtin; refine wpList_append_lies _ rfl _ _ 59 rfl w.heap.size 9 i0 _ 1 16 Try.underlying59 hi hz0 hz1 hz2 rfl (by omega) _ ws.length (ws.map Value.string) rfl (hown.alloc _) ⟨wr.heap.size, 0, none⟩ 1 1 [.string tb] rfl rfl (cell_one_new _ _ _) (by simp [Value.oneCell']) (by omega) (by unfold maxLen; omega) (by omega) (by have := hnx.size; simp; omega) (wr.heap.size + 1) (by simp) ?_; intro g cap w1 hown1 hgrow hat hlt1))
        go_roundw
        case rel =>
          refine ⟨k + 1, k + 1, _, ws ++ [tb], by omega, Nat.le_refl _, by go_num, rfl, by simp, by simpa using hown1, ?_, by simp; omega, ?_, fun j h1 h2 => by omega⟩
          · exact Below.grown (hnx.alloc hnx.size _) hgrow (by have := hnx.size; simp; omega) (fun q hq => (hown.lt q hq).1)
          · rw [← Hcut.out, Lk.cut_step c s.toList a k ha (by rw [tl_get s k hlt, Hsp.out]) Hno.out, List.map_append, List.append_assoc]
            simp [Htb.out]
        case measure => simp [intOf]; omega
      · have hspI : (((s[k].toNat : Int)) == (c.toNat : Int)) = false := by
          simp; intro h; exact hsp (UInt8.toNat_inj.1 (by omega))
        have Hsp := hid hsp
        clear hsp
        have htz : tb.size ≤ k := by rw [← tl_len, show tb.toList = _ from Htb.out]; simp; omega
        have hcc : ¬ 9223372036854775807 < tb.size + (min (k + 1) s.size - k) := by omega
        go_wp2
        go_roundw
        case rel =>
          refine ⟨k + 1, a, _, ws, by omega, by omega, by go_num, rfl, ?_, hown, hnx, by omega, Hcut.out, ?_⟩
          · rw [toList_append, extract_toList, show tb.toList = _ from Htb.out, ← seg_snoc s.toList a k s[k] ha (tl_get s k hlt)]
            rw [show k + 1 - k = 1 by omega, take_one s k hlt]
          · intro j h1 h2
            by_cases hj : j = k
            · subst hj; rw [tl_get s j hlt]; intro h; exact Hsp.out (by simpa using h)
            · exact Hno.out j h1 (by omega)
        case measure => simp [intOf]; omega
    · have hks : k = s.size := by omega
      have Hks := hid hks
      clear hks
      go_wp2_with (first | (at_builtin; refine wpList_append_lies _ rfl _ _ 59 rfl w.heap.size 9 i0 _ 1 16 Try.underlying59 hi hz0 hz1 hz2 rfl (by omega) _ ws.length (ws.map Value.string) rfl (hown.alloc _) ⟨wr.heap.size, 0, none⟩ 1 1 [.string tb] rfl rfl (cell_one_new _ _ _) (by simp [Value.oneCell']) (by omega) (by unfold maxLen; omega) (by omega) (by have := hnx.size; simp; omega) (wr.heap.size + 1) (by simp) ?_; intro g cap w1 hown1 hgrow hat hlt1))
      go_ret
      refine ⟨g, cap, ws ++ [tb], by simp, ?_, by simpa using hown1, ?_⟩
      · rw [← Hcut.out, Lk.cut_last c s.toList a (by rw [tl_len, ← show k = _ from Hks.out]; exact Hno.out)]
        simp only [List.map_append, List.map_cons, List.map_nil]
        rw [Htb.out, List.take_of_length_le (by simp [tl_len, ← show k = _ from Hks.out])]
      · exact Below.grown (hnx.alloc hnx.size _) hgrow (by have := hnx.size; simp; omega) (fun q hq => (hown.lt q hq).1)

end Go.Proofs.Ytfnmglfbcpdlnaa

namespace Go.Proofs.Ytfnmglfbcpdlnaa
open Go.RowKit
set_option linter.unusedVariables false

/-- A number below 16 as a word. -/
def dec (n : Nat) : List UInt8 := if n < 10 then [(48 + n).toUInt8] else [49, (38 + n).toUInt8]

theorem conv1 (w : World) (b : UInt8) (x : Int) (hx : x = b.toNat) : (convert 107 9 (.slice (some ⟨w.heap.size, 0, none⟩) 1 1)).run Try.prog (w.alloc (.cells #[.int .u8 x] 5)) = .ok (.string ⟨#[b]⟩) (w.alloc (.cells #[.int .u8 x] 5)) := by
  have := run_convert_bytes_back (P := Try.prog) (w.alloc (.cells #[.int .u8 x] 5)) 107 9 5 ⟨w.heap.size, 0, none⟩ 1 [b] Try.underlying107 Try.underlying5 Try.underlying9 (by
    intro j hj
    simp at hj
    subst hj
    have := cell_of_row (w.alloc (.cells #[.int .u8 x] 5)) w.heap.size 0 #[.int .u8 x] 5 (0, 0) (heap_alloc_new w _)
    rw [show (⟨w.heap.size, 0, none⟩ : Addr).add 0 = ⟨w.heap.size, 0, none⟩ from rfl, this, hx]; rfl)
  exact this

theorem u8_small (n : Nat) (h : n < 256) : (n.toUInt8.toNat : Int) = n := by simp; omega

set_option maxRecDepth 100000 in
set_option maxHeartbeats 400000 in
theorem decimal_small (n : Nat) (h : n < 10) (b : UInt8) (hb : (48 : Int) + n = b.toNat) (w : World) :
    Calls Try.prog 99 #[.int .i64 n] w fun e w' => e = .returned (.string ⟨#[b]⟩) ∧ Below w.heap.size w w' := by
  have h1 : (n : Int) < 10 := by omega
  have h0 : (0 : Int) ≤ n := by omega
  have hm : (n : Int) % 10 = n := by omega
  have hcv := conv1 w b (48 + n) hb
  clear hb
  go_enter Try.func99, Try.ntmps99
  go_wp2_with fail
  go_ret
  exact ⟨rfl, (Below.refl _ _).alloc (Nat.le_refl _) _⟩

set_option maxRecDepth 100000 in
set_option maxHeartbeats 400000 in
theorem decimal_big (n : Nat) (h : 10 ≤ n) (h2 : n < 16) (b : UInt8) (hb : (38 : Int) + n = b.toNat) (w : World) :
    Calls Try.prog 99 #[.int .i64 n] w fun e w' => e = .returned (.string (⟨#[49]⟩ ++ ⟨#[b]⟩)) ∧ Below w.heap.size w w' := by
  have h1 : (10 : Int) ≤ n := by omega
  have h0 : (n : Int) < 16 := by omega
  have hm : (n : Int) % 10 = (n : Int) - 10 := by omega
  have hq : (n : Int) / 10 = 1 := by omega
  have hcv := conv1 w b (48 + ((n : Int) - 10)) (by omega)
  clear hb
  go_enter Try.func99, Try.ntmps99
  go_wp2_with (first | (go_at_call 99; refine (decimal_small 1 (by omega) 49 (by decide) _).mono ?_; rintro e w1 ⟨rfl, hb1⟩))
  go_ret
  exact ⟨rfl, ((Below.refl _ _).alloc (Nat.le_refl _) _).trans (hb1.mono (by simp))⟩

theorem decimal_any (n : Nat) (h : n < 16) (w : World) :
    Calls Try.prog 99 #[.int .i64 n] w fun e w' => ∃ d : ByteArray, e = .returned (.string d) ∧ d.toList = dec n ∧ Below w.heap.size w w' := by
  by_cases h1 : n < 10
  · refine (decimal_small n h1 (48 + n).toUInt8 (by rw [u8_small _ (by omega)]; omega) w).mono ?_
    rintro e w' ⟨rfl, hb⟩
    exact ⟨_, rfl, by rw [ByteArray.toList_eq]; simp [dec, h1], hb⟩
  · refine (decimal_big n (by omega) h (38 + n).toUInt8 (by rw [u8_small _ (by omega)]; omega) w).mono ?_
    rintro e w' ⟨rfl, hb⟩
    exact ⟨_, rfl, by rw [ByteArray.toList_eq]; simp [dec, h1], hb⟩

theorem dec_num : ∀ n, n < 16 → Lk.num? (dec n) = some n
  | 0, _ => by decide
  | 1, _ => by decide
  | 2, _ => by decide
  | 3, _ => by decide
  | 4, _ => by decide
  | 5, _ => by decide
  | 6, _ => by decide
  | 7, _ => by decide
  | 8, _ => by decide
  | 9, _ => by decide
  | 10, _ => by decide
  | 11, _ => by decide
  | 12, _ => by decide
  | 13, _ => by decide
  | 14, _ => by decide
  | 15, _ => by decide
  | n + 16, h => absurd h (by omega)

theorem num_dec {w : Lk.Wd} {n : Nat} (h : Lk.num? w = some n) : w = dec n ∧ n < 16 := by
  match w with
  | [c] =>
    have h : (if 48 ≤ c.toNat ∧ c.toNat ≤ 57 then some (c.toNat - 48) else none) = some n := h
    split at h
    · rename_i hc
      cases h
      refine ⟨?_, by omega⟩
      unfold dec
      rw [if_pos (by omega), show 48 + (c.toNat - 48) = c.toNat by omega]
      simp
    · cases h
  | [a, b] =>
    have h : (if a.toNat = 49 ∧ 48 ≤ b.toNat ∧ b.toNat ≤ 53 then some (10 + (b.toNat - 48)) else none) = some n := h
    split at h
    · rename_i hc
      cases h
      refine ⟨?_, by omega⟩
      unfold dec
      rw [if_neg (by omega), show 38 + (10 + (b.toNat - 48)) = b.toNat by omega]
      have : a = 49 := UInt8.toNat_inj.1 (by rw [hc.1]; rfl)
      simp [this]
    · cases h
  | [] => simp [Lk.num?] at h
  | _ :: _ :: _ :: _ => simp [Lk.num?] at h

set_option maxRecDepth 100000 in
set_option maxHeartbeats 400000 in
theorem numeral_any (s : ByteArray) (w : World) :
    Calls Try.prog 85 #[.string s] w fun e w' => e = .returned (.int .i64 (Lk.intO (Lk.num? s.toList))) ∧ Below w.heap.size w w' := by
  go_enter Try.func85, Try.ntmps85
  go_wp2
  go_loopw [3] (fun i wr => ∃ k : Nat, k ≤ 16 ∧ i = .int .i64 k ∧ Below w.heap.size w wr ∧ (∀ j, j < k → Lk.num? s.toList ≠ some j)) (fun i _ => 16 - (intOf i).toNat)
  case atStart => exact ⟨0, by omega, rfl, Below.refl _ _, fun j h => by omega⟩
  case round =>
    obtain ⟨k, hk, rfl, hb, hno⟩ := hrel
    have Hno := hid hno
    have HB := hid hb
    have hz := hb.size
    clear hno hb
    by_cases hlt : k < 16
    · have hltI : (k : Int) < 16 := by omega
      go_wp2_with (first | (go_at_call 99; refine (decimal_any k hlt _).mono ?_; rintro e w1 ⟨d, rfl, hd, hb1⟩; have HD := hid hd; have HB1 := hid hb1; clear hd hb1))
      · go_ret
        have he : (s.toList == d.toList) = true := by assumption
        have hsd : s.toList = dec k := by rw [← show d.toList = _ from HD.out]; simpa using he
        exact ⟨ret_int (by rw [hsd, dec_num k hlt]; rfl), HB.out.trans (HB1.out.mono hz)⟩
      · have he : (s.toList == d.toList) = false := by assumption
        go_roundw
        case rel =>
          refine ⟨k + 1, by omega, by go_num, HB.out.trans (HB1.out.mono hz), ?_⟩
          intro j hj
          by_cases hjk : j = k
          · subst hjk
            intro hn
            have := (num_dec hn).1
            rw [this, show d.toList = _ from HD.out] at he
            simp at he
          · exact Hno.out j (by omega)
        case measure => simp [intOf]; omega
    · have hltI : ¬ (k : Int) < 16 := by omega
      go_wp2
      go_ret
      refine ⟨ret_int ?_, HB.out⟩
      cases hn : Lk.num? s.toList with
      | none => rfl
      | some n => exact absurd hn (Hno.out n (by have := (num_dec hn).2; omega))

end Go.Proofs.Ytfnmglfbcpdlnaa
