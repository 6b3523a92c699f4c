import Derived.Test.YtkfejeomfdhmdaaA2
import Derived.Test.YtkfejeomfdhmdaaH0
import Derived.Test.YtkfejeomfdhmdaaS2
namespace Go.Proofs.Ytkfejeomfdhmdaa
open Go.RowKit
set_option linter.unusedVariables false

theorem toList_append (a b : ByteArray) : (a ++ b).toList = a.toList ++ b.toList := by
  rw [ByteArray.toList_eq, ByteArray.toList_eq, ByteArray.toList_eq]; simp

theorem seg_snoc (L : List UInt8) (a k : Nat) (c : UInt8) (ha : a ≤ k) (hk : L[k]? = some c) : (L.drop a).take (k - a) ++ [c] = (L.drop a).take (k + 1 - a) := by
  obtain ⟨hlt, hv⟩ := List.getElem?_eq_some_iff.1 hk
  rw [show k + 1 - a = (k - a) + 1 by omega, List.take_succ_eq_append_getElem (by simp; omega)]
  simp [← hv, show a + (k - a) = k by omega]

theorem take_one (s : ByteArray) (k : Nat) (h : k < s.size) : (s.toList.drop k).take 1 = [s[k]] := by
  have h1 : k < s.toList.length := by rw [tl_len]; exact h
  have h2 := tl_get s k h
  rw [List.getElem?_eq_getElem h1] at h2
  rw [List.drop_eq_getElem_cons h1, List.take_succ_cons, List.take_zero, Option.some.inj h2]

set_option maxRecDepth 100000 in
set_option maxHeartbeats 1000000 in
theorem cut_any (s : ByteArray) (c : UInt8) (w : World) (hs : s.size ≤ 1000000) :
    Calls Try.prog 17 #[.string s, .int .u8 c.toNat] w fun e w' => ∃ (g cap : Nat) (ws : List ByteArray), e = .returned (.slice (some ⟨g, 0, none⟩) ws.length cap) ∧ ws.map ByteArray.toList = Lk.cut c s.toList ∧
      w'.ownsRow w.heap.size 9 1 (.slice (some ⟨g, 0, none⟩) ws.length cap) ws.length (ws.map Value.string) ∧ Below w.heap.size w w' := by
  obtain ⟨i0, hi, hz0, hz1, hz2⟩ := info_parts Try.infoStr
  go_enter Try.func17, Try.ntmps17
  go_wp2
  go_loopw [5, 6, 7] (fun t v i wr => ∃ (k a : Nat) (tb : ByteArray) (ws : List ByteArray), k ≤ s.size ∧ a ≤ k ∧ i = .int .i64 k ∧ t = .string tb ∧ tb.toList = (s.toList.drop a).take (k - a) ∧ wr.ownsRow w.heap.size 9 1 v ws.length (ws.map Value.string) ∧ Below w.heap.size w wr ∧
      ws.length ≤ k ∧ ws.map ByteArray.toList ++ Lk.cut c (s.toList.drop a) = Lk.cut c s.toList ∧ (∀ j, a ≤ j → j < k → s.toList[j]? ≠ some c))
    (fun _ _ i _ => s.size - (intOf i).toNat)
  case atStart => exact ⟨0, 0, _, [], Nat.zero_le _, Nat.le_refl _, rfl, rfl, by simp, World.ownsRow_nil _ _ _ _, Below.refl _ _, Nat.le_refl _, rfl, fun j _ h => by omega⟩
  case round =>
    obtain ⟨k, a, tb, ws, hk, ha, rfl, rfl, htb, hown, hnx, hwl, hcut, hno⟩ := hrel
    have Hcut := hid hcut
    have Hno := hid hno
    have Htb := hid htb
    clear hcut hno htb
    by_cases hlt : k < s.size
    · by_cases hsp : s[k] = c
      · have hspI : (((s[k].toNat : Int)) == (c.toNat : Int)) = true := by rw [hsp]; simp
        have Hsp := hid hsp
        clear hsp
        go_wp2_with (first | (at_builtin; refine wpList_append_lies _ rfl _ _ 50 rfl w.heap.size 9 i0 _ 1 16 Try.underlying50 hi hz0 hz1 hz2 rfl (by omega) _ ws.length (ws.map Value.string) rfl (hown.alloc _) ⟨wr.heap.size, 0, none⟩ 1 1 [.string tb] rfl rfl (cell_one_new _ _ _) (by simp [Value.oneCell']) (by omega) (by unfold maxLen; omega) (by omega) (by have := hnx.size; simp; omega) (wr.heap.size + 1) (by simp) ?_; intro g cap w1 hown1 hgrow hat hlt1))
        go_roundw
        case rel =>
          refine ⟨k + 1, k + 1, _, ws ++ [tb], by omega, Nat.le_refl _, by go_num, rfl, by simp, by simpa using hown1, ?_, by simp; omega, ?_, fun j h1 h2 => by omega⟩
          · exact Below.grown (hnx.alloc hnx.size _) hgrow (by have := hnx.size; simp; omega) (fun q hq => (hown.lt q hq).1)
          · rw [← Hcut.out, Lk.cut_step c s.toList a k ha (by rw [tl_get s k hlt, Hsp.out]) Hno.out, List.map_append, List.append_assoc]
            simp [Htb.out]
        case measure => simp [intOf]; omega
      · have hspI : (((s[k].toNat : Int)) == (c.toNat : Int)) = false := by
          simp; intro h; exact hsp (UInt8.toNat_inj.1 (by omega))
        have Hsp := hid hsp
        clear hsp
        have htz : tb.size ≤ k := by rw [← tl_len, show tb.toList = _ from Htb.out]; simp; omega
        have hcc : ¬ 9223372036854775807 < tb.size + (min (k + 1) s.size - k) := by omega
        go_wp2
        go_roundw
        case rel =>
          refine ⟨k + 1, a, _, ws, by omega, by omega, by go_num, rfl, ?_, hown, hnx, by omega, Hcut.out, ?_⟩
          · rw [toList_append, extract_toList, show tb.toList = _ from Htb.out, ← seg_snoc s.toList a k s[k] ha (tl_get s k hlt)]
            rw [show k + 1 - k = 1 by omega, take_one s k hlt]
          · intro j h1 h2
            by_cases hj : j = k
            · subst hj; rw [tl_get s j hlt]; intro h; exact Hsp.out (by simpa using h)
            · exact Hno.out j h1 (by omega)
        case measure => simp [intOf]; omega
    · have hks : k = s.size := by omega
      have Hks := hid hks
      clear hks
      go_wp2_with (first | (at_builtin; refine wpList_append_lies _ rfl _ _ 50 rfl w.heap.size 9 i0 _ 1 16 Try.underlying50 hi hz0 hz1 hz2 rfl (by omega) _ ws.length (ws.map Value.string) rfl (hown.alloc _) ⟨wr.heap.size, 0, none⟩ 1 1 [.string tb] rfl rfl (cell_one_new _ _ _) (by simp [Value.oneCell']) (by omega) (by unfold maxLen; omega) (by omega) (by have := hnx.size; simp; omega) (wr.heap.size + 1) (by simp) ?_; intro g cap w1 hown1 hgrow hat hlt1))
      go_ret
      refine ⟨g, cap, ws ++ [tb], by simp, ?_, by simpa using hown1, ?_⟩
      · rw [← Hcut.out, Lk.cut_last c s.toList a (by rw [tl_len, ← show k = _ from Hks.out]; exact Hno.out)]
        simp only [List.map_append, List.map_cons, List.map_nil]
        rw [Htb.out, List.take_of_length_le (by simp [tl_len, ← show k = _ from Hks.out])]
      · exact Below.grown (hnx.alloc hnx.size _) hgrow (by have := hnx.size; simp; omega) (fun q hq => (hown.lt q hq).1)

end Go.Proofs.Ytkfejeomfdhmdaa
