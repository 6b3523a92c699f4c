import Derived.Test.YtfnmglfbcpdlnaaProg
import Derived.Test.YtfnmglfbcpdlnaaA0
import Derived.Test.YtfnmglfbcpdlnaaS1
import Derived.Lib.Strings
namespace Go.Proofs.Ytfnmglfbcpdlnaa
open Go.RowKit
set_option linter.unusedVariables false

theorem Try.infoStr : (Try.prog.info? 9).map (fun i => (i.zero, i.size, i.bytes)) = some (some (.string ByteArray.empty), 1, 16) := by kernel_rfl

theorem extract_toList (s : ByteArray) (a b : Nat) : (s.extract a b).toList = (s.toList.drop a).take (b - a) := by
  rw [Lib.extract_toList, ByteArray.toList_eq]

set_option maxHeartbeats 1000000 in
theorem split_any (s : ByteArray) (w : World) (hs : s.size ≤ 1000000) :
    Calls Try.prog 53 #[.string s] w fun e w' => ∃ (g cap : Nat) (ws : List ByteArray), e = .returned (.slice (some ⟨g, 0, none⟩) ws.length cap) ∧ ws.map ByteArray.toList = Lk.cut 32 s.toList ∧
      w'.ownsRow w.heap.size 9 1 (.slice (some ⟨g, 0, none⟩) ws.length cap) ws.length (ws.map Value.string) ∧ Below w.heap.size w w' := by
  obtain ⟨i0, hi, hz0, hz1, hz2⟩ := info_parts Try.infoStr
  go_enter Try.func53, Try.ntmps53
  go_wp2
  go_loopw [3, 4, 5] (fun v st i wr => ∃ (k a : Nat) (ws : List ByteArray), k ≤ s.size ∧ a ≤ k ∧ i = .int .i64 k ∧ st = .int .i64 a ∧ wr.ownsRow w.heap.size 9 1 v ws.length (ws.map Value.string) ∧ Below w.heap.size w wr ∧
      ws.length ≤ k ∧ ws.map ByteArray.toList ++ Lk.cut 32 (s.toList.drop a) = Lk.cut 32 s.toList ∧ (∀ j, a ≤ j → j < k → s.toList[j]? ≠ some 32))
    (fun _ _ i _ => s.size - (intOf i).toNat)
  case atStart => exact ⟨0, 0, [], Nat.zero_le _, Nat.le_refl _, rfl, rfl, World.ownsRow_nil _ _ _ _, Below.refl _ _, Nat.le_refl _, rfl, fun j _ h => by omega⟩
  case round =>
    obtain ⟨k, a, ws, hk, ha, rfl, rfl, hown, hnx, hwl, hcut, hno⟩ := hrel
    have Hcut : Hid _ := hcut
    have Hno : Hid _ := hno
    clear hcut hno
    by_cases hlt : k < s.size
    · by_cases hsp : s[k] = 32
      · have hspI : (((s[k].toNat : Int)) == 32) = true := by rw [hsp]; rfl
        have Hsp : Hid _ := hsp
        clear hsp
        go_wp2_with (first | (at_builtin; refine wpList_append_lies _ rfl _ _ 59 rfl w.heap.size 9 i0 _ 1 16 Try.underlying59 hi hz0 hz1 hz2 rfl (by omega) _ ws.length (ws.map Value.string) rfl (hown.alloc _) ⟨wr.heap.size, 0, none⟩ 1 1 [.string (s.extract a k)] rfl rfl (cell_one_new _ _ _) (by simp [Value.oneCell']) (by omega) (by unfold maxLen; omega) (by omega) (by have := hnx.size; simp; omega) (wr.heap.size + 1) (by simp) ?_; intro g cap w1 hown1 hgrow hat hlt1))
        go_roundw
        case rel =>
          refine ⟨k + 1, k + 1, ws ++ [s.extract a k], by omega, Nat.le_refl _, by go_num, by go_num, by simpa using hown1, ?_, by simp; omega, ?_, fun j h1 h2 => by omega⟩
          · exact Below.grown (hnx.alloc hnx.size _) hgrow (by have := hnx.size; simp; omega) (fun q hq => (hown.lt q hq).1)
          · rw [← Hcut.out, Lk.cut_step 32 s.toList a k ha (by rw [tl_get s k hlt, Hsp.out]) Hno.out, List.map_append, List.append_assoc]
            simp [extract_toList]
        case measure => simp [intOf]; omega
      · have hspI : (((s[k].toNat : Int)) == 32) = false := by
          simp; intro h; exact hsp (UInt8.toNat_inj.1 (by rw [show (32 : UInt8).toNat = 32 from rfl]; omega))
        have Hsp : Hid _ := hsp
        clear hsp
        go_wp2
        go_roundw
        case rel =>
          refine ⟨k + 1, a, ws, by omega, by omega, by go_num, rfl, hown, hnx, by omega, Hcut.out, ?_⟩
          intro j h1 h2
          by_cases hj : j = k
          · subst hj; rw [tl_get s j hlt]; intro h; exact Hsp.out (by simpa using h)
          · exact Hno.out j h1 (by omega)
        case measure => simp [intOf]; omega
    · have hks : k = s.size := by omega
      go_wp2_with (first | (at_builtin; refine wpList_append_lies _ rfl _ _ 59 rfl w.heap.size 9 i0 _ 1 16 Try.underlying59 hi hz0 hz1 hz2 rfl (by omega) _ ws.length (ws.map Value.string) rfl (hown.alloc _) ⟨wr.heap.size, 0, none⟩ 1 1 [.string (s.extract a s.size)] rfl rfl (cell_one_new _ _ _) (by simp [Value.oneCell']) (by omega) (by unfold maxLen; omega) (by omega) (by have := hnx.size; simp; omega) (wr.heap.size + 1) (by simp) ?_; intro g cap w1 hown1 hgrow hat hlt1))
      go_ret
      refine ⟨g, cap, ws ++ [s.extract a s.size], by simp, ?_, by simpa using hown1, ?_⟩
      · rw [← Hcut.out, Lk.cut_last 32 s.toList a (by rw [tl_len, ← hks]; exact Hno.out)]
        simp only [List.map_append, List.map_cons, List.map_nil, extract_toList]
        rw [List.take_of_length_le (by simp [tl_len])]
      · exact Below.grown (hnx.alloc hnx.size _) hgrow (by have := hnx.size; simp; omega) (fun q hq => (hown.lt q hq).1)

end Go.Proofs.Ytfnmglfbcpdlnaa
