import Derived.Test.YtgddmpmcnjlcjaaDoorK02
/- Which inputs a text declares secret: read off its lines. -/
namespace Go.Proofs.YtgddmpmcnjlcjaaDoor
open Go.RowKit
set_option linter.unusedVariables false

namespace Sx
def secL : List UInt8 := [115, 101, 99, 114, 101, 116, 32]
def pubL : List UInt8 := [112, 117, 98, 108, 105, 99, 32]
def one (l : List UInt8) : List Bool := if l.length = 8 ∧ l.take 7 = secL then [true] else if l.length = 8 ∧ l.take 7 = pubL then [false] else []
def scan (ls : List (List UInt8)) : List Bool := ls.dropLast.flatMap one
def sec (s : List UInt8) : List Bool := scan (Lk.cut 10 s)
theorem scan_cons (x : List UInt8) (ls : List (List UInt8)) (h : ls ≠ []) : scan (x :: ls) = one x ++ scan ls := by
  unfold scan
  cases ls with
  | nil => exact absurd rfl h
  | cons y ls => rfl
theorem one_len (l : List UInt8) : (one l).length ≤ 1 := by
  unfold one
  split
  · exact Nat.le_refl _
  · split
    · exact Nat.le_refl _
    · exact Nat.zero_le _
end Sx

theorem ext_take (L : ByteArray) : (L.extract 0 7).toList = L.toList.take 7 := by
  rw [extract_toList, List.drop_zero]

set_option maxRecDepth 100000 in
set_option maxHeartbeats 2000000 in
theorem secrets_any (s : ByteArray) (hs : s.size ≤ 600) (w : World) :
    Calls Tryd.prog 36 #[.string s] w fun e w' => ∃ v, e = .returned v ∧ w'.ownsRow w.heap.size 4 1 v (Sx.sec s.toList).length ((Sx.sec s.toList).map Value.bool) ∧ Below w.heap.size w w' := by
  obtain ⟨i0, hi, hz0, hz1, hz2⟩ := info_parts Tryd.infoBool
  go_enter Tryd.func36, Tryd.ntmps36
  go_wp2
  go_loopw [3, 4, 5] (fun v st i wr => ∃ (k a : Nat) (acc : List Bool), k ≤ s.size ∧ a ≤ k ∧ i = .int .i64 k ∧ st = .int .i64 a ∧ wr.ownsRow w.heap.size 4 1 v acc.length (acc.map Value.bool) ∧ Below w.heap.size w wr ∧
      acc.length ≤ k ∧ acc ++ Sx.sec (s.toList.drop a) = Sx.sec s.toList ∧ (∀ j, a ≤ j → j < k → s.toList[j]? ≠ some 10))
    (fun _ _ i _ => s.size - (intOf i).toNat)
  case atStart => exact ⟨0, 0, [], Nat.zero_le _, Nat.le_refl _, rfl, rfl, World.ownsRow_nil _ _ _ _, Below.refl _ _, Nat.le_refl _, rfl, fun j _ h => by omega⟩
  case round =>
    obtain ⟨k, a, acc, hk, ha, rfl, rfl, hown, hnx, hwl, hcut, hno⟩ := hrel
    have HO := hid hown
    have HB := hid hnx
    have hzw := hnx.size
    have Hcut : Hid _ := hcut
    have Hno : Hid _ := hno
    clear hcut hno
    by_cases hlt : k < s.size
    · by_cases hnl : s[k] = 10
      · have hnlI : (((s[k].toNat : Int)) != 10) = false := by rw [hnl]; rfl
        have hst := Lk.cut_step 10 s.toList a k ha (by rw [tl_get s k hlt, hnl]) Hno.out
        have hce := Lk.cut_ne 10 (s.toList.drop (k + 1))
        have hS : Sx.sec (s.toList.drop a) = Sx.one ((s.extract a k).toList) ++ Sx.sec (s.toList.drop (k + 1)) := by
          unfold Sx.sec
          rw [hst, extract_toList]
          exact Sx.scan_cons _ _ (fun e => by rw [e] at hce; simp at hce)
        have HCUT := hid (show acc ++ (Sx.one ((s.extract a k).toList) ++ Sx.sec (s.toList.drop (k + 1))) = Sx.sec s.toList by rw [← hS]; exact Hcut.out)
        have hsz : (s.extract a k).size = k - a := by rw [ByteArray.size_extract]; omega
        clear hst hce hS Hcut hnl hown hnx
        have hlen : (s.extract a k).toList.length = k - a := by rw [tl_len]; exact hsz
        by_cases h8 : k - a = 8
        · have h8s : (s.extract a k).size = 8 := by omega
          by_cases hS7 : (((s.extract a k).extract 0 7).toList == [115, 101, 99, 114, 101, 116, 32]) = true
          · have hE7 : ((s.extract a k).extract 0 7).toList = [115, 101, 99, 114, 101, 116, 32] := by simpa using hS7
            have hP7 : (((s.extract a k).extract 0 7).toList == [112, 117, 98, 108, 105, 99, 32]) = false := by rw [hE7]; rfl
            have HONE := hid (show Sx.one (s.extract a k).toList = [true] by unfold Sx.one; rw [if_pos ⟨by omega, (ext_take _).symm.trans hE7⟩])
            clear hE7
            go_wp2_with (first | (at_builtin; refine wpList_append_lies _ rfl _ _ 39 rfl w.heap.size 4 i0 _ 1 1 Tryd.underlying39 hi hz0 hz1 hz2 rfl (by omega) _ acc.length (acc.map Value.bool) rfl (HO.out.alloc _) ⟨wr.heap.size, 0, none⟩ 1 1 [.bool true] rfl rfl (cell_one_new _ _ _) (by simp [Value.oneCell']) (by omega) (by unfold maxLen; omega) (by omega) (by simp; omega) (wr.heap.size + 1) (by simp) ?_; intro g cap w1 hown1 hgrow hat hlt1))
            go_roundw
            case rel =>
              refine ⟨k + 1, k + 1, acc ++ [true], by omega, Nat.le_refl _, by go_num, by go_num, by simpa using hown1, Below.grown (HB.out.alloc hzw _) hgrow (by simp; omega) (fun q hq => (HO.out.lt q hq).1), by simp; omega, ?_, fun j h1 h2 => by omega⟩
              rw [← HCUT.out, HONE.out, List.append_assoc]
            case measure => simp [intOf]; omega
          · have hS0 : (((s.extract a k).extract 0 7).toList == [115, 101, 99, 114, 101, 116, 32]) = false := by simpa using hS7
            have hSn : ¬ (s.extract a k).toList.take 7 = Sx.secL := fun h => hS7 (by rw [ext_take, h]; rfl)
            clear hS7
            by_cases hP7 : (((s.extract a k).extract 0 7).toList == [112, 117, 98, 108, 105, 99, 32]) = true
            · have HONE := hid (show Sx.one (s.extract a k).toList = [false] by unfold Sx.one; rw [if_neg (fun h => hSn h.2), if_pos ⟨by omega, (ext_take _).symm.trans (beq_iff_eq.1 hP7)⟩])
              clear hSn
              go_wp2_with (first | (at_builtin; refine wpList_append_lies _ rfl _ _ 39 rfl w.heap.size 4 i0 _ 1 1 Tryd.underlying39 hi hz0 hz1 hz2 rfl (by omega) _ acc.length (acc.map Value.bool) rfl (HO.out.alloc _) ⟨wr.heap.size, 0, none⟩ 1 1 [.bool false] rfl rfl (cell_one_new _ _ _) (by simp [Value.oneCell']) (by omega) (by unfold maxLen; omega) (by omega) (by simp; omega) (wr.heap.size + 1) (by simp) ?_; intro g cap w1 hown1 hgrow hat hlt1))
              go_roundw
              case rel =>
                refine ⟨k + 1, k + 1, acc ++ [false], by omega, Nat.le_refl _, by go_num, by go_num, by simpa using hown1, Below.grown (HB.out.alloc hzw _) hgrow (by simp; omega) (fun q hq => (HO.out.lt q hq).1), by simp; omega, ?_, fun j h1 h2 => by omega⟩
                rw [← HCUT.out, HONE.out, List.append_assoc]
              case measure => simp [intOf]; omega
            · have hP0 : (((s.extract a k).extract 0 7).toList == [112, 117, 98, 108, 105, 99, 32]) = false := by simpa using hP7
              have HONE := hid (show Sx.one (s.extract a k).toList = [] by unfold Sx.one; rw [if_neg (fun h => hSn h.2), if_neg (fun h => hP7 (by rw [ext_take, h.2]; rfl))])
              clear hSn hP7
              go_wp2_with fail
              go_roundw
              case rel =>
                refine ⟨k + 1, k + 1, acc, by omega, Nat.le_refl _, by go_num, by go_num, HO.out, HB.out, by omega, ?_, fun j h1 h2 => by omega⟩
                rw [← HCUT.out, HONE.out, List.nil_append]
              case measure => simp [intOf]; omega
        · have HONE := hid (show Sx.one (s.extract a k).toList = [] by unfold Sx.one; rw [if_neg (fun h => by omega), if_neg (fun h => by omega)])
          have h8s : ¬ ((s.extract a k).size : Int) = 8 := by omega
          go_wp2_with fail
          go_roundw
          case rel =>
            refine ⟨k + 1, k + 1, acc, by omega, Nat.le_refl _, by go_num, by go_num, HO.out, HB.out, by omega, ?_, fun j h1 h2 => by omega⟩
            rw [← HCUT.out, HONE.out, List.nil_append]
          case measure => simp [intOf]; omega
      · have hnlI : (((s[k].toNat : Int)) != 10) = true := by
          simp; intro h; exact hnl (UInt8.toNat_inj.1 (by rw [show (10 : UInt8).toNat = 10 from rfl]; omega))
        have Hnl := hid hnl
        clear hnl hown hnx
        go_wp2
        go_roundw
        case rel =>
          refine ⟨k + 1, a, acc, by omega, by omega, by go_num, rfl, HO.out, HB.out, by omega, Hcut.out, ?_⟩
          intro j h1 h2
          by_cases hj : j = k
          · subst hj; rw [tl_get s j hlt]; intro h; exact Hnl.out (by simpa using h)
          · exact Hno.out j h1 (by omega)
        case measure => simp [intOf]; omega
    · have hks : k = s.size := by omega
      have hE : acc = Sx.sec s.toList := by
        rw [← Hcut.out]
        unfold Sx.sec
        rw [Lk.cut_last 10 s.toList a (by rw [tl_len, ← hks]; exact Hno.out)]
        simp [Sx.scan]
      have HE := hid hE
      clear hown hnx hE Hcut
      go_wp2
      go_ret
      exact ⟨_, rfl, by rw [← HE.out]; exact HO.out, HB.out⟩

end Go.Proofs.YtgddmpmcnjlcjaaDoor
