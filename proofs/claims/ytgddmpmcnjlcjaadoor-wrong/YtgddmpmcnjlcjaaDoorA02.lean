import Derived.Test.YtgddmpmcnjlcjaaDoorA01
import Derived.WalkKit
import Derived.WalkSpells
import Derived.WalkLawsBesides
import Derived.Deep.OwnRows
import Derived.Deep.AppendLies
import Derived.Test.YtgddmpmcnjlcjaaDoorProg
import Derived.Lib.Strings
namespace Go.Proofs.YtgddmpmcnjlcjaaDoor
open Go.RowKit

theorem ret_int {k : IntKind} {a b : Int} (h : a = b) : Ending.returned (.int k a) = .returned (.int k b) := by rw [h]
theorem ret_bool {a b : Bool} (h : a = b) : Ending.returned (.bool a) = .returned (.bool b) := by rw [h]

theorem tl_len (s : ByteArray) : s.toList.length = s.size := by rw [ByteArray.toList_eq]; rfl
theorem tl_get (s : ByteArray) (i : Nat) (h : i < s.size) : s.toList[i]? = some s[i] := by
  rw [ByteArray.toList_eq, List.getElem?_eq_getElem (by simpa using h)]; rfl
theorem tl0 {s : ByteArray} (h : s.size = 0) : s.toList = [] := List.eq_nil_of_length_eq_zero (by rw [tl_len]; exact h)
theorem tl1 {s : ByteArray} (h : s.size = 1) : s.toList = [s[0]] := by
  have hl := tl_len s
  have h0 := tl_get s 0 (by omega)
  generalize s.toList = l at hl h0
  match l, hl, h0 with
  | [c], _, h0 => simpa using h0
  | [], hl, _ => simp at hl; omega
  | _ :: _ :: _, hl, _ => simp at hl; omega
theorem tl2 {s : ByteArray} (h : s.size = 2) : s.toList = [s[0], s[1]] := by
  have hl := tl_len s
  have h0 := tl_get s 0 (by omega)
  have h1 := tl_get s 1 (by omega)
  generalize s.toList = l at hl h0 h1
  match l, hl, h0, h1 with
  | [c, d], _, h0, h1 => simp at h0 h1; rw [h0, h1]
  | [], hl, _, _ => simp at hl; omega
  | [_], hl, _, _ => simp at hl; omega
  | _ :: _ :: _ :: _, hl, _, _ => simp at hl; omega

theorem isName1 {s : ByteArray} (h : s.size = 1) : Lk.isName s.toList = (decide (97 ≤ (s[0].toNat : Int)) && decide ((s[0].toNat : Int) ≤ 122)) := by
  rw [tl1 h]; simp [Lk.isName]; congr 1 <;> (rw [decide_eq_decide]; omega)
theorem isNameN {s : ByteArray} (h : s.size ≠ 1) : Lk.isName s.toList = false := by
  have hl := tl_len s
  generalize s.toList = l at hl
  match l, hl with
  | [c], hl => simp at hl; omega
  | [], _ => rfl
  | _ :: _ :: _, _ => rfl
theorem num1 {s : ByteArray} (h : s.size = 1) : Lk.intO (Lk.num? s.toList) = if 48 ≤ (s[0].toNat : Int) ∧ (s[0].toNat : Int) ≤ 57 then (s[0].toNat : Int) - 48 else -1 := by
  rw [tl1 h]
  by_cases hc : 48 ≤ s[0].toNat ∧ s[0].toNat ≤ 57
  · rw [if_pos (by omega)]; simp [Lk.num?, hc, Lk.intO]; omega
  · rw [if_neg (by omega)]; simp [Lk.num?, hc, Lk.intO]
theorem num2 {s : ByteArray} (h : s.size = 2) : Lk.intO (Lk.num? s.toList) = if (s[0].toNat : Int) = 49 ∧ 48 ≤ (s[1].toNat : Int) ∧ (s[1].toNat : Int) ≤ 53 then 10 + ((s[1].toNat : Int) - 48) else -1 := by
  rw [tl2 h]
  by_cases hc : s[0].toNat = 49 ∧ 48 ≤ s[1].toNat ∧ s[1].toNat ≤ 53
  · rw [if_pos (by omega)]; simp [Lk.num?, hc, Lk.intO]; omega
  · rw [if_neg (by omega)]; simp [Lk.num?, hc, Lk.intO]
theorem numN {s : ByteArray} (h1 : s.size ≠ 1) (h2 : s.size ≠ 2) : Lk.intO (Lk.num? s.toList) = -1 := by
  have hl := tl_len s
  generalize s.toList = l at hl
  match l, hl with
  | [c], hl => simp at hl; omega
  | [c, d], hl => simp at hl; omega
  | [], _ => rfl
  | _ :: _ :: _ :: _, _ => rfl
theorem num_range (l : Lk.Wd) : -1 ≤ Lk.intO (Lk.num? l) ∧ Lk.intO (Lk.num? l) ≤ 15 := by
  match l with
  | [c] => by_cases h : 48 ≤ c.toNat ∧ c.toNat ≤ 57 <;> simp [Lk.num?, h, Lk.intO]; omega
  | [c, d] => by_cases h : c.toNat = 49 ∧ 48 ≤ d.toNat ∧ d.toNat ≤ 53 <;> simp [Lk.num?, h, Lk.intO]; omega
  | [] => simp [Lk.num?, Lk.intO]
  | _ :: _ :: _ :: _ => simp [Lk.num?, Lk.intO]

end Go.Proofs.YtgddmpmcnjlcjaaDoor

/- On cutting a text. -/
namespace Go.Proofs.YtgddmpmcnjlcjaaDoor.Lk

theorem cut_split (c : UInt8) (q : Wd) : ∀ p : Wd, (∀ x ∈ p, x ≠ c) → cut c (p ++ c :: q) = p :: cut c q
  | [], _ => by simp [cut]
  | x :: p, h => by
    have ih := cut_split c q p (fun y hy => h y (List.mem_cons_of_mem _ hy))
    have hx : x ≠ c := h x (List.mem_cons_self ..)
    simp [cut, hx, ih]

theorem cut_none (c : UInt8) : ∀ p : Wd, (∀ x ∈ p, x ≠ c) → cut c p = [p]
  | [], _ => by simp [cut]
  | x :: p, h => by
    have ih := cut_none c p (fun y hy => h y (List.mem_cons_of_mem _ hy))
    have hx : x ≠ c := h x (List.mem_cons_self ..)
    simp [cut, hx, ih]

theorem cut_ne (c : UInt8) : ∀ p : Wd, cut c p ≠ []
  | [] => by simp [cut]
  | x :: p => by
    unfold cut
    split
    · simp
    · split <;> simp

theorem drop_at (L : Wd) (a k : Nat) (c : UInt8) (ha : a ≤ k) (hk : L[k]? = some c) : L.drop a = (L.drop a).take (k - a) ++ c :: L.drop (k + 1) := by
  have h1 : (L.drop a).drop (k - a) = c :: L.drop (k + 1) := by
    rw [List.drop_drop, show a + (k - a) = k by omega]
    obtain ⟨hlt, hv⟩ := List.getElem?_eq_some_iff.1 hk
    rw [List.drop_eq_getElem_cons hlt, hv]
  exact (List.take_append_drop (k - a) (L.drop a)).symm.trans (by rw [h1])

theorem mem_seg {L : Wd} {a k : Nat} {x : UInt8} (h : x ∈ (L.drop a).take (k - a)) : ∃ j, a ≤ j ∧ j < k ∧ L[j]? = some x := by
  obtain ⟨i, hi, hx⟩ := List.mem_iff_getElem.1 h
  refine ⟨a + i, by omega, ?_, ?_⟩
  · simp at hi; omega
  · rw [← hx]
    simp at hi
    rw [List.getElem?_eq_getElem (by omega)]
    simp

theorem cut_step (c : UInt8) (L : Wd) (a k : Nat) (ha : a ≤ k) (hk : L[k]? = some c) (hno : ∀ j, a ≤ j → j < k → L[j]? ≠ some c) :
    cut c (L.drop a) = (L.drop a).take (k - a) :: cut c (L.drop (k + 1)) := by
  conv => lhs; rw [drop_at L a k c ha hk]
  exact cut_split c _ _ fun x hx hxc => by
    obtain ⟨j, h1, h2, h3⟩ := mem_seg hx
    exact hno j h1 h2 (by rw [h3, hxc])

theorem cut_last (c : UInt8) (L : Wd) (a : Nat) (hno : ∀ j, a ≤ j → j < L.length → L[j]? ≠ some c) : cut c (L.drop a) = [L.drop a] := by
  refine cut_none c _ fun x hx hxc => ?_
  obtain ⟨i, hi, h⟩ := List.mem_iff_getElem.1 hx
  simp at hi
  refine hno (a + i) (by omega) (by omega) ?_
  rw [List.getElem?_eq_getElem (by omega), ← hxc, ← h]
  simp

end Go.Proofs.YtgddmpmcnjlcjaaDoor.Lk

namespace Go.Proofs.YtgddmpmcnjlcjaaDoor
open Go.RowKit
set_option linter.unusedVariables false

theorem Tryd.infoStr : (Tryd.prog.info? 9).map (fun i => (i.zero, i.size, i.bytes)) = some (some (.string ByteArray.empty), 1, 16) := by kernel_rfl

theorem extract_toList (s : ByteArray) (a b : Nat) : (s.extract a b).toList = (s.toList.drop a).take (b - a) := by
  rw [Lib.extract_toList, ByteArray.toList_eq]

set_option maxHeartbeats 1000000 in
theorem split_any (s : ByteArray) (w : World) (hs : s.size ≤ 1000000) :
    Calls Tryd.prog 42 #[.string s] w fun e w' => ∃ (g cap : Nat) (ws : List ByteArray), e = .returned (.slice (some ⟨g, 0, none⟩) ws.length cap) ∧ ws.map ByteArray.toList = Lk.cut 32 s.toList ∧
      w'.ownsRow w.heap.size 9 1 (.slice (some ⟨g, 0, none⟩) ws.length cap) ws.length (ws.map Value.string) ∧ Below w.heap.size w w' := by
  obtain ⟨i0, hi, hz0, hz1, hz2⟩ := info_parts Tryd.infoStr
  go_enter Tryd.func42, Tryd.ntmps42
  go_wp2
  go_loopw [3, 4, 5] (fun v st i wr => ∃ (k a : Nat) (ws : List ByteArray), k ≤ s.size ∧ a ≤ k ∧ i = .int .i64 k ∧ st = .int .i64 a ∧ wr.ownsRow w.heap.size 9 1 v ws.length (ws.map Value.string) ∧ Below w.heap.size w wr ∧
      ws.length ≤ k ∧ ws.map ByteArray.toList ++ Lk.cut 32 (s.toList.drop a) = Lk.cut 32 s.toList ∧ (∀ j, a ≤ j → j < k → s.toList[j]? ≠ some 32))
    (fun _ _ i _ => s.size - (intOf i).toNat)
  case atStart => exact ⟨0, 0, [], Nat.zero_le _, Nat.le_refl _, rfl, rfl, World.ownsRow_nil _ _ _ _, Below.refl _ _, Nat.le_refl _, rfl, fun j _ h => by omega⟩
  case round =>
    obtain ⟨k, a, ws, hk, ha, rfl, rfl, hown, hnx, hwl, hcut, hno⟩ := hrel
    have Hcut : Hid _ := hcut
    have Hno : Hid _ := hno
    clear hcut hno
    by_cases hlt : k < s.size
    · by_cases hsp : s[k] = 32
      · have hspI : (((s[k].toNat : Int)) == 32) = true := by rw [hsp]; rfl
        have Hsp : Hid _ := hsp
        clear hsp
        go_wp2_with (first | (at_builtin; refine wpList_append_lies _ rfl _ _ 64 rfl w.heap.size 9 i0 _ 1 16 Tryd.underlying64 hi hz0 hz1 hz2 rfl (by omega) _ ws.length (ws.map Value.string) rfl (hown.alloc _) ⟨wr.heap.size, 0, none⟩ 1 1 [.string (s.extract a k)] rfl rfl (cell_one_new _ _ _) (by simp [Value.oneCell']) (by omega) (by unfold maxLen; omega) (by omega) (by have := hnx.size; simp; omega) (wr.heap.size + 1) (by simp) ?_; intro g cap w1 hown1 hgrow hat hlt1))
        go_roundw
        case rel =>
          refine ⟨k + 1, k + 1, ws ++ [s.extract a k], by omega, Nat.le_refl _, by go_num, by go_num, by simpa using hown1, ?_, by simp; omega, ?_, fun j h1 h2 => by omega⟩
          · exact Below.grown (hnx.alloc hnx.size _) hgrow (by have := hnx.size; simp; omega) (fun q hq => (hown.lt q hq).1)
          · rw [← Hcut.out, Lk.cut_step 32 s.toList a k ha (by rw [tl_get s k hlt, Hsp.out]) Hno.out, List.map_append, List.append_assoc]
            simp [extract_toList]
        case measure => simp [intOf]; omega
      · have hspI : (((s[k].toNat : Int)) == 32) = false := by
          simp; intro h; exact hsp (UInt8.toNat_inj.1 (by rw [show (32 : UInt8).toNat = 32 from rfl]; omega))
        have Hsp : Hid _ := hsp
        clear hsp
        go_wp2
        go_roundw
        case rel =>
          refine ⟨k + 1, a, ws, by omega, by omega, by go_num, rfl, hown, hnx, by omega, Hcut.out, ?_⟩
          intro j h1 h2
          by_cases hj : j = k
          · subst hj; rw [tl_get s j hlt]; intro h; exact Hsp.out (by simpa using h)
          · exact Hno.out j h1 (by omega)
        case measure => simp [intOf]; omega
    · have hks : k = s.size := by omega
      go_wp2_with (first | (at_builtin; refine wpList_append_lies _ rfl _ _ 64 rfl w.heap.size 9 i0 _ 1 16 Tryd.underlying64 hi hz0 hz1 hz2 rfl (by omega) _ ws.length (ws.map Value.string) rfl (hown.alloc _) ⟨wr.heap.size, 0, none⟩ 1 1 [.string (s.extract a s.size)] rfl rfl (cell_one_new _ _ _) (by simp [Value.oneCell']) (by omega) (by unfold maxLen; omega) (by omega) (by have := hnx.size; simp; omega) (wr.heap.size + 1) (by simp) ?_; intro g cap w1 hown1 hgrow hat hlt1))
      go_ret
      refine ⟨g, cap, ws ++ [s.extract a s.size], by simp, ?_, by simpa using hown1, ?_⟩
      · rw [← Hcut.out, Lk.cut_last 32 s.toList a (by rw [tl_len, ← hks]; exact Hno.out)]
        simp only [List.map_append, List.map_cons, List.map_nil, extract_toList]
        rw [List.take_of_length_le (by simp [tl_len])]
      · exact Below.grown (hnx.alloc hnx.size _) hgrow (by have := hnx.size; simp; omega) (fun q hq => (hown.lt q hq).1)

end Go.Proofs.YtgddmpmcnjlcjaaDoor
