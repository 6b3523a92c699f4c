import Derived.Test.YtfnmglfbcpdlnaaS0
import Derived.WalkKit
import Derived.WalkSpells
import Derived.WalkLawsBesides
import Derived.Deep.OwnRows
import Derived.Deep.AppendLies
namespace Go.Proofs.Ytfnmglfbcpdlnaa
open Go.RowKit

theorem ret_int {k : IntKind} {a b : Int} (h : a = b) : Ending.returned (.int k a) = .returned (.int k b) := by rw [h]
theorem ret_bool {a b : Bool} (h : a = b) : Ending.returned (.bool a) = .returned (.bool b) := by rw [h]

theorem tl_len (s : ByteArray) : s.toList.length = s.size := by rw [ByteArray.toList_eq]; rfl
theorem tl_get (s : ByteArray) (i : Nat) (h : i < s.size) : s.toList[i]? = some s[i] := by
  rw [ByteArray.toList_eq, List.getElem?_eq_getElem (by simpa using h)]; rfl
theorem tl0 {s : ByteArray} (h : s.size = 0) : s.toList = [] := List.eq_nil_of_length_eq_zero (by rw [tl_len]; exact h)
theorem tl1 {s : ByteArray} (h : s.size = 1) : s.toList = [s[0]] := by
  have hl := tl_len s
  have h0 := tl_get s 0 (by omega)
  generalize s.toList = l at hl h0
  match l, hl, h0 with
  | [c], _, h0 => simpa using h0
  | [], hl, _ => simp at hl; omega
  | _ :: _ :: _, hl, _ => simp at hl; omega
theorem tl2 {s : ByteArray} (h : s.size = 2) : s.toList = [s[0], s[1]] := by
  have hl := tl_len s
  have h0 := tl_get s 0 (by omega)
  have h1 := tl_get s 1 (by omega)
  generalize s.toList = l at hl h0 h1
  match l, hl, h0, h1 with
  | [c, d], _, h0, h1 => simp at h0 h1; rw [h0, h1]
  | [], hl, _, _ => simp at hl; omega
  | [_], hl, _, _ => simp at hl; omega
  | _ :: _ :: _ :: _, hl, _, _ => simp at hl; omega

theorem isName1 {s : ByteArray} (h : s.size = 1) : Lk.isName s.toList = (decide (97 ≤ (s[0].toNat : Int)) && decide ((s[0].toNat : Int) ≤ 122)) := by
  rw [tl1 h]; simp [Lk.isName]; congr 1 <;> (rw [decide_eq_decide]; omega)
theorem isNameN {s : ByteArray} (h : s.size ≠ 1) : Lk.isName s.toList = false := by
  have hl := tl_len s
  generalize s.toList = l at hl
  match l, hl with
  | [c], hl => simp at hl; omega
  | [], _ => rfl
  | _ :: _ :: _, _ => rfl
theorem num1 {s : ByteArray} (h : s.size = 1) : Lk.intO (Lk.num? s.toList) = if 48 ≤ (s[0].toNat : Int) ∧ (s[0].toNat : Int) ≤ 57 then (s[0].toNat : Int) - 48 else -1 := by
  rw [tl1 h]
  by_cases hc : 48 ≤ s[0].toNat ∧ s[0].toNat ≤ 57
  · rw [if_pos (by omega)]; simp [Lk.num?, hc, Lk.intO]; omega
  · rw [if_neg (by omega)]; simp [Lk.num?, hc, Lk.intO]
theorem num2 {s : ByteArray} (h : s.size = 2) : Lk.intO (Lk.num? s.toList) = if (s[0].toNat : Int) = 49 ∧ 48 ≤ (s[1].toNat : Int) ∧ (s[1].toNat : Int) ≤ 53 then 10 + ((s[1].toNat : Int) - 48) else -1 := by
  rw [tl2 h]
  by_cases hc : s[0].toNat = 49 ∧ 48 ≤ s[1].toNat ∧ s[1].toNat ≤ 53
  · rw [if_pos (by omega)]; simp [Lk.num?, hc, Lk.intO]; omega
  · rw [if_neg (by omega)]; simp [Lk.num?, hc, Lk.intO]
theorem numN {s : ByteArray} (h1 : s.size ≠ 1) (h2 : s.size ≠ 2) : Lk.intO (Lk.num? s.toList) = -1 := by
  have hl := tl_len s
  generalize s.toList = l at hl
  match l, hl with
  | [c], hl => simp at hl; omega
  | [c, d], hl => simp at hl; omega
  | [], _ => rfl
  | _ :: _ :: _ :: _, _ => rfl
theorem num_range (l : Lk.Wd) : -1 ≤ Lk.intO (Lk.num? l) ∧ Lk.intO (Lk.num? l) ≤ 15 := by
  match l with
  | [c] => by_cases h : 48 ≤ c.toNat ∧ c.toNat ≤ 57 <;> simp [Lk.num?, h, Lk.intO]; omega
  | [c, d] => by_cases h : c.toNat = 49 ∧ 48 ≤ d.toNat ∧ d.toNat ≤ 53 <;> simp [Lk.num?, h, Lk.intO]; omega
  | [] => simp [Lk.num?, Lk.intO]
  | _ :: _ :: _ :: _ => simp [Lk.num?, Lk.intO]

end Go.Proofs.Ytfnmglfbcpdlnaa
