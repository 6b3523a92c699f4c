import Derived.Test.YtfnmglfbcpdlnaaS0
/- On cutting a text. -/
namespace Go.Proofs.Ytfnmglfbcpdlnaa.Lk

theorem cut_split (c : UInt8) (q : Wd) : ∀ p : Wd, (∀ x ∈ p, x ≠ c) → cut c (p ++ c :: q) = p :: cut c q
  | [], _ => by simp [cut]
  | x :: p, h => by
    have ih := cut_split c q p (fun y hy => h y (List.mem_cons_of_mem _ hy))
    have hx : x ≠ c := h x (List.mem_cons_self ..)
    simp [cut, hx, ih]

theorem cut_none (c : UInt8) : ∀ p : Wd, (∀ x ∈ p, x ≠ c) → cut c p = [p]
  | [], _ => by simp [cut]
  | x :: p, h => by
    have ih := cut_none c p (fun y hy => h y (List.mem_cons_of_mem _ hy))
    have hx : x ≠ c := h x (List.mem_cons_self ..)
    simp [cut, hx, ih]

theorem cut_ne (c : UInt8) : ∀ p : Wd, cut c p ≠ []
  | [] => by simp [cut]
  | x :: p => by
    unfold cut
    split
    · simp
    · split <;> simp

theorem drop_at (L : Wd) (a k : Nat) (c : UInt8) (ha : a ≤ k) (hk : L[k]? = some c) : L.drop a = (L.drop a).take (k - a) ++ c :: L.drop (k + 1) := by
  have h1 : (L.drop a).drop (k - a) = c :: L.drop (k + 1) := by
    rw [List.drop_drop, show a + (k - a) = k by omega]
    obtain ⟨hlt, hv⟩ := List.getElem?_eq_some_iff.1 hk
    rw [List.drop_eq_getElem_cons hlt, hv]
  exact (List.take_append_drop (k - a) (L.drop a)).symm.trans (by rw [h1])

theorem mem_seg {L : Wd} {a k : Nat} {x : UInt8} (h : x ∈ (L.drop a).take (k - a)) : ∃ j, a ≤ j ∧ j < k ∧ L[j]? = some x := by
  obtain ⟨i, hi, hx⟩ := List.mem_iff_getElem.1 h
  refine ⟨a + i, by omega, ?_, ?_⟩
  · simp at hi; omega
  · rw [← hx]
    simp at hi
    rw [List.getElem?_eq_getElem (by omega)]
    simp

theorem cut_step (c : UInt8) (L : Wd) (a k : Nat) (ha : a ≤ k) (hk : L[k]? = some c) (hno : ∀ j, a ≤ j → j < k → L[j]? ≠ some c) :
    cut c (L.drop a) = (L.drop a).take (k - a) :: cut c (L.drop (k + 1)) := by
  conv => lhs; rw [drop_at L a k c ha hk]
  exact cut_split c _ _ fun x hx hxc => by
    obtain ⟨j, h1, h2, h3⟩ := mem_seg hx
    exact hno j h1 h2 (by rw [h3, hxc])

theorem cut_last (c : UInt8) (L : Wd) (a : Nat) (hno : ∀ j, a ≤ j → j < L.length → L[j]? ≠ some c) : cut c (L.drop a) = [L.drop a] := by
  refine cut_none c _ fun x hx hxc => ?_
  obtain ⟨i, hi, h⟩ := List.mem_iff_getElem.1 hx
  simp at hi
  refine hno (a + i) (by omega) (by omega) ?_
  rw [List.getElem?_eq_getElem (by omega), ← hxc, ← h]
  simp

end Go.Proofs.Ytfnmglfbcpdlnaa.Lk
