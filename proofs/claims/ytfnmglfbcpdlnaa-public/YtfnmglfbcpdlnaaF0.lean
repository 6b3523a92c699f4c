import Derived.Test.YtfnmglfbcpdlnaaS0
/- What a program that was read keeps to. -/
namespace Go.Proofs.Ytfnmglfbcpdlnaa.Lk
set_option linter.unusedVariables false

def AtOk (x : At) : Prop := (x.named = true → x.val < 7) ∧ (x.named = false → x.val < 16)

structure StOk (na : Nat) (s : St) : Prop where
  kind : s.kind ≤ 6
  op : s.op ≤ 10
  slot : s.slot < 7
  arr : s.kind = 1 ∨ s.kind = 2 → s.arr < na
  a : AtOk s.a
  b : AtOk s.b

structure RWf (r : RS) : Prop where
  sec : r.secret.length ≤ 3
  var : r.vars ≤ 4
  cel : r.cells.length ≤ 2
  cle : ∀ j, j < r.cells.length → r.cells.getD j 0 ≤ 4
  l1 : ∀ i, (r.letters i).1 = 1 → (r.letters i).2 < r.secret.length + r.vars
  l2 : ∀ i, (r.letters i).1 = 2 → (r.letters i).2 < r.cells.length
  bod : ∀ s, s ∈ r.body → StOk r.cells.length s

theorem atOk_nil : AtOk {} := ⟨fun h => (by cases h), fun _ => by decide⟩
theorem stOk_nil (na : Nat) : StOk na {} := ⟨by decide, by decide, by decide, fun h => (by rcases h with h | h <;> cases h), atOk_nil, atOk_nil⟩
theorem stOk_mark (na n : Nat) : StOk na { kind := 6, next := n } := ⟨Nat.le_refl 6, Nat.zero_le 10, (by show 0 < 7; decide), fun h => (by rcases h with h | h <;> cases h), atOk_nil, atOk_nil⟩
theorem rwf_nil : RWf {} := ⟨by decide, by decide, by decide, fun j h => (by cases h), fun i h => (by cases h), fun i h => (by cases h), fun s h => (by cases h)⟩

theorem num_lt {w : Wd} {n : Nat} (h : num? w = some n) : n < 16 := by
  unfold num? at h
  split at h
  · split at h
    · cases h; omega
    · cases h
  · split at h
    · cases h; omega
    · cases h
  · cases h

theorem oper_le {w : Wd} {n : Nat} (h : oper? w = some n) : n ≤ 10 := by
  unfold oper? at h
  repeat' split at h
  all_goals first | (cases h; done) | (injection h with h; omega)

variable {r r' : RS} {ws : List Wd}

theorem find_slot (h : RWf r) {w : Wd} (e : (find r w).1 = 1) : (find r w).2 < 7 := by
  unfold find at e ⊢
  split at e
  · rename_i hn
    rw [if_pos hn]
    have := h.l1 _ e
    have := h.sec
    have := h.var
    omega
  · cases e
theorem find_arr (h : RWf r) {w : Wd} (e : (find r w).1 = 2) : (find r w).2 < r.cells.length := by
  unfold find at e ⊢
  split at e
  · rename_i hn
    rw [if_pos hn]
    exact h.l2 _ e
  · cases e
theorem atom_ok (h : RWf r) {w : Wd} {x : At} (e : atom? r w = some x) : AtOk x := by
  unfold atom? at e
  split at e
  · rename_i n hn
    cases e
    exact ⟨fun h => (by cases h), fun _ => num_lt hn⟩
  · split at e
    · rename_i hf
      cases e
      exact ⟨fun _ => find_slot h hf, fun h => (by cases h)⟩
    · cases e

theorem rwf_add {s : St} (h : RWf r) (hs : StOk r.cells.length s) (e : add r s = some r') : RWf r' ∧ r'.cells = r.cells := by
  unfold add at e
  split at e
  · cases e
    refine ⟨⟨h.sec, h.var, h.cel, h.cle, h.l1, h.l2, ?_⟩, rfl⟩
    intro x hx
    simp only [List.mem_append, List.mem_singleton] at hx
    rcases hx with hx | rfl
    · exact h.bod x hx
    · exact ⟨hs.kind, hs.op, hs.slot, hs.arr, hs.a, hs.b⟩
  · cases e

theorem bodyAt_ok (h : RWf r) (i : Nat) : StOk r.cells.length (bodyAt r.body i) := by
  unfold bodyAt
  rw [List.getD_eq_getElem?_getD]
  by_cases hi : i < r.body.length
  · rw [List.getElem?_eq_getElem hi]
    exact h.bod _ (List.getElem_mem hi)
  · rw [List.getElem?_eq_none (by omega)]
    exact stOk_nil _

theorem rwf_input {b : Bool} (h : RWf r) (e : takeInput r ws b = some r') : RWf r' := by
  unfold takeInput at e
  split at e
  · rename_i hc
    split at e
    · rename_i r2 hd
      cases e
      unfold declare at hd
      split at hd
      · rename_i hq
        cases hd
        have hb : r.body = [] := List.length_eq_zero_iff.1 hq.1
        refine ⟨by simp; omega, h.var, h.cel, h.cle, ?_, ?_, ?_⟩
        · intro i hi
          simp only [upd] at hi ⊢
          simp only [List.length_append, List.length_singleton]
          split
          · simp; omega
          · rename_i hne
            rw [if_neg hne] at hi
            have := h.l1 i hi
            omega
        · intro i hi
          simp only [upd] at hi ⊢
          split
          · rename_i he
            rw [if_pos he] at hi
            cases hi
          · rename_i hne
            rw [if_neg hne] at hi
            exact h.l2 i hi
        · intro s hs
          simp [hb] at hs
      · cases hd
    · cases e
  · cases e

theorem rwf_var (h : RWf r) (e : takeVar r ws = some r') : RWf r' := by
  unfold takeVar at e
  split at e
  · rename_i hc
    split at e
    · rename_i r2 hd
      cases e
      unfold declare at hd
      split at hd
      · rename_i hq
        cases hd
        have hb : r.body = [] := List.length_eq_zero_iff.1 hq.1
        refine ⟨h.sec, by simp; omega, h.cel, h.cle, ?_, ?_, ?_⟩
        · intro i hi
          simp only [upd] at hi ⊢
          split
          · simp
          · rename_i hne
            rw [if_neg hne] at hi
            have := h.l1 i hi
            omega
        · intro i hi
          simp only [upd] at hi ⊢
          split
          · rename_i he
            rw [if_pos he] at hi
            cases hi
          · rename_i hne
            rw [if_neg hne] at hi
            exact h.l2 i hi
        · intro s hs
          simp [hb] at hs
      · cases hd
    · cases e
  · cases e

theorem rwf_array (h : RWf r) (e : takeArray r ws = some r') : RWf r' := by
  unfold takeArray at e
  split at e
  · rename_i hc
    split at e
    · rename_i n hn
      split at e
      · rename_i hle
        split at e
        · rename_i r2 hd
          cases e
          unfold declare at hd
          split at hd
          · rename_i hq
            cases hd
            have hb : r.body = [] := List.length_eq_zero_iff.1 hq.1
            refine ⟨h.sec, h.var, by simp; omega, ?_, ?_, ?_, ?_⟩
            · intro j hj
              simp only [List.length_append, List.length_singleton] at hj
              simp only [List.getD_eq_getElem?_getD]
              by_cases hjl : j < r.cells.length
              · rw [List.getElem?_append_left hjl, ← List.getD_eq_getElem?_getD]
                exact h.cle j hjl
              · have : j = r.cells.length := by omega
                subst this
                simp; omega
            · intro i hi
              simp only [upd] at hi ⊢
              split
              · rename_i he
                rw [if_pos he] at hi
                cases hi
              · rename_i hne
                rw [if_neg hne] at hi
                exact h.l1 i hi
            · intro i hi
              simp only [upd] at hi ⊢
              simp only [List.length_append, List.length_singleton]
              split
              · simp
              · rename_i hne
                rw [if_neg hne] at hi
                have := h.l2 i hi
                omega
            · intro s hs
              simp [hb] at hs
          · cases hd
        · cases e
      · cases e
    · cases e
  · cases e

theorem rwf_load (h : RWf r) (e : takeLoad r ws = some r') : RWf r' := by
  unfold takeLoad at e
  split at e
  · rename_i hc
    split at e
    · rename_i x hx
      exact (rwf_add h ⟨(by simp), (by simp), find_slot h hc.2.1, fun _ => find_arr h hc.2.2, atom_ok h hx, atOk_nil⟩ e).1
    · cases e
  · cases e
theorem rwf_store (h : RWf r) (e : takeStore r ws = some r') : RWf r' := by
  unfold takeStore at e
  split at e
  · rename_i hc
    split at e
    · rename_i x y hx hy
      exact (rwf_add h ⟨(by simp), (by simp), (by simp), fun _ => find_arr h hc.2, atom_ok h hx, atom_ok h hy⟩ e).1
    · cases e
  · cases e
theorem rwf_out (h : RWf r) (e : takeOut r ws = some r') : RWf r' := by
  unfold takeOut at e
  split at e
  · split at e
    · rename_i x hx
      exact (rwf_add h ⟨(by simp), (by simp), (by simp), fun h => (by rcases h with h | h <;> cases h), atom_ok h hx, atOk_nil⟩ e).1
    · cases e
  · cases e
theorem rwf_assign (h : RWf r) (e : takeAssign r ws = some r') : RWf r' := by
  unfold takeAssign at e
  split at e
  · rename_i hc
    split at e
    · rename_i x hx
      split at e
      · exact (rwf_add h ⟨(by simp), (by simp), find_slot h hc.2.2, fun h => (by rcases h with h | h <;> cases h), atom_ok h hx, atOk_nil⟩ e).1
      · split at e
        · rename_i o y ho hy
          exact (rwf_add h ⟨(by simp), oper_le ho, find_slot h hc.2.2, fun h => (by rcases h with h | h <;> cases h), atom_ok h hx, atom_ok h hy⟩ e).1
        · cases e
    · cases e
  · cases e
theorem rwf_branch {k : Nat} (hk : k = 4 ∨ k = 5) (h : RWf r) (e : takeBranch r ws k = some r') : RWf r' := by
  unfold takeBranch at e
  split at e
  · split at e
    · rename_i x hx
      split at e
      · rename_i r2 h2
        cases e
        have q := (rwf_add h ⟨by show k ≤ 6; omega, (by simp), (by simp), fun h => by have h' : k = 1 ∨ k = 2 := h; omega, atom_ok h hx, atOk_nil⟩ h2).1
        exact ⟨q.sec, q.var, q.cel, q.cle, q.l1, q.l2, q.bod⟩
      · cases e
    · cases e
  · cases e
theorem rwf_else (h : RWf r) (e : takeElse r ws = some r') : RWf r' := by
  unfold takeElse at e
  split at e
  · cases e
    refine ⟨h.sec, h.var, h.cel, h.cle, h.l1, h.l2, ?_⟩
    intro x hx
    simp only [List.mem_append, List.mem_singleton] at hx
    rcases hx with hx | rfl
    · rcases List.mem_or_eq_of_mem_set hx with hx | rfl
      · exact h.bod x hx
      · have q := bodyAt_ok h (r.opn (r.depth - 1)).1
        exact ⟨q.kind, q.op, q.slot, q.arr, q.a, q.b⟩
    · exact stOk_mark _ _
  · cases e
theorem rwf_end (h : RWf r) (e : takeEnd r ws = some r') : RWf r' := by
  unfold takeEnd at e
  split at e
  · cases e
    refine ⟨h.sec, h.var, h.cel, h.cle, h.l1, h.l2, ?_⟩
    intro x hx
    simp only [List.mem_append, List.mem_singleton] at hx
    rcases hx with hx | rfl
    · split at hx
      · rcases List.mem_or_eq_of_mem_set hx with hx | rfl
        · exact h.bod x hx
        · have q := bodyAt_ok h (r.opn (r.depth - 1)).1
          exact ⟨q.kind, q.op, q.slot, q.arr, q.a, q.b⟩
      · rcases List.mem_or_eq_of_mem_set hx with hx | rfl
        · exact h.bod x hx
        · have q := bodyAt_ok h (r.opn (r.depth - 1)).2
          exact ⟨q.kind, q.op, q.slot, q.arr, q.a, q.b⟩
    · exact stOk_mark _ _
  · cases e

theorem ite_some {c : Prop} [Decidable c] {a b : Option RS} (e : (if c then a else b) = some r') : a = some r' ∨ b = some r' := by
  by_cases h : c
  · rw [if_pos h] at e; exact .inl e
  · rw [if_neg h] at e; exact .inr e

theorem rwf_take (h : RWf r) (e : take r ws = some r') : RWf r' := by
  unfold take at e
  rcases ite_some e with e | e
  · cases e
  rcases ite_some e with e | e
  · exact rwf_input h e
  rcases ite_some e with e | e
  · exact rwf_input h e
  rcases ite_some e with e | e
  · exact rwf_var h e
  rcases ite_some e with e | e
  · exact rwf_array h e
  rcases ite_some e with e | e
  · exact rwf_load h e
  rcases ite_some e with e | e
  · exact rwf_store h e
  rcases ite_some e with e | e
  · exact rwf_out h e
  rcases ite_some e with e | e
  · exact rwf_branch (.inl rfl) h e
  rcases ite_some e with e | e
  · exact rwf_branch (.inr rfl) h e
  rcases ite_some e with e | e
  · exact rwf_else h e
  rcases ite_some e with e | e
  · exact rwf_end h e
  · exact rwf_assign h e

theorem rwf_lines (h : RWf r) (n : Nat) (ls : List Wd) : RWf (lines r n ls).1 := by
  induction ls generalizing r n with
  | nil => exact h
  | cons l ls ih =>
    cases ls with
    | nil =>
      unfold lines
      split
      · exact h
      · exact h
    | cons m ls =>
      unfold lines
      split
      · rename_i r2 e
        exact ih (rwf_take h e) _
      · exact h

theorem rwf_read (s : Wd) : RWf (read s).1 := by
  unfold read
  split
  · exact rwf_nil
  · exact rwf_lines rwf_nil _ _

theorem link_ok (h : RWf r) {s : St} (hs : s ∈ link r.body) : StOk r.cells.length s ∧ s.kind ≤ 5 := by
  unfold link at hs
  simp only [List.mem_map, List.mem_filter] at hs
  obtain ⟨x, ⟨hx, hk⟩, rfl⟩ := hs
  have hk6 : x.kind ≠ 6 := by simpa using hk
  have q := h.bod x hx
  have hk5 : x.kind ≤ 5 := by have := q.kind; omega
  unfold linkOne
  split
  · exact ⟨⟨q.kind, q.op, q.slot, q.arr, q.a, q.b⟩, hk5⟩
  · exact ⟨⟨q.kind, q.op, q.slot, q.arr, q.a, q.b⟩, hk5⟩

end Go.Proofs.Ytfnmglfbcpdlnaa.Lk
