import Derived.Test.YtgddmpmcnjlcjabGreatDoorB01
import Derived.Test.YtgddmpmcnjlcjabGreatDoorB14
namespace Go.Proofs.YtgddmpmcnjlcjabGreatDoor.Lk
set_option linter.unusedVariables false
def AtOk (x : At) : Prop := (x.named = true → x.val < 7) ∧ (x.named = false → x.val < 16)
structure StOk (na : Nat) (s : St) : Prop where
  kind : s.kind ≤ 6
  op : s.op ≤ 10
  slot : s.slot < 7
  arr : s.kind = 1 ∨ s.kind = 2 → s.arr < na
  a : AtOk s.a
  b : AtOk s.b
structure RWf (r : RS) : Prop where
  sec : r.secret.length ≤ 3
  var : r.vars ≤ 4
  cel : r.cells.length ≤ 2
  cle : ∀ j, j < r.cells.length → r.cells.getD j 0 ≤ 4
  l1 : ∀ i, (r.letters i).1 = 1 → (r.letters i).2 < r.secret.length + r.vars
  l2 : ∀ i, (r.letters i).1 = 2 → (r.letters i).2 < r.cells.length
  bod : ∀ s, s ∈ r.body → StOk r.cells.length s
theorem atOk_nil : AtOk {} := ⟨fun h => (by cases h), fun _ => by decide⟩
theorem stOk_nil (na : Nat) : StOk na {} := ⟨by decide, by decide, by decide, fun h => (by rcases h with h | h <;> cases h), atOk_nil, atOk_nil⟩
theorem stOk_mark (na n : Nat) : StOk na { kind := 6, next := n } := ⟨Nat.le_refl 6, Nat.zero_le 10, (by show 0 < 7; decide), fun h => (by rcases h with h | h <;> cases h), atOk_nil, atOk_nil⟩
theorem rwf_nil : RWf {} := ⟨by decide, by decide, by decide, fun j h => (by cases h), fun i h => (by cases h), fun i h => (by cases h), fun s h => (by cases h)⟩
theorem num_lt {w : Wd} {n : Nat} (h : num? w = some n) : n < 16 := by
  unfold num? at h
  split at h
  · split at h
    · cases h; omega
    · cases h
  · split at h
    · cases h; omega
    · cases h
  · cases h
theorem oper_le {w : Wd} {n : Nat} (h : oper? w = some n) : n ≤ 10 := by
  unfold oper? at h
  repeat' split at h
  all_goals first | (cases h; done) | (injection h with h; omega)
variable {r r' : RS} {ws : List Wd}
theorem find_slot (h : RWf r) {w : Wd} (e : (find r w).1 = 1) : (find r w).2 < 7 := by
  unfold find at e ⊢
  split at e
  · rename_i hn
    rw [if_pos hn]
    have := h.l1 _ e
    have := h.sec
    have := h.var
    omega
  · cases e
theorem find_arr (h : RWf r) {w : Wd} (e : (find r w).1 = 2) : (find r w).2 < r.cells.length := by
  unfold find at e ⊢
  split at e
  · rename_i hn
    rw [if_pos hn]
    exact h.l2 _ e
  · cases e
theorem atom_ok (h : RWf r) {w : Wd} {x : At} (e : atom? r w = some x) : AtOk x := by
  unfold atom? at e
  split at e
  · rename_i n hn
    cases e
    exact ⟨fun h => (by cases h), fun _ => num_lt hn⟩
  · split at e
    · rename_i hf
      cases e
      exact ⟨fun _ => find_slot h hf, fun h => (by cases h)⟩
    · cases e
theorem rwf_add {s : St} (h : RWf r) (hs : StOk r.cells.length s) (e : add r s = some r') : RWf r' ∧ r'.cells = r.cells := by
  unfold add at e
  split at e
  · cases e
    refine ⟨⟨h.sec, h.var, h.cel, h.cle, h.l1, h.l2, ?_⟩, rfl⟩
    intro x hx
    simp only [List.mem_append, List.mem_singleton] at hx
    rcases hx with hx | rfl
    · exact h.bod x hx
    · exact ⟨hs.kind, hs.op, hs.slot, hs.arr, hs.a, hs.b⟩
  · cases e
theorem bodyAt_ok (h : RWf r) (i : Nat) : StOk r.cells.length (bodyAt r.body i) := by
  unfold bodyAt
  rw [List.getD_eq_getElem?_getD]
  by_cases hi : i < r.body.length
  · rw [List.getElem?_eq_getElem hi]
    exact h.bod _ (List.getElem_mem hi)
  · rw [List.getElem?_eq_none (by omega)]
    exact stOk_nil _
theorem rwf_input {b : Bool} (h : RWf r) (e : takeInput r ws b = some r') : RWf r' := by
  unfold takeInput at e
  split at e
  · rename_i hc
    split at e
    · rename_i r2 hd
      cases e
      unfold declare at hd
      split at hd
      · rename_i hq
        cases hd
        have hb : r.body = [] := List.length_eq_zero_iff.1 hq.1
        refine ⟨by simp; omega, h.var, h.cel, h.cle, ?_, ?_, ?_⟩
        · intro i hi
          simp only [upd] at hi ⊢
          simp only [List.length_append, List.length_singleton]
          split
          · simp; omega
          · rename_i hne
            rw [if_neg hne] at hi
            have := h.l1 i hi
            omega
        · intro i hi
          simp only [upd] at hi ⊢
          split
          · rename_i he
            rw [if_pos he] at hi
            cases hi
          · rename_i hne
            rw [if_neg hne] at hi
            exact h.l2 i hi
        · intro s hs
          simp [hb] at hs
      · cases hd
    · cases e
  · cases e
theorem rwf_var (h : RWf r) (e : takeVar r ws = some r') : RWf r' := by
  unfold takeVar at e
  split at e
  · rename_i hc
    split at e
    · rename_i r2 hd
      cases e
      unfold declare at hd
      split at hd
      · rename_i hq
        cases hd
        have hb : r.body = [] := List.length_eq_zero_iff.1 hq.1
        refine ⟨h.sec, by simp; omega, h.cel, h.cle, ?_, ?_, ?_⟩
        · intro i hi
          simp only [upd] at hi ⊢
          split
          · simp
          · rename_i hne
            rw [if_neg hne] at hi
            have := h.l1 i hi
            omega
        · intro i hi
          simp only [upd] at hi ⊢
          split
          · rename_i he
            rw [if_pos he] at hi
            cases hi
          · rename_i hne
            rw [if_neg hne] at hi
            exact h.l2 i hi
        · intro s hs
          simp [hb] at hs
      · cases hd
    · cases e
  · cases e
theorem rwf_array (h : RWf r) (e : takeArray r ws = some r') : RWf r' := by
  unfold takeArray at e
  split at e
  · rename_i hc
    split at e
    · rename_i n hn
      split at e
      · rename_i hle
        split at e
        · rename_i r2 hd
          cases e
          unfold declare at hd
          split at hd
          · rename_i hq
            cases hd
            have hb : r.body = [] := List.length_eq_zero_iff.1 hq.1
            refine ⟨h.sec, h.var, by simp; omega, ?_, ?_, ?_, ?_⟩
            · intro j hj
              simp only [List.length_append, List.length_singleton] at hj
              simp only [List.getD_eq_getElem?_getD]
              by_cases hjl : j < r.cells.length
              · rw [List.getElem?_append_left hjl, ← List.getD_eq_getElem?_getD]
                exact h.cle j hjl
              · have : j = r.cells.length := by omega
                subst this
                simp; omega
            · intro i hi
              simp only [upd] at hi ⊢
              split
              · rename_i he
                rw [if_pos he] at hi
                cases hi
              · rename_i hne
                rw [if_neg hne] at hi
                exact h.l1 i hi
            · intro i hi
              simp only [upd] at hi ⊢
              simp only [List.length_append, List.length_singleton]
              split
              · simp
              · rename_i hne
                rw [if_neg hne] at hi
                have := h.l2 i hi
                omega
            · intro s hs
              simp [hb] at hs
          · cases hd
        · cases e
      · cases e
    · cases e
  · cases e
theorem rwf_load (h : RWf r) (e : takeLoad r ws = some r') : RWf r' := by
  unfold takeLoad at e
  split at e
  · rename_i hc
    split at e
    · rename_i x hx
      exact (rwf_add h ⟨(by simp), (by simp), find_slot h hc.2.1, fun _ => find_arr h hc.2.2, atom_ok h hx, atOk_nil⟩ e).1
    · cases e
  · cases e
theorem rwf_store (h : RWf r) (e : takeStore r ws = some r') : RWf r' := by
  unfold takeStore at e
  split at e
  · rename_i hc
    split at e
    · rename_i x y hx hy
      exact (rwf_add h ⟨(by simp), (by simp), (by simp), fun _ => find_arr h hc.2, atom_ok h hx, atom_ok h hy⟩ e).1
    · cases e
  · cases e
theorem rwf_out (h : RWf r) (e : takeOut r ws = some r') : RWf r' := by
  unfold takeOut at e
  split at e
  · split at e
    · rename_i x hx
      exact (rwf_add h ⟨(by simp), (by simp), (by simp), fun h => (by rcases h with h | h <;> cases h), atom_ok h hx, atOk_nil⟩ e).1
    · cases e
  · cases e
theorem rwf_assign (h : RWf r) (e : takeAssign r ws = some r') : RWf r' := by
  unfold takeAssign at e
  split at e
  · rename_i hc
    split at e
    · rename_i x hx
      split at e
      · exact (rwf_add h ⟨(by simp), (by simp), find_slot h hc.2.2, fun h => (by rcases h with h | h <;> cases h), atom_ok h hx, atOk_nil⟩ e).1
      · split at e
        · rename_i o y ho hy
          exact (rwf_add h ⟨(by simp), oper_le ho, find_slot h hc.2.2, fun h => (by rcases h with h | h <;> cases h), atom_ok h hx, atom_ok h hy⟩ e).1
        · cases e
    · cases e
  · cases e
theorem rwf_branch {k : Nat} (hk : k = 4 ∨ k = 5) (h : RWf r) (e : takeBranch r ws k = some r') : RWf r' := by
  unfold takeBranch at e
  split at e
  · split at e
    · rename_i x hx
      split at e
      · rename_i r2 h2
        cases e
        have q := (rwf_add h ⟨by show k ≤ 6; omega, (by simp), (by simp), fun h => by have h' : k = 1 ∨ k = 2 := h; omega, atom_ok h hx, atOk_nil⟩ h2).1
        exact ⟨q.sec, q.var, q.cel, q.cle, q.l1, q.l2, q.bod⟩
      · cases e
    · cases e
  · cases e
theorem rwf_else (h : RWf r) (e : takeElse r ws = some r') : RWf r' := by
  unfold takeElse at e
  split at e
  · cases e
    refine ⟨h.sec, h.var, h.cel, h.cle, h.l1, h.l2, ?_⟩
    intro x hx
    simp only [List.mem_append, List.mem_singleton] at hx
    rcases hx with hx | rfl
    · rcases List.mem_or_eq_of_mem_set hx with hx | rfl
      · exact h.bod x hx
      · have q := bodyAt_ok h (r.opn (r.depth - 1)).1
        exact ⟨q.kind, q.op, q.slot, q.arr, q.a, q.b⟩
    · exact stOk_mark _ _
  · cases e
theorem rwf_end (h : RWf r) (e : takeEnd r ws = some r') : RWf r' := by
  unfold takeEnd at e
  split at e
  · cases e
    refine ⟨h.sec, h.var, h.cel, h.cle, h.l1, h.l2, ?_⟩
    intro x hx
    simp only [List.mem_append, List.mem_singleton] at hx
    rcases hx with hx | rfl
    · split at hx
      · rcases List.mem_or_eq_of_mem_set hx with hx | rfl
        · exact h.bod x hx
        · have q := bodyAt_ok h (r.opn (r.depth - 1)).1
          exact ⟨q.kind, q.op, q.slot, q.arr, q.a, q.b⟩
      · rcases List.mem_or_eq_of_mem_set hx with hx | rfl
        · exact h.bod x hx
        · have q := bodyAt_ok h (r.opn (r.depth - 1)).2
          exact ⟨q.kind, q.op, q.slot, q.arr, q.a, q.b⟩
    · exact stOk_mark _ _
  · cases e
theorem ite_some {c : Prop} [Decidable c] {a b : Option RS} (e : (if c then a else b) = some r') : a = some r' ∨ b = some r' := by
  by_cases h : c
  · rw [if_pos h] at e; exact .inl e
  · rw [if_neg h] at e; exact .inr e
theorem rwf_take (h : RWf r) (e : take r ws = some r') : RWf r' := by
  unfold take at e
  rcases ite_some e with e | e
  · cases e
  rcases ite_some e with e | e
  · exact rwf_input h e
  rcases ite_some e with e | e
  · exact rwf_input h e
  rcases ite_some e with e | e
  · exact rwf_var h e
  rcases ite_some e with e | e
  · exact rwf_array h e
  rcases ite_some e with e | e
  · exact rwf_load h e
  rcases ite_some e with e | e
  · exact rwf_store h e
  rcases ite_some e with e | e
  · exact rwf_out h e
  rcases ite_some e with e | e
  · exact rwf_branch (.inl rfl) h e
  rcases ite_some e with e | e
  · exact rwf_branch (.inr rfl) h e
  rcases ite_some e with e | e
  · exact rwf_else h e
  rcases ite_some e with e | e
  · exact rwf_end h e
  · exact rwf_assign h e
theorem rwf_lines (h : RWf r) (n : Nat) (ls : List Wd) : RWf (lines r n ls).1 := by
  induction ls generalizing r n with
  | nil => exact h
  | cons l ls ih =>
    cases ls with
    | nil =>
      unfold lines
      split
      · exact h
      · exact h
    | cons m ls =>
      unfold lines
      split
      · rename_i r2 e
        exact ih (rwf_take h e) _
      · exact h
theorem rwf_read (s : Wd) : RWf (read s).1 := by
  unfold read
  split
  · exact rwf_nil
  · exact rwf_lines rwf_nil _ _
theorem link_ok (h : RWf r) {s : St} (hs : s ∈ link r.body) : StOk r.cells.length s ∧ s.kind ≤ 5 := by
  unfold link at hs
  simp only [List.mem_map, List.mem_filter] at hs
  obtain ⟨x, ⟨hx, hk⟩, rfl⟩ := hs
  have hk6 : x.kind ≠ 6 := by simpa using hk
  have q := h.bod x hx
  have hk5 : x.kind ≤ 5 := by have := q.kind; omega
  unfold linkOne
  split
  · exact ⟨⟨q.kind, q.op, q.slot, q.arr, q.a, q.b⟩, hk5⟩
  · exact ⟨⟨q.kind, q.op, q.slot, q.arr, q.a, q.b⟩, hk5⟩
end Go.Proofs.YtgddmpmcnjlcjabGreatDoor.Lk
namespace Go.Proofs.YtgddmpmcnjlcjabGreatDoor
open Go.RowKit
set_option linter.unusedVariables false
namespace Mc
structure MOk (m : M) : Prop where
  s : ∀ i, m.slots i < 16
  c : ∀ i, m.cel i < 16
def act (cs : List Nat) (s : Lk.St) (m : M) : Nat × M :=
  if s.kind = 3 then (48 + value { m with at_ := s.next } s.a, { m with at_ := s.next })
  else if s.kind = 4 ∨ s.kind = 5 then (if value { m with at_ := s.next } s.a = 0 then (16, { m with at_ := s.els }) else (17, { m with at_ := s.next }))
  else if s.kind = 1 ∨ s.kind = 2 then (32 + value { m with at_ := s.next } s.a, access { m with at_ := s.next } cs s (value { m with at_ := s.next } s.a) (value { m with at_ := s.next } s.b))
  else (0, put { m with at_ := s.next } s.slot (apply s.op (value { m with at_ := s.next } s.a) (value { m with at_ := s.next } s.b)))
variable {m : M} {cs : List Nat} {code : List Lk.St} {s : Lk.St}
theorem step_act (ht : m.trap = false) (hn : m.at_ < code.length) : step cs code m = act cs (code.getD m.at_ {}) m := by
  unfold step
  rw [if_neg (by rw [ht]; simp), if_pos hn]
  rfl
theorem step_trapped (ht : m.trap = true) : step cs code m = (80, m) := by
  unfold step
  rw [if_pos ht]
theorem step_halted (ht : m.trap = false) (hn : ¬ m.at_ < code.length) : step cs code m = (64, m) := by
  unfold step
  rw [if_neg (by rw [ht]; simp), if_neg hn]
theorem value_lt (h : MOk m) {x : Lk.At} (hx : Lk.AtOk x) (n : Nat) : value { m with at_ := n } x < 16 := by
  unfold value
  by_cases hb : x.named = true
  · rw [if_pos hb]; exact h.s _
  · rw [if_neg hb]; exact hx.2 (by simpa using hb)
theorem MOk.put (h : MOk m) {i v : Nat} (hv : v < 16) : MOk (Mc.put m i v) :=
  ⟨fun j => by
    show Lk.upd m.slots i v j < 16
    unfold Lk.upd
    split
    · exact hv
    · exact h.s j, h.c⟩
theorem MOk.next (h : MOk m) (n : Nat) : MOk { m with at_ := n } := ⟨h.s, h.c⟩
theorem MOk.access (h : MOk m) {i v : Nat} (hv : v < 16) : MOk (Mc.access m cs s i v) := by
  unfold Mc.access
  split
  · split
    · exact ⟨h.s, fun j => by
        show Lk.upd m.cel _ v j < 16
        unfold Lk.upd
        split
        · exact hv
        · exact h.c j⟩
    · exact h.put (h.c _)
  · exact ⟨h.s, h.c⟩
theorem act_ok {na : Nat} (h : MOk m) (hs : Lk.StOk na s) : MOk (act cs s m).2 := by
  unfold act
  split
  · exact h.next _
  · split
    · split
      · exact h.next _
      · exact h.next _
    · split
      · exact (h.next _).access (value_lt h hs.b _)
      · exact (h.next _).put (apply_lt _ _ _ hs.op (value_lt h hs.a _) (value_lt h hs.b _))
end Mc
structure Pg where
  sec : List Bool := []
  cells : List Nat := []
  code : List Lk.St := []
structure PgOk (p : Pg) : Prop where
  sec : p.sec.length ≤ 3
  cel : p.cells.length ≤ 2
  cle : ∀ j, j < p.cells.length → p.cells.getD j 0 ≤ 4
  cod : ∀ s, s ∈ p.code → Lk.StOk p.cells.length s ∧ s.kind ≤ 5
structure PgAt (w : World) (p : Pg) (vs vc vk : Value) : Prop where
  s : w.ownsRow 0 4 1 vs p.sec.length (p.sec.map Value.bool)
  c : w.ownsRow 0 3 1 vc p.cells.length (p.cells.map fun (n : Nat) => .int .i64 n)
  k : w.ownsRow 0 153 10 vk p.code.length (flat p.code)
theorem PgAt.same {w w' : World} {p : Pg} {vs vc vk : Value} (h : PgAt w p vs vc vk) (hb : Below w.heap.size w w') : PgAt w' p vs vc vk :=
  ⟨ownsRow_same h.s hb.block, ownsRow_same h.c hb.block, ownsRow_same h.k hb.block⟩
namespace Mc
theorem code_ok {p : Pg} (ok : PgOk p) {i : Nat} (h : i < p.code.length) : Lk.StOk p.cells.length (p.code.getD i {}) ∧ (p.code.getD i {}).kind ≤ 5 := by
  have e : p.code.getD i {} = p.code[i] := by rw [List.getD_eq_getElem?_getD, List.getElem?_eq_getElem h]; rfl
  rw [e]
  exact ok.cod _ (List.getElem_mem h)
theorem step_ok {p : Pg} (ok : PgOk p) {m : M} (h : MOk m) : MOk (step p.cells p.code m).2 := by
  cases ht : m.trap with
  | true => rw [step_trapped ht]; exact h
  | false =>
    by_cases hn : m.at_ < p.code.length
    · rw [step_act ht hn]; exact act_ok h (code_ok ok hn).1
    · rw [step_halted ht hn]; exact h
end Mc
section
variable (p : Pg) (ok : PgOk p) (m : Mc.M) (mo : Mc.MOk m) (b : Nat) (w : World) (vs vc vk : Value) (nv : Int) (hp : PgAt w p vs vc vk) (hr : w.rowIs b 169 17 (mcell m)) (hgb : ∀ g, vc.ownBlock = some g → g ≠ b)
include ok mo hp hr hgb
theorem step_any : Calls Tryz.prog 84 #[.pointer (some ⟨b, 0, none⟩), .agg #[vs, .int .i64 nv, vc, vk]] w fun e w' => SPost w w' b e (Mc.step p.cells p.code m).1 (Mc.step p.cells p.code m).2 := by
  cases ht : m.trap with
  | true =>
    rw [Mc.step_trapped ht]
    refine (step_trap m b w vs vc nv vk hr ht).mono ?_
    rintro e w' ⟨rfl, hb⟩
    exact ⟨rfl, hr.of_block (hb.block b hr.lt), Frm.ofBelow hb (Nat.zero_le _)⟩
  | false =>
    by_cases hn : m.at_ < p.code.length
    · obtain ⟨so, sk⟩ := Mc.code_ok ok hn
      rw [Mc.step_act ht hn]
      obtain ⟨gk, ck, hv, _, _⟩ := hp.k.form (by omega)
      subst hv
      have hcell : ∀ k, k < 10 → w.cell? ⟨gk, m.at_ * 10 + k, none⟩ = (stCells (p.code.getD m.at_ {}))[k]? := fun k hk => (hp.k.cellAt (m.at_ * 10 + k) (by omega)).trans (flat_get p.code m.at_ k hn hk)
      revert so sk hcell
      generalize p.code.getD m.at_ {} = s
      intro so sk hcell
      have va := Mc.value_lt mo so.a s.next
      have vb := Mc.value_lt mo so.b s.next
      have hk : s.kind = 0 ∨ s.kind = 1 ∨ s.kind = 2 ∨ s.kind = 3 ∨ s.kind = 4 ∨ s.kind = 5 := by omega
      rcases hk with hk | hk | hk | hk | hk | hk
      · have e : Mc.act p.cells s m = (0, Mc.put { m with at_ := s.next } s.slot (Mc.apply s.op (Mc.value { m with at_ := s.next } s.a) (Mc.value { m with at_ := s.next } s.b))) := by
          unfold Mc.act
          rw [if_neg (by omega), if_neg (by omega), if_neg (by omega)]
        rw [e]
        exact step_assign m b w vs vc nv gk ck p.code s hr ht hn hcell so.a.1 so.b.1 hk ⟨so.op, va, vb, so.slot⟩
      · have e : Mc.act p.cells s m = (32 + Mc.value { m with at_ := s.next } s.a, Mc.access { m with at_ := s.next } p.cells s (Mc.value { m with at_ := s.next } s.a) (Mc.value { m with at_ := s.next } s.b)) := by
          unfold Mc.act
          rw [if_neg (by omega), if_neg (by omega), if_pos (by omega)]
        rw [e]
        have ha := so.arr (.inl hk)
        obtain ⟨g, cp, hv, _, _⟩ := hp.c.form (by omega)
        exact step_load m b w vs vc nv gk ck p.code s hr ht hn hcell so.a.1 so.b.1 g cp p.cells hv (fun j hj => by subst hv; rw [hp.c.cellAt j (by omega)]; simp [hj]) ok.cel ok.cle ha (hgb g (by rw [hv]; rfl)) so.slot hk va
      · have e : Mc.act p.cells s m = (32 + Mc.value { m with at_ := s.next } s.a, Mc.access { m with at_ := s.next } p.cells s (Mc.value { m with at_ := s.next } s.a) (Mc.value { m with at_ := s.next } s.b)) := by
          unfold Mc.act
          rw [if_neg (by omega), if_neg (by omega), if_pos (by omega)]
        rw [e]
        have ha := so.arr (.inr hk)
        obtain ⟨g, cp, hv, _, _⟩ := hp.c.form (by omega)
        exact step_store m b w vs vc nv gk ck p.code s hr ht hn hcell so.a.1 so.b.1 g cp p.cells hv (fun j hj => by subst hv; rw [hp.c.cellAt j (by omega)]; simp [hj]) ok.cel ok.cle ha (hgb g (by rw [hv]; rfl)) so.slot hk va
      · have e : Mc.act p.cells s m = (48 + Mc.value { m with at_ := s.next } s.a, { m with at_ := s.next }) := by
          unfold Mc.act
          rw [if_pos hk]
        rw [e]
        exact step_out m b w vs vc nv gk ck p.code s hr ht hn hcell so.a.1 so.b.1 hk va
      · by_cases h0 : Mc.value { m with at_ := s.next } s.a = 0
        · have e : Mc.act p.cells s m = (16, { m with at_ := s.els }) := by
            unfold Mc.act
            rw [if_neg (by omega), if_pos (by omega), if_pos h0]
          rw [e]
          exact step_if0 m b w vs vc nv gk ck p.code s hr ht hn hcell so.a.1 so.b.1 hk h0
        · have e : Mc.act p.cells s m = (17, { m with at_ := s.next }) := by
            unfold Mc.act
            rw [if_neg (by omega), if_pos (by omega), if_neg h0]
          rw [e]
          exact step_if1 m b w vs vc nv gk ck p.code s hr ht hn hcell so.a.1 so.b.1 hk h0
      · by_cases h0 : Mc.value { m with at_ := s.next } s.a = 0
        · have e : Mc.act p.cells s m = (16, { m with at_ := s.els }) := by
            unfold Mc.act
            rw [if_neg (by omega), if_pos (by omega), if_pos h0]
          rw [e]
          exact step_while0 m b w vs vc nv gk ck p.code s hr ht hn hcell so.a.1 so.b.1 hk h0
        · have e : Mc.act p.cells s m = (17, { m with at_ := s.next }) := by
            unfold Mc.act
            rw [if_neg (by omega), if_pos (by omega), if_neg h0]
          rw [e]
          exact step_while1 m b w vs vc nv gk ck p.code s hr ht hn hcell so.a.1 so.b.1 hk h0
    · rw [Mc.step_halted ht hn]
      obtain ⟨ak, ck, hv⟩ := body_val hp.k
      subst hv
      refine (step_halt m b w vs vc nv ak p.code.length ck hr ht (by omega)).mono ?_
      rintro e w' ⟨rfl, hb⟩
      exact ⟨rfl, hr.of_block (hb.block b hr.lt), Frm.ofBelow hb (Nat.zero_le _)⟩
end
end Go.Proofs.YtgddmpmcnjlcjabGreatDoor
