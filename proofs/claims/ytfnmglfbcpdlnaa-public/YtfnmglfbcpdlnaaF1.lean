import Derived.Test.YtfnmglfbcpdlnaaE7
import Derived.Test.YtfnmglfbcpdlnaaF0
/- One step of the machine, whatever the statement. -/
namespace Go.Proofs.Ytfnmglfbcpdlnaa
open Go.RowKit
set_option linter.unusedVariables false

namespace Mc
structure MOk (m : M) : Prop where
  s : ∀ i, m.slots i < 16
  c : ∀ i, m.cel i < 16

/-- What a statement does, at a state that is not trapped. -/
def act (cs : List Nat) (s : Lk.St) (m : M) : Nat × M :=
  if s.kind = 3 then (48 + value { m with at_ := s.next } s.a, { m with at_ := s.next })
  else if s.kind = 4 ∨ s.kind = 5 then (if value { m with at_ := s.next } s.a = 0 then (16, { m with at_ := s.els }) else (17, { m with at_ := s.next }))
  else if s.kind = 1 ∨ s.kind = 2 then (32 + value { m with at_ := s.next } s.a, access { m with at_ := s.next } cs s (value { m with at_ := s.next } s.a) (value { m with at_ := s.next } s.b))
  else (0, put { m with at_ := s.next } s.slot (apply s.op (value { m with at_ := s.next } s.a) (value { m with at_ := s.next } s.b)))

variable {m : M} {cs : List Nat} {code : List Lk.St} {s : Lk.St}
theorem step_act (ht : m.trap = false) (hn : m.at_ < code.length) : step cs code m = act cs (code.getD m.at_ {}) m := by
  unfold step
  rw [if_neg (by rw [ht]; simp), if_pos hn]
  rfl
theorem step_trapped (ht : m.trap = true) : step cs code m = (80, m) := by
  unfold step
  rw [if_pos ht]
theorem step_halted (ht : m.trap = false) (hn : ¬ m.at_ < code.length) : step cs code m = (64, m) := by
  unfold step
  rw [if_neg (by rw [ht]; simp), if_neg hn]

theorem value_lt (h : MOk m) {x : Lk.At} (hx : Lk.AtOk x) (n : Nat) : value { m with at_ := n } x < 16 := by
  unfold value
  by_cases hb : x.named = true
  · rw [if_pos hb]; exact h.s _
  · rw [if_neg hb]; exact hx.2 (by simpa using hb)
theorem MOk.put (h : MOk m) {i v : Nat} (hv : v < 16) : MOk (Mc.put m i v) :=
  ⟨fun j => by
    show Lk.upd m.slots i v j < 16
    unfold Lk.upd
    split
    · exact hv
    · exact h.s j, h.c⟩
theorem MOk.next (h : MOk m) (n : Nat) : MOk { m with at_ := n } := ⟨h.s, h.c⟩
theorem MOk.access (h : MOk m) {i v : Nat} (hv : v < 16) : MOk (Mc.access m cs s i v) := by
  unfold Mc.access
  split
  · split
    · exact ⟨h.s, fun j => by
        show Lk.upd m.cel _ v j < 16
        unfold Lk.upd
        split
        · exact hv
        · exact h.c j⟩
    · exact h.put (h.c _)
  · exact ⟨h.s, h.c⟩
theorem act_ok {na : Nat} (h : MOk m) (hs : Lk.StOk na s) : MOk (act cs s m).2 := by
  unfold act
  split
  · exact h.next _
  · split
    · split
      · exact h.next _
      · exact h.next _
    · split
      · exact (h.next _).access (value_lt h hs.b _)
      · exact (h.next _).put (apply_lt _ _ _ hs.op (value_lt h hs.a _) (value_lt h hs.b _))
end Mc

/-- A program's parts. -/
structure Pg where
  sec : List Bool := []
  cells : List Nat := []
  code : List Lk.St := []

structure PgOk (p : Pg) : Prop where
  sec : p.sec.length ≤ 3
  cel : p.cells.length ≤ 2
  cle : ∀ j, j < p.cells.length → p.cells.getD j 0 ≤ 4
  cod : ∀ s, s ∈ p.code → Lk.StOk p.cells.length s ∧ s.kind ≤ 5

/-- Where it lies. -/
structure PgAt (w : World) (p : Pg) (vs vc vk : Value) : Prop where
  s : w.ownsRow 0 4 1 vs p.sec.length (p.sec.map Value.bool)
  c : w.ownsRow 0 3 1 vc p.cells.length (p.cells.map fun (n : Nat) => .int .i64 n)
  k : w.ownsRow 0 127 10 vk p.code.length (flat p.code)

theorem PgAt.same {w w' : World} {p : Pg} {vs vc vk : Value} (h : PgAt w p vs vc vk) (hb : Below w.heap.size w w') : PgAt w' p vs vc vk :=
  ⟨ownsRow_same h.s hb.block, ownsRow_same h.c hb.block, ownsRow_same h.k hb.block⟩

namespace Mc
theorem code_ok {p : Pg} (ok : PgOk p) {i : Nat} (h : i < p.code.length) : Lk.StOk p.cells.length (p.code.getD i {}) ∧ (p.code.getD i {}).kind ≤ 5 := by
  have e : p.code.getD i {} = p.code[i] := by rw [List.getD_eq_getElem?_getD, List.getElem?_eq_getElem h]; rfl
  rw [e]
  exact ok.cod _ (List.getElem_mem h)
theorem step_ok {p : Pg} (ok : PgOk p) {m : M} (h : MOk m) : MOk (step p.cells p.code m).2 := by
  cases ht : m.trap with
  | true => rw [step_trapped ht]; exact h
  | false =>
    by_cases hn : m.at_ < p.code.length
    · rw [step_act ht hn]; exact act_ok h (code_ok ok hn).1
    · rw [step_halted ht hn]; exact h
end Mc

section
variable (p : Pg) (ok : PgOk p) (m : Mc.M) (mo : Mc.MOk m) (b : Nat) (w : World) (vs vc vk : Value) (nv : Int) (hp : PgAt w p vs vc vk) (hr : w.rowIs b 112 17 (mcell m)) (hgb : ∀ g, vc.ownBlock = some g → g ≠ b)
include ok mo hp hr hgb

theorem step_any : Calls Try.prog 64 #[.pointer (some ⟨b, 0, none⟩), .agg #[vs, .int .i64 nv, vc, vk]] w fun e w' => SPost w w' b e (Mc.step p.cells p.code m).1 (Mc.step p.cells p.code m).2 := by
  cases ht : m.trap with
  | true =>
    rw [Mc.step_trapped ht]
    refine (step_trap m b w vs vc nv vk hr ht).mono ?_
    rintro e w' ⟨rfl, hb⟩
    exact ⟨rfl, hr.of_block (hb.block b hr.lt), Frm.ofBelow hb (Nat.zero_le _)⟩
  | false =>
    by_cases hn : m.at_ < p.code.length
    · obtain ⟨so, sk⟩ := Mc.code_ok ok hn
      rw [Mc.step_act ht hn]
      obtain ⟨gk, ck, hv, _, _⟩ := hp.k.form (by omega)
      subst hv
      have hcell : ∀ k, k < 10 → w.cell? ⟨gk, m.at_ * 10 + k, none⟩ = (stCells (p.code.getD m.at_ {}))[k]? := fun k hk => (hp.k.cellAt (m.at_ * 10 + k) (by omega)).trans (flat_get p.code m.at_ k hn hk)
      revert so sk hcell
      generalize p.code.getD m.at_ {} = s
      intro so sk hcell
      have va := Mc.value_lt mo so.a s.next
      have vb := Mc.value_lt mo so.b s.next
      have hk : s.kind = 0 ∨ s.kind = 1 ∨ s.kind = 2 ∨ s.kind = 3 ∨ s.kind = 4 ∨ s.kind = 5 := by omega
      rcases hk with hk | hk | hk | hk | hk | hk
      · have e : Mc.act p.cells s m = (0, Mc.put { m with at_ := s.next } s.slot (Mc.apply s.op (Mc.value { m with at_ := s.next } s.a) (Mc.value { m with at_ := s.next } s.b))) := by
          unfold Mc.act
          rw [if_neg (by omega), if_neg (by omega), if_neg (by omega)]
        rw [e]
        exact step_assign m b w vs vc nv gk ck p.code s hr ht hn hcell so.a.1 so.b.1 hk ⟨so.op, va, vb, so.slot⟩
      · have e : Mc.act p.cells s m = (32 + Mc.value { m with at_ := s.next } s.a, Mc.access { m with at_ := s.next } p.cells s (Mc.value { m with at_ := s.next } s.a) (Mc.value { m with at_ := s.next } s.b)) := by
          unfold Mc.act
          rw [if_neg (by omega), if_neg (by omega), if_pos (by omega)]
        rw [e]
        have ha := so.arr (.inl hk)
        obtain ⟨g, cp, hv, _, _⟩ := hp.c.form (by omega)
        exact step_load m b w vs vc nv gk ck p.code s hr ht hn hcell so.a.1 so.b.1 g cp p.cells hv (fun j hj => by subst hv; rw [hp.c.cellAt j (by omega)]; simp [hj]) ok.cel ok.cle ha (hgb g (by rw [hv]; rfl)) so.slot hk va
      · have e : Mc.act p.cells s m = (32 + Mc.value { m with at_ := s.next } s.a, Mc.access { m with at_ := s.next } p.cells s (Mc.value { m with at_ := s.next } s.a) (Mc.value { m with at_ := s.next } s.b)) := by
          unfold Mc.act
          rw [if_neg (by omega), if_neg (by omega), if_pos (by omega)]
        rw [e]
        have ha := so.arr (.inr hk)
        obtain ⟨g, cp, hv, _, _⟩ := hp.c.form (by omega)
        exact step_store m b w vs vc nv gk ck p.code s hr ht hn hcell so.a.1 so.b.1 g cp p.cells hv (fun j hj => by subst hv; rw [hp.c.cellAt j (by omega)]; simp [hj]) ok.cel ok.cle ha (hgb g (by rw [hv]; rfl)) so.slot hk va
      · have e : Mc.act p.cells s m = (48 + Mc.value { m with at_ := s.next } s.a, { m with at_ := s.next }) := by
          unfold Mc.act
          rw [if_pos hk]
        rw [e]
        exact step_out m b w vs vc nv gk ck p.code s hr ht hn hcell so.a.1 so.b.1 hk va
      · by_cases h0 : Mc.value { m with at_ := s.next } s.a = 0
        · have e : Mc.act p.cells s m = (16, { m with at_ := s.els }) := by
            unfold Mc.act
            rw [if_neg (by omega), if_pos (by omega), if_pos h0]
          rw [e]
          exact step_if0 m b w vs vc nv gk ck p.code s hr ht hn hcell so.a.1 so.b.1 hk h0
        · have e : Mc.act p.cells s m = (17, { m with at_ := s.next }) := by
            unfold Mc.act
            rw [if_neg (by omega), if_pos (by omega), if_neg h0]
          rw [e]
          exact step_if1 m b w vs vc nv gk ck p.code s hr ht hn hcell so.a.1 so.b.1 hk h0
      · by_cases h0 : Mc.value { m with at_ := s.next } s.a = 0
        · have e : Mc.act p.cells s m = (16, { m with at_ := s.els }) := by
            unfold Mc.act
            rw [if_neg (by omega), if_pos (by omega), if_pos h0]
          rw [e]
          exact step_while0 m b w vs vc nv gk ck p.code s hr ht hn hcell so.a.1 so.b.1 hk h0
        · have e : Mc.act p.cells s m = (17, { m with at_ := s.next }) := by
            unfold Mc.act
            rw [if_neg (by omega), if_pos (by omega), if_neg h0]
          rw [e]
          exact step_while1 m b w vs vc nv gk ck p.code s hr ht hn hcell so.a.1 so.b.1 hk h0
    · rw [Mc.step_halted ht hn]
      obtain ⟨ak, ck, hv⟩ := body_val hp.k
      subst hv
      refine (step_halt m b w vs vc nv ak p.code.length ck hr ht (by omega)).mono ?_
      rintro e w' ⟨rfl, hb⟩
      exact ⟨rfl, hr.of_block (hb.block b hr.lt), Frm.ofBelow hb (Nat.zero_le _)⟩
end

end Go.Proofs.Ytfnmglfbcpdlnaa
