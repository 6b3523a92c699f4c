import Derived.Test.YtgddmpmcnjlcjaaK11
import Derived.Test.YtgddmpmcnjlcjaaK05
import Derived.Test.YtgddmpmcnjlcjaaK09
import Derived.Deep.RegionLaw
import Derived.Deep.DeepCutAuto
/- One step of the machine, whatever the statement. -/
namespace Go.Proofs.Ytgddmpmcnjlcjaa
open Go.RowKit
set_option linter.unusedVariables false

namespace Mc
structure MOk (m : M) : Prop where
  s : ∀ i, m.slots i < 16
  c : ∀ i, m.cel i < 16

/-- What a statement does, at a state that is not trapped. -/
def act (cs : List Nat) (s : Lk.St) (m : M) : Nat × M :=
  if s.kind = 3 then (48 + value { m with at_ := s.next } s.a, { m with at_ := s.next })
  else if s.kind = 4 ∨ s.kind = 5 then (if value { m with at_ := s.next } s.a = 0 then (16, { m with at_ := s.els }) else (17, { m with at_ := s.next }))
  else if s.kind = 1 ∨ s.kind = 2 then (32 + value { m with at_ := s.next } s.a, access { m with at_ := s.next } cs s (value { m with at_ := s.next } s.a) (value { m with at_ := s.next } s.b))
  else (0, put { m with at_ := s.next } s.slot (apply s.op (value { m with at_ := s.next } s.a) (value { m with at_ := s.next } s.b)))

variable {m : M} {cs : List Nat} {code : List Lk.St} {s : Lk.St}
theorem step_act (ht : m.trap = false) (hn : m.at_ < code.length) : step cs code m = act cs (code.getD m.at_ {}) m := by
  unfold step
  rw [if_neg (by rw [ht]; simp), if_pos hn]
  rfl
theorem step_trapped (ht : m.trap = true) : step cs code m = (80, m) := by
  unfold step
  rw [if_pos ht]
theorem step_halted (ht : m.trap = false) (hn : ¬ m.at_ < code.length) : step cs code m = (64, m) := by
  unfold step
  rw [if_neg (by rw [ht]; simp), if_neg hn]

theorem value_lt (h : MOk m) {x : Lk.At} (hx : Lk.AtOk x) (n : Nat) : value { m with at_ := n } x < 16 := by
  unfold value
  by_cases hb : x.named = true
  · rw [if_pos hb]; exact h.s _
  · rw [if_neg hb]; exact hx.2 (by simpa using hb)
theorem MOk.put (h : MOk m) {i v : Nat} (hv : v < 16) : MOk (Mc.put m i v) :=
  ⟨fun j => by
    show Lk.upd m.slots i v j < 16
    unfold Lk.upd
    split
    · exact hv
    · exact h.s j, h.c⟩
theorem MOk.next (h : MOk m) (n : Nat) : MOk { m with at_ := n } := ⟨h.s, h.c⟩
theorem MOk.access (h : MOk m) {i v : Nat} (hv : v < 16) : MOk (Mc.access m cs s i v) := by
  unfold Mc.access
  split
  · split
    · exact ⟨h.s, fun j => by
        show Lk.upd m.cel _ v j < 16
        unfold Lk.upd
        split
        · exact hv
        · exact h.c j⟩
    · exact h.put (h.c _)
  · exact ⟨h.s, h.c⟩
theorem act_ok {na : Nat} (h : MOk m) (hs : Lk.StOk na s) : MOk (act cs s m).2 := by
  unfold act
  split
  · exact h.next _
  · split
    · split
      · exact h.next _
      · exact h.next _
    · split
      · exact (h.next _).access (value_lt h hs.b _)
      · exact (h.next _).put (apply_lt _ _ _ hs.op (value_lt h hs.a _) (value_lt h hs.b _))
end Mc

/-- A program's parts. -/
structure Pg where
  sec : List Bool := []
  cells : List Nat := []
  code : List Lk.St := []

structure PgOk (p : Pg) : Prop where
  sec : p.sec.length ≤ 3
  cel : p.cells.length ≤ 2
  cle : ∀ j, j < p.cells.length → p.cells.getD j 0 ≤ 4
  cod : ∀ s, s ∈ p.code → Lk.StOk p.cells.length s ∧ s.kind ≤ 5

/-- Where it lies. -/
structure PgAt (w : World) (p : Pg) (vs vc vk : Value) : Prop where
  s : w.ownsRow 0 4 1 vs p.sec.length (p.sec.map Value.bool)
  c : w.ownsRow 0 3 1 vc p.cells.length (p.cells.map fun (n : Nat) => .int .i64 n)
  k : w.ownsRow 0 98 10 vk p.code.length (flat p.code)

theorem PgAt.same {w w' : World} {p : Pg} {vs vc vk : Value} (h : PgAt w p vs vc vk) (hb : Below w.heap.size w w') : PgAt w' p vs vc vk :=
  ⟨ownsRow_same h.s hb.block, ownsRow_same h.c hb.block, ownsRow_same h.k hb.block⟩

namespace Mc
theorem code_ok {p : Pg} (ok : PgOk p) {i : Nat} (h : i < p.code.length) : Lk.StOk p.cells.length (p.code.getD i {}) ∧ (p.code.getD i {}).kind ≤ 5 := by
  have e : p.code.getD i {} = p.code[i] := by rw [List.getD_eq_getElem?_getD, List.getElem?_eq_getElem h]; rfl
  rw [e]
  exact ok.cod _ (List.getElem_mem h)
theorem step_ok {p : Pg} (ok : PgOk p) {m : M} (h : MOk m) : MOk (step p.cells p.code m).2 := by
  cases ht : m.trap with
  | true => rw [step_trapped ht]; exact h
  | false =>
    by_cases hn : m.at_ < p.code.length
    · rw [step_act ht hn]; exact act_ok h (code_ok ok hn).1
    · rw [step_halted ht hn]; exact h
end Mc

section
variable (p : Pg) (ok : PgOk p) (m : Mc.M) (mo : Mc.MOk m) (b : Nat) (w : World) (vs vc vk : Value) (nv : Int) (hp : PgAt w p vs vc vk) (hr : w.rowIs b 77 17 (mcell m)) (hgb : ∀ g, vc.ownBlock = some g → g ≠ b)
include ok mo hp hr hgb

theorem step_any : Calls Try.prog 23 #[.pointer (some ⟨b, 0, none⟩), .agg #[vs, .int .i64 nv, vc, vk]] w fun e w' => SPost w w' b e (Mc.step p.cells p.code m).1 (Mc.step p.cells p.code m).2 := by
  cases ht : m.trap with
  | true =>
    rw [Mc.step_trapped ht]
    refine (step_trap m b w vs vc nv vk hr ht).mono ?_
    rintro e w' ⟨rfl, hb⟩
    exact ⟨rfl, hr.of_block (hb.block b hr.lt), Frm.ofBelow hb (Nat.zero_le _)⟩
  | false =>
    by_cases hn : m.at_ < p.code.length
    · obtain ⟨so, sk⟩ := Mc.code_ok ok hn
      rw [Mc.step_act ht hn]
      obtain ⟨gk, ck, hv, _, _⟩ := hp.k.form (by omega)
      subst hv
      have hcell : ∀ k, k < 10 → w.cell? ⟨gk, m.at_ * 10 + k, none⟩ = (stCells (p.code.getD m.at_ {}))[k]? := fun k hk => (hp.k.cellAt (m.at_ * 10 + k) (by omega)).trans (flat_get p.code m.at_ k hn hk)
      revert so sk hcell
      generalize p.code.getD m.at_ {} = s
      intro so sk hcell
      have va := Mc.value_lt mo so.a s.next
      have vb := Mc.value_lt mo so.b s.next
      have hk : s.kind = 0 ∨ s.kind = 1 ∨ s.kind = 2 ∨ s.kind = 3 ∨ s.kind = 4 ∨ s.kind = 5 := by omega
      rcases hk with hk | hk | hk | hk | hk | hk
      · have e : Mc.act p.cells s m = (0, Mc.put { m with at_ := s.next } s.slot (Mc.apply s.op (Mc.value { m with at_ := s.next } s.a) (Mc.value { m with at_ := s.next } s.b))) := by
          unfold Mc.act
          rw [if_neg (by omega), if_neg (by omega), if_neg (by omega)]
        rw [e]
        exact step_assign m b w vs vc nv gk ck p.code s hr ht hn hcell so.a.1 so.b.1 hk ⟨so.op, va, vb, so.slot⟩
      · have e : Mc.act p.cells s m = (32 + Mc.value { m with at_ := s.next } s.a, Mc.access { m with at_ := s.next } p.cells s (Mc.value { m with at_ := s.next } s.a) (Mc.value { m with at_ := s.next } s.b)) := by
          unfold Mc.act
          rw [if_neg (by omega), if_neg (by omega), if_pos (by omega)]
        rw [e]
        have ha := so.arr (.inl hk)
        obtain ⟨g, cp, hv, _, _⟩ := hp.c.form (by omega)
        exact step_load m b w vs vc nv gk ck p.code s hr ht hn hcell so.a.1 so.b.1 g cp p.cells hv (fun j hj => by subst hv; rw [hp.c.cellAt j (by omega)]; simp [hj]) ok.cel ok.cle ha (hgb g (by rw [hv]; rfl)) so.slot hk va
      · have e : Mc.act p.cells s m = (32 + Mc.value { m with at_ := s.next } s.a, Mc.access { m with at_ := s.next } p.cells s (Mc.value { m with at_ := s.next } s.a) (Mc.value { m with at_ := s.next } s.b)) := by
          unfold Mc.act
          rw [if_neg (by omega), if_neg (by omega), if_pos (by omega)]
        rw [e]
        have ha := so.arr (.inr hk)
        obtain ⟨g, cp, hv, _, _⟩ := hp.c.form (by omega)
        exact step_store m b w vs vc nv gk ck p.code s hr ht hn hcell so.a.1 so.b.1 g cp p.cells hv (fun j hj => by subst hv; rw [hp.c.cellAt j (by omega)]; simp [hj]) ok.cel ok.cle ha (hgb g (by rw [hv]; rfl)) so.slot hk va
      · have e : Mc.act p.cells s m = (48 + Mc.value { m with at_ := s.next } s.a, { m with at_ := s.next }) := by
          unfold Mc.act
          rw [if_pos hk]
        rw [e]
        exact step_out m b w vs vc nv gk ck p.code s hr ht hn hcell so.a.1 so.b.1 hk va
      · by_cases h0 : Mc.value { m with at_ := s.next } s.a = 0
        · have e : Mc.act p.cells s m = (16, { m with at_ := s.els }) := by
            unfold Mc.act
            rw [if_neg (by omega), if_pos (by omega), if_pos h0]
          rw [e]
          exact step_if0 m b w vs vc nv gk ck p.code s hr ht hn hcell so.a.1 so.b.1 hk h0
        · have e : Mc.act p.cells s m = (17, { m with at_ := s.next }) := by
            unfold Mc.act
            rw [if_neg (by omega), if_pos (by omega), if_neg h0]
          rw [e]
          exact step_if1 m b w vs vc nv gk ck p.code s hr ht hn hcell so.a.1 so.b.1 hk h0
      · by_cases h0 : Mc.value { m with at_ := s.next } s.a = 0
        · have e : Mc.act p.cells s m = (16, { m with at_ := s.els }) := by
            unfold Mc.act
            rw [if_neg (by omega), if_pos (by omega), if_pos h0]
          rw [e]
          exact step_while0 m b w vs vc nv gk ck p.code s hr ht hn hcell so.a.1 so.b.1 hk h0
        · have e : Mc.act p.cells s m = (17, { m with at_ := s.next }) := by
            unfold Mc.act
            rw [if_neg (by omega), if_pos (by omega), if_neg h0]
          rw [e]
          exact step_while1 m b w vs vc nv gk ck p.code s hr ht hn hcell so.a.1 so.b.1 hk h0
    · rw [Mc.step_halted ht hn]
      obtain ⟨ak, ck, hv⟩ := body_val hp.k
      subst hv
      refine (step_halt m b w vs vc nv ak p.code.length ck hr ht (by omega)).mono ?_
      rintro e w' ⟨rfl, hb⟩
      exact ⟨rfl, hr.of_block (hb.block b hr.lt), Frm.ofBelow hb (Nat.zero_le _)⟩
end

end Go.Proofs.Ytgddmpmcnjlcjaa

/- What a run tells. -/
namespace Go.Proofs.Ytgddmpmcnjlcjaa
open Go.RowKit
set_option linter.unusedVariables false

namespace Mc
/-- The state behind n steps, and what step n (from 0) tells. -/
def st (p : Pg) (m : M) : Nat → M
  | 0 => m
  | n + 1 => (step p.cells p.code (st p m n)).2
def num (p : Pg) (m : M) (n : Nat) : Nat := (step p.cells p.code (st p m n)).1
def tells (p : Pg) (m : M) (k : Nat) : List Nat := (List.range k).map (num p m)
def ini (l : List Nat) : M := { slots := fun i => l.getD i 0 }
/-- The first i inputs are put. -/
def ini_ (l : List Nat) (i : Nat) : M := { slots := fun j => if j < i then l.getD j 0 else 0 }

theorem st_ok {p : Pg} (ok : PgOk p) {m : M} (h : MOk m) (n : Nat) : MOk (st p m n) := by
  induction n with
  | zero => exact h
  | succ n ih => exact step_ok ok ih
theorem ini_ok {l : List Nat} (h : ∀ x, x ∈ l → x < 16) : MOk (ini l) := by
  refine ⟨fun i => ?_, fun i => ?_⟩
  · show l.getD i 0 < 16
    rw [List.getD_eq_getElem?_getD]
    by_cases hi : i < l.length
    · rw [List.getElem?_eq_getElem hi]; exact h _ (List.getElem_mem hi)
    · rw [List.getElem?_eq_none (by omega)]; decide
  · show 0 < 16
    decide
theorem ini_0 (l : List Nat) : ini_ l 0 = {} := by
  unfold ini_
  congr
theorem ini_full (l : List Nat) : ini_ l l.length = ini l := by
  unfold ini_ ini
  congr
  funext j
  by_cases h : j < l.length
  · rw [if_pos h]
  · rw [if_neg h, List.getD_eq_getElem?_getD, List.getElem?_eq_none (by omega)]; rfl
theorem ini_put (l : List Nat) (i : Nat) : put (ini_ l i) i (l.getD i 0) = ini_ l (i + 1) := by
  unfold put ini_
  congr
  funext j
  unfold Lk.upd
  by_cases h : j = i
  · subst h; rw [if_pos rfl, if_pos (Nat.lt_succ_self _)]
  · rw [if_neg h]
    by_cases h2 : j < i
    · show (if j < i then l.getD j 0 else 0) = _
      rw [if_pos h2, if_pos (by omega)]
    · show (if j < i then l.getD j 0 else 0) = _
      rw [if_neg h2, if_neg (by omega)]
theorem tells_succ (p : Pg) (m : M) (k : Nat) : tells p m (k + 1) = tells p m k ++ [num p m k] := by
  unfold tells
  rw [List.range_succ, List.map_append]
  rfl
theorem tells_len (p : Pg) (m : M) (k : Nat) : (tells p m k).length = k := by
  unfold tells
  simp
end Mc

theorem ownsRow_low {w : World} {base base' size n : Nat} {e : TypeId} {v : Value} {xs : List Value} (h : w.ownsRow base e size v n xs) (hb : base' ≤ base) : w.ownsRow base' e size v n xs :=
  ⟨h.1, h.2.elim Or.inl (fun ⟨g, cap, cur, hv, hg, r⟩ => Or.inr ⟨g, cap, cur, hv, Nat.le_trans hb hg, r⟩)⟩

theorem step_nth (p : Pg) (ok : PgOk p) (m : Mc.M) (mo : Mc.MOk m) (n b : Nat) (w : World) (vs vc vk : Value) (nv : Int) (hp : PgAt w p vs vc vk) (hr : w.rowIs b 77 17 (mcell (Mc.st p m n))) (hgb : ∀ g, vc.ownBlock = some g → g ≠ b) :
    Calls Try.prog 23 #[.pointer (some ⟨b, 0, none⟩), .agg #[vs, .int .i64 nv, vc, vk]] w fun e w' => SPost w w' b e (Mc.num p m n) (Mc.st p m (n + 1)) :=
  step_any p ok (Mc.st p m n) (Mc.st_ok ok mo n) b w vs vc vk nv hp hr hgb

theorem nats_at {w : World} {base : Nat} {e : TypeId} {l : List Nat} {g cap : Nat} (h : w.ownsRow base e 1 (.slice (some ⟨g, 0, none⟩) l.length cap) l.length (l.map fun (n : Nat) => .int .i64 n)) (i : Nat) (hi : i < l.length) : w.cell? ⟨g, i, none⟩ = some (.int .i64 (l.getD i 0)) := by
  rw [h.cellAt i (by omega)]; simp [hi]

set_option maxRecDepth 100000 in
set_option maxHeartbeats 2000000 in
theorem tell_run (p : Pg) (ok : PgOk p) (l : List Nat) (hl : l.length ≤ 3) (hl16 : ∀ x, x ∈ l → x < 16) (k : Nat) (hk : k ≤ 10) (w : World) (vs vc vk vi : Value) (nv : Int) (hp : PgAt w p vs vc vk) (hi : w.ownsRow 0 3 1 vi l.length (l.map fun (n : Nat) => .int .i64 n)) :
    Calls Try.prog 14 #[.agg #[vs, .int .i64 nv, vc, vk], vi, .int .i64 k] w fun e w' =>
      ∃ v, e = .returned v ∧ w'.ownsRow w.heap.size 3 1 v k ((Mc.tells p (Mc.ini l) k).map fun (n : Nat) => .int .i64 n) ∧ Below w.heap.size w w' := by
  obtain ⟨t0, ht0, hz0, hz1, hz2⟩ := info_parts Try.infoInt
  have HP := hid hp
  have HI := hid hi
  obtain ⟨ai, ci, hvi⟩ := body_val hi
  obtain ⟨as0, cs0, e0⟩ := body_val hp.s
  obtain ⟨ac, cc, e1⟩ := body_val hp.c
  obtain ⟨ak, ck, e2⟩ := body_val hp.k
  have HV := hid (And.intro e0 (And.intro e1 e2))
  have hmo := Mc.ini_ok hl16
  have HM := hid hmo
  clear hp hi hmo hl16
  subst hvi e0 e1 e2
  go_enter Try.func14, Try.ntmps14
  go_wp2_with fail
  go_loopw [15] (fun c wr => ∃ i : Nat, i ≤ l.length ∧ c = .int .i64 i ∧ wr.rowIs (w.heap.size + 1) 77 17 (mcell (Mc.ini_ l i)) ∧
      wr.rowIs w.heap.size 40 4 (fun j => [.slice as0 p.sec.length cs0, .int .i64 nv, .slice ac p.cells.length cc, .slice ak p.code.length ck].getD j (.bool false)) ∧ Below w.heap.size w wr) (fun c _ => l.length - (intOf c).toNat)
  case atStart =>
    refine ⟨0, Nat.zero_le _, rfl, ?_, ?_, ((Below.refl _ _).alloc (Nat.le_refl _) _).alloc (by simp) _⟩
    · rw [Mc.ini_0]
      have h := World.rowIs_alloc (w.alloc (.cells #[.slice as0 p.sec.length cs0, .int .i64 nv, .slice ac p.cells.length cc, .slice ak p.code.length ck] 40)) #[.int .i64 0, .int .i64 0, .int .i64 0, .int .i64 0, .int .i64 0, .int .i64 0, .int .i64 0, .int .i64 0, .int .i64 0, .int .i64 0, .int .i64 0, .int .i64 0, .int .i64 0, .int .i64 0, .int .i64 0, .int .i64 0, .bool false] 77 (mcell {}) (fun i hi => by
        match i, hi with
        | 0, _ => rfl
        | 1, _ => rfl
        | 2, _ => rfl
        | 3, _ => rfl
        | 4, _ => rfl
        | 5, _ => rfl
        | 6, _ => rfl
        | 7, _ => rfl
        | 8, _ => rfl
        | 9, _ => rfl
        | 10, _ => rfl
        | 11, _ => rfl
        | 12, _ => rfl
        | 13, _ => rfl
        | 14, _ => rfl
        | 15, _ => rfl
        | 16, _ => rfl
        | n + 17, h => exact absurd (show n + 17 < 17 from h) (by omega))
      rw [show (w.alloc (.cells #[.slice as0 p.sec.length cs0, .int .i64 nv, .slice ac p.cells.length cc, .slice ak p.code.length ck] 40)).heap.size = w.heap.size + 1 by simp] at h
      exact h
    · exact (World.rowIs_alloc w #[.slice as0 p.sec.length cs0, .int .i64 nv, .slice ac p.cells.length cc, .slice ak p.code.length ck] 40 (fun i => [.slice as0 p.sec.length cs0, .int .i64 nv, .slice ac p.cells.length cc, .slice ak p.code.length ck].getD i (.bool false)) (fun i hi => by
        match i, hi with
        | 0, _ => rfl
        | 1, _ => rfl
        | 2, _ => rfl
        | 3, _ => rfl
        | n + 4, h => exact absurd (show n + 4 < 4 from h) (by omega))).alloc _
  case round =>
    obtain ⟨i, hil, rfl, hrow, hprog, hbel⟩ := hrel
    have HROW := hid hrow
    have HPROG := hid hprog
    have HB := hid hbel
    have hz := hbel.size
    have hrl := hrow.lt
    clear hrow hprog hbel
    by_cases hlt : i < l.length
    · obtain ⟨g, cap, hv, _, hglt⟩ := HI.out.form (by omega)
      cases hv
      have hx := (HB.out.cell (p := ⟨g, i, none⟩) hglt).trans (nats_at HI.out i hlt)
      have HP2 := hid (Mc.ini_put l i)
      generalize hxv : l.getD i 0 = x at hx HP2
      have HXV := hid hxv
      clear hxv
      go_wp2_with (first | (go_at_call 22; refine (mput_any (Mc.ini_ l i) (w.heap.size + 1) i x _ HROW.out (by omega)).mono ?_; rintro e w' ⟨rfl, hw'⟩; subst hw'))
      go_roundw
      case rel =>
        refine ⟨i + 1, by omega, by go_num, ?_, HPROG.out.setOther (a := ⟨w.heap.size + 1, i, none⟩) (by show w.heap.size ≠ w.heap.size + 1; omega) _, HB.out.setCell (Nat.le_succ _) _⟩
        have h := (HROW.out.set i (.int .i64 x)).congr (fun j hj => mcell_put (Mc.ini_ l i) i x (by omega) j hj)
        rw [HP2.out] at h
        exact h
      case measure => simp [intOf]; omega
    · have hie : i = l.length := by omega
      have hfull : Mc.ini_ l i = Mc.ini l := by rw [hie]; exact Mc.ini_full l
      rw [hfull] at HROW
      clear hfull hie
      have hpl := HPROG.out.lt
      go_wp2_with fail
      go_loopw [10, 11] (fun v c wq => ∃ n : Nat, n ≤ k ∧ c = .int .i64 n ∧ wq.rowIs (w.heap.size + 1) 77 17 (mcell (Mc.st p (Mc.ini l) n)) ∧
          wq.rowIs w.heap.size 40 4 (fun j => [.slice as0 p.sec.length cs0, .int .i64 nv, .slice ac p.cells.length cc, .slice ak p.code.length ck].getD j (.bool false)) ∧ Below w.heap.size w wq ∧
          wq.ownsRow (w.heap.size + 2) 3 1 v n ((Mc.tells p (Mc.ini l) n).map fun (n : Nat) => .int .i64 n)) (fun _ c _ => k - (intOf c).toNat)
      case atStart =>
        exact ⟨0, Nat.zero_le _, rfl, HROW.out.alloc _, HPROG.out.alloc _, HB.out.alloc hz _, World.ownsRow_made wr #[] 0 (by omega) (by unfold maxLen; omega) rfl⟩
      case round =>
        obtain ⟨n, hnk, rfl, hrow2, hprog2, hbel2, hown⟩ := hrel
        have hzz := hbel2.size
        have hlt2 := hrow2.lt
        have HROW2 := hid hrow2
        have HPROG2 := hid hprog2
        have HB2 := hid hbel2
        have HOWN := hid hown
        by_cases hlt3 : n < k
        · have p0 := hprog2.cell (i := 0) (by omega)
          have p1 := hprog2.cell (i := 1) (by omega)
          have p2 := hprog2.cell (i := 2) (by omega)
          have p3 := hprog2.cell (i := 3) (by omega)
          simp at p0 p1 p2 p3
          have HPA := hid (HP.out.same HB2.out)
          clear hrow2 hprog2 hbel2 hown
          go_wp2_with (first
            | (go_at_call 23; refine (step_nth p ok (Mc.ini l) HM.out n (w.heap.size + 1) _ _ _ _ nv HPA.out HROW2.out ?_).mono ?_; exact fun g hg => (fun e => by have := (HP.out.c.lt g hg).2; omega); rintro e w1 ⟨rfl, hrow3, hfr⟩; have z1 := hfr.bel.size; have HROW3 := hid hrow3; have HFR := hid hfr; have hown1 := ownsRow_blk HOWN.out (fun g hg => hfr.keep g (HOWN.out.lt g hg).2 (fun e => by have h1 := (HOWN.out.lt g hg).1; have e' : g = w.heap.size + 1 := e; omega)); have HBW := hid ((HFR.out.lift (base := w.heap.size) (fun q _ e => by rw [e]; omega) hzz).bel); clear hrow3 hfr)
            | (at_builtin; refine wpList_append_lies _ rfl _ _ 22 rfl (w.heap.size + 2) 3 t0 _ 1 8 Try.underlying22 ht0 hz0 hz1 hz2 rfl (by omega) _ n ((Mc.tells p (Mc.ini l) n).map fun (n : Nat) => .int .i64 n) rfl (hown1.alloc _) ⟨w1.heap.size, 0, none⟩ 1 1 [.int .i64 (Mc.num p (Mc.ini l) n)] rfl rfl (cell_one_new _ _ _) (by simp [Value.oneCell']) (by omega) (by unfold maxLen; omega) (by omega) (by simp; omega) (w1.heap.size + 1) (by simp) ?_; intro g2 cap2 w2 hown2 hgrow hat hltg))
          go_roundw
          case rel =>
            refine ⟨n + 1, by omega, by go_num, rowIs_grown (HROW3.out.alloc _) hgrow (fun e => by have := (HOWN.out.lt _ e).1; omega), rowIs_grown ((HPROG2.out.of_block (HFR.out.keep _ (by omega) (by omega))).alloc _) hgrow (fun e => by have := (HOWN.out.lt _ e).1; omega), Below.grown (((HB2.out.trans HBW.out).alloc (by omega) _)) hgrow (by simp; omega) (fun q hq => by have := (HOWN.out.lt q hq).1; omega), ?_⟩
            rw [Mc.tells_succ, List.map_append]; exact hown2
          case measure => simp [intOf]; omega
        · have hnk2 : n = k := by omega
          subst hnk2
          clear hrow2 hprog2 hbel2 hown
          go_wp2_with fail
          go_ret
          exact ⟨_, rfl, ownsRow_low HOWN.out (by omega), HB2.out⟩

end Go.Proofs.Ytgddmpmcnjlcjaa

/- The reference's run: which name, an atom's value. -/
namespace Go.Proofs.Ytgddmpmcnjlcjaa
open Go.RowKit
set_option linter.unusedVariables false

section
variable (R P gn cn : Nat) (ns : List ByteArray) (w : World) (c0 : w.cell? ⟨R, 0, none⟩ = some (.pointer (some ⟨P, 0, none⟩))) (n0 : w.cell? ⟨P, 0, none⟩ = some (.slice (some ⟨gn, 0, none⟩) ns.length cn)) (hn : Wds w gn ns) (hl : ns.length ≤ 1000)
include c0 n0 hn hl

set_option maxRecDepth 100000 in
set_option maxHeartbeats 1000000 in
theorem rindex_any (s : ByteArray) (i : Nat) (hi : Rf.oneOf s.toList (ns.map ByteArray.toList) = some i) :
    Calls Try.prog 34 #[.pointer (some ⟨R, 0, none⟩), .string s] w fun e w' => e = .returned (.int .i64 i) ∧ w' = w := by
  have HN := hid hn
  have HI := hid hi
  clear hn hi
  go_enter Try.func34, Try.ntmps34
  go_wp2_with (first | (go_at_call 24; refine (oneOf_pos ns gn cn s _ HN.out hl).mono ?_; rintro e w0 ⟨he, hw0⟩; rw [HI.out] at he; subst he; have hw1 := hw0.symm; subst hw1))
  go_ret
  exact ⟨rfl, rfl⟩

set_option maxRecDepth 100000 in
set_option maxHeartbeats 1000000 in
theorem rvalue_name (s : ByteArray) (i : Nat) (hi : Rf.oneOf s.toList (ns.map ByteArray.toList) = some i) (hs : s.size = 1) (h97 : 97 ≤ s[0].toNat) (gv cv nv x : Nat) (v0 : w.cell? ⟨R, 1, none⟩ = some (.slice (some ⟨gv, 0, none⟩) nv cv)) (hin : i < nv) (hx : w.cell? ⟨gv, i, none⟩ = some (.int .i64 x)) :
    Calls Try.prog 31 #[.pointer (some ⟨R, 0, none⟩), .string s] w fun e w' => e = .returned (.int .i64 x) ∧ ∃ m, w' = w.drewN m := by
  have HX : Hid (∀ m : Nat, Calls Try.prog 34 #[.pointer (some ⟨R, 0, none⟩), .string s] (w.drewN m) fun e w' => e = .returned (.int .i64 i) ∧ w' = w.drewN m) := fun m => rindex_any R P gn cn ns (w.drewN m) (by simpa using c0) (by simpa using n0) (fun j hj => by simpa using hn j hj) hl s i hi
  have h9 : ¬ ((s[0].toNat : Int) ≤ 57) := by omega
  have hsI : (0 : Int) < (s.size : Int) := by omega
  clear hn hi
  go_enter Try.func31, Try.ntmps31
  go_wp2_with fail
  go_quiet (first | (go_at_call 34; exact Calls.quiet_of_same (HX.out _)))
  go_wp2_with fail
  go_ret
  exact ⟨rfl, _, rfl⟩
end

/-- The number that the first digits tell. -/
def valK (l : List UInt8) : Nat → Nat
  | 0 => 0
  | i + 1 => 10 * valK l i + ((l.getD i 0).toNat - 48)
theorem num_digits {l : List UInt8} {n : Nat} (h : Lk.num? l = some n) : 1 ≤ l.length ∧ l.length ≤ 2 ∧ valK l l.length = n ∧ (∀ i, i < l.length → 48 ≤ (l.getD i 0).toNat ∧ (l.getD i 0).toNat ≤ 57) ∧ valK l 1 ≤ 9 := by
  unfold Lk.num? at h
  split at h
  · rename_i c
    split at h
    · rename_i hc
      cases h
      refine ⟨Nat.le_refl _, by simp, by simp [valK], fun i hi => ?_, by simp [valK]; omega⟩
      have : i = 0 := by simp at hi; omega
      subst this
      exact hc
    · cases h
  · rename_i a b
    split at h
    · rename_i hc
      cases h
      refine ⟨by simp, Nat.le_refl _, ?_, fun i hi => ?_, ?_⟩
      · simp [valK]; omega
      · obtain rfl | rfl : i = 0 ∨ i = 1 := by simp at hi; omega
        · exact ⟨by show 48 ≤ a.toNat; omega, by show a.toNat ≤ 57; omega⟩
        · exact ⟨by show 48 ≤ b.toNat; omega, by show b.toNat ≤ 57; omega⟩
      · simp [valK]; omega
    · cases h
  · cases h

set_option maxRecDepth 100000 in
set_option maxHeartbeats 1000000 in
theorem rvalue_num (R : Nat) (s : ByteArray) (n : Nat) (h : Lk.num? s.toList = some n) (w : World) :
    Calls Try.prog 31 #[.pointer (some ⟨R, 0, none⟩), .string s] w fun e w' => e = .returned (.int .i64 n) ∧ w' = w := by
  obtain ⟨h1, h2, h3, h4, h5⟩ := num_digits h
  rw [tl_len] at h1 h2 h3 h4
  have hb0 := h4 0 (by omega)
  have hg : ∀ i (hi : i < s.size), (s.toList.getD i 0) = s[i] := fun i hi => by rw [List.getD_eq_getElem?_getD, tl_get s i hi]; rfl
  rw [hg 0 (by omega)] at hb0
  have hbI : (s[0].toNat : Int) ≤ 57 := by omega
  have HD := hid (fun i (hi : i < s.size) => (show 48 ≤ s[i].toNat ∧ s[i].toNat ≤ 57 by have := h4 i hi; rw [hg i hi] at this; exact this))
  have HS := hid (fun i (hi : i < s.size) => (show valK s.toList (i + 1) = 10 * valK s.toList i + (s[i].toNat - 48) by show 10 * valK s.toList i + ((s.toList.getD i 0).toNat - 48) = _; rw [hg i hi]))
  have HE := hid h3
  clear h4 hg h3 h
  go_enter Try.func31, Try.ntmps31
  go_wp2_with fail
  go_loopg [5, 6] s.size (fun gk nx ix wr => ∃ i vv : Nat, i + gk = s.size ∧ valK s.toList i = vv ∧ ((i = 0 → vv = 0) ∧ (i = 1 → vv ≤ 9) ∧ vv ≤ 99) ∧ ix = .int .i64 i ∧ nx = .int .i64 vv ∧ wr = w)
  case atStart => exact ⟨0, 0, by omega, rfl, ⟨fun _ => rfl, fun h => by omega, by omega⟩, rfl, rfl, rfl⟩
  case round =>
    obtain ⟨i, vv, hi, hv, hvb, rfl, rfl, hw⟩ := hrel
    have hw2 := hw.symm
    clear hw
    subst hw2
    by_cases hlt : i < s.size
    · obtain ⟨d1, d2⟩ := HD.out i hlt
      have hs := HS.out i hlt
      rw [hv] at hs
      have HN := hid hs
      have d1I : (48 : Int) ≤ (s[i].toNat : Int) := by omega
      have d2I : (s[i].toNat : Int) ≤ 57 := by omega
      have hvI : (vv : Int) ≤ 200 := by omega
      clear hs hv
      go_wp2_with fail
      go_roundg (gk - 1)
      case measure => omega
      case rel => exact ⟨i + 1, 10 * vv + (s[i].toNat - 48), by omega, HN.out, by omega, by go_num, by go_num, rfl⟩
    · have hie : i = s.size := by omega
      subst hie
      have hE : vv = n := by rw [← hv]; exact HE.out
      subst hE
      clear hv
      go_wp2_with fail
      go_ret
      exact ⟨rfl, rfl⟩
end Go.Proofs.Ytgddmpmcnjlcjaa

/- The reference's run: where it is. -/
namespace Go.Proofs.Ytgddmpmcnjlcjaa
open Go.RowKit
set_option linter.unusedVariables false

theorem Try.infoPlace : (Try.prog.info? 86).map (fun i => (i.zero, i.size, i.bytes)) = some (some (.agg #[.slice none 0 0, .int .i64 0]), 2, 32) := by kernel_rfl

def plc (st : List (Value × Nat)) : List Value := st.flatMap fun p => [p.1, .int .i64 p.2]
theorem plc_app (a b : List (Value × Nat)) : plc (a ++ b) = plc a ++ plc b := by unfold plc; rw [List.flatMap_append]
theorem plc_len (a : List (Value × Nat)) : (plc a).length = a.length * 2 := by
  induction a with
  | nil => rfl
  | cons x a ih =>
    show (x.1 :: .int .i64 x.2 :: plc a).length = _
    simp [ih]; omega

set_option maxRecDepth 100000 in
set_option maxHeartbeats 2000000 in
theorem enter_any (R base : Nat) (f : Nat → Value) (va : Value) (st : List (Value × Nat)) (al : Option Addr) (nl cl : Nat) (w : World) (hr : w.rowIs R 59 5 f) (h3 : f 3 = va) (ho : w.ownsRow base 86 2 va st.length (plc st)) (hne : va.ownBlock ≠ some R) (hst : st.length ≤ 1000) (hbs : base ≤ w.heap.size) :
    Calls Try.prog 17 #[.pointer (some ⟨R, 0, none⟩), .slice al nl cl] w fun e w' => e = .returned (.tuple #[]) ∧ ∃ va', w'.rowIs R 59 5 (fun j => if j = 3 then va' else f j) ∧ w'.ownsRow base 86 2 va' (st.length + 1) (plc (st ++ [(.slice al nl cl, 0)])) ∧ va'.ownBlock ≠ some R ∧ Frm 0 (fun k => k = R ∨ va.ownBlock = some k) w w' ∧ (∀ k, va'.ownBlock = some k → va.ownBlock = some k ∨ w.heap.size ≤ k) := by
  obtain ⟨t0, ht0, hz0, hz1, hz2⟩ := info_parts Try.infoPlace
  obtain ⟨aa, ca, e⟩ := body_val ho
  have c3 := hr.cell (i := 3) (by omega)
  rw [h3] at c3
  have hlt := hr.lt
  have f3 := hr.frozen 3
  subst e
  have HR := hid hr
  have HO := hid ho
  have HNE := hid hne
  clear hr ho hne h3
  go_enter Try.func17, Try.ntmps17
  go_wp2_with (first | (at_builtin; refine wpList_append_lies _ rfl _ _ 57 rfl base 86 t0 _ 2 32 Try.underlying57 ht0 hz0 hz1 hz2 rfl (by omega) _ st.length (plc st) rfl (HO.out.alloc _) ⟨w.heap.size, 0, none⟩ 1 1 [.slice al nl cl, .int .i64 0] (by simp [go_sem]) rfl (World.news_of_block (cs := #[.slice al nl cl, .int .i64 0]) (t := 86) (fr := (0, 0)) (heap_alloc_new w _)) (by simp [Value.oneCell']) (by omega) (by unfold maxLen; omega) (by omega) (by simp; omega) (w.heap.size + 1) (by simp) ?_; intro g2 cap2 w2 hown2 hgrow hat hltg; have HR2 := hid (rowIs_grown (HR.out.alloc _) hgrow HNE.out); have k3 := HR2.out.cell (i := 3) (by omega); have kf := HR2.out.frozen 3; have HO2 := hid hown2; have HG := hid hgrow; have HAT := hid hat; clear hown2 hgrow hat))
  go_end0
  have hg2 : g2 ≠ R := by
    rcases HAT.out with h | h
    · exact fun e => HNE.out (by rw [← e]; exact h)
    · omega
  refine ⟨rfl, .slice (some ⟨g2, 0, none⟩) (st.length + 1) cap2, HR2.out.set 3 _, ?_, by simp [Value.ownBlock]; exact hg2, ?_, ?_⟩
  · rw [plc_app]
    exact ownsRow_setCell HO2.out (by simp [Value.ownBlock]; exact hg2) _
  · exact Frm.setCell (p := ⟨R, 3, none⟩) (Frm.grown ((Frm.refl 0 (fun k => k = R ∨ (Value.slice aa st.length ca).ownBlock = some k) w).alloc (Nat.zero_le _) _) HG.out (Nat.zero_le _) (fun k e => ⟨Nat.zero_le _, .inr e⟩)) (Nat.zero_le _) (.inl rfl) _
  · intro k e
    have e : g2 = k := by simpa [Value.ownBlock] using e
    subst e
    rcases HAT.out with h | h
    · exact .inl h
    · exact .inr (by omega)

set_option maxRecDepth 100000 in
set_option maxHeartbeats 2000000 in
theorem passed_any (R g n ca i : Nat) (w : World) (c3 : w.cell? ⟨R, 3, none⟩ = some (.slice (some ⟨g, 0, none⟩) ((n + 1 : Nat)) ca)) (ci : w.cell? ⟨g, n * 2 + 1, none⟩ = some (.int .i64 i)) (cf : w.frozen? ⟨g, n * 2 + 1, none⟩ = false) (hn : n ≤ 1000) (hi : i ≤ 1000) :
    Calls Try.prog 30 #[.pointer (some ⟨R, 0, none⟩)] w fun e w' => e = .returned (.tuple #[]) ∧ w' = w.setCell ⟨g, n * 2 + 1, none⟩ (.int .i64 ((i + 1 : Nat) : Int)) := by
  have hnI : (n : Int) ≤ 1000 := by omega
  have hiI : (i : Int) ≤ 1000 := by omega
  go_enter Try.func30, Try.ntmps30
  go_wp2_with fail
  go_end0
  exact ⟨rfl, rfl⟩

/-- A place: statements (a slice), and which comes next. -/
structure Pl where
  al : Option Addr := none
  nl : Nat := 0
  cl : Nat := 0
  i : Nat := 0
def Pl.vp (p : Pl) : Value × Nat := (.slice p.al p.nl p.cl, p.i)
/-- Places whose statements are done go. -/
def popS (st : List Pl) : List Pl := (st.reverse.dropWhile fun p => decide (p.nl ≤ p.i)).reverse
theorem popS_go (a : List Pl) (p : Pl) (h : p.nl ≤ p.i) : popS (a ++ [p]) = popS a := by
  unfold popS
  rw [List.reverse_append, List.reverse_singleton, List.singleton_append, List.dropWhile_cons, if_pos (by simpa using h)]
theorem popS_stay (a : List Pl) (p : Pl) (h : ¬ p.nl ≤ p.i) : popS (a ++ [p]) = a ++ [p] := by
  unfold popS
  rw [List.reverse_append, List.reverse_singleton, List.singleton_append, List.dropWhile_cons, if_neg (by simpa using h)]
  simp
theorem plc_at (st : List Pl) (j : Nat) (h : j < st.length) : (plc (st.map Pl.vp))[j * 2]? = some (.slice st[j].al st[j].nl st[j].cl) ∧ (plc (st.map Pl.vp))[j * 2 + 1]? = some (.int .i64 st[j].i) := by
  induction st generalizing j with
  | nil => cases h
  | cons x st ih =>
    have e : plc ((x :: st).map Pl.vp) = .slice x.al x.nl x.cl :: .int .i64 x.i :: plc (st.map Pl.vp) := rfl
    rw [e]
    cases j with
    | zero => exact ⟨rfl, rfl⟩
    | succ j =>
      have := ih j (by simpa using h)
      rw [show (j + 1) * 2 = j * 2 + 1 + 1 by omega]
      exact this

set_option maxRecDepth 100000 in
set_option maxHeartbeats 2000000 in
theorem find_any' (R base g ca : Nat) (f : Nat → Value) (st : List Pl) (w : World) (hr : w.rowIs R 59 5 f) (h3 : f 3 = .slice (some ⟨g, 0, none⟩) st.length ca) (ho : w.ownsRow base 86 2 (.slice (some ⟨g, 0, none⟩) st.length ca) st.length (plc (st.map Pl.vp))) (hgR : g ≠ R) (hst : st.length ≤ 1000)
    (pt : Nat → Nat → Option Addr) (hpt : ∀ j (hj : j < st.length) t, t < st[j].nl → ∃ gl, st[j].al = some ⟨gl, 0, none⟩ ∧ gl ≠ R ∧ w.cell? ⟨gl, t, none⟩ = some (.pointer (pt gl t))) :
    Calls Try.prog 29 #[.pointer (some ⟨R, 0, none⟩)] w fun e w' => ∃ r, e = .returned (.pointer r) ∧ (popS st = [] → r = none) ∧ (∀ a p, popS st = a ++ [p] → ∃ gl, p.al = some ⟨gl, 0, none⟩ ∧ r = pt gl p.i) ∧ w'.rowIs R 59 5 (fun j => if j = 3 then .slice (some ⟨g, 0, none⟩) (popS st).length ca else f j) ∧ Frm 0 (fun k => k = R) w w' := by
  have HR := hid hr
  have HO := hid ho
  have HPT := hid hpt
  have hcap := ho
  have HC := hid (show st.length ≤ ca by
    rcases ho.2 with ⟨h1, _⟩ | ⟨g', cap, cur, hv, _, _, hc, _⟩
    · cases h1
    · cases hv; exact hc)
  have hcI : (st.length : Int) ≤ (ca : Int) := by have := HC.out; omega
  clear hr ho hpt hcap
  go_enter Try.func29, Try.ntmps29
  go_wp2_with fail
  go_loopg [] st.length (fun gk wr => gk ≤ st.length ∧ popS (st.take gk) = popS st ∧ wr.rowIs R 59 5 (fun j => if j = 3 then .slice (some ⟨g, 0, none⟩) gk ca else f j) ∧ Frm 0 (fun k => k = R) w wr)
  case atStart =>
    refine ⟨Nat.le_refl _, by rw [List.take_length], HR.out.congr (fun j hj => ?_), Frm.refl _ _ _⟩
    by_cases e : j = 3
    · rw [if_pos e, e, h3]
    · rw [if_neg e]
  case round =>
    obtain ⟨hm, hp, hrow, hfr⟩ := hrel
    have c3 := hrow.cell (i := 3) (by omega)
    rw [if_pos rfl] at c3
    have f3 := hrow.frozen 3
    have HP := hid hp
    have HROW := hid hrow
    have HFR := hid hfr
    clear hp hrow hfr
    cases gk with
    | zero =>
      have hE : popS st = [] := by rw [← HP.out]; rfl
      have HE := hid hE
      clear hE
      go_wp2_with fail
      go_ret
      exact ⟨none, rfl, fun _ => rfl, fun a p e => (by rw [HE.out] at e; simp at e), by rw [HE.out]; exact HROW.out, HFR.out⟩
    | succ m =>
      have hms : m < st.length := by omega
      have q0 := (HO.out.cellAt (m * 2) (by omega)).trans (plc_at st m hms).1
      have q1 := (HO.out.cellAt (m * 2 + 1) (by omega)).trans (plc_at st m hms).2
      have y0 := HFR.out.cell (p := ⟨g, m * 2, none⟩) q0 hgR
      have y1 := HFR.out.cell (p := ⟨g, m * 2 + 1, none⟩) q1 hgR
      have HTK := hid (List.take_succ_eq_append_getElem hms)
      have hpm := HPT.out m hms
      clear q0 q1
      generalize hpe : st[m] = p at y0 y1 HTK hpm
      clear hpe
      have hmI : ((m + 1 : Nat) : Int) ≤ (ca : Int) := by have := HC.out; omega
      by_cases hd : p.nl ≤ p.i
      · have hdI : ¬ (p.i : Int) < (p.nl : Int) := by omega
        have HPP := hid (show popS (st.take m) = popS st by rw [← HP.out, HTK.out, popS_go _ _ hd])
        clear hpm
        go_wp2_with fail
        go_quiet (fail)
        go_wp2_with fail
        go_quiet (fail)
        go_wp2_with fail
        go_region
        all_goals go_wp2_with fail
        all_goals go_roundg m
        case measure => omega
        case rel =>
          refine ⟨by omega, HPP.out, ?_, ?_⟩
          · exact (((HROW.out.set 3 (.slice (some ⟨g, 0, none⟩) m ca)).congr (fun j hj => (by
              by_cases e : j = 3
              · rw [if_pos e, if_pos e]
              · rw [if_neg e, if_neg e, if_neg e]))).of_block rfl)
          · exact (Frm.setCell (p := ⟨R, 3, none⟩) HFR.out (Nat.zero_le _) rfl (.slice (some ⟨g, 0, none⟩) m ca)).trans (Frm.ofBelow (S := fun k => k = R) (base := 0) ⟨rfl, rfl, rfl, Nat.le_refl _, fun _ _ => rfl⟩ (Nat.zero_le _)) (fun _ _ e => e)
      · obtain ⟨gl, hal, hglR, hcl⟩ := hpm p.i (by omega)
        have hdI : (p.i : Int) < (p.nl : Int) := by omega
        have hE : popS st = st.take m ++ [p] := by rw [← HP.out, HTK.out, popS_stay _ _ hd]
        have HE := hid hE
        have y2 := HFR.out.cell (p := ⟨gl, p.i, none⟩) hcl hglR
        rw [hal] at y0
        clear hpm hE hcl
        go_wp2_with fail
        go_quiet (fail)
        go_wp2_with fail
        go_quiet (fail)
        go_wp2_with fail
        go_quiet (fail)
        go_wp2_with fail
        go_ret
        refine ⟨_, rfl, fun e => (by rw [HE.out] at e; simp at e), fun a q e => ?_, ?_, ?_⟩
        · rw [HE.out] at e
          have hq := (List.append_inj' e rfl).2
          cases hq
          exact ⟨gl, hal, rfl⟩
        · rw [HE.out, show (st.take m ++ [p]).length = m + 1 by rw [List.length_append, List.length_take]; simp; omega]
          exact HROW.out.of_block rfl
        · exact HFR.out.trans (Frm.ofBelow (S := fun k => k = R) (base := 0) ⟨rfl, rfl, rfl, Nat.le_refl _, fun _ _ => rfl⟩ (Nat.zero_le _)) (fun _ _ e => e)
end Go.Proofs.Ytgddmpmcnjlcjaa
