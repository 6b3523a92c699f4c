import Derived.Test.YtgddmpmcnjlcjaaK13
import Derived.Test.YtgddmpmcnjlcjaaK11
/- Both plain machines tell the same. -/
namespace Go.Proofs.Ytgddmpmcnjlcjaa.Tm
open Lk (Wd wd num? oper?)
set_option linter.unusedVariables false

def atomOf (fnd : Wd → Nat × Nat) (w : Wd) : Option Lk.At :=
  match num? w with
  | some n => some { val := n }
  | none => if (fnd w).1 = 1 then some { named := true, val := (fnd w).2 } else none

/-- A statement's content, by its words. -/
structure Cst (fnd : Wd → Nat × Nat) (s : Lk.St) (w : List Wd) : Prop where
  out : s.kind = 3 → wd w 0 = Rf.wOut ∧ atomOf fnd (wd w 1) = some s.a
  br : s.kind = 4 ∨ s.kind = 5 → atomOf fnd (wd w 1) = some s.a
  load : s.kind = 1 → wd w 0 = Rf.wLoad ∧ fnd (wd w 1) = (1, s.slot) ∧ fnd (wd w 2) = (2, s.arr) ∧ atomOf fnd (wd w 3) = some s.a
  store : s.kind = 2 → wd w 0 = Rf.wStore ∧ fnd (wd w 1) = (2, s.arr) ∧ atomOf fnd (wd w 2) = some s.a ∧ atomOf fnd (wd w 3) = some s.b
  asg : s.kind = 0 → wd w 0 ≠ Rf.wOut ∧ wd w 0 ≠ Rf.wLoad ∧ wd w 0 ≠ Rf.wStore ∧ fnd (wd w 0) = (1, s.slot) ∧ atomOf fnd (wd w 2) = some s.a ∧ ((w.length = 3 ∧ s.op = 0) ∨ (w.length = 5 ∧ oper? (wd w 3) = some s.op ∧ atomOf fnd (wd w 4) = some s.b))

/-- Names: where each is found, and its place among the declared. -/
structure Nm (ds : List Rf.Dc) (fnd : Wd → Nat × Nat) (cells : List Nat) : Prop where
  inj : ∀ w w', (fnd w).1 ≠ 0 → fnd w = fnd w' → w = w'
  idx : ∀ w w', (fnd w).1 ≠ 0 → (fnd w').1 ≠ 0 → Tm.idx ds w = Tm.idx ds w' → w = w'
  siz : ∀ w k, fnd w = (2, k) → Tm.size ds (Tm.idx ds w) = cells.getD k 0 ∧ cells.getD k 0 ≤ 4

/-- The same values. -/
structure Dt (ds : List Rf.Dc) (fnd : Wd → Nat × Nat) (m : Mc.M) (t : M) : Prop where
  val : ∀ w k, fnd w = (1, k) → m.slots k = t.vals (idx ds w)
  cel : ∀ w k j, fnd w = (2, k) → j < 4 → m.cel (k * 4 + j) = t.cel (idx ds w) j
  bad : m.trap = t.bad

variable {ds : List Rf.Dc} {fnd : Wd → Nat × Nat} {cells : List Nat} {m : Mc.M} {t : M}

theorem Dt.value (d : Dt ds fnd m t) {w : Wd} {x : Lk.At} (h : atomOf fnd w = some x) (n : Nat) (r : List (List Rf.Tr × Nat)) : Mc.value { m with at_ := n } x = Tm.value ds { t with at_ := r } w := by
  unfold atomOf at h
  unfold Tm.value
  cases hn : num? w with
  | some k =>
    rw [hn] at h
    cases h
    rfl
  | none =>
    rw [hn] at h
    simp only at h
    by_cases h1 : (fnd w).1 = 1
    · rw [if_pos h1] at h
      cases h
      exact d.val w _ (by rw [← h1])
    · rw [if_neg h1] at h; cases h

theorem Dt.at (d : Dt ds fnd m t) (n : Nat) (r : List (List Rf.Tr × Nat)) : Dt ds fnd { m with at_ := n } { t with at_ := r } := ⟨d.val, d.cel, d.bad⟩

theorem Dt.put (nm : Nm ds fnd cells) (d : Dt ds fnd m t) {w : Wd} {k : Nat} (h : fnd w = (1, k)) (v : Nat) : Dt ds fnd (Mc.put m k v) { t with vals := Lk.upd t.vals (idx ds w) v } := by
  refine ⟨?_, d.cel, d.bad⟩
  intro w' k' h'
  show Lk.upd m.slots k v k' = Lk.upd t.vals (idx ds w) v (idx ds w')
  unfold Lk.upd
  by_cases e : w' = w
  · subst e
    rw [h] at h'
    cases h'
    rw [if_pos rfl, if_pos rfl]
  · rw [if_neg (fun hk => e (nm.inj w' w (by rw [h']; simp) (by rw [h', h, hk]))), if_neg (fun hk => e (nm.idx w' w (by rw [h']; simp) (by rw [h]; simp) hk))]
    exact d.val w' k' h'

theorem Dt.store (nm : Nm ds fnd cells) (d : Dt ds fnd m t) {w : Wd} {k : Nat} (h : fnd w = (2, k)) (i v : Nat) (hi : i < 4) : Dt ds fnd { m with cel := Lk.upd m.cel (k * 4 + i) v } { t with cel := Lk.upd t.cel (idx ds w) (Lk.upd (t.cel (idx ds w)) i v) } := by
  refine ⟨d.val, ?_, d.bad⟩
  intro w' k' j h' hj
  show Lk.upd m.cel (k * 4 + i) v (k' * 4 + j) = Lk.upd t.cel (idx ds w) (Lk.upd (t.cel (idx ds w)) i v) (idx ds w') j
  unfold Lk.upd
  by_cases e : w' = w
  · subst e
    rw [h] at h'
    cases h'
    rw [if_pos rfl]
    by_cases ej : j = i
    · rw [if_pos (by omega), if_pos ej]
    · rw [if_neg (by omega), if_neg ej]
      exact d.cel w' k j h hj
  · rw [if_neg (fun hk => e (nm.inj w' w (by rw [h']; simp) (by rw [h', h, show k' = k by omega]))), if_neg (fun hk => e (nm.idx w' w (by rw [h']; simp) (by rw [h]; simp) hk))]
    exact d.cel w' k' j h' hj
theorem Dt.trap (d : Dt ds fnd m t) : Dt ds fnd { m with trap := true } { t with bad := true } := ⟨d.val, d.cel, rfl⟩


theorem wds_ne : Rf.wLoad ≠ Rf.wOut ∧ Rf.wStore ≠ Rf.wOut ∧ Rf.wStore ≠ Rf.wLoad := by decide

/-- A statement that stands for itself: both do the same. -/
theorem act_sim (nm : Nm ds fnd cells) (d : Dt ds fnd m t) {s : Lk.St} {w : List Wd} (c : Cst fnd s w) (hk : s.kind < 4) (r : List (List Rf.Tr × Nat)) :
    (Mc.act cells s m).1 = (plain ds w { t with at_ := r }).1 ∧ Dt ds fnd (Mc.act cells s m).2 (plain ds w { t with at_ := r }).2 ∧ (Mc.act cells s m).2.at_ = s.next ∧ (plain ds w { t with at_ := r }).2.at_ = r := by
  have dr : Dt ds fnd { m with at_ := s.next } { t with at_ := r } := d.at s.next r
  obtain h | h | h | h : s.kind = 0 ∨ s.kind = 1 ∨ s.kind = 2 ∨ s.kind = 3 := by omega
  · obtain ⟨n1, n2, n3, hf, ha, hb⟩ := c.asg h
    have va := d.value ha s.next r
    have e1 : Mc.act cells s m = (0, Mc.put { m with at_ := s.next } s.slot (Mc.apply s.op (Mc.value { m with at_ := s.next } s.a) (Mc.value { m with at_ := s.next } s.b))) := by
      unfold Mc.act
      rw [if_neg (by omega), if_neg (by omega), if_neg (by omega)]
    have e2 : plain ds w { t with at_ := r } = (0, { ({ t with at_ := r } : M) with vals := Lk.upd t.vals (idx ds (wd w 0)) (if w.length = 5 then Mc.apply ((oper? (wd w 3)).getD 0) (value ds { t with at_ := r } (wd w 2)) (value ds { t with at_ := r } (wd w 4)) else value ds { t with at_ := r } (wd w 2)) }) := by
      unfold plain
      rw [if_neg n1, if_neg n2, if_neg n3]
    have e3 : Mc.apply s.op (Mc.value { m with at_ := s.next } s.a) (Mc.value { m with at_ := s.next } s.b) = (if w.length = 5 then Mc.apply ((oper? (wd w 3)).getD 0) (value ds { t with at_ := r } (wd w 2)) (value ds { t with at_ := r } (wd w 4)) else value ds { t with at_ := r } (wd w 2)) := by
      rcases hb with ⟨h3, h0⟩ | ⟨h5, ho, hx⟩
      · rw [if_neg (by omega), h0, va]; rfl
      · rw [if_pos h5, ho, va, d.value hx s.next r]; rfl
    rw [e1, e2, e3]
    exact ⟨rfl, dr.put nm hf _, rfl, rfl⟩
  · obtain ⟨n1, hf1, hf2, ha⟩ := c.load h
    have va := d.value ha s.next r
    obtain ⟨hs1, hs2⟩ := nm.siz _ _ hf2
    have e1 : Mc.act cells s m = (32 + Mc.value { m with at_ := s.next } s.a, Mc.access { m with at_ := s.next } cells s (Mc.value { m with at_ := s.next } s.a) (Mc.value { m with at_ := s.next } s.b)) := by
      unfold Mc.act
      rw [if_neg (by omega), if_neg (by omega), if_pos (by omega)]
    rw [e1, va]
    generalize hv : value ds { t with at_ := r } (wd w 3) = v
    by_cases hlt : v < cells.getD s.arr 0
    · have e2 : plain ds w { t with at_ := r } = (32 + v, { ({ t with at_ := r } : M) with vals := Lk.upd t.vals (idx ds (wd w 1)) (t.cel (idx ds (wd w 2)) v) }) := by
        unfold plain
        rw [if_neg (by rw [n1]; exact wds_ne.1), if_pos n1, hv, hs1, if_pos hlt]
      have e4 : Mc.access { m with at_ := s.next } cells s v (Mc.value { m with at_ := s.next } s.b) = Mc.put { m with at_ := s.next } s.slot (m.cel (s.arr * 4 + v)) := by
        unfold Mc.access Mc.has
        rw [if_pos (by simpa using hlt), if_neg (by omega)]
      rw [e2, e4, d.cel _ _ v hf2 (by omega)]
      exact ⟨rfl, dr.put nm hf1 _, rfl, rfl⟩
    · have e2 : plain ds w { t with at_ := r } = (32 + v, { ({ t with at_ := r } : M) with bad := true }) := by
        unfold plain
        rw [if_neg (by rw [n1]; exact wds_ne.1), if_pos n1, hv, hs1, if_neg hlt]
      have e4 : Mc.access { m with at_ := s.next } cells s v (Mc.value { m with at_ := s.next } s.b) = { ({ m with at_ := s.next } : Mc.M) with trap := true } := by
        unfold Mc.access Mc.has
        rw [if_neg (by simpa using hlt)]
      rw [e2, e4]
      exact ⟨rfl, dr.trap, rfl, rfl⟩
  · obtain ⟨n1, hf1, ha, hb⟩ := c.store h
    have va := d.value ha s.next r
    have vb := d.value hb s.next r
    obtain ⟨hs1, hs2⟩ := nm.siz _ _ hf1
    have e1 : Mc.act cells s m = (32 + Mc.value { m with at_ := s.next } s.a, Mc.access { m with at_ := s.next } cells s (Mc.value { m with at_ := s.next } s.a) (Mc.value { m with at_ := s.next } s.b)) := by
      unfold Mc.act
      rw [if_neg (by omega), if_neg (by omega), if_pos (by omega)]
    rw [e1, va, vb]
    generalize hv : value ds { t with at_ := r } (wd w 2) = v
    generalize hu : value ds { t with at_ := r } (wd w 3) = u
    by_cases hlt : v < cells.getD s.arr 0
    · have e2 : plain ds w { t with at_ := r } = (32 + v, { ({ t with at_ := r } : M) with cel := Lk.upd t.cel (idx ds (wd w 1)) (Lk.upd (t.cel (idx ds (wd w 1))) v u) }) := by
        unfold plain
        rw [if_neg (by rw [n1]; exact wds_ne.2.1), if_neg (by rw [n1]; exact wds_ne.2.2), if_pos n1, hv, hu, hs1, if_pos hlt]
      have e4 : Mc.access { m with at_ := s.next } cells s v u = { ({ m with at_ := s.next } : Mc.M) with cel := Lk.upd m.cel (s.arr * 4 + v) u } := by
        unfold Mc.access Mc.has
        rw [if_pos (by simpa using hlt), if_pos h]
      rw [e2, e4]
      exact ⟨rfl, dr.store nm hf1 v u (by omega), rfl, rfl⟩
    · have e2 : plain ds w { t with at_ := r } = (32 + v, { ({ t with at_ := r } : M) with bad := true }) := by
        unfold plain
        rw [if_neg (by rw [n1]; exact wds_ne.2.1), if_neg (by rw [n1]; exact wds_ne.2.2), if_pos n1, hv, hs1, if_neg hlt]
      have e4 : Mc.access { m with at_ := s.next } cells s v u = { ({ m with at_ := s.next } : Mc.M) with trap := true } := by
        unfold Mc.access Mc.has
        rw [if_neg (by simpa using hlt)]
      rw [e2, e4]
      exact ⟨rfl, dr.trap, rfl, rfl⟩
  · obtain ⟨n1, ha⟩ := c.out h
    have va := d.value ha s.next r
    have e1 : Mc.act cells s m = (48 + Mc.value { m with at_ := s.next } s.a, { m with at_ := s.next }) := by
      unfold Mc.act
      rw [if_pos h]
    have e2 : plain ds w { t with at_ := r } = (48 + value ds { t with at_ := r } (wd w 1), { t with at_ := r }) := by
      unfold plain
      rw [if_pos n1]
    rw [e1, e2, va]
    exact ⟨rfl, dr, rfl, rfl⟩

end Go.Proofs.Ytgddmpmcnjlcjaa.Tm

/- Step by step both plain machines tell the same. -/
namespace Go.Proofs.Ytgddmpmcnjlcjaa.Tm
open Lk (Wd wd num? oper?)
set_option linter.unusedVariables false

variable {ds : List Rf.Dc} {fnd : Wd → Nat × Nat} {cells : List Nat} {m : Mc.M} {t : M} {B : List Lk.St}

structure Sm (B : List Lk.St) (ds : List Rf.Dc) (fnd : Wd → Nat × Nat) (m : Mc.M) (t : M) : Prop where
  dt : Dt ds fnd m t
  pl : ∃ p q, At (Cst fnd) B p t.at_ q ∧ m.at_ = Lk.settle B p

theorem pop_head {x r : List (List Rf.Tr × Nat)} {l : List Rf.Tr} {i : Nat} (h : pop x = (l, i) :: r) : i < l.length := by
  induction x with
  | nil => cases h
  | cons y x ih =>
    obtain ⟨l', i'⟩ := y
    unfold pop at h
    by_cases hi : i' < l'.length
    · rw [if_pos hi] at h
      cases h
      exact hi
    · rw [if_neg hi] at h
      exact ih h

theorem one_cst {s : Lk.St} {w : List Wd} (c : Cst fnd s w) (B : List Lk.St) : Cst fnd (Lk.linkOne B s) w := by
  unfold Lk.linkOne
  split
  · exact ⟨c.out, c.br, c.load, c.store, c.asg⟩
  · exact ⟨c.out, c.br, c.load, c.store, c.asg⟩
theorem one_kind (B : List Lk.St) (s : Lk.St) : (Lk.linkOne B s).kind = s.kind ∧ (Lk.linkOne B s).next = Lk.settle B s.next ∧ (s.kind = 4 ∨ s.kind = 5 → (Lk.linkOne B s).els = Lk.settle B s.els) := by
  unfold Lk.linkOne
  split
  · exact ⟨rfl, rfl, fun _ => rfl⟩
  · rename_i h; exact ⟨rfl, rfl, fun k => absurd k h⟩

/-- One step of the tree's machine, what it finds at hand. -/
theorem step_at {l : List Rf.Tr} {i : Nat} {r : List (List Rf.Tr × Nat)} (hb : t.bad = false) (h : pop t.at_ = (l, i) :: r) (hi : i < l.length) : step ds t =
    (if wd (words l[i]) 0 = Rf.wIf ∨ wd (words l[i]) 0 = Rf.wWhile then
      (if value ds t (wd (words l[i]) 1) = 0 then (16, { t with at_ := (other l[i], 0) :: (if wd (words l[i]) 0 = Rf.wIf ∨ value ds t (wd (words l[i]) 1) = 0 then (l, i + 1) :: r else (l, i) :: r) })
       else (17, { t with at_ := (body l[i], 0) :: (if wd (words l[i]) 0 = Rf.wIf ∨ value ds t (wd (words l[i]) 1) = 0 then (l, i + 1) :: r else (l, i) :: r) }))
     else plain ds (words l[i]) { t with at_ := (l, i + 1) :: r }) := by
  unfold step
  rw [if_neg (by rw [hb]; simp), h]
  have e : l.getD i (.node [] [] []) = l[i] := by rw [List.getD_eq_getElem?_getD, List.getElem?_eq_getElem hi]; rfl
  simp only [e]

theorem step_sim (nm : Nm ds fnd cells) (h : Sm B ds fnd m t) : (Mc.step cells (Lk.link B) m).1 = (step ds t).1 ∧ Sm B ds fnd (Mc.step cells (Lk.link B) m).2 (step ds t).2 := by
  cases hb : t.bad with
  | true =>
    have hm : m.trap = true := by rw [h.dt.bad]; exact hb
    have e : step ds t = (80, t) := by unfold step; rw [if_pos hb]
    rw [Mc.step_trapped hm, e]
    exact ⟨rfl, h⟩
  | false =>
    have hm : m.trap = false := by rw [h.dt.bad]; exact hb
    obtain ⟨p, q, hat, hma⟩ := h.pl
    obtain ⟨q', hp⟩ := pass_pop t.at_ p q B.length hat (by omega)
    have hma' : m.at_ = Lk.ahead B (Lk.pass B B.length p) := hma
    generalize Lk.pass B B.length p = p' at hp hma'
    cases hpop : pop t.at_ with
    | nil =>
      rw [hpop] at hp
      have hpe : p' = B.length := hp.1
      subst hpe
      have e : step ds t = (64, { t with at_ := [] }) := by unfold step; rw [if_neg (by rw [hb]; simp), hpop]
      rw [Mc.step_halted hm (by rw [hma', link_len]; omega), e]
      refine ⟨rfl, ⟨h.dt.val, h.dt.cel, h.dt.bad⟩, B.length, B.length, ⟨rfl, rfl⟩, ?_⟩
      rw [hma']
      unfold Lk.settle
      rw [pass_end]
    | cons x r =>
      obtain ⟨l, i⟩ := x
      have hi := pop_head hpop
      rw [hpop] at hp
      obtain ⟨hl, _, _⟩ := hp.here hi
      obtain ⟨hpl, hpk⟩ := hl.head
      obtain ⟨k1, k2⟩ := link_at B p' hpl hpk
      obtain ⟨o1, o2, o3⟩ := one_kind B (Lk.bodyAt B p')
      rw [Mc.step_act hm (by rw [hma']; exact k1), hma', k2, step_at hb hpop hi]
      by_cases hw : wd (words l[i]) 0 = Rf.wIf ∨ wd (words l[i]) 0 = Rf.wWhile
      · rw [if_pos hw]
        by_cases hif : wd (words l[i]) 0 = Rf.wIf
        · obtain ⟨hc, hk, ⟨q1, a1⟩, ⟨q2, a2⟩⟩ := hp.cond hi hif
          have c' := one_cst hc B
          have va := h.dt.value (c'.br (.inl (o1.trans hk))) (Lk.linkOne B (Lk.bodyAt B p')).next t.at_
          have va' : Mc.value { m with at_ := (Lk.linkOne B (Lk.bodyAt B p')).next } (Lk.linkOne B (Lk.bodyAt B p')).a = value ds t (wd (words l[i]) 1) := va
          unfold Mc.act
          rw [if_neg (by omega), if_pos (.inl (o1.trans hk)), va', show (if wd (words l[i]) 0 = Rf.wIf ∨ value ds t (wd (words l[i]) 1) = 0 then (l, i + 1) :: r else (l, i) :: r) = (l, i + 1) :: r from if_pos (.inl hif)]
          by_cases hv : value ds t (wd (words l[i]) 1) = 0
          · rw [if_pos hv]
            try rw [if_pos hv]
            exact ⟨rfl, h.dt.at _ _, _, _, a2, o3 (.inl hk)⟩
          · rw [if_neg hv]
            try rw [if_neg hv]
            exact ⟨rfl, h.dt.at _ _, _, _, a1, o2⟩
        · have hwh := hw.resolve_left hif
          obtain ⟨hc, hk, ⟨q1, a1⟩, ⟨q2, a2⟩⟩ := hp.loop hi hwh
          have c' := one_cst hc B
          have va := h.dt.value (c'.br (.inr (o1.trans hk))) (Lk.linkOne B (Lk.bodyAt B p')).next t.at_
          have va' : Mc.value { m with at_ := (Lk.linkOne B (Lk.bodyAt B p')).next } (Lk.linkOne B (Lk.bodyAt B p')).a = value ds t (wd (words l[i]) 1) := va
          unfold Mc.act
          rw [if_neg (by omega), if_pos (.inr (o1.trans hk)), va']
          by_cases hv : value ds t (wd (words l[i]) 1) = 0
          · rw [show (if wd (words l[i]) 0 = Rf.wIf ∨ value ds t (wd (words l[i]) 1) = 0 then (l, i + 1) :: r else (l, i) :: r) = (l, i + 1) :: r from if_pos (.inr hv), if_pos hv]
            try rw [if_pos hv]
            exact ⟨rfl, h.dt.at _ _, _, _, a2, o3 (.inr hk)⟩
          · rw [show (if wd (words l[i]) 0 = Rf.wIf ∨ value ds t (wd (words l[i]) 1) = 0 then (l, i + 1) :: r else (l, i) :: r) = (l, i) :: r from if_neg (fun k => k.elim hif hv), if_neg hv]
            try rw [if_neg hv]
            exact ⟨rfl, h.dt.at _ _, _, _, a1, o2⟩
      · rw [if_neg hw]
        obtain ⟨hc, hk, a1⟩ := hp.plain hi hw
        obtain ⟨e1, e2, e3, e4⟩ := act_sim nm h.dt (one_cst hc B) (by rw [o1]; exact hk) ((l, i + 1) :: r)
        exact ⟨e1, e2, _, _, by rw [e4]; exact a1, by rw [e3, o2]⟩

theorem num_sim (nm : Nm ds fnd cells) (sec : List Bool) (h : Sm B ds fnd m t) (n : Nat) : Mc.num ⟨sec, cells, Lk.link B⟩ m n = num ds t n := by
  have hs : ∀ n, Sm B ds fnd (Mc.st ⟨sec, cells, Lk.link B⟩ m n) (st ds t n) := by
    intro n
    induction n with
    | zero => exact h
    | succ n ih => exact (step_sim nm ih).2
  exact (step_sim nm (hs n)).1

end Go.Proofs.Ytgddmpmcnjlcjaa.Tm

/- Trees laid in bodies that grow. -/
namespace Go.Proofs.Ytgddmpmcnjlcjaa.Tm
open Lk (Wd wd)
set_option linter.unusedVariables false

variable {C : Lk.St → List Wd → Prop} {B B' : List Lk.St}

theorem Lay.q_le {p q : Nat} {ts : List Rf.Tr} (h : Lay C B p ts q) (hp : p ≤ B.length) : q ≤ B.length := by
  induction h with
  | nil p => exact hp
  | plain hc hk hp' hn hw h ih => exact ih (by omega)
  | ifOne hc hk hp' hw hn hb hq hm hmn he h ihb ih => exact ih (by omega)
  | ifTwo hc hk hp' hw hn hb hq hm he ho hq2 hm2 hmn hmn2 h ihb iho ih => exact ih (by omega)
  | loop hc hk hp' hw hn hb hq hm hmn he h ihb ih => exact ih (by omega)

/-- It hangs on what lies between alone. -/
theorem Lay.congr {p q : Nat} {ts : List Rf.Tr} (h : Lay C B p ts q) (hl : q ≤ B'.length) (hB : ∀ x, p ≤ x → x < q → Lk.bodyAt B' x = Lk.bodyAt B x) : Lay C B' p ts q := by
  induction h with
  | nil p => exact .nil p
  | plain hc hk hp hn hw h ih =>
    have h1 := h.le
    have e := hB _ (Nat.le_refl _) (by omega)
    exact .plain (by rw [e]; exact hc) (by rw [e]; exact hk) (by omega) (by rw [e]; exact hn) hw (ih hl (fun x a b => hB x (by omega) b))
  | ifOne hc hk hp hw hn hb hq hm hmn he h ihb ih =>
    have h1 := h.le
    have h2 := hb.le
    have e := hB _ (Nat.le_refl _) (by omega)
    have e1 := hB _ (show _ ≤ _ by exact Nat.le_of_succ_le h2) (by omega)
    exact .ifOne (by rw [e]; exact hc) (by rw [e]; exact hk) (by omega) hw (by rw [e]; exact hn) (ihb (by omega) (fun x a b => hB x (by omega) (by omega))) (by omega) (by rw [e1]; exact hm) (by rw [e1]; exact hmn) (by rw [e]; exact he) (ih hl (fun x a b => hB x (by omega) b))
  | ifTwo hc hk hp hw hn hb hq hm he ho hq2 hm2 hmn hmn2 h ihb iho ih =>
    have h1 := h.le
    have h2 := hb.le
    have h3 := ho.le
    have e := hB _ (Nat.le_refl _) (by omega)
    have e1 := hB _ (show _ ≤ _ by exact Nat.le_of_succ_le h2) (by omega)
    have e2 := hB _ (show _ ≤ _ by exact Nat.le_trans (Nat.le_of_succ_le h2) (Nat.le_of_succ_le h3)) (by omega)
    exact .ifTwo (by rw [e]; exact hc) (by rw [e]; exact hk) (by omega) hw (by rw [e]; exact hn) (ihb (by omega) (fun x a b => hB x (by omega) (by omega))) (by omega) (by rw [e1]; exact hm) (by rw [e]; exact he) (iho (by omega) (fun x a b => hB x (by omega) (by omega))) (by omega) (by rw [e2]; exact hm2) (by rw [e1]; exact hmn) (by rw [e2]; exact hmn2) (ih hl (fun x a b => hB x (by omega) b))
  | loop hc hk hp hw hn hb hq hm hmn he h ihb ih =>
    have h1 := h.le
    have h2 := hb.le
    have e := hB _ (Nat.le_refl _) (by omega)
    have e1 := hB _ (show _ ≤ _ by exact Nat.le_of_succ_le h2) (by omega)
    exact .loop (by rw [e]; exact hc) (by rw [e]; exact hk) (by omega) hw (by rw [e]; exact hn) (ihb (by omega) (fun x a b => hB x (by omega) (by omega))) (by omega) (by rw [e1]; exact hm) (by rw [e1]; exact hmn) (by rw [e]; exact he) (ih hl (fun x a b => hB x (by omega) b))

theorem Lay.append {p q q' : Nat} {ts us : List Rf.Tr} (h : Lay C B p ts q) (h' : Lay C B q us q') : Lay C B p (ts ++ us) q' := by
  induction h with
  | nil p => exact h'
  | plain hc hk hp hn hw h ih => exact .plain hc hk hp hn hw (ih h')
  | ifOne hc hk hp hw hn hb hq hm hmn he h ihb ih => exact .ifOne hc hk hp hw hn hb hq hm hmn he (ih h')
  | ifTwo hc hk hp hw hn hb hq hm he ho hq2 hm2 hmn hmn2 h ihb iho ih => exact .ifTwo hc hk hp hw hn hb hq hm he ho hq2 hm2 hmn hmn2 (ih h')
  | loop hc hk hp hw hn hb hq hm hmn he h ihb ih => exact .loop hc hk hp hw hn hb hq hm hmn he (ih h')

end Go.Proofs.Ytgddmpmcnjlcjaa.Tm

/- Names: where each is found among the declared. -/
namespace Go.Proofs.Ytgddmpmcnjlcjaa.Tm
open Lk (Wd wd)
set_option linter.unusedVariables false

/-- Role and place of a name: scalars and arrays are counted by themselves. -/
def fd : List Rf.Dc → Nat → Nat → Wd → Nat × Nat
  | [], _, _, _ => (0, 0)
  | d :: ds, s, a, w => if d.name = w then (if d.kind = Rf.wArray then (2, a) else (1, s)) else if d.kind = Rf.wArray then fd ds s (a + 1) w else fd ds (s + 1) a w
def sizes (ds : List Rf.Dc) : List Nat := (ds.filter fun d => d.kind = Rf.wArray).map Rf.Dc.size

theorem fd_le (ds : List Rf.Dc) (s a : Nat) (w : Wd) : ((fd ds s a w).1 = 1 → s ≤ (fd ds s a w).2) ∧ ((fd ds s a w).1 = 2 → a ≤ (fd ds s a w).2) ∧ (fd ds s a w).1 ≤ 2 := by
  induction ds generalizing s a with
  | nil => exact ⟨fun h => (by cases h), fun h => (by cases h), Nat.zero_le _⟩
  | cons d ds ih =>
    unfold fd
    by_cases hn : d.name = w
    · rw [if_pos hn]
      by_cases hk : d.kind = Rf.wArray
      · rw [if_pos hk]; exact ⟨fun h => (by cases h), fun _ => Nat.le_refl _, Nat.le_refl _⟩
      · rw [if_neg hk]; exact ⟨fun _ => Nat.le_refl _, fun h => (by cases h), (by show 1 ≤ 2; omega)⟩
    · rw [if_neg hn]
      by_cases hk : d.kind = Rf.wArray
      · rw [if_pos hk]
        have := ih s (a + 1)
        exact ⟨this.1, fun h => Nat.le_of_succ_le (this.2.1 h), this.2.2⟩
      · rw [if_neg hk]
        have := ih (s + 1) a
        exact ⟨fun h => Nat.le_of_succ_le (this.1 h), this.2.1, this.2.2⟩

theorem fd_inj (ds : List Rf.Dc) (s a : Nat) (w w' : Wd) (h0 : (fd ds s a w).1 ≠ 0) (h : fd ds s a w = fd ds s a w') : w = w' := by
  induction ds generalizing s a with
  | nil => exact absurd rfl h0
  | cons d ds ih =>
    unfold fd at h h0
    by_cases h1 : d.name = w
    · by_cases h2 : d.name = w'
      · exact h1.symm.trans h2
      · rw [if_pos h1, if_neg h2] at h
        by_cases hk : d.kind = Rf.wArray
        · rw [if_pos hk, if_pos hk] at h
          have := (fd_le ds s (a + 1) w').2.1
          rw [← h] at this
          have := this rfl
          simp at this
          omega
        · rw [if_neg hk, if_neg hk] at h
          have := (fd_le ds (s + 1) a w').1
          rw [← h] at this
          have := this rfl
          simp at this
          omega
    · rw [if_neg h1] at h h0
      by_cases h2 : d.name = w'
      · rw [if_pos h2] at h
        by_cases hk : d.kind = Rf.wArray
        · rw [if_pos hk, if_pos hk] at h
          have := (fd_le ds s (a + 1) w).2.1
          rw [h] at this
          have := this rfl
          simp at this
          omega
        · rw [if_neg hk, if_neg hk] at h
          have := (fd_le ds (s + 1) a w).1
          rw [h] at this
          have := this rfl
          simp at this
          omega
      · rw [if_neg h2] at h
        by_cases hk : d.kind = Rf.wArray
        · rw [if_pos hk] at h0
          rw [if_pos hk, if_pos hk] at h
          exact ih s (a + 1) h0 h
        · rw [if_neg hk] at h0
          rw [if_neg hk, if_neg hk] at h
          exact ih (s + 1) a h0 h

/-- A name that is found has its place. -/
theorem fd_one (ds : List Rf.Dc) (s a : Nat) (w : Wd) (h0 : (fd ds s a w).1 ≠ 0) : ∃ i, Rf.oneOf w (ds.map Rf.Dc.name) = some i ∧ (ds.map Rf.Dc.name)[i]? = some w ∧ ((fd ds s a w).1 = 2 → (ds.map Rf.Dc.size).getD i 0 = (sizes ds).getD ((fd ds s a w).2 - a) 0) := by
  induction ds generalizing s a with
  | nil => exact absurd rfl h0
  | cons d ds ih =>
    have hle := fd_le ds s (a + 1) w
    unfold fd at h0 ⊢
    by_cases h1 : d.name = w
    · refine ⟨0, ?_, ?_, ?_⟩
      · show (if (d.name == w) = true then some 0 else _) = _
        rw [if_pos (by simpa using h1)]
      · rw [List.map_cons, List.getElem?_cons_zero, h1]
      · rw [if_pos h1]
        by_cases hk : d.kind = Rf.wArray
        · rw [if_pos hk]
          intro _
          unfold sizes
          rw [List.filter_cons, if_pos (by simpa using hk)]
          simp
        · rw [if_neg hk]; intro h; cases h
    · rw [if_neg h1] at h0 ⊢
      have hone : ∀ i, Rf.oneOf w (ds.map Rf.Dc.name) = some i → Rf.oneOf w ((d :: ds).map Rf.Dc.name) = some (i + 1) := by
        intro i hi
        show (if (d.name == w) = true then some 0 else (Rf.oneOf w (ds.map Rf.Dc.name)).map (· + 1)) = _
        rw [if_neg (by simpa using h1), hi]; rfl
      by_cases hk : d.kind = Rf.wArray
      · rw [if_pos hk] at h0 ⊢
        obtain ⟨i, e1, e2, e3⟩ := ih s (a + 1) h0
        refine ⟨i + 1, hone i e1, e2, fun h => ?_⟩
        have := hle.2.1 h
        rw [List.map_cons, List.getD_cons_succ, e3 h]
        unfold sizes
        rw [List.filter_cons, if_pos (by simpa using hk), List.map_cons, show (fd ds s (a + 1) w).2 - a = ((fd ds s (a + 1) w).2 - (a + 1)) + 1 by omega, List.getD_cons_succ]
      · rw [if_neg hk] at h0 ⊢
        obtain ⟨i, e1, e2, e3⟩ := ih (s + 1) a h0
        refine ⟨i + 1, hone i e1, e2, fun h => ?_⟩
        rw [List.map_cons, List.getD_cons_succ, e3 h]
        unfold sizes
        rw [List.filter_cons, if_neg (by simpa using hk)]

theorem nm_of (ds : List Rf.Dc) (h4 : ∀ d ∈ ds, d.size ≤ 4) : Nm ds (fd ds 0 0) (sizes ds) := by
  refine ⟨fun w w' h0 h => fd_inj ds 0 0 w w' h0 h, ?_, ?_⟩
  · intro w w' h0 h0' h
    obtain ⟨i, e1, e2, _⟩ := fd_one ds 0 0 w h0
    obtain ⟨i', e1', e2', _⟩ := fd_one ds 0 0 w' h0'
    unfold idx at h
    rw [e1, e1'] at h
    have : i = i' := h
    subst this
    rw [e2] at e2'
    exact Option.some.inj e2'
  · intro w k h
    obtain ⟨i, e1, _, e3⟩ := fd_one ds 0 0 w (by rw [h]; simp)
    rw [h] at e3
    refine ⟨?_, ?_⟩
    · unfold size idx
      rw [e1]
      exact e3 rfl
    · rw [List.getD_eq_getElem?_getD]
      cases hx : (sizes ds)[k]? with
      | none => exact Nat.zero_le _
      | some z =>
        have hz := List.mem_of_getElem? hx
        unfold sizes at hz
        obtain ⟨d, hd, rfl⟩ := List.mem_map.1 hz
        exact h4 d (List.mem_filter.1 hd).1

end Go.Proofs.Ytgddmpmcnjlcjaa.Tm

/- Names while a text is read. -/
namespace Go.Proofs.Ytgddmpmcnjlcjaa.Tm
open Lk (Wd wd RS isName lat)
set_option linter.unusedVariables false

def arrs (ds : List Rf.Dc) : Nat := (ds.filter fun d => d.kind = Rf.wArray).length
def scal (ds : List Rf.Dc) : Nat := (ds.filter fun d => ¬ d.kind = Rf.wArray).length

theorem fd_zero (ds : List Rf.Dc) (s a : Nat) (w : Wd) (h : (fd ds s a w).1 = 0) : fd ds s a w = (0, 0) := by
  induction ds generalizing s a with
  | nil => rfl
  | cons d ds ih =>
    unfold fd at h ⊢
    by_cases h1 : d.name = w
    · rw [if_pos h1] at h
      split at h
      · cases h
      · cases h
    · rw [if_neg h1] at h ⊢
      split
      · rename_i hk; rw [if_pos hk] at h; exact ih _ _ h
      · rename_i hk; rw [if_neg hk] at h; exact ih _ _ h

theorem fd_app (ds : List Rf.Dc) (d : Rf.Dc) (s a : Nat) (w : Wd) : fd (ds ++ [d]) s a w = if (fd ds s a w).1 ≠ 0 then fd ds s a w else if d.name = w then (if d.kind = Rf.wArray then (2, a + arrs ds) else (1, s + scal ds)) else (0, 0) := by
  induction ds generalizing s a with
  | nil =>
    show (if d.name = w then (if d.kind = Rf.wArray then (2, a) else (1, s)) else if d.kind = Rf.wArray then (0, 0) else (0, 0)) = _
    rw [if_neg (show ¬ (fd [] s a w).1 ≠ 0 from fun h => h rfl)]
    by_cases h1 : d.name = w
    · rw [if_pos h1, if_pos h1]; rfl
    · rw [if_neg h1, if_neg h1]; split <;> rfl
  | cons e ds ih =>
    show (if e.name = w then (if e.kind = Rf.wArray then (2, a) else (1, s)) else if e.kind = Rf.wArray then fd (ds ++ [d]) s (a + 1) w else fd (ds ++ [d]) (s + 1) a w) = _
    have e0 : fd (e :: ds) s a w = (if e.name = w then (if e.kind = Rf.wArray then (2, a) else (1, s)) else if e.kind = Rf.wArray then fd ds s (a + 1) w else fd ds (s + 1) a w) := rfl
    rw [e0]
    by_cases h1 : e.name = w
    · rw [if_pos h1, if_pos h1]
      by_cases hk : e.kind = Rf.wArray
      · rw [if_pos hk, if_pos (by simp)]
      · rw [if_neg hk, if_pos (by simp)]
    · rw [if_neg h1, if_neg h1]
      by_cases hk : e.kind = Rf.wArray
      · rw [if_pos hk, if_pos hk, ih]
        have ea : arrs (e :: ds) = arrs ds + 1 := by unfold arrs; rw [List.filter_cons, if_pos (by simpa using hk)]; rfl
        have es : scal (e :: ds) = scal ds := by unfold scal; rw [List.filter_cons, if_neg (by simpa using hk)]
        rw [ea, es, show a + 1 + arrs ds = a + (arrs ds + 1) by omega]
      · rw [if_neg hk, if_neg hk, ih]
        have ea : arrs (e :: ds) = arrs ds := by unfold arrs; rw [List.filter_cons, if_neg (by simpa using hk)]
        have es : scal (e :: ds) = scal ds + 1 := by unfold scal; rw [List.filter_cons, if_pos (by simpa using hk)]; rfl
        rw [ea, es, show s + 1 + scal ds = s + (scal ds + 1) by omega]

theorem lat_inj {w w' : Wd} (h : isName w = true) (h' : isName w' = true) (e : lat w = lat w') : w = w' := by
  unfold isName at h h'
  split at h
  · rename_i c
    split at h'
    · rename_i c'
      simp at h h'
      have e2 : c.toNat - 97 = c'.toNat - 97 := e
      have : c = c' := UInt8.toNat_inj.1 (by omega)
      rw [this]
    · cases h'
  · cases h

/-- The reader's names are the declared. -/
structure NR (r : RS) (ds : List Rf.Dc) : Prop where
  fnd : ∀ w, Lk.find r w = fd ds 0 0 w
  cel : r.cells = sizes ds
  sca : r.secret.length + r.vars = scal ds
  sec : r.secret = (ds.filter isIn).map fun d => d.kind == Rf.wSecret
  ss : ∀ d ∈ ds, d.size ≤ 4

theorem nr_nil : NR {} [] := ⟨fun w => (by unfold Lk.find; split <;> rfl), rfl, rfl, rfl, fun d h => (by cases h)⟩

/-- A new name. -/
theorem nr_find {r : RS} {ds : List Rf.Dc} (h : NR r ds) {w : Wd} (hw : isName w = true) (h0 : (r.letters (lat w)).1 = 0) (d : Rf.Dc) (hd : d.name = w) (v : Nat × Nat) (hv : v = if d.kind = Rf.wArray then (2, arrs ds) else (1, scal ds)) (r' : RS) (hl : r'.letters = Lk.upd r.letters (lat w) v) : ∀ x, Lk.find r' x = fd (ds ++ [d]) 0 0 x := by
  intro x
  rw [fd_app, ← h.fnd x, Nat.zero_add, Nat.zero_add, hd]
  unfold Lk.find
  by_cases hx : isName x = true
  · rw [if_pos hx, if_pos hx, hl]
    unfold Lk.upd
    by_cases e : w = x
    · subst e
      rw [if_pos rfl, if_neg (by omega), if_pos rfl, hv]
    · rw [if_neg (fun k => e (lat_inj hw hx k.symm))]
      by_cases hz : (r.letters (lat x)).1 = 0
      · rw [if_neg (by omega), if_neg e]
        have := h.fnd x
        unfold Lk.find at this
        rw [if_pos hx] at this
        rw [this]
        exact fd_zero _ _ _ _ (by rw [← this]; exact hz)
      · rw [if_pos hz]
  · rw [if_neg hx, if_neg hx, if_neg (by simp), if_neg (fun e => hx (by rw [← e]; exact hw))]

end Go.Proofs.Ytgddmpmcnjlcjaa.Tm

/- Declarations keep the names. -/
namespace Go.Proofs.Ytgddmpmcnjlcjaa.Tm
open Lk (Wd wd RS isName lat)
set_option linter.unusedVariables false

variable {r r' : RS} {ds : List Rf.Dc} {ws : List Wd}

theorem scal_app (ds : List Rf.Dc) (d : Rf.Dc) (h : ¬ d.kind = Rf.wArray) : scal (ds ++ [d]) = scal ds + 1 ∧ sizes (ds ++ [d]) = sizes ds := by
  unfold scal sizes
  rw [List.filter_append, List.filter_append, List.filter_cons, List.filter_cons, if_pos (by simpa using h), if_neg (by simpa using h)]
  simp
theorem arrs_app (ds : List Rf.Dc) (d : Rf.Dc) (h : d.kind = Rf.wArray) : scal (ds ++ [d]) = scal ds ∧ sizes (ds ++ [d]) = sizes ds ++ [d.size] := by
  unfold scal sizes
  rw [List.filter_append, List.filter_append, List.filter_cons, List.filter_cons, if_neg (by simpa using h), if_pos (by simpa using h)]
  simp
theorem arrs_len (ds : List Rf.Dc) : (sizes ds).length = arrs ds := by
  unfold sizes arrs
  rw [List.length_map]

theorem decl_out {w : Wd} {a b : Nat} (e : Lk.declare r w a b = some r') : isName w = true ∧ (r.letters (lat w)).1 = 0 ∧ r' = { r with letters := Lk.upd r.letters (lat w) (a, b) } := by
  unfold Lk.declare at e
  split at e
  · rename_i h; cases e; exact ⟨h.2.1, h.2.2, rfl⟩
  · cases e

theorem nr_input {b : Bool} (h : NR r ds) (e : Lk.takeInput r ws b = some r') : NR r' (ds ++ [⟨wd ws 1, if b = true then Rf.wSecret else Rf.wPublic, 0⟩]) := by
  unfold Lk.takeInput at e
  split at e
  · rename_i hc
    split at e
    · rename_i r2 hd
      cases e
      obtain ⟨h1, h2, rfl⟩ := decl_out hd
      have hk : ¬ (if b = true then Rf.wSecret else Rf.wPublic) = Rf.wArray := by cases b <;> decide
      have hin : isIn ⟨wd ws 1, if b = true then Rf.wSecret else Rf.wPublic, 0⟩ = true := by cases b <;> rfl
      obtain ⟨s1, s2⟩ := scal_app ds ⟨wd ws 1, if b = true then Rf.wSecret else Rf.wPublic, 0⟩ hk
      have hs := h.sca
      refine ⟨nr_find h h1 h2 _ rfl (1, r.secret.length) ?_ _ rfl, by rw [s2]; exact h.cel, ?_, ?_, ?_⟩
      · rw [if_neg hk, ← h.sca, hc.2.2]; rfl
      · rw [s1, ← h.sca]; simp; omega
      · rw [List.filter_append, List.filter_cons, if_pos hin, List.map_append, ← h.sec]
        cases b <;> rfl
      · intro d hdm
        rcases List.mem_append.1 hdm with hdm | hdm
        · exact h.ss d hdm
        · rw [List.mem_singleton.1 hdm]; exact Nat.zero_le _
    · cases e
  · cases e

theorem nr_var (h : NR r ds) (e : Lk.takeVar r ws = some r') : NR r' (ds ++ [⟨wd ws 1, Rf.wVar, 0⟩]) := by
  unfold Lk.takeVar at e
  split at e
  · rename_i hc
    split at e
    · rename_i r2 hd
      cases e
      obtain ⟨h1, h2, rfl⟩ := decl_out hd
      have hk : ¬ Rf.wVar = Rf.wArray := by decide
      have hin : isIn ⟨wd ws 1, Rf.wVar, 0⟩ = false := rfl
      obtain ⟨s1, s2⟩ := scal_app ds ⟨wd ws 1, Rf.wVar, 0⟩ hk
      refine ⟨nr_find h h1 h2 _ rfl (1, r.secret.length + r.vars) ?_ _ rfl, by rw [s2]; exact h.cel, ?_, ?_, ?_⟩
      · rw [if_neg hk, ← h.sca]
      · rw [s1, ← h.sca]; show r.secret.length + (r.vars + 1) = _; omega
      · rw [List.filter_append, List.filter_cons, if_neg (by rw [hin]; simp), List.map_append, ← h.sec]
        simp
      · intro d hdm
        rcases List.mem_append.1 hdm with hdm | hdm
        · exact h.ss d hdm
        · rw [List.mem_singleton.1 hdm]; exact Nat.zero_le _
    · cases e
  · cases e

theorem nr_array (h : NR r ds) (e : Lk.takeArray r ws = some r') : ∃ n, Lk.num? (wd ws 2) = some n ∧ NR r' (ds ++ [⟨wd ws 1, Rf.wArray, n⟩]) := by
  unfold Lk.takeArray at e
  split at e
  · rename_i hc
    split at e
    · rename_i n hn
      split at e
      · rename_i hle
        split at e
        · rename_i r2 hd
          cases e
          obtain ⟨h1, h2, rfl⟩ := decl_out hd
          obtain ⟨s1, s2⟩ := arrs_app ds ⟨wd ws 1, Rf.wArray, n⟩ rfl
          have hin : isIn ⟨wd ws 1, Rf.wArray, n⟩ = false := by
            show (Rf.wArray == Rf.wSecret || Rf.wArray == Rf.wPublic) = false
            decide
          refine ⟨n, hn, nr_find h h1 h2 _ rfl (2, r.cells.length) ?_ _ rfl, ?_, ?_, ?_, ?_⟩
          · rw [if_pos rfl, h.cel, arrs_len]
          · rw [s2, ← h.cel]
          · rw [s1, ← h.sca]
          · rw [List.filter_append, List.filter_cons, if_neg (by rw [hin]; simp), List.map_append, ← h.sec]
            simp
          · intro d hdm
            rcases List.mem_append.1 hdm with hdm | hdm
            · exact h.ss d hdm
            · rw [List.mem_singleton.1 hdm]; exact hle.2
        · cases e
      · cases e
    · cases e
  · cases e

/-- Statements leave the names as they were. -/
structure Same (r r' : RS) : Prop where
  l : r'.letters = r.letters
  c : r'.cells = r.cells
  s : r'.secret = r.secret
  v : r'.vars = r.vars
theorem NR.same (h : NR r ds) (k : Same r r') : NR r' ds :=
  ⟨fun w => (by rw [← h.fnd w]; unfold Lk.find; rw [k.l]), by rw [k.c]; exact h.cel, by rw [k.s, k.v]; exact h.sca, by rw [k.s]; exact h.sec, h.ss⟩

end Go.Proofs.Ytgddmpmcnjlcjaa.Tm
