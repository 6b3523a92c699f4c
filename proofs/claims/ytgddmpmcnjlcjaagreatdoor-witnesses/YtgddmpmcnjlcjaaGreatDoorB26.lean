import Derived.Test.YtgddmpmcnjlcjaaGreatDoorB25
import Derived.Test.YtgddmpmcnjlcjaaGreatDoorB12
namespace Go.Proofs.YtgddmpmcnjlcjaaGreatDoor.Tm
open Lk (Wd wd num?)
set_option linter.unusedVariables false
def words : Rf.Tr → List Wd
  | .node w _ _ => w
def body : Rf.Tr → List Rf.Tr
  | .node _ b _ => b
def other : Rf.Tr → List Rf.Tr
  | .node _ _ o => o
structure M where
  vals : Nat → Nat := fun _ => 0
  cel : Nat → Nat → Nat := fun _ _ => 0
  at_ : List (List Rf.Tr × Nat) := []
  bad : Bool := false
def idx (ds : List Rf.Dc) (w : Wd) : Nat := (Rf.oneOf w (ds.map Rf.Dc.name)).getD 0
def value (ds : List Rf.Dc) (m : M) (w : Wd) : Nat :=
  match num? w with
  | some n => n
  | none => m.vals (idx ds w)
def pop : List (List Rf.Tr × Nat) → List (List Rf.Tr × Nat)
  | [] => []
  | (l, i) :: r => if i < l.length then (l, i) :: r else pop r
def size (ds : List Rf.Dc) (a : Nat) : Nat := (ds.map Rf.Dc.size).getD a 0
def plain (ds : List Rf.Dc) (w : List Wd) (m : M) : Nat × M :=
  if wd w 0 = Rf.wOut then (48 + value ds m (wd w 1), m)
  else if wd w 0 = Rf.wLoad then
    (if value ds m (wd w 3) < size ds (idx ds (wd w 2)) then (32 + value ds m (wd w 3), { m with vals := Lk.upd m.vals (idx ds (wd w 1)) (m.cel (idx ds (wd w 2)) (value ds m (wd w 3))) })
     else (32 + value ds m (wd w 3), { m with bad := true }))
  else if wd w 0 = Rf.wStore then
    (if value ds m (wd w 2) < size ds (idx ds (wd w 1)) then (32 + value ds m (wd w 2), { m with cel := Lk.upd m.cel (idx ds (wd w 1)) (Lk.upd (m.cel (idx ds (wd w 1))) (value ds m (wd w 2)) (value ds m (wd w 3))) })
     else (32 + value ds m (wd w 2), { m with bad := true }))
  else
    (0, { m with vals := Lk.upd m.vals (idx ds (wd w 0)) (if w.length = 5 then Mc.apply ((Lk.oper? (wd w 3)).getD 0) (value ds m (wd w 2)) (value ds m (wd w 4)) else value ds m (wd w 2)) })
def step (ds : List Rf.Dc) (m : M) : Nat × M :=
  if m.bad = true then (80, m)
  else
    match pop m.at_ with
    | [] => (64, { m with at_ := [] })
    | (l, i) :: r =>
      let s := l.getD i (.node [] [] [])
      let w := words s
      if wd w 0 = Rf.wIf ∨ wd w 0 = Rf.wWhile then
        let v := value ds m (wd w 1)
        let r' := if wd w 0 = Rf.wIf ∨ v = 0 then (l, i + 1) :: r else (l, i) :: r
        if v = 0 then (16, { m with at_ := (other s, 0) :: r' }) else (17, { m with at_ := (body s, 0) :: r' })
      else plain ds w { m with at_ := (l, i + 1) :: r }
def st (ds : List Rf.Dc) (m : M) : Nat → M
  | 0 => m
  | n + 1 => (step ds (st ds m n)).2
def num (ds : List Rf.Dc) (m : M) (n : Nat) : Nat := (step ds (st ds m n)).1
def isIn (d : Rf.Dc) : Bool := d.kind == Rf.wSecret || d.kind == Rf.wPublic
def ini : List Rf.Dc → Nat → List Nat → Nat → Nat
  | [], _, _, _ => 0
  | d :: ds, k, ins, j => if isIn d = true then (if j = k then ins.headD 0 else ini ds (k + 1) ins.tail j) else (if j = k then 0 else ini ds (k + 1) ins j)
def start (ds : List Rf.Dc) (b : List Rf.Tr) (ins : List Nat) : M := { vals := ini ds 0 ins, at_ := [(b, 0)] }
inductive Lay (C : Lk.St → List Wd → Prop) (B : List Lk.St) : Nat → List Rf.Tr → Nat → Prop
  | nil (p : Nat) : Lay C B p [] p
  | plain {p q : Nat} {w : List Wd} {ts : List Rf.Tr} (hc : C (Lk.bodyAt B p) w) (hk : (Lk.bodyAt B p).kind < 4) (hp : p < B.length) (hn : (Lk.bodyAt B p).next = p + 1) (hw : ¬ (wd w 0 = Rf.wIf ∨ wd w 0 = Rf.wWhile)) (h : Lay C B (p + 1) ts q) : Lay C B p (.node w [] [] :: ts) q
  | ifOne {p q1 q : Nat} {w : List Wd} {b ts : List Rf.Tr} (hc : C (Lk.bodyAt B p) w) (hk : (Lk.bodyAt B p).kind = 4) (hp : p < B.length) (hw : wd w 0 = Rf.wIf) (hn : (Lk.bodyAt B p).next = p + 1) (hb : Lay C B (p + 1) b q1) (hq : q1 < B.length) (hm : (Lk.bodyAt B q1).kind = 6) (hmn : (Lk.bodyAt B q1).next = q1 + 1) (he : (Lk.bodyAt B p).els = q1 + 1) (h : Lay C B (q1 + 1) ts q) : Lay C B p (.node w b [] :: ts) q
  | ifTwo {p q1 q2 q : Nat} {w : List Wd} {b o ts : List Rf.Tr} (hc : C (Lk.bodyAt B p) w) (hk : (Lk.bodyAt B p).kind = 4) (hp : p < B.length) (hw : wd w 0 = Rf.wIf) (hn : (Lk.bodyAt B p).next = p + 1) (hb : Lay C B (p + 1) b q1) (hq : q1 < B.length) (hm : (Lk.bodyAt B q1).kind = 6) (he : (Lk.bodyAt B p).els = q1 + 1) (ho : Lay C B (q1 + 1) o q2) (hq2 : q2 < B.length) (hm2 : (Lk.bodyAt B q2).kind = 6) (hmn : (Lk.bodyAt B q1).next = q2 + 1) (hmn2 : (Lk.bodyAt B q2).next = q2 + 1) (h : Lay C B (q2 + 1) ts q) : Lay C B p (.node w b o :: ts) q
  | loop {p q1 q : Nat} {w : List Wd} {b ts : List Rf.Tr} (hc : C (Lk.bodyAt B p) w) (hk : (Lk.bodyAt B p).kind = 5) (hp : p < B.length) (hw : wd w 0 = Rf.wWhile) (hn : (Lk.bodyAt B p).next = p + 1) (hb : Lay C B (p + 1) b q1) (hq : q1 < B.length) (hm : (Lk.bodyAt B q1).kind = 6) (hmn : (Lk.bodyAt B q1).next = p) (he : (Lk.bodyAt B p).els = q1 + 1) (h : Lay C B (q1 + 1) ts q) : Lay C B p (.node w b [] :: ts) q
def At (C : Lk.St → List Wd → Prop) (B : List Lk.St) : Nat → List (List Rf.Tr × Nat) → Nat → Prop
  | p, [], q => p = B.length ∧ q = B.length
  | p, (l, i) :: r, q => (l.length ≤ i ∧ At C B p r q) ∨ (r = [] ∧ Lay C B p (l.drop i) q ∧ q = B.length) ∨ (Lay C B p (l.drop i) q ∧ q < B.length ∧ (Lk.bodyAt B q).kind = 6 ∧ ∃ q', q < q' ∧ At C B (Lk.bodyAt B q).next r q')
variable {C : Lk.St → List Wd → Prop} {B : List Lk.St}
theorem Lay.le {p q : Nat} {ts : List Rf.Tr} (h : Lay C B p ts q) : p ≤ q := by
  induction h with
  | nil p => exact Nat.le_refl _
  | plain hc hk hp hn hw h ih => omega
  | ifOne hc hk hp hw hn hb hq hm hmn he h ihb ih => omega
  | ifTwo hc hk hp hw hn hb hq hm he ho hq2 hm2 hmn hmn2 h ihb iho ih => omega
  | loop hc hk hp hw hn hb hq hm hmn he h ihb ih => omega
theorem Lay.head {p q : Nat} {t : Rf.Tr} {ts : List Rf.Tr} (h : Lay C B p (t :: ts) q) : p < B.length ∧ (Lk.bodyAt B p).kind ≤ 5 := by
  cases h with
  | plain hc hk hp hn hw h => exact ⟨hp, by omega⟩
  | ifOne hc hk hp hw hn hb hq hm hmn he h => exact ⟨hp, by omega⟩
  | ifTwo hc hk hp hw hn hb hq hm he ho hq2 hm2 hmn hmn2 h => exact ⟨hp, by omega⟩
  | loop hc hk hp hw hn hb hq hm hmn he h => exact ⟨hp, by omega⟩
theorem Lay.empty {p q : Nat} (h : Lay C B p [] q) : q = p := by
  cases h; rfl
theorem At.q_le {p q : Nat} {r : List (List Rf.Tr × Nat)} (h : At C B p r q) : q ≤ B.length := by
  induction r with
  | nil => exact Nat.le_of_eq h.2
  | cons x r ih =>
    obtain ⟨l, i⟩ := x
    rcases h with ⟨_, h⟩ | ⟨_, _, h⟩ | ⟨_, h, _⟩
    · exact ih h
    · exact Nat.le_of_eq h
    · exact Nat.le_of_lt h
theorem pass_end (n : Nat) : Lk.pass B n B.length = B.length := by
  cases n with
  | zero => rfl
  | succ n => unfold Lk.pass; rw [if_neg (by omega)]
theorem pass_stay (n p : Nat) (h : (Lk.bodyAt B p).kind ≤ 5) : Lk.pass B n p = p := by
  cases n with
  | zero => rfl
  | succ n => unfold Lk.pass; rw [if_neg (by omega)]
theorem pass_mark (n p : Nat) (hp : p < B.length) (h : (Lk.bodyAt B p).kind = 6) : Lk.pass B (n + 1) p = Lk.pass B n (Lk.bodyAt B p).next := by
  conv => lhs; unfold Lk.pass
  rw [if_pos ⟨hp, h⟩]
theorem pass_pop (r : List (List Rf.Tr × Nat)) (p q n : Nat) (h : At C B p r q) (hn : B.length ≤ n + q) : ∃ q', At C B (Lk.pass B n p) (pop r) q' := by
  induction r generalizing p q n with
  | nil =>
    have e : p = B.length := h.1
    subst e
    rw [pass_end]
    exact ⟨_, h⟩
  | cons x r ih =>
    obtain ⟨l, i⟩ := x
    by_cases hi : i < l.length
    · have e : pop ((l, i) :: r) = (l, i) :: r := by unfold pop; rw [if_pos hi]
      have hl : Lay C B p (l.drop i) q := by
        rcases h with ⟨h, _⟩ | ⟨_, h, _⟩ | ⟨h, _⟩
        · omega
        · exact h
        · exact h
      rw [List.drop_eq_getElem_cons hi] at hl
      rw [e, pass_stay n p hl.head.2]
      exact ⟨q, h⟩
    · have e : pop ((l, i) :: r) = pop r := by
        conv => lhs; unfold pop
        rw [if_neg hi]
      have hd : l.drop i = [] := List.drop_of_length_le (by omega)
      rw [e]
      rcases h with ⟨_, h⟩ | ⟨hr, h1, h2⟩ | ⟨h1, h2, h3, q', h4, h5⟩
      · exact ih p q n h hn
      · subst hr
        rw [hd] at h1
        have := h1.empty
        have hp : p = B.length := by omega
        subst hp
        rw [pass_end]
        exact ⟨B.length, rfl, rfl⟩
      · rw [hd] at h1
        have hpq := h1.empty
        subst hpq
        cases n with
        | zero => omega
        | succ n =>
          rw [pass_mark n q h2 h3]
          exact ih _ q' n h5 (by omega)
theorem At.here {p q : Nat} {l : List Rf.Tr} {i : Nat} {r : List (List Rf.Tr × Nat)} (h : At C B p ((l, i) :: r) q) (hi : i < l.length) : Lay C B p (l[i] :: l.drop (i + 1)) q ∧ (∀ p', Lay C B p' (l.drop (i + 1)) q → At C B p' ((l, i + 1) :: r) q) ∧ At C B p ((l, i) :: r) q := by
  refine ⟨?_, ?_, h⟩
  · rw [← List.drop_eq_getElem_cons hi]
    rcases h with ⟨h, _⟩ | ⟨_, h, _⟩ | ⟨h, _⟩
    · omega
    · exact h
    · exact h
  · intro p' hl
    rcases h with ⟨h, _⟩ | ⟨hr, _, hq⟩ | ⟨_, hq, hk, hx⟩
    · omega
    · exact .inr (.inl ⟨hr, hl, hq⟩)
    · exact .inr (.inr ⟨hl, hq, hk, hx⟩)
theorem At.plain {p q : Nat} {l : List Rf.Tr} {i : Nat} {r : List (List Rf.Tr × Nat)} (h : At C B p ((l, i) :: r) q) (hi : i < l.length) (hw : ¬ (wd (words l[i]) 0 = Rf.wIf ∨ wd (words l[i]) 0 = Rf.wWhile)) : C (Lk.bodyAt B p) (words l[i]) ∧ (Lk.bodyAt B p).kind < 4 ∧ At C B (Lk.bodyAt B p).next ((l, i + 1) :: r) q := by
  obtain ⟨h1, h2, _⟩ := h.here hi
  generalize l[i] = t at h1 hw
  cases h1 with
  | plain hc hk hp hn _ h => exact ⟨hc, hk, by rw [hn]; exact h2 _ h⟩
  | ifOne hc hk hp hw' hn hb hq hm hmn he h => exact absurd (.inl hw') hw
  | ifTwo hc hk hp hw' hn hb hq hm he ho hq2 hm2 hmn hmn2 h => exact absurd (.inl hw') hw
  | loop hc hk hp hw' hn hb hq hm hmn he h => exact absurd (.inr hw') hw
theorem wIf_ne : Rf.wIf ≠ Rf.wWhile := by decide
theorem At.cond {p q : Nat} {l : List Rf.Tr} {i : Nat} {r : List (List Rf.Tr × Nat)} (h : At C B p ((l, i) :: r) q) (hi : i < l.length) (hw : wd (words l[i]) 0 = Rf.wIf) :
    C (Lk.bodyAt B p) (words l[i]) ∧ (Lk.bodyAt B p).kind = 4 ∧ (∃ q', At C B (Lk.bodyAt B p).next ((body l[i], 0) :: (l, i + 1) :: r) q') ∧ ∃ q', At C B (Lk.bodyAt B p).els ((other l[i], 0) :: (l, i + 1) :: r) q' := by
  obtain ⟨h1, h2, _⟩ := h.here hi
  generalize l[i] = t at h1 hw
  cases h1 with
  | plain hc hk hp hn hw' h => exact absurd (.inl hw) hw'
  | loop hc hk hp hw' hn hb hq hm hmn he h => exact absurd (hw.symm.trans hw') wIf_ne
  | ifOne hc hk hp hw' hn hb hq hm hmn he h =>
    have hle := h.le
    exact ⟨hc, hk, ⟨_, by rw [hn]; exact .inr (.inr ⟨hb, hq, hm, q, by omega, by rw [hmn]; exact h2 _ h⟩)⟩, ⟨q, by rw [he]; exact .inl ⟨Nat.zero_le _, h2 _ h⟩⟩⟩
  | ifTwo hc hk hp hw' hn hb hq hm he ho hq2 hm2 hmn hmn2 h =>
    have hle := h.le
    have hlo := ho.le
    exact ⟨hc, hk, ⟨_, by rw [hn]; exact .inr (.inr ⟨hb, hq, hm, q, by omega, by rw [hmn]; exact h2 _ h⟩)⟩, ⟨_, by rw [he]; exact .inr (.inr ⟨ho, hq2, hm2, q, by omega, by rw [hmn2]; exact h2 _ h⟩)⟩⟩
theorem At.loop {p q : Nat} {l : List Rf.Tr} {i : Nat} {r : List (List Rf.Tr × Nat)} (h : At C B p ((l, i) :: r) q) (hi : i < l.length) (hw : wd (words l[i]) 0 = Rf.wWhile) :
    C (Lk.bodyAt B p) (words l[i]) ∧ (Lk.bodyAt B p).kind = 5 ∧ (∃ q', At C B (Lk.bodyAt B p).next ((body l[i], 0) :: (l, i) :: r) q') ∧ ∃ q', At C B (Lk.bodyAt B p).els ((other l[i], 0) :: (l, i + 1) :: r) q' := by
  obtain ⟨h1, h2, h3⟩ := h.here hi
  generalize l[i] = t at h1 hw
  cases h1 with
  | plain hc hk hp hn hw' h => exact absurd (.inr hw) hw'
  | ifOne hc hk hp hw' hn hb hq hm hmn he h => exact absurd (hw'.symm.trans hw) wIf_ne
  | ifTwo hc hk hp hw' hn hb hq hm he ho hq2 hm2 hmn hmn2 h => exact absurd (hw'.symm.trans hw) wIf_ne
  | loop hc hk hp hw' hn hb hq hm hmn he h =>
    have hle := h.le
    exact ⟨hc, hk, ⟨_, by rw [hn]; exact .inr (.inr ⟨hb, hq, hm, q, by omega, by rw [hmn]; exact h3⟩)⟩, ⟨q, by rw [he]; exact .inl ⟨Nat.zero_le _, h2 _ h⟩⟩⟩
theorem link_len (B : List Lk.St) : (Lk.link B).length = Lk.ahead B B.length := by
  unfold Lk.link Lk.ahead
  rw [List.length_map, List.take_length]
theorem link_at (B : List Lk.St) (p : Nat) (hp : p < B.length) (hk : (Lk.bodyAt B p).kind ≤ 5) : Lk.ahead B p < (Lk.link B).length ∧ (Lk.link B).getD (Lk.ahead B p) {} = Lk.linkOne B (Lk.bodyAt B p) := by
  have he : Lk.bodyAt B p = B[p] := by unfold Lk.bodyAt; rw [List.getD_eq_getElem?_getD, List.getElem?_eq_getElem hp]; rfl
  have hs : B = B.take p ++ B[p] :: B.drop (p + 1) := by rw [← List.drop_eq_getElem_cons hp, List.take_append_drop]
  have hf : (B.filter fun s => s.kind ≠ 6) = (B.take p).filter (fun s => s.kind ≠ 6) ++ B[p] :: (B.drop (p + 1)).filter (fun s => s.kind ≠ 6) := by
    conv => lhs; rw [hs]
    rw [List.filter_append, List.filter_cons, if_pos (by rw [he] at hk; simp; omega)]
  unfold Lk.link Lk.ahead
  rw [hf, he]
  refine ⟨by simp, ?_⟩
  rw [List.map_append, List.getD_eq_getElem?_getD, List.getElem?_append_right (by simp)]
  simp
end Go.Proofs.YtgddmpmcnjlcjaaGreatDoor.Tm
namespace Go.Proofs.YtgddmpmcnjlcjaaGreatDoor.Tm
open Lk (Wd wd num? oper?)
set_option linter.unusedVariables false
def atomOf (fnd : Wd → Nat × Nat) (w : Wd) : Option Lk.At :=
  match num? w with
  | some n => some { val := n }
  | none => if (fnd w).1 = 1 then some { named := true, val := (fnd w).2 } else none
structure Cst (fnd : Wd → Nat × Nat) (s : Lk.St) (w : List Wd) : Prop where
  out : s.kind = 3 → wd w 0 = Rf.wOut ∧ atomOf fnd (wd w 1) = some s.a
  br : s.kind = 4 ∨ s.kind = 5 → atomOf fnd (wd w 1) = some s.a
  load : s.kind = 1 → wd w 0 = Rf.wLoad ∧ fnd (wd w 1) = (1, s.slot) ∧ fnd (wd w 2) = (2, s.arr) ∧ atomOf fnd (wd w 3) = some s.a
  store : s.kind = 2 → wd w 0 = Rf.wStore ∧ fnd (wd w 1) = (2, s.arr) ∧ atomOf fnd (wd w 2) = some s.a ∧ atomOf fnd (wd w 3) = some s.b
  asg : s.kind = 0 → wd w 0 ≠ Rf.wOut ∧ wd w 0 ≠ Rf.wLoad ∧ wd w 0 ≠ Rf.wStore ∧ fnd (wd w 0) = (1, s.slot) ∧ atomOf fnd (wd w 2) = some s.a ∧ ((w.length = 3 ∧ s.op = 0) ∨ (w.length = 5 ∧ oper? (wd w 3) = some s.op ∧ atomOf fnd (wd w 4) = some s.b))
structure Nm (ds : List Rf.Dc) (fnd : Wd → Nat × Nat) (cells : List Nat) : Prop where
  inj : ∀ w w', (fnd w).1 ≠ 0 → fnd w = fnd w' → w = w'
  idx : ∀ w w', (fnd w).1 ≠ 0 → (fnd w').1 ≠ 0 → Tm.idx ds w = Tm.idx ds w' → w = w'
  siz : ∀ w k, fnd w = (2, k) → Tm.size ds (Tm.idx ds w) = cells.getD k 0 ∧ cells.getD k 0 ≤ 4
structure Dt (ds : List Rf.Dc) (fnd : Wd → Nat × Nat) (m : Mc.M) (t : M) : Prop where
  val : ∀ w k, fnd w = (1, k) → m.slots k = t.vals (idx ds w)
  cel : ∀ w k j, fnd w = (2, k) → j < 4 → m.cel (k * 4 + j) = t.cel (idx ds w) j
  bad : m.trap = t.bad
variable {ds : List Rf.Dc} {fnd : Wd → Nat × Nat} {cells : List Nat} {m : Mc.M} {t : M}
theorem Dt.value (d : Dt ds fnd m t) {w : Wd} {x : Lk.At} (h : atomOf fnd w = some x) (n : Nat) (r : List (List Rf.Tr × Nat)) : Mc.value { m with at_ := n } x = Tm.value ds { t with at_ := r } w := by
  unfold atomOf at h
  unfold Tm.value
  cases hn : num? w with
  | some k =>
    rw [hn] at h
    cases h
    rfl
  | none =>
    rw [hn] at h
    simp only at h
    by_cases h1 : (fnd w).1 = 1
    · rw [if_pos h1] at h
      cases h
      exact d.val w _ (by rw [← h1])
    · rw [if_neg h1] at h; cases h
theorem Dt.at (d : Dt ds fnd m t) (n : Nat) (r : List (List Rf.Tr × Nat)) : Dt ds fnd { m with at_ := n } { t with at_ := r } := ⟨d.val, d.cel, d.bad⟩
theorem Dt.put (nm : Nm ds fnd cells) (d : Dt ds fnd m t) {w : Wd} {k : Nat} (h : fnd w = (1, k)) (v : Nat) : Dt ds fnd (Mc.put m k v) { t with vals := Lk.upd t.vals (idx ds w) v } := by
  refine ⟨?_, d.cel, d.bad⟩
  intro w' k' h'
  show Lk.upd m.slots k v k' = Lk.upd t.vals (idx ds w) v (idx ds w')
  unfold Lk.upd
  by_cases e : w' = w
  · subst e
    rw [h] at h'
    cases h'
    rw [if_pos rfl, if_pos rfl]
  · rw [if_neg (fun hk => e (nm.inj w' w (by rw [h']; simp) (by rw [h', h, hk]))), if_neg (fun hk => e (nm.idx w' w (by rw [h']; simp) (by rw [h]; simp) hk))]
    exact d.val w' k' h'
theorem Dt.store (nm : Nm ds fnd cells) (d : Dt ds fnd m t) {w : Wd} {k : Nat} (h : fnd w = (2, k)) (i v : Nat) (hi : i < 4) : Dt ds fnd { m with cel := Lk.upd m.cel (k * 4 + i) v } { t with cel := Lk.upd t.cel (idx ds w) (Lk.upd (t.cel (idx ds w)) i v) } := by
  refine ⟨d.val, ?_, d.bad⟩
  intro w' k' j h' hj
  show Lk.upd m.cel (k * 4 + i) v (k' * 4 + j) = Lk.upd t.cel (idx ds w) (Lk.upd (t.cel (idx ds w)) i v) (idx ds w') j
  unfold Lk.upd
  by_cases e : w' = w
  · subst e
    rw [h] at h'
    cases h'
    rw [if_pos rfl]
    by_cases ej : j = i
    · rw [if_pos (by omega), if_pos ej]
    · rw [if_neg (by omega), if_neg ej]
      exact d.cel w' k j h hj
  · rw [if_neg (fun hk => e (nm.inj w' w (by rw [h']; simp) (by rw [h', h, show k' = k by omega]))), if_neg (fun hk => e (nm.idx w' w (by rw [h']; simp) (by rw [h]; simp) hk))]
    exact d.cel w' k' j h' hj
theorem Dt.trap (d : Dt ds fnd m t) : Dt ds fnd { m with trap := true } { t with bad := true } := ⟨d.val, d.cel, rfl⟩
theorem wds_ne : Rf.wLoad ≠ Rf.wOut ∧ Rf.wStore ≠ Rf.wOut ∧ Rf.wStore ≠ Rf.wLoad := by decide
theorem act_sim (nm : Nm ds fnd cells) (d : Dt ds fnd m t) {s : Lk.St} {w : List Wd} (c : Cst fnd s w) (hk : s.kind < 4) (r : List (List Rf.Tr × Nat)) :
    (Mc.act cells s m).1 = (plain ds w { t with at_ := r }).1 ∧ Dt ds fnd (Mc.act cells s m).2 (plain ds w { t with at_ := r }).2 ∧ (Mc.act cells s m).2.at_ = s.next ∧ (plain ds w { t with at_ := r }).2.at_ = r := by
  have dr : Dt ds fnd { m with at_ := s.next } { t with at_ := r } := d.at s.next r
  obtain h | h | h | h : s.kind = 0 ∨ s.kind = 1 ∨ s.kind = 2 ∨ s.kind = 3 := by omega
  · obtain ⟨n1, n2, n3, hf, ha, hb⟩ := c.asg h
    have va := d.value ha s.next r
    have e1 : Mc.act cells s m = (0, Mc.put { m with at_ := s.next } s.slot (Mc.apply s.op (Mc.value { m with at_ := s.next } s.a) (Mc.value { m with at_ := s.next } s.b))) := by
      unfold Mc.act
      rw [if_neg (by omega), if_neg (by omega), if_neg (by omega)]
    have e2 : plain ds w { t with at_ := r } = (0, { ({ t with at_ := r } : M) with vals := Lk.upd t.vals (idx ds (wd w 0)) (if w.length = 5 then Mc.apply ((oper? (wd w 3)).getD 0) (value ds { t with at_ := r } (wd w 2)) (value ds { t with at_ := r } (wd w 4)) else value ds { t with at_ := r } (wd w 2)) }) := by
      unfold plain
      rw [if_neg n1, if_neg n2, if_neg n3]
    have e3 : Mc.apply s.op (Mc.value { m with at_ := s.next } s.a) (Mc.value { m with at_ := s.next } s.b) = (if w.length = 5 then Mc.apply ((oper? (wd w 3)).getD 0) (value ds { t with at_ := r } (wd w 2)) (value ds { t with at_ := r } (wd w 4)) else value ds { t with at_ := r } (wd w 2)) := by
      rcases hb with ⟨h3, h0⟩ | ⟨h5, ho, hx⟩
      · rw [if_neg (by omega), h0, va]; rfl
      · rw [if_pos h5, ho, va, d.value hx s.next r]; rfl
    rw [e1, e2, e3]
    exact ⟨rfl, dr.put nm hf _, rfl, rfl⟩
  · obtain ⟨n1, hf1, hf2, ha⟩ := c.load h
    have va := d.value ha s.next r
    obtain ⟨hs1, hs2⟩ := nm.siz _ _ hf2
    have e1 : Mc.act cells s m = (32 + Mc.value { m with at_ := s.next } s.a, Mc.access { m with at_ := s.next } cells s (Mc.value { m with at_ := s.next } s.a) (Mc.value { m with at_ := s.next } s.b)) := by
      unfold Mc.act
      rw [if_neg (by omega), if_neg (by omega), if_pos (by omega)]
    rw [e1, va]
    generalize hv : value ds { t with at_ := r } (wd w 3) = v
    by_cases hlt : v < cells.getD s.arr 0
    · have e2 : plain ds w { t with at_ := r } = (32 + v, { ({ t with at_ := r } : M) with vals := Lk.upd t.vals (idx ds (wd w 1)) (t.cel (idx ds (wd w 2)) v) }) := by
        unfold plain
        rw [if_neg (by rw [n1]; exact wds_ne.1), if_pos n1, hv, hs1, if_pos hlt]
      have e4 : Mc.access { m with at_ := s.next } cells s v (Mc.value { m with at_ := s.next } s.b) = Mc.put { m with at_ := s.next } s.slot (m.cel (s.arr * 4 + v)) := by
        unfold Mc.access Mc.has
        rw [if_pos (by simpa using hlt), if_neg (by omega)]
      rw [e2, e4, d.cel _ _ v hf2 (by omega)]
      exact ⟨rfl, dr.put nm hf1 _, rfl, rfl⟩
    · have e2 : plain ds w { t with at_ := r } = (32 + v, { ({ t with at_ := r } : M) with bad := true }) := by
        unfold plain
        rw [if_neg (by rw [n1]; exact wds_ne.1), if_pos n1, hv, hs1, if_neg hlt]
      have e4 : Mc.access { m with at_ := s.next } cells s v (Mc.value { m with at_ := s.next } s.b) = { ({ m with at_ := s.next } : Mc.M) with trap := true } := by
        unfold Mc.access Mc.has
        rw [if_neg (by simpa using hlt)]
      rw [e2, e4]
      exact ⟨rfl, dr.trap, rfl, rfl⟩
  · obtain ⟨n1, hf1, ha, hb⟩ := c.store h
    have va := d.value ha s.next r
    have vb := d.value hb s.next r
    obtain ⟨hs1, hs2⟩ := nm.siz _ _ hf1
    have e1 : Mc.act cells s m = (32 + Mc.value { m with at_ := s.next } s.a, Mc.access { m with at_ := s.next } cells s (Mc.value { m with at_ := s.next } s.a) (Mc.value { m with at_ := s.next } s.b)) := by
      unfold Mc.act
      rw [if_neg (by omega), if_neg (by omega), if_pos (by omega)]
    rw [e1, va, vb]
    generalize hv : value ds { t with at_ := r } (wd w 2) = v
    generalize hu : value ds { t with at_ := r } (wd w 3) = u
    by_cases hlt : v < cells.getD s.arr 0
    · have e2 : plain ds w { t with at_ := r } = (32 + v, { ({ t with at_ := r } : M) with cel := Lk.upd t.cel (idx ds (wd w 1)) (Lk.upd (t.cel (idx ds (wd w 1))) v u) }) := by
        unfold plain
        rw [if_neg (by rw [n1]; exact wds_ne.2.1), if_neg (by rw [n1]; exact wds_ne.2.2), if_pos n1, hv, hu, hs1, if_pos hlt]
      have e4 : Mc.access { m with at_ := s.next } cells s v u = { ({ m with at_ := s.next } : Mc.M) with cel := Lk.upd m.cel (s.arr * 4 + v) u } := by
        unfold Mc.access Mc.has
        rw [if_pos (by simpa using hlt), if_pos h]
      rw [e2, e4]
      exact ⟨rfl, dr.store nm hf1 v u (by omega), rfl, rfl⟩
    · have e2 : plain ds w { t with at_ := r } = (32 + v, { ({ t with at_ := r } : M) with bad := true }) := by
        unfold plain
        rw [if_neg (by rw [n1]; exact wds_ne.2.1), if_neg (by rw [n1]; exact wds_ne.2.2), if_pos n1, hv, hs1, if_neg hlt]
      have e4 : Mc.access { m with at_ := s.next } cells s v u = { ({ m with at_ := s.next } : Mc.M) with trap := true } := by
        unfold Mc.access Mc.has
        rw [if_neg (by simpa using hlt)]
      rw [e2, e4]
      exact ⟨rfl, dr.trap, rfl, rfl⟩
  · obtain ⟨n1, ha⟩ := c.out h
    have va := d.value ha s.next r
    have e1 : Mc.act cells s m = (48 + Mc.value { m with at_ := s.next } s.a, { m with at_ := s.next }) := by
      unfold Mc.act
      rw [if_pos h]
    have e2 : plain ds w { t with at_ := r } = (48 + value ds { t with at_ := r } (wd w 1), { t with at_ := r }) := by
      unfold plain
      rw [if_pos n1]
    rw [e1, e2, va]
    exact ⟨rfl, dr, rfl, rfl⟩
end Go.Proofs.YtgddmpmcnjlcjaaGreatDoor.Tm
namespace Go.Proofs.YtgddmpmcnjlcjaaGreatDoor.Tm
open Lk (Wd wd num? oper?)
set_option linter.unusedVariables false
variable {ds : List Rf.Dc} {fnd : Wd → Nat × Nat} {cells : List Nat} {m : Mc.M} {t : M} {B : List Lk.St}
structure Sm (B : List Lk.St) (ds : List Rf.Dc) (fnd : Wd → Nat × Nat) (m : Mc.M) (t : M) : Prop where
  dt : Dt ds fnd m t
  pl : ∃ p q, At (Cst fnd) B p t.at_ q ∧ m.at_ = Lk.settle B p
theorem pop_head {x r : List (List Rf.Tr × Nat)} {l : List Rf.Tr} {i : Nat} (h : pop x = (l, i) :: r) : i < l.length := by
  induction x with
  | nil => cases h
  | cons y x ih =>
    obtain ⟨l', i'⟩ := y
    unfold pop at h
    by_cases hi : i' < l'.length
    · rw [if_pos hi] at h
      cases h
      exact hi
    · rw [if_neg hi] at h
      exact ih h
theorem one_cst {s : Lk.St} {w : List Wd} (c : Cst fnd s w) (B : List Lk.St) : Cst fnd (Lk.linkOne B s) w := by
  unfold Lk.linkOne
  split
  · exact ⟨c.out, c.br, c.load, c.store, c.asg⟩
  · exact ⟨c.out, c.br, c.load, c.store, c.asg⟩
theorem one_kind (B : List Lk.St) (s : Lk.St) : (Lk.linkOne B s).kind = s.kind ∧ (Lk.linkOne B s).next = Lk.settle B s.next ∧ (s.kind = 4 ∨ s.kind = 5 → (Lk.linkOne B s).els = Lk.settle B s.els) := by
  unfold Lk.linkOne
  split
  · exact ⟨rfl, rfl, fun _ => rfl⟩
  · rename_i h; exact ⟨rfl, rfl, fun k => absurd k h⟩
theorem step_at {l : List Rf.Tr} {i : Nat} {r : List (List Rf.Tr × Nat)} (hb : t.bad = false) (h : pop t.at_ = (l, i) :: r) (hi : i < l.length) : step ds t =
    (if wd (words l[i]) 0 = Rf.wIf ∨ wd (words l[i]) 0 = Rf.wWhile then
      (if value ds t (wd (words l[i]) 1) = 0 then (16, { t with at_ := (other l[i], 0) :: (if wd (words l[i]) 0 = Rf.wIf ∨ value ds t (wd (words l[i]) 1) = 0 then (l, i + 1) :: r else (l, i) :: r) })
       else (17, { t with at_ := (body l[i], 0) :: (if wd (words l[i]) 0 = Rf.wIf ∨ value ds t (wd (words l[i]) 1) = 0 then (l, i + 1) :: r else (l, i) :: r) }))
     else plain ds (words l[i]) { t with at_ := (l, i + 1) :: r }) := by
  unfold step
  rw [if_neg (by rw [hb]; simp), h]
  have e : l.getD i (.node [] [] []) = l[i] := by rw [List.getD_eq_getElem?_getD, List.getElem?_eq_getElem hi]; rfl
  simp only [e]
theorem step_sim (nm : Nm ds fnd cells) (h : Sm B ds fnd m t) : (Mc.step cells (Lk.link B) m).1 = (step ds t).1 ∧ Sm B ds fnd (Mc.step cells (Lk.link B) m).2 (step ds t).2 := by
  cases hb : t.bad with
  | true =>
    have hm : m.trap = true := by rw [h.dt.bad]; exact hb
    have e : step ds t = (80, t) := by unfold step; rw [if_pos hb]
    rw [Mc.step_trapped hm, e]
    exact ⟨rfl, h⟩
  | false =>
    have hm : m.trap = false := by rw [h.dt.bad]; exact hb
    obtain ⟨p, q, hat, hma⟩ := h.pl
    obtain ⟨q', hp⟩ := pass_pop t.at_ p q B.length hat (by omega)
    have hma' : m.at_ = Lk.ahead B (Lk.pass B B.length p) := hma
    generalize Lk.pass B B.length p = p' at hp hma'
    cases hpop : pop t.at_ with
    | nil =>
      rw [hpop] at hp
      have hpe : p' = B.length := hp.1
      subst hpe
      have e : step ds t = (64, { t with at_ := [] }) := by unfold step; rw [if_neg (by rw [hb]; simp), hpop]
      rw [Mc.step_halted hm (by rw [hma', link_len]; omega), e]
      refine ⟨rfl, ⟨h.dt.val, h.dt.cel, h.dt.bad⟩, B.length, B.length, ⟨rfl, rfl⟩, ?_⟩
      rw [hma']
      unfold Lk.settle
      rw [pass_end]
    | cons x r =>
      obtain ⟨l, i⟩ := x
      have hi := pop_head hpop
      rw [hpop] at hp
      obtain ⟨hl, _, _⟩ := hp.here hi
      obtain ⟨hpl, hpk⟩ := hl.head
      obtain ⟨k1, k2⟩ := link_at B p' hpl hpk
      obtain ⟨o1, o2, o3⟩ := one_kind B (Lk.bodyAt B p')
      rw [Mc.step_act hm (by rw [hma']; exact k1), hma', k2, step_at hb hpop hi]
      by_cases hw : wd (words l[i]) 0 = Rf.wIf ∨ wd (words l[i]) 0 = Rf.wWhile
      · rw [if_pos hw]
        by_cases hif : wd (words l[i]) 0 = Rf.wIf
        · obtain ⟨hc, hk, ⟨q1, a1⟩, ⟨q2, a2⟩⟩ := hp.cond hi hif
          have c' := one_cst hc B
          have va := h.dt.value (c'.br (.inl (o1.trans hk))) (Lk.linkOne B (Lk.bodyAt B p')).next t.at_
          have va' : Mc.value { m with at_ := (Lk.linkOne B (Lk.bodyAt B p')).next } (Lk.linkOne B (Lk.bodyAt B p')).a = value ds t (wd (words l[i]) 1) := va
          unfold Mc.act
          rw [if_neg (by omega), if_pos (.inl (o1.trans hk)), va', show (if wd (words l[i]) 0 = Rf.wIf ∨ value ds t (wd (words l[i]) 1) = 0 then (l, i + 1) :: r else (l, i) :: r) = (l, i + 1) :: r from if_pos (.inl hif)]
          by_cases hv : value ds t (wd (words l[i]) 1) = 0
          · rw [if_pos hv]
            try rw [if_pos hv]
            exact ⟨rfl, h.dt.at _ _, _, _, a2, o3 (.inl hk)⟩
          · rw [if_neg hv]
            try rw [if_neg hv]
            exact ⟨rfl, h.dt.at _ _, _, _, a1, o2⟩
        · have hwh := hw.resolve_left hif
          obtain ⟨hc, hk, ⟨q1, a1⟩, ⟨q2, a2⟩⟩ := hp.loop hi hwh
          have c' := one_cst hc B
          have va := h.dt.value (c'.br (.inr (o1.trans hk))) (Lk.linkOne B (Lk.bodyAt B p')).next t.at_
          have va' : Mc.value { m with at_ := (Lk.linkOne B (Lk.bodyAt B p')).next } (Lk.linkOne B (Lk.bodyAt B p')).a = value ds t (wd (words l[i]) 1) := va
          unfold Mc.act
          rw [if_neg (by omega), if_pos (.inr (o1.trans hk)), va']
          by_cases hv : value ds t (wd (words l[i]) 1) = 0
          · rw [show (if wd (words l[i]) 0 = Rf.wIf ∨ value ds t (wd (words l[i]) 1) = 0 then (l, i + 1) :: r else (l, i) :: r) = (l, i + 1) :: r from if_pos (.inr hv), if_pos hv]
            try rw [if_pos hv]
            exact ⟨rfl, h.dt.at _ _, _, _, a2, o3 (.inr hk)⟩
          · rw [show (if wd (words l[i]) 0 = Rf.wIf ∨ value ds t (wd (words l[i]) 1) = 0 then (l, i + 1) :: r else (l, i) :: r) = (l, i) :: r from if_neg (fun k => k.elim hif hv), if_neg hv]
            try rw [if_neg hv]
            exact ⟨rfl, h.dt.at _ _, _, _, a1, o2⟩
      · rw [if_neg hw]
        obtain ⟨hc, hk, a1⟩ := hp.plain hi hw
        obtain ⟨e1, e2, e3, e4⟩ := act_sim nm h.dt (one_cst hc B) (by rw [o1]; exact hk) ((l, i + 1) :: r)
        exact ⟨e1, e2, _, _, by rw [e4]; exact a1, by rw [e3, o2]⟩
theorem num_sim (nm : Nm ds fnd cells) (sec : List Bool) (h : Sm B ds fnd m t) (n : Nat) : Mc.num ⟨sec, cells, Lk.link B⟩ m n = num ds t n := by
  have hs : ∀ n, Sm B ds fnd (Mc.st ⟨sec, cells, Lk.link B⟩ m n) (st ds t n) := by
    intro n
    induction n with
    | zero => exact h
    | succ n ih => exact (step_sim nm ih).2
  exact (step_sim nm (hs n)).1
end Go.Proofs.YtgddmpmcnjlcjaaGreatDoor.Tm
namespace Go.Proofs.YtgddmpmcnjlcjaaGreatDoor.Tm
open Lk (Wd wd)
set_option linter.unusedVariables false
variable {C : Lk.St → List Wd → Prop} {B B' : List Lk.St}
theorem Lay.q_le {p q : Nat} {ts : List Rf.Tr} (h : Lay C B p ts q) (hp : p ≤ B.length) : q ≤ B.length := by
  induction h with
  | nil p => exact hp
  | plain hc hk hp' hn hw h ih => exact ih (by omega)
  | ifOne hc hk hp' hw hn hb hq hm hmn he h ihb ih => exact ih (by omega)
  | ifTwo hc hk hp' hw hn hb hq hm he ho hq2 hm2 hmn hmn2 h ihb iho ih => exact ih (by omega)
  | loop hc hk hp' hw hn hb hq hm hmn he h ihb ih => exact ih (by omega)
theorem Lay.congr {p q : Nat} {ts : List Rf.Tr} (h : Lay C B p ts q) (hl : q ≤ B'.length) (hB : ∀ x, p ≤ x → x < q → Lk.bodyAt B' x = Lk.bodyAt B x) : Lay C B' p ts q := by
  induction h with
  | nil p => exact .nil p
  | plain hc hk hp hn hw h ih =>
    have h1 := h.le
    have e := hB _ (Nat.le_refl _) (by omega)
    exact .plain (by rw [e]; exact hc) (by rw [e]; exact hk) (by omega) (by rw [e]; exact hn) hw (ih hl (fun x a b => hB x (by omega) b))
  | ifOne hc hk hp hw hn hb hq hm hmn he h ihb ih =>
    have h1 := h.le
    have h2 := hb.le
    have e := hB _ (Nat.le_refl _) (by omega)
    have e1 := hB _ (show _ ≤ _ by exact Nat.le_of_succ_le h2) (by omega)
    exact .ifOne (by rw [e]; exact hc) (by rw [e]; exact hk) (by omega) hw (by rw [e]; exact hn) (ihb (by omega) (fun x a b => hB x (by omega) (by omega))) (by omega) (by rw [e1]; exact hm) (by rw [e1]; exact hmn) (by rw [e]; exact he) (ih hl (fun x a b => hB x (by omega) b))
  | ifTwo hc hk hp hw hn hb hq hm he ho hq2 hm2 hmn hmn2 h ihb iho ih =>
    have h1 := h.le
    have h2 := hb.le
    have h3 := ho.le
    have e := hB _ (Nat.le_refl _) (by omega)
    have e1 := hB _ (show _ ≤ _ by exact Nat.le_of_succ_le h2) (by omega)
    have e2 := hB _ (show _ ≤ _ by exact Nat.le_trans (Nat.le_of_succ_le h2) (Nat.le_of_succ_le h3)) (by omega)
    exact .ifTwo (by rw [e]; exact hc) (by rw [e]; exact hk) (by omega) hw (by rw [e]; exact hn) (ihb (by omega) (fun x a b => hB x (by omega) (by omega))) (by omega) (by rw [e1]; exact hm) (by rw [e]; exact he) (iho (by omega) (fun x a b => hB x (by omega) (by omega))) (by omega) (by rw [e2]; exact hm2) (by rw [e1]; exact hmn) (by rw [e2]; exact hmn2) (ih hl (fun x a b => hB x (by omega) b))
  | loop hc hk hp hw hn hb hq hm hmn he h ihb ih =>
    have h1 := h.le
    have h2 := hb.le
    have e := hB _ (Nat.le_refl _) (by omega)
    have e1 := hB _ (show _ ≤ _ by exact Nat.le_of_succ_le h2) (by omega)
    exact .loop (by rw [e]; exact hc) (by rw [e]; exact hk) (by omega) hw (by rw [e]; exact hn) (ihb (by omega) (fun x a b => hB x (by omega) (by omega))) (by omega) (by rw [e1]; exact hm) (by rw [e1]; exact hmn) (by rw [e]; exact he) (ih hl (fun x a b => hB x (by omega) b))
theorem Lay.append {p q q' : Nat} {ts us : List Rf.Tr} (h : Lay C B p ts q) (h' : Lay C B q us q') : Lay C B p (ts ++ us) q' := by
  induction h with
  | nil p => exact h'
  | plain hc hk hp hn hw h ih => exact .plain hc hk hp hn hw (ih h')
  | ifOne hc hk hp hw hn hb hq hm hmn he h ihb ih => exact .ifOne hc hk hp hw hn hb hq hm hmn he (ih h')
  | ifTwo hc hk hp hw hn hb hq hm he ho hq2 hm2 hmn hmn2 h ihb iho ih => exact .ifTwo hc hk hp hw hn hb hq hm he ho hq2 hm2 hmn hmn2 (ih h')
  | loop hc hk hp hw hn hb hq hm hmn he h ihb ih => exact .loop hc hk hp hw hn hb hq hm hmn he (ih h')
end Go.Proofs.YtgddmpmcnjlcjaaGreatDoor.Tm
