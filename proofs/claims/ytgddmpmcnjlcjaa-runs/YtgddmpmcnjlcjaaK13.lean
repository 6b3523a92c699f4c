import Derived.Test.YtgddmpmcnjlcjaaK01
import Derived.Test.YtgddmpmcnjlcjaaK12
import Derived.Deep.RegionLaw
/- The reference's run, plainly: trees, places within places (the innermost first). -/
namespace Go.Proofs.Ytgddmpmcnjlcjaa.Tm
open Lk (Wd wd num?)
set_option linter.unusedVariables false

def words : Rf.Tr → List Wd
  | .node w _ _ => w
def body : Rf.Tr → List Rf.Tr
  | .node _ b _ => b
def other : Rf.Tr → List Rf.Tr
  | .node _ _ o => o

structure M where
  vals : Nat → Nat := fun _ => 0
  cel : Nat → Nat → Nat := fun _ _ => 0
  at_ : List (List Rf.Tr × Nat) := []
  bad : Bool := false

/-- Which name. -/
def idx (ds : List Rf.Dc) (w : Wd) : Nat := (Rf.oneOf w (ds.map Rf.Dc.name)).getD 0
def value (ds : List Rf.Dc) (m : M) (w : Wd) : Nat :=
  match num? w with
  | some n => n
  | none => m.vals (idx ds w)
def pop : List (List Rf.Tr × Nat) → List (List Rf.Tr × Nat)
  | [] => []
  | (l, i) :: r => if i < l.length then (l, i) :: r else pop r
def size (ds : List Rf.Dc) (a : Nat) : Nat := (ds.map Rf.Dc.size).getD a 0

/-- What a statement that stands for itself does; a place is passed already. -/
def plain (ds : List Rf.Dc) (w : List Wd) (m : M) : Nat × M :=
  if wd w 0 = Rf.wOut then (48 + value ds m (wd w 1), m)
  else if wd w 0 = Rf.wLoad then
    (if value ds m (wd w 3) < size ds (idx ds (wd w 2)) then (32 + value ds m (wd w 3), { m with vals := Lk.upd m.vals (idx ds (wd w 1)) (m.cel (idx ds (wd w 2)) (value ds m (wd w 3))) })
     else (32 + value ds m (wd w 3), { m with bad := true }))
  else if wd w 0 = Rf.wStore then
    (if value ds m (wd w 2) < size ds (idx ds (wd w 1)) then (32 + value ds m (wd w 2), { m with cel := Lk.upd m.cel (idx ds (wd w 1)) (Lk.upd (m.cel (idx ds (wd w 1))) (value ds m (wd w 2)) (value ds m (wd w 3))) })
     else (32 + value ds m (wd w 2), { m with bad := true }))
  else
    (0, { m with vals := Lk.upd m.vals (idx ds (wd w 0)) (if w.length = 5 then Mc.apply ((Lk.oper? (wd w 3)).getD 0) (value ds m (wd w 2)) (value ds m (wd w 4)) else value ds m (wd w 2)) })

def step (ds : List Rf.Dc) (m : M) : Nat × M :=
  if m.bad = true then (80, m)
  else
    match pop m.at_ with
    | [] => (64, { m with at_ := [] })
    | (l, i) :: r =>
      let s := l.getD i (.node [] [] [])
      let w := words s
      if wd w 0 = Rf.wIf ∨ wd w 0 = Rf.wWhile then
        let v := value ds m (wd w 1)
        let r' := if wd w 0 = Rf.wIf ∨ v = 0 then (l, i + 1) :: r else (l, i) :: r
        if v = 0 then (16, { m with at_ := (other s, 0) :: r' }) else (17, { m with at_ := (body s, 0) :: r' })
      else plain ds w { m with at_ := (l, i + 1) :: r }

def st (ds : List Rf.Dc) (m : M) : Nat → M
  | 0 => m
  | n + 1 => (step ds (st ds m n)).2
def num (ds : List Rf.Dc) (m : M) (n : Nat) : Nat := (step ds (st ds m n)).1
def isIn (d : Rf.Dc) : Bool := d.kind == Rf.wSecret || d.kind == Rf.wPublic
/-- The inputs' values by the names' places. -/
def ini : List Rf.Dc → Nat → List Nat → Nat → Nat
  | [], _, _, _ => 0
  | d :: ds, k, ins, j => if isIn d = true then (if j = k then ins.headD 0 else ini ds (k + 1) ins.tail j) else (if j = k then 0 else ini ds (k + 1) ins j)
def start (ds : List Rf.Dc) (b : List Rf.Tr) (ins : List Nat) : M := { vals := ini ds 0 ins, at_ := [(b, 0)] }

/-- Statements lie in a body of source's from a place on to another: marks between. Kind 4: if, 5: while, 6: a mark. -/
inductive Lay (C : Lk.St → List Wd → Prop) (B : List Lk.St) : Nat → List Rf.Tr → Nat → Prop
  | nil (p : Nat) : Lay C B p [] p
  | plain {p q : Nat} {w : List Wd} {ts : List Rf.Tr} (hc : C (Lk.bodyAt B p) w) (hk : (Lk.bodyAt B p).kind < 4) (hp : p < B.length) (hn : (Lk.bodyAt B p).next = p + 1) (hw : ¬ (wd w 0 = Rf.wIf ∨ wd w 0 = Rf.wWhile)) (h : Lay C B (p + 1) ts q) : Lay C B p (.node w [] [] :: ts) q
  | ifOne {p q1 q : Nat} {w : List Wd} {b ts : List Rf.Tr} (hc : C (Lk.bodyAt B p) w) (hk : (Lk.bodyAt B p).kind = 4) (hp : p < B.length) (hw : wd w 0 = Rf.wIf) (hn : (Lk.bodyAt B p).next = p + 1) (hb : Lay C B (p + 1) b q1) (hq : q1 < B.length) (hm : (Lk.bodyAt B q1).kind = 6) (hmn : (Lk.bodyAt B q1).next = q1 + 1) (he : (Lk.bodyAt B p).els = q1 + 1) (h : Lay C B (q1 + 1) ts q) : Lay C B p (.node w b [] :: ts) q
  | ifTwo {p q1 q2 q : Nat} {w : List Wd} {b o ts : List Rf.Tr} (hc : C (Lk.bodyAt B p) w) (hk : (Lk.bodyAt B p).kind = 4) (hp : p < B.length) (hw : wd w 0 = Rf.wIf) (hn : (Lk.bodyAt B p).next = p + 1) (hb : Lay C B (p + 1) b q1) (hq : q1 < B.length) (hm : (Lk.bodyAt B q1).kind = 6) (he : (Lk.bodyAt B p).els = q1 + 1) (ho : Lay C B (q1 + 1) o q2) (hq2 : q2 < B.length) (hm2 : (Lk.bodyAt B q2).kind = 6) (hmn : (Lk.bodyAt B q1).next = q2 + 1) (hmn2 : (Lk.bodyAt B q2).next = q2 + 1) (h : Lay C B (q2 + 1) ts q) : Lay C B p (.node w b o :: ts) q
  | loop {p q1 q : Nat} {w : List Wd} {b ts : List Rf.Tr} (hc : C (Lk.bodyAt B p) w) (hk : (Lk.bodyAt B p).kind = 5) (hp : p < B.length) (hw : wd w 0 = Rf.wWhile) (hn : (Lk.bodyAt B p).next = p + 1) (hb : Lay C B (p + 1) b q1) (hq : q1 < B.length) (hm : (Lk.bodyAt B q1).kind = 6) (hmn : (Lk.bodyAt B q1).next = p) (he : (Lk.bodyAt B p).els = q1 + 1) (h : Lay C B (q1 + 1) ts q) : Lay C B p (.node w b [] :: ts) q

/-- A place in the body, the places within places that it stands for, and where the innermost statements end. (A place where nothing is left may have no mark of its own.) -/
def At (C : Lk.St → List Wd → Prop) (B : List Lk.St) : Nat → List (List Rf.Tr × Nat) → Nat → Prop
  | p, [], q => p = B.length ∧ q = B.length
  | p, (l, i) :: r, q => (l.length ≤ i ∧ At C B p r q) ∨ (r = [] ∧ Lay C B p (l.drop i) q ∧ q = B.length) ∨ (Lay C B p (l.drop i) q ∧ q < B.length ∧ (Lk.bodyAt B q).kind = 6 ∧ ∃ q', q < q' ∧ At C B (Lk.bodyAt B q).next r q')

variable {C : Lk.St → List Wd → Prop} {B : List Lk.St}
theorem Lay.le {p q : Nat} {ts : List Rf.Tr} (h : Lay C B p ts q) : p ≤ q := by
  induction h with
  | nil p => exact Nat.le_refl _
  | plain hc hk hp hn hw h ih => omega
  | ifOne hc hk hp hw hn hb hq hm hmn he h ihb ih => omega
  | ifTwo hc hk hp hw hn hb hq hm he ho hq2 hm2 hmn hmn2 h ihb iho ih => omega
  | loop hc hk hp hw hn hb hq hm hmn he h ihb ih => omega
/-- Where statements are left there is one that is no mark. -/
theorem Lay.head {p q : Nat} {t : Rf.Tr} {ts : List Rf.Tr} (h : Lay C B p (t :: ts) q) : p < B.length ∧ (Lk.bodyAt B p).kind ≤ 5 := by
  cases h with
  | plain hc hk hp hn hw h => exact ⟨hp, by omega⟩
  | ifOne hc hk hp hw hn hb hq hm hmn he h => exact ⟨hp, by omega⟩
  | ifTwo hc hk hp hw hn hb hq hm he ho hq2 hm2 hmn hmn2 h => exact ⟨hp, by omega⟩
  | loop hc hk hp hw hn hb hq hm hmn he h => exact ⟨hp, by omega⟩
theorem Lay.empty {p q : Nat} (h : Lay C B p [] q) : q = p := by
  cases h; rfl
theorem At.q_le {p q : Nat} {r : List (List Rf.Tr × Nat)} (h : At C B p r q) : q ≤ B.length := by
  induction r with
  | nil => exact Nat.le_of_eq h.2
  | cons x r ih =>
    obtain ⟨l, i⟩ := x
    rcases h with ⟨_, h⟩ | ⟨_, _, h⟩ | ⟨_, h, _⟩
    · exact ih h
    · exact Nat.le_of_eq h
    · exact Nat.le_of_lt h

theorem pass_end (n : Nat) : Lk.pass B n B.length = B.length := by
  cases n with
  | zero => rfl
  | succ n => unfold Lk.pass; rw [if_neg (by omega)]
theorem pass_stay (n p : Nat) (h : (Lk.bodyAt B p).kind ≤ 5) : Lk.pass B n p = p := by
  cases n with
  | zero => rfl
  | succ n => unfold Lk.pass; rw [if_neg (by omega)]
theorem pass_mark (n p : Nat) (hp : p < B.length) (h : (Lk.bodyAt B p).kind = 6) : Lk.pass B (n + 1) p = Lk.pass B n (Lk.bodyAt B p).next := by
  conv => lhs; unfold Lk.pass
  rw [if_pos ⟨hp, h⟩]

/-- Marks are passed just as places are left. -/
theorem pass_pop (r : List (List Rf.Tr × Nat)) (p q n : Nat) (h : At C B p r q) (hn : B.length ≤ n + q) : ∃ q', At C B (Lk.pass B n p) (pop r) q' := by
  induction r generalizing p q n with
  | nil =>
    have e : p = B.length := h.1
    subst e
    rw [pass_end]
    exact ⟨_, h⟩
  | cons x r ih =>
    obtain ⟨l, i⟩ := x
    by_cases hi : i < l.length
    · have e : pop ((l, i) :: r) = (l, i) :: r := by unfold pop; rw [if_pos hi]
      have hl : Lay C B p (l.drop i) q := by
        rcases h with ⟨h, _⟩ | ⟨_, h, _⟩ | ⟨h, _⟩
        · omega
        · exact h
        · exact h
      rw [List.drop_eq_getElem_cons hi] at hl
      rw [e, pass_stay n p hl.head.2]
      exact ⟨q, h⟩
    · have e : pop ((l, i) :: r) = pop r := by
        conv => lhs; unfold pop
        rw [if_neg hi]
      have hd : l.drop i = [] := List.drop_of_length_le (by omega)
      rw [e]
      rcases h with ⟨_, h⟩ | ⟨hr, h1, h2⟩ | ⟨h1, h2, h3, q', h4, h5⟩
      · exact ih p q n h hn
      · subst hr
        rw [hd] at h1
        have := h1.empty
        have hp : p = B.length := by omega
        subst hp
        rw [pass_end]
        exact ⟨B.length, rfl, rfl⟩
      · rw [hd] at h1
        have hpq := h1.empty
        subst hpq
        cases n with
        | zero => omega
        | succ n =>
          rw [pass_mark n q h2 h3]
          exact ih _ q' n h5 (by omega)

/-- What stands at a place where a statement is at hand. -/
theorem At.here {p q : Nat} {l : List Rf.Tr} {i : Nat} {r : List (List Rf.Tr × Nat)} (h : At C B p ((l, i) :: r) q) (hi : i < l.length) : Lay C B p (l[i] :: l.drop (i + 1)) q ∧ (∀ p', Lay C B p' (l.drop (i + 1)) q → At C B p' ((l, i + 1) :: r) q) ∧ At C B p ((l, i) :: r) q := by
  refine ⟨?_, ?_, h⟩
  · rw [← List.drop_eq_getElem_cons hi]
    rcases h with ⟨h, _⟩ | ⟨_, h, _⟩ | ⟨h, _⟩
    · omega
    · exact h
    · exact h
  · intro p' hl
    rcases h with ⟨h, _⟩ | ⟨hr, _, hq⟩ | ⟨_, hq, hk, hx⟩
    · omega
    · exact .inr (.inl ⟨hr, hl, hq⟩)
    · exact .inr (.inr ⟨hl, hq, hk, hx⟩)

/-- A statement that stands for itself: the place behind. -/
theorem At.plain {p q : Nat} {l : List Rf.Tr} {i : Nat} {r : List (List Rf.Tr × Nat)} (h : At C B p ((l, i) :: r) q) (hi : i < l.length) (hw : ¬ (wd (words l[i]) 0 = Rf.wIf ∨ wd (words l[i]) 0 = Rf.wWhile)) : C (Lk.bodyAt B p) (words l[i]) ∧ (Lk.bodyAt B p).kind < 4 ∧ At C B (Lk.bodyAt B p).next ((l, i + 1) :: r) q := by
  obtain ⟨h1, h2, _⟩ := h.here hi
  generalize l[i] = t at h1 hw
  cases h1 with
  | plain hc hk hp hn _ h => exact ⟨hc, hk, by rw [hn]; exact h2 _ h⟩
  | ifOne hc hk hp hw' hn hb hq hm hmn he h => exact absurd (.inl hw') hw
  | ifTwo hc hk hp hw' hn hb hq hm he ho hq2 hm2 hmn hmn2 h => exact absurd (.inl hw') hw
  | loop hc hk hp hw' hn hb hq hm hmn he h => exact absurd (.inr hw') hw

theorem wIf_ne : Rf.wIf ≠ Rf.wWhile := by decide

/-- An if. -/
theorem At.cond {p q : Nat} {l : List Rf.Tr} {i : Nat} {r : List (List Rf.Tr × Nat)} (h : At C B p ((l, i) :: r) q) (hi : i < l.length) (hw : wd (words l[i]) 0 = Rf.wIf) :
    C (Lk.bodyAt B p) (words l[i]) ∧ (Lk.bodyAt B p).kind = 4 ∧ (∃ q', At C B (Lk.bodyAt B p).next ((body l[i], 0) :: (l, i + 1) :: r) q') ∧ ∃ q', At C B (Lk.bodyAt B p).els ((other l[i], 0) :: (l, i + 1) :: r) q' := by
  obtain ⟨h1, h2, _⟩ := h.here hi
  generalize l[i] = t at h1 hw
  cases h1 with
  | plain hc hk hp hn hw' h => exact absurd (.inl hw) hw'
  | loop hc hk hp hw' hn hb hq hm hmn he h => exact absurd (hw.symm.trans hw') wIf_ne
  | ifOne hc hk hp hw' hn hb hq hm hmn he h =>
    have hle := h.le
    exact ⟨hc, hk, ⟨_, by rw [hn]; exact .inr (.inr ⟨hb, hq, hm, q, by omega, by rw [hmn]; exact h2 _ h⟩)⟩, ⟨q, by rw [he]; exact .inl ⟨Nat.zero_le _, h2 _ h⟩⟩⟩
  | ifTwo hc hk hp hw' hn hb hq hm he ho hq2 hm2 hmn hmn2 h =>
    have hle := h.le
    have hlo := ho.le
    exact ⟨hc, hk, ⟨_, by rw [hn]; exact .inr (.inr ⟨hb, hq, hm, q, by omega, by rw [hmn]; exact h2 _ h⟩)⟩, ⟨_, by rw [he]; exact .inr (.inr ⟨ho, hq2, hm2, q, by omega, by rw [hmn2]; exact h2 _ h⟩)⟩⟩

/-- A while. -/
theorem At.loop {p q : Nat} {l : List Rf.Tr} {i : Nat} {r : List (List Rf.Tr × Nat)} (h : At C B p ((l, i) :: r) q) (hi : i < l.length) (hw : wd (words l[i]) 0 = Rf.wWhile) :
    C (Lk.bodyAt B p) (words l[i]) ∧ (Lk.bodyAt B p).kind = 5 ∧ (∃ q', At C B (Lk.bodyAt B p).next ((body l[i], 0) :: (l, i) :: r) q') ∧ ∃ q', At C B (Lk.bodyAt B p).els ((other l[i], 0) :: (l, i + 1) :: r) q' := by
  obtain ⟨h1, h2, h3⟩ := h.here hi
  generalize l[i] = t at h1 hw
  cases h1 with
  | plain hc hk hp hn hw' h => exact absurd (.inr hw) hw'
  | ifOne hc hk hp hw' hn hb hq hm hmn he h => exact absurd (hw'.symm.trans hw) wIf_ne
  | ifTwo hc hk hp hw' hn hb hq hm he ho hq2 hm2 hmn hmn2 h => exact absurd (hw'.symm.trans hw) wIf_ne
  | loop hc hk hp hw' hn hb hq hm hmn he h =>
    have hle := h.le
    exact ⟨hc, hk, ⟨_, by rw [hn]; exact .inr (.inr ⟨hb, hq, hm, q, by omega, by rw [hmn]; exact h3⟩)⟩, ⟨q, by rw [he]; exact .inl ⟨Nat.zero_le _, h2 _ h⟩⟩⟩


/-- The code's place that a place in the body stands for. -/
theorem link_len (B : List Lk.St) : (Lk.link B).length = Lk.ahead B B.length := by
  unfold Lk.link Lk.ahead
  rw [List.length_map, List.take_length]
theorem link_at (B : List Lk.St) (p : Nat) (hp : p < B.length) (hk : (Lk.bodyAt B p).kind ≤ 5) : Lk.ahead B p < (Lk.link B).length ∧ (Lk.link B).getD (Lk.ahead B p) {} = Lk.linkOne B (Lk.bodyAt B p) := by
  have he : Lk.bodyAt B p = B[p] := by unfold Lk.bodyAt; rw [List.getD_eq_getElem?_getD, List.getElem?_eq_getElem hp]; rfl
  have hs : B = B.take p ++ B[p] :: B.drop (p + 1) := by rw [← List.drop_eq_getElem_cons hp, List.take_append_drop]
  have hf : (B.filter fun s => s.kind ≠ 6) = (B.take p).filter (fun s => s.kind ≠ 6) ++ B[p] :: (B.drop (p + 1)).filter (fun s => s.kind ≠ 6) := by
    conv => lhs; rw [hs]
    rw [List.filter_append, List.filter_cons, if_pos (by rw [he] at hk; simp; omega)]
  unfold Lk.link Lk.ahead
  rw [hf, he]
  refine ⟨by simp, ?_⟩
  rw [List.map_append, List.getD_eq_getElem?_getD, List.getElem?_append_right (by simp)]
  simp

end Go.Proofs.Ytgddmpmcnjlcjaa.Tm

/- The reference's run: its data. -/
namespace Go.Proofs.Ytgddmpmcnjlcjaa
open Go.RowKit
set_option linter.unusedVariables false

/-- A run's names and values. -/
structure RD (R P gn cn : Nat) (ns : List ByteArray) (gv cv : Nat) (vals : Nat → Nat) (w : World) : Prop where
  c0 : w.cell? ⟨R, 0, none⟩ = some (.pointer (some ⟨P, 0, none⟩))
  n0 : w.cell? ⟨P, 0, none⟩ = some (.slice (some ⟨gn, 0, none⟩) ns.length cn)
  hn : Wds w gn ns
  hl : ns.length ≤ 1000
  v0 : w.cell? ⟨R, 1, none⟩ = some (.slice (some ⟨gv, 0, none⟩) ns.length cv)
  hv : ∀ i, i < ns.length → w.cell? ⟨gv, i, none⟩ = some (.int .i64 (vals i))

/-- Which name; an atom's value. -/
def nix (ns : List ByteArray) (s : ByteArray) : Nat := (Rf.oneOf s.toList (ns.map ByteArray.toList)).getD 0
def nval (ns : List ByteArray) (vals : Nat → Nat) (s : ByteArray) : Nat :=
  match Lk.num? s.toList with
  | some n => n
  | none => vals (nix ns s)
/-- A name that was declared. -/
def isNm (ns : List ByteArray) (s : ByteArray) : Prop := ∃ h : s.size = 1, 97 ≤ (s[0]'(by omega)).toNat ∧ (Rf.oneOf s.toList (ns.map ByteArray.toList)).isSome = true
def isAtm (ns : List ByteArray) (s : ByteArray) : Prop := (Lk.num? s.toList).isSome = true ∨ isNm ns s

theorem oneOf_lt {l : List Lk.Wd} {w : Lk.Wd} {i : Nat} (h : Rf.oneOf w l = some i) : i < l.length := by
  induction l generalizing i with
  | nil => cases h
  | cons x l ih =>
    have h : (if (x == w) = true then some 0 else (Rf.oneOf w l).map (· + 1)) = some i := h
    by_cases e : (x == w) = true
    · rw [if_pos e] at h; cases h; simp
    · rw [if_neg e] at h
      cases hx : Rf.oneOf w l with
      | none => rw [hx] at h; cases h
      | some j =>
        rw [hx] at h
        have hj : j + 1 = i := by simpa using h
        have := ih hx
        simp only [List.length_cons]; omega

theorem RD.drew {R P gn cn : Nat} {ns : List ByteArray} {gv cv : Nat} {vals : Nat → Nat} {w : World} (d : RD R P gn cn ns gv cv vals w) (m : Nat) : RD R P gn cn ns gv cv vals (w.drewN m) :=
  ⟨by simpa using d.c0, by simpa using d.n0, fun j hj => by simpa using d.hn j hj, d.hl, by simpa using d.v0, fun j hj => by simpa using d.hv j hj⟩

theorem isNm.at {ns : List ByteArray} {s : ByteArray} (h : isNm ns s) : Rf.oneOf s.toList (ns.map ByteArray.toList) = some (nix ns s) ∧ nix ns s < ns.length := by
  obtain ⟨_, _, h⟩ := h
  unfold nix
  cases hx : Rf.oneOf s.toList (ns.map ByteArray.toList) with
  | none => rw [hx] at h; cases h
  | some i => exact ⟨rfl, by simpa using oneOf_lt hx⟩

theorem ridx {R P gn cn : Nat} {ns : List ByteArray} {gv cv : Nat} {vals : Nat → Nat} {w : World} (d : RD R P gn cn ns gv cv vals w) {s : ByteArray} (h : isNm ns s) :
    Calls Try.prog 34 #[.pointer (some ⟨R, 0, none⟩), .string s] w fun e w' => e = .returned (.int .i64 (nix ns s)) ∧ w' = w :=
  rindex_any R P gn cn ns w d.c0 d.n0 d.hn d.hl s _ h.at.1

theorem rval {R P gn cn : Nat} {ns : List ByteArray} {gv cv : Nat} {vals : Nat → Nat} {w : World} (d : RD R P gn cn ns gv cv vals w) {s : ByteArray} (h : isAtm ns s) :
    Calls Try.prog 31 #[.pointer (some ⟨R, 0, none⟩), .string s] w fun e w' => e = .returned (.int .i64 (nval ns vals s)) ∧ ∃ m, w' = w.drewN m := by
  unfold nval
  cases hx : Lk.num? s.toList with
  | some n => exact (rvalue_num R s n hx w).mono (fun e w' ⟨h1, h2⟩ => ⟨h1, 0, h2⟩)
  | none =>
    have hm : isNm ns s := by
      rcases h with h | h
      · rw [hx] at h; cases h
      · exact h
    obtain ⟨h1, h2, h3⟩ := hm
    obtain ⟨e1, e2⟩ := isNm.at ⟨h1, h2, h3⟩
    exact rvalue_name R P gn cn ns w d.c0 d.n0 d.hn d.hl s _ e1 h1 h2 gv cv ns.length _ d.v0 e2 (d.hv _ e2)
end Go.Proofs.Ytgddmpmcnjlcjaa

/- The reference's run: an array's cell. -/
namespace Go.Proofs.Ytgddmpmcnjlcjaa
open Go.RowKit
set_option linter.unusedVariables false

/-- A run's arrays, and whether it is trapped. -/
structure RC (R P : Nat) (nn gs cs gc cc : Nat) (ga : Nat → Nat) (sz : Nat → Nat) (cel : Nat → Nat → Nat) (w : World) : Prop where
  s0 : w.cell? ⟨P, 2, none⟩ = some (.slice (some ⟨gs, 0, none⟩) nn cs)
  hs : ∀ i, i < nn → w.cell? ⟨gs, i, none⟩ = some (.int .i64 (sz i))
  a0 : w.cell? ⟨R, 2, none⟩ = some (.slice (some ⟨gc, 0, none⟩) nn cc)
  ha : ∀ i, i < nn → w.cell? ⟨gc, i, none⟩ = some (.slice (some ⟨ga i, 0, none⟩) (sz i) (sz i))
  hc : ∀ i j, i < nn → j < sz i → w.cell? ⟨ga i, j, none⟩ = some (.int .i64 (cel i j))
  fc : ∀ i j, i < nn → j < sz i → w.frozen? ⟨ga i, j, none⟩ = false
  f4 : w.frozen? ⟨R, 4, none⟩ = false
  b4 : ∃ b, w.cell? ⟨R, 4, none⟩ = some (.bool b)

theorem RC.drew {R P nn gs cs gc cc : Nat} {ga sz : Nat → Nat} {cel : Nat → Nat → Nat} {w : World} (d : RC R P nn gs cs gc cc ga sz cel w) (m : Nat) : RC R P nn gs cs gc cc ga sz cel (w.drewN m) :=
  ⟨by simpa using d.s0, fun j hj => by simpa using d.hs j hj, by simpa using d.a0, fun j hj => by simpa using d.ha j hj, fun i j hi hj => by simpa using d.hc i j hi hj, fun i j hi hj => by simpa using d.fc i j hi hj, by simpa using d.f4, by simpa using d.b4⟩

end Go.Proofs.Ytgddmpmcnjlcjaa

/- The reference's run: an array's cell. -/
namespace Go.Proofs.Ytgddmpmcnjlcjaa
open Go.RowKit
set_option linter.unusedVariables false

section
variable {R P gn cn : Nat} {ns : List ByteArray} {gv cv : Nat} {vals : Nat → Nat} {gs cs gc cc : Nat} {ga : Nat → Nat} {sz : Nat → Nat} {cel : Nat → Nat → Nat} {w : World}

theorem lit_load : (⟨#[108, 111, 97, 100]⟩ : ByteArray).toList = Rf.wLoad := by rw [ByteArray.toList_eq]; rfl

set_option maxRecDepth 100000 in
set_option maxHeartbeats 400000 in
theorem cell_trap (d : RD R P gn cn ns gv cv vals w) (c : RC R P ns.length gs cs gc cc ga sz cel w) (gw cw : Nat) (w0 w1 w2 w3 : ByteArray) (hw : Wds w gw [w0, w1, w2, w3]) (h0 : w0.toList = Rf.wLoad) (n1 : isNm ns w1) (n2 : isNm ns w2) (n3 : isAtm ns w3) (hx : nval ns vals w3 < 16) (hge : sz (nix ns w2) ≤ nval ns vals w3) :
    Calls Try.prog 32 #[.pointer (some ⟨R, 0, none⟩), .slice (some ⟨gw, 0, none⟩) 4 cw] w fun e w' => e = .returned (.int .i64 ((32 + nval ns vals w3 : Nat) : Int)) ∧ ∃ m1 m2, w' = ((w.drewN m1).setCell ⟨R, 4, none⟩ (.bool true)).drewN m2 := by
  have W0 := hw 0 (by simp)
  have W1 := hw 1 (by simp)
  have W2 := hw 2 (by simp)
  have W3 := hw 3 (by simp)
  simp only [List.getD_cons_zero, List.getD_cons_succ] at W0 W1 W2 W3
  have I1 : Hid (Calls Try.prog 34 #[.pointer (some ⟨R, 0, none⟩), .string w1] w fun e w' => e = .returned (.int .i64 (nix ns w1)) ∧ w' = w) := ridx d n1
  have V2 : Hid (Calls Try.prog 31 #[.pointer (some ⟨R, 0, none⟩), .string w2] w fun e w' => e = .returned (.int .i64 (nval ns vals w2)) ∧ ∃ m', w' = w.drewN m') := rval d (.inr n2)
  have I2 : Hid (∀ m : Nat, Calls Try.prog 34 #[.pointer (some ⟨R, 0, none⟩), .string w2] (w.drewN m) fun e w' => e = .returned (.int .i64 (nix ns w2)) ∧ w' = w.drewN m) := fun m => ridx (d.drew m) n2
  have V3 : Hid (∀ m : Nat, Calls Try.prog 31 #[.pointer (some ⟨R, 0, none⟩), .string w3] (w.drewN m) fun e w' => e = .returned (.int .i64 (nval ns vals w3)) ∧ ∃ m', w' = (w.drewN m).drewN m') := fun m => rval (d.drew m) n3
  have hi2 := n2.at.2
  have S0 := c.s0
  have S1 := c.hs _ hi2
  have c0 := d.c0
  have f4 := c.f4
  obtain ⟨b, b4⟩ := c.b4
  have hE : w0.toList = [108, 111, 97, 100] := h0
  have hiI : (nix ns w2 : Int) < (ns.length : Int) := by omega
  have hxI : (nval ns vals w3 : Int) < 16 := by omega
  have hgI : (sz (nix ns w2) : Int) ≤ (nval ns vals w3 : Int) := by omega
  clear hw n1 n2 n3 d c h0
  go_enter Try.func32, Try.ntmps32
  go_wp2_with (first
    | (go_at_call_of 34 (Value.string w1); refine I1.out.mono ?_; rintro e w' ⟨rfl, hw'⟩; have hw1 := hw'.symm; subst hw1)
    | (go_at_call_of 31 (Value.string w2); refine V2.out.mono ?_; rintro e w' ⟨rfl, m1, hw'⟩; subst hw')
    | (go_at_call_of 34 (Value.string w2); refine (I2.out _).mono ?_; rintro e w' ⟨rfl, hw'⟩; subst hw')
    | (go_at_call_of 31 (Value.string w3); refine (V3.out _).mono ?_; rintro e w' ⟨rfl, m2, hw'⟩; subst hw')
    | (go_at_call 28; refine (ritem_any 2 _ _ (by omega) hx).mono ?_; rintro e w' ⟨rfl, hw'⟩; subst hw'))
  go_ret
  exact ⟨by push_cast; rfl, _, 0, rfl⟩
end
end Go.Proofs.Ytgddmpmcnjlcjaa

/- The reference's run: an array's cell, the other ways. -/
namespace Go.Proofs.Ytgddmpmcnjlcjaa
open Go.RowKit
set_option linter.unusedVariables false

section
variable {R P gn cn : Nat} {ns : List ByteArray} {gv cv : Nat} {vals : Nat → Nat} {gs cs gc cc : Nat} {ga : Nat → Nat} {sz : Nat → Nat} {cel : Nat → Nat → Nat} {w : World}

set_option maxRecDepth 100000 in
set_option maxHeartbeats 400000 in
theorem cell_load (d : RD R P gn cn ns gv cv vals w) (c : RC R P ns.length gs cs gc cc ga sz cel w) (gw cw : Nat) (w0 w1 w2 w3 : ByteArray) (hw : Wds w gw [w0, w1, w2, w3]) (h0 : w0.toList = Rf.wLoad) (n1 : isNm ns w1) (n2 : isNm ns w2) (n3 : isAtm ns w3) (hx : nval ns vals w3 < 16) (fv : ∀ i, i < ns.length → w.frozen? ⟨gv, i, none⟩ = false) (hge : nval ns vals w3 < sz (nix ns w2)) :
    Calls Try.prog 32 #[.pointer (some ⟨R, 0, none⟩), .slice (some ⟨gw, 0, none⟩) 4 cw] w fun e w' => e = .returned (.int .i64 ((32 + nval ns vals w3 : Nat) : Int)) ∧ ∃ m1 m2, w' = ((w.drewN m1).setCell ⟨gv, nix ns w1, none⟩ (.int .i64 (cel (nix ns w2) (nval ns vals w3)))).drewN m2 := by
  have W0 := hw 0 (by simp)
  have W1 := hw 1 (by simp)
  have W2 := hw 2 (by simp)
  have W3 := hw 3 (by simp)
  simp only [List.getD_cons_zero, List.getD_cons_succ] at W0 W1 W2 W3
  have I1 : Hid (Calls Try.prog 34 #[.pointer (some ⟨R, 0, none⟩), .string w1] w fun e w' => e = .returned (.int .i64 (nix ns w1)) ∧ w' = w) := ridx d n1
  have V2 : Hid (Calls Try.prog 31 #[.pointer (some ⟨R, 0, none⟩), .string w2] w fun e w' => e = .returned (.int .i64 (nval ns vals w2)) ∧ ∃ m', w' = w.drewN m') := rval d (.inr n2)
  have I2 : Hid (∀ m : Nat, Calls Try.prog 34 #[.pointer (some ⟨R, 0, none⟩), .string w2] (w.drewN m) fun e w' => e = .returned (.int .i64 (nix ns w2)) ∧ w' = w.drewN m) := fun m => ridx (d.drew m) n2
  have V3 : Hid (∀ m : Nat, Calls Try.prog 31 #[.pointer (some ⟨R, 0, none⟩), .string w3] (w.drewN m) fun e w' => e = .returned (.int .i64 (nval ns vals w3)) ∧ ∃ m', w' = (w.drewN m).drewN m') := fun m => rval (d.drew m) n3
  have hi2 := n2.at.2
  have S0 := c.s0
  have S1 := c.hs _ hi2
  have c0 := d.c0
  have f4 := c.f4
  obtain ⟨b, b4⟩ := c.b4
  have hE : w0.toList = [108, 111, 97, 100] := h0
  have hiI : (nix ns w2 : Int) < (ns.length : Int) := by omega
  have hxI : (nval ns vals w3 : Int) < 16 := by omega
  have hgI : (nval ns vals w3 : Int) < (sz (nix ns w2) : Int) := by omega
  have hi1 := n1.at.2
  have hi1I : (nix ns w1 : Int) < (ns.length : Int) := by omega
  have A0 := c.a0
  have A1 := c.ha _ hi2
  have A2 := c.hc _ _ hi2 hge
  have v0 := d.v0
  have v1 := d.hv _ hi1
  have fv1 := fv _ hi1
  have J1 : Hid (∀ m : Nat, Calls Try.prog 34 #[.pointer (some ⟨R, 0, none⟩), .string w1] (w.drewN m) fun e w' => e = .returned (.int .i64 (nix ns w1)) ∧ w' = w.drewN m) := fun m => ridx (d.drew m) n1
  clear hw n1 n2 n3 d c h0
  go_enter Try.func32, Try.ntmps32
  go_wp2_with (first
    | (go_at_call_of 34 (Value.string w1); refine I1.out.mono ?_; rintro e w' ⟨rfl, hw'⟩; have hw1 := hw'.symm; subst hw1))
  go_wp2_with (first
    | (go_at_call_of 34 (Value.string w1); refine (J1.out _).mono ?_; rintro e w' ⟨rfl, hw'⟩; subst hw')
    | (go_at_call_of 31 (Value.string w2); refine V2.out.mono ?_; rintro e w' ⟨rfl, m1, hw'⟩; subst hw')
    | (go_at_call_of 34 (Value.string w2); refine (I2.out _).mono ?_; rintro e w' ⟨rfl, hw'⟩; subst hw')
    | (go_at_call_of 31 (Value.string w3); refine (V3.out _).mono ?_; rintro e w' ⟨rfl, m2, hw'⟩; subst hw')
    | (go_at_call 28; refine (ritem_any 2 _ _ (by omega) hx).mono ?_; rintro e w' ⟨rfl, hw'⟩; subst hw'))
  go_region
  go_wp2_with (first | (go_at_call 28; refine (ritem_any 2 _ _ (by omega) hx).mono ?_; rintro e w' ⟨rfl, hw'⟩; subst hw'))
  go_ret
  exact ⟨by push_cast; rfl, _, 0, rfl⟩
end
end Go.Proofs.Ytgddmpmcnjlcjaa

/- The reference's run: an array's cell, the other ways. -/
namespace Go.Proofs.Ytgddmpmcnjlcjaa
open Go.RowKit
set_option linter.unusedVariables false

section
variable {R P gn cn : Nat} {ns : List ByteArray} {gv cv : Nat} {vals : Nat → Nat} {gs cs gc cc : Nat} {ga : Nat → Nat} {sz : Nat → Nat} {cel : Nat → Nat → Nat} {w : World}

set_option maxRecDepth 100000 in
set_option maxHeartbeats 400000 in
theorem cell_trap' (d : RD R P gn cn ns gv cv vals w) (c : RC R P ns.length gs cs gc cc ga sz cel w) (gw cw : Nat) (w0 w1 w2 w3 : ByteArray) (hw : Wds w gw [w0, w1, w2, w3]) (h0 : w0.toList = Rf.wStore) (n1 : isNm ns w1) (n2 : isAtm ns w2) (n3 : isAtm ns w3) (hx : nval ns vals w2 < 16) (hge : sz (nix ns w1) ≤ nval ns vals w2) :
    Calls Try.prog 32 #[.pointer (some ⟨R, 0, none⟩), .slice (some ⟨gw, 0, none⟩) 4 cw] w fun e w' => e = .returned (.int .i64 ((32 + nval ns vals w2 : Nat) : Int)) ∧ ∃ m1 m2, w' = ((w.drewN m1).setCell ⟨R, 4, none⟩ (.bool true)).drewN m2 := by
  have W0 := hw 0 (by simp)
  have W1 := hw 1 (by simp)
  have W2 := hw 2 (by simp)
  have W3 := hw 3 (by simp)
  simp only [List.getD_cons_zero, List.getD_cons_succ] at W0 W1 W2 W3
  have I1 : Hid (Calls Try.prog 34 #[.pointer (some ⟨R, 0, none⟩), .string w1] w fun e w' => e = .returned (.int .i64 (nix ns w1)) ∧ w' = w) := ridx d n1
  have V2 : Hid (Calls Try.prog 31 #[.pointer (some ⟨R, 0, none⟩), .string w2] w fun e w' => e = .returned (.int .i64 (nval ns vals w2)) ∧ ∃ m', w' = w.drewN m') := rval d n2
  have V3 : Hid (∀ m : Nat, Calls Try.prog 31 #[.pointer (some ⟨R, 0, none⟩), .string w3] (w.drewN m) fun e w' => e = .returned (.int .i64 (nval ns vals w3)) ∧ ∃ m', w' = (w.drewN m).drewN m') := fun m => rval (d.drew m) n3
  have hi2 := n1.at.2
  have S0 := c.s0
  have S1 := c.hs _ hi2
  have c0 := d.c0
  have f4 := c.f4
  obtain ⟨b, b4⟩ := c.b4
  have hE : w0.toList = [115, 116, 111, 114, 101] := h0
  have hiI : (nix ns w1 : Int) < (ns.length : Int) := by omega
  have hxI : (nval ns vals w2 : Int) < 16 := by omega
  have hgI : (sz (nix ns w1) : Int) ≤ (nval ns vals w2 : Int) := by omega
  clear hw n1 n2 n3 d c h0
  go_enter Try.func32, Try.ntmps32
  go_wp2_with (first
    | (go_at_call_of 34 (Value.string w1); refine I1.out.mono ?_; rintro e w' ⟨rfl, hw'⟩; have hw1 := hw'.symm; subst hw1)
    | (go_at_call_of 31 (Value.string w2); refine V2.out.mono ?_; rintro e w' ⟨rfl, m1, hw'⟩; subst hw')
    | (go_at_call_of 31 (Value.string w3); refine (V3.out _).mono ?_; rintro e w' ⟨rfl, m2, hw'⟩; subst hw')
    | (go_at_call 28; refine (ritem_any 2 _ _ (by omega) hx).mono ?_; rintro e w' ⟨rfl, hw'⟩; subst hw'))
  go_ret
  exact ⟨by push_cast; rfl, _, 0, rfl⟩
end
end Go.Proofs.Ytgddmpmcnjlcjaa

/- The reference's run: an array's cell, the other ways. -/
namespace Go.Proofs.Ytgddmpmcnjlcjaa
open Go.RowKit
set_option linter.unusedVariables false

section
variable {R P gn cn : Nat} {ns : List ByteArray} {gv cv : Nat} {vals : Nat → Nat} {gs cs gc cc : Nat} {ga : Nat → Nat} {sz : Nat → Nat} {cel : Nat → Nat → Nat} {w : World}

set_option maxRecDepth 100000 in
set_option maxHeartbeats 400000 in
theorem cell_store (d : RD R P gn cn ns gv cv vals w) (c : RC R P ns.length gs cs gc cc ga sz cel w) (gw cw : Nat) (w0 w1 w2 w3 : ByteArray) (hw : Wds w gw [w0, w1, w2, w3]) (h0 : w0.toList = Rf.wStore) (n1 : isNm ns w1) (n2 : isAtm ns w2) (n3 : isAtm ns w3) (hx : nval ns vals w2 < 16) (hge : nval ns vals w2 < sz (nix ns w1)) :
    Calls Try.prog 32 #[.pointer (some ⟨R, 0, none⟩), .slice (some ⟨gw, 0, none⟩) 4 cw] w fun e w' => e = .returned (.int .i64 ((32 + nval ns vals w2 : Nat) : Int)) ∧ ∃ m1 m2, w' = ((w.drewN m1).setCell ⟨ga (nix ns w1), nval ns vals w2, none⟩ (.int .i64 (nval ns vals w3))).drewN m2 := by
  have W0 := hw 0 (by simp)
  have W1 := hw 1 (by simp)
  have W2 := hw 2 (by simp)
  have W3 := hw 3 (by simp)
  simp only [List.getD_cons_zero, List.getD_cons_succ] at W0 W1 W2 W3
  have I1 : Hid (Calls Try.prog 34 #[.pointer (some ⟨R, 0, none⟩), .string w1] w fun e w' => e = .returned (.int .i64 (nix ns w1)) ∧ w' = w) := ridx d n1
  have V2 : Hid (Calls Try.prog 31 #[.pointer (some ⟨R, 0, none⟩), .string w2] w fun e w' => e = .returned (.int .i64 (nval ns vals w2)) ∧ ∃ m', w' = w.drewN m') := rval d n2
  have V3 : Hid (∀ m : Nat, Calls Try.prog 31 #[.pointer (some ⟨R, 0, none⟩), .string w3] (w.drewN m) fun e w' => e = .returned (.int .i64 (nval ns vals w3)) ∧ ∃ m', w' = (w.drewN m).drewN m') := fun m => rval (d.drew m) n3
  have hi2 := n1.at.2
  have S0 := c.s0
  have S1 := c.hs _ hi2
  have c0 := d.c0
  have f4 := c.f4
  obtain ⟨b, b4⟩ := c.b4
  have hE : w0.toList = [115, 116, 111, 114, 101] := h0
  have hiI : (nix ns w1 : Int) < (ns.length : Int) := by omega
  have hxI : (nval ns vals w2 : Int) < 16 := by omega
  have hgI : (nval ns vals w2 : Int) < (sz (nix ns w1) : Int) := by omega
  have A0 := c.a0
  have A1 := c.ha _ hi2
  have A2 := c.hc _ _ hi2 hge
  have A3 := c.fc _ _ hi2 hge
  clear hw n1 n2 n3 d c h0
  go_enter Try.func32, Try.ntmps32
  go_wp2_with (first
    | (go_at_call_of 34 (Value.string w1); refine I1.out.mono ?_; rintro e w' ⟨rfl, hw'⟩; have hw1 := hw'.symm; subst hw1)
    | (go_at_call_of 31 (Value.string w2); refine V2.out.mono ?_; rintro e w' ⟨rfl, m1, hw'⟩; subst hw')
    | (go_at_call_of 31 (Value.string w3); refine (V3.out _).mono ?_; rintro e w' ⟨rfl, m2, hw'⟩; subst hw')
    | (go_at_call 28; refine (ritem_any 2 _ _ (by omega) hx).mono ?_; rintro e w' ⟨rfl, hw'⟩; subst hw'))
  go_ret
  exact ⟨by push_cast; rfl, _, 0, rfl⟩
end
end Go.Proofs.Ytgddmpmcnjlcjaa
