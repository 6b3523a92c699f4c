import Derived.Test.YtgddmpmcnjlcjaaK14
import Derived.Test.YtgddmpmcnjlcjaaK01
/- What a statement's line adds to the body. -/
namespace Go.Proofs.Ytgddmpmcnjlcjaa.Tm
open Lk (Wd wd RS isName lat)
set_option linter.unusedVariables false

variable {r r' : RS} {ws : List Wd}

theorem atom_eq (r : RS) : Lk.atom? r = atomOf (Lk.find r) := by
  funext w
  unfold Lk.atom? atomOf
  rfl

/-- A statement was added. -/
def Added (r r' : RS) (s : Lk.St) : Prop := r.stmts < 12 ∧ r' = { r with stmts := r.stmts + 1, body := r.body ++ [{ s with next := r.body.length + 1 }] }
theorem add_out {s : Lk.St} (e : Lk.add r s = some r') : Added r r' s := by
  unfold Lk.add at e
  split at e
  · rename_i h; cases e; exact ⟨h, rfl⟩
  · cases e
theorem Added.same {s : Lk.St} (h : Added r r' s) : Same r r' := by
  obtain ⟨_, rfl⟩ := h
  exact ⟨rfl, rfl, rfl, rfl⟩

theorem find_eq {w : Wd} {k : Nat} (h : (Lk.find r w).1 = k) : Lk.find r w = (k, (Lk.find r w).2) := by rw [← h]

theorem cst_out (e : Lk.takeOut r ws = some r') (h0 : wd ws 0 = Rf.wOut) : ∃ s, Added r r' s ∧ s.kind = 3 ∧ Cst (Lk.find r) s ws := by
  unfold Lk.takeOut at e
  split at e
  · split at e
    · rename_i x hx
      rw [atom_eq] at hx
      exact ⟨_, add_out e, rfl, ⟨fun _ => ⟨h0, hx⟩, fun h => (by rcases h with h | h <;> cases h), fun h => (by cases h), fun h => (by cases h), fun h => (by cases h)⟩⟩
    · cases e
  · cases e
theorem cst_load (e : Lk.takeLoad r ws = some r') (h0 : wd ws 0 = Rf.wLoad) : ∃ s, Added r r' s ∧ s.kind = 1 ∧ Cst (Lk.find r) s ws := by
  unfold Lk.takeLoad at e
  split at e
  · rename_i hc
    split at e
    · rename_i x hx
      rw [atom_eq] at hx
      exact ⟨_, add_out e, rfl, ⟨fun h => (by cases h), fun h => (by rcases h with h | h <;> cases h), fun _ => ⟨h0, find_eq hc.2.1, find_eq hc.2.2, hx⟩, fun h => (by cases h), fun h => (by cases h)⟩⟩
    · cases e
  · cases e
theorem cst_store (e : Lk.takeStore r ws = some r') (h0 : wd ws 0 = Rf.wStore) : ∃ s, Added r r' s ∧ s.kind = 2 ∧ Cst (Lk.find r) s ws := by
  unfold Lk.takeStore at e
  split at e
  · rename_i hc
    split at e
    · rename_i x y hx hy
      rw [atom_eq] at hx hy
      exact ⟨_, add_out e, rfl, ⟨fun h => (by cases h), fun h => (by rcases h with h | h <;> cases h), fun h => (by cases h), fun _ => ⟨h0, find_eq hc.2, hx, hy⟩, fun h => (by cases h)⟩⟩
    · cases e
  · cases e
theorem cst_assign (e : Lk.takeAssign r ws = some r') (h1 : wd ws 0 ≠ Rf.wOut) (h2 : wd ws 0 ≠ Rf.wLoad) (h3 : wd ws 0 ≠ Rf.wStore) : ∃ s, Added r r' s ∧ s.kind = 0 ∧ Cst (Lk.find r) s ws := by
  unfold Lk.takeAssign at e
  split at e
  · rename_i hc
    split at e
    · rename_i x hx
      rw [atom_eq] at hx
      split at e
      · rename_i hl
        exact ⟨_, add_out e, rfl, ⟨fun h => (by cases h), fun h => (by rcases h with h | h <;> cases h), fun h => (by cases h), fun h => (by cases h), fun _ => ⟨h1, h2, h3, find_eq hc.2.2, hx, .inl ⟨hl, rfl⟩⟩⟩⟩
      · rename_i hl
        split at e
        · rename_i o y ho hy
          rw [atom_eq] at hy
          exact ⟨_, add_out e, rfl, ⟨fun h => (by cases h), fun h => (by rcases h with h | h <;> cases h), fun h => (by cases h), fun h => (by cases h), fun _ => ⟨h1, h2, h3, find_eq hc.2.2, hx, .inr ⟨hc.1.resolve_left hl, ho, hy⟩⟩⟩⟩
        · cases e
    · cases e
  · cases e
/-- An if's or a while's head. -/
theorem cst_branch {k : Nat} (hk : k = 4 ∨ k = 5) (e : Lk.takeBranch r ws k = some r') : ∃ s q, Added r q s ∧ r' = { q with opn := Lk.upd q.opn q.depth (r.body.length, 0), depth := q.depth + 1 } ∧ s.kind = k ∧ Cst (Lk.find r) s ws := by
  unfold Lk.takeBranch at e
  split at e
  · split at e
    · rename_i x hx
      rw [atom_eq] at hx
      split at e
      · rename_i q hq
        cases e
        refine ⟨_, q, add_out hq, rfl, rfl, ⟨fun h => ?_, fun _ => hx, fun h => ?_, fun h => ?_, fun h => ?_⟩⟩
        · have h' : k = 3 := h; omega
        · have h' : k = 1 := h; omega
        · have h' : k = 2 := h; omega
        · have h' : k = 0 := h; omega
      · cases e
    · cases e
  · cases e

end Go.Proofs.Ytgddmpmcnjlcjaa.Tm

namespace Go.Proofs.Ytgddmpmcnjlcjaa.Lk
set_option linter.unusedVariables false

def glue (c : UInt8) : List Wd → Wd
  | [] => []
  | [x] => x
  | x :: y :: r => x ++ c :: glue c (y :: r)
theorem glue_cut (c : UInt8) (l : Wd) : glue c (cut c l) = l := by
  induction l with
  | nil => rfl
  | cons x xs ih =>
    have hne := cut_ne c xs
    unfold cut
    split
    · rename_i hx
      cases hc : cut c xs with
      | nil => exact absurd hc hne
      | cons y ys =>
        rw [hc] at ih
        show [] ++ c :: glue c (y :: ys) = x :: xs
        rw [ih, hx]; rfl
    · cases hc : cut c xs with
      | nil => exact absurd hc hne
      | cons y ys =>
        rw [hc] at ih
        cases ys with
        | nil =>
          have ih' : y = xs := ih
          show x :: y = x :: xs
          rw [ih']
        | cons z zs =>
          have ih' : y ++ c :: glue c (z :: zs) = xs := ih
          show (x :: y) ++ c :: glue c (z :: zs) = x :: xs
          rw [List.cons_append, ih']

end Go.Proofs.Ytgddmpmcnjlcjaa.Lk

/- Lines taken one by one; where a block stops. -/
namespace Go.Proofs.Ytgddmpmcnjlcjaa.Tm
open Lk (Wd wd RS isName lat)
set_option linter.unusedVariables false

/-- So many lines are taken, from one on. -/
def goN (L : List Wd) : Nat → Nat → RS → Option RS
  | _, 0, r => some r
  | a, n + 1, r => match Lk.take r (Lk.cut 32 (L.getD a [])) with
    | some r1 => goN L (a + 1) n r1
    | none => none

theorem lines_go (L : List Wd) (n : Nat) (a k : Nat) (r : RS) (ha : a + n + 1 = L.length) (h : (Lk.lines r k (L.drop a)).2 = 0) : goN L a n r = some (Lk.lines r k (L.drop a)).1 ∧ (Lk.lines r k (L.drop a)).1.depth = 0 := by
  induction n generalizing a k r with
  | zero =>
    have e : L.drop a = [L[a]] := by rw [List.drop_eq_getElem_cons (by omega), List.drop_of_length_le (by omega)]
    rw [e] at h ⊢
    unfold Lk.lines at h ⊢
    split at h
    · rename_i hc; rw [if_pos hc]; exact ⟨rfl, hc.2⟩
    · simp at h
  | succ n ih =>
    have e : L.drop a = L[a] :: L[a + 1] :: L.drop (a + 2) := by rw [List.drop_eq_getElem_cons (by omega), List.drop_eq_getElem_cons (by omega)]
    have e2 : L.drop (a + 1) = L[a + 1] :: L.drop (a + 2) := List.drop_eq_getElem_cons (by omega)
    have eg : L.getD a [] = L[a] := by rw [List.getD_eq_getElem?_getD, List.getElem?_eq_getElem (by omega)]; rfl
    rw [e] at h ⊢
    cases ht : Lk.take r (Lk.cut 32 L[a]) with
    | none =>
      have : Lk.lines r k (L[a] :: L[a + 1] :: L.drop (a + 2)) = (r, k + 1) := by conv => lhs; unfold Lk.lines; rw [ht]
      rw [this] at h
      simp at h
    | some r1 =>
      have el : Lk.lines r k (L[a] :: L[a + 1] :: L.drop (a + 2)) = Lk.lines r1 (k + 1) (L.drop (a + 1)) := by conv => lhs; unfold Lk.lines; rw [ht, ← e2]
      rw [el] at h ⊢
      have := ih (a + 1) (k + 1) r1 (by omega) h
      refine ⟨?_, this.2⟩
      show (match Lk.take r (Lk.cut 32 (L.getD a [])) with | some r1 => goN L (a + 1) n r1 | none => none) = _
      rw [eg, ht]
      exact this.1

theorem go_step {L : List Wd} {a n : Nat} {r rf : RS} (h : goN L a (n + 1) r = some rf) : ∃ r1, Lk.take r (Lk.cut 32 (L.getD a [])) = some r1 ∧ goN L (a + 1) n r1 = some rf := by
  unfold goN at h
  cases ht : Lk.take r (Lk.cut 32 (L.getD a [])) with
  | none => rw [ht] at h; cases h
  | some r1 => rw [ht] at h; exact ⟨r1, rfl, h⟩

theorem one_word {l x : Wd} (h : (Lk.cut 32 l).length = 1) (hx : wd (Lk.cut 32 l) 0 = x) : l = x := by
  have hg := Lk.glue_cut 32 l
  cases hc : Lk.cut 32 l with
  | nil => rw [hc] at h; cases h
  | cons y ys =>
    cases ys with
    | cons z zs => rw [hc] at h; simp at h
    | nil =>
      rw [hc] at hg hx
      exact hg.symm.trans hx

end Go.Proofs.Ytgddmpmcnjlcjaa.Tm

/- The ways of a block that is right. -/
namespace Go.Proofs.Ytgddmpmcnjlcjaa.Tm
open Lk (Wd wd RS isName lat cut)
open Rf (Rs blk isDecl declare wElse wEnd wIf wWhile fits)
set_option linter.unusedVariables false

inductive Way (L : List Wd) (f depth : Nat) (s : Rs) (out out2 : List Rf.Tr) (s2 : Rs) (w : List Wd) : Prop
  | decl (ds : List Rf.Dc) (h1 : isDecl (wd w 0) = true) (h2 : declare s.ds s.bdy w = some ds) (h : blk L f depth { s with ds := ds, at_ := s.at_ + 1 } out = (true, out2, s2))
  | stop (h1 : isDecl (wd w 0) = false) (h2 : wd w 0 = wElse ∨ wd w 0 = wEnd) (h3 : w.length = 1 ∧ 0 < depth) (h4 : out2 = out) (h5 : s2 = { s with bdy := true })
  | one (b : List Rf.Tr) (sb : Rs) (h1 : isDecl (wd w 0) = false) (h2 : wd w 0 = wIf ∨ wd w 0 = wWhile) (h3 : w.length = 2) (h : blk L f (depth + 1) { s with bdy := true, cnt := s.cnt + 1, at_ := s.at_ + 1 } [] = (true, b, sb)) (h4 : L.getD sb.at_ [] ≠ wElse) (h5 : blk L f depth { sb with at_ := sb.at_ + 1 } (out ++ [.node w b []]) = (true, out2, s2))
  | two (b o : List Rf.Tr) (sb so : Rs) (h1 : isDecl (wd w 0) = false) (h2 : wd w 0 = wIf) (h3 : w.length = 2) (h : blk L f (depth + 1) { s with bdy := true, cnt := s.cnt + 1, at_ := s.at_ + 1 } [] = (true, b, sb)) (h4 : L.getD sb.at_ [] = wElse) (h5 : blk L f (depth + 1) { sb with at_ := sb.at_ + 1 } [] = (true, o, so)) (h6 : L.getD so.at_ [] ≠ wElse) (h7 : blk L f depth { so with at_ := so.at_ + 1 } (out ++ [.node w b o]) = (true, out2, s2))
  | plain (h1 : isDecl (wd w 0) = false) (h2 : ¬ (wd w 0 = wElse ∨ wd w 0 = wEnd)) (h3 : ¬ (wd w 0 = wIf ∨ wd w 0 = wWhile)) (h4 : fits s.ds w = true) (h : blk L f depth { s with bdy := true, cnt := s.cnt + 1, at_ := s.at_ + 1 } (out ++ [.node w [] []]) = (true, out2, s2))

theorem blk_way {L : List Wd} {f depth : Nat} {s : Rs} {out out2 : List Rf.Tr} {s2 : Rs} (h : blk L (f + 1) depth s out = (true, out2, s2)) (hl : s.at_ + 1 < L.length) : Way L f depth s out out2 s2 (cut 32 (L.getD s.at_ [])) := by
  unfold blk at h
  rw [if_pos hl] at h
  generalize cut 32 (L.getD s.at_ []) = w at h
  simp only at h
  cases hd : isDecl (wd w 0) with
  | true =>
    rw [if_pos hd] at h
    cases hx : declare s.ds s.bdy w with
    | none => rw [hx] at h; simp at h
    | some ds => rw [hx] at h; exact .decl ds hd hx h
  | false =>
    rw [if_neg (by rw [hd]; simp)] at h
    by_cases he : wd w 0 = wElse ∨ wd w 0 = wEnd
    · rw [if_pos he] at h
      simp only [Prod.mk.injEq, decide_eq_true_eq] at h
      exact .stop hd he h.1 h.2.1.symm h.2.2.symm
    · rw [if_neg he] at h
      by_cases hc : s.cnt = 12
      · rw [if_pos hc] at h; simp at h
      · rw [if_neg hc] at h
        by_cases hb : wd w 0 = wIf ∨ wd w 0 = wWhile
        · rw [if_pos hb] at h
          by_cases hq : w.length = 2 ∧ depth ≠ 4 ∧ Rf.atom s.ds (wd w 1) = true
          · rw [if_pos hq] at h
            rcases hx : blk L f (depth + 1) { s with bdy := true, cnt := s.cnt + 1, at_ := s.at_ + 1 } [] with ⟨ok, b, sb⟩
            rw [hx] at h
            cases ok with
            | false => simp at h
            | true =>
              simp only at h
              by_cases hel : L.getD sb.at_ [] = wElse
              · rw [if_pos hel] at h
                by_cases hif : wd w 0 = wIf
                · rw [if_pos hif] at h
                  rcases hy : blk L f (depth + 1) { sb with at_ := sb.at_ + 1 } [] with ⟨ok2, o, so⟩
                  rw [hy] at h
                  cases ok2 with
                  | false => simp at h
                  | true =>
                    simp only at h
                    by_cases hel2 : L.getD so.at_ [] = wElse
                    · rw [if_pos hel2] at h; simp at h
                    · rw [if_neg hel2] at h
                      exact .two b o sb so hd hif hq.1 hx hel hy hel2 h
                · rw [if_neg hif] at h; simp at h
              · rw [if_neg hel] at h
                exact .one b sb hd hb hq.1 hx hel h
          · rw [if_neg hq] at h; simp at h
        · rw [if_neg hb] at h
          by_cases hf : fits s.ds w = true
          · rw [if_pos hf] at h
            exact .plain hd he hb hf h
          · rw [if_neg hf] at h; simp at h

theorem blk_end {L : List Wd} {f depth : Nat} {s : Rs} {out out2 : List Rf.Tr} {s2 : Rs} (h : blk L f depth s out = (true, out2, s2)) (hl : f = 0 ∨ ¬ s.at_ + 1 < L.length) : depth = 0 ∧ out2 = out ∧ s2 = s := by
  cases f with
  | zero =>
    unfold blk at h
    simp only [Prod.mk.injEq, decide_eq_true_eq] at h
    exact ⟨h.1, h.2.1.symm, h.2.2.symm⟩
  | succ f =>
    unfold blk at h
    rw [if_neg (hl.resolve_left (by omega))] at h
    simp only [Prod.mk.injEq, decide_eq_true_eq] at h
    exact ⟨h.1, h.2.1.symm, h.2.2.symm⟩

theorem blk_mono {L : List Wd} {f : Nat} : ∀ {depth : Nat} {s : Rs} {out out2 : List Rf.Tr} {s2 : Rs}, blk L f depth s out = (true, out2, s2) → s.at_ ≤ s2.at_ := by
  induction f with
  | zero => intro depth s out out2 s2 h; rw [(blk_end h (.inl rfl)).2.2]; exact Nat.le_refl _
  | succ f ih =>
    intro depth s out out2 s2 h
    by_cases hl : s.at_ + 1 < L.length
    · cases blk_way h hl with
      | decl ds h1 h2 h => have := ih h; simp at this; omega
      | stop h1 h2 h3 h4 h5 => rw [h5]; exact Nat.le_refl _
      | one b sb h1 h2 h3 hb h4 h5 =>
        have a := ih hb
        have c := ih h5
        simp at a c
        omega
      | two b o sb so h1 h2 h3 hb h4 h5 h6 h7 =>
        have a := ih hb
        have c := ih h5
        have e := ih h7
        simp at a c e
        omega
      | plain h1 h2 h3 h4 h => have := ih h; simp at this; omega
    · rw [(blk_end h (.inr hl)).2.2]; exact Nat.le_refl _

/-- A block within another stops at an else or an end. -/
theorem blk_stop {L : List Wd} {f depth : Nat} {s : Rs} {out out2 : List Rf.Tr} {s2 : Rs} (h : blk L f (depth + 1) s out = (true, out2, s2)) : s2.at_ + 1 < L.length ∧ (L.getD s2.at_ [] = wElse ∨ L.getD s2.at_ [] = wEnd) := by
  induction f generalizing s out with
  | zero => have := (blk_end h (.inl rfl)).1; omega
  | succ f ih =>
    by_cases hl : s.at_ + 1 < L.length
    · cases blk_way h hl with
      | decl ds h1 h2 h => exact ih h
      | stop h1 h2 h3 h4 h5 =>
        subst h5
        exact ⟨hl, h2.imp (one_word h3.1) (one_word h3.1)⟩
      | one b sb h1 h2 h3 hb h4 h5 => exact ih h5
      | two b o sb so h1 h2 h3 hb h4 h5 h6 h7 => exact ih h7
      | plain h1 h2 h3 h4 h => exact ih h
    · have := (blk_end h (.inr hl)).1; omega

end Go.Proofs.Ytgddmpmcnjlcjaa.Tm

/- Which line takes which way. -/
namespace Go.Proofs.Ytgddmpmcnjlcjaa.Tm
open Lk (Wd wd RS isName lat cut)
open Rf (Rs blk isDecl declare wElse wEnd wIf wWhile wSecret wPublic wVar wArray wOut wLoad wStore)
set_option linter.unusedVariables false

variable {r r1 : RS} {ws : List Wd} {ds ds1 : List Rf.Dc}

theorem tk_secret (h0 : ws.length ≠ 0) (h : wd ws 0 = wSecret) : Lk.take r ws = Lk.takeInput r ws true := by
  unfold Lk.take
  rw [if_neg h0, h, if_pos (by decide)]
theorem tk_public (h0 : ws.length ≠ 0) (h : wd ws 0 = wPublic) : Lk.take r ws = Lk.takeInput r ws false := by
  unfold Lk.take
  rw [if_neg h0, h, if_neg (by decide), if_pos (by decide)]
theorem tk_var (h0 : ws.length ≠ 0) (h : wd ws 0 = wVar) : Lk.take r ws = Lk.takeVar r ws := by
  unfold Lk.take
  rw [if_neg h0, h, if_neg (by decide), if_neg (by decide), if_pos (by decide)]
theorem tk_array (h0 : ws.length ≠ 0) (h : wd ws 0 = wArray) : Lk.take r ws = Lk.takeArray r ws := by
  unfold Lk.take
  rw [if_neg h0, h, if_neg (by decide), if_neg (by decide), if_neg (by decide), if_pos (by decide)]
theorem tk_load (h0 : ws.length ≠ 0) (h : wd ws 0 = wLoad) : Lk.take r ws = Lk.takeLoad r ws := by
  unfold Lk.take
  rw [if_neg h0, h, if_neg (by decide), if_neg (by decide), if_neg (by decide), if_neg (by decide), if_pos (by decide)]
theorem tk_store (h0 : ws.length ≠ 0) (h : wd ws 0 = wStore) : Lk.take r ws = Lk.takeStore r ws := by
  unfold Lk.take
  rw [if_neg h0, h, if_neg (by decide), if_neg (by decide), if_neg (by decide), if_neg (by decide), if_neg (by decide), if_pos (by decide)]
theorem tk_out (h0 : ws.length ≠ 0) (h : wd ws 0 = wOut) : Lk.take r ws = Lk.takeOut r ws := by
  unfold Lk.take
  rw [if_neg h0, h, if_neg (by decide), if_neg (by decide), if_neg (by decide), if_neg (by decide), if_neg (by decide), if_neg (by decide), if_pos (by decide)]
theorem tk_if (h0 : ws.length ≠ 0) (h : wd ws 0 = wIf) : Lk.take r ws = Lk.takeBranch r ws 4 := by
  unfold Lk.take
  rw [if_neg h0, h, if_neg (by decide), if_neg (by decide), if_neg (by decide), if_neg (by decide), if_neg (by decide), if_neg (by decide), if_neg (by decide), if_pos (by decide)]
theorem tk_while (h0 : ws.length ≠ 0) (h : wd ws 0 = wWhile) : Lk.take r ws = Lk.takeBranch r ws 5 := by
  unfold Lk.take
  rw [if_neg h0, h, if_neg (by decide), if_neg (by decide), if_neg (by decide), if_neg (by decide), if_neg (by decide), if_neg (by decide), if_neg (by decide), if_neg (by decide), if_pos (by decide)]
theorem tk_else (h0 : ws.length ≠ 0) (h : wd ws 0 = wElse) : Lk.take r ws = Lk.takeElse r ws := by
  unfold Lk.take
  rw [if_neg h0, h, if_neg (by decide), if_neg (by decide), if_neg (by decide), if_neg (by decide), if_neg (by decide), if_neg (by decide), if_neg (by decide), if_neg (by decide), if_neg (by decide), if_pos (by decide)]
theorem tk_end (h0 : ws.length ≠ 0) (h : wd ws 0 = wEnd) : Lk.take r ws = Lk.takeEnd r ws := by
  unfold Lk.take
  rw [if_neg h0, h, if_neg (by decide), if_neg (by decide), if_neg (by decide), if_neg (by decide), if_neg (by decide), if_neg (by decide), if_neg (by decide), if_neg (by decide), if_neg (by decide), if_neg (by decide), if_pos (by decide)]

theorem cut_nz (l : Wd) : (cut 32 l).length ≠ 0 := fun h => Lk.cut_ne 32 l (List.eq_nil_of_length_eq_zero h)

theorem beqn {a b : Wd} (h : ¬ a = b) : ¬ (a == b) = true := by simpa using h

theorem isDecl_cases {w : Wd} (h : isDecl w = true) : w = wSecret ∨ w = wPublic ∨ w = wVar ∨ w = wArray := by
  unfold isDecl at h
  simpa [or_assoc] using h
theorem isDecl_none {w : Wd} (h : isDecl w = false) : ¬ w = wSecret ∧ ¬ w = wPublic ∧ ¬ w = wVar ∧ ¬ w = wArray := by
  unfold isDecl at h
  simp at h
  exact ⟨h.1.1.1, h.1.1.2, h.1.2, h.2⟩

/-- A statement that stands for itself is added. -/
theorem plain_add (h0 : ws.length ≠ 0) (e : Lk.take r ws = some r1) (hd : isDecl (wd ws 0) = false) (h1 : ¬ (wd ws 0 = wElse ∨ wd ws 0 = wEnd)) (h2 : ¬ (wd ws 0 = wIf ∨ wd ws 0 = wWhile)) : ∃ s, Added r r1 s ∧ s.kind < 4 ∧ Cst (Lk.find r) s ws := by
  obtain ⟨d1, d2, d3, d4⟩ := isDecl_none hd
  by_cases a1 : wd ws 0 = wOut
  · rw [tk_out h0 a1] at e
    obtain ⟨s, x, y, z⟩ := cst_out e a1
    exact ⟨s, x, by omega, z⟩
  by_cases a2 : wd ws 0 = wLoad
  · rw [tk_load h0 a2] at e
    obtain ⟨s, x, y, z⟩ := cst_load e a2
    exact ⟨s, x, by omega, z⟩
  by_cases a3 : wd ws 0 = wStore
  · rw [tk_store h0 a3] at e
    obtain ⟨s, x, y, z⟩ := cst_store e a3
    exact ⟨s, x, by omega, z⟩
  have e2 : Lk.take r ws = Lk.takeAssign r ws := by
    unfold Lk.take
    rw [if_neg h0, if_neg (show ¬ (wd ws 0 == [115, 101, 99, 114, 101, 116]) = true from beqn d1), if_neg (show ¬ (wd ws 0 == [112, 117, 98, 108, 105, 99]) = true from beqn d2), if_neg (show ¬ (wd ws 0 == [118, 97, 114]) = true from beqn d3), if_neg (show ¬ (wd ws 0 == [97, 114, 114, 97, 121]) = true from beqn d4), if_neg (show ¬ (wd ws 0 == [108, 111, 97, 100]) = true from beqn a2), if_neg (show ¬ (wd ws 0 == [115, 116, 111, 114, 101]) = true from beqn a3), if_neg (show ¬ (wd ws 0 == [111, 117, 116]) = true from beqn a1), if_neg (show ¬ (wd ws 0 == [105, 102]) = true from beqn (fun k => h2 (.inl k))), if_neg (show ¬ (wd ws 0 == [119, 104, 105, 108, 101]) = true from beqn (fun k => h2 (.inr k))), if_neg (show ¬ (wd ws 0 == [101, 108, 115, 101]) = true from beqn (fun k => h1 (.inl k))), if_neg (show ¬ (wd ws 0 == [101, 110, 100]) = true from beqn (fun k => h1 (.inr k)))]
  rw [e2] at e
  obtain ⟨s, x, y, z⟩ := cst_assign e a1 a2 a3
  exact ⟨s, x, by omega, z⟩

end Go.Proofs.Ytgddmpmcnjlcjaa.Tm

/- A declaration's line, on both sides. -/
namespace Go.Proofs.Ytgddmpmcnjlcjaa.Tm
open Lk (Wd wd RS isName lat cut)
open Rf (Rs blk isDecl declare wElse wEnd wIf wWhile wSecret wPublic wVar wArray wOut wLoad wStore)
set_option linter.unusedVariables false

variable {r r1 : RS} {ws : List Wd} {ds ds1 : List Rf.Dc}

/-- Nothing but the names. -/
structure Kept (r r1 : RS) : Prop where
  b : r1.body = r.body
  d : r1.depth = r.depth
  o : r1.opn = r.opn
theorem kept_decl {w : Wd} {a b : Nat} (e : Lk.declare r w a b = some r1) : Kept r r1 := by
  obtain ⟨_, _, rfl⟩ := decl_out e
  exact ⟨rfl, rfl, rfl⟩
theorem kept_input {b : Bool} (e : Lk.takeInput r ws b = some r1) : Kept r r1 := by
  unfold Lk.takeInput at e
  split at e
  · split at e
    · rename_i q hq
      cases e
      have := kept_decl hq
      exact ⟨this.b, this.d, this.o⟩
    · cases e
  · cases e
theorem kept_var (e : Lk.takeVar r ws = some r1) : Kept r r1 := by
  unfold Lk.takeVar at e
  split at e
  · split at e
    · rename_i q hq
      cases e
      have := kept_decl hq
      exact ⟨this.b, this.d, this.o⟩
    · cases e
  · cases e
theorem kept_array (e : Lk.takeArray r ws = some r1) : Kept r r1 := by
  unfold Lk.takeArray at e
  split at e
  · split at e
    · split at e
      · split at e
        · rename_i q hq
          cases e
          have := kept_decl hq
          exact ⟨this.b, this.d, this.o⟩
        · cases e
      · cases e
    · cases e
  · cases e

theorem declare_out {bdy : Bool} (h : declare ds bdy ws = some ds1) : bdy = false ∧ (wd ws 0 = wArray → ∃ n, Lk.num? (wd ws 2) = some n ∧ ds1 = ds ++ [⟨wd ws 1, wd ws 0, n⟩]) ∧ (¬ wd ws 0 = wArray → ds1 = ds ++ [⟨wd ws 1, wd ws 0, 0⟩]) := by
  unfold declare at h
  by_cases ha : wd ws 0 = wArray
  · simp only [if_pos ha] at h
    split at h
    · rename_i hc
      split at h
      · rename_i n hn
        split at h
        · cases h; exact ⟨hc.1, fun _ => ⟨n, hn, rfl⟩, fun k => absurd ha k⟩
        · cases h
      · cases h
    · cases h
  · simp only [if_neg ha] at h
    split at h
    · rename_i hc
      split at h
      · split at h
        · cases h; exact ⟨hc.1, fun k => absurd k ha, fun _ => rfl⟩
        · cases h
      · split at h
        · cases h; exact ⟨hc.1, fun k => absurd k ha, fun _ => rfl⟩
        · cases h
    · cases h

theorem decl_nr {bdy : Bool} (h0 : ws.length ≠ 0) (h : NR r ds) (e : Lk.take r ws = some r1) (hd : isDecl (wd ws 0) = true) (hx : declare ds bdy ws = some ds1) : NR r1 ds1 ∧ Kept r r1 ∧ bdy = false := by
  obtain ⟨hb, ha, hn⟩ := declare_out hx
  rcases isDecl_cases hd with k | k | k | k
  · rw [tk_secret h0 k] at e
    have := nr_input h e
    rw [hn (by rw [k]; decide), k]
    exact ⟨this, kept_input e, hb⟩
  · rw [tk_public h0 k] at e
    have := nr_input h e
    rw [hn (by rw [k]; decide), k]
    exact ⟨this, kept_input e, hb⟩
  · rw [tk_var h0 k] at e
    have := nr_var h e
    rw [hn (by rw [k]; decide), k]
    exact ⟨this, kept_var e, hb⟩
  · rw [tk_array h0 k] at e
    obtain ⟨n, h1, h2⟩ := nr_array h e
    obtain ⟨n', h3, h4⟩ := ha k
    rw [h1] at h3
    cases h3
    rw [h4, k]
    exact ⟨h2, kept_array e, hb⟩

end Go.Proofs.Ytgddmpmcnjlcjaa.Tm

/- A block that is right: its trees lie in the body. -/
namespace Go.Proofs.Ytgddmpmcnjlcjaa.Tm
open Lk (Wd wd RS isName lat cut bodyAt)
open Rf (Rs blk isDecl declare wElse wEnd wIf wWhile)
set_option linter.unusedVariables false

structure Laid (L : List Wd) (depth : Nat) (s s2 : Rs) (r rf : RS) (ts : List Rf.Tr) (r2 : RS) : Prop where
  go : goN L s2.at_ (L.length - 1 - s2.at_) r2 = some rf
  nr : NR r2 s2.ds
  dep : r2.depth = depth
  opn : ∀ d, d < depth → r2.opn d = r.opn d
  len : r.body.length ≤ r2.body.length
  old : ∀ x, x < r.body.length → bodyAt r2.body x = bodyAt r.body x
  lay : Lay (Cst (fd s2.ds 0 0)) r2.body r.body.length ts r2.body.length
  bdy : s.bdy = true → s2.ds = s.ds ∧ s2.bdy = true
  nob : s2.bdy = false → r2.body = []

theorem at_app (B : List Lk.St) (x : Lk.St) (i : Nat) (h : i < B.length) : bodyAt (B ++ [x]) i = bodyAt B i := by
  unfold Lk.bodyAt
  rw [List.getD_eq_getElem?_getD, List.getD_eq_getElem?_getD, List.getElem?_append_left h]
theorem at_new (B : List Lk.St) (x : Lk.St) : bodyAt (B ++ [x]) B.length = x := by
  unfold Lk.bodyAt
  rw [List.getD_eq_getElem?_getD, List.getElem?_append_right (Nat.le_refl _)]
  simp
theorem at_set (B : List Lk.St) (j : Nat) (x : Lk.St) (hj : j < B.length) (i : Nat) : bodyAt (B.set j x) i = if i = j then x else bodyAt B i := by
  unfold Lk.bodyAt
  rw [List.getD_eq_getElem?_getD, List.getD_eq_getElem?_getD, List.getElem?_set]
  by_cases e : i = j
  · subst e; rw [if_pos rfl, if_pos hj, if_pos rfl]; rfl
  · rw [if_neg (fun k => e k.symm), if_neg e]

theorem cst_fd {r : RS} {ds : List Rf.Dc} (h : NR r ds) {s : Lk.St} {w : List Wd} (c : Cst (Lk.find r) s w) : Cst (fd ds 0 0) s w := by
  rw [show Lk.find r = fd ds 0 0 from funext h.fnd] at c
  exact c

/-- 'end', of a block that was opened at a place. -/
theorem end_out {r r1 : RS} {ws : List Wd} {d p e : Nat} (h : Lk.takeEnd r ws = some r1) (hd : r.depth = d + 1) (ho : r.opn d = (p, e)) :
    r1 = { r with depth := d, body := (if e = 0 then r.body.set p { bodyAt r.body p with els := r.body.length + 1 } else r.body.set e { bodyAt r.body e with next := r.body.length + 1 }) ++ [{ kind := 6, next := if (bodyAt r.body p).kind = 5 then p else r.body.length + 1 }] } := by
  unfold Lk.takeEnd at h
  split at h
  · simp only [hd, Nat.add_sub_cancel, ho] at h
    cases h
    rfl
  · cases h
/-- 'else'. -/
theorem else_out {r r1 : RS} {ws : List Wd} {d p e : Nat} (h : Lk.takeElse r ws = some r1) (hd : r.depth = d + 1) (ho : r.opn d = (p, e)) :
    r1 = { r with depth := d + 1, opn := Lk.upd r.opn d (p, r.body.length), body := r.body.set p { bodyAt r.body p with els := r.body.length + 1 } ++ [{ kind := 6 }] } := by
  unfold Lk.takeElse at h
  split at h
  · simp only [hd, Nat.add_sub_cancel, ho] at h
    cases h
    rfl
  · cases h


theorem go_at {L : List Wd} {a : Nat} {r rf : RS} (h : goN L a (L.length - 1 - a) r = some rf) (hl : a + 1 < L.length) : ∃ r1, Lk.take r (cut 32 (L.getD a [])) = some r1 ∧ goN L (a + 1) (L.length - 1 - (a + 1)) r1 = some rf := by
  rw [show L.length - 1 - a = (L.length - 1 - (a + 1)) + 1 by omega] at h
  exact go_step h

theorem cut_one {x : Wd} (h : x = wElse ∨ x = wEnd) : wd (cut 32 x) 0 = x := by
  rcases h with h | h <;> subst h <;> rfl

/-- A head's line. -/
theorem head_out {r r1 : RS} {w : List Wd} (h0 : w.length ≠ 0) (e : Lk.take r w = some r1) (h : wd w 0 = wIf ∨ wd w 0 = wWhile) : ∃ sh : Lk.St, ((sh.kind = 4 ∧ wd w 0 = wIf) ∨ (sh.kind = 5 ∧ wd w 0 = wWhile)) ∧ Cst (Lk.find r) sh w ∧ r1 = { r with stmts := r.stmts + 1, body := r.body ++ [{ sh with next := r.body.length + 1 }], opn := Lk.upd r.opn r.depth (r.body.length, 0), depth := r.depth + 1 } := by
  rcases h with h | h
  · rw [tk_if h0 h] at e
    obtain ⟨s, q, ⟨_, rfl⟩, e2, k, c⟩ := cst_branch (.inl rfl) e
    exact ⟨s, .inl ⟨k, h⟩, c, e2⟩
  · rw [tk_while h0 h] at e
    obtain ⟨s, q, ⟨_, rfl⟩, e2, k, c⟩ := cst_branch (.inr rfl) e
    exact ⟨s, .inr ⟨k, h⟩, c, e2⟩

theorem blk_lay (L : List Wd) : ∀ (f depth : Nat) (s : Rs) (out out2 : List Rf.Tr) (s2 : Rs) (r rf : RS), blk L f depth s out = (true, out2, s2) → NR r s.ds → r.depth = depth → (s.bdy = false → r.body = []) → goN L s.at_ (L.length - 1 - s.at_) r = some rf → ∃ ts r2, out2 = out ++ ts ∧ Laid L depth s s2 r rf ts r2 := by
  intro f
  induction f with
  | zero =>
    intro depth s out out2 s2 r rf h nr hd hb hg
    obtain ⟨_, e1, e2⟩ := blk_end h (.inl rfl)
    subst e1 e2
    exact ⟨[], r, by simp, hg, nr, hd, fun _ _ => rfl, Nat.le_refl _, fun _ _ => rfl, .nil _, fun k => ⟨rfl, k⟩, hb⟩
  | succ f ih =>
    intro depth s out out2 s2 r rf h nr hd hb hg
    by_cases hl : s.at_ + 1 < L.length
    · obtain ⟨r1, ht, hg1⟩ := go_at hg hl
      have h0 := cut_nz (L.getD s.at_ [])
      have W := blk_way h hl
      generalize cut 32 (L.getD s.at_ []) = w at W ht h0
      cases W with
      | decl ds h1 h2 h =>
        obtain ⟨n1, k1, b1⟩ := decl_nr h0 nr ht h1 h2
        obtain ⟨ts, r2, e, A⟩ := ih depth _ out out2 s2 r1 rf h n1 (by rw [k1.d]; exact hd) (fun _ => by rw [k1.b]; exact hb b1) hg1
        exact ⟨ts, r2, e, A.go, A.nr, A.dep, fun d hd => by rw [A.opn d hd, k1.o], by rw [← k1.b]; exact A.len, fun x hx => by rw [A.old x (by rw [k1.b]; exact hx), k1.b], by rw [← k1.b]; exact A.lay, fun k => (by rw [b1] at k; cases k), A.nob⟩
      | stop h1 h2 h3 h4 h5 =>
        subst h4 h5
        exact ⟨[], r, by simp, hg, nr, hd, fun _ _ => rfl, Nat.le_refl _, fun _ _ => rfl, .nil _, fun k => ⟨rfl, rfl⟩, fun k => (by cases k)⟩
      | plain h1 h2 h3 h4 h =>
        obtain ⟨st, ad, hk, c⟩ := plain_add h0 ht h1 h2 h3
        have n1 := nr.same ad.same
        obtain ⟨_, rfl⟩ := ad
        obtain ⟨ts, r2, e, A⟩ := ih depth _ _ out2 s2 _ rf h n1 hd (fun k => (by cases k)) hg1
        have hds := (A.bdy rfl).1
        have hlen := A.len
        have hold := A.old r.body.length (by simp)
        rw [at_new] at hold
        simp only [List.length_append, List.length_singleton] at hlen
        have hlay := A.lay
        simp only [List.length_append, List.length_singleton] at hlay
        refine ⟨.node w [] [] :: ts, r2, by rw [e]; simp, A.go, A.nr, A.dep, A.opn, by omega, fun x hx => by rw [A.old x (by simp; omega), at_app _ _ _ hx], ?_, fun k => ⟨hds, (A.bdy rfl).2⟩, A.nob⟩
        refine .plain ?_ (by rw [hold]; exact hk) (by omega) (by rw [hold]) h3 hlay
        rw [hold, hds]
        have c' := cst_fd nr c
        exact ⟨c'.out, c'.br, c'.load, c'.store, c'.asg⟩
      | one b sb h1 h2 h3 hb1 h4 h5 =>
        obtain ⟨sh, hkd, c, rfl⟩ := head_out h0 ht h2
        have n1 : NR { r with stmts := r.stmts + 1, body := r.body ++ [{ sh with next := r.body.length + 1 }], opn := Lk.upd r.opn r.depth (r.body.length, 0), depth := r.depth + 1 } s.ds := nr.same ⟨rfl, rfl, rfl, rfl⟩
        obtain ⟨tb, rb, eb, A1⟩ := ih (depth + 1) _ [] b sb _ rf hb1 n1 (by show r.depth + 1 = _; rw [hd]) (fun k => (by cases k)) hg1
        rw [List.nil_append] at eb
        subst eb
        obtain ⟨sl, sw⟩ := blk_stop hb1
        have hend := sw.resolve_left h4
        obtain ⟨re, hte, hge⟩ := go_at A1.go sl
        rw [hend, tk_end (cut_nz _) (cut_one (.inr rfl))] at hte
        have ho : rb.opn depth = (r.body.length, 0) := by
          rw [A1.opn depth (by omega)]
          show Lk.upd r.opn r.depth (r.body.length, 0) depth = _
          unfold Lk.upd
          rw [if_pos hd.symm]
        have hre := end_out hte A1.dep ho
        rw [if_pos rfl] at hre
        have hl1 := A1.len
        simp only [List.length_append, List.length_singleton] at hl1
        have hhd : bodyAt rb.body r.body.length = { sh with next := r.body.length + 1 } := by
          rw [A1.old _ (by simp)]
          exact at_new _ _
        obtain ⟨d1, d2⟩ := A1.bdy rfl
        have nrE : NR re sb.ds := A1.nr.same ⟨by rw [hre], by rw [hre], by rw [hre], by rw [hre]⟩
        have hDe : re.depth = depth := by rw [hre]
        have hOe : re.opn = rb.opn := by rw [hre]
        have hBe : re.body = rb.body.set r.body.length { bodyAt rb.body r.body.length with els := rb.body.length + 1 } ++ [{ kind := 6, next := if (bodyAt rb.body r.body.length).kind = 5 then r.body.length else rb.body.length + 1 }] := by rw [hre]
        clear hre
        obtain ⟨ts, r2, e, A2⟩ := ih depth _ _ out2 s2 re rf h5 nrE hDe (fun k => (by have k' : sb.bdy = false := k; rw [d2] at k'; cases k')) hge
        obtain ⟨d3, d4⟩ := A2.bdy d2
        have d3' : s2.ds = sb.ds := d3
        have hl2 := A2.len
        rw [hBe] at hl2
        simp only [List.length_append, List.length_singleton, List.length_set] at hl2
        have hx : ∀ x, x < rb.body.length → bodyAt r2.body x = if x = r.body.length then { bodyAt rb.body r.body.length with els := rb.body.length + 1 } else bodyAt rb.body x := by
          intro x hx
          rw [A2.old x (by rw [hBe]; simp; omega), hBe, at_app _ _ _ (by simpa using hx), at_set _ _ _ (by omega)]
        have hmk : bodyAt r2.body rb.body.length = { kind := 6, next := if (bodyAt rb.body r.body.length).kind = 5 then r.body.length else rb.body.length + 1 } := by
          rw [A2.old _ (by rw [hBe]; simp), hBe]
          have := at_new (rb.body.set r.body.length { bodyAt rb.body r.body.length with els := rb.body.length + 1 }) { kind := 6, next := if (bodyAt rb.body r.body.length).kind = 5 then r.body.length else rb.body.length + 1 }
          rw [List.length_set] at this
          exact this
        have hp := hx r.body.length (by omega)
        rw [if_pos rfl, hhd] at hp
        rw [hhd] at hmk
        have lb := A1.lay
        simp only [List.length_append, List.length_singleton] at lb
        rw [← d3'] at lb
        have lb2 := lb.congr (B' := r2.body) (by omega) (fun x a c => by rw [hx x c, if_neg (by omega)])
        have lt := A2.lay
        rw [hBe] at lt
        simp only [List.length_append, List.length_singleton, List.length_set] at lt
        have cc := cst_fd nr c
        have cc2 : Cst (fd s2.ds 0 0) (bodyAt r2.body r.body.length) w := by
          rw [hp, d3', d1]
          exact ⟨cc.out, cc.br, cc.load, cc.store, cc.asg⟩
        refine ⟨.node w b [] :: ts, r2, by rw [e]; simp, A2.go, A2.nr, A2.dep, ?_, by omega, ?_, ?_, fun _ => ⟨d3'.trans d1, d4⟩, A2.nob⟩
        · intro d hdl
          rw [A2.opn d hdl, hOe, A1.opn d (by omega)]
          show Lk.upd r.opn r.depth _ d = _
          unfold Lk.upd
          rw [if_neg (by omega)]
        · intro x hxl
          rw [hx x (by omega), if_neg (by omega), A1.old x (by simp; omega)]
          exact at_app _ _ _ hxl
        · rcases hkd with ⟨k, kw⟩ | ⟨k, kw⟩
          · exact .ifOne cc2 (by rw [hp]; exact k) (by omega) kw (by rw [hp]) lb2 (by omega) (by rw [hmk]) (by rw [hmk]; show (if sh.kind = 5 then _ else _) = _; rw [if_neg (by omega)]) (by rw [hp]) lt
          · exact .loop cc2 (by rw [hp]; exact k) (by omega) kw (by rw [hp]) lb2 (by omega) (by rw [hmk]) (by rw [hmk]; show (if sh.kind = 5 then _ else _) = _; rw [if_pos k]) (by rw [hp]) lt
      | two b o sb so h1 h2 h3 hb1 h4 h5 h6 h7 =>
        obtain ⟨sh, hkd, c, rfl⟩ := head_out h0 ht (.inl h2)
        have hk4 : sh.kind = 4 := by
          rcases hkd with ⟨k, _⟩ | ⟨_, k⟩
          · exact k
          · exact absurd (h2.symm.trans k) wIf_ne
        have n1 : NR { r with stmts := r.stmts + 1, body := r.body ++ [{ sh with next := r.body.length + 1 }], opn := Lk.upd r.opn r.depth (r.body.length, 0), depth := r.depth + 1 } s.ds := nr.same ⟨rfl, rfl, rfl, rfl⟩
        obtain ⟨tb, rb, eb, A1⟩ := ih (depth + 1) _ [] b sb _ rf hb1 n1 (by show r.depth + 1 = _; rw [hd]) (fun k => (by cases k)) hg1
        rw [List.nil_append] at eb
        subst eb
        obtain ⟨sl, _⟩ := blk_stop hb1
        obtain ⟨rl, htl, hgl⟩ := go_at A1.go sl
        rw [h4, tk_else (cut_nz _) (cut_one (.inl rfl))] at htl
        have ho : rb.opn depth = (r.body.length, 0) := by
          rw [A1.opn depth (by omega)]
          show Lk.upd r.opn r.depth (r.body.length, 0) depth = _
          unfold Lk.upd
          rw [if_pos hd.symm]
        have hrl := else_out htl A1.dep ho
        have hl1 := A1.len
        simp only [List.length_append, List.length_singleton] at hl1
        have hhd : bodyAt rb.body r.body.length = { sh with next := r.body.length + 1 } := by
          rw [A1.old _ (by simp)]
          exact at_new _ _
        obtain ⟨d1, d2⟩ := A1.bdy rfl
        have nrL : NR rl sb.ds := A1.nr.same ⟨by rw [hrl], by rw [hrl], by rw [hrl], by rw [hrl]⟩
        have hDl : rl.depth = depth + 1 := by rw [hrl]
        have hOl : rl.opn = Lk.upd rb.opn depth (r.body.length, rb.body.length) := by rw [hrl]
        have hBl : rl.body = rb.body.set r.body.length { bodyAt rb.body r.body.length with els := rb.body.length + 1 } ++ [{ kind := 6 }] := by rw [hrl]
        clear hrl
        obtain ⟨tq, ro, eo, A3⟩ := ih (depth + 1) _ [] o so rl rf h5 nrL hDl (fun k => (by have k' : sb.bdy = false := k; rw [d2] at k'; cases k')) hgl
        rw [List.nil_append] at eo
        subst eo
        obtain ⟨d5, d6⟩ := A3.bdy d2
        have d5' : so.ds = sb.ds := d5
        obtain ⟨sl2, sw2⟩ := blk_stop h5
        have hend := sw2.resolve_left h6
        obtain ⟨re, hte, hge⟩ := go_at A3.go sl2
        rw [hend, tk_end (cut_nz _) (cut_one (.inr rfl))] at hte
        have ho2 : ro.opn depth = (r.body.length, rb.body.length) := by
          rw [A3.opn depth (by omega), hOl]
          unfold Lk.upd
          rw [if_pos rfl]
        have hre := end_out hte A3.dep ho2
        rw [if_neg (by omega)] at hre
        have hl3 := A3.len
        rw [hBl] at hl3
        simp only [List.length_append, List.length_singleton, List.length_set] at hl3
        have hol : ∀ x, x < rb.body.length → bodyAt ro.body x = if x = r.body.length then { bodyAt rb.body r.body.length with els := rb.body.length + 1 } else bodyAt rb.body x := by
          intro x hx
          rw [A3.old x (by rw [hBl]; simp; omega), hBl, at_app _ _ _ (by simpa using hx), at_set _ _ _ (by omega)]
        have hom : bodyAt ro.body rb.body.length = { kind := 6 } := by
          rw [A3.old _ (by rw [hBl]; simp), hBl]
          have := at_new (rb.body.set r.body.length { bodyAt rb.body r.body.length with els := rb.body.length + 1 }) { kind := 6 }
          rw [List.length_set] at this
          exact this
        have hop := hol r.body.length (by omega)
        rw [if_pos rfl, hhd] at hop
        have nrE : NR re so.ds := A3.nr.same ⟨by rw [hre], by rw [hre], by rw [hre], by rw [hre]⟩
        have hDe : re.depth = depth := by rw [hre]
        have hOe : re.opn = ro.opn := by rw [hre]
        have hBe : re.body = ro.body.set rb.body.length { bodyAt ro.body rb.body.length with next := ro.body.length + 1 } ++ [{ kind := 6, next := ro.body.length + 1 }] := by
          rw [hre]
          show _ ++ [({ kind := 6, next := if (bodyAt ro.body r.body.length).kind = 5 then r.body.length else ro.body.length + 1 } : Lk.St)] = _
          rw [hop, if_neg (by show ¬ sh.kind = 5; omega)]
        clear hre
        obtain ⟨ts, r2, e, A2⟩ := ih depth _ _ out2 s2 re rf h7 nrE hDe (fun k => (by have k' : so.bdy = false := k; rw [d6] at k'; cases k')) hge
        obtain ⟨d3, d4⟩ := A2.bdy d6
        have d3' : s2.ds = so.ds := d3
        have hl2 := A2.len
        rw [hBe] at hl2
        simp only [List.length_append, List.length_singleton, List.length_set] at hl2
        have hx : ∀ x, x < ro.body.length → bodyAt r2.body x = if x = rb.body.length then { bodyAt ro.body rb.body.length with next := ro.body.length + 1 } else bodyAt ro.body x := by
          intro x hx
          rw [A2.old x (by rw [hBe]; simp; omega), hBe, at_app _ _ _ (by simpa using hx), at_set _ _ _ (by omega)]
        have hmk : bodyAt r2.body ro.body.length = { kind := 6, next := ro.body.length + 1 } := by
          rw [A2.old _ (by rw [hBe]; simp), hBe]
          have := at_new (ro.body.set rb.body.length { bodyAt ro.body rb.body.length with next := ro.body.length + 1 }) { kind := 6, next := ro.body.length + 1 }
          rw [List.length_set] at this
          exact this
        have hp := hx r.body.length (by omega)
        rw [if_neg (by omega), hop] at hp
        have hq1 := hx rb.body.length (by omega)
        rw [if_pos rfl, hom] at hq1
        have lb := A1.lay
        simp only [List.length_append, List.length_singleton] at lb
        rw [← d5', ← d3'] at lb
        have lb2 := lb.congr (B' := r2.body) (by omega) (fun x a c => by rw [hx x (by omega), if_neg (by omega), hol x c, if_neg (by omega)])
        have lo := A3.lay
        rw [hBl] at lo
        simp only [List.length_append, List.length_singleton, List.length_set] at lo
        rw [← d3'] at lo
        have lo2 := lo.congr (B' := r2.body) (by omega) (fun x a c => by rw [hx x c, if_neg (by omega)])
        have lt := A2.lay
        rw [hBe] at lt
        simp only [List.length_append, List.length_singleton, List.length_set] at lt
        have cc := cst_fd nr c
        have cc2 : Cst (fd s2.ds 0 0) (bodyAt r2.body r.body.length) w := by
          rw [hp, d3', d5', d1]
          exact ⟨cc.out, cc.br, cc.load, cc.store, cc.asg⟩
        refine ⟨.node w b o :: ts, r2, by rw [e]; simp, A2.go, A2.nr, A2.dep, ?_, by omega, ?_, ?_, fun _ => ⟨(d3'.trans d5').trans d1, d4⟩, A2.nob⟩
        · intro d hdl
          rw [A2.opn d hdl, hOe, A3.opn d (by omega), hOl]
          unfold Lk.upd
          rw [if_neg (by omega), A1.opn d (by omega)]
          show Lk.upd r.opn r.depth _ d = _
          unfold Lk.upd
          rw [if_neg (by omega)]
        · intro x hxl
          rw [hx x (by omega), if_neg (by omega), hol x (by omega), if_neg (by omega), A1.old x (by simp; omega)]
          exact at_app _ _ _ hxl
        · exact .ifTwo cc2 (by rw [hp]; exact hk4) (by omega) h2 (by rw [hp]) lb2 (by omega) (by rw [hq1]) (by rw [hp]) lo2 (by omega) (by rw [hmk]) (by rw [hq1]) (by rw [hmk]) lt
    · obtain ⟨_, e1, e2⟩ := blk_end h (.inr hl)
      subst e1 e2
      exact ⟨[], r, by simp, hg, nr, hd, fun _ _ => rfl, Nat.le_refl _, fun _ _ => rfl, .nil _, fun k => ⟨rfl, k⟩, hb⟩

end Go.Proofs.Ytgddmpmcnjlcjaa.Tm
