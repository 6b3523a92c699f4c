import Derived.Test.YtgddmpmcnjlcjabGreatDoorK07
import Derived.Test.YtgddmpmcnjlcjabGreatDoorK06
import Derived.Test.YtgddmpmcnjlcjabGreatDoorB30
import Derived.Test.YtgddmpmcnjlcjabGreatDoorB41
namespace Go.Proofs.YtgddmpmcnjlcjabGreatDoor.Tm
open Lk (Wd wd RS isName lat cut)
open Rf (Rs blk isDecl declare wElse wEnd wIf wWhile fits)
set_option linter.unusedVariables false
inductive Way (L : List Wd) (f depth : Nat) (s : Rs) (out out2 : List Rf.Tr) (s2 : Rs) (w : List Wd) : Prop
  | decl (ds : List Rf.Dc) (h1 : isDecl (wd w 0) = true) (h2 : declare s.ds s.bdy w = some ds) (h : blk L f depth { s with ds := ds, at_ := s.at_ + 1 } out = (true, out2, s2))
  | stop (h1 : isDecl (wd w 0) = false) (h2 : wd w 0 = wElse ∨ wd w 0 = wEnd) (h3 : w.length = 1 ∧ 0 < depth) (h4 : out2 = out) (h5 : s2 = { s with bdy := true })
  | one (b : List Rf.Tr) (sb : Rs) (h1 : isDecl (wd w 0) = false) (h2 : wd w 0 = wIf ∨ wd w 0 = wWhile) (h3 : w.length = 2) (h : blk L f (depth + 1) { s with bdy := true, cnt := s.cnt + 1, at_ := s.at_ + 1 } [] = (true, b, sb)) (h4 : L.getD sb.at_ [] ≠ wElse) (h5 : blk L f depth { sb with at_ := sb.at_ + 1 } (out ++ [.node w b []]) = (true, out2, s2))
  | two (b o : List Rf.Tr) (sb so : Rs) (h1 : isDecl (wd w 0) = false) (h2 : wd w 0 = wIf) (h3 : w.length = 2) (h : blk L f (depth + 1) { s with bdy := true, cnt := s.cnt + 1, at_ := s.at_ + 1 } [] = (true, b, sb)) (h4 : L.getD sb.at_ [] = wElse) (h5 : blk L f (depth + 1) { sb with at_ := sb.at_ + 1 } [] = (true, o, so)) (h6 : L.getD so.at_ [] ≠ wElse) (h7 : blk L f depth { so with at_ := so.at_ + 1 } (out ++ [.node w b o]) = (true, out2, s2))
  | plain (h1 : isDecl (wd w 0) = false) (h2 : ¬ (wd w 0 = wElse ∨ wd w 0 = wEnd)) (h3 : ¬ (wd w 0 = wIf ∨ wd w 0 = wWhile)) (h4 : fits s.ds w = true) (h : blk L f depth { s with bdy := true, cnt := s.cnt + 1, at_ := s.at_ + 1 } (out ++ [.node w [] []]) = (true, out2, s2))
theorem blk_way {L : List Wd} {f depth : Nat} {s : Rs} {out out2 : List Rf.Tr} {s2 : Rs} (h : blk L (f + 1) depth s out = (true, out2, s2)) (hl : s.at_ + 1 < L.length) : Way L f depth s out out2 s2 (cut 32 (L.getD s.at_ [])) := by
  unfold blk at h
  rw [if_pos hl] at h
  generalize cut 32 (L.getD s.at_ []) = w at h
  simp only at h
  cases hd : isDecl (wd w 0) with
  | true =>
    rw [if_pos hd] at h
    cases hx : declare s.ds s.bdy w with
    | none => rw [hx] at h; simp at h
    | some ds => rw [hx] at h; exact .decl ds hd hx h
  | false =>
    rw [if_neg (by rw [hd]; simp)] at h
    by_cases he : wd w 0 = wElse ∨ wd w 0 = wEnd
    · rw [if_pos he] at h
      simp only [Prod.mk.injEq, decide_eq_true_eq] at h
      exact .stop hd he h.1 h.2.1.symm h.2.2.symm
    · rw [if_neg he] at h
      by_cases hc : s.cnt = 12
      · rw [if_pos hc] at h; simp at h
      · rw [if_neg hc] at h
        by_cases hb : wd w 0 = wIf ∨ wd w 0 = wWhile
        · rw [if_pos hb] at h
          by_cases hq : w.length = 2 ∧ depth ≠ 4 ∧ Rf.atom s.ds (wd w 1) = true
          · rw [if_pos hq] at h
            rcases hx : blk L f (depth + 1) { s with bdy := true, cnt := s.cnt + 1, at_ := s.at_ + 1 } [] with ⟨ok, b, sb⟩
            rw [hx] at h
            cases ok with
            | false => simp at h
            | true =>
              simp only at h
              by_cases hel : L.getD sb.at_ [] = wElse
              · rw [if_pos hel] at h
                by_cases hif : wd w 0 = wIf
                · rw [if_pos hif] at h
                  rcases hy : blk L f (depth + 1) { sb with at_ := sb.at_ + 1 } [] with ⟨ok2, o, so⟩
                  rw [hy] at h
                  cases ok2 with
                  | false => simp at h
                  | true =>
                    simp only at h
                    by_cases hel2 : L.getD so.at_ [] = wElse
                    · rw [if_pos hel2] at h; simp at h
                    · rw [if_neg hel2] at h
                      exact .two b o sb so hd hif hq.1 hx hel hy hel2 h
                · rw [if_neg hif] at h; simp at h
              · rw [if_neg hel] at h
                exact .one b sb hd hb hq.1 hx hel h
          · rw [if_neg hq] at h; simp at h
        · rw [if_neg hb] at h
          by_cases hf : fits s.ds w = true
          · rw [if_pos hf] at h
            exact .plain hd he hb hf h
          · rw [if_neg hf] at h; simp at h
theorem blk_end {L : List Wd} {f depth : Nat} {s : Rs} {out out2 : List Rf.Tr} {s2 : Rs} (h : blk L f depth s out = (true, out2, s2)) (hl : f = 0 ∨ ¬ s.at_ + 1 < L.length) : depth = 0 ∧ out2 = out ∧ s2 = s := by
  cases f with
  | zero =>
    unfold blk at h
    simp only [Prod.mk.injEq, decide_eq_true_eq] at h
    exact ⟨h.1, h.2.1.symm, h.2.2.symm⟩
  | succ f =>
    unfold blk at h
    rw [if_neg (hl.resolve_left (by omega))] at h
    simp only [Prod.mk.injEq, decide_eq_true_eq] at h
    exact ⟨h.1, h.2.1.symm, h.2.2.symm⟩
theorem blk_mono {L : List Wd} {f : Nat} : ∀ {depth : Nat} {s : Rs} {out out2 : List Rf.Tr} {s2 : Rs}, blk L f depth s out = (true, out2, s2) → s.at_ ≤ s2.at_ := by
  induction f with
  | zero => intro depth s out out2 s2 h; rw [(blk_end h (.inl rfl)).2.2]; exact Nat.le_refl _
  | succ f ih =>
    intro depth s out out2 s2 h
    by_cases hl : s.at_ + 1 < L.length
    · cases blk_way h hl with
      | decl ds h1 h2 h => have := ih h; simp at this; omega
      | stop h1 h2 h3 h4 h5 => rw [h5]; exact Nat.le_refl _
      | one b sb h1 h2 h3 hb h4 h5 =>
        have a := ih hb
        have c := ih h5
        simp at a c
        omega
      | two b o sb so h1 h2 h3 hb h4 h5 h6 h7 =>
        have a := ih hb
        have c := ih h5
        have e := ih h7
        simp at a c e
        omega
      | plain h1 h2 h3 h4 h => have := ih h; simp at this; omega
    · rw [(blk_end h (.inr hl)).2.2]; exact Nat.le_refl _
theorem blk_stop {L : List Wd} {f depth : Nat} {s : Rs} {out out2 : List Rf.Tr} {s2 : Rs} (h : blk L f (depth + 1) s out = (true, out2, s2)) : s2.at_ + 1 < L.length ∧ (L.getD s2.at_ [] = wElse ∨ L.getD s2.at_ [] = wEnd) := by
  induction f generalizing s out with
  | zero => have := (blk_end h (.inl rfl)).1; omega
  | succ f ih =>
    by_cases hl : s.at_ + 1 < L.length
    · cases blk_way h hl with
      | decl ds h1 h2 h => exact ih h
      | stop h1 h2 h3 h4 h5 =>
        subst h5
        exact ⟨hl, h2.imp (one_word h3.1) (one_word h3.1)⟩
      | one b sb h1 h2 h3 hb h4 h5 => exact ih h5
      | two b o sb so h1 h2 h3 hb h4 h5 h6 h7 => exact ih h7
      | plain h1 h2 h3 h4 h => exact ih h
    · have := (blk_end h (.inr hl)).1; omega
end Go.Proofs.YtgddmpmcnjlcjabGreatDoor.Tm
namespace Go.Proofs.YtgddmpmcnjlcjabGreatDoor.Tm
open Lk (Wd wd RS isName lat cut)
open Rf (Rs blk isDecl declare wElse wEnd wIf wWhile wSecret wPublic wVar wArray wOut wLoad wStore)
set_option linter.unusedVariables false
variable {r r1 : RS} {ws : List Wd} {ds ds1 : List Rf.Dc}
theorem tk_secret (h0 : ws.length ≠ 0) (h : wd ws 0 = wSecret) : Lk.take r ws = Lk.takeInput r ws true := by
  unfold Lk.take
  rw [if_neg h0, h, if_pos (by decide)]
theorem tk_public (h0 : ws.length ≠ 0) (h : wd ws 0 = wPublic) : Lk.take r ws = Lk.takeInput r ws false := by
  unfold Lk.take
  rw [if_neg h0, h, if_neg (by decide), if_pos (by decide)]
theorem tk_var (h0 : ws.length ≠ 0) (h : wd ws 0 = wVar) : Lk.take r ws = Lk.takeVar r ws := by
  unfold Lk.take
  rw [if_neg h0, h, if_neg (by decide), if_neg (by decide), if_pos (by decide)]
theorem tk_array (h0 : ws.length ≠ 0) (h : wd ws 0 = wArray) : Lk.take r ws = Lk.takeArray r ws := by
  unfold Lk.take
  rw [if_neg h0, h, if_neg (by decide), if_neg (by decide), if_neg (by decide), if_pos (by decide)]
theorem tk_load (h0 : ws.length ≠ 0) (h : wd ws 0 = wLoad) : Lk.take r ws = Lk.takeLoad r ws := by
  unfold Lk.take
  rw [if_neg h0, h, if_neg (by decide), if_neg (by decide), if_neg (by decide), if_neg (by decide), if_pos (by decide)]
theorem tk_store (h0 : ws.length ≠ 0) (h : wd ws 0 = wStore) : Lk.take r ws = Lk.takeStore r ws := by
  unfold Lk.take
  rw [if_neg h0, h, if_neg (by decide), if_neg (by decide), if_neg (by decide), if_neg (by decide), if_neg (by decide), if_pos (by decide)]
theorem tk_out (h0 : ws.length ≠ 0) (h : wd ws 0 = wOut) : Lk.take r ws = Lk.takeOut r ws := by
  unfold Lk.take
  rw [if_neg h0, h, if_neg (by decide), if_neg (by decide), if_neg (by decide), if_neg (by decide), if_neg (by decide), if_neg (by decide), if_pos (by decide)]
theorem tk_if (h0 : ws.length ≠ 0) (h : wd ws 0 = wIf) : Lk.take r ws = Lk.takeBranch r ws 4 := by
  unfold Lk.take
  rw [if_neg h0, h, if_neg (by decide), if_neg (by decide), if_neg (by decide), if_neg (by decide), if_neg (by decide), if_neg (by decide), if_neg (by decide), if_pos (by decide)]
theorem tk_while (h0 : ws.length ≠ 0) (h : wd ws 0 = wWhile) : Lk.take r ws = Lk.takeBranch r ws 5 := by
  unfold Lk.take
  rw [if_neg h0, h, if_neg (by decide), if_neg (by decide), if_neg (by decide), if_neg (by decide), if_neg (by decide), if_neg (by decide), if_neg (by decide), if_neg (by decide), if_pos (by decide)]
theorem tk_else (h0 : ws.length ≠ 0) (h : wd ws 0 = wElse) : Lk.take r ws = Lk.takeElse r ws := by
  unfold Lk.take
  rw [if_neg h0, h, if_neg (by decide), if_neg (by decide), if_neg (by decide), if_neg (by decide), if_neg (by decide), if_neg (by decide), if_neg (by decide), if_neg (by decide), if_neg (by decide), if_pos (by decide)]
theorem tk_end (h0 : ws.length ≠ 0) (h : wd ws 0 = wEnd) : Lk.take r ws = Lk.takeEnd r ws := by
  unfold Lk.take
  rw [if_neg h0, h, if_neg (by decide), if_neg (by decide), if_neg (by decide), if_neg (by decide), if_neg (by decide), if_neg (by decide), if_neg (by decide), if_neg (by decide), if_neg (by decide), if_neg (by decide), if_pos (by decide)]
theorem cut_nz (l : Wd) : (cut 32 l).length ≠ 0 := fun h => Lk.cut_ne 32 l (List.eq_nil_of_length_eq_zero h)
theorem beqn {a b : Wd} (h : ¬ a = b) : ¬ (a == b) = true := by simpa using h
theorem isDecl_cases {w : Wd} (h : isDecl w = true) : w = wSecret ∨ w = wPublic ∨ w = wVar ∨ w = wArray := by
  unfold isDecl at h
  simpa [or_assoc] using h
theorem isDecl_none {w : Wd} (h : isDecl w = false) : ¬ w = wSecret ∧ ¬ w = wPublic ∧ ¬ w = wVar ∧ ¬ w = wArray := by
  unfold isDecl at h
  simp at h
  exact ⟨h.1.1.1, h.1.1.2, h.1.2, h.2⟩
theorem plain_add (h0 : ws.length ≠ 0) (e : Lk.take r ws = some r1) (hd : isDecl (wd ws 0) = false) (h1 : ¬ (wd ws 0 = wElse ∨ wd ws 0 = wEnd)) (h2 : ¬ (wd ws 0 = wIf ∨ wd ws 0 = wWhile)) : ∃ s, Added r r1 s ∧ s.kind < 4 ∧ Cst (Lk.find r) s ws := by
  obtain ⟨d1, d2, d3, d4⟩ := isDecl_none hd
  by_cases a1 : wd ws 0 = wOut
  · rw [tk_out h0 a1] at e
    obtain ⟨s, x, y, z⟩ := cst_out e a1
    exact ⟨s, x, by omega, z⟩
  by_cases a2 : wd ws 0 = wLoad
  · rw [tk_load h0 a2] at e
    obtain ⟨s, x, y, z⟩ := cst_load e a2
    exact ⟨s, x, by omega, z⟩
  by_cases a3 : wd ws 0 = wStore
  · rw [tk_store h0 a3] at e
    obtain ⟨s, x, y, z⟩ := cst_store e a3
    exact ⟨s, x, by omega, z⟩
  have e2 : Lk.take r ws = Lk.takeAssign r ws := by
    unfold Lk.take
    rw [if_neg h0, if_neg (show ¬ (wd ws 0 == [115, 101, 99, 114, 101, 116]) = true from beqn d1), if_neg (show ¬ (wd ws 0 == [112, 117, 98, 108, 105, 99]) = true from beqn d2), if_neg (show ¬ (wd ws 0 == [118, 97, 114]) = true from beqn d3), if_neg (show ¬ (wd ws 0 == [97, 114, 114, 97, 121]) = true from beqn d4), if_neg (show ¬ (wd ws 0 == [108, 111, 97, 100]) = true from beqn a2), if_neg (show ¬ (wd ws 0 == [115, 116, 111, 114, 101]) = true from beqn a3), if_neg (show ¬ (wd ws 0 == [111, 117, 116]) = true from beqn a1), if_neg (show ¬ (wd ws 0 == [105, 102]) = true from beqn (fun k => h2 (.inl k))), if_neg (show ¬ (wd ws 0 == [119, 104, 105, 108, 101]) = true from beqn (fun k => h2 (.inr k))), if_neg (show ¬ (wd ws 0 == [101, 108, 115, 101]) = true from beqn (fun k => h1 (.inl k))), if_neg (show ¬ (wd ws 0 == [101, 110, 100]) = true from beqn (fun k => h1 (.inr k)))]
  rw [e2] at e
  obtain ⟨s, x, y, z⟩ := cst_assign e a1 a2 a3
  exact ⟨s, x, by omega, z⟩
end Go.Proofs.YtgddmpmcnjlcjabGreatDoor.Tm
namespace Go.Proofs.YtgddmpmcnjlcjabGreatDoor.Tm
open Lk (Wd wd RS isName lat cut)
open Rf (Rs blk isDecl declare wElse wEnd wIf wWhile wSecret wPublic wVar wArray wOut wLoad wStore)
set_option linter.unusedVariables false
variable {r r1 : RS} {ws : List Wd} {ds ds1 : List Rf.Dc}
structure Kept (r r1 : RS) : Prop where
  b : r1.body = r.body
  d : r1.depth = r.depth
  o : r1.opn = r.opn
theorem kept_decl {w : Wd} {a b : Nat} (e : Lk.declare r w a b = some r1) : Kept r r1 := by
  obtain ⟨_, _, rfl⟩ := decl_out e
  exact ⟨rfl, rfl, rfl⟩
theorem kept_input {b : Bool} (e : Lk.takeInput r ws b = some r1) : Kept r r1 := by
  unfold Lk.takeInput at e
  split at e
  · split at e
    · rename_i q hq
      cases e
      have := kept_decl hq
      exact ⟨this.b, this.d, this.o⟩
    · cases e
  · cases e
theorem kept_var (e : Lk.takeVar r ws = some r1) : Kept r r1 := by
  unfold Lk.takeVar at e
  split at e
  · split at e
    · rename_i q hq
      cases e
      have := kept_decl hq
      exact ⟨this.b, this.d, this.o⟩
    · cases e
  · cases e
theorem kept_array (e : Lk.takeArray r ws = some r1) : Kept r r1 := by
  unfold Lk.takeArray at e
  split at e
  · split at e
    · split at e
      · split at e
        · rename_i q hq
          cases e
          have := kept_decl hq
          exact ⟨this.b, this.d, this.o⟩
        · cases e
      · cases e
    · cases e
  · cases e
theorem declare_out {bdy : Bool} (h : declare ds bdy ws = some ds1) : bdy = false ∧ (wd ws 0 = wArray → ∃ n, Lk.num? (wd ws 2) = some n ∧ ds1 = ds ++ [⟨wd ws 1, wd ws 0, n⟩]) ∧ (¬ wd ws 0 = wArray → ds1 = ds ++ [⟨wd ws 1, wd ws 0, 0⟩]) := by
  unfold declare at h
  by_cases ha : wd ws 0 = wArray
  · simp only [if_pos ha] at h
    split at h
    · rename_i hc
      split at h
      · rename_i n hn
        split at h
        · cases h; exact ⟨hc.1, fun _ => ⟨n, hn, rfl⟩, fun k => absurd ha k⟩
        · cases h
      · cases h
    · cases h
  · simp only [if_neg ha] at h
    split at h
    · rename_i hc
      split at h
      · split at h
        · cases h; exact ⟨hc.1, fun k => absurd k ha, fun _ => rfl⟩
        · cases h
      · split at h
        · cases h; exact ⟨hc.1, fun k => absurd k ha, fun _ => rfl⟩
        · cases h
    · cases h
theorem decl_nr {bdy : Bool} (h0 : ws.length ≠ 0) (h : NR r ds) (e : Lk.take r ws = some r1) (hd : isDecl (wd ws 0) = true) (hx : declare ds bdy ws = some ds1) : NR r1 ds1 ∧ Kept r r1 ∧ bdy = false := by
  obtain ⟨hb, ha, hn⟩ := declare_out hx
  rcases isDecl_cases hd with k | k | k | k
  · rw [tk_secret h0 k] at e
    have := nr_input h e
    rw [hn (by rw [k]; decide), k]
    exact ⟨this, kept_input e, hb⟩
  · rw [tk_public h0 k] at e
    have := nr_input h e
    rw [hn (by rw [k]; decide), k]
    exact ⟨this, kept_input e, hb⟩
  · rw [tk_var h0 k] at e
    have := nr_var h e
    rw [hn (by rw [k]; decide), k]
    exact ⟨this, kept_var e, hb⟩
  · rw [tk_array h0 k] at e
    obtain ⟨n, h1, h2⟩ := nr_array h e
    obtain ⟨n', h3, h4⟩ := ha k
    rw [h1] at h3
    cases h3
    rw [h4, k]
    exact ⟨h2, kept_array e, hb⟩
end Go.Proofs.YtgddmpmcnjlcjabGreatDoor.Tm
namespace Go.Proofs.YtgddmpmcnjlcjabGreatDoor.Tm
open Lk (Wd wd RS isName lat cut bodyAt)
open Rf (Rs blk isDecl declare wElse wEnd wIf wWhile)
set_option linter.unusedVariables false
structure Laid (L : List Wd) (depth : Nat) (s s2 : Rs) (r rf : RS) (ts : List Rf.Tr) (r2 : RS) : Prop where
  go : goN L s2.at_ (L.length - 1 - s2.at_) r2 = some rf
  nr : NR r2 s2.ds
  dep : r2.depth = depth
  opn : ∀ d, d < depth → r2.opn d = r.opn d
  len : r.body.length ≤ r2.body.length
  old : ∀ x, x < r.body.length → bodyAt r2.body x = bodyAt r.body x
  lay : Lay (Cst (fd s2.ds 0 0)) r2.body r.body.length ts r2.body.length
  bdy : s.bdy = true → s2.ds = s.ds ∧ s2.bdy = true
  nob : s2.bdy = false → r2.body = []
theorem at_app (B : List Lk.St) (x : Lk.St) (i : Nat) (h : i < B.length) : bodyAt (B ++ [x]) i = bodyAt B i := by
  unfold Lk.bodyAt
  rw [List.getD_eq_getElem?_getD, List.getD_eq_getElem?_getD, List.getElem?_append_left h]
theorem at_new (B : List Lk.St) (x : Lk.St) : bodyAt (B ++ [x]) B.length = x := by
  unfold Lk.bodyAt
  rw [List.getD_eq_getElem?_getD, List.getElem?_append_right (Nat.le_refl _)]
  simp
theorem at_set (B : List Lk.St) (j : Nat) (x : Lk.St) (hj : j < B.length) (i : Nat) : bodyAt (B.set j x) i = if i = j then x else bodyAt B i := by
  unfold Lk.bodyAt
  rw [List.getD_eq_getElem?_getD, List.getD_eq_getElem?_getD, List.getElem?_set]
  by_cases e : i = j
  · subst e; rw [if_pos rfl, if_pos hj, if_pos rfl]; rfl
  · rw [if_neg (fun k => e k.symm), if_neg e]
theorem cst_fd {r : RS} {ds : List Rf.Dc} (h : NR r ds) {s : Lk.St} {w : List Wd} (c : Cst (Lk.find r) s w) : Cst (fd ds 0 0) s w := by
  rw [show Lk.find r = fd ds 0 0 from funext h.fnd] at c
  exact c
theorem end_out {r r1 : RS} {ws : List Wd} {d p e : Nat} (h : Lk.takeEnd r ws = some r1) (hd : r.depth = d + 1) (ho : r.opn d = (p, e)) :
    r1 = { r with depth := d, body := (if e = 0 then r.body.set p { bodyAt r.body p with els := r.body.length + 1 } else r.body.set e { bodyAt r.body e with next := r.body.length + 1 }) ++ [{ kind := 6, next := if (bodyAt r.body p).kind = 5 then p else r.body.length + 1 }] } := by
  unfold Lk.takeEnd at h
  split at h
  · simp only [hd, Nat.add_sub_cancel, ho] at h
    cases h
    rfl
  · cases h
theorem else_out {r r1 : RS} {ws : List Wd} {d p e : Nat} (h : Lk.takeElse r ws = some r1) (hd : r.depth = d + 1) (ho : r.opn d = (p, e)) :
    r1 = { r with depth := d + 1, opn := Lk.upd r.opn d (p, r.body.length), body := r.body.set p { bodyAt r.body p with els := r.body.length + 1 } ++ [{ kind := 6 }] } := by
  unfold Lk.takeElse at h
  split at h
  · simp only [hd, Nat.add_sub_cancel, ho] at h
    cases h
    rfl
  · cases h
theorem go_at {L : List Wd} {a : Nat} {r rf : RS} (h : goN L a (L.length - 1 - a) r = some rf) (hl : a + 1 < L.length) : ∃ r1, Lk.take r (cut 32 (L.getD a [])) = some r1 ∧ goN L (a + 1) (L.length - 1 - (a + 1)) r1 = some rf := by
  rw [show L.length - 1 - a = (L.length - 1 - (a + 1)) + 1 by omega] at h
  exact go_step h
theorem cut_one {x : Wd} (h : x = wElse ∨ x = wEnd) : wd (cut 32 x) 0 = x := by
  rcases h with h | h <;> subst h <;> rfl
theorem head_out {r r1 : RS} {w : List Wd} (h0 : w.length ≠ 0) (e : Lk.take r w = some r1) (h : wd w 0 = wIf ∨ wd w 0 = wWhile) : ∃ sh : Lk.St, ((sh.kind = 4 ∧ wd w 0 = wIf) ∨ (sh.kind = 5 ∧ wd w 0 = wWhile)) ∧ Cst (Lk.find r) sh w ∧ r1 = { r with stmts := r.stmts + 1, body := r.body ++ [{ sh with next := r.body.length + 1 }], opn := Lk.upd r.opn r.depth (r.body.length, 0), depth := r.depth + 1 } := by
  rcases h with h | h
  · rw [tk_if h0 h] at e
    obtain ⟨s, q, ⟨_, rfl⟩, e2, k, c⟩ := cst_branch (.inl rfl) e
    exact ⟨s, .inl ⟨k, h⟩, c, e2⟩
  · rw [tk_while h0 h] at e
    obtain ⟨s, q, ⟨_, rfl⟩, e2, k, c⟩ := cst_branch (.inr rfl) e
    exact ⟨s, .inr ⟨k, h⟩, c, e2⟩
theorem blk_lay (L : List Wd) : ∀ (f depth : Nat) (s : Rs) (out out2 : List Rf.Tr) (s2 : Rs) (r rf : RS), blk L f depth s out = (true, out2, s2) → NR r s.ds → r.depth = depth → (s.bdy = false → r.body = []) → goN L s.at_ (L.length - 1 - s.at_) r = some rf → ∃ ts r2, out2 = out ++ ts ∧ Laid L depth s s2 r rf ts r2 := by
  intro f
  induction f with
  | zero =>
    intro depth s out out2 s2 r rf h nr hd hb hg
    obtain ⟨_, e1, e2⟩ := blk_end h (.inl rfl)
    subst e1 e2
    exact ⟨[], r, by simp, hg, nr, hd, fun _ _ => rfl, Nat.le_refl _, fun _ _ => rfl, .nil _, fun k => ⟨rfl, k⟩, hb⟩
  | succ f ih =>
    intro depth s out out2 s2 r rf h nr hd hb hg
    by_cases hl : s.at_ + 1 < L.length
    · obtain ⟨r1, ht, hg1⟩ := go_at hg hl
      have h0 := cut_nz (L.getD s.at_ [])
      have W := blk_way h hl
      generalize cut 32 (L.getD s.at_ []) = w at W ht h0
      cases W with
      | decl ds h1 h2 h =>
        obtain ⟨n1, k1, b1⟩ := decl_nr h0 nr ht h1 h2
        obtain ⟨ts, r2, e, A⟩ := ih depth _ out out2 s2 r1 rf h n1 (by rw [k1.d]; exact hd) (fun _ => by rw [k1.b]; exact hb b1) hg1
        exact ⟨ts, r2, e, A.go, A.nr, A.dep, fun d hd => by rw [A.opn d hd, k1.o], by rw [← k1.b]; exact A.len, fun x hx => by rw [A.old x (by rw [k1.b]; exact hx), k1.b], by rw [← k1.b]; exact A.lay, fun k => (by rw [b1] at k; cases k), A.nob⟩
      | stop h1 h2 h3 h4 h5 =>
        subst h4 h5
        exact ⟨[], r, by simp, hg, nr, hd, fun _ _ => rfl, Nat.le_refl _, fun _ _ => rfl, .nil _, fun k => ⟨rfl, rfl⟩, fun k => (by cases k)⟩
      | plain h1 h2 h3 h4 h =>
        obtain ⟨st, ad, hk, c⟩ := plain_add h0 ht h1 h2 h3
        have n1 := nr.same ad.same
        obtain ⟨_, rfl⟩ := ad
        obtain ⟨ts, r2, e, A⟩ := ih depth _ _ out2 s2 _ rf h n1 hd (fun k => (by cases k)) hg1
        have hds := (A.bdy rfl).1
        have hlen := A.len
        have hold := A.old r.body.length (by simp)
        rw [at_new] at hold
        simp only [List.length_append, List.length_singleton] at hlen
        have hlay := A.lay
        simp only [List.length_append, List.length_singleton] at hlay
        refine ⟨.node w [] [] :: ts, r2, by rw [e]; simp, A.go, A.nr, A.dep, A.opn, by omega, fun x hx => by rw [A.old x (by simp; omega), at_app _ _ _ hx], ?_, fun k => ⟨hds, (A.bdy rfl).2⟩, A.nob⟩
        refine .plain ?_ (by rw [hold]; exact hk) (by omega) (by rw [hold]) h3 hlay
        rw [hold, hds]
        have c' := cst_fd nr c
        exact ⟨c'.out, c'.br, c'.load, c'.store, c'.asg⟩
      | one b sb h1 h2 h3 hb1 h4 h5 =>
        obtain ⟨sh, hkd, c, rfl⟩ := head_out h0 ht h2
        have n1 : NR { r with stmts := r.stmts + 1, body := r.body ++ [{ sh with next := r.body.length + 1 }], opn := Lk.upd r.opn r.depth (r.body.length, 0), depth := r.depth + 1 } s.ds := nr.same ⟨rfl, rfl, rfl, rfl⟩
        obtain ⟨tb, rb, eb, A1⟩ := ih (depth + 1) _ [] b sb _ rf hb1 n1 (by show r.depth + 1 = _; rw [hd]) (fun k => (by cases k)) hg1
        rw [List.nil_append] at eb
        subst eb
        obtain ⟨sl, sw⟩ := blk_stop hb1
        have hend := sw.resolve_left h4
        obtain ⟨re, hte, hge⟩ := go_at A1.go sl
        rw [hend, tk_end (cut_nz _) (cut_one (.inr rfl))] at hte
        have ho : rb.opn depth = (r.body.length, 0) := by
          rw [A1.opn depth (by omega)]
          show Lk.upd r.opn r.depth (r.body.length, 0) depth = _
          unfold Lk.upd
          rw [if_pos hd.symm]
        have hre := end_out hte A1.dep ho
        rw [if_pos rfl] at hre
        have hl1 := A1.len
        simp only [List.length_append, List.length_singleton] at hl1
        have hhd : bodyAt rb.body r.body.length = { sh with next := r.body.length + 1 } := by
          rw [A1.old _ (by simp)]
          exact at_new _ _
        obtain ⟨d1, d2⟩ := A1.bdy rfl
        have nrE : NR re sb.ds := A1.nr.same ⟨by rw [hre], by rw [hre], by rw [hre], by rw [hre]⟩
        have hDe : re.depth = depth := by rw [hre]
        have hOe : re.opn = rb.opn := by rw [hre]
        have hBe : re.body = rb.body.set r.body.length { bodyAt rb.body r.body.length with els := rb.body.length + 1 } ++ [{ kind := 6, next := if (bodyAt rb.body r.body.length).kind = 5 then r.body.length else rb.body.length + 1 }] := by rw [hre]
        clear hre
        obtain ⟨ts, r2, e, A2⟩ := ih depth _ _ out2 s2 re rf h5 nrE hDe (fun k => (by have k' : sb.bdy = false := k; rw [d2] at k'; cases k')) hge
        obtain ⟨d3, d4⟩ := A2.bdy d2
        have d3' : s2.ds = sb.ds := d3
        have hl2 := A2.len
        rw [hBe] at hl2
        simp only [List.length_append, List.length_singleton, List.length_set] at hl2
        have hx : ∀ x, x < rb.body.length → bodyAt r2.body x = if x = r.body.length then { bodyAt rb.body r.body.length with els := rb.body.length + 1 } else bodyAt rb.body x := by
          intro x hx
          rw [A2.old x (by rw [hBe]; simp; omega), hBe, at_app _ _ _ (by simpa using hx), at_set _ _ _ (by omega)]
        have hmk : bodyAt r2.body rb.body.length = { kind := 6, next := if (bodyAt rb.body r.body.length).kind = 5 then r.body.length else rb.body.length + 1 } := by
          rw [A2.old _ (by rw [hBe]; simp), hBe]
          have := at_new (rb.body.set r.body.length { bodyAt rb.body r.body.length with els := rb.body.length + 1 }) { kind := 6, next := if (bodyAt rb.body r.body.length).kind = 5 then r.body.length else rb.body.length + 1 }
          rw [List.length_set] at this
          exact this
        have hp := hx r.body.length (by omega)
        rw [if_pos rfl, hhd] at hp
        rw [hhd] at hmk
        have lb := A1.lay
        simp only [List.length_append, List.length_singleton] at lb
        rw [← d3'] at lb
        have lb2 := lb.congr (B' := r2.body) (by omega) (fun x a c => by rw [hx x c, if_neg (by omega)])
        have lt := A2.lay
        rw [hBe] at lt
        simp only [List.length_append, List.length_singleton, List.length_set] at lt
        have cc := cst_fd nr c
        have cc2 : Cst (fd s2.ds 0 0) (bodyAt r2.body r.body.length) w := by
          rw [hp, d3', d1]
          exact ⟨cc.out, cc.br, cc.load, cc.store, cc.asg⟩
        refine ⟨.node w b [] :: ts, r2, by rw [e]; simp, A2.go, A2.nr, A2.dep, ?_, by omega, ?_, ?_, fun _ => ⟨d3'.trans d1, d4⟩, A2.nob⟩
        · intro d hdl
          rw [A2.opn d hdl, hOe, A1.opn d (by omega)]
          show Lk.upd r.opn r.depth _ d = _
          unfold Lk.upd
          rw [if_neg (by omega)]
        · intro x hxl
          rw [hx x (by omega), if_neg (by omega), A1.old x (by simp; omega)]
          exact at_app _ _ _ hxl
        · rcases hkd with ⟨k, kw⟩ | ⟨k, kw⟩
          · exact .ifOne cc2 (by rw [hp]; exact k) (by omega) kw (by rw [hp]) lb2 (by omega) (by rw [hmk]) (by rw [hmk]; show (if sh.kind = 5 then _ else _) = _; rw [if_neg (by omega)]) (by rw [hp]) lt
          · exact .loop cc2 (by rw [hp]; exact k) (by omega) kw (by rw [hp]) lb2 (by omega) (by rw [hmk]) (by rw [hmk]; show (if sh.kind = 5 then _ else _) = _; rw [if_pos k]) (by rw [hp]) lt
      | two b o sb so h1 h2 h3 hb1 h4 h5 h6 h7 =>
        obtain ⟨sh, hkd, c, rfl⟩ := head_out h0 ht (.inl h2)
        have hk4 : sh.kind = 4 := by
          rcases hkd with ⟨k, _⟩ | ⟨_, k⟩
          · exact k
          · exact absurd (h2.symm.trans k) wIf_ne
        have n1 : NR { r with stmts := r.stmts + 1, body := r.body ++ [{ sh with next := r.body.length + 1 }], opn := Lk.upd r.opn r.depth (r.body.length, 0), depth := r.depth + 1 } s.ds := nr.same ⟨rfl, rfl, rfl, rfl⟩
        obtain ⟨tb, rb, eb, A1⟩ := ih (depth + 1) _ [] b sb _ rf hb1 n1 (by show r.depth + 1 = _; rw [hd]) (fun k => (by cases k)) hg1
        rw [List.nil_append] at eb
        subst eb
        obtain ⟨sl, _⟩ := blk_stop hb1
        obtain ⟨rl, htl, hgl⟩ := go_at A1.go sl
        rw [h4, tk_else (cut_nz _) (cut_one (.inl rfl))] at htl
        have ho : rb.opn depth = (r.body.length, 0) := by
          rw [A1.opn depth (by omega)]
          show Lk.upd r.opn r.depth (r.body.length, 0) depth = _
          unfold Lk.upd
          rw [if_pos hd.symm]
        have hrl := else_out htl A1.dep ho
        have hl1 := A1.len
        simp only [List.length_append, List.length_singleton] at hl1
        have hhd : bodyAt rb.body r.body.length = { sh with next := r.body.length + 1 } := by
          rw [A1.old _ (by simp)]
          exact at_new _ _
        obtain ⟨d1, d2⟩ := A1.bdy rfl
        have nrL : NR rl sb.ds := A1.nr.same ⟨by rw [hrl], by rw [hrl], by rw [hrl], by rw [hrl]⟩
        have hDl : rl.depth = depth + 1 := by rw [hrl]
        have hOl : rl.opn = Lk.upd rb.opn depth (r.body.length, rb.body.length) := by rw [hrl]
        have hBl : rl.body = rb.body.set r.body.length { bodyAt rb.body r.body.length with els := rb.body.length + 1 } ++ [{ kind := 6 }] := by rw [hrl]
        clear hrl
        obtain ⟨tq, ro, eo, A3⟩ := ih (depth + 1) _ [] o so rl rf h5 nrL hDl (fun k => (by have k' : sb.bdy = false := k; rw [d2] at k'; cases k')) hgl
        rw [List.nil_append] at eo
        subst eo
        obtain ⟨d5, d6⟩ := A3.bdy d2
        have d5' : so.ds = sb.ds := d5
        obtain ⟨sl2, sw2⟩ := blk_stop h5
        have hend := sw2.resolve_left h6
        obtain ⟨re, hte, hge⟩ := go_at A3.go sl2
        rw [hend, tk_end (cut_nz _) (cut_one (.inr rfl))] at hte
        have ho2 : ro.opn depth = (r.body.length, rb.body.length) := by
          rw [A3.opn depth (by omega), hOl]
          unfold Lk.upd
          rw [if_pos rfl]
        have hre := end_out hte A3.dep ho2
        rw [if_neg (by omega)] at hre
        have hl3 := A3.len
        rw [hBl] at hl3
        simp only [List.length_append, List.length_singleton, List.length_set] at hl3
        have hol : ∀ x, x < rb.body.length → bodyAt ro.body x = if x = r.body.length then { bodyAt rb.body r.body.length with els := rb.body.length + 1 } else bodyAt rb.body x := by
          intro x hx
          rw [A3.old x (by rw [hBl]; simp; omega), hBl, at_app _ _ _ (by simpa using hx), at_set _ _ _ (by omega)]
        have hom : bodyAt ro.body rb.body.length = { kind := 6 } := by
          rw [A3.old _ (by rw [hBl]; simp), hBl]
          have := at_new (rb.body.set r.body.length { bodyAt rb.body r.body.length with els := rb.body.length + 1 }) { kind := 6 }
          rw [List.length_set] at this
          exact this
        have hop := hol r.body.length (by omega)
        rw [if_pos rfl, hhd] at hop
        have nrE : NR re so.ds := A3.nr.same ⟨by rw [hre], by rw [hre], by rw [hre], by rw [hre]⟩
        have hDe : re.depth = depth := by rw [hre]
        have hOe : re.opn = ro.opn := by rw [hre]
        have hBe : re.body = ro.body.set rb.body.length { bodyAt ro.body rb.body.length with next := ro.body.length + 1 } ++ [{ kind := 6, next := ro.body.length + 1 }] := by
          rw [hre]
          show _ ++ [({ kind := 6, next := if (bodyAt ro.body r.body.length).kind = 5 then r.body.length else ro.body.length + 1 } : Lk.St)] = _
          rw [hop, if_neg (by show ¬ sh.kind = 5; omega)]
        clear hre
        obtain ⟨ts, r2, e, A2⟩ := ih depth _ _ out2 s2 re rf h7 nrE hDe (fun k => (by have k' : so.bdy = false := k; rw [d6] at k'; cases k')) hge
        obtain ⟨d3, d4⟩ := A2.bdy d6
        have d3' : s2.ds = so.ds := d3
        have hl2 := A2.len
        rw [hBe] at hl2
        simp only [List.length_append, List.length_singleton, List.length_set] at hl2
        have hx : ∀ x, x < ro.body.length → bodyAt r2.body x = if x = rb.body.length then { bodyAt ro.body rb.body.length with next := ro.body.length + 1 } else bodyAt ro.body x := by
          intro x hx
          rw [A2.old x (by rw [hBe]; simp; omega), hBe, at_app _ _ _ (by simpa using hx), at_set _ _ _ (by omega)]
        have hmk : bodyAt r2.body ro.body.length = { kind := 6, next := ro.body.length + 1 } := by
          rw [A2.old _ (by rw [hBe]; simp), hBe]
          have := at_new (ro.body.set rb.body.length { bodyAt ro.body rb.body.length with next := ro.body.length + 1 }) { kind := 6, next := ro.body.length + 1 }
          rw [List.length_set] at this
          exact this
        have hp := hx r.body.length (by omega)
        rw [if_neg (by omega), hop] at hp
        have hq1 := hx rb.body.length (by omega)
        rw [if_pos rfl, hom] at hq1
        have lb := A1.lay
        simp only [List.length_append, List.length_singleton] at lb
        rw [← d5', ← d3'] at lb
        have lb2 := lb.congr (B' := r2.body) (by omega) (fun x a c => by rw [hx x (by omega), if_neg (by omega), hol x c, if_neg (by omega)])
        have lo := A3.lay
        rw [hBl] at lo
        simp only [List.length_append, List.length_singleton, List.length_set] at lo
        rw [← d3'] at lo
        have lo2 := lo.congr (B' := r2.body) (by omega) (fun x a c => by rw [hx x c, if_neg (by omega)])
        have lt := A2.lay
        rw [hBe] at lt
        simp only [List.length_append, List.length_singleton, List.length_set] at lt
        have cc := cst_fd nr c
        have cc2 : Cst (fd s2.ds 0 0) (bodyAt r2.body r.body.length) w := by
          rw [hp, d3', d5', d1]
          exact ⟨cc.out, cc.br, cc.load, cc.store, cc.asg⟩
        refine ⟨.node w b o :: ts, r2, by rw [e]; simp, A2.go, A2.nr, A2.dep, ?_, by omega, ?_, ?_, fun _ => ⟨(d3'.trans d5').trans d1, d4⟩, A2.nob⟩
        · intro d hdl
          rw [A2.opn d hdl, hOe, A3.opn d (by omega), hOl]
          unfold Lk.upd
          rw [if_neg (by omega), A1.opn d (by omega)]
          show Lk.upd r.opn r.depth _ d = _
          unfold Lk.upd
          rw [if_neg (by omega)]
        · intro x hxl
          rw [hx x (by omega), if_neg (by omega), hol x (by omega), if_neg (by omega), A1.old x (by simp; omega)]
          exact at_app _ _ _ hxl
        · exact .ifTwo cc2 (by rw [hp]; exact hk4) (by omega) h2 (by rw [hp]) lb2 (by omega) (by rw [hq1]) (by rw [hp]) lo2 (by omega) (by rw [hmk]) (by rw [hq1]) (by rw [hmk]) lt
    · obtain ⟨_, e1, e2⟩ := blk_end h (.inr hl)
      subst e1 e2
      exact ⟨[], r, by simp, hg, nr, hd, fun _ _ => rfl, Nat.le_refl _, fun _ _ => rfl, .nil _, fun k => ⟨rfl, k⟩, hb⟩
end Go.Proofs.YtgddmpmcnjlcjabGreatDoor.Tm
namespace Go.Proofs.YtgddmpmcnjlcjabGreatDoor.Tm
open Lk (Wd wd RS isName lat cut bodyAt)
open Rf (Rs blk isDecl declare wElse wEnd wIf wWhile wSecret wPublic wVar wArray)
set_option linter.unusedVariables false
theorem blk_whole {L : List Wd} {f : Nat} : ∀ {s : Rs} {out out2 : List Rf.Tr} {s2 : Rs}, blk L f 0 s out = (true, out2, s2) → L.length ≤ s.at_ + 1 + f → ¬ s2.at_ + 1 < L.length := by
  induction f with
  | zero => intro s out out2 s2 h hf; rw [(blk_end h (.inl rfl)).2.2]; omega
  | succ f ih =>
    intro s out out2 s2 h hf
    by_cases hl : s.at_ + 1 < L.length
    · cases blk_way h hl with
      | decl ds h1 h2 h => exact ih h (by show _ ≤ s.at_ + 1 + 1 + f; omega)
      | stop h1 h2 h3 h4 h5 => omega
      | one b sb h1 h2 h3 hb h4 h5 =>
        have a := blk_mono hb
        simp at a
        exact ih h5 (by show _ ≤ sb.at_ + 1 + 1 + f; omega)
      | two b o sb so h1 h2 h3 hb h4 h5 h6 h7 =>
        have a := blk_mono hb
        have c := blk_mono h5
        simp at a c
        exact ih h7 (by show _ ≤ so.at_ + 1 + 1 + f; omega)
      | plain h1 h2 h3 h4 h => exact ih h (by show _ ≤ s.at_ + 1 + 1 + f; omega)
    · rw [(blk_end h (.inr hl)).2.2]; exact hl
theorem ref_read {t : Wd} {ds : List Rf.Dc} {b : List Rf.Tr} (h : Rf.read t = (some (ds, b), 0)) : ∃ s, blk (cut 10 t) (cut 10 t).length 0 {} [] = (true, b, s) ∧ s.ds = ds := by
  unfold Rf.read at h
  simp only at h
  rcases hx : blk (cut 10 t) (cut 10 t).length 0 {} [] with ⟨ok, b', s⟩
  rw [hx] at h
  cases ok with
  | false => simp at h
  | true =>
    simp only at h
    split at h
    · simp only [Prod.mk.injEq, Option.some.injEq] at h
      exact ⟨s, by rw [h.1.2], h.1.1⟩
    · simp at h
theorem read_laid {t : Wd} {ds : List Rf.Dc} {b : List Rf.Tr} (h : (Lk.read t).2 = 0) (hr : Rf.read t = (some (ds, b), 0)) : Lay (Cst (fd ds 0 0)) (Lk.read t).1.body 0 b (Lk.read t).1.body.length ∧ NR (Lk.read t).1 ds := by
  obtain ⟨s, hb, rfl⟩ := ref_read hr
  unfold Lk.read at h ⊢
  by_cases hl : 600 < t.length
  · rw [if_pos hl] at h; cases h
  · rw [if_neg hl] at h ⊢
    have hne := Lk.cut_ne 10 t
    generalize cut 10 t = L at *
    have hL : 0 < L.length := List.length_pos_iff.2 hne
    obtain ⟨g1, g2⟩ := lines_go L (L.length - 1) 0 0 {} (by omega) h
    obtain ⟨ts, r2, e, A⟩ := blk_lay L L.length 0 {} [] b s {} _ hb nr_nil rfl (fun _ => rfl) g1
    rw [List.nil_append] at e
    subst e
    have hw := blk_whole hb (by show _ ≤ 0 + 1 + L.length; omega)
    have hg := A.go
    rw [show L.length - 1 - s.at_ = 0 by omega] at hg
    have hr2 : r2 = (Lk.lines {} 0 L).1 := by
      have : some r2 = some (Lk.lines {} 0 L).1 := hg
      exact Option.some.inj this
    subst hr2
    exact ⟨A.lay, A.nr⟩
end Go.Proofs.YtgddmpmcnjlcjabGreatDoor.Tm
namespace Go.Proofs.YtgddmpmcnjlcjabGreatDoor
open Go.RowKit
set_option linter.unusedVariables false
set_option maxRecDepth 100000 in
set_option maxHeartbeats 1000000 in
theorem inputs_run {w : World} {base P : Nat} {l : List DB} {vn vk vz vb : Value} (rep : PRep w base P l vn vk vz vb) (hl : l.length ≤ 1000) (S : List Bool) (hS : secL (dcs l) = S) (h3 : S.length ≤ 3) :
    Calls Tryz.prog 9 #[.pointer (some ⟨P, 0, none⟩)] w fun e w' => e = .returned (.int .i64 (Cl.vin S : Nat)) ∧ Below w.heap.size w w' := by
  have HSE := hid (secrets_run rep hl)
  rw [hS] at HSE
  clear rep hS
  go_enter Tryz.func9, Tryz.ntmps9
  go_wp2_with (first | (go_at_call 25; refine HSE.out.mono ?_; rintro e w1 ⟨a, c, rfl, ho, hb⟩; have HO := hid ho; have HB := hid hb; have z1 := hb.size; clear ho hb))
  go_loopg [4, 5] S.length (fun gk nv iv wr => ∃ i n : Nat, i ≤ S.length ∧ S.length ≤ i + gk ∧ iv = .int .i64 i ∧ nv = .int .i64 n ∧ n + 4 * S.length = 4 * i + (Cl.secB S i).1 ∧ wr = w1)
  case atStart => exact ⟨0, 0, Nat.zero_le _, by omega, rfl, rfl, by show 0 + 4 * S.length = 4 * 0 + 4 * S.length; omega, rfl⟩
  case round =>
    obtain ⟨i, n, hi, hgk, rfl, rfl, hn, rfl⟩ := hrel
    have hle := Cl.secB_le S i
    by_cases hlt : i < S.length
    · have hst := Cl.secB_step S i
      obtain ⟨ga, dn, hva, _, _⟩ := HO.out.form (by omega)
      have e1 := (slice_inj hva).1
      subst e1
      have x1 : wr.cell? ⟨ga, i, none⟩ = some (.bool (S.getD i false)) := by
        rw [HO.out.cellAt i (by omega), List.getElem?_map, List.getElem?_eq_getElem hlt, List.getD_eq_getElem?_getD, List.getElem?_eq_getElem hlt]; rfl
      have hn2 : n ≤ 100 := by omega
      cases hb : S.getD i false with
      | true =>
        rw [hb] at x1 hst
        rw [if_pos rfl] at hst
        go_wp2_with fail
        go_roundg (gk - 1)
        case measure => omega
        case rel => exact ⟨i + 1, n + 8, by omega, by omega, by go_num, by go_num, by omega, rfl⟩
      | false =>
        rw [hb] at x1 hst
        rw [if_neg (by decide)] at hst
        go_wp2_with fail
        go_roundg (gk - 1)
        case measure => omega
        case rel => exact ⟨i + 1, n + 4, by omega, by omega, by go_num, by go_num, by omega, rfl⟩
    · have hie : i = S.length := by omega
      subst hie
      have HV := hid (show n = Cl.vin S by unfold Cl.vin; omega)
      go_wp2_with fail
      go_ret
      exact ⟨by rw [HV.out]; rfl, HB.out⟩
set_option maxRecDepth 100000 in
set_option maxHeartbeats 400000 in
theorem sized_yes (v : Nat) (h : v ≤ 1000000) (w : World) : Calls Tryz.prog 7 #[.int .i64 v] w fun e w' => e = .returned (.bool true) ∧ w' = w := by
  have h1 : (v : Int) ≤ 99999999 := by omega
  have h2 : (0 : Int) ≤ (v : Int) := by omega
  go_enter Tryz.func7, Tryz.ntmps7
  go_wp2
  go_ret
  exact ⟨rfl, rfl⟩
theorem dc_len (ds : List Rf.Dc) : ds.length = Tm.scal ds + (Tm.sizes ds).length := by
  unfold Tm.scal Tm.sizes
  rw [List.length_map]
  induction ds with
  | nil => rfl
  | cons d ds ih =>
    by_cases h : d.kind = Rf.wArray
    · rw [List.filter_cons_of_neg (by simp [h]), List.filter_cons_of_pos (by simp [h])]
      simp only [List.length_cons]; omega
    · rw [List.filter_cons_of_pos (by simp [h]), List.filter_cons_of_neg (by simp [h])]
      simp only [List.length_cons]; omega
theorem proofs_nil (s : ByteArray) (k : Int) (w : World) (h : wi k 10 = false ∨ 600 < s.size ∨ (s.size ≤ 600 ∧ (Rf.readS s.toList).1 = false)) : Calls Tryz.prog 3 #[.string s, .int .i64 k] w fun e w' => e = .returned (.bool true) ∧ Below w.heap.size w w' := by
  have H := hid h
  clear h
  go_enter Tryz.func3, Tryz.ntmps3
  go_wp2_with (first
    | (go_at_call 5; refine (prog_nil s k _ H.out).mono ?_; rintro e w1 ⟨rfl, hb1⟩; have HB1 := hid hb1; clear hb1))
  go_ret
  exact ⟨rfl, HB1.out⟩
section
variable (s : ByteArray) (k : Nat) (w : World) (hk : wi (k : Int) 10 = true) (hk10 : k ≤ 10) (hs6 : s.size ≤ 600) (ds : List Rf.Dc) (ts : List Rf.Tr) (rp : ∀ w : World, Calls Tryz.prog 15 #[.string s] w fun e w' => e = .returned (.tuple #[.pointer (some ⟨w.heap.size, 0, none⟩), .int .i64 0]) ∧ Below w.heap.size w w' ∧ ProgAt w w' ds ts) (hl : (Lk.read s.toList).2 = 0) (htab : Tab w)
include hk hk10 hs6 rp hl htab
set_option maxRecDepth 100000 in
set_option maxHeartbeats 1000000 in
theorem proofs_ins (hin : (Pr.fd (pgOf s.toList) k).al < k) :
    Calls Tryz.prog 3 #[.string s, .int .i64 (k : Int)] w fun e w' => e = .returned (.bool true) ∧ Below w.heap.size w w' := by
  have RP := hid rp
  have HTAB := hid htab
  have HIN := hid hin
  have HC := hid (fun W hW => check_all s k 0 0 W hW hk10 (by omega) (by omega) hl)
  clear rp htab hl hin
  go_enter Tryz.func3, Tryz.ntmps3
  go_wp2_with (first
    | (go_at_call 5; refine (prog_some s k _ hk hs6 ds ts RP.out).mono ?_; rintro e w1 ⟨w5, rfl, hb1, hpa⟩; have HB1 := hid hb1; have z1 := hb1.size; clear hb1 hpa)
    | (go_at_call 6; refine (HC.out _ (tab_on HTAB.out HB1.out)).mono ?_; rintro e w2 hc; obtain ⟨a1, c1, a2, c2, i, j, he, -⟩ := hc.ins (.inl rfl) HIN.out; subst he; have HB2 := hid hc.bel; have z2 := hc.bel.size; clear hc))
  go_ret
  exact ⟨rfl, (HB1.out.trans (HB2.out.mono z1)).alloc (by omega) _⟩
set_option maxRecDepth 100000 in
set_option maxHeartbeats 2000000 in
theorem proofs_sec (hin : ¬ (Pr.fd (pgOf s.toList) k).al < k) (dlen : ds.length ≤ 1000) (hsec : secL ds = (pgOf s.toList).sec) :
    Calls Tryz.prog 3 #[.string s, .int .i64 (k : Int)] w fun e w' => e = .returned (.bool true) ∧ Below w.heap.size w w' := by
  have ok := pgOf_ok s.toList
  have HC := hid (fun W hW => check_all s k 0 0 W hW hk10 (by omega) (by omega) hl)
  generalize pgOf s.toList = p at hin hsec ok HC
  have dia := Ck.dia_dia ok k
  obtain ⟨f1, f2, f3⟩ := Ck.fm_size ok k hk10
  obtain ⟨d1, d2, d3, d4⟩ := Ck.dia_ok ok k hk10
  obtain ⟨e1, e2⟩ := Cl.form_rend p.sec (Ck.nodes p k) (Ck.told p k) dia.desc dia.D
  have e1 : (Ck.fm p k).bs = _ := e1
  have e2 : (Ck.fm p k).ct = _ := e2
  have hro := Ck.rows_ok ok k hk10 hin
  have hpf : (Ck.pf p k).2 = _ := (Cl.prf_rend (Ck.fm p k).bits (Ck.fm p k).ct).1
  have hpl := Ck.pf_size ok k hk10
  have htl := Cl.tl_ok dia (by show (Ck.fm p k).vars ≤ _; omega)
  have hal := (Cl.ahd_len dia).1
  have hlits : ∀ c ∈ Cl.allK p.sec (Ck.nodes p k) (Ck.told p k), (∀ l ∈ c, l ≠ 0 ∧ l.natAbs ≤ (Ck.fm p k).vars) ∧ c.length ≤ 100 := Cl.all_lits dia (by omega)
  have hvi := Cl.vin_le p.sec
  have hs3 := ok.sec
  rw [e2] at hpf hro f1
  rw [d2] at htl hal
  generalize Cl.allK p.sec (Ck.nodes p k) (Ck.told p k) = C at e1 hpf hro f1 htl hal hlits e2
  generalize Cl.prfA (Ck.fm p k).bits C.length = rows at hpf hro
  generalize (Cl.ahdK p.sec (Ck.nodes p k) (Ck.told p k)).length = at_ at htl hal
  have HSEC := hid (fun (W : World) (e : Ending) (w' : World) (c : CkOut W w' e p k 0 0) => c.sec (.inl rfl) hin (.inl rfl))
  generalize (Ck.fm p k).vars = vr at f2 hro hlits HSEC
  obtain ⟨F, hF⟩ : ∃ F : ByteArray, (⟨(Ck.fm p k).bs.toArray⟩ : ByteArray) = F := ⟨_, rfl⟩
  obtain ⟨G, hG⟩ : ∃ G : ByteArray, (⟨(Ck.pf p k).2.toArray⟩ : ByteArray) = G := ⟨_, rfl⟩
  rw [hF, hG] at HSEC
  have hFt : F.toList = (Ck.fm p k).bs := by rw [← hF, ByteArray.toList_mk]
  have hGt : G.toList = (Ck.pf p k).2 := by rw [← hG, ByteArray.toList_mk]
  have hFs : F.size ≤ 1000000000 := by rw [← tl_len, hFt]; omega
  have hGs : G.size ≤ 1000000000 := by rw [← tl_len, hGt]; omega
  have HCL := hid (fun W => clauses_any F C vr W hFs (hFt.trans e1) (fun c hc => (hlits c hc).1) (by omega))
  have HTL := hid (fun W v (hv : ClsAt W v C) => tail_any C (Cl.vin p.sec) k at_ v W hk10 (by omega) hv htl (by omega))
  have HRF := hid (fun W v (hv : ClsAt W v C) => refutes_any C rows v vr G W hv (by omega) (by omega) (fun i hi => by
    have := hlits _ (Cl.getD_memL hi)
    exact ⟨this.1, by omega⟩) (by omega) (hGt.trans hpf) hGs hro)
  have HSZ := hid (fun W => sized_yes vr (by omega) W)
  have HRP := hid rp
  have HTAB := hid htab
  have HDL := hid dlen
  have HSC := hid hsec
  have HS3 := hid hs3
  generalize ((Ck.nodes p k).length : Int) - 2 = xn at HSEC
  generalize ((Ck.pf p k).1 : Int) = xc at HSEC
  clear hl rp htab hin dia f1 f2 f3 d1 d2 d3 d4 e1 e2 hro hpf hpl htl hal hlits hvi hs3 hF hG hFt hGt hFs hGs ok dlen hsec
  go_enter Tryz.func3, Tryz.ntmps3
  go_upto_region 7 with (first
    | (go_at_call 5; refine (prog_some s k _ hk hs6 ds ts HRP.out).mono ?_; rintro e w1 ⟨w5, rfl, hb1, l, vn, vk, vz, vb, hds, hrep, hsub⟩; have HB1 := hid hb1; have z1 := hb1.size; have HD := hid hds; have HREP := hid hrep; clear hb1 hds hrep hsub)
    | (go_at_call 6; refine (HC.out _ (tab_on HTAB.out HB1.out)).mono ?_; rintro e w2 hc; have he := HSEC.out _ e w2 hc; subst he; have HB2 := hid hc.bel; have z2 := hc.bel.size; clear hc))
  obtain ⟨W2, hW2⟩ : ∃ W2 : World, w2.alloc (.cells #[.int .i64 0, .slice none 0 0, .slice none 0 0, .int .i64 0, .int .i64 vr, .string F, .string G, .int .i64 xn, .int .i64 xc] 26) = W2 := ⟨_, rfl⟩
  have HB2' := hid (show Below w1.heap.size w1 W2 by rw [← hW2]; exact HB2.out.alloc z2 _)
  have r4 : W2.cell? ⟨w2.heap.size, 4, none⟩ = some (.int .i64 vr) := by rw [← hW2]; exact newAt w2 _ _ 4 _ rfl
  have r5 : W2.cell? ⟨w2.heap.size, 5, none⟩ = some (.string F) := by rw [← hW2]; exact newAt w2 _ _ 5 _ rfl
  have r6 : W2.cell? ⟨w2.heap.size, 6, none⟩ = some (.string G) := by rw [← hW2]; exact newAt w2 _ _ 6 _ rfl
  have zW := HB2'.out.size
  rw [hW2]
  clear hW2
  go_upto_region 13 with (first
    | (go_at_call 7; refine (HSZ.out _).mono ?_; rintro e w3 ⟨rfl, hw3⟩; have hw4 := hw3.symm; subst hw4)
    | (go_at_call 8; refine (HCL.out _).mono ?_; rintro e w3 ⟨cv, rfl, hcv, hb3⟩; have HCV := hid hcv; have HB3 := hid hb3; have z3 := hb3.size; clear hcv hb3))
  have hln : l.length ≤ 1000 := by have h := HDL.out; rw [HD.out] at h; simpa [dcs] using h
  have HB13 := hid (show Below w1.heap.size w1 w3 from HB2'.out.trans (HB3.out.mono zW))
  have z13 := HB13.out.size
  have HIP := hid (inputs_run (rep_later HREP.out HB13.out) hln p.sec (by rw [← HD.out]; exact HSC.out) HS3.out)
  have s4 := cell_later HB3.out r4
  have s6 := cell_later HB3.out r6
  go_upto_region 14 with (first
    | (go_at_call 9; refine HIP.out.mono ?_; rintro e w6 ⟨rfl, hb6⟩; have HB6 := hid hb6; have z6 := hb6.size; clear hb6))
  have HTA := hid (HTL.out w6 cv (HCV.out.later HB6.out))
  go_upto_region 15 with (first
    | (go_at_call 10; refine HTA.out.mono ?_; rintro e w7 ⟨at1, ct1, rfl, -, hb7⟩; have HB7 := hid hb7; have z7 := hb7.size; clear hb7))
  have HRR := hid (HRF.out w7 cv ((HCV.out.later HB6.out).later HB7.out))
  have t4 := cell_later HB7.out (cell_later HB6.out s4)
  have t6 := cell_later HB7.out (cell_later HB6.out s6)
  go_wp2_with (first
    | (go_at_call 11; refine HRR.out.mono ?_; rintro e w8 ⟨rfl, hb8⟩; have HB8 := hid hb8; clear hb8))
  go_ret
  exact ⟨rfl, ((((HB1.out.trans (HB13.out.mono z1)).trans (HB6.out.mono (by omega))).trans (HB7.out.mono (by omega))).trans (HB8.out.mono (by omega)))⟩
end
theorem Proofs_any (s : ByteArray) (k : Int) (hk : -9223372036854775808 ≤ k ∧ k ≤ 9223372036854775807) (w : World) (htab : Tab w) : Calls Tryz.prog 3 #[.string s, .int .i64 k] w fun e w' => e = .returned (.bool true) ∧ Below w.heap.size w w' := by
  cases hk : wi k 10 with
  | false => exact proofs_nil s k w (.inl hk)
  | true =>
    by_cases h6 : 600 < s.size
    · exact proofs_nil s k w (.inr (.inl h6))
    · have hl6 : s.size ≤ 600 := by omega
      have htl : s.toList.length ≤ 600 := by rw [tl_len]; exact hl6
      cases hr : (Rf.readS s.toList).1 with
      | false => exact proofs_nil s k w (.inr (.inr ⟨hl6, hr⟩))
      | true =>
        have h0 : (Lk.read s.toList).2 = 0 := (Rf.read_line s.toList htl).trans ((Rf.readS_line _).2.1 hr)
        obtain ⟨os, h1, h2, h3⟩ := readS_of hr
        obtain ⟨ts, hts⟩ : ∃ ts, (Rf.blk (Lk.cut 10 s.toList) (Lk.cut 10 s.toList).length 0 {} []).2.1 = ts := ⟨_, rfl⟩
        have rp := fun w => read_good s hl6 w os h1 h2
        rw [hts] at h3 rp
        have nr := (Tm.read_laid h0 h3).2
        have wf := Lk.rwf_read s.toList
        have hsec : secL os.ds = (pgOf s.toList).sec := nr.sec.symm
        have dlen : os.ds.length ≤ 1000 := by
          have h1 := dc_len os.ds
          have h2 := nr.sca
          have h3 := congrArg List.length nr.cel
          have h4 := wf.sec
          have h5 := wf.var
          have h6 := wf.cel
          omega
        have hkk := wi_true hk
        obtain ⟨K, hK⟩ : ∃ K : Nat, k = (K : Int) := ⟨k.toNat, by omega⟩
        subst hK
        by_cases hin : (Pr.fd (pgOf s.toList) K).al < K
        · exact proofs_ins s K w hk (by omega) hl6 os.ds ts rp h0 htab hin
        · exact proofs_sec s K w hk (by omega) hl6 os.ds ts rp h0 htab hin dlen hsec
end Go.Proofs.YtgddmpmcnjlcjabGreatDoor
