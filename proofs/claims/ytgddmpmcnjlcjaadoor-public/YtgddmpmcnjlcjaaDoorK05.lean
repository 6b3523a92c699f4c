import Derived.Test.YtgddmpmcnjlcjaaDoorK04
/- A text whose secrets are turned to public ones: how it is read. -/
namespace Go.Proofs.YtgddmpmcnjlcjaaDoor
set_option linter.unusedVariables false

namespace Lk
/-- The same state, other marks of what is secret. -/
def ch (x : List Bool) (r : RS) : RS := { r with secret := x }
variable {r : RS} {ws : List Wd} {x : List Bool}

theorem ch_add (s : St) : add (ch x r) s = (add r s).map (ch x) := by
  unfold add
  by_cases h : r.stmts < 12
  · rw [if_pos h, if_pos (show (ch x r).stmts < 12 from h)]; rfl
  · rw [if_neg h, if_neg (show ¬ (ch x r).stmts < 12 from h)]; rfl
theorem ch_declare (w : Wd) (a b : Nat) : declare (ch x r) w a b = (declare r w a b).map (ch x) := by
  unfold declare
  by_cases h : r.body.length = 0 ∧ isName w = true ∧ (r.letters (lat w)).1 = 0
  · rw [if_pos h, if_pos (show (ch x r).body.length = 0 ∧ isName w = true ∧ ((ch x r).letters (lat w)).1 = 0 from h)]; rfl
  · rw [if_neg h, if_neg (show ¬ ((ch x r).body.length = 0 ∧ isName w = true ∧ ((ch x r).letters (lat w)).1 = 0) from h)]; rfl
theorem ch_var (hx : x.length = r.secret.length) : takeVar (ch x r) ws = (takeVar r ws).map (ch x) := by
  unfold takeVar
  by_cases h : ws.length = 2 ∧ r.vars < 4
  · rw [if_pos h, if_pos (show ws.length = 2 ∧ (ch x r).vars < 4 from h)]
    rw [show (ch x r).secret.length + (ch x r).vars = r.secret.length + r.vars by show x.length + r.vars = _; rw [hx], ch_declare]
    cases declare r (wd ws 1) 1 (r.secret.length + r.vars) with
    | none => rfl
    | some q => rfl
  · rw [if_neg h, if_neg (show ¬ (ws.length = 2 ∧ (ch x r).vars < 4) from h)]; rfl
theorem ch_array : takeArray (ch x r) ws = (takeArray r ws).map (ch x) := by
  unfold takeArray
  by_cases h : ws.length = 3 ∧ r.cells.length < 2
  · rw [if_pos h, if_pos (show ws.length = 3 ∧ (ch x r).cells.length < 2 from h)]
    cases num? (wd ws 2) with
    | none => rfl
    | some n =>
      show (if 1 ≤ n ∧ n ≤ 4 then _ else none) = Option.map (ch x) (if 1 ≤ n ∧ n ≤ 4 then _ else none)
      by_cases h2 : 1 ≤ n ∧ n ≤ 4
      · rw [if_pos h2, if_pos h2, show (ch x r).cells.length = r.cells.length from rfl, ch_declare]
        cases declare r (wd ws 1) 2 r.cells.length with
        | none => rfl
        | some q => rfl
      · rw [if_neg h2, if_neg h2]; rfl
  · rw [if_neg h, if_neg (show ¬ (ws.length = 3 ∧ (ch x r).cells.length < 2) from h)]; rfl
theorem ch_atom : atom? (ch x r) = atom? r := rfl
theorem ch_find : find (ch x r) = find r := rfl
theorem ch_load : takeLoad (ch x r) ws = (takeLoad r ws).map (ch x) := by
  unfold takeLoad
  rw [ch_find, ch_atom]
  split
  · cases atom? r (wd ws 3) with
    | none => rfl
    | some y => exact ch_add _
  · rfl
theorem ch_store : takeStore (ch x r) ws = (takeStore r ws).map (ch x) := by
  unfold takeStore
  rw [ch_find, ch_atom]
  split
  · cases atom? r (wd ws 2) with
    | none => rfl
    | some y =>
      cases atom? r (wd ws 3) with
      | none => rfl
      | some z => exact ch_add _
  · rfl
theorem ch_out : takeOut (ch x r) ws = (takeOut r ws).map (ch x) := by
  unfold takeOut
  rw [ch_atom]
  split
  · cases atom? r (wd ws 1) with
    | none => rfl
    | some y => exact ch_add _
  · rfl
theorem ch_assign : takeAssign (ch x r) ws = (takeAssign r ws).map (ch x) := by
  unfold takeAssign
  rw [ch_find, ch_atom]
  split
  · cases atom? r (wd ws 2) with
    | none => rfl
    | some y =>
      show (if ws.length = 3 then _ else _) = Option.map (ch x) (if ws.length = 3 then _ else _)
      by_cases h3 : ws.length = 3
      · rw [if_pos h3, if_pos h3]; exact ch_add _
      · rw [if_neg h3, if_neg h3]
        cases oper? (wd ws 3) with
        | none => rfl
        | some o =>
          cases atom? r (wd ws 4) with
          | none => rfl
          | some z => exact ch_add _
  · rfl
theorem ch_branch (k : Nat) : takeBranch (ch x r) ws k = (takeBranch r ws k).map (ch x) := by
  unfold takeBranch
  rw [ch_atom]
  by_cases h : ws.length = 2 ∧ r.depth < 4
  · rw [if_pos h, if_pos (show ws.length = 2 ∧ (ch x r).depth < 4 from h)]
    cases atom? r (wd ws 1) with
    | none => rfl
    | some y =>
      show (match add (ch x r) { kind := k, a := y } with | some r' => _ | none => none) = Option.map (ch x) (match add r { kind := k, a := y } with | some r' => _ | none => none)
      rw [ch_add]
      cases add r { kind := k, a := y } with
      | none => rfl
      | some q => rfl
  · rw [if_neg h, if_neg (show ¬ (ws.length = 2 ∧ (ch x r).depth < 4) from h)]; rfl
theorem ch_else : takeElse (ch x r) ws = (takeElse r ws).map (ch x) := by
  unfold takeElse
  by_cases h : ws.length = 1 ∧ 0 < r.depth ∧ (bodyAt r.body (r.opn (r.depth - 1)).1).kind = 4 ∧ (r.opn (r.depth - 1)).2 = 0
  · rw [if_pos h, if_pos (show ws.length = 1 ∧ 0 < (ch x r).depth ∧ (bodyAt (ch x r).body ((ch x r).opn ((ch x r).depth - 1)).1).kind = 4 ∧ ((ch x r).opn ((ch x r).depth - 1)).2 = 0 from h)]; rfl
  · rw [if_neg h, if_neg (show ¬ (ws.length = 1 ∧ 0 < (ch x r).depth ∧ (bodyAt (ch x r).body ((ch x r).opn ((ch x r).depth - 1)).1).kind = 4 ∧ ((ch x r).opn ((ch x r).depth - 1)).2 = 0) from h)]; rfl
theorem ch_end : takeEnd (ch x r) ws = (takeEnd r ws).map (ch x) := by
  unfold takeEnd
  by_cases h : ws.length = 1 ∧ 0 < r.depth
  · rw [if_pos h, if_pos (show ws.length = 1 ∧ 0 < (ch x r).depth from h)]; rfl
  · rw [if_neg h, if_neg (show ¬ (ws.length = 1 ∧ 0 < (ch x r).depth) from h)]; rfl
theorem ch_input (a b : Bool) (ws' : List Wd) (h2 : ws'.length = ws.length) (h1 : wd ws' 1 = wd ws 1) (hx : x.length = r.secret.length) :
    (takeInput r ws a = none ∧ takeInput (ch x r) ws' b = none) ∨ ∃ q, takeInput r ws a = some q ∧ takeInput (ch x r) ws' b = some (ch (x ++ [b]) q) ∧ q.secret = r.secret ++ [a] := by
  unfold takeInput
  rw [h2, h1, show (ch x r).secret.length = r.secret.length from hx, show (ch x r).vars = r.vars from rfl]
  by_cases h : ws.length = 2 ∧ r.secret.length < 3 ∧ r.vars = 0
  · rw [if_pos h, if_pos h, ch_declare]
    cases hd : declare r (wd ws 1) 1 r.secret.length with
    | none => exact .inl ⟨rfl, rfl⟩
    | some q => exact .inr ⟨_, rfl, rfl, by show q.secret ++ [a] = _; rw [(sec_declare hd).1]⟩
  · rw [if_neg h, if_neg h]; exact .inl ⟨rfl, rfl⟩
end Lk
end Go.Proofs.YtgddmpmcnjlcjaaDoor
