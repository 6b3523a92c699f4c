
/- The plain functions that the package 'source' computes, on lists of bytes; nothing of the program's translation. -/
namespace Go.Proofs.YtgddmpmcnjlcjaaDoor.Lk

abbrev Wd := List UInt8

def isName : Wd → Bool
  | [c] => decide (97 ≤ c.toNat) && decide (c.toNat ≤ 122)
  | _ => false

def num? : Wd → Option Nat
  | [c] => if 48 ≤ c.toNat ∧ c.toNat ≤ 57 then some (c.toNat - 48) else none
  | [a, b] => if a.toNat = 49 ∧ 48 ≤ b.toNat ∧ b.toNat ≤ 53 then some (10 + (b.toNat - 48)) else none
  | _ => none

def intO : Option Nat → Int
  | some n => n
  | none => -1

def oper? (w : Wd) : Option Nat :=
  if w == [43] then some 1 else if w == [45] then some 2 else if w == [42] then some 3 else if w == [38] then some 4
  else if w == [124] then some 5 else if w == [94] then some 6 else if w == [60, 60] then some 7 else if w == [62, 62] then some 8
  else if w == [60] then some 9 else if w == [61, 61] then some 10 else none

/-- An atom: a slot's number, or a number. -/
structure At where
  named : Bool := false
  val : Nat := 0
deriving DecidableEq

/-- A statement, or a mark (kind 6). -/
structure St where
  kind : Nat := 0
  op : Nat := 0
  slot : Nat := 0
  arr : Nat := 0
  a : At := {}
  b : At := {}
  next : Nat := 0
  els : Nat := 0
deriving DecidableEq

/-- The reader's state. -/
structure RS where
  secret : List Bool := []
  vars : Nat := 0
  cells : List Nat := []
  letters : Nat → Nat × Nat := fun _ => (0, 0)
  body : List St := []
  stmts : Nat := 0
  opn : Nat → Nat × Nat := fun _ => (0, 0)
  depth : Nat := 0

def upd {α : Type} (f : Nat → α) (k : Nat) (v : α) : Nat → α := fun j => if j = k then v else f j

def wd (ws : List Wd) (i : Nat) : Wd := ws.getD i []

/-- The letter's place in the table. -/
def lat (w : Wd) : Nat := (w.getD 0 0).toNat - 97

def find (r : RS) (w : Wd) : Nat × Nat := if isName w then r.letters (lat w) else (0, 0)

def atom? (r : RS) (w : Wd) : Option At :=
  match num? w with
  | some n => some { val := n }
  | none => if (find r w).1 = 1 then some { named := true, val := (find r w).2 } else none

def declare (r : RS) (w : Wd) (role place : Nat) : Option RS :=
  if r.body.length = 0 ∧ isName w = true ∧ (r.letters (lat w)).1 = 0 then some { r with letters := upd r.letters (lat w) (role, place) } else none

def add (r : RS) (s : St) : Option RS :=
  if r.stmts < 12 then some { r with stmts := r.stmts + 1, body := r.body ++ [{ s with next := r.body.length + 1 }] } else none

def takeInput (r : RS) (ws : List Wd) (secret : Bool) : Option RS :=
  if ws.length = 2 ∧ r.secret.length < 3 ∧ r.vars = 0 then
    match declare r (wd ws 1) 1 r.secret.length with
    | some r' => some { r' with secret := r'.secret ++ [secret] }
    | none => none
  else none

def takeVar (r : RS) (ws : List Wd) : Option RS :=
  if ws.length = 2 ∧ r.vars < 4 then
    match declare r (wd ws 1) 1 (r.secret.length + r.vars) with
    | some r' => some { r' with vars := r'.vars + 1 }
    | none => none
  else none

def takeArray (r : RS) (ws : List Wd) : Option RS :=
  if ws.length = 3 ∧ r.cells.length < 2 then
    match num? (wd ws 2) with
    | some n =>
      if 1 ≤ n ∧ n ≤ 4 then
        match declare r (wd ws 1) 2 r.cells.length with
        | some r' => some { r' with cells := r'.cells ++ [n] }
        | none => none
      else none
    | none => none
  else none

def takeLoad (r : RS) (ws : List Wd) : Option RS :=
  if ws.length = 4 ∧ (find r (wd ws 1)).1 = 1 ∧ (find r (wd ws 2)).1 = 2 then
    match atom? r (wd ws 3) with
    | some x => add r { kind := 1, slot := (find r (wd ws 1)).2, arr := (find r (wd ws 2)).2, a := x }
    | none => none
  else none

def takeStore (r : RS) (ws : List Wd) : Option RS :=
  if ws.length = 4 ∧ (find r (wd ws 1)).1 = 2 then
    match atom? r (wd ws 2), atom? r (wd ws 3) with
    | some x, some y => add r { kind := 2, arr := (find r (wd ws 1)).2, a := x, b := y }
    | _, _ => none
  else none

def takeOut (r : RS) (ws : List Wd) : Option RS :=
  if ws.length = 2 then
    match atom? r (wd ws 1) with
    | some x => add r { kind := 3, a := x }
    | none => none
  else none

def takeAssign (r : RS) (ws : List Wd) : Option RS :=
  if (ws.length = 3 ∨ ws.length = 5) ∧ wd ws 1 = [61] ∧ (find r (wd ws 0)).1 = 1 then
    match atom? r (wd ws 2) with
    | some x =>
      if ws.length = 3 then add r { kind := 0, op := 0, slot := (find r (wd ws 0)).2, a := x }
      else
        match oper? (wd ws 3), atom? r (wd ws 4) with
        | some o, some y => add r { kind := 0, op := o, slot := (find r (wd ws 0)).2, a := x, b := y }
        | _, _ => none
    | none => none
  else none

def takeBranch (r : RS) (ws : List Wd) (kind : Nat) : Option RS :=
  if ws.length = 2 ∧ r.depth < 4 then
    match atom? r (wd ws 1) with
    | some x =>
      match add r { kind := kind, a := x } with
      | some r' => some { r' with opn := upd r'.opn r'.depth (r.body.length, 0), depth := r'.depth + 1 }
      | none => none
    | none => none
  else none

def bodyAt (b : List St) (i : Nat) : St := b.getD i {}

def takeElse (r : RS) (ws : List Wd) : Option RS :=
  if ws.length = 1 ∧ 0 < r.depth ∧ (bodyAt r.body (r.opn (r.depth - 1)).1).kind = 4 ∧ (r.opn (r.depth - 1)).2 = 0 then
    some { r with opn := upd r.opn (r.depth - 1) ((r.opn (r.depth - 1)).1, r.body.length)
                  body := r.body.set (r.opn (r.depth - 1)).1 { bodyAt r.body (r.opn (r.depth - 1)).1 with els := r.body.length + 1 } ++ [{ kind := 6 }] }
  else none

def takeEnd (r : RS) (ws : List Wd) : Option RS :=
  if ws.length = 1 ∧ 0 < r.depth then
    let inner := r.opn (r.depth - 1)
    let behind := r.body.length + 1
    let next := if (bodyAt r.body inner.1).kind = 5 then inner.1 else behind
    let body' := if inner.2 = 0 then r.body.set inner.1 { bodyAt r.body inner.1 with els := behind }
                 else r.body.set inner.2 { bodyAt r.body inner.2 with next := behind }
    some { r with depth := r.depth - 1, body := body' ++ [{ kind := 6, next := next }] }
  else none

def take (r : RS) (ws : List Wd) : Option RS :=
  if ws.length = 0 then none
  else if wd ws 0 == [115, 101, 99, 114, 101, 116] then takeInput r ws true
  else if wd ws 0 == [112, 117, 98, 108, 105, 99] then takeInput r ws false
  else if wd ws 0 == [118, 97, 114] then takeVar r ws
  else if wd ws 0 == [97, 114, 114, 97, 121] then takeArray r ws
  else if wd ws 0 == [108, 111, 97, 100] then takeLoad r ws
  else if wd ws 0 == [115, 116, 111, 114, 101] then takeStore r ws
  else if wd ws 0 == [111, 117, 116] then takeOut r ws
  else if wd ws 0 == [105, 102] then takeBranch r ws 4
  else if wd ws 0 == [119, 104, 105, 108, 101] then takeBranch r ws 5
  else if wd ws 0 == [101, 108, 115, 101] then takeElse r ws
  else if wd ws 0 == [101, 110, 100] then takeEnd r ws
  else takeAssign r ws

/-- A text cut at a byte: what stands between. -/
def cut (c : UInt8) : Wd → List Wd
  | [] => [[]]
  | x :: xs => if x = c then [] :: cut c xs else
    match cut c xs with
    | [] => [[x]]
    | y :: ys => (x :: y) :: ys

/-- Of the body: where one comes to from a place on, passing at most n marks. -/
def pass (b : List St) : Nat → Nat → Nat
  | 0, p => p
  | n + 1, p => if p < b.length ∧ (bodyAt b p).kind = 6 then pass b n (bodyAt b p).next else p

def ahead (b : List St) (p : Nat) : Nat := ((b.take p).filter fun s => s.kind ≠ 6).length

def settle (b : List St) (p : Nat) : Nat := ahead b (pass b b.length p)

def linkOne (b : List St) (s : St) : St :=
  if s.kind = 4 ∨ s.kind = 5 then { s with next := settle b s.next, els := settle b s.els } else { s with next := settle b s.next }

def link (b : List St) : List St := (b.filter fun s => s.kind ≠ 6).map (linkOne b)

/-- The lines of a text, the last of which is not ended; how many were read: the state, or the wrong line. -/
def lines : RS → Nat → List Wd → RS × Nat
  | r, ended, [] => (r, ended + 1)
  | r, ended, [l] => if l.length = 0 ∧ r.depth = 0 then (r, 0) else (r, ended + 1)
  | r, ended, l :: m :: ls =>
    match take r (cut 32 l) with
    | some r' => lines r' (ended + 1) (m :: ls)
    | none => (r, ended + 1)

def read (s : Wd) : RS × Nat := if 600 < s.length then ({}, 1) else lines {} 0 (cut 10 s)

end Go.Proofs.YtgddmpmcnjlcjaaDoor.Lk
