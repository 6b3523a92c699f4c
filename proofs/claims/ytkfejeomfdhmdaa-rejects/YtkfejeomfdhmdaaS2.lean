import Derived.Test.YtkfejeomfdhmdaaS0
/- The plain functions that the package 'leaksref' computes in reading a text. -/
namespace Go.Proofs.Ytkfejeomfdhmdaa.Rf
open Go.Proofs.Ytkfejeomfdhmdaa.Lk (Wd num? oper? cut wd isName)

def wSecret : Wd := [115, 101, 99, 114, 101, 116]
def wPublic : Wd := [112, 117, 98, 108, 105, 99]
def wVar : Wd := [118, 97, 114]
def wArray : Wd := [97, 114, 114, 97, 121]
def wElse : Wd := [101, 108, 115, 101]
def wEnd : Wd := [101, 110, 100]
def wIf : Wd := [105, 102]
def wWhile : Wd := [119, 104, 105, 108, 101]
def wOut : Wd := [111, 117, 116]
def wLoad : Wd := [108, 111, 97, 100]
def wStore : Wd := [115, 116, 111, 114, 101]
def signs : List Wd := [[43], [45], [42], [38], [124], [94], [60, 60], [62, 62], [60], [61, 61]]

/-- A declared name: the name, the word that declares it, the size. -/
structure Dc where
  name : Wd
  kind : Wd
  size : Nat

def kindOf : List Dc → Wd → Wd
  | [], _ => []
  | d :: ds, w => if (d.name == w) = true then d.kind else kindOf ds w

def many (ds : List Dc) (k : Wd) : Nat := (ds.filter fun d => d.kind == k).length

def scalar (ds : List Dc) (w : Wd) : Bool := kindOf ds w == wSecret || kindOf ds w == wPublic || kindOf ds w == wVar

def atom (ds : List Dc) (w : Wd) : Bool := scalar ds w || (num? w).isSome

/-- Which of a list of words; none. -/
def oneOf : Wd → List Wd → Option Nat
  | _, [] => none
  | w, x :: l => if (x == w) = true then some 0 else (oneOf w l).map (· + 1)

/-- A declaration; the new names. -/
def declare (ds : List Dc) (bdy : Bool) (w : List Wd) : Option (List Dc) :=
  if bdy = false ∧ w.length = (if wd w 0 = wArray then 3 else 2) ∧ isName (wd w 1) = true ∧ kindOf ds (wd w 1) = [] then
    if wd w 0 = wArray then
      match num? (wd w 2) with
      | some n => if 1 ≤ n ∧ n ≤ 4 ∧ many ds wArray < 2 then some (ds ++ [⟨wd w 1, wd w 0, n⟩]) else none
      | none => none
    else if wd w 0 = wVar then
      if many ds wVar < 4 then some (ds ++ [⟨wd w 1, wd w 0, 0⟩]) else none
    else if many ds wVar = 0 ∧ many ds wSecret + many ds wPublic < 3 then some (ds ++ [⟨wd w 1, wd w 0, 0⟩]) else none
  else none

def fits (ds : List Dc) (w : List Wd) : Bool :=
  if wd w 0 = wOut then decide (w.length = 2) && atom ds (wd w 1)
  else if wd w 0 = wLoad then decide (w.length = 4) && (scalar ds (wd w 1) && kindOf ds (wd w 2) == wArray && atom ds (wd w 3))
  else if wd w 0 = wStore then decide (w.length = 4) && (kindOf ds (wd w 1) == wArray && atom ds (wd w 2) && atom ds (wd w 3))
  else if w.length = 3 then scalar ds (wd w 0) && wd w 1 == [61] && atom ds (wd w 2)
  else if w.length = 5 then (scalar ds (wd w 0) && wd w 1 == [61] && atom ds (wd w 2)) && ((oneOf (wd w 3) signs).isSome && atom ds (wd w 4))
  else false

/-- A statement: its words; what stands in it. -/
inductive Tr where
  | node (w : List Wd) (body other : List Tr)

structure Rs where
  ds : List Dc := []
  at_ : Nat := 0
  cnt : Nat := 0
  bdy : Bool := false

def isDecl (w : Wd) : Bool := w == wSecret || w == wPublic || w == wVar || w == wArray

/-- Statements up to else or end, or the text's end. -/
def blk (L : List Wd) : Nat → Nat → Rs → List Tr → Bool × List Tr × Rs
  | 0, depth, s, out => (decide (depth = 0), out, s)
  | f + 1, depth, s, out =>
    if s.at_ + 1 < L.length then
      let w := cut 32 (L.getD s.at_ [])
      if isDecl (wd w 0) = true then
        match declare s.ds s.bdy w with
        | none => (false, [], s)
        | some ds => blk L f depth { s with ds := ds, at_ := s.at_ + 1 } out
      else
        let s := { s with bdy := true }
        if wd w 0 = wElse ∨ wd w 0 = wEnd then (decide (w.length = 1 ∧ 0 < depth), out, s)
        else if s.cnt = 12 then (false, [], s)
        else if wd w 0 = wIf ∨ wd w 0 = wWhile then
          if w.length = 2 ∧ depth ≠ 4 ∧ atom s.ds (wd w 1) = true then
            match blk L f (depth + 1) { s with cnt := s.cnt + 1, at_ := s.at_ + 1 } [] with
            | (false, _, s2) => (false, [], s2)
            | (true, body, s2) =>
              if L.getD s2.at_ [] = wElse then
                if wd w 0 = wIf then
                  match blk L f (depth + 1) { s2 with at_ := s2.at_ + 1 } [] with
                  | (false, _, s3) => (false, [], s3)
                  | (true, other, s3) => if L.getD s3.at_ [] = wElse then (false, [], s3) else blk L f depth { s3 with at_ := s3.at_ + 1 } (out ++ [.node w body other])
                else (false, [], s2)
              else blk L f depth { s2 with at_ := s2.at_ + 1 } (out ++ [.node w body []])
          else (false, [], s)
        else if fits s.ds w = true then blk L f depth { s with cnt := s.cnt + 1, at_ := s.at_ + 1 } (out ++ [.node w [] []])
        else (false, [], { s with cnt := s.cnt + 1 })
    else (decide (depth = 0), out, s)

/-- The names, the statements, and 0; or the wrong line. -/
def read (t : Wd) : Option (List Dc × List Tr) × Nat :=
  let L := cut 10 t
  match blk L L.length 0 {} [] with
  | (false, _, s) => (none, s.at_ + 1)
  | (true, body, s) => if (L.getD (L.length - 1) []) = [] then (some (s.ds, body), 0) else (none, L.length)

end Go.Proofs.Ytkfejeomfdhmdaa.Rf
