/-
  No cell of these rows narrows 'for every input' (looked for: loops, veiled, ifaces, maps, wideKeys, modest, calm, conditions, laid).
  DERIVED. THE GIVEN ROWS OF THIS SEAT. 11 by the template 'for every input the law returns true; each argument reads behind the call as it read before'; 0 by the template 'total and deterministic' (their statements: YtfnmglfbcpdlnaaTotals.lean).
  GIVEN WITH THE SEED: the statements are not yours to turn. If you find one false, say at which input.
  Laid BY PROGRAM, IN A SANDBOX (cutbox-rows.mjs): the forced cells as the released guide's own fill.sh prints them over the translation 7d4402e222f94688… (all of the seat's roots in one cut). By AI agents, Wed Nov 11 2026. No macro, syntax, notation, axiom, sorry.
-/
import Derived.Test.YtfnmglfbcpdlnaaChecked
import GoSem.Claim
import GoSem.ClaimJoined
import GoSem.ClaimMapViews
import Derived.JoinedTies
import Derived.KernelRfl
namespace Go.Proofs.Ytfnmglfbcpdlnaa
/- THE CELL 'sum', in the pinned program and in every row, IS THE sha256 OF THE DUMP (.gsa) THAT YtfnmglfbcpdlnaaProg.lean LOADS. Nothing in Lean hashes anything: it is a label: what it is worth is what the hold of that sum in a sandbox is worth. -/
noncomputable def Try.pinned : Pinned := { name := "ytfnmglfbcpdlnaa", sum := "7d4402e222f9468869a3d36147f91175d98e1075ab3211e6d0526318659f5479", checked := Try.checked }
namespace Rows
def none {H : Type} : Left H := { results := [], args := [] }

/-- 'leakslaw.Runs': WHATEVER THE INPUT: true; the input reads as it did. -/
def runsSpec : ChangeSpec := { name := "runs", fn := fun _ => fun
  | [d1, d2, d3] => { results := [.lit (.bool true)], args := [d1, d2, d3] }
  | _ => none }
def runsRow : OpenClaim := { program := "ytfnmglfbcpdlnaa", sum := "7d4402e222f9468869a3d36147f91175d98e1075ab3211e6d0526318659f5479", func := "leaks/leakslaw.Runs", spec := "runs", recurses := true, apart := false }
def RunsSaid : Prop := runsRow.holds Try.pinned (OpenSpec.ofChange runsSpec)

/-- ITS FALSE NEIGHBOUR: 'it returns false'. Refute it at one input. -/
def runsWrong : ChangeSpec := { name := "runs", fn := fun _ => fun
  | [d1, d2, d3] => { results := [.lit (.bool false)], args := [d1, d2, d3] }
  | _ => none }
def RunsWrongFalsely : Prop := runsRow.holds Try.pinned (OpenSpec.ofChange runsWrong)

/-- 'leakslaw.Rejects': WHATEVER THE INPUT: true; the input reads as it did. -/
def rejectsSpec : ChangeSpec := { name := "rejects", fn := fun _ => fun
  | [d1, d2, d3, d4] => { results := [.lit (.bool true)], args := [d1, d2, d3, d4] }
  | _ => none }
def rejectsRow : OpenClaim := { program := "ytfnmglfbcpdlnaa", sum := "7d4402e222f9468869a3d36147f91175d98e1075ab3211e6d0526318659f5479", func := "leaks/leakslaw.Rejects", spec := "rejects", recurses := true, apart := false }
def RejectsSaid : Prop := rejectsRow.holds Try.pinned (OpenSpec.ofChange rejectsSpec)

/-- ITS FALSE NEIGHBOUR: 'it returns false'. Refute it at one input. -/
def rejectsWrong : ChangeSpec := { name := "rejects", fn := fun _ => fun
  | [d1, d2, d3, d4] => { results := [.lit (.bool false)], args := [d1, d2, d3, d4] }
  | _ => none }
def RejectsWrongFalsely : Prop := rejectsRow.holds Try.pinned (OpenSpec.ofChange rejectsWrong)

/-- 'leakskeep.Wrong': WHATEVER THE INPUT: true; the input reads as it did. -/
def wrongSpec : ChangeSpec := { name := "wrong", fn := fun _ => fun
  | [d] => { results := [.lit (.bool true)], args := [d] }
  | _ => none }
def wrongRow : OpenClaim := { program := "ytfnmglfbcpdlnaa", sum := "7d4402e222f9468869a3d36147f91175d98e1075ab3211e6d0526318659f5479", func := "leaks/leakskeep.Wrong", spec := "wrong", apart := false }
def WrongSaid : Prop := wrongRow.holds Try.pinned (OpenSpec.ofChange wrongSpec)

/-- ITS FALSE NEIGHBOUR: 'it returns false'. Refute it at one input. -/
def wrongWrong : ChangeSpec := { name := "wrong", fn := fun _ => fun
  | [d] => { results := [.lit (.bool false)], args := [d] }
  | _ => none }
def WrongWrongFalsely : Prop := wrongRow.holds Try.pinned (OpenSpec.ofChange wrongWrong)

/-- 'leakslaw.Verdicts': WHATEVER THE INPUT: true; the input reads as it did. -/
def verdictsSpec : ChangeSpec := { name := "verdicts", fn := fun _ => fun
  | [d1, d2] => { results := [.lit (.bool true)], args := [d1, d2] }
  | _ => none }
def verdictsRow : OpenClaim := { program := "ytfnmglfbcpdlnaa", sum := "7d4402e222f9468869a3d36147f91175d98e1075ab3211e6d0526318659f5479", func := "leaks/leakslaw.Verdicts", spec := "verdicts", recurses := true, apart := false }
def VerdictsSaid : Prop := verdictsRow.holds Try.pinned (OpenSpec.ofChange verdictsSpec)

/-- ITS FALSE NEIGHBOUR: 'it returns false'. Refute it at one input. -/
def verdictsWrong : ChangeSpec := { name := "verdicts", fn := fun _ => fun
  | [d1, d2] => { results := [.lit (.bool false)], args := [d1, d2] }
  | _ => none }
def VerdictsWrongFalsely : Prop := verdictsRow.holds Try.pinned (OpenSpec.ofChange verdictsWrong)

/-- 'leakslaw.Witnesses': WHATEVER THE INPUT: true; the input reads as it did. -/
def witnessesSpec : ChangeSpec := { name := "witnesses", fn := fun _ => fun
  | [d1, d2] => { results := [.lit (.bool true)], args := [d1, d2] }
  | _ => none }
def witnessesRow : OpenClaim := { program := "ytfnmglfbcpdlnaa", sum := "7d4402e222f9468869a3d36147f91175d98e1075ab3211e6d0526318659f5479", func := "leaks/leakslaw.Witnesses", spec := "witnesses", recurses := true, apart := false }
def WitnessesSaid : Prop := witnessesRow.holds Try.pinned (OpenSpec.ofChange witnessesSpec)

/-- ITS FALSE NEIGHBOUR: 'it returns false'. Refute it at one input. -/
def witnessesWrong : ChangeSpec := { name := "witnesses", fn := fun _ => fun
  | [d1, d2] => { results := [.lit (.bool false)], args := [d1, d2] }
  | _ => none }
def WitnessesWrongFalsely : Prop := witnessesRow.holds Try.pinned (OpenSpec.ofChange witnessesWrong)

/-- 'leakskeep.Tried': WHATEVER THE INPUT: true; the input reads as it did. -/
def triedSpec : ChangeSpec := { name := "tried", fn := fun _ => fun
  | [d1, d2, d3] => { results := [.lit (.bool true)], args := [d1, d2, d3] }
  | _ => none }
def triedRow : OpenClaim := { program := "ytfnmglfbcpdlnaa", sum := "7d4402e222f9468869a3d36147f91175d98e1075ab3211e6d0526318659f5479", func := "leaks/leakskeep.Tried", spec := "tried", apart := false }
def TriedSaid : Prop := triedRow.holds Try.pinned (OpenSpec.ofChange triedSpec)

/-- ITS FALSE NEIGHBOUR: 'it returns false'. Refute it at one input. -/
def triedWrong : ChangeSpec := { name := "tried", fn := fun _ => fun
  | [d1, d2, d3] => { results := [.lit (.bool false)], args := [d1, d2, d3] }
  | _ => none }
def TriedWrongFalsely : Prop := triedRow.holds Try.pinned (OpenSpec.ofChange triedWrong)

/-- 'leakskeep.Public': WHATEVER THE INPUT: true; the input reads as it did. -/
def publicSpec : ChangeSpec := { name := "public", fn := fun _ => fun
  | [d1, d2] => { results := [.lit (.bool true)], args := [d1, d2] }
  | _ => none }
def publicRow : OpenClaim := { program := "ytfnmglfbcpdlnaa", sum := "7d4402e222f9468869a3d36147f91175d98e1075ab3211e6d0526318659f5479", func := "leaks/leakskeep.Public", spec := "public", apart := false }
def PublicSaid : Prop := publicRow.holds Try.pinned (OpenSpec.ofChange publicSpec)

/-- ITS FALSE NEIGHBOUR: 'it returns false'. Refute it at one input. -/
def publicWrong : ChangeSpec := { name := "public", fn := fun _ => fun
  | [d1, d2] => { results := [.lit (.bool false)], args := [d1, d2] }
  | _ => none }
def PublicWrongFalsely : Prop := publicRow.holds Try.pinned (OpenSpec.ofChange publicWrong)

/-- 'leakskeep.More': WHATEVER THE INPUT: true; the input reads as it did. -/
def moreSpec : ChangeSpec := { name := "more", fn := fun _ => fun
  | [d1, d2] => { results := [.lit (.bool true)], args := [d1, d2] }
  | _ => none }
def moreRow : OpenClaim := { program := "ytfnmglfbcpdlnaa", sum := "7d4402e222f9468869a3d36147f91175d98e1075ab3211e6d0526318659f5479", func := "leaks/leakskeep.More", spec := "more", apart := false }
def MoreSaid : Prop := moreRow.holds Try.pinned (OpenSpec.ofChange moreSpec)

/-- ITS FALSE NEIGHBOUR: 'it returns false'. Refute it at one input. -/
def moreWrong : ChangeSpec := { name := "more", fn := fun _ => fun
  | [d1, d2] => { results := [.lit (.bool false)], args := [d1, d2] }
  | _ => none }
def MoreWrongFalsely : Prop := moreRow.holds Try.pinned (OpenSpec.ofChange moreWrong)

/-- 'leakskeep.Known': WHATEVER THE INPUT: true; the input reads as it did. -/
def knownSpec : ChangeSpec := { name := "known", fn := fun _ => fun
  | [d] => { results := [.lit (.bool true)], args := [d] }
  | _ => none }
def knownRow : OpenClaim := { program := "ytfnmglfbcpdlnaa", sum := "7d4402e222f9468869a3d36147f91175d98e1075ab3211e6d0526318659f5479", func := "leaks/leakskeep.Known", spec := "known", apart := false }
def KnownSaid : Prop := knownRow.holds Try.pinned (OpenSpec.ofChange knownSpec)

/-- ITS FALSE NEIGHBOUR: 'it returns false'. Refute it at one input. -/
def knownWrong : ChangeSpec := { name := "known", fn := fun _ => fun
  | [d] => { results := [.lit (.bool false)], args := [d] }
  | _ => none }
def KnownWrongFalsely : Prop := knownRow.holds Try.pinned (OpenSpec.ofChange knownWrong)

/-- 'leakskeep.Given': WHATEVER THE INPUT: true; the input reads as it did. -/
def givenSpec : ChangeSpec := { name := "given", fn := fun _ => fun
  | [d1, d2] => { results := [.lit (.bool true)], args := [d1, d2] }
  | _ => none }
def givenRow : OpenClaim := { program := "ytfnmglfbcpdlnaa", sum := "7d4402e222f9468869a3d36147f91175d98e1075ab3211e6d0526318659f5479", func := "leaks/leakskeep.Given", spec := "given", apart := false }
def GivenSaid : Prop := givenRow.holds Try.pinned (OpenSpec.ofChange givenSpec)

/-- ITS FALSE NEIGHBOUR: 'it returns false'. Refute it at one input. -/
def givenWrong : ChangeSpec := { name := "given", fn := fun _ => fun
  | [d1, d2] => { results := [.lit (.bool false)], args := [d1, d2] }
  | _ => none }
def GivenWrongFalsely : Prop := givenRow.holds Try.pinned (OpenSpec.ofChange givenWrong)

/-- 'leakskeep.Letters': WHATEVER THE INPUT: true; the input reads as it did. -/
def lettersSpec : ChangeSpec := { name := "letters", fn := fun _ => fun
  | [d1, d2] => { results := [.lit (.bool true)], args := [d1, d2] }
  | _ => none }
def lettersRow : OpenClaim := { program := "ytfnmglfbcpdlnaa", sum := "7d4402e222f9468869a3d36147f91175d98e1075ab3211e6d0526318659f5479", func := "leaks/leakskeep.Letters", spec := "letters", apart := false }
def LettersSaid : Prop := lettersRow.holds Try.pinned (OpenSpec.ofChange lettersSpec)

/-- ITS FALSE NEIGHBOUR: 'it returns false'. Refute it at one input. -/
def lettersWrong : ChangeSpec := { name := "letters", fn := fun _ => fun
  | [d1, d2] => { results := [.lit (.bool false)], args := [d1, d2] }
  | _ => none }
def LettersWrongFalsely : Prop := lettersRow.holds Try.pinned (OpenSpec.ofChange lettersWrong)

/- THE SECOND FORM. 'bulk': how many values and letters a reading holds, each counted each time it is reached (what is shared counts as often as it is met; a slice's spare places count too). A statement '..UptoSaid' is the law's where the arguments, and the package variables that the reading takes, are together of bulk at most 1048576: NARROWER than '..Said'. Prove '..Said' where nothing that the law and all that it calls make is longer than what came in: it says more and counts as full. Else prove '..UptoSaid'. A law counts once. -/
mutual
def uptoBulk {H : Type} : DataW H → Nat
  | .lit (.string bytes) => bytes.length + 1
  | .lit _ => 1
  | .nil => 1
  | .ptr d => uptoBulk d + 1
  | .slice elems spare => uptoBulkAll elems + uptoBulkAll spare + 1
  | .agg parts => uptoBulkAll parts + 1
  | .iface _ d => uptoBulk d + 1
  | .map entries => uptoBulkEntries entries + 1
  | .held _ => 1
def uptoBulkAll {H : Type} : List (DataW H) → Nat
  | [] => 0
  | d :: r => uptoBulk d + uptoBulkAll r
def uptoBulkEntries {H : Type} : List (Lit × DataW H) → Nat
  | [] => 0
  | x :: r => uptoBulkEntry x + uptoBulkEntries r
def uptoBulkEntry {H : Type} : Lit × DataW H → Nat
  | (.string bytes, d) => bytes.length + uptoBulk d + 1
  | (_, d) => uptoBulk d + 1
 end
def uptoSmall : (H : Type) → List (DataW H) → Bool := fun _ ds => decide (uptoBulkAll ds ≤ 1048576)
def OpenSpec.upto (s : _root_.Go.ChangeSpec) : _root_.Go.OpenSpec := { _root_.Go.OpenSpec.ofChange s with cond := some uptoSmall }

/-- 'leakslaw.Runs', WHERE WHAT IT READS IS OF BULK AT MOST 1048576: true; the input reads as it did. -/
def runsUptoRow : OpenClaim := { program := "ytfnmglfbcpdlnaa", sum := "7d4402e222f9468869a3d36147f91175d98e1075ab3211e6d0526318659f5479", func := "leaks/leakslaw.Runs", spec := "runs", recurses := true, apart := false, narrowed := true }
def RunsUptoSaid : Prop := runsUptoRow.holds Try.pinned (OpenSpec.upto runsSpec)

/-- 'leakslaw.Rejects', WHERE WHAT IT READS IS OF BULK AT MOST 1048576: true; the input reads as it did. -/
def rejectsUptoRow : OpenClaim := { program := "ytfnmglfbcpdlnaa", sum := "7d4402e222f9468869a3d36147f91175d98e1075ab3211e6d0526318659f5479", func := "leaks/leakslaw.Rejects", spec := "rejects", recurses := true, apart := false, narrowed := true }
def RejectsUptoSaid : Prop := rejectsUptoRow.holds Try.pinned (OpenSpec.upto rejectsSpec)

/-- 'leakskeep.Wrong', WHERE WHAT IT READS IS OF BULK AT MOST 1048576: true; the input reads as it did. -/
def wrongUptoRow : OpenClaim := { program := "ytfnmglfbcpdlnaa", sum := "7d4402e222f9468869a3d36147f91175d98e1075ab3211e6d0526318659f5479", func := "leaks/leakskeep.Wrong", spec := "wrong", apart := false, narrowed := true }
def WrongUptoSaid : Prop := wrongUptoRow.holds Try.pinned (OpenSpec.upto wrongSpec)

/-- 'leakslaw.Verdicts', WHERE WHAT IT READS IS OF BULK AT MOST 1048576: true; the input reads as it did. -/
def verdictsUptoRow : OpenClaim := { program := "ytfnmglfbcpdlnaa", sum := "7d4402e222f9468869a3d36147f91175d98e1075ab3211e6d0526318659f5479", func := "leaks/leakslaw.Verdicts", spec := "verdicts", recurses := true, apart := false, narrowed := true }
def VerdictsUptoSaid : Prop := verdictsUptoRow.holds Try.pinned (OpenSpec.upto verdictsSpec)

/-- 'leakslaw.Witnesses', WHERE WHAT IT READS IS OF BULK AT MOST 1048576: true; the input reads as it did. -/
def witnessesUptoRow : OpenClaim := { program := "ytfnmglfbcpdlnaa", sum := "7d4402e222f9468869a3d36147f91175d98e1075ab3211e6d0526318659f5479", func := "leaks/leakslaw.Witnesses", spec := "witnesses", recurses := true, apart := false, narrowed := true }
def WitnessesUptoSaid : Prop := witnessesUptoRow.holds Try.pinned (OpenSpec.upto witnessesSpec)

/-- 'leakskeep.Tried', WHERE WHAT IT READS IS OF BULK AT MOST 1048576: true; the input reads as it did. -/
def triedUptoRow : OpenClaim := { program := "ytfnmglfbcpdlnaa", sum := "7d4402e222f9468869a3d36147f91175d98e1075ab3211e6d0526318659f5479", func := "leaks/leakskeep.Tried", spec := "tried", apart := false, narrowed := true }
def TriedUptoSaid : Prop := triedUptoRow.holds Try.pinned (OpenSpec.upto triedSpec)

/-- 'leakskeep.Public', WHERE WHAT IT READS IS OF BULK AT MOST 1048576: true; the input reads as it did. -/
def publicUptoRow : OpenClaim := { program := "ytfnmglfbcpdlnaa", sum := "7d4402e222f9468869a3d36147f91175d98e1075ab3211e6d0526318659f5479", func := "leaks/leakskeep.Public", spec := "public", apart := false, narrowed := true }
def PublicUptoSaid : Prop := publicUptoRow.holds Try.pinned (OpenSpec.upto publicSpec)

/-- 'leakskeep.More', WHERE WHAT IT READS IS OF BULK AT MOST 1048576: true; the input reads as it did. -/
def moreUptoRow : OpenClaim := { program := "ytfnmglfbcpdlnaa", sum := "7d4402e222f9468869a3d36147f91175d98e1075ab3211e6d0526318659f5479", func := "leaks/leakskeep.More", spec := "more", apart := false, narrowed := true }
def MoreUptoSaid : Prop := moreUptoRow.holds Try.pinned (OpenSpec.upto moreSpec)

/-- 'leakskeep.Known', WHERE WHAT IT READS IS OF BULK AT MOST 1048576: true; the input reads as it did. -/
def knownUptoRow : OpenClaim := { program := "ytfnmglfbcpdlnaa", sum := "7d4402e222f9468869a3d36147f91175d98e1075ab3211e6d0526318659f5479", func := "leaks/leakskeep.Known", spec := "known", apart := false, narrowed := true }
def KnownUptoSaid : Prop := knownUptoRow.holds Try.pinned (OpenSpec.upto knownSpec)

/-- 'leakskeep.Given', WHERE WHAT IT READS IS OF BULK AT MOST 1048576: true; the input reads as it did. -/
def givenUptoRow : OpenClaim := { program := "ytfnmglfbcpdlnaa", sum := "7d4402e222f9468869a3d36147f91175d98e1075ab3211e6d0526318659f5479", func := "leaks/leakskeep.Given", spec := "given", apart := false, narrowed := true }
def GivenUptoSaid : Prop := givenUptoRow.holds Try.pinned (OpenSpec.upto givenSpec)

/-- 'leakskeep.Letters', WHERE WHAT IT READS IS OF BULK AT MOST 1048576: true; the input reads as it did. -/
def lettersUptoRow : OpenClaim := { program := "ytfnmglfbcpdlnaa", sum := "7d4402e222f9468869a3d36147f91175d98e1075ab3211e6d0526318659f5479", func := "leaks/leakskeep.Letters", spec := "letters", apart := false, narrowed := true }
def LettersUptoSaid : Prop := lettersUptoRow.holds Try.pinned (OpenSpec.upto lettersSpec)

end Rows
end Go.Proofs.Ytfnmglfbcpdlnaa
