/-
  DERIVED. GIVEN WITH THE SEED: THE CARDS: each row of YtgddmpmcnjlcjaaDoorRows.lean that lists a variable, with what it lists TIED to the program's text (the seventh form; the later family's looks); each row that meets fmt, with fmt's text TOLD by the authors' own Lean function (tested against real Go, not proved from fmt's source: count such statements apart). THE CARD IS WHAT COUNTS. Prove the row's statement (the work); the ties are given (YtgddmpmcnjlcjaaDoorTie.lean); close each card by the builder's one call (the guide's Derived/Test/ToyasCard.lean, 'card_holds'). Laid BY PROGRAM, IN A SANDBOX (cutbox-door.mjs). By AI agents, Wed Nov 11 2026. No macro, syntax, notation, axiom, sorry.
-/
import Derived.Test.YtgddmpmcnjlcjaaDoorRows
import GoSem.ClaimSeven
namespace Go.Proofs.YtgddmpmcnjlcjaaDoor
namespace Rows

/-- THE TIED CARD OF 'leakslaw.Rejects'. -/
def rejectsCard : Claim7 := { stood := { row := rejectsRow, standIns := [], harness := (true, "c38cd6cc993d11c509656c88eca058281abe8485e172da97b499d1237eb98071"), looks := false }, kinds := [], alts := [], laidByText := true, laidKinds := [.data, .data, .data], laidTests := true, laidLooks := .later }
def RejectsCardSaid : Prop := Claim7.holds Tryd.pinned (.plain (OpenSpec.ofChange rejectsSpec)) rejectsCard

/-- THE TIED CARD OF 'leakskeep.Wrong'. -/
def wrongCard : Claim7 := { stood := { row := wrongRow, standIns := [], harness := (true, "c38cd6cc993d11c509656c88eca058281abe8485e172da97b499d1237eb98071"), looks := false }, kinds := [], alts := [], laidByText := true, laidKinds := [.data, .data, .data], laidTests := true, laidLooks := .later }
def WrongCardSaid : Prop := Claim7.holds Tryd.pinned (.plain (OpenSpec.ofChange wrongSpec)) wrongCard

/-- THE TIED CARD OF 'leakskeep.Tried'. -/
def triedCard : Claim7 := { stood := { row := triedRow, standIns := [], harness := (true, "c38cd6cc993d11c509656c88eca058281abe8485e172da97b499d1237eb98071"), looks := false }, kinds := [], alts := [], laidByText := true, laidKinds := [.data, .data, .data], laidTests := true, laidLooks := .later }
def TriedCardSaid : Prop := Claim7.holds Tryd.pinned (.plain (OpenSpec.ofChange triedSpec)) triedCard

/-- THE TIED CARD OF 'leakskeep.Public'. -/
def publicCard : Claim7 := { stood := { row := publicRow, standIns := [], harness := (true, "c38cd6cc993d11c509656c88eca058281abe8485e172da97b499d1237eb98071"), looks := false }, kinds := [], alts := [], laidByText := true, laidKinds := [.data, .data, .data], laidTests := true, laidLooks := .later }
def PublicCardSaid : Prop := Claim7.holds Tryd.pinned (.plain (OpenSpec.ofChange publicSpec)) publicCard

/-- THE TIED CARD OF 'leakskeep.More'. -/
def moreCard : Claim7 := { stood := { row := moreRow, standIns := [], harness := (true, "c38cd6cc993d11c509656c88eca058281abe8485e172da97b499d1237eb98071"), looks := false }, kinds := [], alts := [], laidByText := true, laidKinds := [.data, .data, .data], laidTests := true, laidLooks := .later }
def MoreCardSaid : Prop := Claim7.holds Tryd.pinned (.plain (OpenSpec.ofChange moreSpec)) moreCard

/-- THE TIED CARD OF 'leakskeep.Known'. -/
def knownCard : Claim7 := { stood := { row := knownRow, standIns := [], harness := (true, "c38cd6cc993d11c509656c88eca058281abe8485e172da97b499d1237eb98071"), looks := false }, kinds := [], alts := [], laidByText := true, laidKinds := [.data, .data, .data], laidTests := true, laidLooks := .later }
def KnownCardSaid : Prop := Claim7.holds Tryd.pinned (.plain (OpenSpec.ofChange knownSpec)) knownCard

/-- THE TIED CARD OF 'leakskeep.Given'. -/
def givenCard : Claim7 := { stood := { row := givenRow, standIns := [], harness := (true, "c38cd6cc993d11c509656c88eca058281abe8485e172da97b499d1237eb98071"), looks := false }, kinds := [], alts := [], laidByText := true, laidKinds := [.data, .data, .data], laidTests := true, laidLooks := .later }
def GivenCardSaid : Prop := Claim7.holds Tryd.pinned (.plain (OpenSpec.ofChange givenSpec)) givenCard

/-- THE TIED CARD OF 'leakskeep.Letters'. -/
def lettersCard : Claim7 := { stood := { row := lettersRow, standIns := [], harness := (true, "c38cd6cc993d11c509656c88eca058281abe8485e172da97b499d1237eb98071"), looks := false }, kinds := [], alts := [], laidByText := true, laidKinds := [.data, .data, .data], laidTests := true, laidLooks := .later }
def LettersCardSaid : Prop := Claim7.holds Tryd.pinned (.plain (OpenSpec.ofChange lettersSpec)) lettersCard

/-- THE SECOND FORM's CARD OF 'leakslaw.Rejects'. -/
def rejectsUptoCard : Claim7 := { stood := { row := rejectsUptoRow, standIns := [], harness := (true, "c38cd6cc993d11c509656c88eca058281abe8485e172da97b499d1237eb98071"), looks := false }, kinds := [], alts := [], laidByText := true, laidKinds := [.data, .data, .data], laidTests := true, laidLooks := .later }
def RejectsUptoCardSaid : Prop := Claim7.holds Tryd.pinned (.plain (OpenSpec.upto rejectsSpec)) rejectsUptoCard

/-- THE SECOND FORM's CARD OF 'leakskeep.Wrong'. -/
def wrongUptoCard : Claim7 := { stood := { row := wrongUptoRow, standIns := [], harness := (true, "c38cd6cc993d11c509656c88eca058281abe8485e172da97b499d1237eb98071"), looks := false }, kinds := [], alts := [], laidByText := true, laidKinds := [.data, .data, .data], laidTests := true, laidLooks := .later }
def WrongUptoCardSaid : Prop := Claim7.holds Tryd.pinned (.plain (OpenSpec.upto wrongSpec)) wrongUptoCard

/-- THE SECOND FORM's CARD OF 'leakskeep.Tried'. -/
def triedUptoCard : Claim7 := { stood := { row := triedUptoRow, standIns := [], harness := (true, "c38cd6cc993d11c509656c88eca058281abe8485e172da97b499d1237eb98071"), looks := false }, kinds := [], alts := [], laidByText := true, laidKinds := [.data, .data, .data], laidTests := true, laidLooks := .later }
def TriedUptoCardSaid : Prop := Claim7.holds Tryd.pinned (.plain (OpenSpec.upto triedSpec)) triedUptoCard

/-- THE SECOND FORM's CARD OF 'leakskeep.Public'. -/
def publicUptoCard : Claim7 := { stood := { row := publicUptoRow, standIns := [], harness := (true, "c38cd6cc993d11c509656c88eca058281abe8485e172da97b499d1237eb98071"), looks := false }, kinds := [], alts := [], laidByText := true, laidKinds := [.data, .data, .data], laidTests := true, laidLooks := .later }
def PublicUptoCardSaid : Prop := Claim7.holds Tryd.pinned (.plain (OpenSpec.upto publicSpec)) publicUptoCard

/-- THE SECOND FORM's CARD OF 'leakskeep.More'. -/
def moreUptoCard : Claim7 := { stood := { row := moreUptoRow, standIns := [], harness := (true, "c38cd6cc993d11c509656c88eca058281abe8485e172da97b499d1237eb98071"), looks := false }, kinds := [], alts := [], laidByText := true, laidKinds := [.data, .data, .data], laidTests := true, laidLooks := .later }
def MoreUptoCardSaid : Prop := Claim7.holds Tryd.pinned (.plain (OpenSpec.upto moreSpec)) moreUptoCard

/-- THE SECOND FORM's CARD OF 'leakskeep.Known'. -/
def knownUptoCard : Claim7 := { stood := { row := knownUptoRow, standIns := [], harness := (true, "c38cd6cc993d11c509656c88eca058281abe8485e172da97b499d1237eb98071"), looks := false }, kinds := [], alts := [], laidByText := true, laidKinds := [.data, .data, .data], laidTests := true, laidLooks := .later }
def KnownUptoCardSaid : Prop := Claim7.holds Tryd.pinned (.plain (OpenSpec.upto knownSpec)) knownUptoCard

/-- THE SECOND FORM's CARD OF 'leakskeep.Given'. -/
def givenUptoCard : Claim7 := { stood := { row := givenUptoRow, standIns := [], harness := (true, "c38cd6cc993d11c509656c88eca058281abe8485e172da97b499d1237eb98071"), looks := false }, kinds := [], alts := [], laidByText := true, laidKinds := [.data, .data, .data], laidTests := true, laidLooks := .later }
def GivenUptoCardSaid : Prop := Claim7.holds Tryd.pinned (.plain (OpenSpec.upto givenSpec)) givenUptoCard

/-- THE SECOND FORM's CARD OF 'leakskeep.Letters'. -/
def lettersUptoCard : Claim7 := { stood := { row := lettersUptoRow, standIns := [], harness := (true, "c38cd6cc993d11c509656c88eca058281abe8485e172da97b499d1237eb98071"), looks := false }, kinds := [], alts := [], laidByText := true, laidKinds := [.data, .data, .data], laidTests := true, laidLooks := .later }
def LettersUptoCardSaid : Prop := Claim7.holds Tryd.pinned (.plain (OpenSpec.upto lettersSpec)) lettersUptoCard
end Rows
end Go.Proofs.YtgddmpmcnjlcjaaDoor
