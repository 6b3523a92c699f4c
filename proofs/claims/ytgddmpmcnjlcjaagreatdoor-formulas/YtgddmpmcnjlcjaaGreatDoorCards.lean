/-
  DERIVED. GIVEN WITH THE SEED: THE CARDS: each row of YtgddmpmcnjlcjaaGreatDoorRows.lean that lists a variable, with what it lists TIED to the program's text (the seventh form; the later family's looks); each row that meets fmt, with fmt's text TOLD by the authors' own Lean function (tested against real Go, not proved from fmt's source: count such statements apart). THE CARD IS WHAT COUNTS. Prove the row's statement (the work); the ties are given (YtgddmpmcnjlcjaaGreatDoorTie.lean); close each card by the builder's one call (the guide's Derived/Test/ToyasCard.lean, 'card_holds'). Laid BY PROGRAM, IN A SANDBOX (cutbox-door.mjs). By AI agents, Wed Nov 11 2026. No macro, syntax, notation, axiom, sorry.
-/
import Derived.Test.YtgddmpmcnjlcjaaGreatDoorRows
import GoSem.ClaimSeven
namespace Go.Proofs.YtgddmpmcnjlcjaaGreatDoor
namespace Rows

/-- THE TIED CARD OF 'leakslaw.Verdicts'. -/
def verdictsCard : Claim7 := { stood := { row := verdictsRow, standIns := [], harness := (true, "f82047787fab9e4abc59f1732c4d6bce9323a7db27cdf2a0114bd75d03befe4e"), looks := false }, kinds := [], alts := [], laidByText := true, laidKinds := [.data, .data, .data], laidTests := true, laidLooks := .later }
def VerdictsCardSaid : Prop := Claim7.holds Tryz.pinned (.plain (OpenSpec.ofChange verdictsSpec)) verdictsCard

/-- THE TIED CARD OF 'leakslaw.Witnesses'. -/
def witnessesCard : Claim7 := { stood := { row := witnessesRow, standIns := [], harness := (true, "f82047787fab9e4abc59f1732c4d6bce9323a7db27cdf2a0114bd75d03befe4e"), looks := false }, kinds := [], alts := [], laidByText := true, laidKinds := [.data, .data, .data], laidTests := true, laidLooks := .later }
def WitnessesCardSaid : Prop := Claim7.holds Tryz.pinned (.plain (OpenSpec.ofChange witnessesSpec)) witnessesCard

/-- THE TIED CARD OF 'leakslaw.Formulas'. -/
def formulasCard : Claim7 := { stood := { row := formulasRow, standIns := [], harness := (true, "f82047787fab9e4abc59f1732c4d6bce9323a7db27cdf2a0114bd75d03befe4e"), looks := false }, kinds := [], alts := [], laidByText := true, laidKinds := [.data, .data, .data], laidTests := true, laidLooks := .later }
def FormulasCardSaid : Prop := Claim7.holds Tryz.pinned (.plain (OpenSpec.ofChange formulasSpec)) formulasCard

/-- THE SECOND FORM's CARD OF 'leakslaw.Verdicts'. -/
def verdictsUptoCard : Claim7 := { stood := { row := verdictsUptoRow, standIns := [], harness := (true, "f82047787fab9e4abc59f1732c4d6bce9323a7db27cdf2a0114bd75d03befe4e"), looks := false }, kinds := [], alts := [], laidByText := true, laidKinds := [.data, .data, .data], laidTests := true, laidLooks := .later }
def VerdictsUptoCardSaid : Prop := Claim7.holds Tryz.pinned (.plain (OpenSpec.upto verdictsSpec)) verdictsUptoCard

/-- THE SECOND FORM's CARD OF 'leakslaw.Witnesses'. -/
def witnessesUptoCard : Claim7 := { stood := { row := witnessesUptoRow, standIns := [], harness := (true, "f82047787fab9e4abc59f1732c4d6bce9323a7db27cdf2a0114bd75d03befe4e"), looks := false }, kinds := [], alts := [], laidByText := true, laidKinds := [.data, .data, .data], laidTests := true, laidLooks := .later }
def WitnessesUptoCardSaid : Prop := Claim7.holds Tryz.pinned (.plain (OpenSpec.upto witnessesSpec)) witnessesUptoCard

/-- THE SECOND FORM's CARD OF 'leakslaw.Formulas'. -/
def formulasUptoCard : Claim7 := { stood := { row := formulasUptoRow, standIns := [], harness := (true, "f82047787fab9e4abc59f1732c4d6bce9323a7db27cdf2a0114bd75d03befe4e"), looks := false }, kinds := [], alts := [], laidByText := true, laidKinds := [.data, .data, .data], laidTests := true, laidLooks := .later }
def FormulasUptoCardSaid : Prop := Claim7.holds Tryz.pinned (.plain (OpenSpec.upto formulasSpec)) formulasUptoCard
end Rows
end Go.Proofs.YtgddmpmcnjlcjaaGreatDoor
