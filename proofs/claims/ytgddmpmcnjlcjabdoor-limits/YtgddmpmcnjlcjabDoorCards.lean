/-
  DERIVED. GIVEN WITH THE SEED: THE CARDS: each row of YtgddmpmcnjlcjabDoorRows.lean that lists a variable, with what it lists TIED to the program's text (the seventh form; the later family's looks); each row that meets fmt, with fmt's text TOLD by the authors' own Lean function (tested against real Go, not proved from fmt's source: count such statements apart). THE CARD IS WHAT COUNTS. Prove the row's statement (the work); the ties are given (YtgddmpmcnjlcjabDoorTie.lean); close each card by the builder's one call (the guide's Derived/Test/ToyasCard.lean, 'card_holds'). Laid BY PROGRAM, IN A SANDBOX (cutbox-door.mjs). By AI agents, Wed Nov 11 2026. No macro, syntax, notation, axiom, sorry.
-/
import Derived.Test.YtgddmpmcnjlcjabDoorRows
import GoSem.ClaimSeven
namespace Go.Proofs.YtgddmpmcnjlcjabDoor
namespace Rows

/-- THE TIED CARD OF 'leakslaw.Limits'. -/
def limitsCard : Claim7 := { stood := { row := limitsRow, standIns := [], harness := (true, "14a116af923a3d93bfc1bbe5b02f7de9d61d8548429011ab790463b99a071a59"), looks := false }, kinds := [], alts := [], laidByText := true, laidKinds := [.data, .data, .data], laidTests := true, laidLooks := .later }
def LimitsCardSaid : Prop := Claim7.holds Tryd.pinned (.plain (OpenSpec.ofChange limitsSpec)) limitsCard

/-- THE TIED CARD OF 'leakskeep.Bounded'. -/
def boundedCard : Claim7 := { stood := { row := boundedRow, standIns := [], harness := (true, "14a116af923a3d93bfc1bbe5b02f7de9d61d8548429011ab790463b99a071a59"), looks := false }, kinds := [], alts := [], laidByText := true, laidKinds := [.data, .data, .data], laidTests := true, laidLooks := .later }
def BoundedCardSaid : Prop := Claim7.holds Tryd.pinned (.plain (OpenSpec.ofChange boundedSpec)) boundedCard

/-- THE TIED CARD OF 'leakskeep.Twice'. -/
def twiceCard : Claim7 := { stood := { row := twiceRow, standIns := [], harness := (true, "14a116af923a3d93bfc1bbe5b02f7de9d61d8548429011ab790463b99a071a59"), looks := false }, kinds := [], alts := [], laidByText := true, laidKinds := [.data, .data, .data], laidTests := true, laidLooks := .later }
def TwiceCardSaid : Prop := Claim7.holds Tryd.pinned (.plain (OpenSpec.ofChange twiceSpec)) twiceCard

/-- THE SECOND FORM's CARD OF 'leakslaw.Limits'. -/
def limitsUptoCard : Claim7 := { stood := { row := limitsUptoRow, standIns := [], harness := (true, "14a116af923a3d93bfc1bbe5b02f7de9d61d8548429011ab790463b99a071a59"), looks := false }, kinds := [], alts := [], laidByText := true, laidKinds := [.data, .data, .data], laidTests := true, laidLooks := .later }
def LimitsUptoCardSaid : Prop := Claim7.holds Tryd.pinned (.plain (OpenSpec.upto limitsSpec)) limitsUptoCard

/-- THE SECOND FORM's CARD OF 'leakskeep.Bounded'. -/
def boundedUptoCard : Claim7 := { stood := { row := boundedUptoRow, standIns := [], harness := (true, "14a116af923a3d93bfc1bbe5b02f7de9d61d8548429011ab790463b99a071a59"), looks := false }, kinds := [], alts := [], laidByText := true, laidKinds := [.data, .data, .data], laidTests := true, laidLooks := .later }
def BoundedUptoCardSaid : Prop := Claim7.holds Tryd.pinned (.plain (OpenSpec.upto boundedSpec)) boundedUptoCard

/-- THE SECOND FORM's CARD OF 'leakskeep.Twice'. -/
def twiceUptoCard : Claim7 := { stood := { row := twiceUptoRow, standIns := [], harness := (true, "14a116af923a3d93bfc1bbe5b02f7de9d61d8548429011ab790463b99a071a59"), looks := false }, kinds := [], alts := [], laidByText := true, laidKinds := [.data, .data, .data], laidTests := true, laidLooks := .later }
def TwiceUptoCardSaid : Prop := Claim7.holds Tryd.pinned (.plain (OpenSpec.upto twiceSpec)) twiceUptoCard
end Rows
end Go.Proofs.YtgddmpmcnjlcjabDoor
