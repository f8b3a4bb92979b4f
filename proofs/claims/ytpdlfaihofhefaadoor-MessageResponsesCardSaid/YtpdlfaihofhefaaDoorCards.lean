/-
  DERIVED. GIVEN WITH THE SEED: THE CARDS: each row of YtpdlfaihofhefaaDoorRows.lean that lists a variable, with what it lists TIED to the program's text (the seventh form; the later family's looks); each row that meets fmt, with fmt's text TOLD by the authors' own Lean function (tested against real Go, not proved from fmt's source: count such statements apart). THE CARD IS WHAT COUNTS. Prove the row's statement (the work); the ties are given (YtpdlfaihofhefaaDoorTie.lean); close each card by the builder's one call (the guide's Derived/Test/ToyasCard.lean, 'card_holds'). Laid BY PROGRAM, IN A SANDBOX (cutbox-door.mjs). By AI agents, Wed Nov 11 2026. No macro, syntax, notation, axiom, sorry.
-/
import Derived.Test.YtpdlfaihofhefaaDoorRows
import GoSem.ClaimSeven
namespace Go.Proofs.YtpdlfaihofhefaaDoor
namespace Rows

/-- THE TIED CARD OF 'aqueductlaw13.MessageValues'. -/
def messageValuesCard : Claim7 := { stood := { row := messageValuesRow, standIns := [], harness := (true, "8cd70bf098f33056229ac117762c3a06481f08ccc48ec8885b3ac2646ac247bf"), looks := true }, kinds := [], alts := [], laidByText := true, laidKinds := [.data, .pinned], laidTests := true, laidLooks := .later }
def MessageValuesCardSaid : Prop := Claim7.holds Tryd.pinned (.plain (OpenSpec.ofChange messageValuesSpec)) messageValuesCard

/-- THE TIED CARD OF 'aqueductlaw13.MessageLengths'. -/
def messageLengthsCard : Claim7 := { stood := { row := messageLengthsRow, standIns := [], harness := (true, "8cd70bf098f33056229ac117762c3a06481f08ccc48ec8885b3ac2646ac247bf"), looks := true }, kinds := [], alts := [], laidByText := true, laidKinds := [.data, .data, .data, .sentinel, .sentinel], laidTests := true, laidLooks := .later }
def MessageLengthsCardSaid : Prop := Claim7.holds Tryd.pinned (.plain (OpenSpec.ofChange messageLengthsSpec)) messageLengthsCard

/-- THE TIED CARD OF 'aqueductlaw13.MessageRequests'. -/
def messageRequestsCard : Claim7 := { stood := { row := messageRequestsRow, standIns := [], harness := (true, "8cd70bf098f33056229ac117762c3a06481f08ccc48ec8885b3ac2646ac247bf"), looks := true }, kinds := [], alts := [], laidByText := true, laidKinds := [.data, .data, .data, .data, .sentinel, .sentinel, .pinned], laidTests := true, laidLooks := .later }
def MessageRequestsCardSaid : Prop := Claim7.holds Tryd.pinned (.plain (OpenSpec.ofChange messageRequestsSpec)) messageRequestsCard

/-- THE TIED CARD OF 'aqueductlaw13.MessageResponses'. -/
def messageResponsesCard : Claim7 := { stood := { row := messageResponsesRow, standIns := [], harness := (true, "8cd70bf098f33056229ac117762c3a06481f08ccc48ec8885b3ac2646ac247bf"), looks := true }, kinds := [], alts := [], laidByText := true, laidKinds := [.data, .data, .data, .data, .sentinel, .sentinel, .pinned], laidTests := true, laidLooks := .later }
def MessageResponsesCardSaid : Prop := Claim7.holds Tryd.pinned (.plain (OpenSpec.ofChange messageResponsesSpec)) messageResponsesCard

/-- THE SECOND FORM's CARD OF 'aqueductlaw13.MessageValues'. -/
def messageValuesUptoCard : Claim7 := { stood := { row := messageValuesUptoRow, standIns := [], harness := (true, "8cd70bf098f33056229ac117762c3a06481f08ccc48ec8885b3ac2646ac247bf"), looks := true }, kinds := [], alts := [], laidByText := true, laidKinds := [.data, .pinned], laidTests := true, laidLooks := .later }
def MessageValuesUptoCardSaid : Prop := Claim7.holds Tryd.pinned (.plain (OpenSpec.upto messageValuesSpec)) messageValuesUptoCard

/-- THE SECOND FORM's CARD OF 'aqueductlaw13.MessageLengths'. -/
def messageLengthsUptoCard : Claim7 := { stood := { row := messageLengthsUptoRow, standIns := [], harness := (true, "8cd70bf098f33056229ac117762c3a06481f08ccc48ec8885b3ac2646ac247bf"), looks := true }, kinds := [], alts := [], laidByText := true, laidKinds := [.data, .data, .data, .sentinel, .sentinel], laidTests := true, laidLooks := .later }
def MessageLengthsUptoCardSaid : Prop := Claim7.holds Tryd.pinned (.plain (OpenSpec.upto messageLengthsSpec)) messageLengthsUptoCard

/-- THE SECOND FORM's CARD OF 'aqueductlaw13.MessageRequests'. -/
def messageRequestsUptoCard : Claim7 := { stood := { row := messageRequestsUptoRow, standIns := [], harness := (true, "8cd70bf098f33056229ac117762c3a06481f08ccc48ec8885b3ac2646ac247bf"), looks := true }, kinds := [], alts := [], laidByText := true, laidKinds := [.data, .data, .data, .data, .sentinel, .sentinel, .pinned], laidTests := true, laidLooks := .later }
def MessageRequestsUptoCardSaid : Prop := Claim7.holds Tryd.pinned (.plain (OpenSpec.upto messageRequestsSpec)) messageRequestsUptoCard

/-- THE SECOND FORM's CARD OF 'aqueductlaw13.MessageResponses'. -/
def messageResponsesUptoCard : Claim7 := { stood := { row := messageResponsesUptoRow, standIns := [], harness := (true, "8cd70bf098f33056229ac117762c3a06481f08ccc48ec8885b3ac2646ac247bf"), looks := true }, kinds := [], alts := [], laidByText := true, laidKinds := [.data, .data, .data, .data, .sentinel, .sentinel, .pinned], laidTests := true, laidLooks := .later }
def MessageResponsesUptoCardSaid : Prop := Claim7.holds Tryd.pinned (.plain (OpenSpec.upto messageResponsesSpec)) messageResponsesUptoCard
end Rows
end Go.Proofs.YtpdlfaihofhefaaDoor
