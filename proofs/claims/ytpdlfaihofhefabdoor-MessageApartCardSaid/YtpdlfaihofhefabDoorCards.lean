/-
  DERIVED. GIVEN WITH THE SEED: THE CARDS: each row of YtpdlfaihofhefabDoorRows.lean that lists a variable, with what it lists TIED to the program's text (the seventh form; the later family's looks); each row that meets fmt, with fmt's text TOLD by the authors' own Lean function (tested against real Go, not proved from fmt's source: count such statements apart). THE CARD IS WHAT COUNTS. Prove the row's statement (the work); the ties are given (YtpdlfaihofhefabDoorTie.lean); close each card by the builder's one call (the guide's Derived/Test/ToyasCard.lean, 'card_holds'). Laid BY PROGRAM, IN A SANDBOX (cutbox-door.mjs). By AI agents, Wed Nov 11 2026. No macro, syntax, notation, axiom, sorry.
-/
import Derived.Test.YtpdlfaihofhefabDoorRows
import GoSem.ClaimSeven
namespace Go.Proofs.YtpdlfaihofhefabDoor
namespace Rows

/-- THE TIED CARD OF 'aqueductlaw13.MessageTrailers'. -/
def messageTrailersCard : Claim7 := { stood := { row := messageTrailersRow, standIns := [], harness := (true, "df7aa1c43782f96345e274147d82ca9a34f6834d3ddd514018732b19bef06d1a"), looks := true }, kinds := [], alts := [], laidByText := true, laidKinds := [.data, .pinned], laidTests := true, laidLooks := .later }
def MessageTrailersCardSaid : Prop := Claim7.holds Tryd.pinned (.plain (OpenSpec.ofChange messageTrailersSpec)) messageTrailersCard

/-- THE TIED CARD OF 'aqueductlaw13.MessageApart'. -/
def messageApartCard : Claim7 := { stood := { row := messageApartRow, standIns := [], harness := (true, "df7aa1c43782f96345e274147d82ca9a34f6834d3ddd514018732b19bef06d1a"), looks := true }, kinds := [], alts := [], laidByText := true, laidKinds := [.data, .data, .data, .data, .sentinel, .sentinel, .pinned], laidTests := true, laidLooks := .later }
def MessageApartCardSaid : Prop := Claim7.holds Tryd.pinned (.plain (OpenSpec.ofChange messageApartSpec)) messageApartCard

/-- THE TIED CARD OF 'aqueductlaw13.MessageMore'. -/
def messageMoreCard : Claim7 := { stood := { row := messageMoreRow, standIns := [], harness := (true, "df7aa1c43782f96345e274147d82ca9a34f6834d3ddd514018732b19bef06d1a"), looks := true }, kinds := [], alts := [], laidByText := true, laidKinds := [.data, .data, .data, .data, .sentinel, .sentinel, .pinned], laidTests := true, laidLooks := .later }
def MessageMoreCardSaid : Prop := Claim7.holds Tryd.pinned (.plain (OpenSpec.ofChange messageMoreSpec)) messageMoreCard

/-- THE SECOND FORM's CARD OF 'aqueductlaw13.MessageTrailers'. -/
def messageTrailersUptoCard : Claim7 := { stood := { row := messageTrailersUptoRow, standIns := [], harness := (true, "df7aa1c43782f96345e274147d82ca9a34f6834d3ddd514018732b19bef06d1a"), looks := true }, kinds := [], alts := [], laidByText := true, laidKinds := [.data, .pinned], laidTests := true, laidLooks := .later }
def MessageTrailersUptoCardSaid : Prop := Claim7.holds Tryd.pinned (.plain (OpenSpec.upto messageTrailersSpec)) messageTrailersUptoCard

/-- THE SECOND FORM's CARD OF 'aqueductlaw13.MessageApart'. -/
def messageApartUptoCard : Claim7 := { stood := { row := messageApartUptoRow, standIns := [], harness := (true, "df7aa1c43782f96345e274147d82ca9a34f6834d3ddd514018732b19bef06d1a"), looks := true }, kinds := [], alts := [], laidByText := true, laidKinds := [.data, .data, .data, .data, .sentinel, .sentinel, .pinned], laidTests := true, laidLooks := .later }
def MessageApartUptoCardSaid : Prop := Claim7.holds Tryd.pinned (.plain (OpenSpec.upto messageApartSpec)) messageApartUptoCard

/-- THE SECOND FORM's CARD OF 'aqueductlaw13.MessageMore'. -/
def messageMoreUptoCard : Claim7 := { stood := { row := messageMoreUptoRow, standIns := [], harness := (true, "df7aa1c43782f96345e274147d82ca9a34f6834d3ddd514018732b19bef06d1a"), looks := true }, kinds := [], alts := [], laidByText := true, laidKinds := [.data, .data, .data, .data, .sentinel, .sentinel, .pinned], laidTests := true, laidLooks := .later }
def MessageMoreUptoCardSaid : Prop := Claim7.holds Tryd.pinned (.plain (OpenSpec.upto messageMoreSpec)) messageMoreUptoCard
end Rows
end Go.Proofs.YtpdlfaihofhefabDoor
