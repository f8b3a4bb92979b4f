/-
  DERIVED. GIVEN WITH THE SEED: THE CARDS: each row of YtplggcfoadjffabGreatDoorRows.lean that lists a variable, with what it lists TIED to the program's text (the seventh form; the later family's looks); each row that meets fmt, with fmt's text TOLD by the authors' own Lean function (tested against real Go, not proved from fmt's source: count such statements apart). THE CARD IS WHAT COUNTS. Prove the row's statement (the work); the ties are given (YtplggcfoadjffabGreatDoorTie.lean); close each card by the builder's one call (the guide's Derived/Test/ToyasCard.lean, 'card_holds'). Laid BY PROGRAM, IN A SANDBOX (cutbox-door.mjs). By AI agents, Wed Nov 11 2026. No macro, syntax, notation, axiom, sorry.
-/
import Derived.Test.YtplggcfoadjffabGreatDoorRows
import GoSem.ClaimSeven
namespace Go.Proofs.YtplggcfoadjffabGreatDoor
namespace Rows

/-- THE TIED CARD OF 'aqueductlaw14.RewriteVia'. -/
def rewriteViaCard : Claim7 := { stood := { row := rewriteViaRow, standIns := [], harness := (true, "2df24f090879d933235d631f5d8cb71e31896ddd2868a43dcfaeffa288f771d9"), looks := true }, kinds := [], alts := [], laidByText := true, laidKinds := [.data, .data, .data, .data, .sentinel, .sentinel, .pinned], laidTests := true, laidLooks := .later }
def RewriteViaCardSaid : Prop := Claim7.holds Tryz.pinned (.plain (OpenSpec.ofChange rewriteViaSpec)) rewriteViaCard

/-- THE SECOND FORM's CARD OF 'aqueductlaw14.RewriteVia'. -/
def rewriteViaUptoCard : Claim7 := { stood := { row := rewriteViaUptoRow, standIns := [], harness := (true, "2df24f090879d933235d631f5d8cb71e31896ddd2868a43dcfaeffa288f771d9"), looks := true }, kinds := [], alts := [], laidByText := true, laidKinds := [.data, .data, .data, .data, .sentinel, .sentinel, .pinned], laidTests := true, laidLooks := .later }
def RewriteViaUptoCardSaid : Prop := Claim7.holds Tryz.pinned (.plain (OpenSpec.upto rewriteViaSpec)) rewriteViaUptoCard
end Rows
end Go.Proofs.YtplggcfoadjffabGreatDoor
