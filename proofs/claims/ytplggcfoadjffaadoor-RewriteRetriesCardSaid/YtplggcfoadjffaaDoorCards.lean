/-
  DERIVED. GIVEN WITH THE SEED: THE CARDS: each row of YtplggcfoadjffaaDoorRows.lean that lists a variable, with what it lists TIED to the program's text (the seventh form; the later family's looks); each row that meets fmt, with fmt's text TOLD by the authors' own Lean function (tested against real Go, not proved from fmt's source: count such statements apart). THE CARD IS WHAT COUNTS. Prove the row's statement (the work); the ties are given (YtplggcfoadjffaaDoorTie.lean); close each card by the builder's one call (the guide's Derived/Test/ToyasCard.lean, 'card_holds'). Laid BY PROGRAM, IN A SANDBOX (cutbox-door.mjs). By AI agents, Wed Nov 11 2026. No macro, syntax, notation, axiom, sorry.
-/
import Derived.Test.YtplggcfoadjffaaDoorRows
import GoSem.ClaimSeven
namespace Go.Proofs.YtplggcfoadjffaaDoor
namespace Rows

/-- THE TIED CARD OF 'aqueductlaw14.RewriteTrailers'. -/
def rewriteTrailersCard : Claim7 := { stood := { row := rewriteTrailersRow, standIns := [], harness := (true, "4f60e0938c85bb9f7744bed9886093041ad95711d8166a8cd2f3d1cb9b8b9340"), looks := false }, kinds := [], alts := [], laidByText := true, laidKinds := [.data, .data, .data, .data, .pinned], laidTests := true, laidLooks := .later }
def RewriteTrailersCardSaid : Prop := Claim7.holds Tryd.pinned (.plain (OpenSpec.ofChange rewriteTrailersSpec)) rewriteTrailersCard

/-- THE TIED CARD OF 'aqueductlaw14.RewriteRetries'. -/
def rewriteRetriesCard : Claim7 := { stood := { row := rewriteRetriesRow, standIns := [], harness := (true, "4f60e0938c85bb9f7744bed9886093041ad95711d8166a8cd2f3d1cb9b8b9340"), looks := false }, kinds := [], alts := [], laidByText := true, laidKinds := [.data, .data, .data], laidTests := true, laidLooks := .later }
def RewriteRetriesCardSaid : Prop := Claim7.holds Tryd.pinned (.plain (OpenSpec.ofChange rewriteRetriesSpec)) rewriteRetriesCard

/-- THE SECOND FORM's CARD OF 'aqueductlaw14.RewriteTrailers'. -/
def rewriteTrailersUptoCard : Claim7 := { stood := { row := rewriteTrailersUptoRow, standIns := [], harness := (true, "4f60e0938c85bb9f7744bed9886093041ad95711d8166a8cd2f3d1cb9b8b9340"), looks := false }, kinds := [], alts := [], laidByText := true, laidKinds := [.data, .data, .data, .data, .pinned], laidTests := true, laidLooks := .later }
def RewriteTrailersUptoCardSaid : Prop := Claim7.holds Tryd.pinned (.plain (OpenSpec.upto rewriteTrailersSpec)) rewriteTrailersUptoCard

/-- THE SECOND FORM's CARD OF 'aqueductlaw14.RewriteRetries'. -/
def rewriteRetriesUptoCard : Claim7 := { stood := { row := rewriteRetriesUptoRow, standIns := [], harness := (true, "4f60e0938c85bb9f7744bed9886093041ad95711d8166a8cd2f3d1cb9b8b9340"), looks := false }, kinds := [], alts := [], laidByText := true, laidKinds := [.data, .data, .data], laidTests := true, laidLooks := .later }
def RewriteRetriesUptoCardSaid : Prop := Claim7.holds Tryd.pinned (.plain (OpenSpec.upto rewriteRetriesSpec)) rewriteRetriesUptoCard
end Rows
end Go.Proofs.YtplggcfoadjffaaDoor
