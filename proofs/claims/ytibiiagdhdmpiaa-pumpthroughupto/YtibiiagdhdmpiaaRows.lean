/-
  No cell of these rows narrows 'for every input' (looked for: loops, veiled, ifaces, maps, wideKeys, modest, calm, conditions, laid).
  DERIVED. THE GIVEN ROWS OF THIS SEAT. 4 by the template 'for every input the law returns true; each argument reads behind the call as it read before'; 0 by the template 'total and deterministic' (their statements: YtibiiagdhdmpiaaTotals.lean).
  GIVEN WITH THE SEED: the statements are not yours to turn. If you find one false, say at which input.
  Laid BY PROGRAM, IN A SANDBOX (cutbox-rows.mjs): the forced cells as the released guide's own fill.sh prints them over the translation ce579dc5445f1cc5… (all of the seat's roots in one cut). By AI agents, Wed Nov 11 2026. No macro, syntax, notation, axiom, sorry.
-/
import Derived.Test.YtibiiagdhdmpiaaChecked
import GoSem.Claim
import GoSem.ClaimJoined
import GoSem.ClaimMapViews
import Derived.JoinedTies
import Derived.KernelRfl
namespace Go.Proofs.Ytibiiagdhdmpiaa
/- THE CELL 'sum', in the pinned program and in every row, IS THE sha256 OF THE DUMP (.gsa) THAT YtibiiagdhdmpiaaProg.lean LOADS. Nothing in Lean hashes anything: it is a label: what it is worth is what the hold of that sum in a sandbox is worth. -/
noncomputable def Try.pinned : Pinned := { name := "ytibiiagdhdmpiaa", sum := "ce579dc5445f1cc5ad76fcc82f8e6ab4abd006fc8d1210ca7475ebed4c9d5484", checked := Try.checked }
namespace Rows
def none {H : Type} : Left H := { results := [], args := [] }

/-- 'aqueductlaw20.PumpPlays': WHATEVER THE INPUT: true; the input reads as it did. -/
def pumpPlaysSpec : ChangeSpec := { name := "pumpPlays", fn := fun _ => fun
  | [d1, d2] => { results := [.lit (.bool true)], args := [d1, d2] }
  | _ => none }
def pumpPlaysRow : OpenClaim := { program := "ytibiiagdhdmpiaa", sum := "ce579dc5445f1cc5ad76fcc82f8e6ab4abd006fc8d1210ca7475ebed4c9d5484", func := "aqueduct/aqueductlaw20.PumpPlays", spec := "pumpPlays", apart := false }
def PumpPlaysSaid : Prop := pumpPlaysRow.holds Try.pinned (OpenSpec.ofChange pumpPlaysSpec)

/-- ITS FALSE NEIGHBOUR: 'it returns false'. Refute it at one input. -/
def pumpPlaysWrong : ChangeSpec := { name := "pumpPlays", fn := fun _ => fun
  | [d1, d2] => { results := [.lit (.bool false)], args := [d1, d2] }
  | _ => none }
def PumpPlaysWrongFalsely : Prop := pumpPlaysRow.holds Try.pinned (OpenSpec.ofChange pumpPlaysWrong)

/-- 'aqueductlaw20.PumpThrough': WHATEVER THE INPUT: true; the input reads as it did. -/
def pumpThroughSpec : ChangeSpec := { name := "pumpThrough", fn := fun _ => fun
  | [d1, d2, d3, d4, d5] => { results := [.lit (.bool true)], args := [d1, d2, d3, d4, d5] }
  | _ => none }
def pumpThroughRow : OpenClaim := { program := "ytibiiagdhdmpiaa", sum := "ce579dc5445f1cc5ad76fcc82f8e6ab4abd006fc8d1210ca7475ebed4c9d5484", func := "aqueduct/aqueductlaw20.PumpThrough", spec := "pumpThrough", apart := false }
def PumpThroughSaid : Prop := pumpThroughRow.holds Try.pinned (OpenSpec.ofChange pumpThroughSpec)

/-- ITS FALSE NEIGHBOUR: 'it returns false'. Refute it at one input. -/
def pumpThroughWrong : ChangeSpec := { name := "pumpThrough", fn := fun _ => fun
  | [d1, d2, d3, d4, d5] => { results := [.lit (.bool false)], args := [d1, d2, d3, d4, d5] }
  | _ => none }
def PumpThroughWrongFalsely : Prop := pumpThroughRow.holds Try.pinned (OpenSpec.ofChange pumpThroughWrong)

/-- 'aqueductlaw20.PumpZero': WHATEVER THE INPUT: true; the input reads as it did. -/
def pumpZeroSpec : ChangeSpec := { name := "pumpZero", fn := fun _ => fun
  | [d1, d2] => { results := [.lit (.bool true)], args := [d1, d2] }
  | _ => none }
def pumpZeroRow : OpenClaim := { program := "ytibiiagdhdmpiaa", sum := "ce579dc5445f1cc5ad76fcc82f8e6ab4abd006fc8d1210ca7475ebed4c9d5484", func := "aqueduct/aqueductlaw20.PumpZero", spec := "pumpZero", apart := false }
def PumpZeroSaid : Prop := pumpZeroRow.holds Try.pinned (OpenSpec.ofChange pumpZeroSpec)

/-- ITS FALSE NEIGHBOUR: 'it returns false'. Refute it at one input. -/
def pumpZeroWrong : ChangeSpec := { name := "pumpZero", fn := fun _ => fun
  | [d1, d2] => { results := [.lit (.bool false)], args := [d1, d2] }
  | _ => none }
def PumpZeroWrongFalsely : Prop := pumpZeroRow.holds Try.pinned (OpenSpec.ofChange pumpZeroWrong)

/-- 'aqueductlaw20.PumpCuts': WHATEVER THE INPUT: true; the input reads as it did. -/
def pumpCutsSpec : ChangeSpec := { name := "pumpCuts", fn := fun _ => fun
  | [d1, d2, d3, d4] => { results := [.lit (.bool true)], args := [d1, d2, d3, d4] }
  | _ => none }
def pumpCutsRow : OpenClaim := { program := "ytibiiagdhdmpiaa", sum := "ce579dc5445f1cc5ad76fcc82f8e6ab4abd006fc8d1210ca7475ebed4c9d5484", func := "aqueduct/aqueductlaw20.PumpCuts", spec := "pumpCuts", apart := false }
def PumpCutsSaid : Prop := pumpCutsRow.holds Try.pinned (OpenSpec.ofChange pumpCutsSpec)

/-- ITS FALSE NEIGHBOUR: 'it returns false'. Refute it at one input. -/
def pumpCutsWrong : ChangeSpec := { name := "pumpCuts", fn := fun _ => fun
  | [d1, d2, d3, d4] => { results := [.lit (.bool false)], args := [d1, d2, d3, d4] }
  | _ => none }
def PumpCutsWrongFalsely : Prop := pumpCutsRow.holds Try.pinned (OpenSpec.ofChange pumpCutsWrong)

/- THE SECOND FORM. 'bulk': how many values and letters a reading holds, each counted each time it is reached (what is shared counts as often as it is met; a slice's spare places count too). A statement '..UptoSaid' is the law's where the arguments, and the package variables that the reading takes, are together of bulk at most 1048576: NARROWER than '..Said'. Prove '..Said' where nothing that the law and all that it calls make is longer than what came in: it says more and counts as full. Else prove '..UptoSaid'. A law counts once. -/
mutual
def uptoBulk {H : Type} : DataW H → Nat
  | .lit (.string bytes) => bytes.length + 1
  | .lit _ => 1
  | .nil => 1
  | .ptr d => uptoBulk d + 1
  | .slice elems spare => uptoBulkAll elems + uptoBulkAll spare + 1
  | .agg parts => uptoBulkAll parts + 1
  | .iface _ d => uptoBulk d + 1
  | .map entries => uptoBulkEntries entries + 1
  | .held _ => 1
def uptoBulkAll {H : Type} : List (DataW H) → Nat
  | [] => 0
  | d :: r => uptoBulk d + uptoBulkAll r
def uptoBulkEntries {H : Type} : List (Lit × DataW H) → Nat
  | [] => 0
  | x :: r => uptoBulkEntry x + uptoBulkEntries r
def uptoBulkEntry {H : Type} : Lit × DataW H → Nat
  | (.string bytes, d) => bytes.length + uptoBulk d + 1
  | (_, d) => uptoBulk d + 1
 end
def uptoSmall : (H : Type) → List (DataW H) → Bool := fun _ ds => decide (uptoBulkAll ds ≤ 1048576)
def OpenSpec.upto (s : _root_.Go.ChangeSpec) : _root_.Go.OpenSpec := { _root_.Go.OpenSpec.ofChange s with cond := some uptoSmall }

/-- 'aqueductlaw20.PumpPlays', WHERE WHAT IT READS IS OF BULK AT MOST 1048576: true; the input reads as it did. -/
def pumpPlaysUptoRow : OpenClaim := { program := "ytibiiagdhdmpiaa", sum := "ce579dc5445f1cc5ad76fcc82f8e6ab4abd006fc8d1210ca7475ebed4c9d5484", func := "aqueduct/aqueductlaw20.PumpPlays", spec := "pumpPlays", apart := false, narrowed := true }
def PumpPlaysUptoSaid : Prop := pumpPlaysUptoRow.holds Try.pinned (OpenSpec.upto pumpPlaysSpec)

/-- 'aqueductlaw20.PumpThrough', WHERE WHAT IT READS IS OF BULK AT MOST 1048576: true; the input reads as it did. -/
def pumpThroughUptoRow : OpenClaim := { program := "ytibiiagdhdmpiaa", sum := "ce579dc5445f1cc5ad76fcc82f8e6ab4abd006fc8d1210ca7475ebed4c9d5484", func := "aqueduct/aqueductlaw20.PumpThrough", spec := "pumpThrough", apart := false, narrowed := true }
def PumpThroughUptoSaid : Prop := pumpThroughUptoRow.holds Try.pinned (OpenSpec.upto pumpThroughSpec)

/-- 'aqueductlaw20.PumpZero', WHERE WHAT IT READS IS OF BULK AT MOST 1048576: true; the input reads as it did. -/
def pumpZeroUptoRow : OpenClaim := { program := "ytibiiagdhdmpiaa", sum := "ce579dc5445f1cc5ad76fcc82f8e6ab4abd006fc8d1210ca7475ebed4c9d5484", func := "aqueduct/aqueductlaw20.PumpZero", spec := "pumpZero", apart := false, narrowed := true }
def PumpZeroUptoSaid : Prop := pumpZeroUptoRow.holds Try.pinned (OpenSpec.upto pumpZeroSpec)

/-- 'aqueductlaw20.PumpCuts', WHERE WHAT IT READS IS OF BULK AT MOST 1048576: true; the input reads as it did. -/
def pumpCutsUptoRow : OpenClaim := { program := "ytibiiagdhdmpiaa", sum := "ce579dc5445f1cc5ad76fcc82f8e6ab4abd006fc8d1210ca7475ebed4c9d5484", func := "aqueduct/aqueductlaw20.PumpCuts", spec := "pumpCuts", apart := false, narrowed := true }
def PumpCutsUptoSaid : Prop := pumpCutsUptoRow.holds Try.pinned (OpenSpec.upto pumpCutsSpec)

end Rows
end Go.Proofs.Ytibiiagdhdmpiaa
