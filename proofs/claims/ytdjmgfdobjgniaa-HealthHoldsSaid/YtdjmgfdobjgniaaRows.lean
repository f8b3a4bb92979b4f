/-
  No cell of these rows narrows 'for every input' (looked for: loops, veiled, ifaces, maps, wideKeys, modest, calm, conditions, laid).
  DERIVED. THE GIVEN ROWS OF THIS SEAT. 5 by the template 'for every input the law returns true; each argument reads behind the call as it read before'; 0 by the template 'total and deterministic' (their statements: YtdjmgfdobjgniaaTotals.lean).
  GIVEN WITH THE SEED: the statements are not yours to turn. If you find one false, say at which input.
  Laid BY PROGRAM, IN A SANDBOX (cutbox-rows.mjs): the forced cells as the released guide's own fill.sh prints them over the translation 3bea6b3d0fee3e96… (all of the seat's roots in one cut). By AI agents, Wed Nov 11 2026. No macro, syntax, notation, axiom, sorry.
-/
import Derived.Test.YtdjmgfdobjgniaaChecked
import GoSem.Claim
import GoSem.ClaimJoined
import GoSem.ClaimMapViews
import Derived.JoinedTies
import Derived.KernelRfl
namespace Go.Proofs.Ytdjmgfdobjgniaa
/- THE CELL 'sum', in the pinned program and in every row, IS THE sha256 OF THE DUMP (.gsa) THAT YtdjmgfdobjgniaaProg.lean LOADS. Nothing in Lean hashes anything: it is a label: what it is worth is what the hold of that sum in a sandbox is worth. -/
noncomputable def Try.pinned : Pinned := { name := "ytdjmgfdobjgniaa", sum := "3bea6b3d0fee3e96549da0d928d76e824c596ce242086c1a8538a0c6c6bbcec6", checked := Try.checked }
namespace Rows
def none {H : Type} : Left H := { results := [], args := [] }

/-- 'aqueductlaw17.HealthPlays': WHATEVER THE INPUT: true; the input reads as it did. -/
def healthPlaysSpec : ChangeSpec := { name := "healthPlays", fn := fun _ => fun
  | [d1, d2] => { results := [.lit (.bool true)], args := [d1, d2] }
  | _ => none }
def healthPlaysRow : OpenClaim := { program := "ytdjmgfdobjgniaa", sum := "3bea6b3d0fee3e96549da0d928d76e824c596ce242086c1a8538a0c6c6bbcec6", func := "aqueduct/aqueductlaw17.HealthPlays", spec := "healthPlays", unfollowed := true, recurses := true, apart := false }
def HealthPlaysSaid : Prop := healthPlaysRow.holds Try.pinned (OpenSpec.ofChange healthPlaysSpec)

/-- ITS FALSE NEIGHBOUR: 'it returns false'. Refute it at one input. -/
def healthPlaysWrong : ChangeSpec := { name := "healthPlays", fn := fun _ => fun
  | [d1, d2] => { results := [.lit (.bool false)], args := [d1, d2] }
  | _ => none }
def HealthPlaysWrongFalsely : Prop := healthPlaysRow.holds Try.pinned (OpenSpec.ofChange healthPlaysWrong)

/-- 'aqueductlaw17.HealthFolds': WHATEVER THE INPUT: true; the input reads as it did. -/
def healthFoldsSpec : ChangeSpec := { name := "healthFolds", fn := fun _ => fun
  | [d1, d2] => { results := [.lit (.bool true)], args := [d1, d2] }
  | _ => none }
def healthFoldsRow : OpenClaim := { program := "ytdjmgfdobjgniaa", sum := "3bea6b3d0fee3e96549da0d928d76e824c596ce242086c1a8538a0c6c6bbcec6", func := "aqueduct/aqueductlaw17.HealthFolds", spec := "healthFolds", unfollowed := true, recurses := true, apart := false }
def HealthFoldsSaid : Prop := healthFoldsRow.holds Try.pinned (OpenSpec.ofChange healthFoldsSpec)

/-- ITS FALSE NEIGHBOUR: 'it returns false'. Refute it at one input. -/
def healthFoldsWrong : ChangeSpec := { name := "healthFolds", fn := fun _ => fun
  | [d1, d2] => { results := [.lit (.bool false)], args := [d1, d2] }
  | _ => none }
def HealthFoldsWrongFalsely : Prop := healthFoldsRow.holds Try.pinned (OpenSpec.ofChange healthFoldsWrong)

/-- 'aqueductlaw17.HealthTurns': WHATEVER THE INPUT: true; the input reads as it did. -/
def healthTurnsSpec : ChangeSpec := { name := "healthTurns", fn := fun _ => fun
  | [d1, d2] => { results := [.lit (.bool true)], args := [d1, d2] }
  | _ => none }
def healthTurnsRow : OpenClaim := { program := "ytdjmgfdobjgniaa", sum := "3bea6b3d0fee3e96549da0d928d76e824c596ce242086c1a8538a0c6c6bbcec6", func := "aqueduct/aqueductlaw17.HealthTurns", spec := "healthTurns", unfollowed := true, recurses := true, apart := false }
def HealthTurnsSaid : Prop := healthTurnsRow.holds Try.pinned (OpenSpec.ofChange healthTurnsSpec)

/-- ITS FALSE NEIGHBOUR: 'it returns false'. Refute it at one input. -/
def healthTurnsWrong : ChangeSpec := { name := "healthTurns", fn := fun _ => fun
  | [d1, d2] => { results := [.lit (.bool false)], args := [d1, d2] }
  | _ => none }
def HealthTurnsWrongFalsely : Prop := healthTurnsRow.holds Try.pinned (OpenSpec.ofChange healthTurnsWrong)

/-- 'aqueductlaw17.HealthZero': WHATEVER THE INPUT: true; the input reads as it did. -/
def healthZeroSpec : ChangeSpec := { name := "healthZero", fn := fun _ => fun
  | [d] => { results := [.lit (.bool true)], args := [d] }
  | _ => none }
def healthZeroRow : OpenClaim := { program := "ytdjmgfdobjgniaa", sum := "3bea6b3d0fee3e96549da0d928d76e824c596ce242086c1a8538a0c6c6bbcec6", func := "aqueduct/aqueductlaw17.HealthZero", spec := "healthZero", unfollowed := true, recurses := true, apart := false }
def HealthZeroSaid : Prop := healthZeroRow.holds Try.pinned (OpenSpec.ofChange healthZeroSpec)

/-- ITS FALSE NEIGHBOUR: 'it returns false'. Refute it at one input. -/
def healthZeroWrong : ChangeSpec := { name := "healthZero", fn := fun _ => fun
  | [d] => { results := [.lit (.bool false)], args := [d] }
  | _ => none }
def HealthZeroWrongFalsely : Prop := healthZeroRow.holds Try.pinned (OpenSpec.ofChange healthZeroWrong)

/-- 'aqueductlaw17.HealthHolds': WHATEVER THE INPUT: true; the input reads as it did. -/
def healthHoldsSpec : ChangeSpec := { name := "healthHolds", fn := fun _ => fun
  | [d1, d2, d3, d4] => { results := [.lit (.bool true)], args := [d1, d2, d3, d4] }
  | _ => none }
def healthHoldsRow : OpenClaim := { program := "ytdjmgfdobjgniaa", sum := "3bea6b3d0fee3e96549da0d928d76e824c596ce242086c1a8538a0c6c6bbcec6", func := "aqueduct/aqueductlaw17.HealthHolds", spec := "healthHolds", unfollowed := true, recurses := true, apart := false }
def HealthHoldsSaid : Prop := healthHoldsRow.holds Try.pinned (OpenSpec.ofChange healthHoldsSpec)

/-- ITS FALSE NEIGHBOUR: 'it returns false'. Refute it at one input. -/
def healthHoldsWrong : ChangeSpec := { name := "healthHolds", fn := fun _ => fun
  | [d1, d2, d3, d4] => { results := [.lit (.bool false)], args := [d1, d2, d3, d4] }
  | _ => none }
def HealthHoldsWrongFalsely : Prop := healthHoldsRow.holds Try.pinned (OpenSpec.ofChange healthHoldsWrong)

/- THE SECOND FORM. 'bulk': how many values and letters a reading holds, each counted each time it is reached (what is shared counts as often as it is met; a slice's spare places count too). A statement '..UptoSaid' is the law's where the arguments, and the package variables that the reading takes, are together of bulk at most 1048576: NARROWER than '..Said'. Prove '..Said' where nothing that the law and all that it calls make is longer than what came in: it says more and counts as full. Else prove '..UptoSaid'. A law counts once. -/
mutual
def uptoBulk {H : Type} : DataW H → Nat
  | .lit (.string bytes) => bytes.length + 1
  | .lit _ => 1
  | .nil => 1
  | .ptr d => uptoBulk d + 1
  | .slice elems spare => uptoBulkAll elems + uptoBulkAll spare + 1
  | .agg parts => uptoBulkAll parts + 1
  | .iface _ d => uptoBulk d + 1
  | .map entries => uptoBulkEntries entries + 1
  | .held _ => 1
def uptoBulkAll {H : Type} : List (DataW H) → Nat
  | [] => 0
  | d :: r => uptoBulk d + uptoBulkAll r
def uptoBulkEntries {H : Type} : List (Lit × DataW H) → Nat
  | [] => 0
  | x :: r => uptoBulkEntry x + uptoBulkEntries r
def uptoBulkEntry {H : Type} : Lit × DataW H → Nat
  | (.string bytes, d) => bytes.length + uptoBulk d + 1
  | (_, d) => uptoBulk d + 1
 end
def uptoSmall : (H : Type) → List (DataW H) → Bool := fun _ ds => decide (uptoBulkAll ds ≤ 1048576)
def OpenSpec.upto (s : _root_.Go.ChangeSpec) : _root_.Go.OpenSpec := { _root_.Go.OpenSpec.ofChange s with cond := some uptoSmall }

/-- 'aqueductlaw17.HealthPlays', WHERE WHAT IT READS IS OF BULK AT MOST 1048576: true; the input reads as it did. -/
def healthPlaysUptoRow : OpenClaim := { program := "ytdjmgfdobjgniaa", sum := "3bea6b3d0fee3e96549da0d928d76e824c596ce242086c1a8538a0c6c6bbcec6", func := "aqueduct/aqueductlaw17.HealthPlays", spec := "healthPlays", unfollowed := true, recurses := true, apart := false, narrowed := true }
def HealthPlaysUptoSaid : Prop := healthPlaysUptoRow.holds Try.pinned (OpenSpec.upto healthPlaysSpec)

/-- 'aqueductlaw17.HealthFolds', WHERE WHAT IT READS IS OF BULK AT MOST 1048576: true; the input reads as it did. -/
def healthFoldsUptoRow : OpenClaim := { program := "ytdjmgfdobjgniaa", sum := "3bea6b3d0fee3e96549da0d928d76e824c596ce242086c1a8538a0c6c6bbcec6", func := "aqueduct/aqueductlaw17.HealthFolds", spec := "healthFolds", unfollowed := true, recurses := true, apart := false, narrowed := true }
def HealthFoldsUptoSaid : Prop := healthFoldsUptoRow.holds Try.pinned (OpenSpec.upto healthFoldsSpec)

/-- 'aqueductlaw17.HealthTurns', WHERE WHAT IT READS IS OF BULK AT MOST 1048576: true; the input reads as it did. -/
def healthTurnsUptoRow : OpenClaim := { program := "ytdjmgfdobjgniaa", sum := "3bea6b3d0fee3e96549da0d928d76e824c596ce242086c1a8538a0c6c6bbcec6", func := "aqueduct/aqueductlaw17.HealthTurns", spec := "healthTurns", unfollowed := true, recurses := true, apart := false, narrowed := true }
def HealthTurnsUptoSaid : Prop := healthTurnsUptoRow.holds Try.pinned (OpenSpec.upto healthTurnsSpec)

/-- 'aqueductlaw17.HealthZero', WHERE WHAT IT READS IS OF BULK AT MOST 1048576: true; the input reads as it did. -/
def healthZeroUptoRow : OpenClaim := { program := "ytdjmgfdobjgniaa", sum := "3bea6b3d0fee3e96549da0d928d76e824c596ce242086c1a8538a0c6c6bbcec6", func := "aqueduct/aqueductlaw17.HealthZero", spec := "healthZero", unfollowed := true, recurses := true, apart := false, narrowed := true }
def HealthZeroUptoSaid : Prop := healthZeroUptoRow.holds Try.pinned (OpenSpec.upto healthZeroSpec)

/-- 'aqueductlaw17.HealthHolds', WHERE WHAT IT READS IS OF BULK AT MOST 1048576: true; the input reads as it did. -/
def healthHoldsUptoRow : OpenClaim := { program := "ytdjmgfdobjgniaa", sum := "3bea6b3d0fee3e96549da0d928d76e824c596ce242086c1a8538a0c6c6bbcec6", func := "aqueduct/aqueductlaw17.HealthHolds", spec := "healthHolds", unfollowed := true, recurses := true, apart := false, narrowed := true }
def HealthHoldsUptoSaid : Prop := healthHoldsUptoRow.holds Try.pinned (OpenSpec.upto healthHoldsSpec)

end Rows
end Go.Proofs.Ytdjmgfdobjgniaa
