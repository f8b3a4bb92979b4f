/-
  No cell of these rows narrows 'for every input' (looked for: loops, veiled, ifaces, maps, wideKeys, modest, calm, conditions, laid).
  DERIVED. THE GIVEN ROWS OF THIS SEAT. 6 by the template 'for every input the law returns true; each argument reads behind the call as it read before'; 0 by the template 'total and deterministic' (their statements: YtdndhidinbmpdaaTotals.lean).
  GIVEN WITH THE SEED: the statements are not yours to turn. If you find one false, say at which input.
  Laid BY PROGRAM, IN A SANDBOX (cutbox-rows.mjs): the forced cells as the released guide's own fill.sh prints them over the translation 9c1b278516facfef… (all of the seat's roots in one cut). By AI agents, Wed Nov 11 2026. No macro, syntax, notation, axiom, sorry.
-/
import Derived.Test.YtdndhidinbmpdaaChecked
import GoSem.Claim
import GoSem.ClaimJoined
import GoSem.ClaimMapViews
import Derived.JoinedTies
import Derived.KernelRfl
namespace Go.Proofs.Ytdndhidinbmpdaa
/- THE CELL 'sum', in the pinned program and in every row, IS THE sha256 OF THE DUMP (.gsa) THAT YtdndhidinbmpdaaProg.lean LOADS. Nothing in Lean hashes anything: it is a label: what it is worth is what the hold of that sum in a sandbox is worth. -/
noncomputable def Try.pinned : Pinned := { name := "ytdndhidinbmpdaa", sum := "9c1b278516facfefdf34cda2d0a34f90da4d1cb9c1933f395e236dee57af15dd", checked := Try.checked }
namespace Rows
def none {H : Type} : Left H := { results := [], args := [] }

/-- 'aqueductlaw12.BlockSplits': WHATEVER THE INPUT: true; the input reads as it did. -/
def blockSplitsSpec : ChangeSpec := { name := "blockSplits", fn := fun _ => fun
  | [d1, d2, d3, d4] => { results := [.lit (.bool true)], args := [d1, d2, d3, d4] }
  | _ => none }
def blockSplitsRow : OpenClaim := { program := "ytdndhidinbmpdaa", sum := "9c1b278516facfefdf34cda2d0a34f90da4d1cb9c1933f395e236dee57af15dd", func := "aqueduct/aqueductlaw12.BlockSplits", spec := "blockSplits", unfollowed := true, recurses := true, apart := false }
def BlockSplitsSaid : Prop := blockSplitsRow.holds Try.pinned (OpenSpec.ofChange blockSplitsSpec)

/-- ITS FALSE NEIGHBOUR: 'it returns false'. Refute it at one input. -/
def blockSplitsWrong : ChangeSpec := { name := "blockSplits", fn := fun _ => fun
  | [d1, d2, d3, d4] => { results := [.lit (.bool false)], args := [d1, d2, d3, d4] }
  | _ => none }
def BlockSplitsWrongFalsely : Prop := blockSplitsRow.holds Try.pinned (OpenSpec.ofChange blockSplitsWrong)

/-- 'aqueductlaw12.BlockJoins': WHATEVER THE INPUT: true; the input reads as it did. -/
def blockJoinsSpec : ChangeSpec := { name := "blockJoins", fn := fun _ => fun
  | [d1, d2] => { results := [.lit (.bool true)], args := [d1, d2] }
  | _ => none }
def blockJoinsRow : OpenClaim := { program := "ytdndhidinbmpdaa", sum := "9c1b278516facfefdf34cda2d0a34f90da4d1cb9c1933f395e236dee57af15dd", func := "aqueduct/aqueductlaw12.BlockJoins", spec := "blockJoins", unfollowed := true, recurses := true, apart := false }
def BlockJoinsSaid : Prop := blockJoinsRow.holds Try.pinned (OpenSpec.ofChange blockJoinsSpec)

/-- ITS FALSE NEIGHBOUR: 'it returns false'. Refute it at one input. -/
def blockJoinsWrong : ChangeSpec := { name := "blockJoins", fn := fun _ => fun
  | [d1, d2] => { results := [.lit (.bool false)], args := [d1, d2] }
  | _ => none }
def BlockJoinsWrongFalsely : Prop := blockJoinsRow.holds Try.pinned (OpenSpec.ofChange blockJoinsWrong)

/-- 'aqueductlaw12.BlockBack': WHATEVER THE INPUT: true; the input reads as it did. -/
def blockBackSpec : ChangeSpec := { name := "blockBack", fn := fun _ => fun
  | [d1, d2, d3, d4] => { results := [.lit (.bool true)], args := [d1, d2, d3, d4] }
  | _ => none }
def blockBackRow : OpenClaim := { program := "ytdndhidinbmpdaa", sum := "9c1b278516facfefdf34cda2d0a34f90da4d1cb9c1933f395e236dee57af15dd", func := "aqueduct/aqueductlaw12.BlockBack", spec := "blockBack", unfollowed := true, recurses := true, apart := false }
def BlockBackSaid : Prop := blockBackRow.holds Try.pinned (OpenSpec.ofChange blockBackSpec)

/-- ITS FALSE NEIGHBOUR: 'it returns false'. Refute it at one input. -/
def blockBackWrong : ChangeSpec := { name := "blockBack", fn := fun _ => fun
  | [d1, d2, d3, d4] => { results := [.lit (.bool false)], args := [d1, d2, d3, d4] }
  | _ => none }
def BlockBackWrongFalsely : Prop := blockBackRow.holds Try.pinned (OpenSpec.ofChange blockBackWrong)

/-- 'aqueductlaw12.BlockBound': WHATEVER THE INPUT: true; the input reads as it did. -/
def blockBoundSpec : ChangeSpec := { name := "blockBound", fn := fun _ => fun
  | [d1, d2] => { results := [.lit (.bool true)], args := [d1, d2] }
  | _ => none }
def blockBoundRow : OpenClaim := { program := "ytdndhidinbmpdaa", sum := "9c1b278516facfefdf34cda2d0a34f90da4d1cb9c1933f395e236dee57af15dd", func := "aqueduct/aqueductlaw12.BlockBound", spec := "blockBound", unfollowed := true, recurses := true, apart := false }
def BlockBoundSaid : Prop := blockBoundRow.holds Try.pinned (OpenSpec.ofChange blockBoundSpec)

/-- ITS FALSE NEIGHBOUR: 'it returns false'. Refute it at one input. -/
def blockBoundWrong : ChangeSpec := { name := "blockBound", fn := fun _ => fun
  | [d1, d2] => { results := [.lit (.bool false)], args := [d1, d2] }
  | _ => none }
def BlockBoundWrongFalsely : Prop := blockBoundRow.holds Try.pinned (OpenSpec.ofChange blockBoundWrong)

/-- 'aqueductlaw12.BlockZero': WHATEVER THE INPUT: true; the input reads as it did. -/
def blockZeroSpec : ChangeSpec := { name := "blockZero", fn := fun _ => fun
  | [d] => { results := [.lit (.bool true)], args := [d] }
  | _ => none }
def blockZeroRow : OpenClaim := { program := "ytdndhidinbmpdaa", sum := "9c1b278516facfefdf34cda2d0a34f90da4d1cb9c1933f395e236dee57af15dd", func := "aqueduct/aqueductlaw12.BlockZero", spec := "blockZero", apart := false }
def BlockZeroSaid : Prop := blockZeroRow.holds Try.pinned (OpenSpec.ofChange blockZeroSpec)

/-- ITS FALSE NEIGHBOUR: 'it returns false'. Refute it at one input. -/
def blockZeroWrong : ChangeSpec := { name := "blockZero", fn := fun _ => fun
  | [d] => { results := [.lit (.bool false)], args := [d] }
  | _ => none }
def BlockZeroWrongFalsely : Prop := blockZeroRow.holds Try.pinned (OpenSpec.ofChange blockZeroWrong)

/-- 'aqueductlaw12.BlockAlone': WHATEVER THE INPUT: true; the input reads as it did. -/
def blockAloneSpec : ChangeSpec := { name := "blockAlone", fn := fun _ => fun
  | [d1, d2] => { results := [.lit (.bool true)], args := [d1, d2] }
  | _ => none }
def blockAloneRow : OpenClaim := { program := "ytdndhidinbmpdaa", sum := "9c1b278516facfefdf34cda2d0a34f90da4d1cb9c1933f395e236dee57af15dd", func := "aqueduct/aqueductlaw12.BlockAlone", spec := "blockAlone", apart := false }
def BlockAloneSaid : Prop := blockAloneRow.holds Try.pinned (OpenSpec.ofChange blockAloneSpec)

/-- ITS FALSE NEIGHBOUR: 'it returns false'. Refute it at one input. -/
def blockAloneWrong : ChangeSpec := { name := "blockAlone", fn := fun _ => fun
  | [d1, d2] => { results := [.lit (.bool false)], args := [d1, d2] }
  | _ => none }
def BlockAloneWrongFalsely : Prop := blockAloneRow.holds Try.pinned (OpenSpec.ofChange blockAloneWrong)

/- THE SECOND FORM. 'bulk': how many values and letters a reading holds, each counted each time it is reached (what is shared counts as often as it is met; a slice's spare places count too). A statement '..UptoSaid' is the law's where the arguments, and the package variables that the reading takes, are together of bulk at most 1048576: NARROWER than '..Said'. Prove '..Said' where nothing that the law and all that it calls make is longer than what came in: it says more and counts as full. Else prove '..UptoSaid'. A law counts once. -/
mutual
def uptoBulk {H : Type} : DataW H → Nat
  | .lit (.string bytes) => bytes.length + 1
  | .lit _ => 1
  | .nil => 1
  | .ptr d => uptoBulk d + 1
  | .slice elems spare => uptoBulkAll elems + uptoBulkAll spare + 1
  | .agg parts => uptoBulkAll parts + 1
  | .iface _ d => uptoBulk d + 1
  | .map entries => uptoBulkEntries entries + 1
  | .held _ => 1
def uptoBulkAll {H : Type} : List (DataW H) → Nat
  | [] => 0
  | d :: r => uptoBulk d + uptoBulkAll r
def uptoBulkEntries {H : Type} : List (Lit × DataW H) → Nat
  | [] => 0
  | x :: r => uptoBulkEntry x + uptoBulkEntries r
def uptoBulkEntry {H : Type} : Lit × DataW H → Nat
  | (.string bytes, d) => bytes.length + uptoBulk d + 1
  | (_, d) => uptoBulk d + 1
 end
def uptoSmall : (H : Type) → List (DataW H) → Bool := fun _ ds => decide (uptoBulkAll ds ≤ 1048576)
def OpenSpec.upto (s : _root_.Go.ChangeSpec) : _root_.Go.OpenSpec := { _root_.Go.OpenSpec.ofChange s with cond := some uptoSmall }

/-- 'aqueductlaw12.BlockSplits', WHERE WHAT IT READS IS OF BULK AT MOST 1048576: true; the input reads as it did. -/
def blockSplitsUptoRow : OpenClaim := { program := "ytdndhidinbmpdaa", sum := "9c1b278516facfefdf34cda2d0a34f90da4d1cb9c1933f395e236dee57af15dd", func := "aqueduct/aqueductlaw12.BlockSplits", spec := "blockSplits", unfollowed := true, recurses := true, apart := false, narrowed := true }
def BlockSplitsUptoSaid : Prop := blockSplitsUptoRow.holds Try.pinned (OpenSpec.upto blockSplitsSpec)

/-- 'aqueductlaw12.BlockJoins', WHERE WHAT IT READS IS OF BULK AT MOST 1048576: true; the input reads as it did. -/
def blockJoinsUptoRow : OpenClaim := { program := "ytdndhidinbmpdaa", sum := "9c1b278516facfefdf34cda2d0a34f90da4d1cb9c1933f395e236dee57af15dd", func := "aqueduct/aqueductlaw12.BlockJoins", spec := "blockJoins", unfollowed := true, recurses := true, apart := false, narrowed := true }
def BlockJoinsUptoSaid : Prop := blockJoinsUptoRow.holds Try.pinned (OpenSpec.upto blockJoinsSpec)

/-- 'aqueductlaw12.BlockBack', WHERE WHAT IT READS IS OF BULK AT MOST 1048576: true; the input reads as it did. -/
def blockBackUptoRow : OpenClaim := { program := "ytdndhidinbmpdaa", sum := "9c1b278516facfefdf34cda2d0a34f90da4d1cb9c1933f395e236dee57af15dd", func := "aqueduct/aqueductlaw12.BlockBack", spec := "blockBack", unfollowed := true, recurses := true, apart := false, narrowed := true }
def BlockBackUptoSaid : Prop := blockBackUptoRow.holds Try.pinned (OpenSpec.upto blockBackSpec)

/-- 'aqueductlaw12.BlockBound', WHERE WHAT IT READS IS OF BULK AT MOST 1048576: true; the input reads as it did. -/
def blockBoundUptoRow : OpenClaim := { program := "ytdndhidinbmpdaa", sum := "9c1b278516facfefdf34cda2d0a34f90da4d1cb9c1933f395e236dee57af15dd", func := "aqueduct/aqueductlaw12.BlockBound", spec := "blockBound", unfollowed := true, recurses := true, apart := false, narrowed := true }
def BlockBoundUptoSaid : Prop := blockBoundUptoRow.holds Try.pinned (OpenSpec.upto blockBoundSpec)

/-- 'aqueductlaw12.BlockZero', WHERE WHAT IT READS IS OF BULK AT MOST 1048576: true; the input reads as it did. -/
def blockZeroUptoRow : OpenClaim := { program := "ytdndhidinbmpdaa", sum := "9c1b278516facfefdf34cda2d0a34f90da4d1cb9c1933f395e236dee57af15dd", func := "aqueduct/aqueductlaw12.BlockZero", spec := "blockZero", apart := false, narrowed := true }
def BlockZeroUptoSaid : Prop := blockZeroUptoRow.holds Try.pinned (OpenSpec.upto blockZeroSpec)

/-- 'aqueductlaw12.BlockAlone', WHERE WHAT IT READS IS OF BULK AT MOST 1048576: true; the input reads as it did. -/
def blockAloneUptoRow : OpenClaim := { program := "ytdndhidinbmpdaa", sum := "9c1b278516facfefdf34cda2d0a34f90da4d1cb9c1933f395e236dee57af15dd", func := "aqueduct/aqueductlaw12.BlockAlone", spec := "blockAlone", apart := false, narrowed := true }
def BlockAloneUptoSaid : Prop := blockAloneUptoRow.holds Try.pinned (OpenSpec.upto blockAloneSpec)

end Rows
end Go.Proofs.Ytdndhidinbmpdaa
