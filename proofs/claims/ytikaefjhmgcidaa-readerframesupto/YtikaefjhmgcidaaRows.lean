/-
  No cell of these rows narrows 'for every input' (looked for: loops, veiled, ifaces, maps, wideKeys, modest, calm, conditions, laid).
  DERIVED. THE GIVEN ROWS OF THIS SEAT. 5 by the template 'for every input the law returns true; each argument reads behind the call as it read before'; 0 by the template 'total and deterministic' (their statements: YtikaefjhmgcidaaTotals.lean).
  GIVEN WITH THE SEED: the statements are not yours to turn. If you find one false, say at which input.
  Laid BY PROGRAM, IN A SANDBOX (cutbox-rows.mjs): the forced cells as the released guide's own fill.sh prints them over the translation 9c37c44cceb6142f… (all of the seat's roots in one cut). By AI agents, Wed Nov 11 2026. No macro, syntax, notation, axiom, sorry.
-/
import Derived.Test.YtikaefjhmgcidaaChecked
import GoSem.Claim
import GoSem.ClaimJoined
import GoSem.ClaimMapViews
import Derived.JoinedTies
import Derived.KernelRfl
namespace Go.Proofs.Ytikaefjhmgcidaa
/- THE CELL 'sum', in the pinned program and in every row, IS THE sha256 OF THE DUMP (.gsa) THAT YtikaefjhmgcidaaProg.lean LOADS. Nothing in Lean hashes anything: it is a label: what it is worth is what the hold of that sum in a sandbox is worth. -/
noncomputable def Try.pinned : Pinned := { name := "ytikaefjhmgcidaa", sum := "9c37c44cceb6142f13bff9c75e0bbe67ab734bc25a4882669ed482b3edb413b1", checked := Try.checked }
namespace Rows
def none {H : Type} : Left H := { results := [], args := [] }

/-- 'aqueductlaw08.ReaderPlays': WHATEVER THE INPUT: true; the input reads as it did. -/
def readerPlaysSpec : ChangeSpec := { name := "readerPlays", fn := fun _ => fun
  | [d1, d2] => { results := [.lit (.bool true)], args := [d1, d2] }
  | _ => none }
def readerPlaysRow : OpenClaim := { program := "ytikaefjhmgcidaa", sum := "9c37c44cceb6142f13bff9c75e0bbe67ab734bc25a4882669ed482b3edb413b1", func := "aqueduct/aqueductlaw08.ReaderPlays", spec := "readerPlays", unfollowed := true, recurses := true, apart := false }
def ReaderPlaysSaid : Prop := readerPlaysRow.holds Try.pinned (OpenSpec.ofChange readerPlaysSpec)

/-- ITS FALSE NEIGHBOUR: 'it returns false'. Refute it at one input. -/
def readerPlaysWrong : ChangeSpec := { name := "readerPlays", fn := fun _ => fun
  | [d1, d2] => { results := [.lit (.bool false)], args := [d1, d2] }
  | _ => none }
def ReaderPlaysWrongFalsely : Prop := readerPlaysRow.holds Try.pinned (OpenSpec.ofChange readerPlaysWrong)

/-- 'aqueductlaw08.ReaderChunks': WHATEVER THE INPUT: true; the input reads as it did. -/
def readerChunksSpec : ChangeSpec := { name := "readerChunks", fn := fun _ => fun
  | [d1, d2, d3] => { results := [.lit (.bool true)], args := [d1, d2, d3] }
  | _ => none }
def readerChunksRow : OpenClaim := { program := "ytikaefjhmgcidaa", sum := "9c37c44cceb6142f13bff9c75e0bbe67ab734bc25a4882669ed482b3edb413b1", func := "aqueduct/aqueductlaw08.ReaderChunks", spec := "readerChunks", unfollowed := true, recurses := true, apart := false }
def ReaderChunksSaid : Prop := readerChunksRow.holds Try.pinned (OpenSpec.ofChange readerChunksSpec)

/-- ITS FALSE NEIGHBOUR: 'it returns false'. Refute it at one input. -/
def readerChunksWrong : ChangeSpec := { name := "readerChunks", fn := fun _ => fun
  | [d1, d2, d3] => { results := [.lit (.bool false)], args := [d1, d2, d3] }
  | _ => none }
def ReaderChunksWrongFalsely : Prop := readerChunksRow.holds Try.pinned (OpenSpec.ofChange readerChunksWrong)

/-- 'aqueductlaw08.ReaderFrames': WHATEVER THE INPUT: true; the input reads as it did. -/
def readerFramesSpec : ChangeSpec := { name := "readerFrames", fn := fun _ => fun
  | [d1, d2] => { results := [.lit (.bool true)], args := [d1, d2] }
  | _ => none }
def readerFramesRow : OpenClaim := { program := "ytikaefjhmgcidaa", sum := "9c37c44cceb6142f13bff9c75e0bbe67ab734bc25a4882669ed482b3edb413b1", func := "aqueduct/aqueductlaw08.ReaderFrames", spec := "readerFrames", unfollowed := true, recurses := true, apart := false }
def ReaderFramesSaid : Prop := readerFramesRow.holds Try.pinned (OpenSpec.ofChange readerFramesSpec)

/-- ITS FALSE NEIGHBOUR: 'it returns false'. Refute it at one input. -/
def readerFramesWrong : ChangeSpec := { name := "readerFrames", fn := fun _ => fun
  | [d1, d2] => { results := [.lit (.bool false)], args := [d1, d2] }
  | _ => none }
def ReaderFramesWrongFalsely : Prop := readerFramesRow.holds Try.pinned (OpenSpec.ofChange readerFramesWrong)

/-- 'aqueductlaw08.ReaderZero': WHATEVER THE INPUT: true; the input reads as it did. -/
def readerZeroSpec : ChangeSpec := { name := "readerZero", fn := fun _ => fun
  | [d] => { results := [.lit (.bool true)], args := [d] }
  | _ => none }
def readerZeroRow : OpenClaim := { program := "ytikaefjhmgcidaa", sum := "9c37c44cceb6142f13bff9c75e0bbe67ab734bc25a4882669ed482b3edb413b1", func := "aqueduct/aqueductlaw08.ReaderZero", spec := "readerZero", unfollowed := true, recurses := true, apart := false }
def ReaderZeroSaid : Prop := readerZeroRow.holds Try.pinned (OpenSpec.ofChange readerZeroSpec)

/-- ITS FALSE NEIGHBOUR: 'it returns false'. Refute it at one input. -/
def readerZeroWrong : ChangeSpec := { name := "readerZero", fn := fun _ => fun
  | [d] => { results := [.lit (.bool false)], args := [d] }
  | _ => none }
def ReaderZeroWrongFalsely : Prop := readerZeroRow.holds Try.pinned (OpenSpec.ofChange readerZeroWrong)

/-- 'aqueductlaw08.ReaderFails': WHATEVER THE INPUT: true; the input reads as it did. -/
def readerFailsSpec : ChangeSpec := { name := "readerFails", fn := fun _ => fun
  | [d1, d2, d3] => { results := [.lit (.bool true)], args := [d1, d2, d3] }
  | _ => none }
def readerFailsRow : OpenClaim := { program := "ytikaefjhmgcidaa", sum := "9c37c44cceb6142f13bff9c75e0bbe67ab734bc25a4882669ed482b3edb413b1", func := "aqueduct/aqueductlaw08.ReaderFails", spec := "readerFails", unfollowed := true, recurses := true, apart := false }
def ReaderFailsSaid : Prop := readerFailsRow.holds Try.pinned (OpenSpec.ofChange readerFailsSpec)

/-- ITS FALSE NEIGHBOUR: 'it returns false'. Refute it at one input. -/
def readerFailsWrong : ChangeSpec := { name := "readerFails", fn := fun _ => fun
  | [d1, d2, d3] => { results := [.lit (.bool false)], args := [d1, d2, d3] }
  | _ => none }
def ReaderFailsWrongFalsely : Prop := readerFailsRow.holds Try.pinned (OpenSpec.ofChange readerFailsWrong)

/- THE SECOND FORM. 'bulk': how many values and letters a reading holds, each counted each time it is reached (what is shared counts as often as it is met; a slice's spare places count too). A statement '..UptoSaid' is the law's where the arguments, and the package variables that the reading takes, are together of bulk at most 1048576: NARROWER than '..Said'. Prove '..Said' where nothing that the law and all that it calls make is longer than what came in: it says more and counts as full. Else prove '..UptoSaid'. A law counts once. -/
mutual
def uptoBulk {H : Type} : DataW H → Nat
  | .lit (.string bytes) => bytes.length + 1
  | .lit _ => 1
  | .nil => 1
  | .ptr d => uptoBulk d + 1
  | .slice elems spare => uptoBulkAll elems + uptoBulkAll spare + 1
  | .agg parts => uptoBulkAll parts + 1
  | .iface _ d => uptoBulk d + 1
  | .map entries => uptoBulkEntries entries + 1
  | .held _ => 1
def uptoBulkAll {H : Type} : List (DataW H) → Nat
  | [] => 0
  | d :: r => uptoBulk d + uptoBulkAll r
def uptoBulkEntries {H : Type} : List (Lit × DataW H) → Nat
  | [] => 0
  | x :: r => uptoBulkEntry x + uptoBulkEntries r
def uptoBulkEntry {H : Type} : Lit × DataW H → Nat
  | (.string bytes, d) => bytes.length + uptoBulk d + 1
  | (_, d) => uptoBulk d + 1
 end
def uptoSmall : (H : Type) → List (DataW H) → Bool := fun _ ds => decide (uptoBulkAll ds ≤ 1048576)
def OpenSpec.upto (s : _root_.Go.ChangeSpec) : _root_.Go.OpenSpec := { _root_.Go.OpenSpec.ofChange s with cond := some uptoSmall }

/-- 'aqueductlaw08.ReaderPlays', WHERE WHAT IT READS IS OF BULK AT MOST 1048576: true; the input reads as it did. -/
def readerPlaysUptoRow : OpenClaim := { program := "ytikaefjhmgcidaa", sum := "9c37c44cceb6142f13bff9c75e0bbe67ab734bc25a4882669ed482b3edb413b1", func := "aqueduct/aqueductlaw08.ReaderPlays", spec := "readerPlays", unfollowed := true, recurses := true, apart := false, narrowed := true }
def ReaderPlaysUptoSaid : Prop := readerPlaysUptoRow.holds Try.pinned (OpenSpec.upto readerPlaysSpec)

/-- 'aqueductlaw08.ReaderChunks', WHERE WHAT IT READS IS OF BULK AT MOST 1048576: true; the input reads as it did. -/
def readerChunksUptoRow : OpenClaim := { program := "ytikaefjhmgcidaa", sum := "9c37c44cceb6142f13bff9c75e0bbe67ab734bc25a4882669ed482b3edb413b1", func := "aqueduct/aqueductlaw08.ReaderChunks", spec := "readerChunks", unfollowed := true, recurses := true, apart := false, narrowed := true }
def ReaderChunksUptoSaid : Prop := readerChunksUptoRow.holds Try.pinned (OpenSpec.upto readerChunksSpec)

/-- 'aqueductlaw08.ReaderFrames', WHERE WHAT IT READS IS OF BULK AT MOST 1048576: true; the input reads as it did. -/
def readerFramesUptoRow : OpenClaim := { program := "ytikaefjhmgcidaa", sum := "9c37c44cceb6142f13bff9c75e0bbe67ab734bc25a4882669ed482b3edb413b1", func := "aqueduct/aqueductlaw08.ReaderFrames", spec := "readerFrames", unfollowed := true, recurses := true, apart := false, narrowed := true }
def ReaderFramesUptoSaid : Prop := readerFramesUptoRow.holds Try.pinned (OpenSpec.upto readerFramesSpec)

/-- 'aqueductlaw08.ReaderZero', WHERE WHAT IT READS IS OF BULK AT MOST 1048576: true; the input reads as it did. -/
def readerZeroUptoRow : OpenClaim := { program := "ytikaefjhmgcidaa", sum := "9c37c44cceb6142f13bff9c75e0bbe67ab734bc25a4882669ed482b3edb413b1", func := "aqueduct/aqueductlaw08.ReaderZero", spec := "readerZero", unfollowed := true, recurses := true, apart := false, narrowed := true }
def ReaderZeroUptoSaid : Prop := readerZeroUptoRow.holds Try.pinned (OpenSpec.upto readerZeroSpec)

/-- 'aqueductlaw08.ReaderFails', WHERE WHAT IT READS IS OF BULK AT MOST 1048576: true; the input reads as it did. -/
def readerFailsUptoRow : OpenClaim := { program := "ytikaefjhmgcidaa", sum := "9c37c44cceb6142f13bff9c75e0bbe67ab734bc25a4882669ed482b3edb413b1", func := "aqueduct/aqueductlaw08.ReaderFails", spec := "readerFails", unfollowed := true, recurses := true, apart := false, narrowed := true }
def ReaderFailsUptoSaid : Prop := readerFailsUptoRow.holds Try.pinned (OpenSpec.upto readerFailsSpec)

end Rows
end Go.Proofs.Ytikaefjhmgcidaa
