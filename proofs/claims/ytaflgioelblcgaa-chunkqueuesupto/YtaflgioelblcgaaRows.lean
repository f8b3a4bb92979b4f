/-
  No cell of these rows narrows 'for every input' (looked for: loops, veiled, ifaces, maps, wideKeys, modest, calm, conditions, laid).
  DERIVED. THE GIVEN ROWS OF THIS SEAT. 5 by the template 'for every input the law returns true; each argument reads behind the call as it read before'; 0 by the template 'total and deterministic' (their statements: YtaflgioelblcgaaTotals.lean).
  GIVEN WITH THE SEED: the statements are not yours to turn. If you find one false, say at which input.
  Laid BY PROGRAM, IN A SANDBOX (cutbox-rows.mjs): the forced cells as the released guide's own fill.sh prints them over the translation a185e40e5e49b1b9… (all of the seat's roots in one cut). By AI agents, Wed Nov 11 2026. No macro, syntax, notation, axiom, sorry.
-/
import Derived.Test.YtaflgioelblcgaaChecked
import GoSem.Claim
import GoSem.ClaimJoined
import GoSem.ClaimMapViews
import Derived.JoinedTies
import Derived.KernelRfl
namespace Go.Proofs.Ytaflgioelblcgaa
/- THE CELL 'sum', in the pinned program and in every row, IS THE sha256 OF THE DUMP (.gsa) THAT YtaflgioelblcgaaProg.lean LOADS. Nothing in Lean hashes anything: it is a label: what it is worth is what the hold of that sum in a sandbox is worth. -/
noncomputable def Try.pinned : Pinned := { name := "ytaflgioelblcgaa", sum := "a185e40e5e49b1b9637bc0b99aa9ce88904a90efbd6b68dd1d94f03142142346", checked := Try.checked }
namespace Rows
def none {H : Type} : Left H := { results := [], args := [] }

/-- 'aqueductlaw01.ChunkRings': WHATEVER THE INPUT: true; the input reads as it did. -/
def chunkRingsSpec : ChangeSpec := { name := "chunkRings", fn := fun _ => fun
  | [d1, d2] => { results := [.lit (.bool true)], args := [d1, d2] }
  | _ => none }
def chunkRingsRow : OpenClaim := { program := "ytaflgioelblcgaa", sum := "a185e40e5e49b1b9637bc0b99aa9ce88904a90efbd6b68dd1d94f03142142346", func := "aqueduct/aqueductlaw01.ChunkRings", spec := "chunkRings", apart := false }
def ChunkRingsSaid : Prop := chunkRingsRow.holds Try.pinned (OpenSpec.ofChange chunkRingsSpec)

/-- ITS FALSE NEIGHBOUR: 'it returns false'. Refute it at one input. -/
def chunkRingsWrong : ChangeSpec := { name := "chunkRings", fn := fun _ => fun
  | [d1, d2] => { results := [.lit (.bool false)], args := [d1, d2] }
  | _ => none }
def ChunkRingsWrongFalsely : Prop := chunkRingsRow.holds Try.pinned (OpenSpec.ofChange chunkRingsWrong)

/-- 'aqueductlaw01.ChunkOrder': WHATEVER THE INPUT: true; the input reads as it did. -/
def chunkOrderSpec : ChangeSpec := { name := "chunkOrder", fn := fun _ => fun
  | [d1, d2, d3] => { results := [.lit (.bool true)], args := [d1, d2, d3] }
  | _ => none }
def chunkOrderRow : OpenClaim := { program := "ytaflgioelblcgaa", sum := "a185e40e5e49b1b9637bc0b99aa9ce88904a90efbd6b68dd1d94f03142142346", func := "aqueduct/aqueductlaw01.ChunkOrder", spec := "chunkOrder", apart := false }
def ChunkOrderSaid : Prop := chunkOrderRow.holds Try.pinned (OpenSpec.ofChange chunkOrderSpec)

/-- ITS FALSE NEIGHBOUR: 'it returns false'. Refute it at one input. -/
def chunkOrderWrong : ChangeSpec := { name := "chunkOrder", fn := fun _ => fun
  | [d1, d2, d3] => { results := [.lit (.bool false)], args := [d1, d2, d3] }
  | _ => none }
def ChunkOrderWrongFalsely : Prop := chunkOrderRow.holds Try.pinned (OpenSpec.ofChange chunkOrderWrong)

/-- 'aqueductlaw01.ChunkQueues': WHATEVER THE INPUT: true; the input reads as it did. -/
def chunkQueuesSpec : ChangeSpec := { name := "chunkQueues", fn := fun _ => fun
  | [d1, d2] => { results := [.lit (.bool true)], args := [d1, d2] }
  | _ => none }
def chunkQueuesRow : OpenClaim := { program := "ytaflgioelblcgaa", sum := "a185e40e5e49b1b9637bc0b99aa9ce88904a90efbd6b68dd1d94f03142142346", func := "aqueduct/aqueductlaw01.ChunkQueues", spec := "chunkQueues", apart := false }
def ChunkQueuesSaid : Prop := chunkQueuesRow.holds Try.pinned (OpenSpec.ofChange chunkQueuesSpec)

/-- ITS FALSE NEIGHBOUR: 'it returns false'. Refute it at one input. -/
def chunkQueuesWrong : ChangeSpec := { name := "chunkQueues", fn := fun _ => fun
  | [d1, d2] => { results := [.lit (.bool false)], args := [d1, d2] }
  | _ => none }
def ChunkQueuesWrongFalsely : Prop := chunkQueuesRow.holds Try.pinned (OpenSpec.ofChange chunkQueuesWrong)

/-- 'aqueductlaw01.ChunkFull': WHATEVER THE INPUT: true; the input reads as it did. -/
def chunkFullSpec : ChangeSpec := { name := "chunkFull", fn := fun _ => fun
  | [d] => { results := [.lit (.bool true)], args := [d] }
  | _ => none }
def chunkFullRow : OpenClaim := { program := "ytaflgioelblcgaa", sum := "a185e40e5e49b1b9637bc0b99aa9ce88904a90efbd6b68dd1d94f03142142346", func := "aqueduct/aqueductlaw01.ChunkFull", spec := "chunkFull", apart := false }
def ChunkFullSaid : Prop := chunkFullRow.holds Try.pinned (OpenSpec.ofChange chunkFullSpec)

/-- ITS FALSE NEIGHBOUR: 'it returns false'. Refute it at one input. -/
def chunkFullWrong : ChangeSpec := { name := "chunkFull", fn := fun _ => fun
  | [d] => { results := [.lit (.bool false)], args := [d] }
  | _ => none }
def ChunkFullWrongFalsely : Prop := chunkFullRow.holds Try.pinned (OpenSpec.ofChange chunkFullWrong)

/-- 'aqueductlaw01.ChunkZero': WHATEVER THE INPUT: true; the input reads as it did. -/
def chunkZeroSpec : ChangeSpec := { name := "chunkZero", fn := fun _ => fun
  | [d1, d2] => { results := [.lit (.bool true)], args := [d1, d2] }
  | _ => none }
def chunkZeroRow : OpenClaim := { program := "ytaflgioelblcgaa", sum := "a185e40e5e49b1b9637bc0b99aa9ce88904a90efbd6b68dd1d94f03142142346", func := "aqueduct/aqueductlaw01.ChunkZero", spec := "chunkZero", apart := false }
def ChunkZeroSaid : Prop := chunkZeroRow.holds Try.pinned (OpenSpec.ofChange chunkZeroSpec)

/-- ITS FALSE NEIGHBOUR: 'it returns false'. Refute it at one input. -/
def chunkZeroWrong : ChangeSpec := { name := "chunkZero", fn := fun _ => fun
  | [d1, d2] => { results := [.lit (.bool false)], args := [d1, d2] }
  | _ => none }
def ChunkZeroWrongFalsely : Prop := chunkZeroRow.holds Try.pinned (OpenSpec.ofChange chunkZeroWrong)

/- THE SECOND FORM. 'bulk': how many values and letters a reading holds, each counted each time it is reached (what is shared counts as often as it is met; a slice's spare places count too). A statement '..UptoSaid' is the law's where the arguments, and the package variables that the reading takes, are together of bulk at most 1048576: NARROWER than '..Said'. Prove '..Said' where nothing that the law and all that it calls make is longer than what came in: it says more and counts as full. Else prove '..UptoSaid'. A law counts once. -/
mutual
def uptoBulk {H : Type} : DataW H → Nat
  | .lit (.string bytes) => bytes.length + 1
  | .lit _ => 1
  | .nil => 1
  | .ptr d => uptoBulk d + 1
  | .slice elems spare => uptoBulkAll elems + uptoBulkAll spare + 1
  | .agg parts => uptoBulkAll parts + 1
  | .iface _ d => uptoBulk d + 1
  | .map entries => uptoBulkEntries entries + 1
  | .held _ => 1
def uptoBulkAll {H : Type} : List (DataW H) → Nat
  | [] => 0
  | d :: r => uptoBulk d + uptoBulkAll r
def uptoBulkEntries {H : Type} : List (Lit × DataW H) → Nat
  | [] => 0
  | x :: r => uptoBulkEntry x + uptoBulkEntries r
def uptoBulkEntry {H : Type} : Lit × DataW H → Nat
  | (.string bytes, d) => bytes.length + uptoBulk d + 1
  | (_, d) => uptoBulk d + 1
 end
def uptoSmall : (H : Type) → List (DataW H) → Bool := fun _ ds => decide (uptoBulkAll ds ≤ 1048576)
def OpenSpec.upto (s : _root_.Go.ChangeSpec) : _root_.Go.OpenSpec := { _root_.Go.OpenSpec.ofChange s with cond := some uptoSmall }

/-- 'aqueductlaw01.ChunkRings', WHERE WHAT IT READS IS OF BULK AT MOST 1048576: true; the input reads as it did. -/
def chunkRingsUptoRow : OpenClaim := { program := "ytaflgioelblcgaa", sum := "a185e40e5e49b1b9637bc0b99aa9ce88904a90efbd6b68dd1d94f03142142346", func := "aqueduct/aqueductlaw01.ChunkRings", spec := "chunkRings", apart := false, narrowed := true }
def ChunkRingsUptoSaid : Prop := chunkRingsUptoRow.holds Try.pinned (OpenSpec.upto chunkRingsSpec)

/-- 'aqueductlaw01.ChunkOrder', WHERE WHAT IT READS IS OF BULK AT MOST 1048576: true; the input reads as it did. -/
def chunkOrderUptoRow : OpenClaim := { program := "ytaflgioelblcgaa", sum := "a185e40e5e49b1b9637bc0b99aa9ce88904a90efbd6b68dd1d94f03142142346", func := "aqueduct/aqueductlaw01.ChunkOrder", spec := "chunkOrder", apart := false, narrowed := true }
def ChunkOrderUptoSaid : Prop := chunkOrderUptoRow.holds Try.pinned (OpenSpec.upto chunkOrderSpec)

/-- 'aqueductlaw01.ChunkQueues', WHERE WHAT IT READS IS OF BULK AT MOST 1048576: true; the input reads as it did. -/
def chunkQueuesUptoRow : OpenClaim := { program := "ytaflgioelblcgaa", sum := "a185e40e5e49b1b9637bc0b99aa9ce88904a90efbd6b68dd1d94f03142142346", func := "aqueduct/aqueductlaw01.ChunkQueues", spec := "chunkQueues", apart := false, narrowed := true }
def ChunkQueuesUptoSaid : Prop := chunkQueuesUptoRow.holds Try.pinned (OpenSpec.upto chunkQueuesSpec)

/-- 'aqueductlaw01.ChunkFull', WHERE WHAT IT READS IS OF BULK AT MOST 1048576: true; the input reads as it did. -/
def chunkFullUptoRow : OpenClaim := { program := "ytaflgioelblcgaa", sum := "a185e40e5e49b1b9637bc0b99aa9ce88904a90efbd6b68dd1d94f03142142346", func := "aqueduct/aqueductlaw01.ChunkFull", spec := "chunkFull", apart := false, narrowed := true }
def ChunkFullUptoSaid : Prop := chunkFullUptoRow.holds Try.pinned (OpenSpec.upto chunkFullSpec)

/-- 'aqueductlaw01.ChunkZero', WHERE WHAT IT READS IS OF BULK AT MOST 1048576: true; the input reads as it did. -/
def chunkZeroUptoRow : OpenClaim := { program := "ytaflgioelblcgaa", sum := "a185e40e5e49b1b9637bc0b99aa9ce88904a90efbd6b68dd1d94f03142142346", func := "aqueduct/aqueductlaw01.ChunkZero", spec := "chunkZero", apart := false, narrowed := true }
def ChunkZeroUptoSaid : Prop := chunkZeroUptoRow.holds Try.pinned (OpenSpec.upto chunkZeroSpec)

end Rows
end Go.Proofs.Ytaflgioelblcgaa
