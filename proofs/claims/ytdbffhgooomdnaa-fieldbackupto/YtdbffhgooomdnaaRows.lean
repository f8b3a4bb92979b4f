/-
  No cell of these rows narrows 'for every input' (looked for: loops, veiled, ifaces, maps, wideKeys, modest, calm, conditions, laid).
  DERIVED. THE GIVEN ROWS OF THIS SEAT. 5 by the template 'for every input the law returns true; each argument reads behind the call as it read before'; 0 by the template 'total and deterministic' (their statements: YtdbffhgooomdnaaTotals.lean).
  GIVEN WITH THE SEED: the statements are not yours to turn. If you find one false, say at which input.
  Laid BY PROGRAM, IN A SANDBOX (cutbox-rows.mjs): the forced cells as the released guide's own fill.sh prints them over the translation 915e724eb6daf825… (all of the seat's roots in one cut). By AI agents, Wed Nov 11 2026. No macro, syntax, notation, axiom, sorry.
-/
import Derived.Test.YtdbffhgooomdnaaChecked
import GoSem.Claim
import GoSem.ClaimJoined
import GoSem.ClaimMapViews
import Derived.JoinedTies
import Derived.KernelRfl
namespace Go.Proofs.Ytdbffhgooomdnaa
/- THE CELL 'sum', in the pinned program and in every row, IS THE sha256 OF THE DUMP (.gsa) THAT YtdbffhgooomdnaaProg.lean LOADS. Nothing in Lean hashes anything: it is a label: what it is worth is what the hold of that sum in a sandbox is worth. -/
noncomputable def Try.pinned : Pinned := { name := "ytdbffhgooomdnaa", sum := "915e724eb6daf825b21eac35ded8e9890e9c24a5edc893337a233179ff873cf2", checked := Try.checked }
namespace Rows
def none {H : Type} : Left H := { results := [], args := [] }

/-- 'aqueductlaw02.FieldShorts': WHATEVER THE INPUT: true; the input reads as it did. -/
def fieldShortsSpec : ChangeSpec := { name := "fieldShorts", fn := fun _ => fun
  | [d1, d2, d3] => { results := [.lit (.bool true)], args := [d1, d2, d3] }
  | _ => none }
def fieldShortsRow : OpenClaim := { program := "ytdbffhgooomdnaa", sum := "915e724eb6daf825b21eac35ded8e9890e9c24a5edc893337a233179ff873cf2", func := "aqueduct/aqueductlaw02.FieldShorts", spec := "fieldShorts", apart := false }
def FieldShortsSaid : Prop := fieldShortsRow.holds Try.pinned (OpenSpec.ofChange fieldShortsSpec)

/-- ITS FALSE NEIGHBOUR: 'it returns false'. Refute it at one input. -/
def fieldShortsWrong : ChangeSpec := { name := "fieldShorts", fn := fun _ => fun
  | [d1, d2, d3] => { results := [.lit (.bool false)], args := [d1, d2, d3] }
  | _ => none }
def FieldShortsWrongFalsely : Prop := fieldShortsRow.holds Try.pinned (OpenSpec.ofChange fieldShortsWrong)

/-- 'aqueductlaw02.FieldThrees': WHATEVER THE INPUT: true; the input reads as it did. -/
def fieldThreesSpec : ChangeSpec := { name := "fieldThrees", fn := fun _ => fun
  | [d1, d2, d3] => { results := [.lit (.bool true)], args := [d1, d2, d3] }
  | _ => none }
def fieldThreesRow : OpenClaim := { program := "ytdbffhgooomdnaa", sum := "915e724eb6daf825b21eac35ded8e9890e9c24a5edc893337a233179ff873cf2", func := "aqueduct/aqueductlaw02.FieldThrees", spec := "fieldThrees", apart := false }
def FieldThreesSaid : Prop := fieldThreesRow.holds Try.pinned (OpenSpec.ofChange fieldThreesSpec)

/-- ITS FALSE NEIGHBOUR: 'it returns false'. Refute it at one input. -/
def fieldThreesWrong : ChangeSpec := { name := "fieldThrees", fn := fun _ => fun
  | [d1, d2, d3] => { results := [.lit (.bool false)], args := [d1, d2, d3] }
  | _ => none }
def FieldThreesWrongFalsely : Prop := fieldThreesRow.holds Try.pinned (OpenSpec.ofChange fieldThreesWrong)

/-- 'aqueductlaw02.FieldWords': WHATEVER THE INPUT: true; the input reads as it did. -/
def fieldWordsSpec : ChangeSpec := { name := "fieldWords", fn := fun _ => fun
  | [d1, d2, d3] => { results := [.lit (.bool true)], args := [d1, d2, d3] }
  | _ => none }
def fieldWordsRow : OpenClaim := { program := "ytdbffhgooomdnaa", sum := "915e724eb6daf825b21eac35ded8e9890e9c24a5edc893337a233179ff873cf2", func := "aqueduct/aqueductlaw02.FieldWords", spec := "fieldWords", apart := false }
def FieldWordsSaid : Prop := fieldWordsRow.holds Try.pinned (OpenSpec.ofChange fieldWordsSpec)

/-- ITS FALSE NEIGHBOUR: 'it returns false'. Refute it at one input. -/
def fieldWordsWrong : ChangeSpec := { name := "fieldWords", fn := fun _ => fun
  | [d1, d2, d3] => { results := [.lit (.bool false)], args := [d1, d2, d3] }
  | _ => none }
def FieldWordsWrongFalsely : Prop := fieldWordsRow.holds Try.pinned (OpenSpec.ofChange fieldWordsWrong)

/-- 'aqueductlaw02.FieldFulls': WHATEVER THE INPUT: true; the input reads as it did. -/
def fieldFullsSpec : ChangeSpec := { name := "fieldFulls", fn := fun _ => fun
  | [d1, d2, d3] => { results := [.lit (.bool true)], args := [d1, d2, d3] }
  | _ => none }
def fieldFullsRow : OpenClaim := { program := "ytdbffhgooomdnaa", sum := "915e724eb6daf825b21eac35ded8e9890e9c24a5edc893337a233179ff873cf2", func := "aqueduct/aqueductlaw02.FieldFulls", spec := "fieldFulls", apart := false }
def FieldFullsSaid : Prop := fieldFullsRow.holds Try.pinned (OpenSpec.ofChange fieldFullsSpec)

/-- ITS FALSE NEIGHBOUR: 'it returns false'. Refute it at one input. -/
def fieldFullsWrong : ChangeSpec := { name := "fieldFulls", fn := fun _ => fun
  | [d1, d2, d3] => { results := [.lit (.bool false)], args := [d1, d2, d3] }
  | _ => none }
def FieldFullsWrongFalsely : Prop := fieldFullsRow.holds Try.pinned (OpenSpec.ofChange fieldFullsWrong)

/-- 'aqueductlaw02.FieldBack': WHATEVER THE INPUT: true; the input reads as it did. -/
def fieldBackSpec : ChangeSpec := { name := "fieldBack", fn := fun _ => fun
  | [d1, d2, d3] => { results := [.lit (.bool true)], args := [d1, d2, d3] }
  | _ => none }
def fieldBackRow : OpenClaim := { program := "ytdbffhgooomdnaa", sum := "915e724eb6daf825b21eac35ded8e9890e9c24a5edc893337a233179ff873cf2", func := "aqueduct/aqueductlaw02.FieldBack", spec := "fieldBack", apart := false }
def FieldBackSaid : Prop := fieldBackRow.holds Try.pinned (OpenSpec.ofChange fieldBackSpec)

/-- ITS FALSE NEIGHBOUR: 'it returns false'. Refute it at one input. -/
def fieldBackWrong : ChangeSpec := { name := "fieldBack", fn := fun _ => fun
  | [d1, d2, d3] => { results := [.lit (.bool false)], args := [d1, d2, d3] }
  | _ => none }
def FieldBackWrongFalsely : Prop := fieldBackRow.holds Try.pinned (OpenSpec.ofChange fieldBackWrong)

/- THE SECOND FORM. 'bulk': how many values and letters a reading holds, each counted each time it is reached (what is shared counts as often as it is met; a slice's spare places count too). A statement '..UptoSaid' is the law's where the arguments, and the package variables that the reading takes, are together of bulk at most 1048576: NARROWER than '..Said'. Prove '..Said' where nothing that the law and all that it calls make is longer than what came in: it says more and counts as full. Else prove '..UptoSaid'. A law counts once. -/
mutual
def uptoBulk {H : Type} : DataW H → Nat
  | .lit (.string bytes) => bytes.length + 1
  | .lit _ => 1
  | .nil => 1
  | .ptr d => uptoBulk d + 1
  | .slice elems spare => uptoBulkAll elems + uptoBulkAll spare + 1
  | .agg parts => uptoBulkAll parts + 1
  | .iface _ d => uptoBulk d + 1
  | .map entries => uptoBulkEntries entries + 1
  | .held _ => 1
def uptoBulkAll {H : Type} : List (DataW H) → Nat
  | [] => 0
  | d :: r => uptoBulk d + uptoBulkAll r
def uptoBulkEntries {H : Type} : List (Lit × DataW H) → Nat
  | [] => 0
  | x :: r => uptoBulkEntry x + uptoBulkEntries r
def uptoBulkEntry {H : Type} : Lit × DataW H → Nat
  | (.string bytes, d) => bytes.length + uptoBulk d + 1
  | (_, d) => uptoBulk d + 1
 end
def uptoSmall : (H : Type) → List (DataW H) → Bool := fun _ ds => decide (uptoBulkAll ds ≤ 1048576)
def OpenSpec.upto (s : _root_.Go.ChangeSpec) : _root_.Go.OpenSpec := { _root_.Go.OpenSpec.ofChange s with cond := some uptoSmall }

/-- 'aqueductlaw02.FieldShorts', WHERE WHAT IT READS IS OF BULK AT MOST 1048576: true; the input reads as it did. -/
def fieldShortsUptoRow : OpenClaim := { program := "ytdbffhgooomdnaa", sum := "915e724eb6daf825b21eac35ded8e9890e9c24a5edc893337a233179ff873cf2", func := "aqueduct/aqueductlaw02.FieldShorts", spec := "fieldShorts", apart := false, narrowed := true }
def FieldShortsUptoSaid : Prop := fieldShortsUptoRow.holds Try.pinned (OpenSpec.upto fieldShortsSpec)

/-- 'aqueductlaw02.FieldThrees', WHERE WHAT IT READS IS OF BULK AT MOST 1048576: true; the input reads as it did. -/
def fieldThreesUptoRow : OpenClaim := { program := "ytdbffhgooomdnaa", sum := "915e724eb6daf825b21eac35ded8e9890e9c24a5edc893337a233179ff873cf2", func := "aqueduct/aqueductlaw02.FieldThrees", spec := "fieldThrees", apart := false, narrowed := true }
def FieldThreesUptoSaid : Prop := fieldThreesUptoRow.holds Try.pinned (OpenSpec.upto fieldThreesSpec)

/-- 'aqueductlaw02.FieldWords', WHERE WHAT IT READS IS OF BULK AT MOST 1048576: true; the input reads as it did. -/
def fieldWordsUptoRow : OpenClaim := { program := "ytdbffhgooomdnaa", sum := "915e724eb6daf825b21eac35ded8e9890e9c24a5edc893337a233179ff873cf2", func := "aqueduct/aqueductlaw02.FieldWords", spec := "fieldWords", apart := false, narrowed := true }
def FieldWordsUptoSaid : Prop := fieldWordsUptoRow.holds Try.pinned (OpenSpec.upto fieldWordsSpec)

/-- 'aqueductlaw02.FieldFulls', WHERE WHAT IT READS IS OF BULK AT MOST 1048576: true; the input reads as it did. -/
def fieldFullsUptoRow : OpenClaim := { program := "ytdbffhgooomdnaa", sum := "915e724eb6daf825b21eac35ded8e9890e9c24a5edc893337a233179ff873cf2", func := "aqueduct/aqueductlaw02.FieldFulls", spec := "fieldFulls", apart := false, narrowed := true }
def FieldFullsUptoSaid : Prop := fieldFullsUptoRow.holds Try.pinned (OpenSpec.upto fieldFullsSpec)

/-- 'aqueductlaw02.FieldBack', WHERE WHAT IT READS IS OF BULK AT MOST 1048576: true; the input reads as it did. -/
def fieldBackUptoRow : OpenClaim := { program := "ytdbffhgooomdnaa", sum := "915e724eb6daf825b21eac35ded8e9890e9c24a5edc893337a233179ff873cf2", func := "aqueduct/aqueductlaw02.FieldBack", spec := "fieldBack", apart := false, narrowed := true }
def FieldBackUptoSaid : Prop := fieldBackUptoRow.holds Try.pinned (OpenSpec.upto fieldBackSpec)

end Rows
end Go.Proofs.Ytdbffhgooomdnaa
