/-
  No cell of these rows narrows 'for every input' (looked for: loops, veiled, ifaces, maps, wideKeys, modest, calm, conditions, laid).
  DERIVED. THE GIVEN ROWS OF THIS SEAT. 6 by the template 'for every input the law returns true; each argument reads behind the call as it read before'; 0 by the template 'total and deterministic' (their statements: YtmpknmcgljpfkaaTotals.lean).
  GIVEN WITH THE SEED: the statements are not yours to turn. If you find one false, say at which input.
  Laid BY PROGRAM, IN A SANDBOX (cutbox-rows.mjs): the forced cells as the released guide's own fill.sh prints them over the translation 6010d3c0012824d7… (all of the seat's roots in one cut). By AI agents, Wed Nov 11 2026. No macro, syntax, notation, axiom, sorry.
-/
import Derived.Test.YtmpknmcgljpfkaaChecked
import GoSem.Claim
import GoSem.ClaimJoined
import GoSem.ClaimMapViews
import Derived.JoinedTies
import Derived.KernelRfl
namespace Go.Proofs.Ytmpknmcgljpfkaa
/- THE CELL 'sum', in the pinned program and in every row, IS THE sha256 OF THE DUMP (.gsa) THAT YtmpknmcgljpfkaaProg.lean LOADS. Nothing in Lean hashes anything: it is a label: what it is worth is what the hold of that sum in a sandbox is worth. -/
noncomputable def Try.pinned : Pinned := { name := "ytmpknmcgljpfkaa", sum := "6010d3c0012824d709c5dcd7e815c11559f3137d48764b7f1f4a2e2d4575f251", checked := Try.checked }
namespace Rows
def none {H : Type} : Left H := { results := [], args := [] }

/-- 'aqueductlaw09.SettingChecks': WHATEVER THE INPUT: true; the input reads as it did. -/
def settingChecksSpec : ChangeSpec := { name := "settingChecks", fn := fun _ => fun
  | [d] => { results := [.lit (.bool true)], args := [d] }
  | _ => none }
def settingChecksRow : OpenClaim := { program := "ytmpknmcgljpfkaa", sum := "6010d3c0012824d709c5dcd7e815c11559f3137d48764b7f1f4a2e2d4575f251", func := "aqueduct/aqueductlaw09.SettingChecks", spec := "settingChecks", unfollowed := true, recurses := true, apart := false }
def SettingChecksSaid : Prop := settingChecksRow.holds Try.pinned (OpenSpec.ofChange settingChecksSpec)

/-- ITS FALSE NEIGHBOUR: 'it returns false'. Refute it at one input. -/
def settingChecksWrong : ChangeSpec := { name := "settingChecks", fn := fun _ => fun
  | [d] => { results := [.lit (.bool false)], args := [d] }
  | _ => none }
def SettingChecksWrongFalsely : Prop := settingChecksRow.holds Try.pinned (OpenSpec.ofChange settingChecksWrong)

/-- 'aqueductlaw09.SettingPlays': WHATEVER THE INPUT: true; the input reads as it did. -/
def settingPlaysSpec : ChangeSpec := { name := "settingPlays", fn := fun _ => fun
  | [d] => { results := [.lit (.bool true)], args := [d] }
  | _ => none }
def settingPlaysRow : OpenClaim := { program := "ytmpknmcgljpfkaa", sum := "6010d3c0012824d709c5dcd7e815c11559f3137d48764b7f1f4a2e2d4575f251", func := "aqueduct/aqueductlaw09.SettingPlays", spec := "settingPlays", unfollowed := true, recurses := true, apart := false }
def SettingPlaysSaid : Prop := settingPlaysRow.holds Try.pinned (OpenSpec.ofChange settingPlaysSpec)

/-- ITS FALSE NEIGHBOUR: 'it returns false'. Refute it at one input. -/
def settingPlaysWrong : ChangeSpec := { name := "settingPlays", fn := fun _ => fun
  | [d] => { results := [.lit (.bool false)], args := [d] }
  | _ => none }
def SettingPlaysWrongFalsely : Prop := settingPlaysRow.holds Try.pinned (OpenSpec.ofChange settingPlaysWrong)

/-- 'aqueductlaw09.SettingValues': WHATEVER THE INPUT: true; the input reads as it did. -/
def settingValuesSpec : ChangeSpec := { name := "settingValues", fn := fun _ => fun
  | [d] => { results := [.lit (.bool true)], args := [d] }
  | _ => none }
def settingValuesRow : OpenClaim := { program := "ytmpknmcgljpfkaa", sum := "6010d3c0012824d709c5dcd7e815c11559f3137d48764b7f1f4a2e2d4575f251", func := "aqueduct/aqueductlaw09.SettingValues", spec := "settingValues", unfollowed := true, recurses := true, apart := false }
def SettingValuesSaid : Prop := settingValuesRow.holds Try.pinned (OpenSpec.ofChange settingValuesSpec)

/-- ITS FALSE NEIGHBOUR: 'it returns false'. Refute it at one input. -/
def settingValuesWrong : ChangeSpec := { name := "settingValues", fn := fun _ => fun
  | [d] => { results := [.lit (.bool false)], args := [d] }
  | _ => none }
def SettingValuesWrongFalsely : Prop := settingValuesRow.holds Try.pinned (OpenSpec.ofChange settingValuesWrong)

/-- 'aqueductlaw09.SettingParts': WHATEVER THE INPUT: true; the input reads as it did. -/
def settingPartsSpec : ChangeSpec := { name := "settingParts", fn := fun _ => fun
  | [d] => { results := [.lit (.bool true)], args := [d] }
  | _ => none }
def settingPartsRow : OpenClaim := { program := "ytmpknmcgljpfkaa", sum := "6010d3c0012824d709c5dcd7e815c11559f3137d48764b7f1f4a2e2d4575f251", func := "aqueduct/aqueductlaw09.SettingParts", spec := "settingParts", unfollowed := true, recurses := true, apart := false }
def SettingPartsSaid : Prop := settingPartsRow.holds Try.pinned (OpenSpec.ofChange settingPartsSpec)

/-- ITS FALSE NEIGHBOUR: 'it returns false'. Refute it at one input. -/
def settingPartsWrong : ChangeSpec := { name := "settingParts", fn := fun _ => fun
  | [d] => { results := [.lit (.bool false)], args := [d] }
  | _ => none }
def SettingPartsWrongFalsely : Prop := settingPartsRow.holds Try.pinned (OpenSpec.ofChange settingPartsWrong)

/-- 'aqueductlaw09.SettingZero': WHATEVER THE INPUT: true; the input reads as it did. -/
def settingZeroSpec : ChangeSpec := { name := "settingZero", fn := fun _ => fun
  | [d1, d2] => { results := [.lit (.bool true)], args := [d1, d2] }
  | _ => none }
def settingZeroRow : OpenClaim := { program := "ytmpknmcgljpfkaa", sum := "6010d3c0012824d709c5dcd7e815c11559f3137d48764b7f1f4a2e2d4575f251", func := "aqueduct/aqueductlaw09.SettingZero", spec := "settingZero", unfollowed := true, recurses := true, apart := false }
def SettingZeroSaid : Prop := settingZeroRow.holds Try.pinned (OpenSpec.ofChange settingZeroSpec)

/-- ITS FALSE NEIGHBOUR: 'it returns false'. Refute it at one input. -/
def settingZeroWrong : ChangeSpec := { name := "settingZero", fn := fun _ => fun
  | [d1, d2] => { results := [.lit (.bool false)], args := [d1, d2] }
  | _ => none }
def SettingZeroWrongFalsely : Prop := settingZeroRow.holds Try.pinned (OpenSpec.ofChange settingZeroWrong)

/-- 'aqueductlaw09.SettingAcks': WHATEVER THE INPUT: true; the input reads as it did. -/
def settingAcksSpec : ChangeSpec := { name := "settingAcks", fn := fun _ => fun
  | [d] => { results := [.lit (.bool true)], args := [d] }
  | _ => none }
def settingAcksRow : OpenClaim := { program := "ytmpknmcgljpfkaa", sum := "6010d3c0012824d709c5dcd7e815c11559f3137d48764b7f1f4a2e2d4575f251", func := "aqueduct/aqueductlaw09.SettingAcks", spec := "settingAcks", apart := false }
def SettingAcksSaid : Prop := settingAcksRow.holds Try.pinned (OpenSpec.ofChange settingAcksSpec)

/-- ITS FALSE NEIGHBOUR: 'it returns false'. Refute it at one input. -/
def settingAcksWrong : ChangeSpec := { name := "settingAcks", fn := fun _ => fun
  | [d] => { results := [.lit (.bool false)], args := [d] }
  | _ => none }
def SettingAcksWrongFalsely : Prop := settingAcksRow.holds Try.pinned (OpenSpec.ofChange settingAcksWrong)

/- THE SECOND FORM. 'bulk': how many values and letters a reading holds, each counted each time it is reached (what is shared counts as often as it is met; a slice's spare places count too). A statement '..UptoSaid' is the law's where the arguments, and the package variables that the reading takes, are together of bulk at most 1048576: NARROWER than '..Said'. Prove '..Said' where nothing that the law and all that it calls make is longer than what came in: it says more and counts as full. Else prove '..UptoSaid'. A law counts once. -/
mutual
def uptoBulk {H : Type} : DataW H → Nat
  | .lit (.string bytes) => bytes.length + 1
  | .lit _ => 1
  | .nil => 1
  | .ptr d => uptoBulk d + 1
  | .slice elems spare => uptoBulkAll elems + uptoBulkAll spare + 1
  | .agg parts => uptoBulkAll parts + 1
  | .iface _ d => uptoBulk d + 1
  | .map entries => uptoBulkEntries entries + 1
  | .held _ => 1
def uptoBulkAll {H : Type} : List (DataW H) → Nat
  | [] => 0
  | d :: r => uptoBulk d + uptoBulkAll r
def uptoBulkEntries {H : Type} : List (Lit × DataW H) → Nat
  | [] => 0
  | x :: r => uptoBulkEntry x + uptoBulkEntries r
def uptoBulkEntry {H : Type} : Lit × DataW H → Nat
  | (.string bytes, d) => bytes.length + uptoBulk d + 1
  | (_, d) => uptoBulk d + 1
 end
def uptoSmall : (H : Type) → List (DataW H) → Bool := fun _ ds => decide (uptoBulkAll ds ≤ 1048576)
def OpenSpec.upto (s : _root_.Go.ChangeSpec) : _root_.Go.OpenSpec := { _root_.Go.OpenSpec.ofChange s with cond := some uptoSmall }

/-- 'aqueductlaw09.SettingChecks', WHERE WHAT IT READS IS OF BULK AT MOST 1048576: true; the input reads as it did. -/
def settingChecksUptoRow : OpenClaim := { program := "ytmpknmcgljpfkaa", sum := "6010d3c0012824d709c5dcd7e815c11559f3137d48764b7f1f4a2e2d4575f251", func := "aqueduct/aqueductlaw09.SettingChecks", spec := "settingChecks", unfollowed := true, recurses := true, apart := false, narrowed := true }
def SettingChecksUptoSaid : Prop := settingChecksUptoRow.holds Try.pinned (OpenSpec.upto settingChecksSpec)

/-- 'aqueductlaw09.SettingPlays', WHERE WHAT IT READS IS OF BULK AT MOST 1048576: true; the input reads as it did. -/
def settingPlaysUptoRow : OpenClaim := { program := "ytmpknmcgljpfkaa", sum := "6010d3c0012824d709c5dcd7e815c11559f3137d48764b7f1f4a2e2d4575f251", func := "aqueduct/aqueductlaw09.SettingPlays", spec := "settingPlays", unfollowed := true, recurses := true, apart := false, narrowed := true }
def SettingPlaysUptoSaid : Prop := settingPlaysUptoRow.holds Try.pinned (OpenSpec.upto settingPlaysSpec)

/-- 'aqueductlaw09.SettingValues', WHERE WHAT IT READS IS OF BULK AT MOST 1048576: true; the input reads as it did. -/
def settingValuesUptoRow : OpenClaim := { program := "ytmpknmcgljpfkaa", sum := "6010d3c0012824d709c5dcd7e815c11559f3137d48764b7f1f4a2e2d4575f251", func := "aqueduct/aqueductlaw09.SettingValues", spec := "settingValues", unfollowed := true, recurses := true, apart := false, narrowed := true }
def SettingValuesUptoSaid : Prop := settingValuesUptoRow.holds Try.pinned (OpenSpec.upto settingValuesSpec)

/-- 'aqueductlaw09.SettingParts', WHERE WHAT IT READS IS OF BULK AT MOST 1048576: true; the input reads as it did. -/
def settingPartsUptoRow : OpenClaim := { program := "ytmpknmcgljpfkaa", sum := "6010d3c0012824d709c5dcd7e815c11559f3137d48764b7f1f4a2e2d4575f251", func := "aqueduct/aqueductlaw09.SettingParts", spec := "settingParts", unfollowed := true, recurses := true, apart := false, narrowed := true }
def SettingPartsUptoSaid : Prop := settingPartsUptoRow.holds Try.pinned (OpenSpec.upto settingPartsSpec)

/-- 'aqueductlaw09.SettingZero', WHERE WHAT IT READS IS OF BULK AT MOST 1048576: true; the input reads as it did. -/
def settingZeroUptoRow : OpenClaim := { program := "ytmpknmcgljpfkaa", sum := "6010d3c0012824d709c5dcd7e815c11559f3137d48764b7f1f4a2e2d4575f251", func := "aqueduct/aqueductlaw09.SettingZero", spec := "settingZero", unfollowed := true, recurses := true, apart := false, narrowed := true }
def SettingZeroUptoSaid : Prop := settingZeroUptoRow.holds Try.pinned (OpenSpec.upto settingZeroSpec)

/-- 'aqueductlaw09.SettingAcks', WHERE WHAT IT READS IS OF BULK AT MOST 1048576: true; the input reads as it did. -/
def settingAcksUptoRow : OpenClaim := { program := "ytmpknmcgljpfkaa", sum := "6010d3c0012824d709c5dcd7e815c11559f3137d48764b7f1f4a2e2d4575f251", func := "aqueduct/aqueductlaw09.SettingAcks", spec := "settingAcks", apart := false, narrowed := true }
def SettingAcksUptoSaid : Prop := settingAcksUptoRow.holds Try.pinned (OpenSpec.upto settingAcksSpec)

end Rows
end Go.Proofs.Ytmpknmcgljpfkaa
