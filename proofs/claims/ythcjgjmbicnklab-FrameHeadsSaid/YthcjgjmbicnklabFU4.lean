/- Contracts of what puts a number, of the program and of the document. -/
import Derived.Test.YthcjgjmbicnklabFU3
namespace Go.Proofs.Ythcjgjmbicnklab
open Go.RowKit
set_option linter.unusedVariables false

/-- What is put: the error and the bytes. -/
def putOut (n : Nat) (bound v : Int) : Int × List UInt8 := if v < 0 ∨ bound ≤ v then (1, []) else (0, be n v.toNat)

/-- The answer of a call that puts. -/
def PutsAs (w : World) (o : Int × List UInt8) (e : Ending) (w' : World) : Prop := ∃ sp l, e = .returned (.tuple #[.slice sp l l, .int .i64 o.1]) ∧ o.2.length = l ∧ New w w' sp o.2

end Go.Proofs.Ythcjgjmbicnklab
