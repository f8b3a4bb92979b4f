/- Ints. -/
import Derived.WalkKit
namespace Go.Proofs.Ytoiencoojkahmaa
open Go.RowKit
set_option linter.unusedVariables false

/-- An int. -/
def IsI (k : Int) : Prop := -9223372036854775808 ≤ k ∧ k ≤ 9223372036854775807
theorem IsI.wf {k : Int} (h : IsI k) : (Lit.int .i64 k).wf = true := WalkArith.wf_i64 h
theorem IsI.of {k : Int} (h : (Lit.int .i64 k).wf = true) : IsI k := by
  simp [Lit.wf, IntKind.min, IntKind.max, IntKind.bits, IntKind.signed] at h
  unfold IsI
  omega
end Go.Proofs.Ytoiencoojkahmaa
