/- Contract of the document's Code (aqueductref03.Code). -/
import Derived.Test.YtcmdhdpedonihaaR2
namespace Go.Proofs.Ytcmdhdpedonihaa
open Go.RowKit
set_option maxRecDepth 100000
set_option maxHeartbeats 4000000
set_option linter.unusedVariables false

/-- What Code answers. -/
def codeAns (s : Int) : Nat × Nat × Nat := if 0 ≤ s ∧ s ≤ 256 then ((codeOf s.toNat).1, (codeOf s.toNat).2, 0) else (0, 0, 1)
def codeVal (s : Int) : Value := .tuple #[.int .u32 (codeAns s).1, .int .i64 (codeAns s).2.1, .int .i64 (codeAns s).2.2]
/-- The symbol is in none of the first k rows. -/
def NotIn (s : Int) (k : Nat) : Prop := ∀ k' j s' : Nat, k' < k → (tblR.getD k' (0, [])).2[j]? = some s' → (s' : Int) ≠ s
theorem codeVal_hit (s : Nat) (x n : Nat) (h : s ≤ 256) (hc : codeOf s = (x, n)) : codeVal (s : Int) = .tuple #[.int .u32 x, .int .i64 n, .int .i64 0] := by
  simp [codeVal, codeAns, hc, show (s : Int) ≤ 256 by omega]
theorem codeVal_miss (s : Int) (h : NotIn s 21) : codeVal s = .tuple #[.int .u32 0, .int .i64 0, .int .i64 1] := by
  have : ¬ (0 ≤ s ∧ s ≤ 256) := by
    rintro ⟨h1, h2⟩
    obtain ⟨k, j, hk, hj⟩ := in_some s.toNat (by omega)
    exact h k j s.toNat hk hj (by omega)
  simp [codeVal, codeAns, this]

end Go.Proofs.Ytcmdhdpedonihaa
