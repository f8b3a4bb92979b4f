/- Contract of the law's awake. -/
import Derived.Test.YtkipeifkfgbkeaaI1
namespace Go.Proofs.Ytkipeifkfgbkeaa
open Go.RowKit
set_option maxRecDepth 100000
set_option maxHeartbeats 4000000
set_option linter.unusedVariables false

theorem awake_bytes : putInt 0 5 1337 = [31, 154, 10] := by
  unfold putInt
  rw [if_neg (by decide), tailOf_more _ (by decide), tailOf_last _ (by decide)]
  decide
/-- Three bytes that a slice of one's own holds. -/
theorem Gath.three {w0 w : World} {v : Value} {x y z : UInt8} (h : Gath w0 w v [x, y, z]) : ∃ g off cap, v = .slice (some ⟨g, off, none⟩) 3 cap ∧ w.cell? ⟨g, off, none⟩ = some (.int .u8 x.toNat) ∧ w.cell? ⟨g, off + 1, none⟩ = some (.int .u8 y.toNat) ∧ w.cell? ⟨g, off + 2, none⟩ = some (.int .u8 z.toNat) := by
  obtain ⟨g, off, cap, e, h0, _⟩ := h.1.cells 0 (.int .u8 x.toNat) rfl
  obtain ⟨g1, off1, cap1, e1, h1, _⟩ := h.1.cells 1 (.int .u8 y.toNat) rfl
  obtain ⟨g2, off2, cap2, e2, h2, _⟩ := h.1.cells 2 (.int .u8 z.toNat) rfl
  rw [e] at e1 e2
  cases e1
  cases e2
  exact ⟨g, off, cap, e, h0, h1, h2⟩

end Go.Proofs.Ytkipeifkfgbkeaa
