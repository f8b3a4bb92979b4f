/- awake. -/
import Derived.Test.YtpnbpglmcaglfaaT5
namespace Go.Proofs.Ytpnbpglmcaglfaa
open Go.RowKit
set_option maxRecDepth 100000
set_option maxHeartbeats 4000000
set_option linter.unusedVariables false

theorem awake_in (w : World) : Calls Try.prog 11 #[] w fun e w' => e = .returned (.bool true) ∧ Below w.heap.size w w' := by
  have K := Static_in 2 w
  have e1 : stN 2 = ⟨#[58, 109, 101, 116, 104, 111, 100]⟩ := by decide +kernel
  have e2 : stV 2 = ⟨#[71, 69, 84]⟩ := by decide +kernel
  have e3 : stE 2 = 0 := by decide +kernel
  rw [e1, e2, e3] at K
  go_enter Try.func11, Try.ntmps11
  go_wp2_with (go_at_call 9; refine K.mono ?_; clear K; rintro e w' ⟨rfl, hb⟩)
  go_ret
  exact ⟨rfl, hb.alloc hb.size _⟩
end Go.Proofs.Ytpnbpglmcaglfaa
