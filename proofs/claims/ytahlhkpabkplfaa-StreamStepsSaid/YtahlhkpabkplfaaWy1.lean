/- The walk of StreamSteps. -/
import Derived.Test.YtahlhkpabkplfaaYb
namespace Go.Proofs.Ytahlhkpabkplfaa
open Go.RowKit
set_option linter.unusedVariables false
set_option maxRecDepth 100000
set_option maxHeartbeats 4000000

theorem steps_walk (st wh : Int) (w : World) : Calls Try.prog 3 #[.int .i64 st, .int .i64 wh] w fun e w' => e = .returned (.bool true) ∧ Below w.heap.size w w' := by
  have K1 := yStep_in st wh w
  have K2 := fun w => ryStep_in st wh w
  unfold stepV at K1 K2
  obtain ⟨⟨n, k, c, er⟩, hs⟩ : ∃ s, stepO st wh = s := ⟨_, rfl⟩
  rw [hs] at K1 K2
  dsimp only at K1 K2
  clear hs
  go_enter Try.func3, Try.ntmps3
  go_wp2_with (first | (go_at_call 9; refine K1.mono ?_; clear K1; rintro e w1 ⟨rfl, hf1⟩) | (go_at_call 10; refine (K2 _).mono ?_; clear K2; rintro e w2 ⟨rfl, hf2⟩) | (go_at_call 11; refine (yawake_in _).mono ?_; rintro e w3 ⟨rfl, hf3⟩))
  go_ret
  exact ⟨rfl, ((hf1.trans hf2).trans hf3).below (fun _ _ => id)⟩
end Go.Proofs.Ytahlhkpabkplfaa
