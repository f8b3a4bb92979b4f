/- Whether two lists are the same; awake; which requests may be sent again. -/
import Derived.Test.YtplggcfoadjffabGreatDoorXn
namespace Go.Proofs.YtplggcfoadjffabGreatDoor
open Go.RowKit
set_option linter.unusedVariables false
set_option maxRecDepth 100000
set_option maxHeartbeats 4000000

theorem awake14_in (w : World) (hP : PowAt w) : Calls Tryz.prog 6 #[] w fun e w' => e = .returned (.bool true) ∧ Fr (fun _ => False) w w' := by
  have K := plain_in 502 w hP (by decide) (by decide)
  have hs : mkS (statL 502) = ⟨#[53, 48, 50]⟩ := by decide
  rw [hs] at K
  go_enter Tryz.func6, Tryz.ntmps6
  go_wp2_with (fail)
  refine K.mono ?_
  rintro e w1 ⟨g, rfl, hl, f1⟩
  have HF1 : Hid (Fr (fun _ => False) w w1) := f1
  obtain ⟨b, o, e1, hb, c0, c1, c2, -⟩ := hl.cells 0 _ rfl
  cases e1
  dsimp only at c0 c1 c2
  simp only [Nat.zero_mul, Nat.add_zero, Nat.zero_add] at c0 c1 c2
  unfold statusS at c0
  clear f1 K hl
  go_wp2_with (fail)
  go_ret
  exact ⟨rfl, HF1.out⟩
end Go.Proofs.YtplggcfoadjffabGreatDoor
