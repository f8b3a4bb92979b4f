/- Trailers of both. -/
import Derived.Test.YtplggcfoadjffaaDoorOn
import Derived.Test.YtplggcfoadjffaaDoorOr
namespace Go.Proofs.YtplggcfoadjffaaDoor
open Go.RowKit Go.Maps
set_option linter.unusedVariables false
set_option maxRecDepth 100000
set_option maxHeartbeats 8000000

theorem strs_none (w : World) : StrsAt w none [] := ⟨by simp, fun r z hr => by simp at hr⟩
theorem Trailers_in (q : Option Addr) (c : Nat) (l : List Hd) (w : World) (hl : HL w q c l) :
    Calls Tryd.prog 13 #[.slice q l.length c] w fun e w' => e = .returned (.int .i64 (trailersO l)) ∧ Fr (fun _ => False) w w' := by
  have KL : Calls Tryd.prog 20 #[.slice q l.length c, .slice none 0 0] w fun e w' => LookAs w [] l e w' := look_in q none c 0 l [] w hl (strs_none w)
  have KL2 : Calls Tryd.prog 20 #[.slice q l.length c, .slice none 0 0] w fun e w' => (∃ m, e = .returned (.tuple #[m, .int .i64 (trailersO l)])) ∧ Fr (fun _ => False) w w' := KL.mono fun e w' h => by
    obtain ⟨h1, h2 | ⟨h2, b, n, h3, _⟩⟩ := h
    · exact ⟨⟨_, h2.2⟩, h1⟩
    · exact ⟨⟨_, by rw [h3]; unfold trailersO; rw [h2]⟩, h1⟩
  generalize trailersO l = V at KL2 ⊢
  generalize l.length = len at KL2 ⊢
  clear KL hl
  go_enter Tryd.func13, Tryd.ntmps13
  go_wp2_with (fail)
  refine KL2.mono ?_
  rintro e w1 ⟨⟨m, rfl⟩, f1⟩
  go_wp2_with (fail)
  go_ret
  exact ⟨rfl, f1⟩
theorem rTrailers_in (q : Option Addr) (c : Nat) (l : List Hd) (w : World) (hl : HL w q c l) :
    Calls Tryd.prog 15 #[.slice q l.length c] w fun e w' => e = .returned (.int .i64 (trailersO l)) ∧ Fr (fun _ => False) w w' := by
  have KL : Calls Tryd.prog 21 #[.slice q l.length c, .slice none 0 0] w fun e w' => e = .returned (.int .i64 (trailersO l)) ∧ Fr (fun _ => False) w w' := each_in q none c 0 l [] w hl (strs_none w)
  generalize trailersO l = V at KL ⊢
  generalize l.length = len at KL ⊢
  clear hl
  go_enter Tryd.func15, Tryd.ntmps15
  go_wp2_with (fail)
  refine KL.mono ?_
  rintro e w1 ⟨rfl, f1⟩
  go_wp2_with (fail)
  go_ret
  exact ⟨rfl, f1⟩
end Go.Proofs.YtplggcfoadjffaaDoor
