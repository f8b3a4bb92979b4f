/- Models that nobody made; the walk of HealthZero. -/
import Derived.Test.YtdjmgfdobjgniaaEd
namespace Go.Proofs.Ytdjmgfdobjgniaa
open Go.RowKit
set_option linter.unusedVariables false
set_option maxRecDepth 100000
set_option maxHeartbeats 4000000

/-- What is asked of a model that nobody made. -/
def NotMade (p : Option Addr) (w : World) : Prop := Calls Try.prog 24 #[.pointer p] w fun e w' => e = .returned (.bool false) ∧ w = w'
theorem eProbe_none (p : Option Addr) (b : Bool) (w : World) (K0 : NotMade p w) : Calls Try.prog 13 #[.pointer p, .bool b] w fun e w' => e = .returned (.int .i64 7) ∧ w = w' := by
  cases b
  · have K := etake_none 23 p w K0
    clear K0
    go_enter Try.func13, Try.ntmps13
    go_wp2_with (go_at_call 20; refine K.mono ?_; clear K; rintro e w' ⟨rfl, rfl⟩)
    go_ret
    exact ⟨rfl, rfl⟩
  · have K := etake_none 22 p w K0
    clear K0
    go_enter Try.func13, Try.ntmps13
    go_wp2_with (go_at_call 20; refine K.mono ?_; clear K; rintro e w' ⟨rfl, rfl⟩)
    go_ret
    exact ⟨rfl, rfl⟩
theorem eTick_none (p : Option Addr) (w : World) (K0 : NotMade p w) : Calls Try.prog 11 #[.pointer p] w fun e w' => e = .returned (.int .i64 7) ∧ w = w' := by
  have K := etake_none 21 p w K0
  clear K0
  go_enter Try.func11, Try.ntmps11
  go_wp2_with (go_at_call 20; refine K.mono ?_; clear K; rintro e w' ⟨rfl, rfl⟩)
  go_ret
  exact ⟨rfl, rfl⟩
theorem eUp_none (p : Option Addr) (w : World) (K : NotMade p w) : Calls Try.prog 14 #[.pointer p] w fun e w' => e = .returned (.bool false) ∧ w = w' := by
  unfold NotMade at K
  go_enter Try.func14, Try.ntmps14
  go_wp2_with (go_at_call 24; refine K.mono ?_; clear K; rintro e w' ⟨rfl, rfl⟩)
  go_ret
  exact ⟨rfl, rfl⟩
theorem eRun_none (p : Option Addr) (w : World) (K : NotMade p w) : Calls Try.prog 15 #[.pointer p] w fun e w' => e = .returned (.int .i64 0) ∧ w = w' := by
  unfold NotMade at K
  go_enter Try.func15, Try.ntmps15
  go_wp2_with (go_at_call 24; refine K.mono ?_; clear K; rintro e w' ⟨rfl, rfl⟩)
  go_ret
  exact ⟨rfl, rfl⟩
theorem eHold_none (p : Option Addr) (w : World) (K : NotMade p w) : Calls Try.prog 16 #[.pointer p] w fun e w' => e = .returned (.int .i64 0) ∧ w = w' := by
  unfold NotMade at K
  go_enter Try.func16, Try.ntmps16
  go_wp2_with (go_at_call 24; refine K.mono ?_; clear K; rintro e w' ⟨rfl, rfl⟩)
  go_ret
  exact ⟨rfl, rfl⟩
theorem ezero_walk (b : Bool) (w : World) : Calls Try.prog 6 #[.bool b] w fun e w' => e = .returned (.bool true) ∧ Below w.heap.size w w' := by
  have hz := zero_model
  go_enter Try.func6, Try.ntmps6
  go_upto_region 3 with (fail)
  obtain ⟨wa, hwa⟩ : ∃ wa, wa = w.alloc (Obj.cells #[.int .i64 0, .int .i64 0, .int .i64 0, .int .i64 0, .int .i64 0, .int .i64 0] 45) := ⟨_, rfl⟩
  have Fa : Fr (fun _ => False) w wa := by rw [hwa]; exact (Fr.refl _ _).alloc _
  have c0 : wa.cell? ⟨w.heap.size, 0, none⟩ = some (.int .i64 0) := by rw [hwa]; exact cell_of_heap (heap_alloc_new _ _) rfl
  rw [← hwa]
  clear hwa
  have N0 : NotMade none wa := emade_nil wa
  have N1 : NotMade (some ⟨w.heap.size, 0, none⟩) wa := emade_zero w.heap.size wa c0
  have K1 := eProbe_none _ b wa N0
  have K2 := eTick_none _ wa N1
  have K3 := eProbe_none _ b wa N1
  have K4 := eUp_none _ wa N0
  have K5 := eUp_none _ wa N1
  have K6 := eRun_none _ wa N0
  have K7 := eHold_none _ wa N1
  clear N0 N1
  go_wp2_with (first | (go_at_call 11; refine K2.mono ?_; rintro e w' ⟨rfl, rfl⟩) | (go_at_call 15; refine K6.mono ?_; rintro e w' ⟨rfl, rfl⟩) | (go_at_call 16; refine K7.mono ?_; rintro e w' ⟨rfl, rfl⟩) | (go_at_call 13; first | (refine K1.mono ?_; clear K1; rintro e w' ⟨rfl, rfl⟩) | (refine K3.mono ?_; clear K3; rintro e w' ⟨rfl, rfl⟩)) | (go_at_call 14; first | (refine K4.mono ?_; clear K4; rintro e w' ⟨rfl, rfl⟩) | (refine K5.mono ?_; clear K5; rintro e w' ⟨rfl, rfl⟩)))
  go_ret
  exact ⟨rfl, Fa.below (fun _ _ => id)⟩
end Go.Proofs.Ytdjmgfdobjgniaa
