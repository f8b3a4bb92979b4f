/- Pools that nobody made. -/
import Derived.Test.YtoiencoojkahmaaJd
namespace Go.Proofs.Ytoiencoojkahmaa
open Go.RowKit Go.Maps
set_option linter.unusedVariables false
set_option maxRecDepth 100000
set_option maxHeartbeats 4000000

theorem plTick_nil (w : World) : Calls Try.prog 13 #[.pointer none] w fun e w' => e = .returned (.slice none 0 0) ∧ w = w' := by
  have K := plmade_nil w
  go_enter Try.func13, Try.ntmps13
  go_wp2_with (go_at_call 42; refine K.mono ?_; clear K; rintro e w' ⟨rfl, rfl⟩)
  go_ret
  exact ⟨rfl, rfl⟩
theorem plBacks_nil (w : World) : Calls Try.prog 17 #[.pointer none] w fun e w' => e = .returned (.slice none 0 0) ∧ w = w' := by
  have K := plmade_nil w
  go_enter Try.func17, Try.ntmps17
  go_wp2_with (go_at_call 42; refine K.mono ?_; clear K; rintro e w' ⟨rfl, rfl⟩)
  go_ret
  exact ⟨rfl, rfl⟩
theorem zero_pool (w : World) : (zeroValue 51).run Try.prog w = .ok (.agg #[.slice none 0 0, .pointer none, .int .i64 0, .int .i64 0]) w := by kernel_rfl
theorem pzero_walk (d : Int) (w : World) : Calls Try.prog 6 #[.int .i64 d] w fun e w' => e = .returned (.bool true) ∧ Below w.heap.size w w' := by
  have hz := zero_pool
  obtain ⟨w1, hw1⟩ : ∃ w1, w.alloc (.cells #[.slice none 0 0, .pointer none, .int .i64 0, .int .i64 0] 51) = w1 := ⟨_, rfl⟩
  have F1 : Hid (Fr (fun _ => False) w w1) := by rw [← hw1]; exact (Fr.refl _ _).alloc _
  have c1 : w1.cell? ⟨w.heap.size, 1, none⟩ = some (.pointer none) := by rw [← hw1]; exact cell_of_heap (heap_alloc_new _ _) rfl
  have N0 := plfind_none none d w1 (plmade_nil w1)
  have N1 := plfind_none (some ⟨w.heap.size, 0, none⟩) d w1 (plmade_zero w.heap.size w1 c1)
  have K1 := plTick_nil w1
  have K2 := plOpened_no _ d 7 w1 (.inr rfl) N1
  have K3 := plFailed_no _ d 7 w1 (.inr rfl) N0
  have K4 := plDrain_no _ d 7 w1 (.inr rfl) N1
  have K5 := plLimit_no _ d 7 d w1 (.inr rfl) N0
  have K6 := plTake_no _ d 7 w1 (.inr rfl) N1
  have K7 := plPut_no _ d 7 w1 (.inr rfl) N0
  have K8 := plProbe_no _ d 7 true w1 (.inr rfl) N1
  have K9 := plBacks_nil w1
  have K10 := plState_no _ d 7 w1 (.inr rfl) N1
  have K11 := plWait_no _ d 7 w1 (.inr rfl) N0
  clear c1 N0 N1
  go_enter Try.func6, Try.ntmps6
  go_wp2_with (first
    | (go_at_call 13; refine K1.mono ?_; clear K1; rintro e w' ⟨rfl, rfl⟩)
    | (go_at_call 14; refine K2.mono ?_; clear K2; rintro e w' ⟨rfl, rfl⟩)
    | (go_at_call 16; refine K3.mono ?_; clear K3; rintro e w' ⟨rfl, rfl⟩)
    | (go_at_call 21; refine K4.mono ?_; clear K4; rintro e w' ⟨rfl, rfl⟩)
    | (go_at_call 22; refine K5.mono ?_; clear K5; rintro e w' ⟨rfl, rfl⟩)
    | (go_at_call 18; refine K6.mono ?_; clear K6; rintro e w' ⟨rfl, rfl⟩)
    | (go_at_call 23; refine K7.mono ?_; clear K7; rintro e w' ⟨rfl, rfl⟩)
    | (go_at_call 24; refine K8.mono ?_; clear K8; rintro e w' ⟨rfl, rfl⟩)
    | (go_at_call 17; refine K9.mono ?_; clear K9; rintro e w' ⟨rfl, rfl⟩)
    | (go_at_call 20; refine K10.mono ?_; clear K10; rintro e w' ⟨rfl, rfl⟩)
    | (go_at_call 15; refine K11.mono ?_; clear K11; rintro e w' ⟨rfl, rfl⟩))
  go_ret
  exact ⟨rfl, F1.out.below (fun _ _ => id)⟩
end Go.Proofs.Ytoiencoojkahmaa
