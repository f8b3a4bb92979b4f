/- Wheels that nobody made; the walk of WheelZero. -/
import Derived.Test.YtldedlphamcehaaGd
namespace Go.Proofs.Ytldedlphamcehaa
open Go.RowKit Go.Maps
set_option linter.unusedVariables false
set_option maxRecDepth 100000
set_option maxHeartbeats 4000000

theorem qLeft_nil (d : Int) (w : World) : Calls Try.prog 17 #[.pointer none, .int .i64 d] w fun e w' => e = .returned (.tuple #[.int .i64 0, .int .i64 7]) ∧ w = w' := by
  have K := qmade_nil w
  go_enter Try.func17, Try.ntmps17
  go_wp2_with (go_at_call 23; refine K.mono ?_; clear K; rintro e w' ⟨rfl, rfl⟩)
  go_ret2
  exact ⟨rfl, rfl⟩
theorem qCancel_nil (d : Int) (w : World) : Calls Try.prog 12 #[.pointer none, .int .i64 d] w fun e w' => e = .returned (.int .i64 7) ∧ w = w' := by
  have K := qmade_nil w
  go_enter Try.func12, Try.ntmps12
  go_wp2_with (go_at_call 23; refine K.mono ?_; clear K; rintro e w' ⟨rfl, rfl⟩)
  go_ret
  exact ⟨rfl, rfl⟩
theorem qNow_nil (w : World) : Calls Try.prog 19 #[.pointer none] w fun e w' => e = .returned (.int .i64 0) ∧ w = w' := by
  have K := qmade_nil w
  go_enter Try.func19, Try.ntmps19
  go_wp2_with (go_at_call 23; refine K.mono ?_; clear K; rintro e w' ⟨rfl, rfl⟩)
  go_ret
  exact ⟨rfl, rfl⟩
theorem qSet_zero (g : Nat) (d n : Int) (w : World) (h : w.cell? ⟨g, 64, none⟩ = some (.map none)) : Calls Try.prog 10 #[.pointer (some ⟨g, 0, none⟩), .int .i64 d, .int .i64 n] w fun e w' => e = .returned (.int .i64 7) ∧ w = w' := by
  have K := qmade_zero g w h
  go_enter Try.func10, Try.ntmps10
  go_wp2_with (go_at_call 23; refine K.mono ?_; clear K; rintro e w' ⟨rfl, rfl⟩)
  go_ret
  exact ⟨rfl, rfl⟩
theorem qTick_zero (g : Nat) (w : World) (h : w.cell? ⟨g, 64, none⟩ = some (.map none)) : Calls Try.prog 15 #[.pointer (some ⟨g, 0, none⟩)] w fun e w' => e = .returned (.slice none 0 0) ∧ w = w' := by
  have K := qmade_zero g w h
  go_enter Try.func15, Try.ntmps15
  go_wp2_with (go_at_call 23; refine K.mono ?_; clear K; rintro e w' ⟨rfl, rfl⟩)
  go_ret
  exact ⟨rfl, rfl⟩
theorem qLen_zero (g : Nat) (w : World) (h : w.cell? ⟨g, 64, none⟩ = some (.map none)) : Calls Try.prog 20 #[.pointer (some ⟨g, 0, none⟩)] w fun e w' => e = .returned (.int .i64 0) ∧ w = w' := by
  have K := qmade_zero g w h
  go_enter Try.func20, Try.ntmps20
  go_wp2_with (go_at_call 23; refine K.mono ?_; clear K; rintro e w' ⟨rfl, rfl⟩)
  go_ret
  exact ⟨rfl, rfl⟩
theorem wzero2 : ∃ zc : Array Value, (∀ w, (zeroValue 54).run Try.prog w = .ok (.agg zc) w) ∧ zc[64]? = some (.map none) :=
  ⟨(List.replicate 64 nilS ++ [Value.map none, Value.int .i64 0]).toArray, fun w => by kernel_rfl, by kernel_rfl⟩
theorem qzero_walk (d n : Int) (w : World) : Calls Try.prog 6 #[.int .i64 d, .int .i64 n] w fun e w' => e = .returned (.bool true) ∧ Below w.heap.size w w' := by
  obtain ⟨zc, hz, hz64⟩ := wzero2
  obtain ⟨w1, hw1⟩ : ∃ w1, w.alloc (.cells zc 54) = w1 := ⟨_, rfl⟩
  have F1 : Hid (Fr (fun _ => False) w w1) := by rw [← hw1]; exact (Fr.refl _ _).alloc _
  have c0 : w1.cell? ⟨w.heap.size, 64, none⟩ = some (.map none) := by rw [← hw1]; exact cell_of_heap (heap_alloc_new _ _) hz64
  have K1 := qLeft_nil d w1
  have K2 := qSet_zero w.heap.size d n w1 c0
  have K3 := qCancel_nil d w1
  have K4 := qTick_zero w.heap.size w1 c0
  have K5 := qNow_nil w1
  have K6 := qLen_zero w.heap.size w1 c0
  clear hz64 c0
  go_enter Try.func6, Try.ntmps6
  go_wp2_with (first
    | (go_at_call 17; refine K1.mono ?_; clear K1; rintro e w' ⟨rfl, rfl⟩)
    | (go_at_call 10; refine K2.mono ?_; clear K2; rintro e w' ⟨rfl, rfl⟩)
    | (go_at_call 12; refine K3.mono ?_; clear K3; rintro e w' ⟨rfl, rfl⟩)
    | (go_at_call 15; refine K4.mono ?_; clear K4; rintro e w' ⟨rfl, rfl⟩)
    | (go_at_call 19; refine K5.mono ?_; clear K5; rintro e w' ⟨rfl, rfl⟩)
    | (go_at_call 20; refine K6.mono ?_; clear K6; rintro e w' ⟨rfl, rfl⟩))
  go_ret
  exact ⟨rfl, F1.out.below (fun _ _ => id)⟩
end Go.Proofs.Ytldedlphamcehaa
