/- The walk of PumpZero. -/
import Derived.Test.YtibiiagdhdmpiaaUg
namespace Go.Proofs.Ytibiiagdhdmpiaa
open Go.RowKit
set_option linter.unusedVariables false
set_option maxRecDepth 100000
set_option maxHeartbeats 4000000

theorem zero_pump : (Try.prog.info? 58).map (fun i => (i.zero, i.size, i.bytes)) = some (some (.agg #[.pointer none, .slice none 0 0, .bool false, .bool false]), 4, 48) := by kernel_rfl
theorem uzero_walk (fq0 : Option Addr) (X0 fc0 : Nat) (a1 : Int) (w : World) : Calls Try.prog 5 #[.slice fq0 X0 fc0, .int .i64 a1] w fun e w' => e = .returned (.bool true) ∧ Below w.heap.size w w' := by
  obtain ⟨i, hi, hz0, hz1, hz2⟩ := info_parts zero_pump
  obtain ⟨W, hW⟩ : ∃ W, W = w.alloc (.cells #[.pointer none, .slice none 0 0, .bool false, .bool false] 58) := ⟨_, rfl⟩
  have HQ : Hid (NoPu W (some ⟨w.heap.size, 0, none⟩)) := .inr ⟨_, rfl, by rw [hW]; exact cell_of_heap (heap_alloc_new w _) rfl⟩
  have HF : Hid (Fr (fun _ => False) w W) := by show Fr _ _ _; rw [hW]; exact (Fr.refl _ _).alloc _
  go_enter Try.func5, Try.ntmps5
  go_upto_region 3 with (fail)
  (try rw [← hW])
  clear hW hi hz0 hz1 hz2
  go_wp2_with (fail)
  refine (uNext_none none a1 W (.inl rfl)).mono ?_
  rintro e w1 ⟨rfl, rfl⟩
  go_wp2_with (fail)
  refine (uLast_none (some ⟨w.heap.size, 0, none⟩) W HQ.out).mono ?_
  rintro e w1 ⟨rfl, rfl⟩
  go_wp2_with (fail)
  refine (uCut_none none W (.inl rfl)).mono ?_
  rintro e w1 ⟨rfl, rfl⟩
  go_wp2_with (fail)
  refine (uCut_none (some ⟨w.heap.size, 0, none⟩) W HQ.out).mono ?_
  rintro e w1 ⟨rfl, rfl⟩
  go_wp2_with (fail)
  refine (uPut_none (some ⟨w.heap.size, 0, none⟩) fq0 X0 fc0 W HQ.out).mono ?_
  rintro e w1 ⟨rfl, rfl⟩
  go_wp2_with (fail)
  refine (uEnd_none none W (.inl rfl)).mono ?_
  rintro e w1 ⟨rfl, rfl⟩
  go_wp2_with (fail)
  refine (uTail_none (some ⟨w.heap.size, 0, none⟩) none 0 0 W HQ.out).mono ?_
  rintro e w1 ⟨rfl, rfl⟩
  go_wp2_with (fail)
  refine (uDone_none none a1 W (.inl rfl)).mono ?_
  rintro e w1 ⟨rfl, rfl⟩
  go_wp2_with (fail)
  refine (uLen_none (some ⟨w.heap.size, 0, none⟩) W HQ.out).mono ?_
  rintro e w1 ⟨rfl, rfl⟩
  go_wp2_with (fail)
  refine (uRoom_none none W (.inl rfl)).mono ?_
  rintro e w1 ⟨rfl, rfl⟩
  go_wp2_with (fail)
  refine (uOpen_none (some ⟨w.heap.size, 0, none⟩) W HQ.out).mono ?_
  rintro e w1 ⟨rfl, rfl⟩
  go_wp2
  go_ret
  exact ⟨rfl, HF.out.below (fun _ _ => id)⟩
end Go.Proofs.Ytibiiagdhdmpiaa
