/- The walk of ReaderZero. -/
import Derived.Test.YtikaefjhmgcidaaTe
namespace Go.Proofs.Ytikaefjhmgcidaa
open Go.RowKit
set_option linter.unusedVariables false
set_option maxRecDepth 100000
set_option maxHeartbeats 4000000

theorem zero_walk (v : Value) (w : World) : Calls Try.prog 6 #[v] w fun e w' => e = .returned (.bool true) ∧ Below w.heap.size w w' := by
  obtain ⟨W, hW⟩ : ∃ W, W = w.alloc (.cells #[.int .i64 0, .slice none 0 0, .int .i64 0, .bool false, .int .i64 0, .int .i64 0] 57) := ⟨_, rfl⟩
  have HFW : Hid (Fr (fun _ => False) w W) := by rw [hW]; exact (Fr.refl _ _).alloc _
  have HR : Hid (∀ w', Fr (fun _ => False) W w' → RdC w' w.heap.size 0 (.slice none 0 0) 0 ⟨false, 0, 0⟩) := fun w' hf => RdC.fr (by rw [hW]; exact heap_alloc_new w _) hf id
  go_enter Try.func6, Try.ntmps6
  go_upto_region 3 with (fail)
  rw [← hW]
  clear hW
  go_upto_region 4 with (first
    | (go_at_call 12; refine (Next_nil _).mono ?_; rintro e w1 ⟨rfl, f1⟩; have F1 : Hid (Fr (fun _ => False) W w1) := f1; clear f1)
    | (refine wpList_storeB rfl 36 (.tmp 5) (.tmp 14) rfl w1.heap.size #[.int .i64 0, .int .i64 0, .int .i64 0, .slice none 0 0, .int .i64 0, .int .u32 0, .int .i64 0, .int .i64 0, .int .i64 0, .bool false, .int .i64 0, .slice none 0 0] #[.int .i64 0, .int .i64 0, .int .i64 0, .slice none 0 0, .int .i64 0, .int .u32 0, .int .i64 0, .int .i64 0, .int .i64 0, .bool false, .int .i64 0, .slice none 0 0] 36 rfl rfl (past_at _ (heap_alloc_new w1 _)) rfl (by kernel_rfl) (by simp [Value.oneCell']) ?_; intro w2 H2 G2)
    | (refine wpList_storeB rfl 38 (.tmp 7) (.tmp 16) rfl (w1.heap.size + 1) #[.bool false, .int .i64 0, .int .i64 0] #[.bool false, .int .i64 0, .int .i64 0] 38 rfl rfl ((G2.out.block _ (by simp) (by omega)).trans (last_at _ (by simp))) rfl (by kernel_rfl) (by simp [Value.oneCell']) ?_; intro w3 H3 G3))
  have FF3 : Hid (Fr (fun _ => False) w1 w3) := ((((Fr.refl (fun k => k = w1.heap.size ∨ k = w1.heap.size + 1) _).alloc _).alloc _).trans ((G2.out.mono (fun _ _ e => .inl e)).trans (G3.out.mono (fun _ _ e => .inr e)))).mono (fun k hk e => by omega)
  have FW3 : Hid (Fr (fun _ => False) W w3) := F1.out.trans FF3.out
  have KZ := Next_zero w.heap.size (.slice none 0 0) 0 ⟨false, 0, 0⟩ w3 (HR.out _ FW3.out)
  go_upto_region 5 with (first
    | (go_at_call 12; refine KZ.mono ?_; clear KZ; rintro e w4 ⟨rfl, f4⟩; have F4 : Hid (Fr (fun _ => False) w3 w4) := f4; clear f4)
    | (refine wpList_storeB rfl 36 (.tmp 8) (.tmp 19) rfl w4.heap.size #[.int .i64 0, .int .i64 0, .int .i64 0, .slice none 0 0, .int .i64 0, .int .u32 0, .int .i64 0, .int .i64 0, .int .i64 0, .bool false, .int .i64 0, .slice none 0 0] #[.int .i64 0, .int .i64 0, .int .i64 0, .slice none 0 0, .int .i64 0, .int .u32 0, .int .i64 0, .int .i64 0, .int .i64 0, .bool false, .int .i64 0, .slice none 0 0] 36 rfl rfl (past_at _ (heap_alloc_new w4 _)) rfl (by kernel_rfl) (by simp [Value.oneCell']) ?_; intro w5 H5 G5)
    | (refine wpList_storeB rfl 38 (.tmp 10) (.tmp 21) rfl (w4.heap.size + 1) #[.bool false, .int .i64 0, .int .i64 0] #[.bool false, .int .i64 0, .int .i64 0] 38 rfl rfl ((G5.out.block _ (by simp) (by omega)).trans (last_at _ (by simp))) rfl (by kernel_rfl) (by simp [Value.oneCell']) ?_; intro w6 H6 G6))
  have FF6 : Hid (Fr (fun _ => False) w4 w6) := ((((Fr.refl (fun k => k = w4.heap.size ∨ k = w4.heap.size + 1) _).alloc _).alloc _).trans ((G5.out.mono (fun _ _ e => .inl e)).trans (G6.out.mono (fun _ _ e => .inr e)))).mono (fun k hk e => by omega)
  have F36 : Hid (Fr (fun _ => False) w3 w6) := F4.out.trans FF6.out
  have FW6 : Hid (Fr (fun _ => False) W w6) := FW3.out.trans F36.out
  have p0 : w6.cell? ⟨w1.heap.size + 1, 0, none⟩ = some (.bool false) := (cells3 ((F36.out.block _ (lt_of_heap H3.out) id).trans H3.out)).1
  have q0 : w6.cell? ⟨w4.heap.size + 1, 0, none⟩ = some (.bool false) := (cells3 H6.out).1
  have KF := Feed_zero w.heap.size (.slice none 0 0) 0 ⟨false, 0, 0⟩ v w6 (HR.out _ FW6.out)
  have KA := Failed_zero w.heap.size (.slice none 0 0) 0 ⟨false, 0, 0⟩ w6 (HR.out _ FW6.out)
  go_wp2_with (fail)
  refine (Feed_nil _ _).mono ?_
  rintro e w' ⟨rfl, rfl⟩
  go_wp2_with (fail)
  refine KF.mono ?_
  rintro e w' ⟨rfl, rfl⟩
  go_wp2_with (fail)
  refine (Rest_nil _).mono ?_
  rintro e w' ⟨rfl, rfl⟩
  go_wp2_with (fail)
  refine KA.mono ?_
  rintro e w' ⟨rfl, rfl⟩
  go_wp2_with (fail)
  go_ret
  exact ⟨rfl, (HFW.out.trans FW6.out).below (fun _ _ => id)⟩
end Go.Proofs.Ytikaefjhmgcidaa
