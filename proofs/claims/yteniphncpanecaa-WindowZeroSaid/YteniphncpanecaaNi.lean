/- Windows and credits that nobody made; the walk of WindowZero. -/
import Derived.Test.YteniphncpanecaaNf
namespace Go.Proofs.Yteniphncpanecaa
open Go.RowKit
set_option linter.unusedVariables false
set_option maxRecDepth 100000
set_option maxHeartbeats 4000000

theorem wchange_nil (l n : Int) (w : World) : Calls Try.prog 32 #[.pointer none, .int .i64 l, .int .i64 n] w fun e w' => e = .returned (.int .i64 7) ∧ w = w' := by
  have K := wmade_nil w
  go_enter Try.func32, Try.ntmps32
  go_wp2_with (go_at_call 30; refine K.mono ?_; clear K; rintro e w' ⟨rfl, rfl⟩)
  go_ret
  exact ⟨rfl, rfl⟩
theorem wchange_zero (g : Nat) (l n : Int) (w : World) (h : w.cell? ⟨g, 1, none⟩ = some (.bool false)) : Calls Try.prog 32 #[.pointer (some ⟨g, 0, none⟩), .int .i64 l, .int .i64 n] w fun e w' => e = .returned (.int .i64 7) ∧ w = w' := by
  have K := wmade_zero g w h
  go_enter Try.func32, Try.ntmps32
  go_wp2_with (go_at_call 30; refine K.mono ?_; clear K; rintro e w' ⟨rfl, rfl⟩)
  go_ret
  exact ⟨rfl, rfl⟩
theorem wTake_nil (n : Int) (w : World) : Calls Try.prog 11 #[.pointer none, .int .i64 n] w fun e w' => e = .returned (.int .i64 7) ∧ w = w' := by
  have K := wmade_nil w
  go_enter Try.func11, Try.ntmps11
  go_wp2_with (go_at_call 30; refine K.mono ?_; clear K; rintro e w' ⟨rfl, rfl⟩)
  go_ret
  exact ⟨rfl, rfl⟩
theorem wAdd_zero (g : Nat) (n : Int) (w : World) (h : w.cell? ⟨g, 1, none⟩ = some (.bool false)) : Calls Try.prog 13 #[.pointer (some ⟨g, 0, none⟩), .int .i64 n] w fun e w' => e = .returned (.int .i64 7) ∧ w = w' := by
  have K := wchange_zero g 1 n w h
  go_enter Try.func13, Try.ntmps13
  go_wp2_with (go_at_call 32; refine K.mono ?_; clear K; rintro e w' ⟨rfl, rfl⟩)
  go_ret
  exact ⟨rfl, rfl⟩
theorem wShift_nil (n : Int) (w : World) : Calls Try.prog 15 #[.pointer none, .int .i64 n] w fun e w' => e = .returned (.int .i64 7) ∧ w = w' := by
  have K := wchange_nil (-2147483647) n w
  go_enter Try.func15, Try.ntmps15
  go_wp2_with (go_at_call 32; refine K.mono ?_; clear K; rintro e w' ⟨rfl, rfl⟩)
  go_ret
  exact ⟨rfl, rfl⟩
theorem wSize_zero (g : Nat) (w : World) (h : w.cell? ⟨g, 1, none⟩ = some (.bool false)) : Calls Try.prog 17 #[.pointer (some ⟨g, 0, none⟩)] w fun e w' => e = .returned (.int .i64 0) ∧ w = w' := by
  have K := wmade_zero g w h
  go_enter Try.func17, Try.ntmps17
  go_wp2_with (go_at_call 30; refine K.mono ?_; clear K; rintro e w' ⟨rfl, rfl⟩)
  go_ret
  exact ⟨rfl, rfl⟩
theorem cGot_nil (n : Int) (w : World) : Calls Try.prog 21 #[.pointer none, .int .i64 n] w fun e w' => e = .returned (.int .i64 7) ∧ w = w' := by
  have K := cmade_nil w
  go_enter Try.func21, Try.ntmps21
  go_wp2_with (go_at_call 34; refine K.mono ?_; clear K; rintro e w' ⟨rfl, rfl⟩)
  go_ret
  exact ⟨rfl, rfl⟩
theorem cUsed_zero (g : Nat) (n : Int) (w : World) (h : w.cell? ⟨g, 1, none⟩ = some (.bool false)) : Calls Try.prog 23 #[.pointer (some ⟨g, 0, none⟩), .int .i64 n] w fun e w' => e = .returned (.int .i64 7) ∧ w = w' := by
  have K := cmade_zero g w h
  go_enter Try.func23, Try.ntmps23
  go_wp2_with (go_at_call 34; refine K.mono ?_; clear K; rintro e w' ⟨rfl, rfl⟩)
  go_ret
  exact ⟨rfl, rfl⟩
theorem cGive_nil (w : World) : Calls Try.prog 25 #[.pointer none] w fun e w' => e = .returned (.int .i64 0) ∧ w = w' := by
  have K := cmade_nil w
  go_enter Try.func25, Try.ntmps25
  go_wp2_with (go_at_call 34; refine K.mono ?_; clear K; rintro e w' ⟨rfl, rfl⟩)
  go_ret
  exact ⟨rfl, rfl⟩
theorem cSize_zero (g : Nat) (w : World) (h : w.cell? ⟨g, 1, none⟩ = some (.bool false)) : Calls Try.prog 27 #[.pointer (some ⟨g, 0, none⟩)] w fun e w' => e = .returned (.int .i64 0) ∧ w = w' := by
  have K := cmade_zero g w h
  go_enter Try.func27, Try.ntmps27
  go_wp2_with (go_at_call 34; refine K.mono ?_; clear K; rintro e w' ⟨rfl, rfl⟩)
  go_ret
  exact ⟨rfl, rfl⟩
theorem cHeld_nil (w : World) : Calls Try.prog 28 #[.pointer none] w fun e w' => e = .returned (.int .i64 0) ∧ w = w' := by
  have K := cmade_nil w
  go_enter Try.func28, Try.ntmps28
  go_wp2_with (go_at_call 34; refine K.mono ?_; clear K; rintro e w' ⟨rfl, rfl⟩)
  go_ret
  exact ⟨rfl, rfl⟩
theorem wzero_walk (n : Int) (w : World) : Calls Try.prog 7 #[.int .i64 n] w fun e w' => e = .returned (.bool true) ∧ Below w.heap.size w w' := by
  go_enter Try.func7, Try.ntmps7
  go_upto_region 3 with (fail)
  obtain ⟨wa, hwa⟩ : ∃ wa, wa = w.alloc (Obj.cells #[.int .i64 0, .bool false] 54) := ⟨_, rfl⟩
  obtain ⟨ga, hga⟩ : ∃ ga, ga = w.heap.size := ⟨_, rfl⟩
  have Fa : Fr (fun _ => False) w wa := by rw [hwa]; exact (Fr.refl _ _).alloc _
  have Za : wa.cell? ⟨ga, 1, none⟩ = some (.bool false) := by rw [hwa, hga]; exact cell_of_heap (heap_alloc_new _ _) rfl
  first | rw [← hwa, ← hga] | (trace_state; fail)
  clear hwa hga
  go_upto_region 5 with (fail)
  obtain ⟨wb, hwb⟩ : ∃ wb, wb = wa.alloc (Obj.cells #[.int .i64 0, .bool false, .int .i64 0, .int .i64 0] 56) := ⟨_, rfl⟩
  obtain ⟨gb, hgb⟩ : ∃ gb, gb = wa.heap.size := ⟨_, rfl⟩
  have Fb : Fr (fun _ => False) wa wb := by rw [hwb]; exact (Fr.refl _ _).alloc _
  have Zb : wb.cell? ⟨gb, 1, none⟩ = some (.bool false) := by rw [hwb, hgb]; exact cell_of_heap (heap_alloc_new _ _) rfl
  have Zc : wb.cell? ⟨ga, 1, none⟩ = some (.bool false) := (Fb.cell (p := ⟨ga, 1, none⟩) (World.block_lt_of_cell? _ _ Za) id).trans Za
  rw [← hwb, ← hgb]
  clear hwb hgb Za
  have K1 := wTake_nil n wb
  have K2 := wAdd_zero ga n wb Zc
  have K3 := wShift_nil n wb
  have K4 := wSize_zero ga wb Zc
  have K5 := cGot_nil n wb
  have K6 := cUsed_zero gb n wb Zb
  have K7 := cGive_nil wb
  have K8 := cSize_zero gb wb Zb
  have K9 := cHeld_nil wb
  clear Zb Zc
  go_wp2_with (first
    | (go_at_call 11; refine K1.mono ?_; clear K1; rintro e w' ⟨rfl, rfl⟩)
    | (go_at_call 13; refine K2.mono ?_; clear K2; rintro e w' ⟨rfl, rfl⟩)
    | (go_at_call 15; refine K3.mono ?_; clear K3; rintro e w' ⟨rfl, rfl⟩)
    | (go_at_call 17; refine K4.mono ?_; clear K4; rintro e w' ⟨rfl, rfl⟩)
    | (go_at_call 21; refine K5.mono ?_; clear K5; rintro e w' ⟨rfl, rfl⟩)
    | (go_at_call 23; refine K6.mono ?_; clear K6; rintro e w' ⟨rfl, rfl⟩)
    | (go_at_call 25; refine K7.mono ?_; clear K7; rintro e w' ⟨rfl, rfl⟩)
    | (go_at_call 27; refine K8.mono ?_; clear K8; rintro e w' ⟨rfl, rfl⟩)
    | (go_at_call 28; refine K9.mono ?_; clear K9; rintro e w' ⟨rfl, rfl⟩))
  go_ret
  exact ⟨rfl, (Fa.trans Fb).below (fun _ _ => id)⟩
end Go.Proofs.Yteniphncpanecaa
