/- Streams that nobody made; the walk of StreamZero. -/
import Derived.Test.YtahlhkpabkplfaaYc
import Derived.Deep.Cut
namespace Go.Proofs.Ytahlhkpabkplfaa
open Go.RowKit Go.Maps
set_option linter.unusedVariables false
set_option maxRecDepth 100000
set_option maxHeartbeats 4000000

theorem yPeer_nil (d : Int) (w : World) : Calls Try.prog 20 #[.pointer none, .int .i64 d] w fun e w' => e = .returned (.tuple #[.bool false, .agg #[.bool true, .int .i64 0, .int .i64 2]]) ∧ Fr (fun _ => False) w w' := by
  go_enter Try.func20, Try.ntmps20
  go_wp2_with (go_at_call 37; refine (ymade_nil _).mono ?_; rintro e w' ⟨rfl, rfl⟩)
  exact bodyPost_ret (v := .tuple #[.bool false, .agg #[.bool true, .int .i64 0, .int .i64 2]]) (by simp [results, Try.results20, go_sem]) rfl ⟨rfl, (Fr.refl _ _).alloc _⟩
theorem yDo_nil (d wh : Int) (w : World) : Calls Try.prog 21 #[.pointer none, .int .i64 d, .int .i64 wh] w fun e w' => e = .returned (.tuple #[.int .i64 0, .agg #[.bool false, .int .i64 0, .int .i64 0], .int .i64 7]) ∧ Fr (fun _ => False) w w' := by
  go_enter Try.func21, Try.ntmps21
  go_wp2_with (go_at_call 37; refine (ymade_nil _).mono ?_; rintro e w' ⟨rfl, rfl⟩)
  exact bodyPost_ret (v := .tuple #[.int .i64 0, .agg #[.bool false, .int .i64 0, .int .i64 0], .int .i64 7]) (by simp [results, Try.results21, go_sem]) rfl ⟨rfl, (Fr.refl _ _).alloc _⟩
theorem yState_nil (d : Int) (w : World) : Calls Try.prog 17 #[.pointer none, .int .i64 d] w fun e w' => e = .returned (.int .i64 0) ∧ w = w' := by
  go_enter Try.func17, Try.ntmps17
  go_wp2_with (go_at_call 37; refine (ymade_nil _).mono ?_; rintro e w' ⟨rfl, rfl⟩)
  go_ret
  exact ⟨rfl, rfl⟩
theorem yOpen_nil (own : Bool) (w : World) : Calls Try.prog 18 #[.pointer none, .bool own] w fun e w' => e = .returned (.int .i64 0) ∧ w = w' := by
  go_enter Try.func18, Try.ntmps18
  go_wp2_with (go_at_call 37; refine (ymade_nil _).mono ?_; rintro e w' ⟨rfl, rfl⟩)
  go_ret
  exact ⟨rfl, rfl⟩
theorem yList_nil (w : World) : Calls Try.prog 24 #[.pointer none] w fun e w' => e = .returned (.slice none 0 0) ∧ w = w' := by
  go_enter Try.func24, Try.ntmps24
  go_wp2_with (go_at_call 37; refine (ymade_nil _).mono ?_; rintro e w' ⟨rfl, rfl⟩)
  go_ret
  exact ⟨rfl, rfl⟩
theorem yOwn_zero (g : Nat) (w : World) (h : w.cell? ⟨g, 0, none⟩ = some (.map none)) : Calls Try.prog 16 #[.pointer (some ⟨g, 0, none⟩)] w fun e w' => e = .returned (.tuple #[.int .i64 0, .int .i64 7]) ∧ w = w' := by
  have K := ymade_zero g w h
  go_enter Try.func16, Try.ntmps16
  go_wp2_with (go_at_call 37; refine K.mono ?_; rintro e w' ⟨rfl, rfl⟩)
  go_ret2
  exact ⟨rfl, rfl⟩
theorem yLimit_zero (g : Nat) (n : Int) (w : World) (h : w.cell? ⟨g, 0, none⟩ = some (.map none)) : Calls Try.prog 23 #[.pointer (some ⟨g, 0, none⟩), .int .i64 n] w fun e w' => e = .returned (.int .i64 7) ∧ w = w' := by
  have K := ymade_zero g w h
  go_enter Try.func23, Try.ntmps23
  go_wp2_with (go_at_call 37; refine K.mono ?_; rintro e w' ⟨rfl, rfl⟩)
  go_ret
  exact ⟨rfl, rfl⟩
theorem yDropped_zero (g : Nat) (d : Int) (w : World) (h : w.cell? ⟨g, 0, none⟩ = some (.map none)) : Calls Try.prog 22 #[.pointer (some ⟨g, 0, none⟩), .int .i64 d] w fun e w' => e = .returned (.bool false) ∧ w = w' := by
  have K := ymade_zero g w h
  go_enter Try.func22, Try.ntmps22
  go_wp2_with (go_at_call 37; refine K.mono ?_; rintro e w' ⟨rfl, rfl⟩)
  go_ret
  exact ⟨rfl, rfl⟩
theorem yLast_zero (g : Nat) (w : World) (h : w.cell? ⟨g, 0, none⟩ = some (.map none)) : Calls Try.prog 19 #[.pointer (some ⟨g, 0, none⟩)] w fun e w' => e = .returned (.int .i64 0) ∧ w = w' := by
  have K := ymade_zero g w h
  go_enter Try.func19, Try.ntmps19
  go_wp2_with (go_at_call 37; refine K.mono ?_; rintro e w' ⟨rfl, rfl⟩)
  go_ret
  exact ⟨rfl, rfl⟩
theorem szero_walk (d wh : Int) (w : World) : Calls Try.prog 7 #[.int .i64 d, .int .i64 wh] w fun e w' => e = .returned (.bool true) ∧ Below w.heap.size w w' := by
  have KP := yPeer_nil d
  have KD := yDo_nil d wh
  go_enter Try.func7, Try.ntmps7
  go_upto_region 3 with (fail)
  obtain ⟨wa, hwa⟩ : ∃ wa, wa = w.alloc (Obj.cells Try.zeroCells60 60) := ⟨_, rfl⟩
  have Fa : Fr (fun _ => False) w wa := by rw [hwa]; exact (Fr.refl _ _).alloc _
  have Za : wa.cell? ⟨w.heap.size, 0, none⟩ = some (.map none) := by rw [hwa]; exact cell_of_heap (heap_alloc_new _ _) (by kernel_rfl)
  have la : w.heap.size < wa.heap.size := by rw [hwa]; simp
  rw [← hwa]
  clear hwa
  go_upto_region 4 with (go_at_call 20; refine (KP _).mono ?_; rintro e w1 ⟨rfl, hf1⟩)
  obtain ⟨wb, hwb⟩ : ∃ wb, wb = w1.alloc (Obj.cells #[.bool true, .int .i64 0, .int .i64 2] 48) := ⟨_, rfl⟩
  have Fb : Fr (fun _ => False) wa wb := by rw [hwb]; exact hf1.alloc _
  have Zb : wb.cell? ⟨w.heap.size, 0, none⟩ = some (.map none) := (Fb.cell (p := ⟨w.heap.size, 0, none⟩) la id).trans Za
  have x0 : wb.cell? ⟨w1.heap.size, 0, none⟩ = some (.bool true) := by rw [hwb]; exact cell_of_heap (heap_alloc_new _ _) rfl
  have x2 : wb.cell? ⟨w1.heap.size, 2, none⟩ = some (.int .i64 2) := by rw [hwb]; exact cell_of_heap (heap_alloc_new _ _) rfl
  have lb : w1.heap.size < wb.heap.size := by rw [hwb]; simp
  have lb2 : w.heap.size < wb.heap.size := Nat.lt_of_lt_of_le la Fb.size
  rw [← hwb]
  clear hwb hf1
  have KO := yOwn_zero w.heap.size wb Zb
  go_upto_region 6 with (first | (go_at_call 16; refine KO.mono ?_; clear KO; rintro e w' ⟨rfl, rfl⟩) | (go_at_call 21; refine (KD _).mono ?_; rintro e w2 ⟨rfl, hf2⟩))
  obtain ⟨wc, hwc⟩ : ∃ wc, wc = w2.alloc (Obj.cells #[.bool false, .int .i64 0, .int .i64 0] 48) := ⟨_, rfl⟩
  have Fc : Fr (fun _ => False) wb wc := by rw [hwc]; exact hf2.alloc _
  have Zc : wc.cell? ⟨w.heap.size, 0, none⟩ = some (.map none) := (Fc.cell (p := ⟨w.heap.size, 0, none⟩) lb2 id).trans Zb
  have y0 : wc.cell? ⟨w1.heap.size, 0, none⟩ = some (.bool true) := (Fc.cell (p := ⟨w1.heap.size, 0, none⟩) lb id).trans x0
  have y2 : wc.cell? ⟨w1.heap.size, 2, none⟩ = some (.int .i64 2) := (Fc.cell (p := ⟨w1.heap.size, 2, none⟩) lb id).trans x2
  rw [← hwc]
  clear hwc hf2 x0 x2 KP KD
  have K1 := yLimit_zero w.heap.size d wc Zc
  have K2 := yState_nil d wc
  have K3 := yDropped_zero w.heap.size d wc Zc
  have K4 := yOpen_nil true wc
  have K5 := yLast_zero w.heap.size wc Zc
  have K6 := yList_nil wc
  go_wp2_with (first | (go_at_call 23; refine K1.mono ?_; clear K1; rintro e w' ⟨rfl, rfl⟩) | (go_at_call 17; refine K2.mono ?_; clear K2; rintro e w' ⟨rfl, rfl⟩) | (go_at_call 22; refine K3.mono ?_; clear K3; rintro e w' ⟨rfl, rfl⟩) | (go_at_call 18; refine K4.mono ?_; clear K4; rintro e w' ⟨rfl, rfl⟩) | (go_at_call 19; refine K5.mono ?_; clear K5; rintro e w' ⟨rfl, rfl⟩) | (go_at_call 24; refine K6.mono ?_; clear K6; rintro e w' ⟨rfl, rfl⟩))
  go_ret
  exact ⟨rfl, ((Fa.trans Fb).trans Fc).below (fun _ _ => id)⟩
end Go.Proofs.Ytahlhkpabkplfaa
