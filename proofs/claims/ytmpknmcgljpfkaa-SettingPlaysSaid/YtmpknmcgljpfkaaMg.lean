/- Settings that nobody made. -/
import Derived.Test.YtmpknmcgljpfkaaMe
import Derived.Deep.Cut
namespace Go.Proofs.Ytmpknmcgljpfkaa
open Go.RowKit Go.Maps
set_option linter.unusedVariables false
set_option maxRecDepth 100000
set_option maxHeartbeats 4000000

theorem sApply_nil (l : Value) (w : World) : Calls Try.prog 14 #[.pointer none, l] w fun e w' => e = .returned (.tuple #[.int .i64 0, .agg #[.bool true, .int .i64 0, .int .i64 2]]) ∧ Fr (fun _ => False) w w' := by
  have K1 := fun w => smade_nil w
  have K2 := fun w => fault_in 2 w
  go_enter Try.func14, Try.ntmps14
  go_upto_region 2 with (go_at_call 27; refine (K1 _).mono ?_; rintro e w1 ⟨rfl, rfl⟩)
  obtain ⟨W, hW⟩ : ∃ W, W = w.alloc (.cells #[.bool false, .int .i64 0, .int .i64 0] 37) := ⟨_, rfl⟩
  have hf0 : Fr (fun _ => False) w W := by rw [hW]; exact (Fr.refl _ _).alloc _
  have hb : W.heap[w.heap.size]? = some (.cells #[.bool false, .int .i64 0, .int .i64 0] 37 (0, 0)) := by rw [hW]; exact heap_alloc_new w _
  rw [← hW]
  clear hW
  go_wp2_with (first
    | (go_at_call 28; refine (K2 _).mono ?_; rintro e w2 ⟨rfl, hf2⟩; have hb2 := (hf2.block _ (lt_of_heap hb) id).trans hb)
    | (refine wpList_storeB rfl 37 (.tmp 5) (.tmp 16) rfl w.heap.size #[.bool false, .int .i64 0, .int .i64 0] #[.bool true, .int .i64 0, .int .i64 2] 37 rfl rfl hb2 rfl (by kernel_rfl) (by simp [Value.oneCell']) ?_; intro y H G))
  have c0 : y.cell? ⟨w.heap.size, 0, none⟩ = some (.bool true) := cell_of_heap H.out rfl
  have c1 : y.cell? ⟨w.heap.size, 1, none⟩ = some (.int .i64 0) := cell_of_heap H.out rfl
  have c2 : y.cell? ⟨w.heap.size, 2, none⟩ = some (.int .i64 2) := cell_of_heap H.out rfl
  exact bodyPost_ret (v := .tuple #[.int .i64 0, .agg #[.bool true, .int .i64 0, .int .i64 2]]) (by simp [results, Try.results14, go_sem, c0, c1, c2]) rfl ⟨rfl, (((hf0.trans hf2).mono (T := fun k => w.heap.size ≤ k) (fun _ _ e => e.elim)).trans (G.out.mono (fun k _ e => by omega))).mono (fun k hk e => by omega)⟩
theorem sAck_zero (g : Nat) (w : World) (h : ZeroC w g) : Calls Try.prog 18 #[.pointer (some ⟨g, 0, none⟩)] w fun e w' => e = .returned (.tuple #[.slice none 0 0, .int .i64 7]) ∧ w = w' := by
  have K1 := smade_zero g w h
  go_enter Try.func18, Try.ntmps18
  go_wp2_with (go_at_call 27; refine K1.mono ?_; clear K1; rintro e w1 ⟨rfl, rfl⟩)
  go_ret2
  exact ⟨rfl, rfl⟩
theorem sOffer_zero (g : Nat) (l : Value) (w : World) (h : ZeroC w g) : Calls Try.prog 17 #[.pointer (some ⟨g, 0, none⟩), l] w fun e w' => e = .returned (.int .i64 7) ∧ w = w' := by
  have K1 := smade_zero g w h
  go_enter Try.func17, Try.ntmps17
  go_wp2_with (go_at_call 27; refine K1.mono ?_; clear K1; rintro e w1 ⟨rfl, rfl⟩)
  go_ret
  exact ⟨rfl, rfl⟩
theorem sOffer_nil (l : Value) (w : World) : Calls Try.prog 17 #[.pointer none, l] w fun e w' => e = .returned (.int .i64 7) ∧ w = w' := by
  have K1 := smade_nil w
  go_enter Try.func17, Try.ntmps17
  go_wp2_with (go_at_call 27; refine K1.mono ?_; clear K1; rintro e w1 ⟨rfl, rfl⟩)
  go_ret
  exact ⟨rfl, rfl⟩
theorem sOpen_zero (g : Nat) (w : World) (h : ZeroC w g) : Calls Try.prog 23 #[.pointer (some ⟨g, 0, none⟩)] w fun e w' => e = .returned (.int .i64 0) ∧ w = w' := by
  have K1 := smade_zero g w h
  go_enter Try.func23, Try.ntmps23
  go_wp2_with (go_at_call 27; refine K1.mono ?_; clear K1; rintro e w1 ⟨rfl, rfl⟩)
  go_ret
  exact ⟨rfl, rfl⟩
theorem zero_walk (l : Value) (x : Int) (w : World) : Calls Try.prog 7 #[l, .int .i64 x] w fun e w' => e = .returned (.bool true) ∧ Below w.heap.size w w' := by
  have K1 := fun w => sApply_nil l w
  obtain ⟨W, hW⟩ : ∃ W, W = w.alloc (.cells #[.map none, .slice none 0 0] 61) := ⟨_, rfl⟩
  have hf0 : Fr (fun _ => False) w W := by rw [hW]; exact (Fr.refl _ _).alloc _
  have hb : ZeroC W w.heap.size := by rw [hW]; exact heap_alloc_new w _
  go_enter Try.func7, Try.ntmps7
  go_upto_region 3 with (fail)
  rw [← hW]
  clear hW
  go_upto_region 4 with (go_at_call 14; refine (K1 _).mono ?_; clear K1; rintro e w1 ⟨rfl, hf1⟩; have hb1 : ZeroC w1 w.heap.size := (hf1.block _ (lt_of_heap hb) id).trans hb)
  obtain ⟨Y, hY⟩ : ∃ Y, Y = w1.alloc (.cells #[.bool true, .int .i64 0, .int .i64 2] 37) := ⟨_, rfl⟩
  obtain ⟨g, hg⟩ : ∃ g, g = w1.heap.size := ⟨_, rfl⟩
  have hf2 : Fr (fun _ => False) w Y := by rw [hY]; exact (hf0.trans hf1).alloc _
  have hb2 : ZeroC Y w.heap.size := by rw [hY]; exact (Below.heap_alloc _ _ _ (lt_of_heap hb1)).trans hb1
  have hx : Y.heap[g]? = some (.cells #[.bool true, .int .i64 0, .int .i64 2] 37 (0, 0)) := by rw [hY, hg]; exact heap_alloc_new w1 _
  have c0 : Y.cell? ⟨g, 0, none⟩ = some (.bool true) := cell_of_heap hx rfl
  have c2 : Y.cell? ⟨g, 2, none⟩ = some (.int .i64 2) := cell_of_heap hx rfl
  rw [← hY, ← hg]
  clear hY hg hb hb1 hf1 hf0 hx
  have K2 := sAck_zero w.heap.size Y hb2
  have K3 := sOffer_nil l Y
  have K4 := sOffer_zero w.heap.size l Y hb2
  have K5 := sGet_nil x Y
  have K6 := sOpen_zero w.heap.size Y hb2
  go_wp2_with (fail)
  refine K2.mono ?_
  rintro e w' ⟨rfl, rfl⟩
  go_wp2_with (fail)
  refine K3.mono ?_
  rintro e w' ⟨rfl, rfl⟩
  go_wp2_with (fail)
  refine K4.mono ?_
  rintro e w' ⟨rfl, rfl⟩
  go_wp2_with (fail)
  refine K5.mono ?_
  rintro e w' ⟨rfl, rfl⟩
  go_wp2_with (fail)
  refine K6.mono ?_
  rintro e w' ⟨rfl, rfl⟩
  go_wp2_with (fail)
  go_ret
  exact ⟨rfl, hf2.below (fun _ _ => id)⟩
end Go.Proofs.Ytmpknmcgljpfkaa
