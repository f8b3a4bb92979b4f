/- The document's model. -/
import Derived.Test.YtoiencoojkahmaaEd
namespace Go.Proofs.Ytoiencoojkahmaa
open Go.RowKit
set_option linter.unusedVariables false
set_option maxRecDepth 100000
set_option maxHeartbeats 4000000

/-- A model of the document's. -/
def RM (w : World) (g : Nat) (F R H : Int) (s : Hs) : Prop := w.heap[g]? = some (.cells #[.int .i64 F, .int .i64 R, .int .i64 H, .bool s.d, .int .i64 s.r, .int .i64 s.h] 90 (0, 0))
theorem RM.fr {S : Nat → Prop} {w w' : World} {g : Nat} {F R H : Int} {s : Hs} (h : RM w g F R H s) (f : Fr S w w') (hs : ¬ S g) : RM w' g F R H s := (f.block g (lt_of_heap h) hs).trans h
theorem RM.setR {w : World} {g : Nat} {F R H : Int} {d : Bool} {r k : Int} (y : Int) (h : RM w g F R H ⟨d, r, k⟩) : RM (w.setCell ⟨g, 4, none⟩ (.int .i64 y)) g F R H ⟨d, y, k⟩ := by
  have := heap_set (j := 4) (.int .i64 y) h
  simpa [RM] using this
theorem RM.setH {w : World} {g : Nat} {F R H : Int} {d : Bool} {r k : Int} (y : Int) (h : RM w g F R H ⟨d, r, k⟩) : RM (w.setCell ⟨g, 5, none⟩ (.int .i64 y)) g F R H ⟨d, r, y⟩ := by
  have := heap_set (j := 5) (.int .i64 y) h
  simpa [RM] using this
theorem RM.setD {w : World} {g : Nat} {F R H : Int} {d : Bool} {r k : Int} (y : Bool) (h : RM w g F R H ⟨d, r, k⟩) : RM (w.setCell ⟨g, 3, none⟩ (.bool y)) g F R H ⟨y, r, k⟩ := by
  have := heap_set (j := 3) (.bool y) h
  simpa [RM] using this
theorem reNew_yes (F R H : Int) (w : World) (hr : OkR F R H) : Calls Try.prog 28 #[.agg #[.int .i64 F, .int .i64 R, .int .i64 H]] w fun e w' => ∃ g, w.heap.size ≤ g ∧ e = .returned (.tuple #[.pointer (some ⟨g, 0, none⟩), .int .i64 0]) ∧ RM w' g F R H ⟨false, 0, 0⟩ ∧ Fr (fun _ => False) w w' := by
  obtain ⟨d1, d2, d3, d4, d5, d6⟩ := hr.decs
  obtain ⟨f1, f2, r1, r2, h1, h2⟩ := hr
  go_enter Try.func28, Try.ntmps28
  go_upto_region 1 with (fail)
  obtain ⟨wa, hwa⟩ : ∃ wa, wa = w.alloc (Obj.cells #[.int .i64 F, .int .i64 R, .int .i64 H] 23) := ⟨_, rfl⟩
  have Fa : Fr (fun _ => False) w wa := by rw [hwa]; exact (Fr.refl _ _).alloc _
  have c0 : wa.cell? ⟨w.heap.size, 0, none⟩ = some (.int .i64 F) := by rw [hwa]; exact cell_of_heap (heap_alloc_new _ _) rfl
  have c1 : wa.cell? ⟨w.heap.size, 1, none⟩ = some (.int .i64 R) := by rw [hwa]; exact cell_of_heap (heap_alloc_new _ _) rfl
  have c2 : wa.cell? ⟨w.heap.size, 2, none⟩ = some (.int .i64 H) := by rw [hwa]; exact cell_of_heap (heap_alloc_new _ _) rfl
  rw [← hwa]
  clear hwa
  go_wp2_with (fail)
  go_ret2
  exact ⟨wa.heap.size, Fa.size, rfl, heap_alloc_new _ _, Fa.alloc _⟩
theorem reNew_no (F R H : Int) (w : World) (hr : ¬ OkR F R H) : Calls Try.prog 28 #[.agg #[.int .i64 F, .int .i64 R, .int .i64 H]] w fun e w' => e = .returned (.tuple #[.pointer none, .int .i64 1]) ∧ Fr (fun _ => False) w w' := by
  have hn := OkR.not hr
  clear hr
  go_enter Try.func28, Try.ntmps28
  go_upto_region 1 with (fail)
  obtain ⟨wa, hwa⟩ : ∃ wa, wa = w.alloc (Obj.cells #[.int .i64 F, .int .i64 R, .int .i64 H] 23) := ⟨_, rfl⟩
  have Fa : Fr (fun _ => False) w wa := by rw [hwa]; exact (Fr.refl _ _).alloc _
  have c0 : wa.cell? ⟨w.heap.size, 0, none⟩ = some (.int .i64 F) := by rw [hwa]; exact cell_of_heap (heap_alloc_new _ _) rfl
  have c1 : wa.cell? ⟨w.heap.size, 1, none⟩ = some (.int .i64 R) := by rw [hwa]; exact cell_of_heap (heap_alloc_new _ _) rfl
  have c2 : wa.cell? ⟨w.heap.size, 2, none⟩ = some (.int .i64 H) := by rw [hwa]; exact cell_of_heap (heap_alloc_new _ _) rfl
  rw [← hwa]
  clear hwa
  rcases hn with a1 | ⟨a1, a2⟩ | ⟨a1, a2, a3⟩ | ⟨a1, a2, a3, a4⟩ | ⟨a1, a2, a3, a4, a5⟩ | ⟨a1, a2, a3, a4, a5, a6⟩
  all_goals
    go_wp2_with (fail)
    go_ret2
    exact ⟨rfl, Fa⟩
theorem reTick_in (g : Nat) (F R H n : Int) (s : Hs) (w : World) (h : RM w g F R H s) (hi : InvH F n s) : Calls Try.prog 54 #[.pointer (some ⟨g, 0, none⟩)] w fun e w' => e = .returned (.tuple #[]) ∧ RM w' g F R H (tckS s) ∧ Fr (fun k => k = g) w w' := by
  obtain ⟨d, r, k⟩ := s
  obtain ⟨-, -, -, h0, hm⟩ := hi
  dsimp only at h0 hm
  have c5 : w.cell? ⟨g, 5, none⟩ = some (.int .i64 k) := cell_of_heap h rfl
  have z5 : w.frozen? ⟨g, 5, none⟩ = false := frozen_of_heap h
  have HW : Hid (RM w g F R H ⟨d, r, k⟩) := h
  clear h
  by_cases hk : 0 < k
  · rw [tck_one d r hk]
    go_enter Try.func54, Try.ntmps54
    go_wp2_with (fail)
    go_end0
    exact ⟨rfl, HW.out.setH _, (Fr.refl _ _).setB _ _⟩
  · rw [tck_none d r hk]
    go_enter Try.func54, Try.ntmps54
    go_wp2_with (fail)
    go_end0
    exact ⟨rfl, HW.out, Fr.refl _ _⟩
theorem reProbe_in (b : Bool) (g : Nat) (F R H n : Int) (s : Hs) (w : World) (h : RM w g F R H s) (hi : InvH F n s) (hn : n ≤ 9000000000000000000) : Calls Try.prog 57 #[.pointer (some ⟨g, 0, none⟩), .bool b] w fun e w' => e = .returned (.tuple #[]) ∧ RM w' g F R H (prbS F R H b s) ∧ Fr (fun k => k = g) w w' := by
  obtain ⟨d, r, k⟩ := s
  obtain ⟨r0, rn, up, h0, -⟩ := hi
  dsimp only at r0 rn up h0
  have c0 : w.cell? ⟨g, 0, none⟩ = some (.int .i64 F) := cell_of_heap h rfl
  have c1 : w.cell? ⟨g, 1, none⟩ = some (.int .i64 R) := cell_of_heap h rfl
  have c2 : w.cell? ⟨g, 2, none⟩ = some (.int .i64 H) := cell_of_heap h rfl
  have c3 : w.cell? ⟨g, 3, none⟩ = some (.bool d) := cell_of_heap h rfl
  have c4 : w.cell? ⟨g, 4, none⟩ = some (.int .i64 r) := cell_of_heap h rfl
  have c5 : w.cell? ⟨g, 5, none⟩ = some (.int .i64 k) := cell_of_heap h rfl
  have z3 : w.frozen? ⟨g, 3, none⟩ = false := frozen_of_heap h
  have z4 : w.frozen? ⟨g, 4, none⟩ = false := frozen_of_heap h
  have z5 : w.frozen? ⟨g, 5, none⟩ = false := frozen_of_heap h
  have HW : Hid (RM w g F R H ⟨d, r, k⟩) := h
  have b1 : r + 1 ≤ 9223372036854775807 := by omega
  have b2 : -9223372036854775808 ≤ r + 1 := by omega
  clear h
  cases d <;> cases b
  · have up2 := up rfl
    clear up
    by_cases hk : r + 1 < F
    · rw [prb_more R H k hk]
      have hd : decide (r + 1 = F) = false := decide_eq_false (by omega)
      have hd2 : (r + 1 == F) = false := by rw [beq_eq_false_iff_ne]; omega
      clear hk up2
      go_enter Try.func57, Try.ntmps57
      go_wp2_with (fail)
      go_quiet (fail)
      go_wp2_with (fail)
      go_quiet (fail)
      go_wp2_with (fail)
      go_end0
      exact ⟨rfl, ((HW.out.setR _).fr ((Fr.refl (fun _ => False) _).drewN _) id).fr ((Fr.refl (fun _ => False) _).drewN _) id, (((Fr.refl _ _).setB _ _).drewN _).drewN _⟩
    · obtain rfl : F = r + 1 := by omega
      rw [prb_down R H k hk]
      clear hk up2
      go_enter Try.func57, Try.ntmps57
      go_wp2_with (fail)
      go_quiet (fail)
      go_wp2_with (fail)
      (try simp only [Exit.inBlock, Exit.then])
      refine bodyPost_ret (results_none rfl _ _ _) rfl ?_
      exact ⟨rfl, ((((HW.out.setR _).fr ((Fr.refl (fun _ => False) _).drewN _) id).setD true).setR _).setH _, (((((Fr.refl _ _).setB _ _).drewN _).setB _ _).setB _ _).setB _ _⟩
  · rw [prb_off F R H rfl]
    go_enter Try.func57, Try.ntmps57
    go_wp2_with (fail)
    (try simp only [Exit.inBlock, Exit.then])
    refine bodyPost_ret (results_none rfl _ _ _) rfl ?_
    exact ⟨rfl, HW.out.setR _, (Fr.refl _ _).setB _ _⟩
  · rw [prb_off F R H rfl]
    go_enter Try.func57, Try.ntmps57
    go_wp2_with (fail)
    (try simp only [Exit.inBlock, Exit.then])
    refine bodyPost_ret (results_none rfl _ _ _) rfl ?_
    exact ⟨rfl, HW.out.setR _, (Fr.refl _ _).setB _ _⟩
  · clear up
    by_cases hk : r + 1 < R
    · rw [prb_stay F H (.inl hk)]
      have hd : decide (R ≤ r + 1) = false := decide_eq_false (by omega)
      go_enter Try.func57, Try.ntmps57
      go_wp2_with (fail)
      go_quiet (fail)
      go_wp2_with (fail)
      go_quiet (fail)
      go_wp2_with (fail)
      go_end0
      exact ⟨rfl, ((HW.out.setR _).fr ((Fr.refl (fun _ => False) _).drewN _) id).fr ((Fr.refl (fun _ => False) _).drewN _) id, (((Fr.refl _ _).setB _ _).drewN _).drewN _⟩
    have hk2 : R ≤ r + 1 := by omega
    have hd : decide (R ≤ r + 1) = true := decide_eq_true hk2
    by_cases hl : 0 < k
    · rw [prb_stay F H (.inr hl)]
      have hd2 : (k == 0) = false := by rw [beq_eq_false_iff_ne]; omega
      have hd3 : decide (k = 0) = false := decide_eq_false (by omega)
      clear hk
      go_enter Try.func57, Try.ntmps57
      go_wp2_with (fail)
      go_quiet (fail)
      go_wp2_with (fail)
      go_quiet (fail)
      go_wp2_with (fail)
      go_end0
      exact ⟨rfl, ((HW.out.setR _).fr ((Fr.refl (fun _ => False) _).drewN _) id).fr ((Fr.refl (fun _ => False) _).drewN _) id, (((Fr.refl _ _).setB _ _).drewN _).drewN _⟩
    · obtain rfl : k = 0 := by omega
      have hn2 : ¬ (r + 1 < R ∨ (0 : Int) < 0) := by omega
      rw [prb_up F H hn2]
      clear hn2 hk hl
      go_enter Try.func57, Try.ntmps57
      go_wp2_with (fail)
      go_quiet (fail)
      go_wp2_with (fail)
      go_quiet (fail)
      go_wp2_with (fail)
      go_end0
      exact ⟨rfl, (((HW.out.setR _).fr ((Fr.refl (fun _ => False) _).drewN _) id).setD false).setR _, ((((Fr.refl _ _).setB _ _).drewN _).setB _ _).setB _ _⟩
end Go.Proofs.Ytoiencoojkahmaa
