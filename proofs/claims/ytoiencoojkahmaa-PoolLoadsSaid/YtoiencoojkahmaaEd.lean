/- The program's New, and what awake asks. -/
import Derived.Test.YtoiencoojkahmaaEc
namespace Go.Proofs.Ytoiencoojkahmaa
open Go.RowKit
set_option linter.unusedVariables false
set_option maxRecDepth 100000
set_option maxHeartbeats 4000000

/-- Rules, as a value. -/
def rulV (F R H : Int) : Value := .agg #[.int .i64 F, .int .i64 R, .int .i64 H]
theorem zero_model (w : World) : (zeroValue 84).run Try.prog w = .ok (.agg #[.int .i64 0, .int .i64 0, .int .i64 0, .int .i64 0, .int .i64 0, .int .i64 0]) w := by kernel_rfl
theorem eNew_yes (F R H : Int) (w : World) (hr : OkR F R H) : Calls Try.prog 25 #[.agg #[.int .i64 F, .int .i64 R, .int .i64 H]] w fun e w' => ∃ g, w.heap.size ≤ g ∧ e = .returned (.tuple #[.pointer (some ⟨g, 0, none⟩), .int .i64 0]) ∧ HM w' g F R H ⟨false, 0, 0⟩ ∧ Fr (fun _ => False) w w' := by
  obtain ⟨d1, d2, d3, d4, d5, d6⟩ := hr.decs
  obtain ⟨f1, f2, r1, r2, h1, h2⟩ := hr
  go_enter Try.func25, Try.ntmps25
  go_upto_region 1 with (fail)
  obtain ⟨wa, hwa⟩ : ∃ wa, wa = w.alloc (Obj.cells #[.int .i64 F, .int .i64 R, .int .i64 H] 23) := ⟨_, rfl⟩
  have Fa : Fr (fun _ => False) w wa := by rw [hwa]; exact (Fr.refl _ _).alloc _
  have c0 : wa.cell? ⟨w.heap.size, 0, none⟩ = some (.int .i64 F) := by rw [hwa]; exact cell_of_heap (heap_alloc_new _ _) rfl
  have c1 : wa.cell? ⟨w.heap.size, 1, none⟩ = some (.int .i64 R) := by rw [hwa]; exact cell_of_heap (heap_alloc_new _ _) rfl
  have c2 : wa.cell? ⟨w.heap.size, 2, none⟩ = some (.int .i64 H) := by rw [hwa]; exact cell_of_heap (heap_alloc_new _ _) rfl
  rw [← hwa]
  clear hwa
  go_wp2_with (fail)
  go_ret2
  exact ⟨wa.heap.size, Fa.size, rfl, heap_alloc_new _ _, Fa.alloc _⟩
theorem eNew_no (F R H : Int) (w : World) (hr : ¬ OkR F R H) : Calls Try.prog 25 #[.agg #[.int .i64 F, .int .i64 R, .int .i64 H]] w fun e w' => e = .returned (.tuple #[.pointer none, .int .i64 1]) ∧ Fr (fun _ => False) w w' := by
  have hn := OkR.not hr
  clear hr
  go_enter Try.func25, Try.ntmps25
  go_upto_region 1 with (fail)
  obtain ⟨wa, hwa⟩ : ∃ wa, wa = w.alloc (Obj.cells #[.int .i64 F, .int .i64 R, .int .i64 H] 23) := ⟨_, rfl⟩
  have Fa : Fr (fun _ => False) w wa := by rw [hwa]; exact (Fr.refl _ _).alloc _
  have c0 : wa.cell? ⟨w.heap.size, 0, none⟩ = some (.int .i64 F) := by rw [hwa]; exact cell_of_heap (heap_alloc_new _ _) rfl
  have c1 : wa.cell? ⟨w.heap.size, 1, none⟩ = some (.int .i64 R) := by rw [hwa]; exact cell_of_heap (heap_alloc_new _ _) rfl
  have c2 : wa.cell? ⟨w.heap.size, 2, none⟩ = some (.int .i64 H) := by rw [hwa]; exact cell_of_heap (heap_alloc_new _ _) rfl
  rw [← hwa]
  clear hwa
  rcases hn with a1 | ⟨a1, a2⟩ | ⟨a1, a2, a3⟩ | ⟨a1, a2, a3, a4⟩ | ⟨a1, a2, a3, a4, a5⟩ | ⟨a1, a2, a3, a4, a5, a6⟩
  all_goals
    go_wp2_with (fail)
    go_ret2
    exact ⟨rfl, Fa⟩
end Go.Proofs.Ytoiencoojkahmaa
