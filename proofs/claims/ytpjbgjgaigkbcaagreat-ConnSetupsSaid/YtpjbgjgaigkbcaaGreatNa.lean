/- What is asked of numbers in a row: rising; sizes. -/
import Derived.Test.YtpjbgjgaigkbcaaGreatB1
import Derived.Test.YtpjbgjgaigkbcaaGreatRows
import Derived.OwnWalk
import Derived.RegionTactic
import Derived.BigQuiet
import Derived.LoopN
import Derived.Deep.QuietTactic
import Derived.Deep.Cut
import Derived.WalkLawsBesides
namespace Go.Proofs.YtpjbgjgaigkbcaaGreat
open Go.RowKit
set_option linter.unusedVariables false
set_option maxRecDepth 100000
set_option maxHeartbeats 4000000

theorem rising2_in (g : Nat) (a b : Int) (w : World) (c0 : w.cell? ⟨g, 0, none⟩ = some (.int .i64 a)) (c1 : w.cell? ⟨g, 1, none⟩ = some (.int .i64 b)) :
    Calls Tryz.prog 43 #[.slice (some ⟨g, 0, none⟩) 2 2] w fun e w' => e = .returned (.bool (decide (a ≤ b))) ∧ Fr (fun _ => False) w w' := by
  by_cases h : b < a
  · have e : decide (a ≤ b) = false := by simp; omega
    rw [e]
    go_enter Tryz.func43, Tryz.ntmps43
    go_wp2
    refine wp_loop_rounds 2 ?_
    rw [rounds_succ]
    go_wp2
    go_quiet (fail)
    go_wp2
    go_ret
    first | exact ⟨rfl, (Fr.refl _ _).drewN _⟩ | exact ⟨rfl, ((Fr.refl _ _).drewN _).drewN _⟩
  · have e : decide (a ≤ b) = true := by simp; omega
    rw [e]
    go_enter Tryz.func43, Tryz.ntmps43
    go_wp2
    refine wp_loop_rounds 2 ?_
    rw [rounds_succ]
    go_wp2
    go_quiet (fail)
    go_wp2
    rw [rounds_succ]
    go_wp2
    go_ret
    first | exact ⟨rfl, (Fr.refl _ _).drewN _⟩ | exact ⟨rfl, ((Fr.refl _ _).drewN _).drewN _⟩
theorem rising3_in (g : Nat) (a b c : Int) (w : World) (c0 : w.cell? ⟨g, 0, none⟩ = some (.int .i64 a)) (c1 : w.cell? ⟨g, 1, none⟩ = some (.int .i64 b)) (c2 : w.cell? ⟨g, 2, none⟩ = some (.int .i64 c)) :
    Calls Tryz.prog 43 #[.slice (some ⟨g, 0, none⟩) 3 3] w fun e w' => e = .returned (.bool (decide (a ≤ b ∧ b ≤ c))) ∧ Fr (fun _ => False) w w' := by
  by_cases h : b < a
  · have e : decide (a ≤ b ∧ b ≤ c) = false := by simp; omega
    rw [e]
    go_enter Tryz.func43, Tryz.ntmps43
    go_wp2
    refine wp_loop_rounds 3 ?_
    rw [rounds_succ]
    go_wp2
    go_quiet (fail)
    go_wp2
    go_ret
    first | exact ⟨rfl, (Fr.refl _ _).drewN _⟩ | exact ⟨rfl, ((Fr.refl _ _).drewN _).drewN _⟩
  by_cases h2 : c < b
  · have e : decide (a ≤ b ∧ b ≤ c) = false := by simp; omega
    rw [e]
    go_enter Tryz.func43, Tryz.ntmps43
    go_wp2
    refine wp_loop_rounds 3 ?_
    rw [rounds_succ]
    go_wp2
    go_quiet (fail)
    go_wp2
    rw [rounds_succ]
    go_wp2
    go_quiet (fail)
    go_wp2
    go_ret
    first | exact ⟨rfl, (Fr.refl _ _).drewN _⟩ | exact ⟨rfl, ((Fr.refl _ _).drewN _).drewN _⟩
  · have e : decide (a ≤ b ∧ b ≤ c) = true := by simp; omega
    rw [e]
    go_enter Tryz.func43, Tryz.ntmps43
    go_wp2
    refine wp_loop_rounds 3 ?_
    rw [rounds_succ]
    go_wp2
    go_quiet (fail)
    go_wp2
    rw [rounds_succ]
    go_wp2
    go_quiet (fail)
    go_wp2
    rw [rounds_succ]
    go_wp2
    go_ret
    first | exact ⟨rfl, (Fr.refl _ _).drewN _⟩ | exact ⟨rfl, ((Fr.refl _ _).drewN _).drewN _⟩
/-- Numbers that were just built in a row, asked. -/
theorem ask2 (a b : Int) (w : World) : Calls Tryz.prog 43 #[.slice (some ⟨w.heap.size, 0, none⟩) 2 2] (w.alloc (Obj.cells #[.int .i64 a, .int .i64 b] 3)) fun e w' => e = .returned (.bool (decide (a ≤ b))) ∧ Fr (fun _ => False) w w' := by
  refine (rising2_in w.heap.size a b _ (cell_of_heap (heap_alloc_new _ _) rfl) (cell_of_heap (heap_alloc_new _ _) rfl)).mono ?_
  rintro e w' ⟨rfl, h⟩
  exact ⟨rfl, ((Fr.refl _ _).alloc _).trans h⟩
theorem ask3 (a b c : Int) (w : World) : Calls Tryz.prog 43 #[.slice (some ⟨w.heap.size, 0, none⟩) 3 3] (w.alloc (Obj.cells #[.int .i64 a, .int .i64 b, .int .i64 c] 3)) fun e w' => e = .returned (.bool (decide (a ≤ b ∧ b ≤ c))) ∧ Fr (fun _ => False) w w' := by
  refine (rising3_in w.heap.size a b c _ (cell_of_heap (heap_alloc_new _ _) rfl) (cell_of_heap (heap_alloc_new _ _) rfl) (cell_of_heap (heap_alloc_new _ _) rfl)).mono ?_
  rintro e w' ⟨rfl, h⟩
  exact ⟨rfl, ((Fr.refl _ _).alloc _).trans h⟩
/-- A size that a window may have at first. -/
def sizB (n : Int) : Bool := decide (0 ≤ n ∧ n ≤ 2147483647)
theorem sized_yes (n : Int) (w : World) (hb : sizB n = true) : Calls Tryz.prog 33 #[.int .i64 n] w fun e w' => e = .returned (.tuple #[.agg #[.int .i64 n, .bool true], .int .i64 0]) ∧ Fr (fun _ => False) w w' := by
  have K := fun w => ask3 0 n 2147483647 w
  unfold sizB at hb
  rw [hb] at K
  clear hb
  go_enter Tryz.func33, Tryz.ntmps33
  go_upto_region 1 with (fail)
  obtain ⟨wa, hwa⟩ : ∃ wa, wa = w.alloc (Obj.cells #[.int .i64 0, .bool false] 106) := ⟨_, rfl⟩
  have Fa : Fr (fun _ => False) w wa := by rw [hwa]; exact (Fr.refl _ _).alloc _
  have ba : wa.heap[w.heap.size]? = some (.cells #[.int .i64 0, .bool false] 106 (0, 0)) := by rw [hwa]; exact heap_alloc_new _ _
  rw [← hwa]
  clear hwa
  have ka := K wa
  clear K
  go_upto_region 3 with (go_at_call 43; refine ka.mono ?_; clear ka; rintro e w1 ⟨rfl, f1⟩)
  have b1 := (f1.block _ (lt_of_heap ba) id).trans ba
  have c0 := cell_of_heap (i := 0) b1 rfl
  have c1 := cell_of_heap (i := 1) b1 rfl
  have z0 := frozen_of_heap (i := 0) b1
  have z1 := frozen_of_heap (i := 1) b1
  go_wp2_with (fail)
  have F2 : Fr (fun _ => False) w ((w1.setCell ⟨w.heap.size, 0, none⟩ (.int .i64 n)).setCell ⟨w.heap.size, 1, none⟩ (.bool true)) := ((Fa.trans f1).setCell ⟨w.heap.size, 0, none⟩ (fun h => absurd h (Nat.lt_irrefl _)) _).setCell ⟨w.heap.size, 1, none⟩ (fun h => absurd h (Nat.lt_irrefl _)) _
  exact bodyPost_ret (v := .tuple #[.agg #[.int .i64 n, .bool true], .int .i64 0]) (by simp [results, Tryz.results33, go_sem, c0, c1]) rfl ⟨rfl, F2⟩
theorem sized_no (n : Int) (w : World) (hb : sizB n = false) : Calls Tryz.prog 33 #[.int .i64 n] w fun e w' => e = .returned (.tuple #[.agg #[.int .i64 0, .bool false], .int .i64 1]) ∧ Fr (fun _ => False) w w' := by
  have K := fun w => ask3 0 n 2147483647 w
  unfold sizB at hb
  rw [hb] at K
  clear hb
  go_enter Tryz.func33, Tryz.ntmps33
  go_upto_region 1 with (fail)
  obtain ⟨wa, hwa⟩ : ∃ wa, wa = w.alloc (Obj.cells #[.int .i64 0, .bool false] 106) := ⟨_, rfl⟩
  have Fa : Fr (fun _ => False) w wa := by rw [hwa]; exact (Fr.refl _ _).alloc _
  have ba : wa.heap[w.heap.size]? = some (.cells #[.int .i64 0, .bool false] 106 (0, 0)) := by rw [hwa]; exact heap_alloc_new _ _
  rw [← hwa]
  clear hwa
  have ka := K wa
  clear K
  go_upto_region 2 with (go_at_call 43; refine ka.mono ?_; clear ka; rintro e w1 ⟨rfl, f1⟩)
  have b1 := (f1.block _ (lt_of_heap ba) id).trans ba
  have c0 := cell_of_heap (i := 0) b1 rfl
  have c1 := cell_of_heap (i := 1) b1 rfl
  have z0 := frozen_of_heap (i := 0) b1
  have z1 := frozen_of_heap (i := 1) b1
  go_wp2_with (fail)
  have F2 : Fr (fun _ => False) w ((w1.setCell ⟨w.heap.size, 0, none⟩ (.int .i64 0)).setCell ⟨w.heap.size, 1, none⟩ (.bool false)) := ((Fa.trans f1).setCell ⟨w.heap.size, 0, none⟩ (fun h => absurd h (Nat.lt_irrefl _)) _).setCell ⟨w.heap.size, 1, none⟩ (fun h => absurd h (Nat.lt_irrefl _)) _
  exact bodyPost_ret (v := .tuple #[.agg #[.int .i64 0, .bool false], .int .i64 1]) (by simp [results, Tryz.results33, go_sem, c0, c1]) rfl ⟨rfl, F2⟩
end Go.Proofs.YtpjbgjgaigkbcaaGreat
