/- The walks of TableStatics and TableSizes. -/
import Derived.Test.YtkipeifkfgbkeaaT7
import Derived.BigQuiet
import Derived.Deep.RegionHeldLaw
namespace Go.Proofs.Ytkipeifkfgbkeaa
open Go.RowKit
set_option maxRecDepth 100000
set_option maxHeartbeats 4000000
set_option linter.unusedVariables false

theorem heap_below {B : Nat} {w w' : World} {b : Nat} {o : Obj} (hB : Below B w w') (hb : b < B) (h : w.heap[b]? = some o) : w'.heap[b]? = some o := (hB.block b hb).trans h
/-- A header that was laid in memory ahead of a call lies there behind it. -/
theorem kept3 {w w2 : World} {a0 a1 a2 : Value} {t : TypeId} (b : Below (w.alloc (.cells #[a0, a1, a2] t)).heap.size (w.alloc (.cells #[a0, a1, a2] t)) w2) (o : Obj) :
    (w2.alloc o).cell? ⟨w.heap.size, 0, none⟩ = some a0 ∧ (w2.alloc o).cell? ⟨w.heap.size, 1, none⟩ = some a1 ∧ (w2.alloc o).cell? ⟨w.heap.size, 2, none⟩ = some a2 := by
  have h := heap_of_alloc (heap_below b (by simp) (heap_alloc_new w _)) o
  exact ⟨cell_of_heap h rfl, cell_of_heap h rfl, cell_of_heap h rfl⟩
theorem rSize_in (n v : ByteArray) (s : Bool) (w : World) (hn : n.size < 2 ^ 60) (hv : v.size < 2 ^ 60) :
    Calls Try.prog 24 #[.agg #[.string n, .string v, .bool s]] w fun e w' => e = .returned (.int .i64 ((n.size + v.size + 32 : Nat) : Int)) ∧ w' = w.alloc (.cells #[.string n, .string v, .bool s] 59) := by
  go_enter Try.func24, Try.ntmps24
  go_wp2_with (fail)
  go_ret
  exact ⟨by simp, rfl⟩
end Go.Proofs.Ytkipeifkfgbkeaa
