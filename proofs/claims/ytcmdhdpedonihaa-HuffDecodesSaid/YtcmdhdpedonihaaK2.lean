/- Where huff.codes stands in memory. -/
import Derived.Test.YtcmdhdpedonihaaK1
import Derived.Deep.MidRow
import Derived.Deep.WholeRow
import Derived.Laws.ResultCell
import Derived.Deep.LoopGhost
namespace Go.Proofs.Ytcmdhdpedonihaa
open Go.RowKit
set_option maxRecDepth 100000
set_option maxHeartbeats 4000000
set_option linter.unusedVariables false

structure CS (w wr : World) (L : List (Nat × Nat)) (wd bt : Nat) : Prop where
  fr : Fr (fun k => w.heap.size ≤ k) w wr
  sz : w.heap.size + 4 ≤ wr.heap.size
  res : wr.heap[w.heap.size]? = some (.cells (cellsP (noCodes)).toArray 55 (0, 0))
  all : wr.heap[w.heap.size + 1]? = some (.cells (cellsP L).toArray 55 (0, 0))
  nx : wr.heap[w.heap.size + 1 + 1]? = some (.cells #[.int .u32 (wd : Int), .int .i64 (bt : Int)] 54 (0, 0))
  rw : wr.heap[w.heap.size + 1 + 1 + 1]? = some (.cells (rowCells tbl).toArray 45 (0, 0))

theorem zero_codes : (∀ w, (zeroValue 55).run Try.prog w = .ok (.agg (cellsP (noCodes)).toArray) w) ∧ (Try.prog.info? 55).map (·.size) = some 514 :=
  zero_of_info (by kernel_rfl)

theorem last_at {w : World} {n : Nat} (o : Obj) (h : w.heap.size = n) : (w.alloc o).heap[n]? = some o := by
  subst h; exact heap_alloc_last w o
theorem past_at {w : World} {n : Nat} (o : Obj) {x : Obj} (h : w.heap[n]? = some x) : (w.alloc o).heap[n]? = some x := by
  rw [Below.heap_alloc _ _ _ (lt_of_heap h)]; exact h

theorem CS.start (w : World) : CS w ((((w.alloc (.cells (cellsP noCodes).toArray 55)).alloc (.cells (cellsP noCodes).toArray 55)).alloc (.cells #[.int .u32 0, .int .i64 0] 54)).alloc (.cells (rowCells tbl).toArray 45)) (stAt 0).1 (stAt 0).2.1 (stAt 0).2.2 :=
  ⟨((((Fr.refl _ w).alloc _).alloc _).alloc _).alloc _, by simp, past_at _ (past_at _ (past_at _ (last_at _ rfl))), past_at _ (past_at _ (last_at _ (by simp))), past_at _ (last_at _ (by simp)), last_at _ (by simp)⟩

theorem CS.alloc {w wr : World} {L : List (Nat × Nat)} {wd bt : Nat} (h : CS w wr L wd bt) (o : Obj) : CS w (wr.alloc o) L wd bt :=
  ⟨h.fr.alloc o, by have := h.sz; simp; omega, past_at _ h.res, past_at _ h.all, past_at _ h.nx, past_at _ h.rw⟩
theorem CS.drew {w wr : World} {L : List (Nat × Nat)} {wd bt : Nat} (h : CS w wr L wd bt) : CS w wr.drew L wd bt :=
  ⟨h.fr.drew, h.sz, h.res, h.all, h.nx, h.rw⟩
theorem CS.drewN {w wr : World} {L : List (Nat × Nat)} {wd bt : Nat} (h : CS w wr L wd bt) (n : Nat) : CS w (wr.drewN n) L wd bt :=
  ⟨h.fr.drewN n, h.sz, h.res, h.all, h.nx, h.rw⟩
theorem CS.word {w wr : World} {L : List (Nat × Nat)} {wd bt : Nat} (h : CS w wr L wd bt) (wd' : Nat) : CS w (wr.setCell ⟨w.heap.size + 1 + 1, 0, none⟩ (.int .u32 (wd' : Int))) L wd' bt :=
  ⟨h.fr.setS (by omega) _ _, by simpa using h.sz, by rw [Below.heap_setCell _ _ _ _ (by simp; omega)]; exact h.res, by rw [Below.heap_setCell _ _ _ _ (by simp)]; exact h.all,
    by rw [heap_setCell_same _ _ _ _ _ _ h.nx]; rfl, by rw [Below.heap_setCell _ _ _ _ (by simp)]; exact h.rw⟩
theorem CS.bits {w wr : World} {L : List (Nat × Nat)} {wd bt : Nat} (h : CS w wr L wd bt) (bt' : Nat) : CS w (wr.setCell ⟨w.heap.size + 1 + 1, 1, none⟩ (.int .i64 (bt' : Int))) L wd bt' :=
  ⟨h.fr.setS (by omega) _ _, by simpa using h.sz, by rw [Below.heap_setCell _ _ _ _ (by simp; omega)]; exact h.res, by rw [Below.heap_setCell _ _ _ _ (by simp)]; exact h.all,
    by rw [heap_setCell_same _ _ _ _ _ _ h.nx]; rfl, by rw [Below.heap_setCell _ _ _ _ (by simp)]; exact h.rw⟩
theorem CS.put {w wr : World} {L : List (Nat × Nat)} {wd bt : Nat} (h : CS w wr L wd bt) (s a b : Nat) :
    CS w ((wr.setCell ⟨w.heap.size + 1, s * 2, none⟩ (.int .u32 (a : Int))).setCell ⟨w.heap.size + 1, s * 2 + 1, none⟩ (.int .i64 (b : Int))) (L.set s (a, b)) wd bt :=
  ⟨(h.fr.setS (by omega) _ _).setS (by omega) _ _, by simpa using h.sz,
    by rw [Below.heap_setCell _ _ _ _ (by simp), Below.heap_setCell _ _ _ _ (by simp)]; exact h.res,
    by rw [heap_setCell_same _ _ _ _ _ _ (heap_setCell_same _ _ _ _ _ _ h.all), ← cellsP_set L s (a, b)]; simp,
    by rw [Below.heap_setCell _ _ _ _ (by simp), Below.heap_setCell _ _ _ _ (by simp)]; exact h.nx,
    by rw [Below.heap_setCell _ _ _ _ (by simp; omega), Below.heap_setCell _ _ _ _ (by simp; omega)]; exact h.rw⟩

end Go.Proofs.Ytcmdhdpedonihaa
