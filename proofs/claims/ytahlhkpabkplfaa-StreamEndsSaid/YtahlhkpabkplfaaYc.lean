/- Streams of the program's in memory; contracts of made, numbered, comes, isOwn, sideOf, drop. -/
import Derived.Test.YtahlhkpabkplfaaMu
import Derived.Test.YtahlhkpabkplfaaYa
import Derived.Deep.QuietTactic
namespace Go.Proofs.Ytahlhkpabkplfaa
open Go.RowKit Go.Maps
set_option linter.unusedVariables false
set_option maxRecDepth 100000
set_option maxHeartbeats 4000000

/-- What a streams' block holds. -/
structure Yst where
  mb : Nat
  sv : Bool
  ol : Int
  oo : Int
  om : Int
  pl : Int
  po : Int
  pm : Int
  rg : List Int
  nx : Int
def ycells (y : Yst) : Array Value :=
  (Value.map (some y.mb) :: .bool y.sv :: .int .i64 y.ol :: .int .i64 y.oo :: .int .i64 y.om :: .int .i64 y.pl :: .int .i64 y.po :: .int .i64 y.pm :: (y.rg.map (Value.int .i64) ++ [.int .i64 y.nx])).toArray
def StC (w : World) (g : Nat) (y : Yst) : Prop := w.heap[g]? = some (.cells (ycells y) 60 (0, 0)) ∧ y.rg.length = 64
theorem StC.lt {w : World} {g : Nat} {y : Yst} (h : StC w g y) : g < w.heap.size := lt_of_heap h.1
theorem StC.fr {S : Nat → Prop} {w w' : World} {g : Nat} {y : Yst} (h : StC w g y) (hf : Fr S w w') (hs : ¬ S g) : StC w' g y := ⟨(hf.block g h.lt hs).trans h.1, h.2⟩
theorem StC.cells {w : World} {g : Nat} {y : Yst} (h : StC w g y) : w.cell? ⟨g, 0, none⟩ = some (.map (some y.mb)) ∧ w.cell? ⟨g, 1, none⟩ = some (.bool y.sv) ∧ w.cell? ⟨g, 2, none⟩ = some (.int .i64 y.ol) ∧ w.cell? ⟨g, 3, none⟩ = some (.int .i64 y.oo) ∧ w.cell? ⟨g, 4, none⟩ = some (.int .i64 y.om) ∧ w.cell? ⟨g, 5, none⟩ = some (.int .i64 y.pl) ∧ w.cell? ⟨g, 6, none⟩ = some (.int .i64 y.po) ∧ w.cell? ⟨g, 7, none⟩ = some (.int .i64 y.pm) :=
  ⟨cell_of_heap h.1 rfl, cell_of_heap h.1 rfl, cell_of_heap h.1 rfl, cell_of_heap h.1 rfl, cell_of_heap h.1 rfl, cell_of_heap h.1 rfl, cell_of_heap h.1 rfl, cell_of_heap h.1 rfl⟩
theorem StC.next {w : World} {g : Nat} {y : Yst} (h : StC w g y) : w.cell? ⟨g, 72, none⟩ = some (.int .i64 y.nx) := by
  refine cell_of_heap h.1 ?_
  have h2 := h.2
  simp [ycells, h2]
theorem StC.ring {w : World} {g : Nat} {y : Yst} (h : StC w g y) (j : Nat) (hj : j < 64) : w.cell? ⟨g, 8 + j, none⟩ = some (.int .i64 (y.rg.getD j 0)) := by
  refine cell_of_heap h.1 ?_
  have h2 := h.2
  rw [Nat.add_comm 8 j]
  simp [ycells]
  rw [List.getElem?_append_left (by simp; omega)]
  simp [List.getElem?_eq_getElem (show j < y.rg.length by omega)]
theorem StC.set {w : World} {g j : Nat} {y y' : Yst} {v : Value} (h : StC w g y) (e : (ycells y).setIfInBounds j v = ycells y') (hl : y'.rg.length = 64) : StC (w.setCell ⟨g, j, none⟩ v) g y' := by
  refine ⟨?_, hl⟩
  have hl := h.lt
  have h1 := h.1
  simp [World.setCell]
  rw [Array.getElem?_eq_getElem hl] at h1
  simp at h1
  simp [Array.modify, Array.modifyM, hl, h1, e]
theorem set_ol (y : Yst) (v : Int) : (ycells y).setIfInBounds 2 (.int .i64 v) = ycells { y with ol := v } := by simp [ycells]
theorem set_oo (y : Yst) (v : Int) : (ycells y).setIfInBounds 3 (.int .i64 v) = ycells { y with oo := v } := by simp [ycells]
theorem set_om (y : Yst) (v : Int) : (ycells y).setIfInBounds 4 (.int .i64 v) = ycells { y with om := v } := by simp [ycells]
theorem set_pl (y : Yst) (v : Int) : (ycells y).setIfInBounds 5 (.int .i64 v) = ycells { y with pl := v } := by simp [ycells]
theorem set_po (y : Yst) (v : Int) : (ycells y).setIfInBounds 6 (.int .i64 v) = ycells { y with po := v } := by simp [ycells]
theorem set_pm (y : Yst) (v : Int) : (ycells y).setIfInBounds 7 (.int .i64 v) = ycells { y with pm := v } := by simp [ycells]
theorem set_nx (y : Yst) (v : Int) (h : y.rg.length = 64) : (ycells y).setIfInBounds 72 (.int .i64 v) = ycells { y with nx := v } := by
  simp [ycells]
  rw [List.set_append_right _ _ (by simp [h])]
  simp [h]
theorem set_rg (y : Yst) (j : Nat) (v : Int) (h : y.rg.length = 64) (hj : j < 64) : (ycells y).setIfInBounds (8 + j) (.int .i64 v) = ycells { y with rg := y.rg.set j v } := by
  rw [Nat.add_comm 8 j]
  simp [ycells]
  rw [List.set_append_left _ _ (by simp [h, hj])]

theorem yneq_some (bm : Nat) (w : World) : (binOp .neq 55 (.map (some bm)) (.map none)).run Try.prog w = .ok (.bool true) w := by kernel_rfl
theorem yneq_none (w : World) : (binOp .neq 55 (.map none) (.map none)).run Try.prog w = .ok (.bool false) w := by kernel_rfl
theorem ymade_in (g : Nat) (y : Yst) (w : World) (h : StC w g y) : Calls Try.prog 37 #[.pointer (some ⟨g, 0, none⟩)] w fun e w' => e = .returned (.bool true) ∧ w = w' := by
  obtain ⟨c0, -⟩ := h.cells
  have hne := yneq_some
  go_enter Try.func37, Try.ntmps37
  go_wp2_with (fail)
  go_ret
  exact ⟨rfl, rfl⟩
theorem ymade_zero (g : Nat) (w : World) (h : w.cell? ⟨g, 0, none⟩ = some (.map none)) : Calls Try.prog 37 #[.pointer (some ⟨g, 0, none⟩)] w fun e w' => e = .returned (.bool false) ∧ w = w' := by
  have hne := yneq_none
  go_enter Try.func37, Try.ntmps37
  go_wp2_with (fail)
  go_ret
  exact ⟨rfl, rfl⟩
theorem ymade_nil (w : World) : Calls Try.prog 37 #[.pointer none] w fun e w' => e = .returned (.bool false) ∧ w = w' := by
  go_enter Try.func37, Try.ntmps37
  go_wp2_with (fail)
  go_ret
  exact ⟨rfl, rfl⟩
/-- A number that a stream can have. -/
def numB (d : Int) : Bool := decide (1 ≤ d ∧ d ≤ 2147483647)
theorem numB_true {d : Int} (h : numB d = true) : 1 ≤ d ∧ d ≤ 2147483647 := of_decide_eq_true h
theorem numB_false {d : Int} (h : numB d = false) : ¬ (1 ≤ d ∧ d ≤ 2147483647) := of_decide_eq_false h
theorem ynumbered_in (d : Int) (w : World) : Calls Try.prog 39 #[.int .i64 d] w fun e w' => e = .returned (.bool (numB d)) ∧ w = w' := by
  by_cases h1 : 1 ≤ d
  · by_cases h2 : d ≤ 2147483647
    · have e : numB d = true := by simp [numB, h1, h2]
      rw [e]
      go_enter Try.func39, Try.ntmps39
      go_wp2_with (fail)
      go_ret
      exact ⟨by simp, rfl⟩
    · have e : numB d = false := by simp [numB, h1]; omega
      rw [e]
      go_enter Try.func39, Try.ntmps39
      go_wp2_with (fail)
      go_ret
      exact ⟨by simp; try omega, rfl⟩
  · have e : numB d = false := by simp [numB, h1]
    rw [e]
    go_enter Try.func39, Try.ntmps39
    go_wp2_with (fail)
    go_ret
    exact ⟨rfl, rfl⟩
theorem ycomes_in (d : Int) (w : World) : Calls Try.prog 43 #[.int .i64 d] w fun e w' => e = .returned (.bool (decide (0 ≤ d ∧ d ≤ 4))) ∧ w = w' := by
  by_cases h1 : 0 ≤ d
  · by_cases h2 : d ≤ 4
    · have e : decide (0 ≤ d ∧ d ≤ 4) = true := by simp [h1, h2]
      rw [e]
      go_enter Try.func43, Try.ntmps43
      go_wp2_with (fail)
      go_ret
      exact ⟨by simp, rfl⟩
    · have e : decide (0 ≤ d ∧ d ≤ 4) = false := by simp [h1]; omega
      rw [e]
      go_enter Try.func43, Try.ntmps43
      go_wp2_with (fail)
      go_ret
      exact ⟨by simp; try omega, rfl⟩
  · have e : decide (0 ≤ d ∧ d ≤ 4) = false := by simp [h1]
    rw [e]
    go_enter Try.func43, Try.ntmps43
    go_wp2_with (fail)
    go_ret
    exact ⟨rfl, rfl⟩
theorem yisOwn_in (g : Nat) (y : Yst) (d : Int) (w : World) (h : StC w g y) (hd : 1 ≤ d) : Calls Try.prog 41 #[.pointer (some ⟨g, 0, none⟩), .int .i64 d] w fun e w' => e = .returned (.bool (ownS y.sv d)) ∧ w = w' := by
  obtain ⟨c0, c1, -⟩ := h.cells
  have hm : d.tmod 2 = d % 2 := Int.tmod_eq_emod_of_nonneg (by omega)
  go_enter Try.func41, Try.ntmps41
  go_wp2_with (fail)
  go_ret
  exact ⟨rfl, rfl⟩
theorem ysideOf_in (g : Nat) (y : Yst) (d : Int) (w : World) (h : StC w g y) (hd : 1 ≤ d) : Calls Try.prog 40 #[.pointer (some ⟨g, 0, none⟩), .int .i64 d] w fun e w' => e = .returned (.pointer (some ⟨g, if ownS y.sv d then 2 else 5, none⟩)) ∧ w = w' := by
  have K := yisOwn_in g y d w h hd
  cases ho : ownS y.sv d
  · rw [ho] at K
    go_enter Try.func40, Try.ntmps40
    go_wp2_with (go_at_call 41; refine K.mono ?_; clear K; rintro e w' ⟨rfl, rfl⟩)
    go_ret
    exact ⟨rfl, rfl⟩
  · rw [ho] at K
    go_enter Try.func40, Try.ntmps40
    go_wp2_with (go_at_call 41; refine K.mono ?_; clear K; rintro e w' ⟨rfl, rfl⟩)
    go_ret
    exact ⟨rfl, rfl⟩
end Go.Proofs.Ytahlhkpabkplfaa
