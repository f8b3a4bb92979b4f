/- The document's windows. -/
import Derived.Test.YteniphncpanecaaNc
namespace Go.Proofs.Yteniphncpanecaa
open Go.RowKit
set_option linter.unusedVariables false
set_option maxRecDepth 100000
set_option maxHeartbeats 4000000

/-- A window of the document's of the size x. -/
def RWin (w : World) (g : Nat) (x : Int) : Prop := w.heap[g]? = some (.cells #[.int .i64 x] 36 (0, 0))
theorem RWin.fr {S : Nat → Prop} {w w' : World} {g : Nat} {x : Int} (h : RWin w g x) (f : Fr S w w') (hs : ¬ S g) : RWin w' g x := (f.block g (lt_of_heap h) hs).trans h
theorem RWin.set {w : World} {g : Nat} {x : Int} (y : Int) (h : RWin w g x) : RWin (w.setCell ⟨g, 0, none⟩ (.int .i64 y)) g y := by
  have := heap_set (j := 0) (.int .i64 y) h
  simpa [RWin] using this
theorem rwNew_yes (n : Int) (w : World) (hb : sizB n = true) : Calls Try.prog 10 #[.int .i64 n] w fun e w' => e = .returned (.tuple #[.pointer (some ⟨w.heap.size, 0, none⟩), .int .i64 0]) ∧ RWin w' w.heap.size n ∧ Fr (fun _ => False) w w' := by
  have h := of_decide_eq_true hb
  clear hb
  obtain ⟨h1, h2⟩ := h
  go_enter Try.func10, Try.ntmps10
  go_wp2_with (fail)
  go_ret2
  exact ⟨rfl, heap_alloc_new _ _, (Fr.refl _ _).alloc _⟩
theorem rwNew_no (n : Int) (w : World) (hb : sizB n = false) : Calls Try.prog 10 #[.int .i64 n] w fun e w' => e = .returned (.tuple #[.pointer none, .int .i64 1]) ∧ w = w' := by
  have h := of_decide_eq_false hb
  clear hb
  by_cases h1 : n < 0
  · go_enter Try.func10, Try.ntmps10
    go_wp2_with (fail)
    go_ret2
    exact ⟨rfl, rfl⟩
  · have h2 : 2147483647 < n := by omega
    go_enter Try.func10, Try.ntmps10
    go_wp2_with (fail)
    go_ret2
    exact ⟨rfl, rfl⟩
theorem rwTake_in (g : Nat) (x n : Int) (w : World) (h : RWin w g x) (hi : InvW x) : Calls Try.prog 12 #[.pointer (some ⟨g, 0, none⟩), .int .i64 n] w fun e w' => e = .returned (.int .i64 (takeE x n)) ∧ RWin w' g (takeX x n) ∧ Fr (fun k => k = g) w w' := by
  have c0 : w.cell? ⟨g, 0, none⟩ = some (.int .i64 x) := cell_of_heap h rfl
  have z0 : w.frozen? ⟨g, 0, none⟩ = false := frozen_of_heap h
  have HW : Hid (RWin w g x) := h
  obtain ⟨i1, i2⟩ := hi
  clear h
  by_cases h1 : n < 0
  · rw [(take_arg x h1).1, (take_arg x h1).2]
    go_enter Try.func12, Try.ntmps12
    go_wp2_with (fail)
    go_ret
    exact ⟨rfl, HW.out, Fr.refl _ _⟩
  by_cases h2 : 0 < n
  · by_cases h3 : x < n
    · rw [(take_win h2 h3).1, (take_win h2 h3).2]
      go_enter Try.func12, Try.ntmps12
      go_wp2_with (fail)
      go_ret
      exact ⟨rfl, HW.out, Fr.refl _ _⟩
    · have hk : 0 ≤ n ∧ ¬ (0 < n ∧ x < n) := ⟨by omega, by omega⟩
      rw [(take_ok hk.1 hk.2).1, (take_ok hk.1 hk.2).2]
      clear hk
      go_enter Try.func12, Try.ntmps12
      go_wp2_with (fail)
      go_ret
      exact ⟨rfl, HW.out.set _, (Fr.refl _ _).setB _ _⟩
  · have hk : 0 ≤ n ∧ ¬ (0 < n ∧ x < n) := ⟨by omega, by omega⟩
    rw [(take_ok hk.1 hk.2).1, (take_ok hk.1 hk.2).2]
    clear hk
    go_enter Try.func12, Try.ntmps12
    go_wp2_with (fail)
    go_ret
    exact ⟨rfl, HW.out.set _, (Fr.refl _ _).setB _ _⟩
theorem rwgrow_in (g : Nat) (x n : Int) (w : World) (h : RWin w g x) : Calls Try.prog 33 #[.pointer (some ⟨g, 0, none⟩), .int .i64 n] w fun e w' => e = .returned (.int .i64 (if 2147483647 < wrap64 (x + n) then 2 else 0)) ∧ RWin w' g (if 2147483647 < wrap64 (x + n) then x else wrap64 (x + n)) ∧ Fr (fun k => k = g) w w' := by
  have c0 : w.cell? ⟨g, 0, none⟩ = some (.int .i64 x) := cell_of_heap h rfl
  have z0 : w.frozen? ⟨g, 0, none⟩ = false := frozen_of_heap h
  have HW : Hid (RWin w g x) := h
  clear h
  by_cases h2 : 2147483647 < wrap64 (x + n)
  · rw [if_pos h2, if_pos h2]
    go_enter Try.func33, Try.ntmps33
    go_wp2_with (fail)
    go_ret
    exact ⟨rfl, HW.out, Fr.refl _ _⟩
  · rw [if_neg h2, if_neg h2]
    go_enter Try.func33, Try.ntmps33
    go_wp2_with (fail)
    go_ret
    exact ⟨rfl, HW.out.set _, (Fr.refl _ _).setB _ _⟩
theorem grow_add {least x n : Int} (h : ¬ (n < least ∨ 2147483647 < n)) : addE least x n = (if 2147483647 < wrap64 (x + n) then 2 else 0) ∧ addX least x n = (if 2147483647 < wrap64 (x + n) then x else wrap64 (x + n)) := by
  by_cases h2 : 2147483647 < wrap64 (x + n)
  · rw [(add_long h h2).1, (add_long h h2).2, if_pos h2, if_pos h2]; exact ⟨rfl, rfl⟩
  · rw [(add_ok h h2).1, (add_ok h h2).2, if_neg h2, if_neg h2]; exact ⟨rfl, rfl⟩
theorem rwAdd_in (g : Nat) (x n : Int) (w : World) (h : RWin w g x) : Calls Try.prog 14 #[.pointer (some ⟨g, 0, none⟩), .int .i64 n] w fun e w' => e = .returned (.int .i64 (addE 1 x n)) ∧ RWin w' g (addX 1 x n) ∧ Fr (fun k => k = g) w w' := by
  have HW : Hid (RWin w g x) := h
  have K := rwgrow_in g x n w h
  clear h
  by_cases h1 : n < 1
  · rw [(add_arg x (.inl h1)).1, (add_arg x (.inl h1)).2]
    clear K
    go_enter Try.func14, Try.ntmps14
    go_wp2_with (fail)
    go_ret
    exact ⟨rfl, HW.out, Fr.refl _ _⟩
  by_cases h2 : 2147483647 < n
  · rw [(add_arg x (.inr h2)).1, (add_arg x (.inr h2)).2]
    clear K
    go_enter Try.func14, Try.ntmps14
    go_wp2_with (fail)
    go_ret
    exact ⟨rfl, HW.out, Fr.refl _ _⟩
  · rw [← (grow_add (least := 1) (by omega)).1, ← (grow_add (least := 1) (by omega)).2] at K
    go_enter Try.func14, Try.ntmps14
    go_wp2_with (go_at_call 33; refine K.mono ?_; clear K; rintro e w1 ⟨rfl, hR, f1⟩)
    go_ret
    exact ⟨rfl, hR, f1⟩
theorem rwShift_in (g : Nat) (x n : Int) (w : World) (h : RWin w g x) : Calls Try.prog 16 #[.pointer (some ⟨g, 0, none⟩), .int .i64 n] w fun e w' => e = .returned (.int .i64 (addE (-2147483647) x n)) ∧ RWin w' g (addX (-2147483647) x n) ∧ Fr (fun k => k = g) w w' := by
  have HW : Hid (RWin w g x) := h
  have K := rwgrow_in g x n w h
  clear h
  by_cases h1 : n < (-2147483647)
  · rw [(add_arg x (.inl h1)).1, (add_arg x (.inl h1)).2]
    clear K
    go_enter Try.func16, Try.ntmps16
    go_wp2_with (fail)
    go_ret
    exact ⟨rfl, HW.out, Fr.refl _ _⟩
  by_cases h2 : 2147483647 < n
  · rw [(add_arg x (.inr h2)).1, (add_arg x (.inr h2)).2]
    clear K
    go_enter Try.func16, Try.ntmps16
    go_wp2_with (fail)
    go_ret
    exact ⟨rfl, HW.out, Fr.refl _ _⟩
  · rw [← (grow_add (least := (-2147483647)) (by omega)).1, ← (grow_add (least := (-2147483647)) (by omega)).2] at K
    go_enter Try.func16, Try.ntmps16
    go_wp2_with (go_at_call 33; refine K.mono ?_; clear K; rintro e w1 ⟨rfl, hR, f1⟩)
    go_ret
    exact ⟨rfl, hR, f1⟩
end Go.Proofs.Yteniphncpanecaa
