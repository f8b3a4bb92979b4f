/- The document's credits. -/
import Derived.Test.YteniphncpanecaaNf
namespace Go.Proofs.Yteniphncpanecaa
open Go.RowKit
set_option linter.unusedVariables false
set_option maxRecDepth 100000
set_option maxHeartbeats 4000000

/-- A credit of the document's. -/
def RCr (w : World) (g : Nat) (m x h o : Int) : Prop := w.heap[g]? = some (.cells #[.int .i64 m, .int .i64 x, .int .i64 h, .int .i64 o] 46 (0, 0))
theorem RCr.fr {S : Nat → Prop} {w w' : World} {g : Nat} {m x h o : Int} (k : RCr w g m x h o) (f : Fr S w w') (hs : ¬ S g) : RCr w' g m x h o := (f.block g (lt_of_heap k) hs).trans k
theorem RCr.setX {w : World} {g : Nat} {m x h o : Int} (y : Int) (k : RCr w g m x h o) : RCr (w.setCell ⟨g, 1, none⟩ (.int .i64 y)) g m y h o := by
  have := heap_set (j := 1) (.int .i64 y) k
  simpa [RCr] using this
theorem RCr.setH {w : World} {g : Nat} {m x h o : Int} (y : Int) (k : RCr w g m x h o) : RCr (w.setCell ⟨g, 2, none⟩ (.int .i64 y)) g m x y o := by
  have := heap_set (j := 2) (.int .i64 y) k
  simpa [RCr] using this
theorem RCr.setO {w : World} {g : Nat} {m x h o : Int} (y : Int) (k : RCr w g m x h o) : RCr (w.setCell ⟨g, 3, none⟩ (.int .i64 y)) g m x h y := by
  have := heap_set (j := 3) (.int .i64 y) k
  simpa [RCr] using this
theorem RCr.cells {w : World} {g : Nat} {m x h o : Int} (k : RCr w g m x h o) : w.cell? ⟨g, 0, none⟩ = some (.int .i64 m) ∧ w.cell? ⟨g, 1, none⟩ = some (.int .i64 x) ∧ w.cell? ⟨g, 2, none⟩ = some (.int .i64 h) ∧ w.cell? ⟨g, 3, none⟩ = some (.int .i64 o) :=
  ⟨cell_of_heap k rfl, cell_of_heap k rfl, cell_of_heap k rfl, cell_of_heap k rfl⟩
theorem RCr.soft {w : World} {g : Nat} {m x h o : Int} (k : RCr w g m x h o) : w.frozen? ⟨g, 1, none⟩ = false ∧ w.frozen? ⟨g, 2, none⟩ = false ∧ w.frozen? ⟨g, 3, none⟩ = false :=
  ⟨frozen_of_heap k, frozen_of_heap k, frozen_of_heap k⟩
theorem rcNew_yes (n : Int) (w : World) (hb : sizB n = true) : Calls Try.prog 20 #[.int .i64 n] w fun e w' => e = .returned (.tuple #[.pointer (some ⟨w.heap.size, 0, none⟩), .int .i64 0]) ∧ RCr w' w.heap.size n n 0 0 ∧ Fr (fun _ => False) w w' := by
  have h := of_decide_eq_true hb
  clear hb
  obtain ⟨h1, h2⟩ := h
  go_enter Try.func20, Try.ntmps20
  go_wp2_with (fail)
  go_ret2
  exact ⟨rfl, heap_alloc_new _ _, (Fr.refl _ _).alloc _⟩
theorem rcNew_no (n : Int) (w : World) (hb : sizB n = false) : Calls Try.prog 20 #[.int .i64 n] w fun e w' => e = .returned (.tuple #[.pointer none, .int .i64 1]) ∧ w = w' := by
  have h := of_decide_eq_false hb
  clear hb
  by_cases h1 : n < 0
  · go_enter Try.func20, Try.ntmps20
    go_wp2_with (fail)
    go_ret2
    exact ⟨rfl, rfl⟩
  · have h2 : 2147483647 < n := by omega
    go_enter Try.func20, Try.ntmps20
    go_wp2_with (fail)
    go_ret2
    exact ⟨rfl, rfl⟩
theorem rcGot_in (g : Nat) (m x h o n : Int) (w : World) (k : RCr w g m x h o) (i : InvC m x h) : Calls Try.prog 22 #[.pointer (some ⟨g, 0, none⟩), .int .i64 n] w fun e w' => e = .returned (.int .i64 (takeE x n)) ∧ RCr w' g m (takeX x n) (gotH x h n) o ∧ Fr (fun k => k = g) w w' := by
  obtain ⟨c0, c1, c2, c3⟩ := k.cells
  obtain ⟨z1, z2, z3⟩ := k.soft
  have HC : Hid (RCr w g m x h o) := k
  obtain ⟨i1, i2, i3, i4⟩ := i
  clear k
  unfold gotH
  by_cases h1 : n < 0
  · rw [(take_arg x h1).1, (take_arg x h1).2, if_neg (show ¬ (1 : Int) = 0 by decide)]
    go_enter Try.func22, Try.ntmps22
    go_wp2_with (fail)
    go_ret
    exact ⟨rfl, HC.out, Fr.refl _ _⟩
  by_cases h2 : x < n
  · have h3 : 0 < n := by omega
    rw [(take_win h3 h2).1, (take_win h3 h2).2, if_neg (show ¬ (110 : Int) = 0 by decide)]
    go_enter Try.func22, Try.ntmps22
    go_wp2_with (fail)
    go_ret
    exact ⟨rfl, HC.out, Fr.refl _ _⟩
  · have h3 : ¬ (0 < n ∧ x < n) := by omega
    rw [(take_ok (by omega) h3).1, (take_ok (by omega) h3).2, if_pos rfl]
    have j1 : -9223372036854775808 ≤ x - n := by omega
    have j2 : x - n ≤ 9223372036854775807 := by omega
    have j3 : -9223372036854775808 ≤ h + n := by omega
    have j4 : h + n ≤ 9223372036854775807 := by omega
    clear h3 i1 i2 i3 i4
    go_enter Try.func22, Try.ntmps22
    go_wp2_with (fail)
    go_ret
    exact ⟨rfl, (HC.out.setX _).setH _, ((Fr.refl _ _).setB _ _).setB _ _⟩
theorem rcUsed_in (g : Nat) (m x h o n : Int) (w : World) (k : RCr w g m x h o) (i : InvC m x h) (ho : o = m - x - h) : Calls Try.prog 24 #[.pointer (some ⟨g, 0, none⟩), .int .i64 n] w fun e w' => e = .returned (.int .i64 (usedE h n)) ∧ RCr w' g m x (usedH h n) (m - x - usedH h n) ∧ Fr (fun k => k = g) w w' := by
  obtain ⟨c0, c1, c2, c3⟩ := k.cells
  obtain ⟨z1, z2, z3⟩ := k.soft
  have HC : Hid (RCr w g m x h o) := k
  obtain ⟨i1, i2, i3, i4⟩ := i
  have HO : Hid (o = m - x - h) := ho
  clear k
  unfold usedE usedH
  by_cases h1 : n < 0
  · rw [if_pos (.inl h1), if_pos (.inl h1)]
    clear ho
    go_enter Try.func24, Try.ntmps24
    go_wp2_with (fail)
    go_ret
    exact ⟨rfl, by rw [← HO.out]; exact HC.out, Fr.refl _ _⟩
  by_cases h2 : h < n
  · rw [if_pos (.inr h2), if_pos (.inr h2)]
    clear ho
    go_enter Try.func24, Try.ntmps24
    go_wp2_with (fail)
    go_ret
    exact ⟨rfl, by rw [← HO.out]; exact HC.out, Fr.refl _ _⟩
  · rw [if_neg (by omega), if_neg (by omega)]
    have j1 : -9223372036854775808 ≤ h - n := by omega
    have j2 : h - n ≤ 9223372036854775807 := by omega
    have j3 : -9223372036854775808 ≤ o + n := by omega
    have j4 : o + n ≤ 9223372036854775807 := by omega
    have HE : Hid (o + n = m - x - (h - n)) := by show _ = _; omega
    clear ho i1 i2 i3 i4
    go_enter Try.func24, Try.ntmps24
    go_wp2_with (fail)
    go_ret
    exact ⟨rfl, by rw [← HE.out]; exact (HC.out.setH _).setO _, ((Fr.refl _ _).setB _ _).setB _ _⟩
theorem rcGive_in (g : Nat) (m x h o : Int) (w : World) (k : RCr w g m x h o) (i : InvC m x h) (ho : o = m - x - h) : Calls Try.prog 26 #[.pointer (some ⟨g, 0, none⟩)] w fun e w' => e = .returned (.int .i64 (giveV m x h)) ∧ RCr w' g m (x + giveV m x h) h (m - (x + giveV m x h) - h) ∧ Fr (fun k => k = g) w w' := by
  obtain ⟨c0, c1, c2, c3⟩ := k.cells
  obtain ⟨z1, z2, z3⟩ := k.soft
  have HC : Hid (RCr w g m x h o) := k
  obtain ⟨i1, i2, i3, i4⟩ := i
  clear k
  have hv0 : o = 0 ∨ 2 * o < m → giveV m x h = 0 := fun h => by unfold giveV; rw [if_pos (by omega)]
  have hv1 : ¬ (o = 0 ∨ 2 * o < m) → giveV m x h = o := fun h => by unfold giveV; rw [if_neg (by omega)]; omega
  have j5 : -9223372036854775808 ≤ 2 * o := by omega
  have j6 : 2 * o ≤ 9223372036854775807 := by omega
  have j7 : -9223372036854775808 ≤ x + o := by omega
  have j8 : x + o ≤ 9223372036854775807 := by omega
  have HE0 : Hid (m - (x + 0) - h = o) := by show _ = _; omega
  have HE1 : Hid (m - (x + o) - h = 0) := by show _ = _; omega
  clear ho i1 i2 i3 i4
  have HD : Hid (∀ k, RCr (w.drewN k) g m x h o) := fun k => HC.out.fr ((Fr.refl (fun _ => False) _).drewN k) id
  by_cases h1 : o = 0
  · rw [hv0 (.inl h1), HE0.out, Int.add_zero]
    clear hv0 hv1
    have HH : Hid (o = 0) := h1
    go_enter Try.func26, Try.ntmps26
    go_wp2_with (fail)
    go_quiet (fail)
    go_wp2_with (fail)
    go_ret
    exact ⟨rfl, HD.out _, (Fr.refl _ _).drewN _⟩
  have hw : IntKind.i64.wrap (2 * o) = 2 * o := by rw [IntKind.wrap_i64]; omega
  have he : (o == 0) = false := by simpa using h1
  by_cases h2 : 2 * o < m
  · rw [hv0 (.inr h2), HE0.out, Int.add_zero]
    clear hv0 hv1
    go_enter Try.func26, Try.ntmps26
    go_wp2_with (fail)
    go_quiet (fail)
    go_wp2_with (fail)
    go_ret
    exact ⟨rfl, HD.out _, (Fr.refl _ _).drewN _⟩
  · rw [hv1 (by omega), HE1.out]
    clear hv0 hv1
    go_enter Try.func26, Try.ntmps26
    go_wp2_with (fail)
    go_quiet (fail)
    obtain ⟨w1, hw1⟩ : ∃ w1, w1 = w.drewN nq := ⟨_, rfl⟩
    have f1 : Fr (fun k => k = g) w w1 := by rw [hw1]; exact (Fr.refl _ _).drewN _
    have H1 : Hid (RCr w1 g m x h o) := by rw [hw1]; exact HD.out _
    rw [← hw1]
    clear hw1 c0 c1 c2 c3 z1 z2 z3
    obtain ⟨c0, c1, c2, c3⟩ := H1.out.cells
    obtain ⟨z1, z2, z3⟩ := H1.out.soft
    go_wp2_with (fail)
    go_ret
    exact ⟨rfl, (H1.out.setX _).setO _, (f1.setB _ _).setB _ _⟩
end Go.Proofs.Yteniphncpanecaa
