/- Credits of the program's in memory. -/
import Derived.Test.YteniphncpanecaaNc
namespace Go.Proofs.Yteniphncpanecaa
open Go.RowKit
set_option linter.unusedVariables false
set_option maxRecDepth 100000
set_option maxHeartbeats 4000000

/-- What a credit of the whole m, of the window x, with h held, can be. -/
structure InvC (m x h : Int) : Prop where
  x0 : 0 ≤ x
  h0 : 0 ≤ h
  sum : x + h ≤ m
  top : m ≤ 2147483647
theorem InvC.win {m x h : Int} (i : InvC m x h) : InvW x := by
  obtain ⟨h1, h2, h3, h4⟩ := i
  exact ⟨by omega, by omega⟩
/-- What Used answers. -/
def usedE (h n : Int) : Int := if n < 0 ∨ h < n then 1 else 0
/-- What is held behind it. -/
def usedH (h n : Int) : Int := if n < 0 ∨ h < n then h else h - n
/-- What is held behind Got. -/
def gotH (x h n : Int) : Int := if takeE x n = 0 then h + n else h
/-- What Give gives. -/
def giveV (m x h : Int) : Int := if m - x - h = 0 ∨ 2 * (m - x - h) < m then 0 else m - x - h
theorem InvC.got {m x h : Int} (i : InvC m x h) (n : Int) : InvC m (takeX x n) (gotH x h n) := by
  obtain ⟨h1, h2, h3, h4⟩ := i
  unfold gotH
  by_cases g1 : n < 0
  · rw [(take_arg x g1).1, (take_arg x g1).2]; exact ⟨h1, h2, h3, h4⟩
  by_cases g2 : 0 < n ∧ x < n
  · rw [(take_win g2.1 g2.2).1, (take_win g2.1 g2.2).2]; exact ⟨h1, h2, h3, h4⟩
  · rw [(take_ok (by omega) g2).1, (take_ok (by omega) g2).2, if_pos rfl]; exact ⟨by omega, by omega, by omega, h4⟩
theorem InvC.used {m x h : Int} (i : InvC m x h) (n : Int) : InvC m x (usedH h n) := by
  obtain ⟨h1, h2, h3, h4⟩ := i
  unfold usedH
  split
  · exact ⟨h1, h2, h3, h4⟩
  · exact ⟨h1, by omega, by omega, h4⟩
theorem InvC.give {m x h : Int} (i : InvC m x h) : InvC m (x + giveV m x h) h := by
  obtain ⟨h1, h2, h3, h4⟩ := i
  unfold giveV
  split
  · exact ⟨by omega, h2, by omega, h4⟩
  · exact ⟨by omega, h2, by omega, h4⟩
/-- A credit of the program's. -/
def CrAt (w : World) (g : Nat) (m x h : Int) : Prop := w.heap[g]? = some (.cells #[.int .i64 x, .bool true, .int .i64 m, .int .i64 h] 56 (0, 0))
theorem CrAt.fr {S : Nat → Prop} {w w' : World} {g : Nat} {m x h : Int} (k : CrAt w g m x h) (f : Fr S w w') (hs : ¬ S g) : CrAt w' g m x h := (f.block g (lt_of_heap k) hs).trans k
theorem CrAt.setX {w : World} {g : Nat} {m x h : Int} (y : Int) (k : CrAt w g m x h) : CrAt (w.setCell ⟨g, 0, none⟩ (.int .i64 y)) g m y h := by
  have := heap_set (j := 0) (.int .i64 y) k
  simpa [CrAt] using this
theorem CrAt.setH {w : World} {g : Nat} {m x h : Int} (y : Int) (k : CrAt w g m x h) : CrAt (w.setCell ⟨g, 3, none⟩ (.int .i64 y)) g m x y := by
  have := heap_set (j := 3) (.int .i64 y) k
  simpa [CrAt] using this
theorem cmade_in (g : Nat) (m x h : Int) (w : World) (k : CrAt w g m x h) : Calls Try.prog 34 #[.pointer (some ⟨g, 0, none⟩)] w fun e w' => e = .returned (.bool true) ∧ w = w' := by
  have c1 : w.cell? ⟨g, 1, none⟩ = some (.bool true) := cell_of_heap k rfl
  go_enter Try.func34, Try.ntmps34
  go_wp2_with (fail)
  go_ret
  exact ⟨rfl, rfl⟩
theorem cmade_zero (g : Nat) (w : World) (h : w.cell? ⟨g, 1, none⟩ = some (.bool false)) : Calls Try.prog 34 #[.pointer (some ⟨g, 0, none⟩)] w fun e w' => e = .returned (.bool false) ∧ w = w' := by
  go_enter Try.func34, Try.ntmps34
  go_wp2_with (fail)
  go_ret
  exact ⟨rfl, rfl⟩
theorem cmade_nil (w : World) : Calls Try.prog 34 #[.pointer none] w fun e w' => e = .returned (.bool false) ∧ w = w' := by
  go_enter Try.func34, Try.ntmps34
  go_wp2_with (fail)
  go_ret
  exact ⟨rfl, rfl⟩
theorem cSize_in (g : Nat) (m x h : Int) (w : World) (k : CrAt w g m x h) : Calls Try.prog 27 #[.pointer (some ⟨g, 0, none⟩)] w fun e w' => e = .returned (.int .i64 x) ∧ w = w' := by
  have c0 : w.cell? ⟨g, 0, none⟩ = some (.int .i64 x) := cell_of_heap k rfl
  have K := cmade_in g m x h w k
  clear k
  go_enter Try.func27, Try.ntmps27
  go_wp2_with (go_at_call 34; refine K.mono ?_; clear K; rintro e w' ⟨rfl, rfl⟩)
  go_ret
  exact ⟨rfl, rfl⟩
theorem cHeld_in (g : Nat) (m x h : Int) (w : World) (k : CrAt w g m x h) : Calls Try.prog 28 #[.pointer (some ⟨g, 0, none⟩)] w fun e w' => e = .returned (.int .i64 h) ∧ w = w' := by
  have c0 : w.cell? ⟨g, 3, none⟩ = some (.int .i64 h) := cell_of_heap k rfl
  have K := cmade_in g m x h w k
  clear k
  go_enter Try.func28, Try.ntmps28
  go_wp2_with (go_at_call 34; refine K.mono ?_; clear K; rintro e w' ⟨rfl, rfl⟩)
  go_ret
  exact ⟨rfl, rfl⟩
theorem cGot_in (g : Nat) (m x h n : Int) (w : World) (k : CrAt w g m x h) (i : InvC m x h) : Calls Try.prog 21 #[.pointer (some ⟨g, 0, none⟩), .int .i64 n] w fun e w' => e = .returned (.int .i64 (takeE x n)) ∧ CrAt w' g m (takeX x n) (gotH x h n) ∧ Fr (fun k => k = g) w w' := by
  have c0 : w.cell? ⟨g, 0, none⟩ = some (.int .i64 x) := cell_of_heap k rfl
  have z0 : w.frozen? ⟨g, 0, none⟩ = false := frozen_of_heap k
  have KM := cmade_in g m x h w k
  have HC : Hid (CrAt w g m x h) := k
  have hi := i.win
  unfold gotH
  by_cases h1 : n < 0
  · rw [(take_arg x h1).1, (take_arg x h1).2, if_neg (show ¬ (1 : Int) = 0 by decide)]
    have KS := spend_arg g n w h1
    clear k c0 z0
    go_enter Try.func21, Try.ntmps21
    go_wp2_with (first | (go_at_call 34; refine KM.mono ?_; clear KM; rintro e w' ⟨rfl, rfl⟩) | (go_at_call 31; refine KS.mono ?_; clear KS; rintro e w1 ⟨rfl, f1⟩))
    go_ret
    exact ⟨rfl, HC.out.fr f1 id, f1.mono (fun _ _ e => e.elim)⟩
  by_cases h2 : 0 < n ∧ x < n
  · rw [(take_win h2.1 h2.2).1, (take_win h2.1 h2.2).2, if_neg (show ¬ (110 : Int) = 0 by decide)]
    have KS := spend_win g x n w c0 h2.1 h2.2
    clear k c0 z0 h2
    go_enter Try.func21, Try.ntmps21
    go_wp2_with (first | (go_at_call 34; refine KM.mono ?_; clear KM; rintro e w' ⟨rfl, rfl⟩) | (go_at_call 31; refine KS.mono ?_; clear KS; rintro e w1 ⟨rfl, f1⟩))
    go_ret
    exact ⟨rfl, HC.out.fr f1 id, f1.mono (fun _ _ e => e.elim)⟩
  · rw [(take_ok (by omega) h2).1, (take_ok (by omega) h2).2, if_pos rfl]
    have KS := spend_ok g x n w c0 z0 (by omega) h2 hi
    obtain ⟨i1, i2, i3, i4⟩ := i
    have hb : -9223372036854775808 ≤ h + n ∧ h + n ≤ 9223372036854775807 := by omega
    obtain ⟨hb1, hb2⟩ := hb
    clear k c0 z0 h2 hi i1 i2 i3 i4
    go_enter Try.func21, Try.ntmps21
    go_upto_region 6 with (first | (go_at_call 34; refine KM.mono ?_; clear KM; rintro e w' ⟨rfl, rfl⟩) | (go_at_call 31; refine KS.mono ?_; clear KS; rintro e w1 ⟨rfl, wb, fb, hb⟩))
    have H1 : Hid (CrAt w1 g m (x - n) h ∧ Fr (fun k => k = g) w w1) := by
      subst hb
      exact ⟨(HC.out.fr fb id).setX _, (fb.mono (fun _ _ e => e.elim)).setB _ _⟩
    clear hb fb
    have c3 : w1.cell? ⟨g, 3, none⟩ = some (.int .i64 h) := cell_of_heap H1.out.1 rfl
    have z3 : w1.frozen? ⟨g, 3, none⟩ = false := frozen_of_heap H1.out.1
    go_wp2_with (fail)
    go_ret
    exact ⟨rfl, H1.out.1.setH _, H1.out.2.setB _ _⟩
theorem cUsed_in (g : Nat) (m x h n : Int) (w : World) (k : CrAt w g m x h) (i : InvC m x h) : Calls Try.prog 23 #[.pointer (some ⟨g, 0, none⟩), .int .i64 n] w fun e w' => e = .returned (.int .i64 (usedE h n)) ∧ CrAt w' g m x (usedH h n) ∧ Fr (fun k => k = g) w w' := by
  have c3 : w.cell? ⟨g, 3, none⟩ = some (.int .i64 h) := cell_of_heap k rfl
  have KM := cmade_in g m x h w k
  have HC : Hid (CrAt w g m x h) := k
  have K := ask3 0 n h w
  unfold usedE usedH
  by_cases h1 : n < 0 ∨ h < n
  · rw [if_pos h1, if_pos h1]
    have e : decide (0 ≤ n ∧ n ≤ h) = false := by simp; omega
    rw [e] at K
    clear e h1 k
    go_enter Try.func23, Try.ntmps23
    go_wp2_with (first | (go_at_call 34; refine KM.mono ?_; clear KM; rintro e w' ⟨rfl, rfl⟩) | (go_at_call 35; refine K.mono ?_; clear K; rintro e w1 ⟨rfl, f1⟩))
    go_ret
    exact ⟨rfl, HC.out.fr f1 id, f1.mono (fun _ _ e => e.elim)⟩
  · rw [if_neg h1, if_neg h1]
    have e : decide (0 ≤ n ∧ n ≤ h) = true := by simp; omega
    rw [e] at K
    obtain ⟨i1, i2, i3, i4⟩ := i
    have hb1 : -9223372036854775808 ≤ h - n := by omega
    have hb2 : h - n ≤ 9223372036854775807 := by omega
    clear e h1 k i1 i2 i3 i4
    go_enter Try.func23, Try.ntmps23
    go_upto_region 5 with (first | (go_at_call 34; refine KM.mono ?_; clear KM; rintro e w' ⟨rfl, rfl⟩) | (go_at_call 35; refine K.mono ?_; clear K; rintro e w1 ⟨rfl, f1⟩))
    clear c3
    have c3 : w1.cell? ⟨g, 3, none⟩ = some (.int .i64 h) := cell_of_heap (HC.out.fr f1 id) rfl
    have z3 : w1.frozen? ⟨g, 3, none⟩ = false := frozen_of_heap (HC.out.fr f1 id)
    go_wp2_with (fail)
    go_ret
    exact ⟨rfl, (HC.out.fr f1 id).setH _, (f1.mono (fun _ _ e => e.elim)).setB _ _⟩
theorem cGive_in (g : Nat) (m x h : Int) (w : World) (k : CrAt w g m x h) (i : InvC m x h) : Calls Try.prog 25 #[.pointer (some ⟨g, 0, none⟩)] w fun e w' => e = .returned (.int .i64 (giveV m x h)) ∧ CrAt w' g m (x + giveV m x h) h ∧ Fr (fun k => k = g) w w' := by
  have c0 : w.cell? ⟨g, 0, none⟩ = some (.int .i64 x) := cell_of_heap k rfl
  have c2 : w.cell? ⟨g, 2, none⟩ = some (.int .i64 m) := cell_of_heap k rfl
  have c3 : w.cell? ⟨g, 3, none⟩ = some (.int .i64 h) := cell_of_heap k rfl
  have KM := cmade_in g m x h w k
  have HC : Hid (∀ w1, Fr (fun _ => False) w w1 → CrAt w1 g m x h) := fun w1 f => k.fr f id
  obtain ⟨i1, i2, i3, i4⟩ := i
  have j1 : -9223372036854775808 ≤ m - x := by omega
  have j2 : m - x ≤ 9223372036854775807 := by omega
  have j3 : -9223372036854775808 ≤ m - x - h := by omega
  have j4 : m - x - h ≤ 9223372036854775807 := by omega
  have hv0 : ¬ m ≤ 2 * (m - x - h) → giveV m x h = 0 := fun h => by unfold giveV; rw [if_pos (by omega)]
  have hv1 : m ≤ 2 * (m - x - h) → giveV m x h = m - x - h := fun h => by unfold giveV; split <;> omega
  have j5 : -9223372036854775808 ≤ 2 * (m - x - h) := by omega
  have j6 : 2 * (m - x - h) ≤ 9223372036854775807 := by omega
  have j7 : -9223372036854775808 ≤ x + (m - x - h) := by omega
  have j8 : x + (m - x - h) ≤ 9223372036854775807 := by omega
  have KB := fun w => ask2 m (2 * (m - x - h)) w
  clear k i1 i2 i3 i4
  by_cases hm : m ≤ 2 * (m - x - h)
  · rw [hv1 hm]
    have e : decide (m ≤ 2 * (m - x - h)) = true := by simp; omega
    rw [e] at KB
    clear e hm hv0 hv1
    go_enter Try.func25, Try.ntmps25
    go_upto_region 3 with (go_at_call 34; refine KM.mono ?_; clear KM; rintro e w' ⟨rfl, rfl⟩)
    go_quiet (fail)
    obtain ⟨w1, hw1⟩ : ∃ w1, w1 = w.drewN nq := ⟨_, rfl⟩
    have f1 : Fr (fun _ => False) w w1 := by rw [hw1]; exact (Fr.refl _ _).drewN _
    rw [← hw1]
    clear hw1 c0 c2 c3
    have c2 : w1.cell? ⟨g, 2, none⟩ = some (.int .i64 m) := cell_of_heap (HC.out w1 f1) rfl
    have K := KB w1
    clear KB
    go_upto_region 6 with (go_at_call 35; refine K.mono ?_; clear K; rintro e w2 ⟨rfl, f2⟩)
    clear c2
    have c0 : w2.cell? ⟨g, 0, none⟩ = some (.int .i64 x) := cell_of_heap (HC.out w2 (f1.trans f2)) rfl
    have z0 : w2.frozen? ⟨g, 0, none⟩ = false := frozen_of_heap (HC.out w2 (f1.trans f2))
    go_wp2_with (fail)
    go_ret
    exact ⟨rfl, (HC.out w2 (f1.trans f2)).setX _, ((f1.trans f2).mono (fun _ _ e => e.elim)).setB _ _⟩
  · rw [hv0 hm]
    have e : decide (m ≤ 2 * (m - x - h)) = false := by simp; omega
    rw [e] at KB
    clear e hm hv0 hv1
    go_enter Try.func25, Try.ntmps25
    go_upto_region 3 with (go_at_call 34; refine KM.mono ?_; clear KM; rintro e w' ⟨rfl, rfl⟩)
    go_quiet (fail)
    obtain ⟨w1, hw1⟩ : ∃ w1, w1 = w.drewN nq := ⟨_, rfl⟩
    have f1 : Fr (fun _ => False) w w1 := by rw [hw1]; exact (Fr.refl _ _).drewN _
    rw [← hw1]
    clear hw1 c0 c2 c3
    have c2 : w1.cell? ⟨g, 2, none⟩ = some (.int .i64 m) := cell_of_heap (HC.out w1 f1) rfl
    have K := KB w1
    clear KB
    go_wp2_with (go_at_call 35; refine K.mono ?_; clear K; rintro e w2 ⟨rfl, f2⟩)
    go_ret
    rw [Int.add_zero]
    exact ⟨rfl, HC.out w2 (f1.trans f2), (f1.trans f2).mono (fun _ _ e => e.elim)⟩
theorem cNew_yes (n : Int) (w : World) (hb : sizB n = true) : Calls Try.prog 19 #[.int .i64 n] w fun e w' => ∃ g, w.heap.size ≤ g ∧ e = .returned (.tuple #[.pointer (some ⟨g, 0, none⟩), .int .i64 0]) ∧ CrAt w' g n n 0 ∧ Fr (fun _ => False) w w' := by
  have K := sized_yes n w hb
  clear hb
  go_enter Try.func19, Try.ntmps19
  go_upto_region 2 with (go_at_call 29; refine K.mono ?_; clear K; rintro e w1 ⟨rfl, f1⟩)
  obtain ⟨wa, hwa⟩ : ∃ wa, wa = w1.alloc (Obj.cells #[.int .i64 n, .bool true] 52) := ⟨_, rfl⟩
  have Fa : Fr (fun _ => False) w wa := by rw [hwa]; exact f1.alloc _
  have c0 : wa.cell? ⟨w1.heap.size, 0, none⟩ = some (.int .i64 n) := by rw [hwa]; exact cell_of_heap (heap_alloc_new _ _) rfl
  have c1 : wa.cell? ⟨w1.heap.size, 1, none⟩ = some (.bool true) := by rw [hwa]; exact cell_of_heap (heap_alloc_new _ _) rfl
  rw [← hwa]
  clear hwa
  go_wp2_with (fail)
  go_ret2
  exact ⟨wa.heap.size, Fa.size, rfl, heap_alloc_new _ _, Fa.alloc _⟩
theorem cNew_no (n : Int) (w : World) (hb : sizB n = false) : Calls Try.prog 19 #[.int .i64 n] w fun e w' => e = .returned (.tuple #[.pointer none, .int .i64 1]) ∧ Fr (fun _ => False) w w' := by
  have K := sized_no n w hb
  clear hb
  go_enter Try.func19, Try.ntmps19
  go_upto_region 2 with (go_at_call 29; refine K.mono ?_; clear K; rintro e w1 ⟨rfl, f1⟩)
  go_wp2_with (fail)
  go_ret2
  exact ⟨rfl, f1.alloc _⟩
theorem invC_new {n : Int} (h : sizB n = true) : InvC n n 0 := by
  have h := of_decide_eq_true h
  exact ⟨by omega, by omega, by omega, by omega⟩
end Go.Proofs.Yteniphncpanecaa
