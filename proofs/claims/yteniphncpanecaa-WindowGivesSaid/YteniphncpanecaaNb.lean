/- Windows in memory: the program's. -/
import Derived.Test.YteniphncpanecaaNa
namespace Go.Proofs.Yteniphncpanecaa
open Go.RowKit
set_option linter.unusedVariables false
set_option maxRecDepth 100000
set_option maxHeartbeats 4000000

/-- What Take answers of a size x. -/
def takeE (x n : Int) : Int := if n < 0 then 1 else if 0 < n ∧ x < n then 110 else 0
/-- The size behind it. -/
def takeX (x n : Int) : Int := if takeE x n = 0 then x - n else x
/-- What Add and Shift answer; least: what they take at least. -/
def addE (least x n : Int) : Int := if n < least ∨ 2147483647 < n then 1 else if 2147483647 < wrap64 (x + n) then 2 else 0
/-- The size behind it. -/
def addX (least x n : Int) : Int := if addE least x n = 0 then wrap64 (x + n) else x
/-- A size that a window can have. -/
def InvW (x : Int) : Prop := -9223372036854775808 ≤ x ∧ x ≤ 2147483647
theorem wrap64_low (x : Int) : -9223372036854775808 ≤ wrap64 x := by unfold wrap64; omega
theorem take_arg (x : Int) {n : Int} (h : n < 0) : takeE x n = 1 ∧ takeX x n = x := by
  have e : takeE x n = 1 := by unfold takeE; rw [if_pos h]
  exact ⟨e, by unfold takeX; rw [e]; rfl⟩
theorem take_win {x n : Int} (h : 0 < n) (h2 : x < n) : takeE x n = 110 ∧ takeX x n = x := by
  have e : takeE x n = 110 := by unfold takeE; rw [if_neg (by omega), if_pos ⟨h, h2⟩]
  exact ⟨e, by unfold takeX; rw [e]; rfl⟩
theorem take_ok {x n : Int} (h : 0 ≤ n) (h2 : ¬ (0 < n ∧ x < n)) : takeE x n = 0 ∧ takeX x n = x - n := by
  have e : takeE x n = 0 := by unfold takeE; rw [if_neg (by omega), if_neg h2]
  exact ⟨e, by unfold takeX; rw [e]; rfl⟩
theorem add_arg {least : Int} (x : Int) {n : Int} (h : n < least ∨ 2147483647 < n) : addE least x n = 1 ∧ addX least x n = x := by
  have e : addE least x n = 1 := by unfold addE; rw [if_pos h]
  exact ⟨e, by unfold addX; rw [e]; rfl⟩
theorem add_long {least x n : Int} (h : ¬ (n < least ∨ 2147483647 < n)) (h2 : 2147483647 < wrap64 (x + n)) : addE least x n = 2 ∧ addX least x n = x := by
  have e : addE least x n = 2 := by unfold addE; rw [if_neg h, if_pos h2]
  exact ⟨e, by unfold addX; rw [e]; rfl⟩
theorem add_ok {least x n : Int} (h : ¬ (n < least ∨ 2147483647 < n)) (h2 : ¬ 2147483647 < wrap64 (x + n)) : addE least x n = 0 ∧ addX least x n = wrap64 (x + n) := by
  have e : addE least x n = 0 := by unfold addE; rw [if_neg h, if_neg h2]
  exact ⟨e, by unfold addX; rw [e]; rfl⟩
theorem inv_take {x : Int} (h : InvW x) (n : Int) : InvW (takeX x n) := by
  obtain ⟨h1, h2⟩ := h
  by_cases g1 : n < 0
  · rw [(take_arg x g1).2]; exact ⟨h1, h2⟩
  by_cases g2 : 0 < n ∧ x < n
  · rw [(take_win g2.1 g2.2).2]; exact ⟨h1, h2⟩
  · rw [(take_ok (by omega) g2).2]; exact ⟨by omega, by omega⟩
theorem inv_add {x : Int} (h : InvW x) (least n : Int) : InvW (addX least x n) := by
  by_cases g1 : n < least ∨ 2147483647 < n
  · rw [(add_arg x g1).2]; exact h
  by_cases g2 : 2147483647 < wrap64 (x + n)
  · rw [(add_long g1 g2).2]; exact h
  · rw [(add_ok g1 g2).2]; exact ⟨wrap64_low _, by omega⟩

/-- A window of the program's of the size x. -/
def WinAt (w : World) (g : Nat) (x : Int) : Prop := w.heap[g]? = some (.cells #[.int .i64 x, .bool true] 54 (0, 0))
theorem WinAt.fr {S : Nat → Prop} {w w' : World} {g : Nat} {x : Int} (h : WinAt w g x) (f : Fr S w w') (hs : ¬ S g) : WinAt w' g x := (f.block g (lt_of_heap h) hs).trans h
theorem heap_set {w : World} {g j : Nat} {cs : Array Value} {t : TypeId} (v : Value) (h : w.heap[g]? = some (.cells cs t (0, 0))) : (w.setCell ⟨g, j, none⟩ v).heap[g]? = some (.cells (cs.setIfInBounds j v) t (0, 0)) := by
  have hl := lt_of_heap h
  simp [World.setCell]
  rw [Array.getElem?_eq_getElem hl] at h
  simp at h
  simp [Array.modify, Array.modifyM, hl, h]
theorem WinAt.set {w : World} {g : Nat} {x : Int} (y : Int) (h : WinAt w g x) : WinAt (w.setCell ⟨g, 0, none⟩ (.int .i64 y)) g y := by
  have := heap_set (j := 0) (.int .i64 y) h
  simpa [WinAt] using this
theorem wmade_in (g : Nat) (x : Int) (w : World) (h : WinAt w g x) : Calls Try.prog 30 #[.pointer (some ⟨g, 0, none⟩)] w fun e w' => e = .returned (.bool true) ∧ w = w' := by
  have c1 : w.cell? ⟨g, 1, none⟩ = some (.bool true) := cell_of_heap h rfl
  go_enter Try.func30, Try.ntmps30
  go_wp2_with (fail)
  go_ret
  exact ⟨rfl, rfl⟩
theorem wmade_zero (g : Nat) (w : World) (h : w.cell? ⟨g, 1, none⟩ = some (.bool false)) : Calls Try.prog 30 #[.pointer (some ⟨g, 0, none⟩)] w fun e w' => e = .returned (.bool false) ∧ w = w' := by
  go_enter Try.func30, Try.ntmps30
  go_wp2_with (fail)
  go_ret
  exact ⟨rfl, rfl⟩
theorem wmade_nil (w : World) : Calls Try.prog 30 #[.pointer none] w fun e w' => e = .returned (.bool false) ∧ w = w' := by
  go_enter Try.func30, Try.ntmps30
  go_wp2_with (fail)
  go_ret
  exact ⟨rfl, rfl⟩
theorem wSize_in (g : Nat) (x : Int) (w : World) (h : WinAt w g x) : Calls Try.prog 17 #[.pointer (some ⟨g, 0, none⟩)] w fun e w' => e = .returned (.int .i64 x) ∧ w = w' := by
  have c0 : w.cell? ⟨g, 0, none⟩ = some (.int .i64 x) := cell_of_heap h rfl
  have K := wmade_in g x w h
  go_enter Try.func17, Try.ntmps17
  go_wp2_with (go_at_call 30; refine K.mono ?_; clear K; rintro e w' ⟨rfl, rfl⟩)
  go_ret
  exact ⟨rfl, rfl⟩
/-- What spend does to the size in a block's first cell. -/
theorem spend_arg (g : Nat) (n : Int) (w : World) (hn : n < 0) :
    Calls Try.prog 31 #[.pointer (some ⟨g, 0, none⟩), .int .i64 n] w fun e w' => e = .returned (.int .i64 1) ∧ Fr (fun _ => False) w w' := by
  have K := ask2 0 n w
  have e : decide (0 ≤ n) = false := by simp; omega
  rw [e] at K
  clear e
  go_enter Try.func31, Try.ntmps31
  go_wp2_with (go_at_call 35; refine K.mono ?_; clear K; rintro e w1 ⟨rfl, f1⟩)
  go_ret
  exact ⟨rfl, f1⟩
theorem spend_win (g : Nat) (x n : Int) (w : World) (h0 : w.cell? ⟨g, 0, none⟩ = some (.int .i64 x)) (hn : 0 < n) (hx : x < n) :
    Calls Try.prog 31 #[.pointer (some ⟨g, 0, none⟩), .int .i64 n] w fun e w' => e = .returned (.int .i64 110) ∧ Fr (fun _ => False) w w' := by
  have HC : Hid (∀ w1, Fr (fun _ => False) w w1 → w1.cell? ⟨g, 0, none⟩ = some (.int .i64 x)) := fun w1 f => (f.cell (p := ⟨g, 0, none⟩) (World.block_lt_of_cell? _ _ h0) id).trans h0
  have K := ask2 0 n w
  have e : decide (0 ≤ n) = true := by simp; omega
  rw [e] at K
  clear e h0
  by_cases hp : 0 < x
  · have KB := fun w => ask2 n x w
    have e : decide (n ≤ x) = false := by simp; omega
    rw [e] at KB
    clear e
    go_enter Try.func31, Try.ntmps31
    go_upto_region 3 with (go_at_call 35; refine K.mono ?_; clear K; rintro e w1 ⟨rfl, f1⟩)
    have c0 := HC.out w1 f1
    have K := KB w1
    clear KB
    go_wp2_with (go_at_call 35; refine K.mono ?_; clear K; rintro e w2 ⟨rfl, f2⟩)
    go_ret
    exact ⟨rfl, f1.trans f2⟩
  · have KB := fun w => ask2 n 0 w
    have e : decide (n ≤ 0) = false := by simp; omega
    rw [e] at KB
    clear e
    go_enter Try.func31, Try.ntmps31
    go_upto_region 3 with (go_at_call 35; refine K.mono ?_; clear K; rintro e w1 ⟨rfl, f1⟩)
    have c0 := HC.out w1 f1
    have K := KB w1
    clear KB
    go_wp2_with (go_at_call 35; refine K.mono ?_; clear K; rintro e w2 ⟨rfl, f2⟩)
    go_ret
    exact ⟨rfl, f1.trans f2⟩
theorem spend_ok (g : Nat) (x n : Int) (w : World) (h0 : w.cell? ⟨g, 0, none⟩ = some (.int .i64 x)) (z0 : w.frozen? ⟨g, 0, none⟩ = false) (hn : 0 ≤ n) (hx : ¬ (0 < n ∧ x < n)) (hi : InvW x) :
    Calls Try.prog 31 #[.pointer (some ⟨g, 0, none⟩), .int .i64 n] w fun e w' => e = .returned (.int .i64 0) ∧ ∃ w1, Fr (fun _ => False) w w1 ∧ w1.setCell ⟨g, 0, none⟩ (.int .i64 (x - n)) = w' := by
  have HC : Hid (∀ w1, Fr (fun _ => False) w w1 → w1.cell? ⟨g, 0, none⟩ = some (.int .i64 x) ∧ w1.frozen? ⟨g, 0, none⟩ = false) := fun w1 f => ⟨(f.cell (p := ⟨g, 0, none⟩) (World.block_lt_of_cell? _ _ h0) id).trans h0, (World.frozen?_of_block (f.block g (World.block_lt_of_cell? _ _ h0) id)).trans z0⟩
  obtain ⟨i1, i2⟩ := hi
  have K := ask2 0 n w
  have e : decide (0 ≤ n) = true := by simp; omega
  rw [e] at K
  clear e h0 z0
  have hb : -9223372036854775808 ≤ x - n ∧ x - n ≤ 9223372036854775807 := by omega
  by_cases hp : 0 < x
  · have KB := fun w => ask2 n x w
    have e : decide (n ≤ x) = true := by simp; omega
    rw [e] at KB
    clear e hx
    go_enter Try.func31, Try.ntmps31
    go_upto_region 3 with (go_at_call 35; refine K.mono ?_; clear K; rintro e w1 ⟨rfl, f1⟩)
    have c0 := (HC.out w1 f1).1
    have K := KB w1
    clear KB
    go_upto_region 5 with (go_at_call 35; refine K.mono ?_; clear K; rintro e w2 ⟨rfl, f2⟩)
    clear c0
    obtain ⟨c0, z0⟩ := HC.out w2 (f1.trans f2)
    go_wp2_with (fail)
    go_ret
    exact ⟨rfl, _, f1.trans f2, rfl⟩
  · have KB := fun w => ask2 n 0 w
    have e : decide (n ≤ 0) = true := by simp; omega
    rw [e] at KB
    clear e hx
    go_enter Try.func31, Try.ntmps31
    go_upto_region 3 with (go_at_call 35; refine K.mono ?_; clear K; rintro e w1 ⟨rfl, f1⟩)
    have c0 := (HC.out w1 f1).1
    have K := KB w1
    clear KB
    go_upto_region 5 with (go_at_call 35; refine K.mono ?_; clear K; rintro e w2 ⟨rfl, f2⟩)
    clear c0
    obtain ⟨c0, z0⟩ := HC.out w2 (f1.trans f2)
    go_wp2_with (fail)
    go_ret
    exact ⟨rfl, _, f1.trans f2, rfl⟩
theorem wTake_in (g : Nat) (x n : Int) (w : World) (h : WinAt w g x) (hi : InvW x) : Calls Try.prog 11 #[.pointer (some ⟨g, 0, none⟩), .int .i64 n] w fun e w' => e = .returned (.int .i64 (takeE x n)) ∧ WinAt w' g (takeX x n) ∧ Fr (fun k => k = g) w w' := by
  have c0 : w.cell? ⟨g, 0, none⟩ = some (.int .i64 x) := cell_of_heap h rfl
  have z0 : w.frozen? ⟨g, 0, none⟩ = false := frozen_of_heap h
  have KM := wmade_in g x w h
  have HW : Hid (WinAt w g x) := h
  have KS : Calls Try.prog 31 #[.pointer (some ⟨g, 0, none⟩), .int .i64 n] w fun e w' => e = .returned (.int .i64 (takeE x n)) ∧ Hid (WinAt w' g (takeX x n) ∧ Fr (fun k => k = g) w w') := by
    by_cases h1 : n < 0
    · rw [(take_arg x h1).1, (take_arg x h1).2]
      refine (spend_arg g n w h1).mono ?_
      rintro e w' ⟨rfl, f⟩
      exact ⟨rfl, h.fr f id, f.mono (fun _ _ e => e.elim)⟩
    by_cases h2 : 0 < n ∧ x < n
    · rw [(take_win h2.1 h2.2).1, (take_win h2.1 h2.2).2]
      refine (spend_win g x n w c0 h2.1 h2.2).mono ?_
      rintro e w' ⟨rfl, f⟩
      exact ⟨rfl, h.fr f id, f.mono (fun _ _ e => e.elim)⟩
    · rw [(take_ok (by omega) h2).1, (take_ok (by omega) h2).2]
      refine (spend_ok g x n w c0 z0 (by omega) h2 hi).mono ?_
      rintro e w' ⟨rfl, w1, f, rfl⟩
      exact ⟨rfl, (h.fr f id).set _, (f.mono (fun _ _ e => e.elim)).setB _ _⟩
  clear h hi c0 z0
  go_enter Try.func11, Try.ntmps11
  go_wp2_with (first | (go_at_call 30; refine KM.mono ?_; clear KM; rintro e w' ⟨rfl, rfl⟩) | (go_at_call 31; refine KS.mono ?_; clear KS; rintro e w1 ⟨rfl, H1⟩))
  go_ret
  exact ⟨rfl, H1.out⟩
end Go.Proofs.Yteniphncpanecaa
