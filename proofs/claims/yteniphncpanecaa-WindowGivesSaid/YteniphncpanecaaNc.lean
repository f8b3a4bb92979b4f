/- Windows of the program's: change, Add, Shift, New; those that nobody made. -/
import Derived.Test.YteniphncpanecaaNb
namespace Go.Proofs.Yteniphncpanecaa
open Go.RowKit
set_option linter.unusedVariables false
set_option maxRecDepth 100000
set_option maxHeartbeats 4000000

theorem wchange_in (g : Nat) (least x n : Int) (w : World) (h : WinAt w g x) : Calls Try.prog 32 #[.pointer (some ⟨g, 0, none⟩), .int .i64 least, .int .i64 n] w fun e w' => e = .returned (.int .i64 (addE least x n)) ∧ WinAt w' g (addX least x n) ∧ Fr (fun k => k = g) w w' := by
  have KM := wmade_in g x w h
  have HC : Hid (∀ w1, Fr (fun _ => False) w w1 → w1.cell? ⟨g, 0, none⟩ = some (.int .i64 x) ∧ w1.frozen? ⟨g, 0, none⟩ = false) := fun w1 f => ⟨cell_of_heap (h.fr f id) rfl, frozen_of_heap (h.fr f id)⟩
  have HW : Hid (WinAt w g x) := h
  have K := ask3 least n 2147483647 w
  clear h
  by_cases h1 : n < least ∨ 2147483647 < n
  · rw [(add_arg x h1).1, (add_arg x h1).2]
    have e : decide (least ≤ n ∧ n ≤ 2147483647) = false := by simp; omega
    rw [e] at K
    clear e h1
    go_enter Try.func32, Try.ntmps32
    go_wp2_with (first | (go_at_call 30; refine KM.mono ?_; clear KM; rintro e w' ⟨rfl, rfl⟩) | (go_at_call 35; refine K.mono ?_; clear K; rintro e w1 ⟨rfl, f1⟩))
    go_ret
    exact ⟨rfl, HW.out.fr f1 id, f1.mono (fun _ _ e => e.elim)⟩
  have e : decide (least ≤ n ∧ n ≤ 2147483647) = true := by simp; omega
  rw [e] at K
  clear e
  have KB := fun w => ask2 (wrap64 (x + n)) 2147483647 w
  by_cases h2 : 2147483647 < wrap64 (x + n)
  · rw [(add_long h1 h2).1, (add_long h1 h2).2]
    have e : decide (wrap64 (x + n) ≤ 2147483647) = false := by simp; omega
    rw [e] at KB
    clear e h1 h2
    go_enter Try.func32, Try.ntmps32
    go_upto_region 5 with (first | (go_at_call 30; refine KM.mono ?_; clear KM; rintro e w' ⟨rfl, rfl⟩) | (go_at_call 35; refine K.mono ?_; clear K; rintro e w1 ⟨rfl, f1⟩))
    have c0 := (HC.out w1 f1).1
    have K := KB w1
    clear KB
    go_wp2_with (go_at_call 35; refine K.mono ?_; clear K; rintro e w2 ⟨rfl, f2⟩)
    go_ret
    exact ⟨rfl, HW.out.fr (f1.trans f2) id, (f1.trans f2).mono (fun _ _ e => e.elim)⟩
  · rw [(add_ok h1 h2).1, (add_ok h1 h2).2]
    have e : decide (wrap64 (x + n) ≤ 2147483647) = true := by simp; omega
    rw [e] at KB
    clear e h1 h2
    go_enter Try.func32, Try.ntmps32
    go_upto_region 5 with (first | (go_at_call 30; refine KM.mono ?_; clear KM; rintro e w' ⟨rfl, rfl⟩) | (go_at_call 35; refine K.mono ?_; clear K; rintro e w1 ⟨rfl, f1⟩))
    have c0 := (HC.out w1 f1).1
    have K := KB w1
    clear KB
    go_upto_region 7 with (go_at_call 35; refine K.mono ?_; clear K; rintro e w2 ⟨rfl, f2⟩)
    clear c0
    obtain ⟨c0, z0⟩ := HC.out w2 (f1.trans f2)
    go_wp2_with (fail)
    go_ret
    exact ⟨rfl, (HW.out.fr (f1.trans f2) id).set _, ((f1.trans f2).mono (fun _ _ e => e.elim)).setB _ _⟩
theorem wAdd_in (g : Nat) (x n : Int) (w : World) (h : WinAt w g x) : Calls Try.prog 13 #[.pointer (some ⟨g, 0, none⟩), .int .i64 n] w fun e w' => e = .returned (.int .i64 (addE 1 x n)) ∧ WinAt w' g (addX 1 x n) ∧ Fr (fun k => k = g) w w' := by
  have K := wchange_in g 1 x n w h
  clear h
  go_enter Try.func13, Try.ntmps13
  go_wp2_with (go_at_call 32; refine K.mono ?_; clear K; rintro e w1 ⟨rfl, h1, f1⟩)
  go_ret
  exact ⟨rfl, h1, f1⟩
theorem wShift_in (g : Nat) (x n : Int) (w : World) (h : WinAt w g x) : Calls Try.prog 15 #[.pointer (some ⟨g, 0, none⟩), .int .i64 n] w fun e w' => e = .returned (.int .i64 (addE (-2147483647) x n)) ∧ WinAt w' g (addX (-2147483647) x n) ∧ Fr (fun k => k = g) w w' := by
  have K := wchange_in g (-2147483647) x n w h
  clear h
  go_enter Try.func15, Try.ntmps15
  go_wp2_with (go_at_call 32; refine K.mono ?_; clear K; rintro e w1 ⟨rfl, h1, f1⟩)
  go_ret
  exact ⟨rfl, h1, f1⟩
theorem wNew_yes (n : Int) (w : World) (hb : sizB n = true) : Calls Try.prog 9 #[.int .i64 n] w fun e w' => ∃ g, w.heap.size ≤ g ∧ e = .returned (.tuple #[.pointer (some ⟨g, 0, none⟩), .int .i64 0]) ∧ WinAt w' g n ∧ Fr (fun _ => False) w w' := by
  have K := sized_yes n w hb
  clear hb
  go_enter Try.func9, Try.ntmps9
  go_upto_region 2 with (go_at_call 29; refine K.mono ?_; clear K; rintro e w1 ⟨rfl, f1⟩)
  obtain ⟨wa, hwa⟩ : ∃ wa, wa = w1.alloc (Obj.cells #[.int .i64 n, .bool true] 52) := ⟨_, rfl⟩
  have Fa : Fr (fun _ => False) w wa := by rw [hwa]; exact f1.alloc _
  have c0 : wa.cell? ⟨w1.heap.size, 0, none⟩ = some (.int .i64 n) := by rw [hwa]; exact cell_of_heap (heap_alloc_new _ _) rfl
  have c1 : wa.cell? ⟨w1.heap.size, 1, none⟩ = some (.bool true) := by rw [hwa]; exact cell_of_heap (heap_alloc_new _ _) rfl
  rw [← hwa]
  clear hwa
  go_wp2_with (fail)
  go_ret2
  exact ⟨wa.heap.size, Fa.size, rfl, heap_alloc_new _ _, Fa.alloc _⟩
theorem wNew_no (n : Int) (w : World) (hb : sizB n = false) : Calls Try.prog 9 #[.int .i64 n] w fun e w' => e = .returned (.tuple #[.pointer none, .int .i64 1]) ∧ Fr (fun _ => False) w w' := by
  have K := sized_no n w hb
  clear hb
  go_enter Try.func9, Try.ntmps9
  go_upto_region 2 with (go_at_call 29; refine K.mono ?_; clear K; rintro e w1 ⟨rfl, f1⟩)
  go_wp2_with (fail)
  go_ret2
  exact ⟨rfl, f1.alloc _⟩
theorem wawake_in (w : World) : Calls Try.prog 18 #[] w fun e w' => e = .returned (.bool true) ∧ Fr (fun _ => False) w w' := by
  have KN := wNew_yes 5 w rfl
  have KS := fun g w h => wSize_in g 5 w h
  go_enter Try.func18, Try.ntmps18
  go_wp2_with (first | (go_at_call 9; refine KN.mono ?_; clear KN; rintro e w1 ⟨g, hg, rfl, h1, f1⟩; have K := KS g w1 h1) | (go_at_call 17; refine K.mono ?_; clear K; rintro e w' ⟨rfl, rfl⟩))
  go_ret
  exact ⟨rfl, f1⟩
end Go.Proofs.Yteniphncpanecaa
