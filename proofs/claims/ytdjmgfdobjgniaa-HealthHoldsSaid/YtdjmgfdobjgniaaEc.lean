/- The program's: probes, ticks, New. -/
import Derived.Test.YtdjmgfdobjgniaaEb
namespace Go.Proofs.Ytdjmgfdobjgniaa
open Go.RowKit
set_option linter.unusedVariables false
set_option maxRecDepth 100000
set_option maxHeartbeats 4000000

theorem ebad_in (g : Nat) (F R H n : Int) (s : Hs) (w : World) (h : HM w g F R H s) (hi : InvH F n s) (hn : n ≤ 9000000000000000000) : Calls Try.prog 23 #[.pointer (some ⟨g, 0, none⟩)] w fun e w' => e = .returned (.tuple #[]) ∧ HM w' g F R H (prbS F R H false s) ∧ Fr (fun k => k = g) w w' := by
  obtain ⟨d, r, k⟩ := s
  obtain ⟨r0, rn, -, -, -⟩ := hi
  dsimp only at r0 rn
  have c0 : w.cell? ⟨g, 0, none⟩ = some (.int .i64 F) := cell_of_heap h rfl
  have c2 : w.cell? ⟨g, 2, none⟩ = some (.int .i64 H) := cell_of_heap h rfl
  have c4 : w.cell? ⟨g, 4, none⟩ = some (.int .i64 r) := cell_of_heap h rfl
  have c5 : w.cell? ⟨g, 5, none⟩ = some (.int .i64 k) := cell_of_heap h rfl
  have z3 : w.frozen? ⟨g, 3, none⟩ = false := frozen_of_heap h
  have z4 : w.frozen? ⟨g, 4, none⟩ = false := frozen_of_heap h
  have z5 : w.frozen? ⟨g, 5, none⟩ = false := frozen_of_heap h
  have HW : Hid (HM w g F R H ⟨d, r, k⟩) := h
  have b1 : r + 1 ≤ 9223372036854775807 := by omega
  have b2 : -9223372036854775808 ≤ r + 1 := by omega
  cases d
  · have c3 : w.cell? ⟨g, 3, none⟩ = some (.int .i64 0) := cell_of_heap h rfl
    clear h
    by_cases hk : r + 1 < F
    · rw [prb_more R H k hk]
      have hd : decide (r + 1 < F) = true := decide_eq_true hk
      go_enter Try.func23, Try.ntmps23
      go_wp2_with (fail)
      go_quiet (fail)
      go_wp2_with (fail)
      (try simp only [Exit.inBlock, Exit.then])
      refine bodyPost_ret (results_none rfl _ _ _) rfl ?_
      exact ⟨rfl, (HW.out.setR _).fr ((Fr.refl (fun _ => False) _).drewN _) id, ((Fr.refl _ _).setB _ _).drewN _⟩
    · rw [prb_down R H k hk]
      have hd : decide (r + 1 < F) = false := decide_eq_false hk
      go_enter Try.func23, Try.ntmps23
      go_wp2_with (fail)
      go_quiet (fail)
      go_wp2_with (fail)
      go_end0
      exact ⟨rfl, ((((HW.out.setR _).fr ((Fr.refl (fun _ => False) _).drewN _) id).setD true 1 rfl).setH _).setR _, ((((((Fr.refl _ _).setB _ _).drewN _).setB _ _).setB _ _)).setB _ _⟩
  · have c3 : w.cell? ⟨g, 3, none⟩ = some (.int .i64 1) := cell_of_heap h rfl
    clear h
    rw [prb_off F R H rfl]
    go_enter Try.func23, Try.ntmps23
    go_wp2_with (fail)
    go_end0
    exact ⟨rfl, HW.out.setR _, (Fr.refl _ _).setB _ _⟩
theorem egood_in (g : Nat) (F R H n : Int) (s : Hs) (w : World) (h : HM w g F R H s) (hi : InvH F n s) (hn : n ≤ 9000000000000000000) : Calls Try.prog 22 #[.pointer (some ⟨g, 0, none⟩)] w fun e w' => e = .returned (.tuple #[]) ∧ HM w' g F R H (prbS F R H true s) ∧ Fr (fun k => k = g) w w' := by
  obtain ⟨d, r, k⟩ := s
  obtain ⟨r0, rn, -, -, -⟩ := hi
  dsimp only at r0 rn
  have c1 : w.cell? ⟨g, 1, none⟩ = some (.int .i64 R) := cell_of_heap h rfl
  have c4 : w.cell? ⟨g, 4, none⟩ = some (.int .i64 r) := cell_of_heap h rfl
  have c5 : w.cell? ⟨g, 5, none⟩ = some (.int .i64 k) := cell_of_heap h rfl
  have z3 : w.frozen? ⟨g, 3, none⟩ = false := frozen_of_heap h
  have z4 : w.frozen? ⟨g, 4, none⟩ = false := frozen_of_heap h
  have HW : Hid (HM w g F R H ⟨d, r, k⟩) := h
  have b1 : r + 1 ≤ 9223372036854775807 := by omega
  have b2 : -9223372036854775808 ≤ r + 1 := by omega
  cases d
  · have c3 : w.cell? ⟨g, 3, none⟩ = some (.int .i64 0) := cell_of_heap h rfl
    clear h
    rw [prb_off F R H rfl]
    go_enter Try.func22, Try.ntmps22
    go_wp2_with (fail)
    go_end0
    exact ⟨rfl, HW.out.setR _, (Fr.refl _ _).setB _ _⟩
  · have c3 : w.cell? ⟨g, 3, none⟩ = some (.int .i64 1) := cell_of_heap h rfl
    clear h
    by_cases hk : r + 1 < R
    · rw [prb_stay F H (.inl hk)]
      have hd : decide (r + 1 < R) = true := decide_eq_true hk
      go_enter Try.func22, Try.ntmps22
      go_wp2_with (fail)
      go_quiet (fail)
      go_wp2_with (fail)
      (try simp only [Exit.inBlock, Exit.then])
      refine bodyPost_ret (results_none rfl _ _ _) rfl ?_
      exact ⟨rfl, (HW.out.setR _).fr ((Fr.refl (fun _ => False) _).drewN _) id, ((Fr.refl _ _).setB _ _).drewN _⟩
    have hd : decide (r + 1 < R) = false := decide_eq_false hk
    by_cases hl : 0 < k
    · rw [prb_stay F H (.inr hl)]
      have hd2 : decide (0 < k) = true := decide_eq_true hl
      go_enter Try.func22, Try.ntmps22
      go_wp2_with (fail)
      go_quiet (fail)
      go_wp2_with (fail)
      (try simp only [Exit.inBlock, Exit.then])
      refine bodyPost_ret (results_none rfl _ _ _) rfl ?_
      exact ⟨rfl, (HW.out.setR _).fr ((Fr.refl (fun _ => False) _).drewN _) id, ((Fr.refl _ _).setB _ _).drewN _⟩
    · have hn2 : ¬ (r + 1 < R ∨ 0 < k) := by omega
      rw [prb_up F H hn2]
      clear hn2
      have hd2 : decide (0 < k) = false := decide_eq_false hl
      go_enter Try.func22, Try.ntmps22
      go_wp2_with (fail)
      go_quiet (fail)
      go_wp2_with (fail)
      go_end0
      exact ⟨rfl, (((HW.out.setR _).fr ((Fr.refl (fun _ => False) _).drewN _) id).setD false 0 rfl).setR _, ((((Fr.refl _ _).setB _ _).drewN _).setB _ _).setB _ _⟩
/-- A step's function. -/
theorem etake_core (fn g : Nat) (F R H : Int) (s t : Hs) (w : World) (h : HM w g F R H s) (hF : 1 ≤ F) (hen : ∀ args w, Sem.run Try.prog (callFunc fn args) w = .ok (.enter fn args) w)
    (KF : Calls Try.prog fn #[.pointer (some ⟨g, 0, none⟩)] w fun e w' => e = .returned (.tuple #[]) ∧ HM w' g F R H t ∧ Fr (fun k => k = g) w w') :
    Calls Try.prog 20 #[.pointer (some ⟨g, 0, none⟩), .func (.func fn) #[] #[]] w fun e w' => e = .returned (.int .i64 0) ∧ HM w' g F R H t ∧ Fr (fun k => k = g) w w' := by
  have K := emade_in g F R H _ w h hF
  have HK : Hid (Calls Try.prog fn #[.pointer (some ⟨g, 0, none⟩)] w fun e w' => e = .returned (.tuple #[]) ∧ HM w' g F R H t ∧ Fr (fun k => k = g) w w') := KF
  clear KF h
  go_enter Try.func20, Try.ntmps20
  go_wp2_with (first | (go_at_call 24; refine K.mono ?_; clear K; rintro e w' ⟨rfl, rfl⟩) | (go_at_fn fn; refine HK.out.mono ?_; rintro e w1 ⟨rfl, h1, f1⟩))
  go_ret
  exact ⟨rfl, h1, f1⟩
theorem etake_none (fn : Nat) (p : Option Addr) (w : World) (K : Calls Try.prog 24 #[.pointer p] w fun e w' => e = .returned (.bool false) ∧ w = w') :
    Calls Try.prog 20 #[.pointer p, .func (.func fn) #[] #[]] w fun e w' => e = .returned (.int .i64 7) ∧ w = w' := by
  go_enter Try.func20, Try.ntmps20
  go_wp2_with (go_at_call 24; refine K.mono ?_; clear K; rintro e w' ⟨rfl, rfl⟩)
  go_ret
  exact ⟨rfl, rfl⟩
theorem enters_bad (args : Array Value) (w : World) : Sem.run Try.prog (callFunc 23 args) w = .ok (.enter 23 args) w := enters_of (f := 23) Try.func23 (by kernel_rfl) rfl args w
theorem enters_good (args : Array Value) (w : World) : Sem.run Try.prog (callFunc 22 args) w = .ok (.enter 22 args) w := enters_of (f := 22) Try.func22 (by kernel_rfl) rfl args w
theorem enters_wait (args : Array Value) (w : World) : Sem.run Try.prog (callFunc 21 args) w = .ok (.enter 21 args) w := enters_of (f := 21) Try.func21 (by kernel_rfl) rfl args w
theorem take_prb (b : Bool) (g : Nat) (F R H n : Int) (s : Hs) (w : World) (h : HM w g F R H s) (hF : 1 ≤ F) (hi : InvH F n s) (hn : n ≤ 9000000000000000000) :
    Calls Try.prog 20 #[.pointer (some ⟨g, 0, none⟩), .func (.func (if b then 22 else 23)) #[] #[]] w fun e w' => e = .returned (.int .i64 0) ∧ HM w' g F R H (prbS F R H b s) ∧ Fr (fun k => k = g) w w' := by
  cases b
  · exact etake_core 23 g F R H s _ w h hF enters_bad (ebad_in g F R H n s w h hi hn)
  · exact etake_core 22 g F R H s _ w h hF enters_good (egood_in g F R H n s w h hi hn)
theorem take_tck (g : Nat) (F R H n : Int) (s : Hs) (w : World) (h : HM w g F R H s) (hF : 1 ≤ F) (hi : InvH F n s) :
    Calls Try.prog 20 #[.pointer (some ⟨g, 0, none⟩), .func (.func 21) #[] #[]] w fun e w' => e = .returned (.int .i64 0) ∧ HM w' g F R H (tckS s) ∧ Fr (fun k => k = g) w w' :=
  etake_core 21 g F R H s _ w h hF enters_wait (ewait_in g F R H s w h hi.h0 hi.hm)
theorem eProbe_in (b : Bool) (g : Nat) (F R H n : Int) (s : Hs) (w : World) (h : HM w g F R H s) (hF : 1 ≤ F) (hi : InvH F n s) (hn : n ≤ 9000000000000000000) :
    Calls Try.prog 13 #[.pointer (some ⟨g, 0, none⟩), .bool b] w fun e w' => e = .returned (.int .i64 0) ∧ HM w' g F R H (prbS F R H b s) ∧ Fr (fun k => k = g) w w' := by
  have K := take_prb b g F R H n s w h hF hi hn
  clear h hi hn
  cases b
  · simp only [Bool.false_eq_true, if_false] at K
    go_enter Try.func13, Try.ntmps13
    go_wp2_with (go_at_call 20; refine K.mono ?_; clear K; rintro e w1 ⟨rfl, h1, f1⟩)
    go_ret
    exact ⟨rfl, h1, f1⟩
  · simp only [if_true] at K
    go_enter Try.func13, Try.ntmps13
    go_wp2_with (go_at_call 20; refine K.mono ?_; clear K; rintro e w1 ⟨rfl, h1, f1⟩)
    go_ret
    exact ⟨rfl, h1, f1⟩
theorem eTick_in (g : Nat) (F R H n : Int) (s : Hs) (w : World) (h : HM w g F R H s) (hF : 1 ≤ F) (hi : InvH F n s) :
    Calls Try.prog 11 #[.pointer (some ⟨g, 0, none⟩)] w fun e w' => e = .returned (.int .i64 0) ∧ HM w' g F R H (tckS s) ∧ Fr (fun k => k = g) w w' := by
  have K := take_tck g F R H n s w h hF hi
  clear h hi
  go_enter Try.func11, Try.ntmps11
  go_wp2_with (go_at_call 20; refine K.mono ?_; clear K; rintro e w1 ⟨rfl, h1, f1⟩)
  go_ret
  exact ⟨rfl, h1, f1⟩
end Go.Proofs.Ytdjmgfdobjgniaa
