/- The program's: probes, ticks, New. -/
import Derived.Test.YtoiencoojkahmaaEb
namespace Go.Proofs.Ytoiencoojkahmaa
open Go.RowKit
set_option linter.unusedVariables false
set_option maxRecDepth 100000
set_option maxHeartbeats 4000000

theorem ebad_in (g : Nat) (F R H n : Int) (s : Hs) (w : World) (h : HM w g F R H s) (hi : InvH F n s) (hn : n ≤ 9000000000000000000) : Calls Try.prog 63 #[.pointer (some ⟨g, 0, none⟩)] w fun e w' => e = .returned (.tuple #[]) ∧ HM w' g F R H (prbS F R H false s) ∧ Fr (fun k => k = g) w w' := by
  obtain ⟨d, r, k⟩ := s
  obtain ⟨r0, rn, -, -, -⟩ := hi
  dsimp only at r0 rn
  have c0 : w.cell? ⟨g, 0, none⟩ = some (.int .i64 F) := cell_of_heap h rfl
  have c2 : w.cell? ⟨g, 2, none⟩ = some (.int .i64 H) := cell_of_heap h rfl
  have c4 : w.cell? ⟨g, 4, none⟩ = some (.int .i64 r) := cell_of_heap h rfl
  have c5 : w.cell? ⟨g, 5, none⟩ = some (.int .i64 k) := cell_of_heap h rfl
  have z3 : w.frozen? ⟨g, 3, none⟩ = false := frozen_of_heap h
  have z4 : w.frozen? ⟨g, 4, none⟩ = false := frozen_of_heap h
  have z5 : w.frozen? ⟨g, 5, none⟩ = false := frozen_of_heap h
  have HW : Hid (HM w g F R H ⟨d, r, k⟩) := h
  have b1 : r + 1 ≤ 9223372036854775807 := by omega
  have b2 : -9223372036854775808 ≤ r + 1 := by omega
  cases d
  · have c3 : w.cell? ⟨g, 3, none⟩ = some (.int .i64 0) := cell_of_heap h rfl
    clear h
    by_cases hk : r + 1 < F
    · rw [prb_more R H k hk]
      have hd : decide (r + 1 < F) = true := decide_eq_true hk
      go_enter Try.func63, Try.ntmps63
      go_wp2_with (fail)
      go_quiet (fail)
      go_wp2_with (fail)
      (try simp only [Exit.inBlock, Exit.then])
      refine bodyPost_ret (results_none rfl _ _ _) rfl ?_
      exact ⟨rfl, (HW.out.setR _).fr ((Fr.refl (fun _ => False) _).drewN _) id, ((Fr.refl _ _).setB _ _).drewN _⟩
    · rw [prb_down R H k hk]
      have hd : decide (r + 1 < F) = false := decide_eq_false hk
      go_enter Try.func63, Try.ntmps63
      go_wp2_with (fail)
      go_quiet (fail)
      go_wp2_with (fail)
      go_end0
      exact ⟨rfl, ((((HW.out.setR _).fr ((Fr.refl (fun _ => False) _).drewN _) id).setD true 1 rfl).setH _).setR _, ((((((Fr.refl _ _).setB _ _).drewN _).setB _ _).setB _ _)).setB _ _⟩
  · have c3 : w.cell? ⟨g, 3, none⟩ = some (.int .i64 1) := cell_of_heap h rfl
    clear h
    rw [prb_off F R H rfl]
    go_enter Try.func63, Try.ntmps63
    go_wp2_with (fail)
    go_end0
    exact ⟨rfl, HW.out.setR _, (Fr.refl _ _).setB _ _⟩
theorem egood_in (g : Nat) (F R H n : Int) (s : Hs) (w : World) (h : HM w g F R H s) (hi : InvH F n s) (hn : n ≤ 9000000000000000000) : Calls Try.prog 62 #[.pointer (some ⟨g, 0, none⟩)] w fun e w' => e = .returned (.tuple #[]) ∧ HM w' g F R H (prbS F R H true s) ∧ Fr (fun k => k = g) w w' := by
  obtain ⟨d, r, k⟩ := s
  obtain ⟨r0, rn, -, -, -⟩ := hi
  dsimp only at r0 rn
  have c1 : w.cell? ⟨g, 1, none⟩ = some (.int .i64 R) := cell_of_heap h rfl
  have c4 : w.cell? ⟨g, 4, none⟩ = some (.int .i64 r) := cell_of_heap h rfl
  have c5 : w.cell? ⟨g, 5, none⟩ = some (.int .i64 k) := cell_of_heap h rfl
  have z3 : w.frozen? ⟨g, 3, none⟩ = false := frozen_of_heap h
  have z4 : w.frozen? ⟨g, 4, none⟩ = false := frozen_of_heap h
  have HW : Hid (HM w g F R H ⟨d, r, k⟩) := h
  have b1 : r + 1 ≤ 9223372036854775807 := by omega
  have b2 : -9223372036854775808 ≤ r + 1 := by omega
  cases d
  · have c3 : w.cell? ⟨g, 3, none⟩ = some (.int .i64 0) := cell_of_heap h rfl
    clear h
    rw [prb_off F R H rfl]
    go_enter Try.func62, Try.ntmps62
    go_wp2_with (fail)
    go_end0
    exact ⟨rfl, HW.out.setR _, (Fr.refl _ _).setB _ _⟩
  · have c3 : w.cell? ⟨g, 3, none⟩ = some (.int .i64 1) := cell_of_heap h rfl
    clear h
    by_cases hk : r + 1 < R
    · rw [prb_stay F H (.inl hk)]
      have hd : decide (r + 1 < R) = true := decide_eq_true hk
      go_enter Try.func62, Try.ntmps62
      go_wp2_with (fail)
      go_quiet (fail)
      go_wp2_with (fail)
      (try simp only [Exit.inBlock, Exit.then])
      refine bodyPost_ret (results_none rfl _ _ _) rfl ?_
      exact ⟨rfl, (HW.out.setR _).fr ((Fr.refl (fun _ => False) _).drewN _) id, ((Fr.refl _ _).setB _ _).drewN _⟩
    have hd : decide (r + 1 < R) = false := decide_eq_false hk
    by_cases hl : 0 < k
    · rw [prb_stay F H (.inr hl)]
      have hd2 : decide (0 < k) = true := decide_eq_true hl
      go_enter Try.func62, Try.ntmps62
      go_wp2_with (fail)
      go_quiet (fail)
      go_wp2_with (fail)
      (try simp only [Exit.inBlock, Exit.then])
      refine bodyPost_ret (results_none rfl _ _ _) rfl ?_
      exact ⟨rfl, (HW.out.setR _).fr ((Fr.refl (fun _ => False) _).drewN _) id, ((Fr.refl _ _).setB _ _).drewN _⟩
    · have hn2 : ¬ (r + 1 < R ∨ 0 < k) := by omega
      rw [prb_up F H hn2]
      clear hn2
      have hd2 : decide (0 < k) = false := decide_eq_false hl
      go_enter Try.func62, Try.ntmps62
      go_wp2_with (fail)
      go_quiet (fail)
      go_wp2_with (fail)
      go_end0
      exact ⟨rfl, (((HW.out.setR _).fr ((Fr.refl (fun _ => False) _).drewN _) id).setD false 0 rfl).setR _, ((((Fr.refl _ _).setB _ _).drewN _).setB _ _).setB _ _⟩
/-- A step's function. -/
theorem etake_core (fn g : Nat) (F R H : Int) (s t : Hs) (w : World) (h : HM w g F R H s) (hF : 1 ≤ F) (hen : ∀ args w, Sem.run Try.prog (callFunc fn args) w = .ok (.enter fn args) w)
    (KF : Calls Try.prog fn #[.pointer (some ⟨g, 0, none⟩)] w fun e w' => e = .returned (.tuple #[]) ∧ HM w' g F R H t ∧ Fr (fun k => k = g) w w') :
    Calls Try.prog 58 #[.pointer (some ⟨g, 0, none⟩), .func (.func fn) #[] #[]] w fun e w' => e = .returned (.int .i64 0) ∧ HM w' g F R H t ∧ Fr (fun k => k = g) w w' := by
  have K := emade_in g F R H _ w h hF
  have HK : Hid (Calls Try.prog fn #[.pointer (some ⟨g, 0, none⟩)] w fun e w' => e = .returned (.tuple #[]) ∧ HM w' g F R H t ∧ Fr (fun k => k = g) w w') := KF
  clear KF h
  go_enter Try.func58, Try.ntmps58
  go_wp2_with (first | (go_at_call 65; refine K.mono ?_; clear K; rintro e w' ⟨rfl, rfl⟩) | (go_at_fn fn; refine HK.out.mono ?_; rintro e w1 ⟨rfl, h1, f1⟩))
  go_ret
  exact ⟨rfl, h1, f1⟩
theorem etake_none (fn : Nat) (p : Option Addr) (w : World) (K : Calls Try.prog 65 #[.pointer p] w fun e w' => e = .returned (.bool false) ∧ w = w') :
    Calls Try.prog 58 #[.pointer p, .func (.func fn) #[] #[]] w fun e w' => e = .returned (.int .i64 7) ∧ w = w' := by
  go_enter Try.func58, Try.ntmps58
  go_wp2_with (go_at_call 65; refine K.mono ?_; clear K; rintro e w' ⟨rfl, rfl⟩)
  go_ret
  exact ⟨rfl, rfl⟩
theorem enters_bad (args : Array Value) (w : World) : Sem.run Try.prog (callFunc 63 args) w = .ok (.enter 63 args) w := enters_of (f := 63) Try.func63 (by kernel_rfl) rfl args w
theorem enters_good (args : Array Value) (w : World) : Sem.run Try.prog (callFunc 62 args) w = .ok (.enter 62 args) w := enters_of (f := 62) Try.func62 (by kernel_rfl) rfl args w
theorem enters_wait (args : Array Value) (w : World) : Sem.run Try.prog (callFunc 59 args) w = .ok (.enter 59 args) w := enters_of (f := 59) Try.func59 (by kernel_rfl) rfl args w
theorem take_prb (b : Bool) (g : Nat) (F R H n : Int) (s : Hs) (w : World) (h : HM w g F R H s) (hF : 1 ≤ F) (hi : InvH F n s) (hn : n ≤ 9000000000000000000) :
    Calls Try.prog 58 #[.pointer (some ⟨g, 0, none⟩), .func (.func (if b then 62 else 63)) #[] #[]] w fun e w' => e = .returned (.int .i64 0) ∧ HM w' g F R H (prbS F R H b s) ∧ Fr (fun k => k = g) w w' := by
  cases b
  · exact etake_core 63 g F R H s _ w h hF enters_bad (ebad_in g F R H n s w h hi hn)
  · exact etake_core 62 g F R H s _ w h hF enters_good (egood_in g F R H n s w h hi hn)
theorem take_tck (g : Nat) (F R H n : Int) (s : Hs) (w : World) (h : HM w g F R H s) (hF : 1 ≤ F) (hi : InvH F n s) :
    Calls Try.prog 58 #[.pointer (some ⟨g, 0, none⟩), .func (.func 59) #[] #[]] w fun e w' => e = .returned (.int .i64 0) ∧ HM w' g F R H (tckS s) ∧ Fr (fun k => k = g) w w' :=
  etake_core 59 g F R H s _ w h hF enters_wait (ewait_in g F R H s w h hi.h0 hi.hm)
theorem eProbe_in (b : Bool) (g : Nat) (F R H n : Int) (s : Hs) (w : World) (h : HM w g F R H s) (hF : 1 ≤ F) (hi : InvH F n s) (hn : n ≤ 9000000000000000000) :
    Calls Try.prog 50 #[.pointer (some ⟨g, 0, none⟩), .bool b] w fun e w' => e = .returned (.int .i64 0) ∧ HM w' g F R H (prbS F R H b s) ∧ Fr (fun k => k = g) w w' := by
  have K := take_prb b g F R H n s w h hF hi hn
  clear h hi hn
  cases b
  · simp only [Bool.false_eq_true, if_false] at K
    go_enter Try.func50, Try.ntmps50
    go_wp2_with (go_at_call 58; refine K.mono ?_; clear K; rintro e w1 ⟨rfl, h1, f1⟩)
    go_ret
    exact ⟨rfl, h1, f1⟩
  · simp only [if_true] at K
    go_enter Try.func50, Try.ntmps50
    go_wp2_with (go_at_call 58; refine K.mono ?_; clear K; rintro e w1 ⟨rfl, h1, f1⟩)
    go_ret
    exact ⟨rfl, h1, f1⟩
theorem eTick_in (g : Nat) (F R H n : Int) (s : Hs) (w : World) (h : HM w g F R H s) (hF : 1 ≤ F) (hi : InvH F n s) :
    Calls Try.prog 43 #[.pointer (some ⟨g, 0, none⟩)] w fun e w' => e = .returned (.int .i64 0) ∧ HM w' g F R H (tckS s) ∧ Fr (fun k => k = g) w w' := by
  have K := take_tck g F R H n s w h hF hi
  clear h hi
  go_enter Try.func43, Try.ntmps43
  go_wp2_with (go_at_call 58; refine K.mono ?_; clear K; rintro e w1 ⟨rfl, h1, f1⟩)
  go_ret
  exact ⟨rfl, h1, f1⟩
end Go.Proofs.Ytoiencoojkahmaa
