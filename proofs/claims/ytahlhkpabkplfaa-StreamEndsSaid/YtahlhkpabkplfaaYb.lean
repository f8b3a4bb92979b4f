/- The document's table of streams' states: Step; awake. -/
import Derived.Test.YtahlhkpabkplfaaYa
namespace Go.Proofs.Ytahlhkpabkplfaa
open Go.RowKit
set_option maxRecDepth 100000
set_option maxHeartbeats 4000000
set_option linter.unusedVariables false

def rowsR : Array Value := #[.string ⟨#[49, 49, 50, 83, 67]⟩, .string ⟨#[51, 51, 52, 83, 67]⟩, .string ⟨#[80, 49, 50, 83, 67]⟩, .string ⟨#[80, 52, 52, 52, 52]⟩, .string ⟨#[80, 49, 50, 51, 52]⟩, .string ⟨#[49, 49, 45, 51, 45]⟩, .string ⟨#[50, 50, 45, 52, 45]⟩, .string ⟨#[45, 49, 45, 51, 45]⟩, .string ⟨#[45, 52, 52, 52, 45]⟩]
theorem rysteps_in (w : World) : Calls Try.prog 27 #[] w fun e w' => e = .returned (.slice (some ⟨w.heap.size, 0, none⟩) 9 9) ∧ w' = w.alloc (.cells rowsR 9) := by
  go_enter Try.func27, Try.ntmps27
  go_wp2_with (fail)
  go_ret
  exact ⟨rfl, rfl⟩
theorem ryStep_bad (st wh : Int) (w : World) (h : wh < 0 ∨ 9 ≤ wh ∨ st < 0 ∨ 4 < st) : Calls Try.prog 10 #[.int .i64 st, .int .i64 wh] w fun e w' => e = .returned (stepV st wh) ∧ Fr (fun _ => False) w w' := by
  rw [step_bad h]
  have K := rysteps_in w
  unfold rowsR at K
  by_cases h3 : wh < 0
  · go_enter Try.func10, Try.ntmps10
    go_wp2_with (go_at_call 27; refine K.mono ?_; clear K; rintro e w1 ⟨rfl, rfl⟩)
    exact bodyPost_ret (v := .tuple #[.int .i64 0, .int .i64 0, .int .i64 0, .int .i64 1]) (by simp [results, Try.results10, go_sem]) rfl ⟨rfl, (Fr.refl _ _).alloc _⟩
  by_cases h4 : 9 ≤ wh
  · go_enter Try.func10, Try.ntmps10
    go_wp2_with (go_at_call 27; refine K.mono ?_; clear K; rintro e w1 ⟨rfl, rfl⟩)
    exact bodyPost_ret (v := .tuple #[.int .i64 0, .int .i64 0, .int .i64 0, .int .i64 1]) (by simp [results, Try.results10, go_sem]) rfl ⟨rfl, (Fr.refl _ _).alloc _⟩
  by_cases h1 : st < 0
  · go_enter Try.func10, Try.ntmps10
    go_wp2_with (go_at_call 27; refine K.mono ?_; clear K; rintro e w1 ⟨rfl, rfl⟩)
    exact bodyPost_ret (v := .tuple #[.int .i64 0, .int .i64 0, .int .i64 0, .int .i64 1]) (by simp [results, Try.results10, go_sem]) rfl ⟨rfl, (Fr.refl _ _).alloc _⟩
  have h2 : 4 < st := by omega
  · go_enter Try.func10, Try.ntmps10
    go_wp2_with (go_at_call 27; refine K.mono ?_; clear K; rintro e w1 ⟨rfl, rfl⟩)
    exact bodyPost_ret (v := .tuple #[.int .i64 0, .int .i64 0, .int .i64 0, .int .i64 1]) (by simp [results, Try.results10, go_sem]) rfl ⟨rfl, (Fr.refl _ _).alloc _⟩
theorem ryStep_0 (st : Int) (w : World) (h : ¬ (st < 0 ∨ 4 < st)) : Calls Try.prog 10 #[.int .i64 st, .int .i64 0] w fun e w' => e = .returned (stepV st 0) ∧ Fr (fun _ => False) w w' := by
  have K := rysteps_in w
  unfold rowsR at K
  rcases five h with rfl | rfl | rfl | rfl | rfl
  all_goals
    go_enter Try.func10, Try.ntmps10
    go_wp2_with (go_at_call 27; refine K.mono ?_; clear K; rintro e w1 ⟨rfl, rfl⟩)
    exact bodyPost_ret (v := stepV _ 0) (by simp [results, Try.results10, go_sem]; rfl) rfl ⟨rfl, (Fr.refl _ _).alloc _⟩
theorem ryStep_1 (st : Int) (w : World) (h : ¬ (st < 0 ∨ 4 < st)) : Calls Try.prog 10 #[.int .i64 st, .int .i64 1] w fun e w' => e = .returned (stepV st 1) ∧ Fr (fun _ => False) w w' := by
  have K := rysteps_in w
  unfold rowsR at K
  rcases five h with rfl | rfl | rfl | rfl | rfl
  all_goals
    go_enter Try.func10, Try.ntmps10
    go_wp2_with (go_at_call 27; refine K.mono ?_; clear K; rintro e w1 ⟨rfl, rfl⟩)
    exact bodyPost_ret (v := stepV _ 1) (by simp [results, Try.results10, go_sem]; rfl) rfl ⟨rfl, (Fr.refl _ _).alloc _⟩
theorem ryStep_2 (st : Int) (w : World) (h : ¬ (st < 0 ∨ 4 < st)) : Calls Try.prog 10 #[.int .i64 st, .int .i64 2] w fun e w' => e = .returned (stepV st 2) ∧ Fr (fun _ => False) w w' := by
  have K := rysteps_in w
  unfold rowsR at K
  rcases five h with rfl | rfl | rfl | rfl | rfl
  all_goals
    go_enter Try.func10, Try.ntmps10
    go_wp2_with (go_at_call 27; refine K.mono ?_; clear K; rintro e w1 ⟨rfl, rfl⟩)
    exact bodyPost_ret (v := stepV _ 2) (by simp [results, Try.results10, go_sem]; rfl) rfl ⟨rfl, (Fr.refl _ _).alloc _⟩
theorem ryStep_3 (st : Int) (w : World) (h : ¬ (st < 0 ∨ 4 < st)) : Calls Try.prog 10 #[.int .i64 st, .int .i64 3] w fun e w' => e = .returned (stepV st 3) ∧ Fr (fun _ => False) w w' := by
  have K := rysteps_in w
  unfold rowsR at K
  rcases five h with rfl | rfl | rfl | rfl | rfl
  all_goals
    go_enter Try.func10, Try.ntmps10
    go_wp2_with (go_at_call 27; refine K.mono ?_; clear K; rintro e w1 ⟨rfl, rfl⟩)
    exact bodyPost_ret (v := stepV _ 3) (by simp [results, Try.results10, go_sem]; rfl) rfl ⟨rfl, (Fr.refl _ _).alloc _⟩
theorem ryStep_4 (st : Int) (w : World) (h : ¬ (st < 0 ∨ 4 < st)) : Calls Try.prog 10 #[.int .i64 st, .int .i64 4] w fun e w' => e = .returned (stepV st 4) ∧ Fr (fun _ => False) w w' := by
  have K := rysteps_in w
  unfold rowsR at K
  rcases five h with rfl | rfl | rfl | rfl | rfl
  all_goals
    go_enter Try.func10, Try.ntmps10
    go_wp2_with (go_at_call 27; refine K.mono ?_; clear K; rintro e w1 ⟨rfl, rfl⟩)
    exact bodyPost_ret (v := stepV _ 4) (by simp [results, Try.results10, go_sem]; rfl) rfl ⟨rfl, (Fr.refl _ _).alloc _⟩
theorem ryStep_5 (st : Int) (w : World) (h : ¬ (st < 0 ∨ 4 < st)) : Calls Try.prog 10 #[.int .i64 st, .int .i64 5] w fun e w' => e = .returned (stepV st 5) ∧ Fr (fun _ => False) w w' := by
  have K := rysteps_in w
  unfold rowsR at K
  rcases five h with rfl | rfl | rfl | rfl | rfl
  all_goals
    go_enter Try.func10, Try.ntmps10
    go_wp2_with (go_at_call 27; refine K.mono ?_; clear K; rintro e w1 ⟨rfl, rfl⟩)
    exact bodyPost_ret (v := stepV _ 5) (by simp [results, Try.results10, go_sem]; rfl) rfl ⟨rfl, (Fr.refl _ _).alloc _⟩
theorem ryStep_6 (st : Int) (w : World) (h : ¬ (st < 0 ∨ 4 < st)) : Calls Try.prog 10 #[.int .i64 st, .int .i64 6] w fun e w' => e = .returned (stepV st 6) ∧ Fr (fun _ => False) w w' := by
  have K := rysteps_in w
  unfold rowsR at K
  rcases five h with rfl | rfl | rfl | rfl | rfl
  all_goals
    go_enter Try.func10, Try.ntmps10
    go_wp2_with (go_at_call 27; refine K.mono ?_; clear K; rintro e w1 ⟨rfl, rfl⟩)
    exact bodyPost_ret (v := stepV _ 6) (by simp [results, Try.results10, go_sem]; rfl) rfl ⟨rfl, (Fr.refl _ _).alloc _⟩
theorem ryStep_7 (st : Int) (w : World) (h : ¬ (st < 0 ∨ 4 < st)) : Calls Try.prog 10 #[.int .i64 st, .int .i64 7] w fun e w' => e = .returned (stepV st 7) ∧ Fr (fun _ => False) w w' := by
  have K := rysteps_in w
  unfold rowsR at K
  rcases five h with rfl | rfl | rfl | rfl | rfl
  all_goals
    go_enter Try.func10, Try.ntmps10
    go_wp2_with (go_at_call 27; refine K.mono ?_; clear K; rintro e w1 ⟨rfl, rfl⟩)
    exact bodyPost_ret (v := stepV _ 7) (by simp [results, Try.results10, go_sem]; rfl) rfl ⟨rfl, (Fr.refl _ _).alloc _⟩
theorem ryStep_8 (st : Int) (w : World) (h : ¬ (st < 0 ∨ 4 < st)) : Calls Try.prog 10 #[.int .i64 st, .int .i64 8] w fun e w' => e = .returned (stepV st 8) ∧ Fr (fun _ => False) w w' := by
  have K := rysteps_in w
  unfold rowsR at K
  rcases five h with rfl | rfl | rfl | rfl | rfl
  all_goals
    go_enter Try.func10, Try.ntmps10
    go_wp2_with (go_at_call 27; refine K.mono ?_; clear K; rintro e w1 ⟨rfl, rfl⟩)
    exact bodyPost_ret (v := stepV _ 8) (by simp [results, Try.results10, go_sem]; rfl) rfl ⟨rfl, (Fr.refl _ _).alloc _⟩
theorem ryStep_in (st wh : Int) (w : World) : Calls Try.prog 10 #[.int .i64 st, .int .i64 wh] w fun e w' => e = .returned (stepV st wh) ∧ Fr (fun _ => False) w w' := by
  by_cases h : wh < 0 ∨ 9 ≤ wh ∨ st < 0 ∨ 4 < st
  · exact ryStep_bad st wh w h
  · have h1 : ¬ (st < 0 ∨ 4 < st) := by omega
    have h2 : ¬ (wh < 0 ∨ 9 ≤ wh) := by omega
    rcases nine h2 with rfl | rfl | rfl | rfl | rfl | rfl | rfl | rfl | rfl
    · exact ryStep_0 st w h1
    · exact ryStep_1 st w h1
    · exact ryStep_2 st w h1
    · exact ryStep_3 st w h1
    · exact ryStep_4 st w h1
    · exact ryStep_5 st w h1
    · exact ryStep_6 st w h1
    · exact ryStep_7 st w h1
    · exact ryStep_8 st w h1
theorem yawake_in (w : World) : Calls Try.prog 11 #[] w fun e w' => e = .returned (.bool true) ∧ Fr (fun _ => False) w w' := by
  have K := yStep_in 0 1 w
  have e1 : stepV 0 1 = .tuple #[.int .i64 3, .int .i64 0, .int .i64 0, .int .i64 0] := rfl
  rw [e1] at K
  go_enter Try.func11, Try.ntmps11
  go_wp2_with (go_at_call 9; refine K.mono ?_; clear K; rintro e w1 ⟨rfl, hf⟩)
  go_ret
  exact ⟨rfl, hf⟩
end Go.Proofs.Ytahlhkpabkplfaa
