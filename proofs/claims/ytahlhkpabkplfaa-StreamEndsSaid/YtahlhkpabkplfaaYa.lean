/- The program's table of streams' states: Step. -/
import Derived.Test.YtahlhkpabkplfaaSb
import Derived.Test.YtahlhkpabkplfaaB1
import Derived.Lib.OthersKept
import Derived.Lib.Bytealg
import Derived.BigQuiet
namespace Go.Proofs.Ytahlhkpabkplfaa
open Go.RowKit
set_option maxRecDepth 100000
set_option maxHeartbeats 4000000
set_option linter.unusedVariables false

theorem yIndexL_in (s : ByteArray) (c : Int) (w : World) :
    Calls Try.prog 48 #[.string s, .int .u8 c] w fun e w' => e = .returned (.int .i64 (Lib.indexByte s.data.toList c.toNat.toUInt8)) ∧ w = w' := by
  go_enter Try.func48, Try.ntmps48
  go_wp2
  rw [run_callFunc_extern Try.func57 (by kernel_rfl) (by kernel_rfl) (by kernel_rfl) (e := Extern.BytealgIndexByte.indexByte) (by kernel_rfl), Lib.run_indexByteString]
  simp only [Result.andThen]
  rw [Oper.upon_value]
  go_wp2
  go_ret
  exact ⟨rfl, rfl⟩
theorem yIndex_in (s : ByteArray) (c : Int) (w : World) :
    Calls Try.prog 26 #[.string s, .int .u8 c] w fun e w' => e = .returned (.int .i64 (Lib.indexByte s.data.toList c.toNat.toUInt8)) ∧ w = w' := by
  go_enter Try.func26, Try.ntmps26
  go_wp2_with (go_at_call 48; refine (yIndexL_in _ _ _).mono ?_; rintro e w' ⟨rfl, rfl⟩)
  go_ret
  exact ⟨rfl, rfl⟩
/-- The table's texts, as values. -/
def rowsY : Array Value := #[.string ⟨#[79, 79, 76, 115, 99]⟩, .string ⟨#[82, 82, 67, 115, 99]⟩, .string ⟨#[112, 79, 76, 115, 99]⟩, .string ⟨#[112, 67, 67, 67, 67]⟩, .string ⟨#[112, 79, 76, 82, 67]⟩, .string ⟨#[79, 79, 45, 82, 45]⟩, .string ⟨#[76, 76, 45, 67, 45]⟩, .string ⟨#[45, 79, 45, 82, 45]⟩, .string ⟨#[45, 67, 67, 67, 45]⟩]
theorem ytable_in (w : World) : Calls Try.prog 25 #[] w fun e w' => e = .returned (.agg rowsY) ∧ Fr (fun _ => False) w w' := by
  go_enter Try.func25, Try.ntmps25
  go_wp2_with (fail)
  exact bodyPost_ret (v := .agg rowsY) (by simp [results, Try.results25, go_sem, rowsY]) rfl ⟨rfl, (Fr.refl _ _).alloc _⟩
/-- The answer of Step, as a value. -/
def stepV (st wh : Int) : Value := .tuple #[.int .i64 (stepO st wh).1, .int .i64 (stepO st wh).2.1, .int .i64 (stepO st wh).2.2.1, .int .i64 (stepO st wh).2.2.2]
theorem step_bad {st wh : Int} (h : wh < 0 ∨ 9 ≤ wh ∨ st < 0 ∨ 4 < st) : stepV st wh = .tuple #[.int .i64 0, .int .i64 0, .int .i64 0, .int .i64 1] := by
  unfold stepV stepO
  rw [if_pos h]
theorem yStep_bad (st wh : Int) (w : World) (h : wh < 0 ∨ 9 ≤ wh ∨ st < 0 ∨ 4 < st) : Calls Try.prog 9 #[.int .i64 st, .int .i64 wh] w fun e w' => e = .returned (stepV st wh) ∧ Fr (fun _ => False) w w' := by
  rw [step_bad h]
  have K := ytable_in w
  unfold rowsY at K
  by_cases h1 : st < 0
  · go_enter Try.func9, Try.ntmps9
    go_wp2_with (go_at_call 25; refine K.mono ?_; clear K; rintro e w1 ⟨rfl, hf⟩)
    exact bodyPost_ret (v := .tuple #[.int .i64 0, .int .i64 0, .int .i64 0, .int .i64 1]) (by simp [results, Try.results9, go_sem]) rfl ⟨rfl, hf.alloc _⟩
  by_cases h2 : 5 ≤ st
  · go_enter Try.func9, Try.ntmps9
    go_wp2_with (go_at_call 25; refine K.mono ?_; clear K; rintro e w1 ⟨rfl, hf⟩)
    exact bodyPost_ret (v := .tuple #[.int .i64 0, .int .i64 0, .int .i64 0, .int .i64 1]) (by simp [results, Try.results9, go_sem]) rfl ⟨rfl, hf.alloc _⟩
  by_cases h3 : wh < 0
  · go_enter Try.func9, Try.ntmps9
    go_wp2_with (go_at_call 25; refine K.mono ?_; clear K; rintro e w1 ⟨rfl, hf⟩)
    exact bodyPost_ret (v := .tuple #[.int .i64 0, .int .i64 0, .int .i64 0, .int .i64 1]) (by simp [results, Try.results9, go_sem]) rfl ⟨rfl, hf.alloc _⟩
  have h4 : 9 ≤ wh := by omega
  · go_enter Try.func9, Try.ntmps9
    go_wp2_with (go_at_call 25; refine K.mono ?_; clear K; rintro e w1 ⟨rfl, hf⟩)
    exact bodyPost_ret (v := .tuple #[.int .i64 0, .int .i64 0, .int .i64 0, .int .i64 1]) (by simp [results, Try.results9, go_sem]) rfl ⟨rfl, hf.alloc _⟩
theorem five {st : Int} (h : ¬ (st < 0 ∨ 4 < st)) : st = 0 ∨ st = 1 ∨ st = 2 ∨ st = 3 ∨ st = 4 := by omega
theorem nine {wh : Int} (h : ¬ (wh < 0 ∨ 9 ≤ wh)) : wh = 0 ∨ wh = 1 ∨ wh = 2 ∨ wh = 3 ∨ wh = 4 ∨ wh = 5 ∨ wh = 6 ∨ wh = 7 ∨ wh = 8 := by omega
theorem yStep_0 (st : Int) (w : World) (h : ¬ (st < 0 ∨ 4 < st)) : Calls Try.prog 9 #[.int .i64 st, .int .i64 0] w fun e w' => e = .returned (stepV st 0) ∧ Fr (fun _ => False) w w' := by
  have K := ytable_in w
  unfold rowsY at K
  rcases five h with rfl | rfl | rfl | rfl | rfl
  all_goals
    go_enter Try.func9, Try.ntmps9
    go_wp2_with (first | (go_at_call 25; refine K.mono ?_; clear K; rintro e w1 ⟨rfl, hf⟩) | (go_at_call 26; refine (yIndex_in _ _ _).mono ?_; rintro e w' ⟨rfl, rfl⟩))
    exact bodyPost_ret (v := stepV _ 0) (by simp [results, Try.results9, go_sem]; rfl) rfl ⟨rfl, hf.alloc _⟩
theorem yStep_1 (st : Int) (w : World) (h : ¬ (st < 0 ∨ 4 < st)) : Calls Try.prog 9 #[.int .i64 st, .int .i64 1] w fun e w' => e = .returned (stepV st 1) ∧ Fr (fun _ => False) w w' := by
  have K := ytable_in w
  unfold rowsY at K
  rcases five h with rfl | rfl | rfl | rfl | rfl
  all_goals
    go_enter Try.func9, Try.ntmps9
    go_wp2_with (first | (go_at_call 25; refine K.mono ?_; clear K; rintro e w1 ⟨rfl, hf⟩) | (go_at_call 26; refine (yIndex_in _ _ _).mono ?_; rintro e w' ⟨rfl, rfl⟩))
    exact bodyPost_ret (v := stepV _ 1) (by simp [results, Try.results9, go_sem]; rfl) rfl ⟨rfl, hf.alloc _⟩
theorem yStep_2 (st : Int) (w : World) (h : ¬ (st < 0 ∨ 4 < st)) : Calls Try.prog 9 #[.int .i64 st, .int .i64 2] w fun e w' => e = .returned (stepV st 2) ∧ Fr (fun _ => False) w w' := by
  have K := ytable_in w
  unfold rowsY at K
  rcases five h with rfl | rfl | rfl | rfl | rfl
  all_goals
    go_enter Try.func9, Try.ntmps9
    go_wp2_with (first | (go_at_call 25; refine K.mono ?_; clear K; rintro e w1 ⟨rfl, hf⟩) | (go_at_call 26; refine (yIndex_in _ _ _).mono ?_; rintro e w' ⟨rfl, rfl⟩))
    exact bodyPost_ret (v := stepV _ 2) (by simp [results, Try.results9, go_sem]; rfl) rfl ⟨rfl, hf.alloc _⟩
theorem yStep_3 (st : Int) (w : World) (h : ¬ (st < 0 ∨ 4 < st)) : Calls Try.prog 9 #[.int .i64 st, .int .i64 3] w fun e w' => e = .returned (stepV st 3) ∧ Fr (fun _ => False) w w' := by
  have K := ytable_in w
  unfold rowsY at K
  rcases five h with rfl | rfl | rfl | rfl | rfl
  all_goals
    go_enter Try.func9, Try.ntmps9
    go_wp2_with (first | (go_at_call 25; refine K.mono ?_; clear K; rintro e w1 ⟨rfl, hf⟩) | (go_at_call 26; refine (yIndex_in _ _ _).mono ?_; rintro e w' ⟨rfl, rfl⟩))
    exact bodyPost_ret (v := stepV _ 3) (by simp [results, Try.results9, go_sem]; rfl) rfl ⟨rfl, hf.alloc _⟩
theorem yStep_4 (st : Int) (w : World) (h : ¬ (st < 0 ∨ 4 < st)) : Calls Try.prog 9 #[.int .i64 st, .int .i64 4] w fun e w' => e = .returned (stepV st 4) ∧ Fr (fun _ => False) w w' := by
  have K := ytable_in w
  unfold rowsY at K
  rcases five h with rfl | rfl | rfl | rfl | rfl
  all_goals
    go_enter Try.func9, Try.ntmps9
    go_wp2_with (first | (go_at_call 25; refine K.mono ?_; clear K; rintro e w1 ⟨rfl, hf⟩) | (go_at_call 26; refine (yIndex_in _ _ _).mono ?_; rintro e w' ⟨rfl, rfl⟩))
    exact bodyPost_ret (v := stepV _ 4) (by simp [results, Try.results9, go_sem]; rfl) rfl ⟨rfl, hf.alloc _⟩
theorem yStep_5 (st : Int) (w : World) (h : ¬ (st < 0 ∨ 4 < st)) : Calls Try.prog 9 #[.int .i64 st, .int .i64 5] w fun e w' => e = .returned (stepV st 5) ∧ Fr (fun _ => False) w w' := by
  have K := ytable_in w
  unfold rowsY at K
  rcases five h with rfl | rfl | rfl | rfl | rfl
  all_goals
    go_enter Try.func9, Try.ntmps9
    go_wp2_with (first | (go_at_call 25; refine K.mono ?_; clear K; rintro e w1 ⟨rfl, hf⟩) | (go_at_call 26; refine (yIndex_in _ _ _).mono ?_; rintro e w' ⟨rfl, rfl⟩))
    exact bodyPost_ret (v := stepV _ 5) (by simp [results, Try.results9, go_sem]; rfl) rfl ⟨rfl, hf.alloc _⟩
theorem yStep_6 (st : Int) (w : World) (h : ¬ (st < 0 ∨ 4 < st)) : Calls Try.prog 9 #[.int .i64 st, .int .i64 6] w fun e w' => e = .returned (stepV st 6) ∧ Fr (fun _ => False) w w' := by
  have K := ytable_in w
  unfold rowsY at K
  rcases five h with rfl | rfl | rfl | rfl | rfl
  all_goals
    go_enter Try.func9, Try.ntmps9
    go_wp2_with (first | (go_at_call 25; refine K.mono ?_; clear K; rintro e w1 ⟨rfl, hf⟩) | (go_at_call 26; refine (yIndex_in _ _ _).mono ?_; rintro e w' ⟨rfl, rfl⟩))
    exact bodyPost_ret (v := stepV _ 6) (by simp [results, Try.results9, go_sem]; rfl) rfl ⟨rfl, hf.alloc _⟩
theorem yStep_7 (st : Int) (w : World) (h : ¬ (st < 0 ∨ 4 < st)) : Calls Try.prog 9 #[.int .i64 st, .int .i64 7] w fun e w' => e = .returned (stepV st 7) ∧ Fr (fun _ => False) w w' := by
  have K := ytable_in w
  unfold rowsY at K
  rcases five h with rfl | rfl | rfl | rfl | rfl
  all_goals
    go_enter Try.func9, Try.ntmps9
    go_wp2_with (first | (go_at_call 25; refine K.mono ?_; clear K; rintro e w1 ⟨rfl, hf⟩) | (go_at_call 26; refine (yIndex_in _ _ _).mono ?_; rintro e w' ⟨rfl, rfl⟩))
    exact bodyPost_ret (v := stepV _ 7) (by simp [results, Try.results9, go_sem]; rfl) rfl ⟨rfl, hf.alloc _⟩
theorem yStep_8 (st : Int) (w : World) (h : ¬ (st < 0 ∨ 4 < st)) : Calls Try.prog 9 #[.int .i64 st, .int .i64 8] w fun e w' => e = .returned (stepV st 8) ∧ Fr (fun _ => False) w w' := by
  have K := ytable_in w
  unfold rowsY at K
  rcases five h with rfl | rfl | rfl | rfl | rfl
  all_goals
    go_enter Try.func9, Try.ntmps9
    go_wp2_with (first | (go_at_call 25; refine K.mono ?_; clear K; rintro e w1 ⟨rfl, hf⟩) | (go_at_call 26; refine (yIndex_in _ _ _).mono ?_; rintro e w' ⟨rfl, rfl⟩))
    exact bodyPost_ret (v := stepV _ 8) (by simp [results, Try.results9, go_sem]; rfl) rfl ⟨rfl, hf.alloc _⟩
theorem yStep_in (st wh : Int) (w : World) : Calls Try.prog 9 #[.int .i64 st, .int .i64 wh] w fun e w' => e = .returned (stepV st wh) ∧ Fr (fun _ => False) w w' := by
  by_cases h : wh < 0 ∨ 9 ≤ wh ∨ st < 0 ∨ 4 < st
  · exact yStep_bad st wh w h
  · have h1 : ¬ (st < 0 ∨ 4 < st) := by omega
    have h2 : ¬ (wh < 0 ∨ 9 ≤ wh) := by omega
    rcases nine h2 with rfl | rfl | rfl | rfl | rfl | rfl | rfl | rfl | rfl
    · exact yStep_0 st w h1
    · exact yStep_1 st w h1
    · exact yStep_2 st w h1
    · exact yStep_3 st w h1
    · exact yStep_4 st w h1
    · exact yStep_5 st w h1
    · exact yStep_6 st w h1
    · exact yStep_7 st w h1
    · exact yStep_8 st w h1
end Go.Proofs.Ytahlhkpabkplfaa
