/- Contracts of the program's small questions on frames. -/
import Derived.Test.YthcjgjmbicnklabFa
namespace Go.Proofs.Ythcjgjmbicnklab
open Go.RowKit
set_option linter.unusedVariables false
set_option maxRecDepth 100000
set_option maxHeartbeats 4000000

theorem bits_has8 : ∀ n : Fin 256, bits .and .i64 ((n.val : Nat) : Int) 8 = if n.val / 8 % 2 = 1 then 8 else 0 := by decide +kernel
theorem bits_has32 : ∀ n : Fin 256, bits .and .i64 ((n.val : Nat) : Int) 32 = if n.val / 32 % 2 = 1 then 32 else 0 := by decide +kernel
theorem bits_has1 : ∀ n : Fin 256, bits .and .i64 ((n.val : Nat) : Int) 1 = if n.val / 1 % 2 = 1 then 1 else 0 := by decide +kernel
theorem and8 {fl : Int} (h0 : 0 ≤ fl) (h1 : fl ≤ 255) : bits .and .i64 fl 8 = if has fl 8 then 8 else 0 := by
  obtain ⟨n, rfl⟩ : ∃ n : Nat, fl = n := ⟨fl.toNat, by omega⟩
  rw [bits_has8 ⟨n, by omega⟩]
  by_cases h : n / 8 % 2 = 1
  · rw [if_pos h, if_pos (by simp [has]; omega)]
  · rw [if_neg h, if_neg (by simp [has]; omega)]
theorem and32 {fl : Int} (h0 : 0 ≤ fl) (h1 : fl ≤ 255) : bits .and .i64 fl 32 = if has fl 32 then 32 else 0 := by
  obtain ⟨n, rfl⟩ : ∃ n : Nat, fl = n := ⟨fl.toNat, by omega⟩
  rw [bits_has32 ⟨n, by omega⟩]
  by_cases h : n / 32 % 2 = 1
  · rw [if_pos h, if_pos (by simp [has]; omega)]
  · rw [if_neg h, if_neg (by simp [has]; omega)]
theorem and1 {fl : Int} (h0 : 0 ≤ fl) (h1 : fl ≤ 255) : bits .and .i64 fl 1 = if has fl 1 then 1 else 0 := by
  obtain ⟨n, rfl⟩ : ∃ n : Nat, fl = n := ⟨fl.toNat, by omega⟩
  rw [bits_has1 ⟨n, by omega⟩]
  by_cases h : n / 1 % 2 = 1
  · rw [if_pos h, if_pos (by simp [has]; omega)]
  · rw [if_neg h, if_neg (by simp [has]; omega)]
theorem kinds (k : Int) : k = 0 ∨ k = 1 ∨ k = 2 ∨ k = 3 ∨ k = 4 ∨ k = 5 ∨ k = 6 ∨ k = 7 ∨ k = 8 ∨ k = 9 ∨ (k ≠ 0 ∧ k ≠ 1 ∧ k ≠ 2 ∧ k ≠ 3 ∧ k ≠ 4 ∧ k ≠ 5 ∧ k ≠ 6 ∧ k ≠ 7 ∧ k ≠ 8 ∧ k ≠ 9) := by omega

theorem Known_in (k : Int) (w : World) : Calls Try.prog 6 #[.int .i64 k] w fun e w' => e = .returned (.bool (knownB k)) ∧ w = w' := by
  by_cases h0 : 0 ≤ k
  · by_cases h1 : k ≤ 9
    · have hd : knownB k = true := by simp [knownB]; omega
      go_enter Try.func6, Try.ntmps6
      go_wp2
      go_ret
      exact ⟨by first | rfl | (rw [hd]; rfl), rfl⟩
    · have hd : knownB k = false := by simp [knownB]; omega
      go_enter Try.func6, Try.ntmps6
      go_wp2
      go_ret
      exact ⟨by first | rfl | (rw [hd]; rfl), rfl⟩
  · have hd : knownB k = false := by simp [knownB]; omega
    go_enter Try.func6, Try.ntmps6
    go_wp2
    go_ret
    exact ⟨by first | rfl | (rw [hd]; rfl), rfl⟩

theorem fawake_in (w : World) : Calls Try.prog 8 #[] w fun e w' => e = .returned (.bool true) ∧ w = w' := by
  have K9 := Known_in 9 w
  have K10 := Known_in 10 w
  go_enter Try.func8, Try.ntmps8
  go_wp2_with (fail)
  refine K9.mono ?_
  rintro e w' ⟨rfl, rfl⟩
  have e9 : knownB 9 = true := by decide
  have e10 : knownB 10 = false := by decide
  rw [e9]
  go_wp2_with (fail)
  refine K10.mono ?_
  rintro e w' ⟨rfl, rfl⟩
  rw [e10]
  go_wp2
  go_ret
  exact ⟨rfl, rfl⟩

theorem canP_eq (k : Int) : canP k = (k == 0 || k == 1 || k == 5) := by
  rw [Bool.eq_iff_iff]
  simp [canP, or_assoc]
end Go.Proofs.Ythcjgjmbicnklab
