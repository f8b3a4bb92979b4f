/- The walk of TableFinds. -/
import Derived.Test.YtkipeifkfgbkeaaX4
namespace Go.Proofs.Ytkipeifkfgbkeaa
open Go.RowKit
set_option maxRecDepth 100000
set_option maxHeartbeats 8000000
set_option linter.unusedVariables false

theorem nameAt_pos {E : List (ByteArray × ByteArray)} {n : ByteArray} : ∀ {N : Nat}, 0 < nameAt E n N → nameAt E n N ≤ N ∧ (entAt E (nameAt E n N - 1)).1 = n
  | 0, h => by simp [nameAt] at h
  | N + 1, h => by
    by_cases hc : nameAt E n N = 0 ∧ (entAt E N).1 = n
    · rw [nameAt, if_pos hc]
      exact ⟨Nat.le_refl _, hc.2⟩
    · rw [nameAt, if_neg hc] at h ⊢
      have := nameAt_pos h
      exact ⟨by omega, this.2⟩
theorem nameAt_le {E : List (ByteArray × ByteArray)} {n : ByteArray} {k : Nat} (hn : (entAt E k).1 = n) : ∀ {N : Nat}, k < N → 0 < nameAt E n N ∧ nameAt E n N ≤ k + 1
  | 0, h => by omega
  | N + 1, h => by
    by_cases hk : k < N
    · have := nameAt_le hn hk
      rw [nameAt, if_neg (by omega)]
      exact this
    · obtain rfl : k = N := by omega
      by_cases h0 : nameAt E n k = 0
      · rw [nameAt, if_pos ⟨h0, hn⟩]; omega
      · rw [nameAt, if_neg (fun e => h0 e.1)]
        have := (nameAt_pos (Nat.pos_of_ne_zero h0)).1
        omega

/-- How an entry stands to what Find answered. -/
theorem find_cases {E : List (ByteArray × ByteArray)} {n u : ByteArray} {at_ : Nat} {b : Bool} (h : FindOut E n u at_ b) {k : Nat} (hk : k < 61 + E.length) {en eu : ByteArray} (he : (entAt E k).1 = en ∧ (entAt E k).2 = eu) :
    ((b = true ∧ k + 1 < at_ ∧ ¬ en = n) ∨ (b = true ∧ k + 1 < at_ ∧ n = en ∧ ¬ eu = u) ∨ (b = true ∧ k + 1 = at_ ∧ n = en ∧ u = eu)) ∨ ((b = true ∧ at_ < k + 1 ∧ ¬ en = n) ∨ (b = true ∧ at_ < k + 1 ∧ n = en ∧ ¬ eu = u) ∨ (b = true ∧ at_ < k + 1 ∧ n = en ∧ u = eu)) ∨
    (b = false ∧ n = en ∧ ¬ eu = u ∧ 0 < at_ ∧ at_ < k + 1) ∨ (b = false ∧ n = en ∧ ¬ eu = u ∧ 0 < at_ ∧ at_ = k + 1) ∨ (b = false ∧ ¬ en = n ∧ k + 1 < at_) ∨ (b = false ∧ ¬ en = n ∧ at_ < k + 1) := by
  rcases h with ⟨rfl, h1, h2, h3, h4⟩ | ⟨rfl, rfl, h2⟩
  · rcases Nat.lt_trichotomy (k + 1) at_ with hlt | heq | hgt
    · have hne := h4 k (by omega)
      by_cases h5 : en = n
      · by_cases h6 : eu = u
        · exact absurd (Prod.ext (he.1.trans h5) (he.2.trans h6)) hne
        · exact .inl (.inr (.inl ⟨rfl, hlt, h5.symm, h6⟩))
      · exact .inl (.inl ⟨rfl, hlt, h5⟩)
    · have h7 : entAt E k = (n, u) := by rw [← h3, show at_ - 1 = k by omega]
      rw [h7] at he
      exact .inl (.inr (.inr ⟨rfl, heq, he.1, he.2⟩))
    · by_cases h5 : en = n
      · by_cases h6 : eu = u
        · exact .inr (.inl (.inr (.inr ⟨rfl, hgt, h5.symm, h6.symm⟩)))
        · exact .inr (.inl (.inr (.inl ⟨rfl, hgt, h5.symm, h6⟩)))
      · exact .inr (.inl (.inl ⟨rfl, hgt, h5⟩))
  · have hne := h2 k hk
    by_cases h5 : en = n
    · have h6 : ¬ eu = u := fun h6 => hne (Prod.ext (he.1.trans h5) (he.2.trans h6))
      have h7 := nameAt_le (he.1.trans h5) hk
      rcases Nat.lt_or_ge (nameAt E n (61 + E.length)) (k + 1) with h8 | h8
      · exact .inr (.inr (.inl ⟨rfl, h5.symm, h6, h7.1, h8⟩))
      · exact .inr (.inr (.inr (.inl ⟨rfl, h5.symm, h6, h7.1, by omega⟩)))
    · rcases Nat.lt_trichotomy (nameAt E n (61 + E.length)) (k + 1) with h8 | h8 | h8
      · exact .inr (.inr (.inr (.inr (.inr ⟨rfl, h5, h8⟩))))
      · have := (nameAt_pos (E := E) (n := n) (N := 61 + E.length) (by omega)).2
        rw [h8, show k + 1 - 1 = k by omega] at this
        exact absurd (he.1.symm.trans this) h5
      · exact .inr (.inr (.inr (.inr (.inl ⟨rfl, h5, h8⟩))))
theorem find_end {E : List (ByteArray × ByteArray)} {n u : ByteArray} {at_ : Nat} {b : Bool} (h : FindOut E n u at_ b) : at_ ≤ 61 + E.length ∧ (b = true → 0 < at_) := by
  rcases h with ⟨rfl, h1, h2, h3, h4⟩ | ⟨rfl, rfl, h2⟩
  · exact ⟨h2, fun _ => h1⟩
  · refine ⟨?_, fun h => by cases h⟩
    rcases Nat.eq_zero_or_pos (nameAt E n (61 + E.length)) with h0 | h0
    · omega
    · exact (nameAt_pos h0).1
theorem no_eq {x y : ByteArray} (h : ¬ x = y) : ¬ x.toList = y.toList ∧ (x.toList == y.toList) = false := ⟨fun e => h (toList_inj e), beq_eq_false_iff_ne.2 (fun e => h (toList_inj e))⟩
theorem idx_lt {k a : Nat} (h : k + 1 < a) : ((k : Int) + 1 == (a : Int)) = false ∧ (k : Int) + 1 ≤ (a : Int) ∧ (k : Int) + 1 < (a : Int) ∧ ((a : Int) == 0) = false := ⟨by rw [beq_eq_false_iff_ne]; omega, by omega, by omega, by rw [beq_eq_false_iff_ne]; omega⟩
theorem idx_gt {k a : Nat} (h : a < k + 1) : ((k : Int) + 1 == (a : Int)) = false ∧ ¬ (k : Int) + 1 ≤ (a : Int) ∧ ¬ (k : Int) + 1 < (a : Int) := ⟨by rw [beq_eq_false_iff_ne]; omega, by omega, by omega⟩

theorem idx_eq {k a : Nat} (h : k + 1 = a) : ((k : Int) + 1 == (a : Int)) = true ∧ (k : Int) + 1 ≤ (a : Int) ∧ ¬ (k : Int) + 1 < (a : Int) ∧ ((a : Int) == 0) = false := ⟨by rw [beq_iff_eq]; omega, by omega, by omega, by rw [beq_eq_false_iff_ne]; omega⟩
end Go.Proofs.Ytkipeifkfgbkeaa
