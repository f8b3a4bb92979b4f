/- Contracts of the program's small questions on frames. -/
import Derived.Test.YtikaefjhmgcidaaZMFU1
namespace Go.Proofs.Ytikaefjhmgcidaa
open Go.RowKit
set_option linter.unusedVariables false
set_option maxRecDepth 100000
set_option maxHeartbeats 4000000

theorem bits_has8 : ∀ n : Fin 256, bits .and .i64 ((n.val : Nat) : Int) 8 = if n.val / 8 % 2 = 1 then 8 else 0 := by decide +kernel
theorem bits_has32 : ∀ n : Fin 256, bits .and .i64 ((n.val : Nat) : Int) 32 = if n.val / 32 % 2 = 1 then 32 else 0 := by decide +kernel
theorem bits_has1 : ∀ n : Fin 256, bits .and .i64 ((n.val : Nat) : Int) 1 = if n.val / 1 % 2 = 1 then 1 else 0 := by decide +kernel
theorem and8 {fl : Int} (h0 : 0 ≤ fl) (h1 : fl ≤ 255) : bits .and .i64 fl 8 = if has fl 8 then 8 else 0 := by
  obtain ⟨n, rfl⟩ : ∃ n : Nat, fl = n := ⟨fl.toNat, by omega⟩
  rw [bits_has8 ⟨n, by omega⟩]
  by_cases h : n / 8 % 2 = 1
  · rw [if_pos h, if_pos (by simp [has]; omega)]
  · rw [if_neg h, if_neg (by simp [has]; omega)]
theorem and32 {fl : Int} (h0 : 0 ≤ fl) (h1 : fl ≤ 255) : bits .and .i64 fl 32 = if has fl 32 then 32 else 0 := by
  obtain ⟨n, rfl⟩ : ∃ n : Nat, fl = n := ⟨fl.toNat, by omega⟩
  rw [bits_has32 ⟨n, by omega⟩]
  by_cases h : n / 32 % 2 = 1
  · rw [if_pos h, if_pos (by simp [has]; omega)]
  · rw [if_neg h, if_neg (by simp [has]; omega)]
theorem and1 {fl : Int} (h0 : 0 ≤ fl) (h1 : fl ≤ 255) : bits .and .i64 fl 1 = if has fl 1 then 1 else 0 := by
  obtain ⟨n, rfl⟩ : ∃ n : Nat, fl = n := ⟨fl.toNat, by omega⟩
  rw [bits_has1 ⟨n, by omega⟩]
  by_cases h : n / 1 % 2 = 1
  · rw [if_pos h, if_pos (by simp [has]; omega)]
  · rw [if_neg h, if_neg (by simp [has]; omega)]
theorem kinds (k : Int) : k = 0 ∨ k = 1 ∨ k = 2 ∨ k = 3 ∨ k = 4 ∨ k = 5 ∨ k = 6 ∨ k = 7 ∨ k = 8 ∨ k = 9 ∨ (k ≠ 0 ∧ k ≠ 1 ∧ k ≠ 2 ∧ k ≠ 3 ∧ k ≠ 4 ∧ k ≠ 5 ∧ k ≠ 6 ∧ k ≠ 7 ∧ k ≠ 8 ∧ k ≠ 9) := by omega

theorem Known_in (k : Int) (w : World) : Calls Try.prog 31 #[.int .i64 k] w fun e w' => e = .returned (.bool (knownB k)) ∧ w = w' := by
  by_cases h0 : 0 ≤ k
  · by_cases h1 : k ≤ 9
    · have hd : knownB k = true := by simp [knownB]; omega
      go_enter Try.func31, Try.ntmps31
      go_wp2
      go_ret
      exact ⟨by first | rfl | (rw [hd]; rfl), rfl⟩
    · have hd : knownB k = false := by simp [knownB]; omega
      go_enter Try.func31, Try.ntmps31
      go_wp2
      go_ret
      exact ⟨by first | rfl | (rw [hd]; rfl), rfl⟩
  · have hd : knownB k = false := by simp [knownB]; omega
    go_enter Try.func31, Try.ntmps31
    go_wp2
    go_ret
    exact ⟨by first | rfl | (rw [hd]; rfl), rfl⟩

theorem isStream_in (n : Int) (w : World) : Calls Try.prog 83 #[.int .i64 n] w fun e w' => e = .returned (.bool (idOk n)) ∧ w = w' := by
  by_cases h0 : 0 ≤ n
  · by_cases h1 : n ≤ 2147483647
    · have hd : idOk n = true := by simp [idOk]; omega
      go_enter Try.func83, Try.ntmps83
      go_wp2
      go_ret
      exact ⟨by first | rfl | (rw [hd]; rfl), rfl⟩
    · have hd : idOk n = false := by simp [idOk]; omega
      go_enter Try.func83, Try.ntmps83
      go_wp2
      go_ret
      exact ⟨by first | rfl | (rw [hd]; rfl), rfl⟩
  · have hd : idOk n = false := by simp [idOk]; omega
    go_enter Try.func83, Try.ntmps83
    go_wp2
    go_ret
    exact ⟨by first | rfl | (rw [hd]; rfl), rfl⟩

theorem canP_eq (k : Int) : canP k = (k == 0 || k == 1 || k == 5) := by
  rw [Bool.eq_iff_iff]
  simp [canP, or_assoc]
theorem canPad_in (k : Int) (w : World) : Calls Try.prog 82 #[.int .i64 k] w fun e w' => e = .returned (.bool (canP k)) ∧ w = w' := by
  by_cases h0 : k = 0
  · subst h0
    go_enter Try.func82, Try.ntmps82
    go_wp2
    go_ret
    exact ⟨rfl, rfl⟩
  · by_cases h1 : k = 1
    · subst h1
      go_enter Try.func82, Try.ntmps82
      go_wp2
      go_ret
      exact ⟨rfl, rfl⟩
    · have hd := canP_eq k
      go_enter Try.func82, Try.ntmps82
      go_wp2
      go_ret
      exact ⟨by first | rfl | (rw [hd]; rfl), rfl⟩

theorem padded_in (f : Fra) (p q : Option Addr) (cp cq : Nat) (w : World) (h0 : 0 ≤ f.fl) (h1 : f.fl ≤ 255) : Calls Try.prog 63 #[.agg #[.int .i64 f.k, .int .i64 f.fl, .int .i64 f.st, .slice p f.X.length cp, .int .i64 f.pad, .int .u32 f.code, .int .i64 f.last, .int .i64 f.inc, .int .i64 f.dep, .bool f.only, .int .i64 f.wt, .slice q f.Y.length cq]] w fun e w' => e = .returned (.bool (padd f)) ∧ Fr (fun _ => False) w w' := by
  have K1 := fun w => canPad_in f.k w
  have hg : Fr (fun _ => False) w (w.alloc (.cells #[.int .i64 f.k, .int .i64 f.fl, .int .i64 f.st, .slice p f.X.length cp, .int .i64 f.pad, .int .u32 f.code, .int .i64 f.last, .int .i64 f.inc, .int .i64 f.dep, .bool f.only, .int .i64 f.wt, .slice q f.Y.length cq] 36)) := (Fr.refl _ _).alloc _
  cases hk : canP f.k
  · rw [hk] at K1
    have hd : padd f = false := by simp [padd, hk]
    go_enter Try.func63, Try.ntmps63
    go_wp2_with (go_at_call 82; refine (K1 _).mono ?_; rintro e w' ⟨rfl, rfl⟩)
    go_ret
    exact ⟨by first | rfl | (rw [hd]; rfl), hg⟩
  · rw [hk] at K1
    have hb := and8 h0 h1
    cases hh : has f.fl 8
    · rw [hh] at hb
      have hb : bits .and .i64 f.fl 8 = 0 := hb
      have hd : padd f = false := by simp [padd, hk, hh]
      go_enter Try.func63, Try.ntmps63
      go_wp2_with (go_at_call 82; refine (K1 _).mono ?_; rintro e w' ⟨rfl, rfl⟩)
      go_ret
      exact ⟨by first | rfl | (rw [hd]; rfl), hg⟩
    · rw [hh] at hb
      have hb : bits .and .i64 f.fl 8 = 8 := hb
      have hd : padd f = true := by simp [padd, hk, hh]
      go_enter Try.func63, Try.ntmps63
      go_wp2_with (go_at_call 82; refine (K1 _).mono ?_; rintro e w' ⟨rfl, rfl⟩)
      go_ret
      exact ⟨by first | rfl | (rw [hd]; rfl), hg⟩

end Go.Proofs.Ytikaefjhmgcidaa
/- Contracts of the program's small questions on frames. -/
namespace Go.Proofs.Ytikaefjhmgcidaa
open Go.RowKit
set_option linter.unusedVariables false
set_option maxRecDepth 100000
set_option maxHeartbeats 4000000

end Go.Proofs.Ytikaefjhmgcidaa
/- Contracts of the program's small questions on frames. -/
namespace Go.Proofs.Ytikaefjhmgcidaa
open Go.RowKit
set_option linter.unusedVariables false
set_option maxRecDepth 100000
set_option maxHeartbeats 4000000

theorem placed_in (f : Fra) (p q : Option Addr) (cp cq : Nat) (w : World) : Calls Try.prog 61 #[.agg #[.int .i64 f.k, .int .i64 f.fl, .int .i64 f.st, .slice p f.X.length cp, .int .i64 f.pad, .int .u32 f.code, .int .i64 f.last, .int .i64 f.inc, .int .i64 f.dep, .bool f.only, .int .i64 f.wt, .slice q f.Y.length cq]] w fun e w' => e = .returned (.bool (placedB f.k f.st)) ∧ Fr (fun _ => False) w w' := by
  have hg : Fr (fun _ => False) w (w.alloc (.cells #[.int .i64 f.k, .int .i64 f.fl, .int .i64 f.st, .slice p f.X.length cp, .int .i64 f.pad, .int .u32 f.code, .int .i64 f.last, .int .i64 f.inc, .int .i64 f.dep, .bool f.only, .int .i64 f.wt, .slice q f.Y.length cq] 36)) := (Fr.refl _ _).alloc _
  rcases kinds f.k with h | h | h | h | h | h | h | h | h | h | ⟨n0, n1, n2, n3, n4, n5, n6, n7, n8, n9⟩
  all_goals
    first
      | (have hd : placedB f.k f.st = true := by simp [placedB, *]; done)
      | (have hd : placedB f.k f.st = (f.st == 0) := by rw [Bool.eq_iff_iff]; simp [placedB, *]; done)
      | (have hd : placedB f.k f.st = (f.st != 0) := by rw [Bool.eq_iff_iff]; simp [placedB, *]; done)
    go_enter Try.func61, Try.ntmps61
    go_wp2
    go_ret
    exact ⟨by first | rfl | (rw [hd]; rfl), (Fr.refl _ _).alloc _⟩

theorem sized_in (f : Fra) (n : Nat) (p q : Option Addr) (cp cq : Nat) (w : World) (h0 : 0 ≤ f.fl) (h1 : f.fl ≤ 255) (hn : n ≤ 9223372036854775807) : Calls Try.prog 62 #[.agg #[.int .i64 f.k, .int .i64 f.fl, .int .i64 f.st, .slice p f.X.length cp, .int .i64 f.pad, .int .u32 f.code, .int .i64 f.last, .int .i64 f.inc, .int .i64 f.dep, .bool f.only, .int .i64 f.wt, .slice q f.Y.length cq], .int .i64 n] w fun e w' => e = .returned (.bool (sizedB f n)) ∧ Fr (fun _ => False) w w' := by
  have hg : Fr (fun _ => False) w (w.alloc (.cells #[.int .i64 f.k, .int .i64 f.fl, .int .i64 f.st, .slice p f.X.length cp, .int .i64 f.pad, .int .u32 f.code, .int .i64 f.last, .int .i64 f.inc, .int .i64 f.dep, .bool f.only, .int .i64 f.wt, .slice q f.Y.length cq] 36)) := (Fr.refl _ _).alloc _
  have hb := and1 h0 h1
  rcases kinds f.k with h | h | h | h | h | h | h | h | h | h | ⟨n0, n1, n2, n3, n4, n5, n6, n7, n8, n9⟩
  case' inr.inr.inr.inr.inl =>
    by_cases hz : n = 0
    · have hd : sizedB f n = true := by simp [sizedB, h, hz]
      go_enter Try.func62, Try.ntmps62
      go_wp2
      go_ret
      exact ⟨by first | rfl | (rw [hd]; rfl), (Fr.refl _ _).alloc _⟩
    · have hz' : ((n : Int) == 0) = false := by simp; omega
      by_cases hm : n % 6 = 0
      · cases hh : has f.fl 1
        · rw [hh] at hb
          have hb : bits .and .i64 f.fl 1 = 0 := hb
          have hd : sizedB f n = true := by simp [sizedB, h, hm, hh]
          have hm' : ((n : Int) % 6 == 0) = true := by simp; omega
          go_enter Try.func62, Try.ntmps62
          go_wp2
          go_ret
          exact ⟨by first | rfl | (rw [hd]; rfl), (Fr.refl _ _).alloc _⟩
        · rw [hh] at hb
          have hb : bits .and .i64 f.fl 1 = 1 := hb
          have hd : sizedB f n = false := by simp [sizedB, h, hz, hh]
          have hm' : ((n : Int) % 6 == 0) = true := by simp; omega
          go_enter Try.func62, Try.ntmps62
          go_wp2
          go_ret
          exact ⟨by first | rfl | (rw [hd]; rfl), (Fr.refl _ _).alloc _⟩
      · have hd : sizedB f n = false := by simp [sizedB, h, hz, hm]
        have hm' : ((n : Int) % 6 == 0) = false := by simp; omega
        go_enter Try.func62, Try.ntmps62
        go_wp2
        go_ret
        exact ⟨by first | rfl | (rw [hd]; rfl), (Fr.refl _ _).alloc _⟩
  case' inr.inr.inl => have hd : sizedB f n = ((n : Int) == 5) := by rw [Bool.eq_iff_iff]; simp [sizedB, h]; omega
  case' inr.inr.inr.inl => have hd : sizedB f n = ((n : Int) == 4) := by rw [Bool.eq_iff_iff]; simp [sizedB, h]; omega
  case' inr.inr.inr.inr.inr.inr.inl => have hd : sizedB f n = ((n : Int) == 8) := by rw [Bool.eq_iff_iff]; simp [sizedB, h]; omega
  case' inr.inr.inr.inr.inr.inr.inr.inl => have hd : sizedB f n = decide (8 ≤ (n : Int)) := by rw [Bool.eq_iff_iff]; simp [sizedB, h]; omega
  case' inr.inr.inr.inr.inr.inr.inr.inr.inl => have hd : sizedB f n = ((n : Int) == 4) := by rw [Bool.eq_iff_iff]; simp [sizedB, h]; omega
  case' inl => have hd : sizedB f n = true := by simp [sizedB, h]
  case' inr.inl => have hd : sizedB f n = true := by simp [sizedB, h]
  case' inr.inr.inr.inr.inr.inl => have hd : sizedB f n = true := by simp [sizedB, h]
  case' inr.inr.inr.inr.inr.inr.inr.inr.inr.inl => have hd : sizedB f n = true := by simp [sizedB, h]
  case' inr.inr.inr.inr.inr.inr.inr.inr.inr.inr => have hd : sizedB f n = true := by simp [sizedB, *]
  all_goals
    clear hb
    go_enter Try.func62, Try.ntmps62
    go_wp2
    go_ret
    exact ⟨by first | rfl | (rw [hd]; rfl), (Fr.refl _ _).alloc _⟩
end Go.Proofs.Ytikaefjhmgcidaa
