/- Contracts of the program's small questions on frames. -/
import Derived.Test.YtpjbgjgaigkbcaaGreatFa
namespace Go.Proofs.YtpjbgjgaigkbcaaGreat
open Go.RowKit
set_option linter.unusedVariables false
set_option maxRecDepth 100000
set_option maxHeartbeats 4000000

theorem bits_has8 : ∀ n : Fin 256, bits .and .i64 ((n.val : Nat) : Int) 8 = if n.val / 8 % 2 = 1 then 8 else 0 := by decide +kernel
theorem bits_has32 : ∀ n : Fin 256, bits .and .i64 ((n.val : Nat) : Int) 32 = if n.val / 32 % 2 = 1 then 32 else 0 := by decide +kernel
theorem bits_has1 : ∀ n : Fin 256, bits .and .i64 ((n.val : Nat) : Int) 1 = if n.val / 1 % 2 = 1 then 1 else 0 := by decide +kernel
theorem and8 {fl : Int} (h0 : 0 ≤ fl) (h1 : fl ≤ 255) : bits .and .i64 fl 8 = if has fl 8 then 8 else 0 := by
  obtain ⟨n, rfl⟩ : ∃ n : Nat, fl = n := ⟨fl.toNat, by omega⟩
  rw [bits_has8 ⟨n, by omega⟩]
  by_cases h : n / 8 % 2 = 1
  · rw [if_pos h, if_pos (by simp [has]; omega)]
  · rw [if_neg h, if_neg (by simp [has]; omega)]
theorem and32 {fl : Int} (h0 : 0 ≤ fl) (h1 : fl ≤ 255) : bits .and .i64 fl 32 = if has fl 32 then 32 else 0 := by
  obtain ⟨n, rfl⟩ : ∃ n : Nat, fl = n := ⟨fl.toNat, by omega⟩
  rw [bits_has32 ⟨n, by omega⟩]
  by_cases h : n / 32 % 2 = 1
  · rw [if_pos h, if_pos (by simp [has]; omega)]
  · rw [if_neg h, if_neg (by simp [has]; omega)]
theorem and1 {fl : Int} (h0 : 0 ≤ fl) (h1 : fl ≤ 255) : bits .and .i64 fl 1 = if has fl 1 then 1 else 0 := by
  obtain ⟨n, rfl⟩ : ∃ n : Nat, fl = n := ⟨fl.toNat, by omega⟩
  rw [bits_has1 ⟨n, by omega⟩]
  by_cases h : n / 1 % 2 = 1
  · rw [if_pos h, if_pos (by simp [has]; omega)]
  · rw [if_neg h, if_neg (by simp [has]; omega)]
theorem kinds (k : Int) : k = 0 ∨ k = 1 ∨ k = 2 ∨ k = 3 ∨ k = 4 ∨ k = 5 ∨ k = 6 ∨ k = 7 ∨ k = 8 ∨ k = 9 ∨ (k ≠ 0 ∧ k ≠ 1 ∧ k ≠ 2 ∧ k ≠ 3 ∧ k ≠ 4 ∧ k ≠ 5 ∧ k ≠ 6 ∧ k ≠ 7 ∧ k ≠ 8 ∧ k ≠ 9) := by omega

theorem Known_in (k : Int) (w : World) : Calls Tryz.prog 57 #[.int .i64 k] w fun e w' => e = .returned (.bool (knownB k)) ∧ w = w' := by
  by_cases h0 : 0 ≤ k
  · by_cases h1 : k ≤ 9
    · have hd : knownB k = true := by simp [knownB]; omega
      go_enter Tryz.func57, Tryz.ntmps57
      go_wp2
      go_ret
      exact ⟨by first | rfl | (rw [hd]; rfl), rfl⟩
    · have hd : knownB k = false := by simp [knownB]; omega
      go_enter Tryz.func57, Tryz.ntmps57
      go_wp2
      go_ret
      exact ⟨by first | rfl | (rw [hd]; rfl), rfl⟩
  · have hd : knownB k = false := by simp [knownB]; omega
    go_enter Tryz.func57, Tryz.ntmps57
    go_wp2
    go_ret
    exact ⟨by first | rfl | (rw [hd]; rfl), rfl⟩

theorem isStream_in (n : Int) (w : World) : Calls Tryz.prog 58 #[.int .i64 n] w fun e w' => e = .returned (.bool (idOk n)) ∧ w = w' := by
  by_cases h0 : 0 ≤ n
  · by_cases h1 : n ≤ 2147483647
    · have hd : idOk n = true := by simp [idOk]; omega
      go_enter Tryz.func58, Tryz.ntmps58
      go_wp2
      go_ret
      exact ⟨by first | rfl | (rw [hd]; rfl), rfl⟩
    · have hd : idOk n = false := by simp [idOk]; omega
      go_enter Tryz.func58, Tryz.ntmps58
      go_wp2
      go_ret
      exact ⟨by first | rfl | (rw [hd]; rfl), rfl⟩
  · have hd : idOk n = false := by simp [idOk]; omega
    go_enter Tryz.func58, Tryz.ntmps58
    go_wp2
    go_ret
    exact ⟨by first | rfl | (rw [hd]; rfl), rfl⟩

theorem headFits_in (f : Fra) (p q : Option Addr) (cp cq : Nat) (w : World) : Calls Tryz.prog 44 #[.agg #[.int .i64 f.k, .int .i64 f.fl, .int .i64 f.st, .slice p f.X.length cp, .int .i64 f.pad, .int .u32 f.code, .int .i64 f.last, .int .i64 f.inc, .int .i64 f.dep, .bool f.only, .int .i64 f.wt, .slice q f.Y.length cq]] w fun e w' => e = .returned (.bool (headOk f)) ∧ Fr (fun _ => False) w w' := by
  have K1 := fun w => Known_in f.k w
  have K2 := fun w => isStream_in f.st w
  have hg : Fr (fun _ => False) w (w.alloc (.cells #[.int .i64 f.k, .int .i64 f.fl, .int .i64 f.st, .slice p f.X.length cp, .int .i64 f.pad, .int .u32 f.code, .int .i64 f.last, .int .i64 f.inc, .int .i64 f.dep, .bool f.only, .int .i64 f.wt, .slice q f.Y.length cq] 66)) := (Fr.refl _ _).alloc _
  cases hk : knownB f.k
  · rw [hk] at K1
    have hd : headOk f = false := by simp [headOk, hk]
    go_enter Tryz.func44, Tryz.ntmps44
    go_wp2_with (go_at_call 57; refine (K1 _).mono ?_; rintro e w' ⟨rfl, rfl⟩)
    go_ret
    exact ⟨by first | rfl | (rw [hd]; rfl), hg⟩
  · rw [hk] at K1
    by_cases h0 : 0 ≤ f.fl
    · by_cases h1 : f.fl ≤ 255
      · have hd : headOk f = idOk f.st := by simp [headOk, hk, h0, h1]
        go_enter Tryz.func44, Tryz.ntmps44
        go_wp2_with first
          | (go_at_call 57; refine (K1 _).mono ?_; rintro e w' ⟨rfl, rfl⟩)
          | (go_at_call 58; refine (K2 _).mono ?_; rintro e w' ⟨rfl, rfl⟩)
        go_ret
        exact ⟨by first | rfl | (rw [hd]; rfl), hg⟩
      · have hd : headOk f = false := by simp [headOk]; intros; omega
        go_enter Tryz.func44, Tryz.ntmps44
        go_wp2_with (go_at_call 57; refine (K1 _).mono ?_; rintro e w' ⟨rfl, rfl⟩)
        go_ret
        exact ⟨by first | rfl | (rw [hd]; rfl), hg⟩
    · have hd : headOk f = false := by simp [headOk]; intros; omega
      go_enter Tryz.func44, Tryz.ntmps44
      go_wp2_with (go_at_call 57; refine (K1 _).mono ?_; rintro e w' ⟨rfl, rfl⟩)
      go_ret
      exact ⟨by first | rfl | (rw [hd]; rfl), hg⟩

theorem canP_eq (k : Int) : canP k = (k == 0 || k == 1 || k == 5) := by
  rw [Bool.eq_iff_iff]
  simp [canP, or_assoc]
theorem canPad_in (k : Int) (w : World) : Calls Tryz.prog 60 #[.int .i64 k] w fun e w' => e = .returned (.bool (canP k)) ∧ w = w' := by
  by_cases h0 : k = 0
  · subst h0
    go_enter Tryz.func60, Tryz.ntmps60
    go_wp2
    go_ret
    exact ⟨rfl, rfl⟩
  · by_cases h1 : k = 1
    · subst h1
      go_enter Tryz.func60, Tryz.ntmps60
      go_wp2
      go_ret
      exact ⟨rfl, rfl⟩
    · have hd := canP_eq k
      go_enter Tryz.func60, Tryz.ntmps60
      go_wp2
      go_ret
      exact ⟨by first | rfl | (rw [hd]; rfl), rfl⟩

theorem padded_in (f : Fra) (p q : Option Addr) (cp cq : Nat) (w : World) (h0 : 0 ≤ f.fl) (h1 : f.fl ≤ 255) : Calls Tryz.prog 59 #[.agg #[.int .i64 f.k, .int .i64 f.fl, .int .i64 f.st, .slice p f.X.length cp, .int .i64 f.pad, .int .u32 f.code, .int .i64 f.last, .int .i64 f.inc, .int .i64 f.dep, .bool f.only, .int .i64 f.wt, .slice q f.Y.length cq]] w fun e w' => e = .returned (.bool (padd f)) ∧ Fr (fun _ => False) w w' := by
  have K1 := fun w => canPad_in f.k w
  have hg : Fr (fun _ => False) w (w.alloc (.cells #[.int .i64 f.k, .int .i64 f.fl, .int .i64 f.st, .slice p f.X.length cp, .int .i64 f.pad, .int .u32 f.code, .int .i64 f.last, .int .i64 f.inc, .int .i64 f.dep, .bool f.only, .int .i64 f.wt, .slice q f.Y.length cq] 66)) := (Fr.refl _ _).alloc _
  cases hk : canP f.k
  · rw [hk] at K1
    have hd : padd f = false := by simp [padd, hk]
    go_enter Tryz.func59, Tryz.ntmps59
    go_wp2_with (go_at_call 60; refine (K1 _).mono ?_; rintro e w' ⟨rfl, rfl⟩)
    go_ret
    exact ⟨by first | rfl | (rw [hd]; rfl), hg⟩
  · rw [hk] at K1
    have hb := and8 h0 h1
    cases hh : has f.fl 8
    · rw [hh] at hb
      have hb : bits .and .i64 f.fl 8 = 0 := hb
      have hd : padd f = false := by simp [padd, hk, hh]
      go_enter Tryz.func59, Tryz.ntmps59
      go_wp2_with (go_at_call 60; refine (K1 _).mono ?_; rintro e w' ⟨rfl, rfl⟩)
      go_ret
      exact ⟨by first | rfl | (rw [hd]; rfl), hg⟩
    · rw [hh] at hb
      have hb : bits .and .i64 f.fl 8 = 8 := hb
      have hd : padd f = true := by simp [padd, hk, hh]
      go_enter Tryz.func59, Tryz.ntmps59
      go_wp2_with (go_at_call 60; refine (K1 _).mono ?_; rintro e w' ⟨rfl, rfl⟩)
      go_ret
      exact ⟨by first | rfl | (rw [hd]; rfl), hg⟩

end Go.Proofs.YtpjbgjgaigkbcaaGreat
