/- Contracts of the program's small questions on frames. -/
import Derived.Test.YtikaefjhmgcidaaFb
namespace Go.Proofs.Ytikaefjhmgcidaa
open Go.RowKit
set_option linter.unusedVariables false
set_option maxRecDepth 100000
set_option maxHeartbeats 4000000

theorem placed_in (f : Fra) (p q : Option Addr) (cp cq : Nat) (w : World) : Calls Try.prog 61 #[.agg #[.int .i64 f.k, .int .i64 f.fl, .int .i64 f.st, .slice p f.X.length cp, .int .i64 f.pad, .int .u32 f.code, .int .i64 f.last, .int .i64 f.inc, .int .i64 f.dep, .bool f.only, .int .i64 f.wt, .slice q f.Y.length cq]] w fun e w' => e = .returned (.bool (placedB f.k f.st)) ∧ Fr (fun _ => False) w w' := by
  have hg : Fr (fun _ => False) w (w.alloc (.cells #[.int .i64 f.k, .int .i64 f.fl, .int .i64 f.st, .slice p f.X.length cp, .int .i64 f.pad, .int .u32 f.code, .int .i64 f.last, .int .i64 f.inc, .int .i64 f.dep, .bool f.only, .int .i64 f.wt, .slice q f.Y.length cq] 36)) := (Fr.refl _ _).alloc _
  rcases kinds f.k with h | h | h | h | h | h | h | h | h | h | ⟨n0, n1, n2, n3, n4, n5, n6, n7, n8, n9⟩
  all_goals
    first
      | (have hd : placedB f.k f.st = true := by simp [placedB, *]; done)
      | (have hd : placedB f.k f.st = (f.st == 0) := by rw [Bool.eq_iff_iff]; simp [placedB, *]; done)
      | (have hd : placedB f.k f.st = (f.st != 0) := by rw [Bool.eq_iff_iff]; simp [placedB, *]; done)
    go_enter Try.func61, Try.ntmps61
    go_wp2
    go_ret
    exact ⟨by first | rfl | (rw [hd]; rfl), (Fr.refl _ _).alloc _⟩

theorem sized_in (f : Fra) (n : Nat) (p q : Option Addr) (cp cq : Nat) (w : World) (h0 : 0 ≤ f.fl) (h1 : f.fl ≤ 255) (hn : n ≤ 9223372036854775807) : Calls Try.prog 62 #[.agg #[.int .i64 f.k, .int .i64 f.fl, .int .i64 f.st, .slice p f.X.length cp, .int .i64 f.pad, .int .u32 f.code, .int .i64 f.last, .int .i64 f.inc, .int .i64 f.dep, .bool f.only, .int .i64 f.wt, .slice q f.Y.length cq], .int .i64 n] w fun e w' => e = .returned (.bool (sizedB f n)) ∧ Fr (fun _ => False) w w' := by
  have hg : Fr (fun _ => False) w (w.alloc (.cells #[.int .i64 f.k, .int .i64 f.fl, .int .i64 f.st, .slice p f.X.length cp, .int .i64 f.pad, .int .u32 f.code, .int .i64 f.last, .int .i64 f.inc, .int .i64 f.dep, .bool f.only, .int .i64 f.wt, .slice q f.Y.length cq] 36)) := (Fr.refl _ _).alloc _
  have hb := and1 h0 h1
  rcases kinds f.k with h | h | h | h | h | h | h | h | h | h | ⟨n0, n1, n2, n3, n4, n5, n6, n7, n8, n9⟩
  case' inr.inr.inr.inr.inl =>
    by_cases hz : n = 0
    · have hd : sizedB f n = true := by simp [sizedB, h, hz]
      go_enter Try.func62, Try.ntmps62
      go_wp2
      go_ret
      exact ⟨by first | rfl | (rw [hd]; rfl), (Fr.refl _ _).alloc _⟩
    · have hz' : ((n : Int) == 0) = false := by simp; omega
      by_cases hm : n % 6 = 0
      · cases hh : has f.fl 1
        · rw [hh] at hb
          have hb : bits .and .i64 f.fl 1 = 0 := hb
          have hd : sizedB f n = true := by simp [sizedB, h, hm, hh]
          have hm' : ((n : Int) % 6 == 0) = true := by simp; omega
          go_enter Try.func62, Try.ntmps62
          go_wp2
          go_ret
          exact ⟨by first | rfl | (rw [hd]; rfl), (Fr.refl _ _).alloc _⟩
        · rw [hh] at hb
          have hb : bits .and .i64 f.fl 1 = 1 := hb
          have hd : sizedB f n = false := by simp [sizedB, h, hz, hh]
          have hm' : ((n : Int) % 6 == 0) = true := by simp; omega
          go_enter Try.func62, Try.ntmps62
          go_wp2
          go_ret
          exact ⟨by first | rfl | (rw [hd]; rfl), (Fr.refl _ _).alloc _⟩
      · have hd : sizedB f n = false := by simp [sizedB, h, hz, hm]
        have hm' : ((n : Int) % 6 == 0) = false := by simp; omega
        go_enter Try.func62, Try.ntmps62
        go_wp2
        go_ret
        exact ⟨by first | rfl | (rw [hd]; rfl), (Fr.refl _ _).alloc _⟩
  case' inr.inr.inl => have hd : sizedB f n = ((n : Int) == 5) := by rw [Bool.eq_iff_iff]; simp [sizedB, h]; omega
  case' inr.inr.inr.inl => have hd : sizedB f n = ((n : Int) == 4) := by rw [Bool.eq_iff_iff]; simp [sizedB, h]; omega
  case' inr.inr.inr.inr.inr.inr.inl => have hd : sizedB f n = ((n : Int) == 8) := by rw [Bool.eq_iff_iff]; simp [sizedB, h]; omega
  case' inr.inr.inr.inr.inr.inr.inr.inl => have hd : sizedB f n = decide (8 ≤ (n : Int)) := by rw [Bool.eq_iff_iff]; simp [sizedB, h]; omega
  case' inr.inr.inr.inr.inr.inr.inr.inr.inl => have hd : sizedB f n = ((n : Int) == 4) := by rw [Bool.eq_iff_iff]; simp [sizedB, h]; omega
  case' inl => have hd : sizedB f n = true := by simp [sizedB, h]
  case' inr.inl => have hd : sizedB f n = true := by simp [sizedB, h]
  case' inr.inr.inr.inr.inr.inl => have hd : sizedB f n = true := by simp [sizedB, h]
  case' inr.inr.inr.inr.inr.inr.inr.inr.inr.inl => have hd : sizedB f n = true := by simp [sizedB, h]
  case' inr.inr.inr.inr.inr.inr.inr.inr.inr.inr => have hd : sizedB f n = true := by simp [sizedB, *]
  all_goals
    clear hb
    go_enter Try.func62, Try.ntmps62
    go_wp2
    go_ret
    exact ⟨by first | rfl | (rw [hd]; rfl), (Fr.refl _ _).alloc _⟩
end Go.Proofs.Ytikaefjhmgcidaa
