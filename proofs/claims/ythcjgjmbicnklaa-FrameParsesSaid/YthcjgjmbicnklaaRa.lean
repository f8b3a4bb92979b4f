/- The document's small questions on frames. -/
import Derived.Test.YthcjgjmbicnklaaHd
import Derived.Test.YthcjgjmbicnklaaFb
namespace Go.Proofs.Ythcjgjmbicnklaa
open Go.RowKit
set_option linter.unusedVariables false
set_option maxRecDepth 100000
set_option maxHeartbeats 4000000

def zeroB (k : Int) : Bool := k == 4 || k == 6 || k == 7
def rightB (k st : Int) : Bool := k == 8 || (zeroB k == (st == 0))
def prioB (k fl : Int) : Bool := k == 2 || (k == 1 && has fl 32)

theorem rKnown_in (k : Int) (w : World) : Calls Try.prog 21 #[.int .i64 k] w fun e w' => e = .returned (.bool (knownB k)) ∧ w = w' := by
  by_cases h0 : 0 ≤ k
  · by_cases h1 : k ≤ 9
    · have hd : knownB k = true := by simp [knownB]; omega
      go_enter Try.func21, Try.ntmps21
      go_wp2
      go_ret
      exact ⟨by first | rfl | (rw [hd]; rfl), rfl⟩
    · have hd : knownB k = false := by simp [knownB]; omega
      go_enter Try.func21, Try.ntmps21
      go_wp2
      go_ret
      exact ⟨by first | rfl | (rw [hd]; rfl), rfl⟩
  · have hd : knownB k = false := by simp [knownB]; omega
    go_enter Try.func21, Try.ntmps21
    go_wp2
    go_ret
    exact ⟨by first | rfl | (rw [hd]; rfl), rfl⟩

theorem rid_in (n : Int) (w : World) : Calls Try.prog 40 #[.int .i64 n] w fun e w' => e = .returned (.bool (idOk n)) ∧ w = w' := by
  by_cases h0 : 0 ≤ n
  · by_cases h1 : n ≤ 2147483647
    · have hd : idOk n = true := by simp [idOk]; omega
      go_enter Try.func40, Try.ntmps40
      go_wp2
      go_ret
      exact ⟨by first | rfl | (rw [hd]; rfl), rfl⟩
    · have hd : idOk n = false := by simp [idOk]; omega
      go_enter Try.func40, Try.ntmps40
      go_wp2
      go_ret
      exact ⟨by first | rfl | (rw [hd]; rfl), rfl⟩
  · have hd : idOk n = false := by simp [idOk]; omega
    go_enter Try.func40, Try.ntmps40
    go_wp2
    go_ret
    exact ⟨by first | rfl | (rw [hd]; rfl), rfl⟩

theorem rpadded_in (k : Int) (w : World) : Calls Try.prog 41 #[.int .i64 k] w fun e w' => e = .returned (.bool (canP k)) ∧ w = w' := by
  by_cases h0 : k = 0
  · subst h0
    go_enter Try.func41, Try.ntmps41
    go_wp2
    go_ret
    exact ⟨rfl, rfl⟩
  · by_cases h1 : k = 1
    · subst h1
      go_enter Try.func41, Try.ntmps41
      go_wp2
      go_ret
      exact ⟨rfl, rfl⟩
    · have hd := canP_eq k
      go_enter Try.func41, Try.ntmps41
      go_wp2
      go_ret
      exact ⟨by first | rfl | (rw [hd]; rfl), rfl⟩

theorem zero_in (k : Int) (w : World) : Calls Try.prog 55 #[.int .i64 k] w fun e w' => e = .returned (.bool (zeroB k)) ∧ w = w' := by
  by_cases h0 : k = 4
  · subst h0
    go_enter Try.func55, Try.ntmps55
    go_wp2
    go_ret
    exact ⟨rfl, rfl⟩
  · by_cases h1 : k = 6
    · subst h1
      go_enter Try.func55, Try.ntmps55
      go_wp2
      go_ret
      exact ⟨rfl, rfl⟩
    · have hd : zeroB k = (k == 7) := by simp [zeroB, h0, h1]
      go_enter Try.func55, Try.ntmps55
      go_wp2
      go_ret
      exact ⟨by first | rfl | (rw [hd]; rfl), rfl⟩

theorem has_in (fl : Int) (n : Nat) (w : World) (hn : n = 1 ∨ n = 8 ∨ n = 32) (h0 : 0 ≤ fl) (h1 : fl ≤ 255) : Calls Try.prog 42 #[.int .i64 fl, .int .i64 (n : Int)] w fun e w' => e = .returned (.bool (has fl (n : Int))) ∧ w = w' := by
  obtain ⟨m, rfl⟩ : ∃ m : Nat, fl = m := ⟨fl.toNat, by omega⟩
  rcases hn with rfl | rfl | rfl
  · go_enter Try.func42, Try.ntmps42
    go_wp2
    go_ret
    exact ⟨by first | rfl | (simp [has, BEq.beq]), rfl⟩
  · go_enter Try.func42, Try.ntmps42
    go_wp2
    go_ret
    exact ⟨by rfl, rfl⟩
  · go_enter Try.func42, Try.ntmps42
    go_wp2
    go_ret
    exact ⟨by rfl, rfl⟩

theorem prio_in (k fl : Int) (w : World) (h0 : 0 ≤ fl) (h1 : fl ≤ 255) : Calls Try.prog 43 #[.int .i64 k, .int .i64 fl] w fun e w' => e = .returned (.bool (prioB k fl)) ∧ w = w' := by
  have K := has_in fl 32 w (by omega) h0 h1
  by_cases h2 : k = 2
  · subst h2
    go_enter Try.func43, Try.ntmps43
    go_wp2
    go_ret
    exact ⟨rfl, rfl⟩
  · by_cases h3 : k = 1
    · subst h3
      have hd : prioB 1 fl = has fl 32 := by simp [prioB]
      go_enter Try.func43, Try.ntmps43
      go_wp2_with (go_at_call 42; refine K.mono ?_; rintro e w' ⟨rfl, rfl⟩)
      go_ret
      exact ⟨by first | rfl | (rw [hd]; rfl), rfl⟩
    · have hd : prioB k fl = (k == 2) := by simp [prioB, h3]
      go_enter Try.func43, Try.ntmps43
      go_wp2
      go_ret
      exact ⟨by first | rfl | (rw [hd]; rfl), rfl⟩

theorem right_in (k st : Int) (w : World) : Calls Try.prog 30 #[.int .i64 k, .int .i64 st] w fun e w' => e = .returned (.bool (rightB k st)) ∧ w = w' := by
  have K := zero_in k w
  by_cases h8 : k = 8
  · subst h8
    go_enter Try.func30, Try.ntmps30
    go_wp2
    go_ret
    exact ⟨rfl, rfl⟩
  · have hd : rightB k st = (zeroB k == (st == 0)) := by simp [rightB, h8]
    go_enter Try.func30, Try.ntmps30
    go_wp2_with (go_at_call 55; refine K.mono ?_; rintro e w' ⟨rfl, rfl⟩)
    go_ret
    exact ⟨by first | rfl | (rw [hd]; rfl), rfl⟩
theorem right_placed {k : Int} (hk : knownB k = true) (st : Int) : rightB k st = placedB k st := by
  simp [knownB] at hk
  rcases kinds k with h | h | h | h | h | h | h | h | h | h | h <;> first | omega | (subst h; simp [rightB, placedB, zeroB]; done) | (subst h; simp [rightB, placedB, zeroB]; rfl)
end Go.Proofs.Ythcjgjmbicnklaa
