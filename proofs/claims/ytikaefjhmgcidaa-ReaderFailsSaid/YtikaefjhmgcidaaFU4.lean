/- Contracts of what puts a number, of the program and of the document. -/
import Derived.Test.YtikaefjhmgcidaaFU3
namespace Go.Proofs.Ytikaefjhmgcidaa
open Go.RowKit
set_option linter.unusedVariables false

/-- What is put: the error and the bytes. -/
def putOut (n : Nat) (bound v : Int) : Int × List UInt8 := if v < 0 ∨ bound ≤ v then (1, []) else (0, be n v.toNat)

/-- The answer of a call that puts. -/
def PutsAs (w : World) (o : Int × List UInt8) (e : Ending) (w' : World) : Prop := ∃ sp l, e = .returned (.tuple #[.slice sp l l, .int .i64 o.1]) ∧ o.2.length = l ∧ New w w' sp o.2

theorem put2 (v : Int) (w : World) (hv : (Lit.int .i64 v).wf = true) : Calls Try.prog 90 #[.int .i64 v, .int .u64 16] w fun e w' => PutsAs w (putOut 2 65536 v) e w' ∧ Fr (fun _ => False) w w' := by
  have hr : -9223372036854775808 ≤ v ∧ v ≤ 9223372036854775807 := by
    have h2 : IntKind.i64.min ≤ v ∧ v ≤ IntKind.i64.max := by simpa [Lit.wf] using hv
    exact h2
  by_cases h : v < 0 ∨ 65536 ≤ v
  · rw [show putOut 2 65536 v = (1, []) from if_pos h]
    by_cases h0 : v < 0
    · go_enter Try.func90, Try.ntmps90
      go_wp2
      go_ret2
      exact ⟨⟨_, _, rfl, rfl, New.nil _ _⟩, Fr.refl _ _⟩
    · have h1 : (v / 65536 != 0) = true := by simp; omega
      go_enter Try.func90, Try.ntmps90
      go_wp2
      go_ret2
      exact ⟨⟨_, _, rfl, rfl, New.nil _ _⟩, Fr.refl _ _⟩
  · obtain ⟨m, rfl⟩ : ∃ m : Nat, v = m := ⟨v.toNat, by omega⟩
    rw [show putOut 2 65536 (m : Int) = (0, be 2 m) from (if_neg h).trans (by simp)]
    have h1 : ((m : Int) / 65536 != 0) = false := by simp; omega
    go_enter Try.func90, Try.ntmps90
    go_wp2_with fail
    refine (lowest2 m w (by omega)).mono ?_
    rintro e w' ⟨⟨sp, rfl, hs⟩, hf⟩
    go_wp2
    go_ret2
    exact ⟨⟨_, _, rfl, be_length _ _, hs⟩, hf⟩

theorem put3 (v : Int) (w : World) (hv : (Lit.int .i64 v).wf = true) : Calls Try.prog 90 #[.int .i64 v, .int .u64 24] w fun e w' => PutsAs w (putOut 3 16777216 v) e w' ∧ Fr (fun _ => False) w w' := by
  have hr : -9223372036854775808 ≤ v ∧ v ≤ 9223372036854775807 := by
    have h2 : IntKind.i64.min ≤ v ∧ v ≤ IntKind.i64.max := by simpa [Lit.wf] using hv
    exact h2
  by_cases h : v < 0 ∨ 16777216 ≤ v
  · rw [show putOut 3 16777216 v = (1, []) from if_pos h]
    by_cases h0 : v < 0
    · go_enter Try.func90, Try.ntmps90
      go_wp2
      go_ret2
      exact ⟨⟨_, _, rfl, rfl, New.nil _ _⟩, Fr.refl _ _⟩
    · have h1 : (v / 16777216 != 0) = true := by simp; omega
      go_enter Try.func90, Try.ntmps90
      go_wp2
      go_ret2
      exact ⟨⟨_, _, rfl, rfl, New.nil _ _⟩, Fr.refl _ _⟩
  · obtain ⟨m, rfl⟩ : ∃ m : Nat, v = m := ⟨v.toNat, by omega⟩
    rw [show putOut 3 16777216 (m : Int) = (0, be 3 m) from (if_neg h).trans (by simp)]
    have h1 : ((m : Int) / 16777216 != 0) = false := by simp; omega
    go_enter Try.func90, Try.ntmps90
    go_wp2_with fail
    refine (lowest3 m w (by omega)).mono ?_
    rintro e w' ⟨⟨sp, rfl, hs⟩, hf⟩
    go_wp2
    go_ret2
    exact ⟨⟨_, _, rfl, be_length _ _, hs⟩, hf⟩

theorem put4 (v : Int) (w : World) (hv : (Lit.int .i64 v).wf = true) : Calls Try.prog 90 #[.int .i64 v, .int .u64 31] w fun e w' => PutsAs w (putOut 4 2147483648 v) e w' ∧ Fr (fun _ => False) w w' := by
  have hr : -9223372036854775808 ≤ v ∧ v ≤ 9223372036854775807 := by
    have h2 : IntKind.i64.min ≤ v ∧ v ≤ IntKind.i64.max := by simpa [Lit.wf] using hv
    exact h2
  by_cases h : v < 0 ∨ 2147483648 ≤ v
  · rw [show putOut 4 2147483648 v = (1, []) from if_pos h]
    by_cases h0 : v < 0
    · go_enter Try.func90, Try.ntmps90
      go_wp2
      go_ret2
      exact ⟨⟨_, _, rfl, rfl, New.nil _ _⟩, Fr.refl _ _⟩
    · have h1 : (v / 2147483648 != 0) = true := by simp; omega
      go_enter Try.func90, Try.ntmps90
      go_wp2
      go_ret2
      exact ⟨⟨_, _, rfl, rfl, New.nil _ _⟩, Fr.refl _ _⟩
  · obtain ⟨m, rfl⟩ : ∃ m : Nat, v = m := ⟨v.toNat, by omega⟩
    rw [show putOut 4 2147483648 (m : Int) = (0, be 4 m) from (if_neg h).trans (by simp)]
    have h1 : ((m : Int) / 2147483648 != 0) = false := by simp; omega
    go_enter Try.func90, Try.ntmps90
    go_wp2_with fail
    refine (lowest4 m w (by omega)).mono ?_
    rintro e w' ⟨⟨sp, rfl, hs⟩, hf⟩
    go_wp2
    go_ret2
    exact ⟨⟨_, _, rfl, be_length _ _, hs⟩, hf⟩

theorem rput2 (v : Int) (w : World) (hv : (Lit.int .i64 v).wf = true) : Calls Try.prog 45 #[.int .i64 v, .int .i64 2, .int .i64 65536] w fun e w' => PutsAs w (putOut 2 65536 v) e w' ∧ Fr (fun _ => False) w w' := by
  have hr : -9223372036854775808 ≤ v ∧ v ≤ 9223372036854775807 := by
    have h2 : IntKind.i64.min ≤ v ∧ v ≤ IntKind.i64.max := by simpa [Lit.wf] using hv
    exact h2
  by_cases h : v < 0 ∨ 65536 ≤ v
  · rw [show putOut 2 65536 v = (1, []) from if_pos h]
    by_cases h0 : v < 0
    · go_enter Try.func45, Try.ntmps45
      go_wp2
      go_ret2
      exact ⟨⟨_, _, rfl, rfl, New.nil _ _⟩, Fr.refl _ _⟩
    · have h1 : 65536 ≤ v := by omega
      go_enter Try.func45, Try.ntmps45
      go_wp2
      go_ret2
      exact ⟨⟨_, _, rfl, rfl, New.nil _ _⟩, Fr.refl _ _⟩
  · obtain ⟨m, rfl⟩ : ∃ m : Nat, v = m := ⟨v.toNat, by omega⟩
    rw [show putOut 2 65536 (m : Int) = (0, be 2 m) from (if_neg h).trans (by simp)]
    go_enter Try.func45, Try.ntmps45
    go_wp2_with fail
    refine (bytes2 m w (by omega)).mono ?_
    rintro e w' ⟨⟨sp, rfl, hs⟩, hf⟩
    go_wp2
    go_ret2
    exact ⟨⟨_, _, rfl, be_length _ _, hs⟩, hf⟩

theorem rput3 (v : Int) (w : World) (hv : (Lit.int .i64 v).wf = true) : Calls Try.prog 45 #[.int .i64 v, .int .i64 3, .int .i64 16777216] w fun e w' => PutsAs w (putOut 3 16777216 v) e w' ∧ Fr (fun _ => False) w w' := by
  have hr : -9223372036854775808 ≤ v ∧ v ≤ 9223372036854775807 := by
    have h2 : IntKind.i64.min ≤ v ∧ v ≤ IntKind.i64.max := by simpa [Lit.wf] using hv
    exact h2
  by_cases h : v < 0 ∨ 16777216 ≤ v
  · rw [show putOut 3 16777216 v = (1, []) from if_pos h]
    by_cases h0 : v < 0
    · go_enter Try.func45, Try.ntmps45
      go_wp2
      go_ret2
      exact ⟨⟨_, _, rfl, rfl, New.nil _ _⟩, Fr.refl _ _⟩
    · have h1 : 16777216 ≤ v := by omega
      go_enter Try.func45, Try.ntmps45
      go_wp2
      go_ret2
      exact ⟨⟨_, _, rfl, rfl, New.nil _ _⟩, Fr.refl _ _⟩
  · obtain ⟨m, rfl⟩ : ∃ m : Nat, v = m := ⟨v.toNat, by omega⟩
    rw [show putOut 3 16777216 (m : Int) = (0, be 3 m) from (if_neg h).trans (by simp)]
    go_enter Try.func45, Try.ntmps45
    go_wp2_with fail
    refine (bytes3 m w (by omega)).mono ?_
    rintro e w' ⟨⟨sp, rfl, hs⟩, hf⟩
    go_wp2
    go_ret2
    exact ⟨⟨_, _, rfl, be_length _ _, hs⟩, hf⟩

theorem rput4 (v : Int) (w : World) (hv : (Lit.int .i64 v).wf = true) : Calls Try.prog 45 #[.int .i64 v, .int .i64 4, .int .i64 2147483648] w fun e w' => PutsAs w (putOut 4 2147483648 v) e w' ∧ Fr (fun _ => False) w w' := by
  have hr : -9223372036854775808 ≤ v ∧ v ≤ 9223372036854775807 := by
    have h2 : IntKind.i64.min ≤ v ∧ v ≤ IntKind.i64.max := by simpa [Lit.wf] using hv
    exact h2
  by_cases h : v < 0 ∨ 2147483648 ≤ v
  · rw [show putOut 4 2147483648 v = (1, []) from if_pos h]
    by_cases h0 : v < 0
    · go_enter Try.func45, Try.ntmps45
      go_wp2
      go_ret2
      exact ⟨⟨_, _, rfl, rfl, New.nil _ _⟩, Fr.refl _ _⟩
    · have h1 : 2147483648 ≤ v := by omega
      go_enter Try.func45, Try.ntmps45
      go_wp2
      go_ret2
      exact ⟨⟨_, _, rfl, rfl, New.nil _ _⟩, Fr.refl _ _⟩
  · obtain ⟨m, rfl⟩ : ∃ m : Nat, v = m := ⟨v.toNat, by omega⟩
    rw [show putOut 4 2147483648 (m : Int) = (0, be 4 m) from (if_neg h).trans (by simp)]
    go_enter Try.func45, Try.ntmps45
    go_wp2_with fail
    refine (bytes4 m w (by omega)).mono ?_
    rintro e w' ⟨⟨sp, rfl, hs⟩, hf⟩
    go_wp2
    go_ret2
    exact ⟨⟨_, _, rfl, be_length _ _, hs⟩, hf⟩

theorem Put16 (v : Int) (w : World) (hv : (Lit.int .i64 v).wf = true) : Calls Try.prog 88 #[.int .i64 v] w fun e w' => PutsAs w (putOut 2 65536 v) e w' ∧ Fr (fun _ => False) w w' := by
  go_enter Try.func88, Try.ntmps88
  go_wp2_with fail
  refine (put2 v w hv).mono ?_
  rintro e w' ⟨⟨sp, l, rfl, hl, hs⟩, hf⟩
  go_wp2
  go_ret2
  exact ⟨⟨_, _, rfl, hl, hs⟩, hf⟩

theorem Put31 (v : Int) (w : World) (hv : (Lit.int .i64 v).wf = true) : Calls Try.prog 84 #[.int .i64 v] w fun e w' => PutsAs w (putOut 4 2147483648 v) e w' ∧ Fr (fun _ => False) w w' := by
  go_enter Try.func84, Try.ntmps84
  go_wp2_with fail
  refine (put4 v w hv).mono ?_
  rintro e w' ⟨⟨sp, l, rfl, hl, hs⟩, hf⟩
  go_wp2
  go_ret2
  exact ⟨⟨_, _, rfl, hl, hs⟩, hf⟩

theorem RPut16 (v : Int) (w : World) (hv : (Lit.int .i64 v).wf = true) : Calls Try.prog 44 #[.int .i64 v] w fun e w' => PutsAs w (putOut 2 65536 v) e w' ∧ Fr (fun _ => False) w w' := by
  go_enter Try.func44, Try.ntmps44
  go_wp2_with fail
  refine (rput2 v w hv).mono ?_
  rintro e w' ⟨⟨sp, l, rfl, hl, hs⟩, hf⟩
  go_wp2
  go_ret2
  exact ⟨⟨_, _, rfl, hl, hs⟩, hf⟩

theorem RPut24 (v : Int) (w : World) (hv : (Lit.int .i64 v).wf = true) : Calls Try.prog 28 #[.int .i64 v] w fun e w' => PutsAs w (putOut 3 16777216 v) e w' ∧ Fr (fun _ => False) w w' := by
  go_enter Try.func28, Try.ntmps28
  go_wp2_with fail
  refine (rput3 v w hv).mono ?_
  rintro e w' ⟨⟨sp, l, rfl, hl, hs⟩, hf⟩
  go_wp2
  go_ret2
  exact ⟨⟨_, _, rfl, hl, hs⟩, hf⟩

theorem Put32 (m : Nat) (w : World) (hm : m < 4294967296) : Calls Try.prog 85 #[.int .u32 m] w fun e w' => (∃ sp, e = .returned (.slice sp 4 4) ∧ New w w' sp (be 4 m)) ∧ Fr (fun _ => False) w w' := by
  go_enter Try.func85, Try.ntmps85
  go_wp2_with fail
  refine (lowest4 m w hm).mono ?_
  rintro e w' ⟨⟨sp, rfl, hs⟩, hf⟩
  go_wp2
  go_ret
  exact ⟨⟨_, rfl, hs⟩, hf⟩

theorem RPut32 (m : Nat) (w : World) (hm : m < 4294967296) : Calls Try.prog 43 #[.int .u32 m] w fun e w' => (∃ sp, e = .returned (.slice sp 4 4) ∧ New w w' sp (be 4 m)) ∧ Fr (fun _ => False) w w' := by
  go_enter Try.func43, Try.ntmps43
  go_wp2_with fail
  refine (bytes4 m w (by omega)).mono ?_
  rintro e w' ⟨⟨sp, rfl, hs⟩, hf⟩
  go_wp2
  go_ret
  exact ⟨⟨_, rfl, hs⟩, hf⟩

end Go.Proofs.Ytikaefjhmgcidaa
