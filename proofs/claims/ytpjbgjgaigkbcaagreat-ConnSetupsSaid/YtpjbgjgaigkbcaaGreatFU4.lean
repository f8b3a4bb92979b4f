/- Contracts of what puts a number, of the program and of the document. -/
import Derived.Test.YtpjbgjgaigkbcaaGreatFU3
namespace Go.Proofs.YtpjbgjgaigkbcaaGreat
open Go.RowKit
set_option linter.unusedVariables false

/-- What is put: the error and the bytes. -/
def putOut (n : Nat) (bound v : Int) : Int × List UInt8 := if v < 0 ∨ bound ≤ v then (1, []) else (0, be n v.toNat)

/-- The answer of a call that puts. -/
def PutsAs (w : World) (o : Int × List UInt8) (e : Ending) (w' : World) : Prop := ∃ sp l, e = .returned (.tuple #[.slice sp l l, .int .i64 o.1]) ∧ o.2.length = l ∧ New w w' sp o.2

theorem put2 (v : Int) (w : World) (hv : (Lit.int .i64 v).wf = true) : Calls Tryz.prog 80 #[.int .i64 v, .int .u64 16] w fun e w' => PutsAs w (putOut 2 65536 v) e w' ∧ Fr (fun _ => False) w w' := by
  have hr : -9223372036854775808 ≤ v ∧ v ≤ 9223372036854775807 := by
    have h2 : IntKind.i64.min ≤ v ∧ v ≤ IntKind.i64.max := by simpa [Lit.wf] using hv
    exact h2
  by_cases h : v < 0 ∨ 65536 ≤ v
  · rw [show putOut 2 65536 v = (1, []) from if_pos h]
    by_cases h0 : v < 0
    · go_enter Tryz.func80, Tryz.ntmps80
      go_wp2
      go_ret2
      exact ⟨⟨_, _, rfl, rfl, New.nil _ _⟩, Fr.refl _ _⟩
    · have h1 : (v / 65536 != 0) = true := by simp; omega
      go_enter Tryz.func80, Tryz.ntmps80
      go_wp2
      go_ret2
      exact ⟨⟨_, _, rfl, rfl, New.nil _ _⟩, Fr.refl _ _⟩
  · obtain ⟨m, rfl⟩ : ∃ m : Nat, v = m := ⟨v.toNat, by omega⟩
    rw [show putOut 2 65536 (m : Int) = (0, be 2 m) from (if_neg h).trans (by simp)]
    have h1 : ((m : Int) / 65536 != 0) = false := by simp; omega
    go_enter Tryz.func80, Tryz.ntmps80
    go_wp2_with fail
    refine (lowest2 m w (by omega)).mono ?_
    rintro e w' ⟨⟨sp, rfl, hs⟩, hf⟩
    go_wp2
    go_ret2
    exact ⟨⟨_, _, rfl, be_length _ _, hs⟩, hf⟩

theorem put3 (v : Int) (w : World) (hv : (Lit.int .i64 v).wf = true) : Calls Tryz.prog 80 #[.int .i64 v, .int .u64 24] w fun e w' => PutsAs w (putOut 3 16777216 v) e w' ∧ Fr (fun _ => False) w w' := by
  have hr : -9223372036854775808 ≤ v ∧ v ≤ 9223372036854775807 := by
    have h2 : IntKind.i64.min ≤ v ∧ v ≤ IntKind.i64.max := by simpa [Lit.wf] using hv
    exact h2
  by_cases h : v < 0 ∨ 16777216 ≤ v
  · rw [show putOut 3 16777216 v = (1, []) from if_pos h]
    by_cases h0 : v < 0
    · go_enter Tryz.func80, Tryz.ntmps80
      go_wp2
      go_ret2
      exact ⟨⟨_, _, rfl, rfl, New.nil _ _⟩, Fr.refl _ _⟩
    · have h1 : (v / 16777216 != 0) = true := by simp; omega
      go_enter Tryz.func80, Tryz.ntmps80
      go_wp2
      go_ret2
      exact ⟨⟨_, _, rfl, rfl, New.nil _ _⟩, Fr.refl _ _⟩
  · obtain ⟨m, rfl⟩ : ∃ m : Nat, v = m := ⟨v.toNat, by omega⟩
    rw [show putOut 3 16777216 (m : Int) = (0, be 3 m) from (if_neg h).trans (by simp)]
    have h1 : ((m : Int) / 16777216 != 0) = false := by simp; omega
    go_enter Tryz.func80, Tryz.ntmps80
    go_wp2_with fail
    refine (lowest3 m w (by omega)).mono ?_
    rintro e w' ⟨⟨sp, rfl, hs⟩, hf⟩
    go_wp2
    go_ret2
    exact ⟨⟨_, _, rfl, be_length _ _, hs⟩, hf⟩

theorem put4 (v : Int) (w : World) (hv : (Lit.int .i64 v).wf = true) : Calls Tryz.prog 80 #[.int .i64 v, .int .u64 31] w fun e w' => PutsAs w (putOut 4 2147483648 v) e w' ∧ Fr (fun _ => False) w w' := by
  have hr : -9223372036854775808 ≤ v ∧ v ≤ 9223372036854775807 := by
    have h2 : IntKind.i64.min ≤ v ∧ v ≤ IntKind.i64.max := by simpa [Lit.wf] using hv
    exact h2
  by_cases h : v < 0 ∨ 2147483648 ≤ v
  · rw [show putOut 4 2147483648 v = (1, []) from if_pos h]
    by_cases h0 : v < 0
    · go_enter Tryz.func80, Tryz.ntmps80
      go_wp2
      go_ret2
      exact ⟨⟨_, _, rfl, rfl, New.nil _ _⟩, Fr.refl _ _⟩
    · have h1 : (v / 2147483648 != 0) = true := by simp; omega
      go_enter Tryz.func80, Tryz.ntmps80
      go_wp2
      go_ret2
      exact ⟨⟨_, _, rfl, rfl, New.nil _ _⟩, Fr.refl _ _⟩
  · obtain ⟨m, rfl⟩ : ∃ m : Nat, v = m := ⟨v.toNat, by omega⟩
    rw [show putOut 4 2147483648 (m : Int) = (0, be 4 m) from (if_neg h).trans (by simp)]
    have h1 : ((m : Int) / 2147483648 != 0) = false := by simp; omega
    go_enter Tryz.func80, Tryz.ntmps80
    go_wp2_with fail
    refine (lowest4 m w (by omega)).mono ?_
    rintro e w' ⟨⟨sp, rfl, hs⟩, hf⟩
    go_wp2
    go_ret2
    exact ⟨⟨_, _, rfl, be_length _ _, hs⟩, hf⟩

theorem Put16 (v : Int) (w : World) (hv : (Lit.int .i64 v).wf = true) : Calls Tryz.prog 96 #[.int .i64 v] w fun e w' => PutsAs w (putOut 2 65536 v) e w' ∧ Fr (fun _ => False) w w' := by
  go_enter Tryz.func96, Tryz.ntmps96
  go_wp2_with fail
  refine (put2 v w hv).mono ?_
  rintro e w' ⟨⟨sp, l, rfl, hl, hs⟩, hf⟩
  go_wp2
  go_ret2
  exact ⟨⟨_, _, rfl, hl, hs⟩, hf⟩

theorem Put24 (v : Int) (w : World) (hv : (Lit.int .i64 v).wf = true) : Calls Tryz.prog 62 #[.int .i64 v] w fun e w' => PutsAs w (putOut 3 16777216 v) e w' ∧ Fr (fun _ => False) w w' := by
  go_enter Tryz.func62, Tryz.ntmps62
  go_wp2_with fail
  refine (put3 v w hv).mono ?_
  rintro e w' ⟨⟨sp, l, rfl, hl, hs⟩, hf⟩
  go_wp2
  go_ret2
  exact ⟨⟨_, _, rfl, hl, hs⟩, hf⟩

theorem Put31 (v : Int) (w : World) (hv : (Lit.int .i64 v).wf = true) : Calls Tryz.prog 63 #[.int .i64 v] w fun e w' => PutsAs w (putOut 4 2147483648 v) e w' ∧ Fr (fun _ => False) w w' := by
  go_enter Tryz.func63, Tryz.ntmps63
  go_wp2_with fail
  refine (put4 v w hv).mono ?_
  rintro e w' ⟨⟨sp, l, rfl, hl, hs⟩, hf⟩
  go_wp2
  go_ret2
  exact ⟨⟨_, _, rfl, hl, hs⟩, hf⟩

theorem Put32 (m : Nat) (w : World) (hm : m < 4294967296) : Calls Tryz.prog 93 #[.int .u32 m] w fun e w' => (∃ sp, e = .returned (.slice sp 4 4) ∧ New w w' sp (be 4 m)) ∧ Fr (fun _ => False) w w' := by
  go_enter Tryz.func93, Tryz.ntmps93
  go_wp2_with fail
  refine (lowest4 m w hm).mono ?_
  rintro e w' ⟨⟨sp, rfl, hs⟩, hf⟩
  go_wp2
  go_ret
  exact ⟨⟨_, rfl, hs⟩, hf⟩

end Go.Proofs.YtpjbgjgaigkbcaaGreat
