/- Where a byte lies first in a text; strings.Cut at the sign '='. -/
import Derived.Test.YtkipeifkfgbkeaaT2
import Derived.Lib.OthersKept
import Derived.Lib.Bytealg
import Derived.BigQuiet
namespace Go.Proofs.Ytkipeifkfgbkeaa
open Go.RowKit
set_option maxRecDepth 100000
set_option maxHeartbeats 4000000
set_option linter.unusedVariables false

theorem IndexByte_in (s : ByteArray) (c : Int) (w : World) :
    Calls Try.prog 63 #[.string s, .int .u8 c] w fun e w' => e = .returned (.int .i64 (Lib.indexByte s.data.toList c.toNat.toUInt8)) ∧ w' = w := by
  go_enter Try.func63, Try.ntmps63
  go_wp2
  rw [run_callFunc_extern Try.func67 (by kernel_rfl) (by kernel_rfl) (by kernel_rfl) (e := Extern.BytealgIndexByte.indexByte) (by kernel_rfl), Lib.run_indexByteString]
  simp only [Result.andThen]
  rw [Oper.upon_value]
  go_wp2
  go_ret
  exact ⟨rfl, rfl⟩
theorem Index_in (s : ByteArray) (c : UInt8) (w : World) :
    Calls Try.prog 60 #[.string s, .string ⟨#[c]⟩] w fun e w' => e = .returned (.int .i64 (Lib.indexByte s.data.toList c)) ∧ w' = w := by
  go_enter Try.func60, Try.ntmps60
  go_wp2_with (go_at_call 63; refine (IndexByte_in _ _ _).mono ?_; rintro e w' ⟨rfl, rfl⟩)
  · have h : ([c] == s.toList) = true := by assumption
    go_ret
    refine ⟨?_, rfl⟩
    have e : s.data.toList = [c] := by rw [← Lib.toList_data]; exact (beq_iff_eq.1 h).symm
    rw [e]
    simp [Lib.indexByte]
  · go_ret
    exact ⟨rfl, rfl⟩
theorem lCut_in (s : ByteArray) (k : Nat) (w : World) (hk : Lib.indexByte s.data.toList 61 = (k : Int)) (hs : k + 1 ≤ s.size) (hl : s.size < 2 ^ 60) :
    Calls Try.prog 57 #[.string s, .string ⟨#[61]⟩] w fun e w' => e = .returned (.tuple #[.string (s.extract 0 k), .string (s.extract (k + 1) s.size), .bool true]) ∧ ∃ n, w' = w.drewN n := by
  have c1 : (k : Int) ≤ s.size := by omega
  have c3 : (k : Int) + 1 ≤ s.size := by omega
  go_enter Try.func57, Try.ntmps57
  go_wp2_with (go_at_call 60; refine (Index_in _ _ _).mono ?_; rintro e w' ⟨rfl, rfl⟩; rw [hk])
  go_quiet (fail)
  go_wp2_with (fail)
  go_ret3
  exact ⟨rfl, nq, rfl⟩
theorem lCut_none (s : ByteArray) (w : World) (hk : Lib.indexByte s.data.toList 61 = -1) :
    Calls Try.prog 57 #[.string s, .string ⟨#[61]⟩] w fun e w' => e = .returned (.tuple #[.string s, .string ⟨#[]⟩, .bool false]) ∧ w' = w := by
  go_enter Try.func57, Try.ntmps57
  go_wp2_with (go_at_call 60; refine (Index_in _ _ _).mono ?_; rintro e w' ⟨rfl, rfl⟩; rw [hk])
  go_ret3
  exact ⟨rfl, rfl⟩
theorem indexByte_lt (l : List UInt8) (c : UInt8) : Lib.indexByte l c < l.length := by
  induction l with
  | nil => simp [Lib.indexByte]
  | cons b l ih =>
    simp only [Lib.indexByte, List.length_cons]
    repeat' split
    all_goals omega
/-- A text cut at the first '=': what is ahead of it and what is behind it. -/
def cutEq (s : ByteArray) : ByteArray × ByteArray :=
  if Lib.indexByte s.data.toList 61 = -1 then (s, ⟨#[]⟩) else (s.extract 0 (Lib.indexByte s.data.toList 61).toNat, s.extract ((Lib.indexByte s.data.toList 61).toNat + 1) s.size)
theorem Cut_in (s : ByteArray) (w : World) (hl : s.size < 2 ^ 60) :
    Calls Try.prog 52 #[.string s, .string ⟨#[61]⟩] w fun e w' => (∃ b, e = .returned (.tuple #[.string (cutEq s).1, .string (cutEq s).2, .bool b])) ∧ ∃ n, w' = w.drewN n := by
  have K : Calls Try.prog 57 #[.string s, .string ⟨#[61]⟩] w fun e w' => (∃ b, e = .returned (.tuple #[.string (cutEq s).1, .string (cutEq s).2, .bool b])) ∧ ∃ n, w' = w.drewN n := by
    by_cases hi : Lib.indexByte s.data.toList 61 = -1
    · refine (lCut_none s w hi).mono ?_
      rintro e w' ⟨rfl, rfl⟩
      rw [cutEq, if_pos hi]
      exact ⟨⟨false, rfl⟩, 0, rfl⟩
    · have h1 := Lib.indexByte_ge s.data.toList 61
      have h2 := indexByte_lt s.data.toList 61
      have e2 : s.data.toList.length = s.size := by rw [Array.length_toList]; rfl
      obtain ⟨k, hk⟩ : ∃ k : Nat, Lib.indexByte s.data.toList 61 = k := ⟨_, (Int.toNat_of_nonneg (by omega)).symm⟩
      refine (lCut_in s k w hk (by omega) hl).mono ?_
      rintro e w' ⟨rfl, n, rfl⟩
      rw [cutEq, if_neg hi, hk]
      exact ⟨⟨true, rfl⟩, n, rfl⟩
  go_enter Try.func52, Try.ntmps52
  go_wp2_with (go_at_call 57; refine K.mono ?_; clear K; rintro e w' ⟨⟨b, rfl⟩, n, rfl⟩)
  go_ret3
  exact ⟨⟨b, rfl⟩, n, rfl⟩
end Go.Proofs.Ytkipeifkfgbkeaa
