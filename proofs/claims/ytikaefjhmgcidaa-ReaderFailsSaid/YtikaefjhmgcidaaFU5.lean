/- Contracts of the readers that are called from without, of the program and of the document. -/
import Derived.Test.YtikaefjhmgcidaaFU4
namespace Go.Proofs.Ytikaefjhmgcidaa
open Go.RowKit
set_option linter.unusedVariables false

theorem num_lt (X : List UInt8) : num X < 256 ^ X.length := by
  have h : ∀ (X : List UInt8) (v : Nat), X.foldl (fun v x => v * 256 + x.toNat) v < (v + 1) * 256 ^ X.length := by
    intro X
    induction X with
    | nil => intro v; simp
    | cons x r ih =>
      intro v
      have h1 := ih (v * 256 + x.toNat)
      have hx := x.toNat_lt
      rw [List.foldl_cons, List.length_cons, Nat.pow_succ]
      refine Nat.lt_of_lt_of_le h1 ?_
      rw [Nat.mul_comm (256 ^ r.length) 256, ← Nat.mul_assoc]
      exact Nat.mul_le_mul_right _ (by omega)
  simpa [num] using h X 0

theorem readOut_lt (n : Nat) (X : List UInt8) (p : Int) (hn : n ≤ 4) : (readOut n X p).1 < 256 ^ n := by
  unfold readOut
  split
  · exact Nat.pow_pos (by omega)
  · split
    · exact Nat.pow_pos (by omega)
    · exact Nat.lt_of_lt_of_le (num_lt _) (Nat.pow_le_pow_right (by omega) (by simp; omega))

theorem readOut_place (n : Nat) (X : List UInt8) (p : Int) (hX : X.length ≤ 9223372036854775807) : 0 ≤ (readOut n X p).2.1 ∧ (readOut n X p).2.1 ≤ 9223372036854775807 := by
  unfold readOut
  split
  · simp
  · split
    · simp; omega
    · simp; omega

theorem andNot31 (m : Nat) (hm : m < 4294967296) : bits .andNot .u32 (m : Int) 2147483648 = ((m % 2147483648 : Nat) : Int) := by
  have h1 : (BitVec.ofInt 32 (m : Int) &&& ~~~ BitVec.ofInt 32 2147483648).toNat = m % 2147483648 := by
    rw [BitVec.toNat_and, BitVec.ofInt_natCast, BitVec.toNat_ofNat, Nat.mod_eq_of_lt (by simpa using hm), show (~~~ BitVec.ofInt 32 2147483648).toNat = 2 ^ 31 - 1 by decide, Nat.and_two_pow_sub_one_eq_mod]
  show IntKind.u32.wrap ((BitVec.ofInt 32 (m : Int) &&& ~~~ BitVec.ofInt 32 2147483648).toNat : Int) = _
  rw [h1, IntKind.wrap_u32]
  omega

theorem small_any (m : Nat) (p q : Int) (w : World) (hm : m < 4294967296) :
    Calls Try.prog 66 #[.int .u32 m, .int .i64 p, .int .i64 q] w fun e w' => e = .returned (.tuple #[.int .i64 ((m % 2147483648 : Nat) : Int), .int .i64 p, .int .i64 q]) ∧ w' = w := by
  have h := andNot31 m hm
  go_enter Try.func66, Try.ntmps66
  go_wp2
  go_ret3
  exact ⟨rfl, rfl⟩

theorem U16 (a : Option Addr) (len cap : Nat) (p : Int) (w : World) (X : List UInt8) (hs : SrcAt w a X) (hl : X.length = len) (hm : len ≤ 9223372036854775807) :
    Calls Try.prog 89 #[.slice a len cap, .int .i64 p] w fun e w' => e = .returned (.tuple #[.int .i64 (((readOut 2 X p).1 : Nat) : Int), .int .i64 (readOut 2 X p).2.1, .int .i64 (readOut 2 X p).2.2]) ∧ Fr (fun _ => False) w w' := by
  have hlt : (readOut 2 X p).1 < 65536 := readOut_lt 2 X p (by omega)
  go_enter Try.func89, Try.ntmps89
  go_wp2_with fail
  refine (read2_any a len cap p w X hs hl hm).mono ?_
  rintro e w1 ⟨rfl, hf⟩
  go_wp2_with fail
  refine (small_any _ _ _ w1 (Nat.lt_of_lt_of_le hlt (by decide))).mono ?_
  rintro e w2 ⟨rfl, rfl⟩
  go_wp2
  go_ret3
  refine ⟨?_, hf⟩
  simp
  omega

theorem U24 (a : Option Addr) (len cap : Nat) (p : Int) (w : World) (X : List UInt8) (hs : SrcAt w a X) (hl : X.length = len) (hm : len ≤ 9223372036854775807) :
    Calls Try.prog 58 #[.slice a len cap, .int .i64 p] w fun e w' => e = .returned (.tuple #[.int .i64 (((readOut 3 X p).1 : Nat) : Int), .int .i64 (readOut 3 X p).2.1, .int .i64 (readOut 3 X p).2.2]) ∧ Fr (fun _ => False) w w' := by
  have hlt : (readOut 3 X p).1 < 16777216 := readOut_lt 3 X p (by omega)
  go_enter Try.func58, Try.ntmps58
  go_wp2_with fail
  refine (read3_any a len cap p w X hs hl hm).mono ?_
  rintro e w1 ⟨rfl, hf⟩
  go_wp2_with fail
  refine (small_any _ _ _ w1 (Nat.lt_of_lt_of_le hlt (by decide))).mono ?_
  rintro e w2 ⟨rfl, rfl⟩
  go_wp2
  go_ret3
  refine ⟨?_, hf⟩
  simp
  omega

theorem U31 (a : Option Addr) (len cap : Nat) (p : Int) (w : World) (X : List UInt8) (hs : SrcAt w a X) (hl : X.length = len) (hm : len ≤ 9223372036854775807) :
    Calls Try.prog 59 #[.slice a len cap, .int .i64 p] w fun e w' => e = .returned (.tuple #[.int .i64 (((readOut 4 X p).1 % 2147483648 : Nat) : Int), .int .i64 (readOut 4 X p).2.1, .int .i64 (readOut 4 X p).2.2]) ∧ Fr (fun _ => False) w w' := by
  have hlt : (readOut 4 X p).1 < 4294967296 := readOut_lt 4 X p (by omega)
  go_enter Try.func59, Try.ntmps59
  go_wp2_with fail
  refine (read4_any a len cap p w X hs hl hm).mono ?_
  rintro e w1 ⟨rfl, hf⟩
  go_wp2_with fail
  refine (small_any _ _ _ w1 (Nat.lt_of_lt_of_le hlt (by decide))).mono ?_
  rintro e w2 ⟨rfl, rfl⟩
  go_wp2
  go_ret3
  refine ⟨?_, hf⟩
  rfl

theorem U32 (a : Option Addr) (len cap : Nat) (p : Int) (w : World) (X : List UInt8) (hs : SrcAt w a X) (hl : X.length = len) (hm : len ≤ 9223372036854775807) :
    Calls Try.prog 86 #[.slice a len cap, .int .i64 p] w fun e w' => e = .returned (.tuple #[.int .u32 (((readOut 4 X p).1 : Nat) : Int), .int .i64 (readOut 4 X p).2.1, .int .i64 (readOut 4 X p).2.2]) ∧ Fr (fun _ => False) w w' := by
  go_enter Try.func86, Try.ntmps86
  go_wp2_with fail
  refine (read4_any a len cap p w X hs hl hm).mono ?_
  rintro e w1 ⟨rfl, hf⟩
  go_wp2
  go_ret3
  exact ⟨rfl, hf⟩

theorem RU16 (a : Option Addr) (len cap : Nat) (p : Int) (w : World) (X : List UInt8) (hs : SrcAt w a X) (hl : X.length = len) (hm : len ≤ 9223372036854775807) :
    Calls Try.prog 53 #[.slice a len cap, .int .i64 p] w fun e w' => e = .returned (.tuple #[.int .i64 (((readOut 2 X p).1 : Nat) : Int), .int .i64 (readOut 2 X p).2.1, .int .i64 (readOut 2 X p).2.2]) ∧ w' = w := by
  have hlt : (readOut 2 X p).1 < 65536 := readOut_lt 2 X p (by omega)
  go_enter Try.func53, Try.ntmps53
  go_wp2_with fail
  refine (number2_any a len cap p w X hs hl hm).mono ?_
  rintro e w1 ⟨rfl, rfl⟩
  go_wp2
  go_ret3
  exact ⟨by simp, rfl⟩

theorem RU24 (a : Option Addr) (len cap : Nat) (p : Int) (w : World) (X : List UInt8) (hs : SrcAt w a X) (hl : X.length = len) (hm : len ≤ 9223372036854775807) :
    Calls Try.prog 48 #[.slice a len cap, .int .i64 p] w fun e w' => e = .returned (.tuple #[.int .i64 (((readOut 3 X p).1 : Nat) : Int), .int .i64 (readOut 3 X p).2.1, .int .i64 (readOut 3 X p).2.2]) ∧ w' = w := by
  have hlt : (readOut 3 X p).1 < 16777216 := readOut_lt 3 X p (by omega)
  go_enter Try.func48, Try.ntmps48
  go_wp2_with fail
  refine (number3_any a len cap p w X hs hl hm).mono ?_
  rintro e w1 ⟨rfl, rfl⟩
  go_wp2
  go_ret3
  exact ⟨by simp, rfl⟩

theorem RU31 (a : Option Addr) (len cap : Nat) (p : Int) (w : World) (X : List UInt8) (hs : SrcAt w a X) (hl : X.length = len) (hm : len ≤ 9223372036854775807) :
    Calls Try.prog 49 #[.slice a len cap, .int .i64 p] w fun e w' => e = .returned (.tuple #[.int .i64 (((readOut 4 X p).1 % 2147483648 : Nat) : Int), .int .i64 (readOut 4 X p).2.1, .int .i64 (readOut 4 X p).2.2]) ∧ w' = w := by
  have hlt : (readOut 4 X p).1 < 4294967296 := readOut_lt 4 X p (by omega)
  go_enter Try.func49, Try.ntmps49
  go_wp2_with fail
  refine (number4_any a len cap p w X hs hl hm).mono ?_
  rintro e w1 ⟨rfl, rfl⟩
  go_wp2
  go_ret3
  exact ⟨by simp, rfl⟩

theorem RU32 (a : Option Addr) (len cap : Nat) (p : Int) (w : World) (X : List UInt8) (hs : SrcAt w a X) (hl : X.length = len) (hm : len ≤ 9223372036854775807) :
    Calls Try.prog 52 #[.slice a len cap, .int .i64 p] w fun e w' => e = .returned (.tuple #[.int .u32 (((readOut 4 X p).1 : Nat) : Int), .int .i64 (readOut 4 X p).2.1, .int .i64 (readOut 4 X p).2.2]) ∧ w' = w := by
  have hlt : (readOut 4 X p).1 < 4294967296 := readOut_lt 4 X p (by omega)
  go_enter Try.func52, Try.ntmps52
  go_wp2_with fail
  refine (number4_any a len cap p w X hs hl hm).mono ?_
  rintro e w1 ⟨rfl, rfl⟩
  go_wp2
  go_ret3
  exact ⟨by simp, rfl⟩

end Go.Proofs.Ytikaefjhmgcidaa
