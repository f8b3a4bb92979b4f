/- Contracts of the readers that are called from without, of the program and of the document. -/
import Derived.Test.YtpjbgjgaigkbcaaGreatFU4
namespace Go.Proofs.YtpjbgjgaigkbcaaGreat
open Go.RowKit
set_option linter.unusedVariables false

theorem num_lt (X : List UInt8) : num X < 256 ^ X.length := by
  have h : ∀ (X : List UInt8) (v : Nat), X.foldl (fun v x => v * 256 + x.toNat) v < (v + 1) * 256 ^ X.length := by
    intro X
    induction X with
    | nil => intro v; simp
    | cons x r ih =>
      intro v
      have h1 := ih (v * 256 + x.toNat)
      have hx := x.toNat_lt
      rw [List.foldl_cons, List.length_cons, Nat.pow_succ]
      refine Nat.lt_of_lt_of_le h1 ?_
      rw [Nat.mul_comm (256 ^ r.length) 256, ← Nat.mul_assoc]
      exact Nat.mul_le_mul_right _ (by omega)
  simpa [num] using h X 0

theorem readOut_lt (n : Nat) (X : List UInt8) (p : Int) (hn : n ≤ 4) : (readOut n X p).1 < 256 ^ n := by
  unfold readOut
  split
  · exact Nat.pow_pos (by omega)
  · split
    · exact Nat.pow_pos (by omega)
    · exact Nat.lt_of_lt_of_le (num_lt _) (Nat.pow_le_pow_right (by omega) (by simp; omega))

theorem readOut_place (n : Nat) (X : List UInt8) (p : Int) (hX : X.length ≤ 9223372036854775807) : 0 ≤ (readOut n X p).2.1 ∧ (readOut n X p).2.1 ≤ 9223372036854775807 := by
  unfold readOut
  split
  · simp
  · split
    · simp; omega
    · simp; omega

theorem andNot31 (m : Nat) (hm : m < 4294967296) : bits .andNot .u32 (m : Int) 2147483648 = ((m % 2147483648 : Nat) : Int) := by
  have h1 : (BitVec.ofInt 32 (m : Int) &&& ~~~ BitVec.ofInt 32 2147483648).toNat = m % 2147483648 := by
    rw [BitVec.toNat_and, BitVec.ofInt_natCast, BitVec.toNat_ofNat, Nat.mod_eq_of_lt (by simpa using hm), show (~~~ BitVec.ofInt 32 2147483648).toNat = 2 ^ 31 - 1 by decide, Nat.and_two_pow_sub_one_eq_mod]
  show IntKind.u32.wrap ((BitVec.ofInt 32 (m : Int) &&& ~~~ BitVec.ofInt 32 2147483648).toNat : Int) = _
  rw [h1, IntKind.wrap_u32]
  omega

theorem small_any (m : Nat) (p q : Int) (w : World) (hm : m < 4294967296) :
    Calls Tryz.prog 105 #[.int .u32 m, .int .i64 p, .int .i64 q] w fun e w' => e = .returned (.tuple #[.int .i64 ((m % 2147483648 : Nat) : Int), .int .i64 p, .int .i64 q]) ∧ w' = w := by
  have h := andNot31 m hm
  go_enter Tryz.func105, Tryz.ntmps105
  go_wp2
  go_ret3
  exact ⟨rfl, rfl⟩

theorem U16 (a : Option Addr) (len cap : Nat) (p : Int) (w : World) (X : List UInt8) (hs : SrcAt w a X) (hl : X.length = len) (hm : len ≤ 9223372036854775807) :
    Calls Tryz.prog 97 #[.slice a len cap, .int .i64 p] w fun e w' => e = .returned (.tuple #[.int .i64 (((readOut 2 X p).1 : Nat) : Int), .int .i64 (readOut 2 X p).2.1, .int .i64 (readOut 2 X p).2.2]) ∧ Fr (fun _ => False) w w' := by
  have hlt : (readOut 2 X p).1 < 65536 := readOut_lt 2 X p (by omega)
  go_enter Tryz.func97, Tryz.ntmps97
  go_wp2_with fail
  refine (read2_any a len cap p w X hs hl hm).mono ?_
  rintro e w1 ⟨rfl, hf⟩
  go_wp2_with fail
  refine (small_any _ _ _ w1 (Nat.lt_of_lt_of_le hlt (by decide))).mono ?_
  rintro e w2 ⟨rfl, rfl⟩
  go_wp2
  go_ret3
  refine ⟨?_, hf⟩
  simp
  omega

theorem U31 (a : Option Addr) (len cap : Nat) (p : Int) (w : World) (X : List UInt8) (hs : SrcAt w a X) (hl : X.length = len) (hm : len ≤ 9223372036854775807) :
    Calls Tryz.prog 92 #[.slice a len cap, .int .i64 p] w fun e w' => e = .returned (.tuple #[.int .i64 (((readOut 4 X p).1 % 2147483648 : Nat) : Int), .int .i64 (readOut 4 X p).2.1, .int .i64 (readOut 4 X p).2.2]) ∧ Fr (fun _ => False) w w' := by
  have hlt : (readOut 4 X p).1 < 4294967296 := readOut_lt 4 X p (by omega)
  go_enter Tryz.func92, Tryz.ntmps92
  go_wp2_with fail
  refine (read4_any a len cap p w X hs hl hm).mono ?_
  rintro e w1 ⟨rfl, hf⟩
  go_wp2_with fail
  refine (small_any _ _ _ w1 (Nat.lt_of_lt_of_le hlt (by decide))).mono ?_
  rintro e w2 ⟨rfl, rfl⟩
  go_wp2
  go_ret3
  refine ⟨?_, hf⟩
  rfl

theorem U32 (a : Option Addr) (len cap : Nat) (p : Int) (w : World) (X : List UInt8) (hs : SrcAt w a X) (hl : X.length = len) (hm : len ≤ 9223372036854775807) :
    Calls Tryz.prog 94 #[.slice a len cap, .int .i64 p] w fun e w' => e = .returned (.tuple #[.int .u32 (((readOut 4 X p).1 : Nat) : Int), .int .i64 (readOut 4 X p).2.1, .int .i64 (readOut 4 X p).2.2]) ∧ Fr (fun _ => False) w w' := by
  go_enter Tryz.func94, Tryz.ntmps94
  go_wp2_with fail
  refine (read4_any a len cap p w X hs hl hm).mono ?_
  rintro e w1 ⟨rfl, hf⟩
  go_wp2
  go_ret3
  exact ⟨rfl, hf⟩

end Go.Proofs.YtpjbgjgaigkbcaaGreat
