/- Contract of huff.padding. -/
import Derived.Test.YtcmdhdpedonihaaD1
namespace Go.Proofs.Ytcmdhdpedonihaa
open Go.RowKit
set_option maxRecDepth 100000
set_option maxHeartbeats 4000000
set_option linter.unusedVariables false

theorem padding_long (a : Option Addr) (len cap n : Nat) (w : World) (hn : 8 ≤ n) (hn2 : n ≤ 1125899906809856) :
    Calls Try.prog 9 #[.slice a len cap, .int .i64 n] w fun e w' => e = .returned (.bool false) ∧ w' = w := by
  have h1 : ¬ (n : Int) < 8 := by omega
  go_enter Try.func9, Try.ntmps9
  go_wp2_with (fail)
  go_ret
  exact ⟨rfl, rfl⟩

theorem padding_short (ad : Addr) (len cap n : Nat) (w : World) (c : UInt8) (hl : 0 < len) (hl2 : len ≤ 140737488351232) (hc : w.cell? (ad.add (len - 1)) = some (.int .u8 c.toNat)) (hn0 : 0 < n) (hn : n < 8) :
    Calls Try.prog 9 #[.slice (some ad) len cap, .int .i64 n] w fun e w' => e = .returned (.bool (decide (c.toNat % 2 ^ n = 2 ^ n - 1))) ∧ w' = w := by
  obtain ⟨q, hq⟩ : ∃ q, q + 1 = len := ⟨len - 1, by omega⟩
  have hqi : (len : Int) - 1 = q := by omega
  have hc' : w.cell? (ad.add q) = some (.int .u8 c.toNat) := by rw [show q = len - 1 by omega]; exact hc
  have hql : (q : Int) < len := by omega
  have hm : ∀ i : Nat, i ≤ 8 → bits BinOp.and IntKind.u8 (c.toNat : Int) (2 ^ i - 1) = (c.toNat : Int) % 2 ^ i := fun i hi => bits_mask .u8 8 (by decide) (fun m h0 h1 => by rw [show IntKind.u8.wrap m = m % 256 from rfl]; exact Int.emod_eq_of_lt h0 h1) i hi _ (by omega) (by have := UInt8.toNat_lt c; omega)
  have HM : Hid (∀ i : Nat, i ≤ 8 → bits BinOp.and IntKind.u8 (c.toNat : Int) (2 ^ i - 1) = (c.toNat : Int) % 2 ^ i) := hm
  clear hm hc hq
  have h : n = 1 ∨ n = 2 ∨ n = 3 ∨ n = 4 ∨ n = 5 ∨ n = 6 ∨ n = 7 := by omega
  rcases h with h | h | h | h | h | h | h
  all_goals subst h
  · have e : bits BinOp.and IntKind.u8 (c.toNat : Int) 1 = (c.toNat : Int) % 2 := HM.out 1 (by omega)
    go_enter Try.func9, Try.ntmps9
    go_wp2_with (fail)
    go_ret
    exact ⟨by show Ending.returned (.bool ((c.toNat : Int) % 2 == 1)) = _; congr 2; rw [Bool.eq_iff_iff]; simp; omega, rfl⟩
  · have e : bits BinOp.and IntKind.u8 (c.toNat : Int) 3 = (c.toNat : Int) % 4 := HM.out 2 (by omega)
    go_enter Try.func9, Try.ntmps9
    go_wp2_with (fail)
    go_ret
    exact ⟨by show Ending.returned (.bool ((c.toNat : Int) % 4 == 3)) = _; congr 2; rw [Bool.eq_iff_iff]; simp; omega, rfl⟩
  · have e : bits BinOp.and IntKind.u8 (c.toNat : Int) 7 = (c.toNat : Int) % 8 := HM.out 3 (by omega)
    go_enter Try.func9, Try.ntmps9
    go_wp2_with (fail)
    go_ret
    exact ⟨by show Ending.returned (.bool ((c.toNat : Int) % 8 == 7)) = _; congr 2; rw [Bool.eq_iff_iff]; simp; omega, rfl⟩
  · have e : bits BinOp.and IntKind.u8 (c.toNat : Int) 15 = (c.toNat : Int) % 16 := HM.out 4 (by omega)
    go_enter Try.func9, Try.ntmps9
    go_wp2_with (fail)
    go_ret
    exact ⟨by show Ending.returned (.bool ((c.toNat : Int) % 16 == 15)) = _; congr 2; rw [Bool.eq_iff_iff]; simp; omega, rfl⟩
  · have e : bits BinOp.and IntKind.u8 (c.toNat : Int) 31 = (c.toNat : Int) % 32 := HM.out 5 (by omega)
    go_enter Try.func9, Try.ntmps9
    go_wp2_with (fail)
    go_ret
    exact ⟨by show Ending.returned (.bool ((c.toNat : Int) % 32 == 31)) = _; congr 2; rw [Bool.eq_iff_iff]; simp; omega, rfl⟩
  · have e : bits BinOp.and IntKind.u8 (c.toNat : Int) 63 = (c.toNat : Int) % 64 := HM.out 6 (by omega)
    go_enter Try.func9, Try.ntmps9
    go_wp2_with (fail)
    go_ret
    exact ⟨by show Ending.returned (.bool ((c.toNat : Int) % 64 == 63)) = _; congr 2; rw [Bool.eq_iff_iff]; simp; omega, rfl⟩
  · have e : bits BinOp.and IntKind.u8 (c.toNat : Int) 127 = (c.toNat : Int) % 128 := HM.out 7 (by omega)
    go_enter Try.func9, Try.ntmps9
    go_wp2_with (fail)
    go_ret
    exact ⟨by show Ending.returned (.bool ((c.toNat : Int) % 128 == 127)) = _; congr 2; rw [Bool.eq_iff_iff]; simp; omega, rfl⟩

/-- The bits left at the end, of the last byte alone. -/
theorem last_bits (X : List UInt8) (n : Nat) (c : UInt8) (hX : 0 < X.length) (hc : X[X.length - 1]? = some c) (hn : n < 8) : val ((stream X).drop (8 * X.length - n)) = c.toNat % 2 ^ n := by
  have hne : X ≠ [] := by intro e; rw [e] at hX; simp at hX
  have hlast : X.getLast hne = c := by
    rw [List.getLast_eq_getElem]
    exact (List.getElem?_eq_some_iff.1 hc).2
  have hsp : X = X.dropLast ++ [c] := by rw [← hlast]; exact (List.dropLast_concat_getLast hne).symm
  have hl : X.dropLast.length = X.length - 1 := by simp
  have e1 : stream X = stream X.dropLast ++ bitsN 8 c.toNat := by
    conv => lhs; rw [hsp]
    rw [stream_append]; simp [stream]
  rw [e1, List.drop_append, List.drop_eq_nil_of_le (by rw [stream_len, hl]; omega), List.nil_append]
  have h1 := val_take_drop (bitsN 8 c.toNat) (8 - n)
  have h2 := val_lt ((bitsN 8 c.toNat).drop (8 - n))
  rw [val_bitsN, bitsN_len] at h1
  rw [List.length_drop, bitsN_len] at h2
  have hcl := UInt8.toNat_lt c
  rw [Nat.mod_eq_of_lt (by simpa using hcl)] at h1
  rw [show 8 - (8 - n) = n by omega] at h1 h2
  rw [show 8 * X.length - n - (stream X.dropLast).length = 8 - n by rw [stream_len, hl]; omega]
  generalize val ((bitsN 8 c.toNat).drop (8 - n)) = lo at *
  generalize val ((bitsN 8 c.toNat).take (8 - n)) = hi at *
  rw [h1, Nat.add_comm, Nat.add_mul_mod_self_right, Nat.mod_eq_of_lt h2]

end Go.Proofs.Ytcmdhdpedonihaa
