/- Contract of the law's own bits: how many bits bytes' codes have, modulo 8. -/
import Derived.Test.YtpofoilhiojifaaH1
import Derived.Test.YtpofoilhiojifaaK4b
namespace Go.Proofs.Ytpofoilhiojifaa
open Go.RowKit
set_option maxRecDepth 100000
set_option maxHeartbeats 4000000
set_option linter.unusedVariables false

theorem lbits_any (a : Option Addr) (len cap : Nat) (w : World) (X : List UInt8) (hs : SrcAt w a X) (hl : X.length = len) (hm : len ≤ 1099511627776) :
    Calls Try.prog 8 #[.slice a len cap] w fun e w' => e = .returned (.int .i64 ((sumBits X % 8 : Nat) : Int)) ∧ Fr (fun _ => False) w w' := by
  have HS : Hid (SrcAt w a X) := hs
  clear hs
  go_enter Try.func8, Try.ntmps8
  go_wp2_with (fail)
  go_loopw [3, 4] (fun v3 v4 wr => ∃ k : Nat, k ≤ len ∧ v4 = .int .i64 k ∧ v3 = .int .i64 ((sumBits (X.take k) % 8 : Nat) : Int) ∧ Hid (Fr (fun _ => False) w wr)) (fun _ v4 _ => len - (intOf v4).toNat)
  case atStart => exact ⟨0, by omega, rfl, rfl, Fr.refl _ _⟩
  case round =>
    rename World => wo
    obtain ⟨k, hk, rfl, rfl, HF⟩ := hrel
    by_cases hlt : k < len
    · have hci : (k : Int) < len := by omega
      obtain ⟨ad, x, rfl, hx, hc⟩ := src_at (HS.out.oldF HF.out) k (by omega)
      have K := code_ok x.toNat wo (byte_le x)
      have hsz := code_size x.toNat (byte_le x)
      obtain ⟨n, hn⟩ : ∃ n, n = (codeOf x.toNat).2 := ⟨_, rfl⟩
      rw [← hn] at K hsz
      have HK : Hid (Calls _ _ _ _ _) := K
      obtain ⟨m, hm8⟩ : ∃ m, m = sumBits (X.take k) % 8 := ⟨_, rfl⟩
      rw [← hm8]
      have hml : m < 8 := by omega
      obtain ⟨hz1, hz2, hz3⟩ := hsz
      have hxb : x.toNat < 256 := UInt8.toNat_lt x
      have HX : Hid (X[k]? = some x ∧ n = (codeOf x.toNat).2 ∧ m = sumBits (X.take k) % 8) := ⟨hx, hn, hm8⟩
      clear K hn hx hz3 hm8
      go_wp2_with (fail)
      refine HK.out.mono ?_
      rintro e w2 ⟨rfl, hf2⟩
      have HF2 : Hid (Fr (fun _ => False) w w2) := HF.out.trans hf2
      clear hf2 HK
      go_wp2_with (fail)
      go_roundw
      case rel =>
        obtain ⟨h1, h2, h3⟩ := HX.out
        refine ⟨k + 1, by omega, by go_num, ?_, HF2⟩
        rw [List.take_add_one, h1]
        simp only [Option.toList]
        rw [sumBits_snoc, ← h2]
        congr 1
        omega
      case measure => simp [intOf]; omega
    · obtain rfl : k = len := by omega
      have hci : ¬ (k : Int) < k := by omega
      rw [← hl, List.take_length, hl]
      obtain ⟨m, hm8⟩ : ∃ m, m = sumBits X % 8 := ⟨_, rfl⟩
      rw [← hm8]
      have HM : Hid (m = sumBits X % 8) := hm8
      clear hm8
      go_wp2_with (fail)
      go_ret
      exact ⟨by show Ending.returned (.int .i64 (m : Int)) = _; rw [HM.out]; simp, HF.out⟩

/-- A byte of ones behind all. -/
theorem pads1 (X : List UInt8) : dec [] (stream (encOut X ++ [255])) 0 = .inr none := by
  have h := padN_le (enc X).length
  have e : stream [255] = List.replicate 8 true := by decide
  rw [stream_append, stream_encOut, e, List.append_assoc, List.replicate_append_replicate, dec_enc, dec_ones _ _ (by omega), if_neg (by omega)]
  rfl
/-- One bit of the padding turned. -/
theorem pads2 (X B : List UInt8) (c c' : UInt8) (j : Nat) (hb : encOut X = B ++ [c]) (hj : j < padN (enc X).length) (hc : c'.toNat = c.toNat - 2 ^ j) :
    2 ^ j ≤ c.toNat ∧ (dec [] (stream (B ++ [c'])) 0 = .inr none ∨ ∃ Y, dec [] (stream (B ++ [c'])) 0 = .inl Y ∧ Y ≠ X) := by
  have hp := padN_le (enc X).length
  obtain ⟨f, hf⟩ : ∃ f, f = padN (enc X).length := ⟨_, rfl⟩
  have hs := stream_encOut X
  rw [← hf] at hj hp hs
  rw [hb, stream_append, show stream [c] = bitsN 8 c.toNat by simp [stream]] at hs
  have hcl := UInt8.toNat_lt c
  have h8 : (bitsN 8 c.toNat).length = 8 := bitsN_len _ _
  obtain ⟨Hh, hHh⟩ : ∃ Hh, Hh = (bitsN 8 c.toNat).take (8 - f) := ⟨_, rfl⟩
  have hsp : bitsN 8 c.toNat = Hh ++ (bitsN 8 c.toNat).drop (8 - f) := by rw [hHh, List.take_append_drop]
  have hl1 : ((bitsN 8 c.toNat).drop (8 - f)).length = f := by rw [List.length_drop, h8]; omega
  rw [hsp, ← List.append_assoc] at hs
  obtain ⟨e1, e2⟩ := List.append_inj' hs (by rw [hl1, List.length_replicate])
  have hv : c.toNat = val Hh * 2 ^ f + (2 ^ f - 1) := by
    have := val_bitsN 8 c.toNat
    rw [hsp, val_append, hl1, e2, val_ones, Nat.mod_eq_of_lt (by simpa using hcl)] at this
    exact this.symm
  have hjf : 2 ^ j < 2 ^ f := Nat.pow_lt_pow_right (by omega) hj
  have hj0 : 0 < 2 ^ j := Nat.two_pow_pos j
  refine ⟨by omega, ?_⟩
  obtain ⟨R, hR⟩ : ∃ R, R = bitsN f (2 ^ f - 1 - 2 ^ j) := ⟨_, rfl⟩
  have hRl : R.length = f := by rw [hR, bitsN_len]
  have hRv : val R = 2 ^ f - 1 - 2 ^ j := by rw [hR, val_bitsN, Nat.mod_eq_of_lt (by omega)]
  have hHl : Hh.length = 8 - f := by rw [hHh, List.length_take, h8]; omega
  have hc8 : bitsN 8 c'.toNat = Hh ++ R := by
    have hcl' := UInt8.toNat_lt c'
    refine val_inj _ _ (by rw [bitsN_len, List.length_append, hHl, hRl]; omega) ?_
    rw [val_bitsN, val_append, hRl, hRv, Nat.mod_eq_of_lt (by simpa using hcl'), hc, hv]
    omega
  have hst : stream (B ++ [c']) = enc X ++ R := by
    rw [stream_append, show stream [c'] = bitsN 8 c'.toNat by simp [stream], hc8, ← List.append_assoc, e1]
  rw [hst, dec_enc]
  cases hd : dec [] R (0 + (enc X).length) with
  | inr oo =>
    cases oo with
    | none => exact .inl rfl
    | some m => have := dec_long _ _ _ _ hd; simp at this; omega
  | inl Y =>
    refine .inr ⟨X ++ Y, rfl, fun e => ?_⟩
    have hY : Y = [] := by simpa using e
    subst hY
    obtain ⟨p, _, he⟩ := dec_back _ _ _ _ hd
    rw [show enc ([] : List UInt8) = [] from rfl, List.nil_append, List.nil_append] at he
    have h1 := congrArg List.length he
    rw [hRl, List.length_replicate] at h1
    have h2 := congrArg val he
    rw [hRv, val_ones, ← h1] at h2
    omega

end Go.Proofs.Ytpofoilhiojifaa
