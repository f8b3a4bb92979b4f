/- There and back, plainly; what Encode and Decode answer, as strings. -/
import Derived.Test.YtpofoilhiojifaaE1
import Derived.Test.YtpofoilhiojifaaD4
namespace Go.Proofs.Ytpofoilhiojifaa
open Go.RowKit
set_option maxRecDepth 100000
set_option linter.unusedVariables false

theorem stream_encOut (X : List UInt8) : stream (encOut X) = enc X ++ List.replicate (padN (enc X).length) true := stream_packs _ _ (padded_len _)
theorem padN_le (n : Nat) : padN n ≤ 7 := by unfold padN; omega
theorem back1 (X : List UInt8) : dec [] (stream (encOut X)) 0 = .inl X := by
  have h := padN_le (enc X).length
  rw [stream_encOut, dec_enc, dec_ones _ _ (by omega), if_pos h]
  simp [DR.pre]
theorem back2 (Z Y : List UInt8) (h : dec [] (stream Z) 0 = .inl Y) : encOut Y = Z ∧ 5 * Y.length ≤ 8 * Z.length := by
  obtain ⟨p, hp, e⟩ := dec_back _ _ _ _ h
  rw [List.nil_append] at e
  have hl := congrArg List.length e
  rw [stream_len, List.length_append, List.length_replicate] at hl
  refine ⟨?_, ?_⟩
  · have hpad : padded (enc Y) = stream Z := by
      unfold padded
      rw [e, show padN (enc Y).length = p by unfold padN; omega]
    rw [encOut, hpad, packs_stream]
  · have := (sumBits_le Y).1
    rw [← enc_len] at this
    omega
/-- Encode of what is held in a slice of one's own; Decode of it. -/
theorem encode_own {w0 w : World} {v : Value} {Y : List UInt8} (h : Gath w0 w v Y) (hm : Y.length ≤ 1099511627776) : Calls Try.prog 6 #[v] w fun e w' => ∃ v', e = .returned v' ∧ Gath w w' v' (encOut Y) := by
  obtain ⟨a, cap, e, _⟩ := h.1.form
  subst e
  have h1 := h.1
  rw [bv_length] at h1 ⊢
  exact encode_any a _ cap w Y (own_src h1) rfl hm
theorem decode_own {w0 w : World} {v : Value} {Y : List UInt8} (h : Gath w0 w v Y) (hm : Y.length ≤ 1099511627776) : Calls Try.prog 5 #[v] w fun e w' => DecPost w Y.length (dec [] (stream Y) 0) e w' := by
  obtain ⟨a, cap, e, _⟩ := h.1.form
  subst e
  have h1 := h.1
  rw [bv_length] at h1 ⊢
  exact decode_any a _ cap w Y (own_src h1) rfl hm

end Go.Proofs.Ytpofoilhiojifaa
