/- There and back, plainly: what a joiner makes of a block's frames. -/
import Derived.Test.YtdndhidinbmpdaaBo
import Derived.Test.YtdndhidinbmpdaaBw
namespace Go.Proofs.Ytdndhidinbmpdaa
open Go.RowKit
set_option linter.unusedVariables false
set_option maxRecDepth 100000
set_option maxHeartbeats 4000000

/-- What is open, and held, behind i of N frames. -/
def bkO (en : Bool) (sid : Int) (N i : Nat) : Opn := if i = 0 ∨ i = N then none else some (en, sid)
def bkH (X : List UInt8) (M N i : Nat) : List UInt8 := if i = 0 ∨ i = N then [] else X.take (i * M)
theorem flags4 : (endB 0 = false ∧ endB 1 = true ∧ endB 4 = false ∧ endB 5 = true) ∧ (doneB 0 = false ∧ doneB 1 = false ∧ doneB 4 = true ∧ doneB 5 = true) := by decide
theorem take_piece (X : List UInt8) (M i : Nat) : X.take (i * M) ++ piece M X i = X.take ((i + 1) * M) := by
  unfold piece
  rw [Nat.succ_mul, List.take_add]
theorem back_step {X : List UInt8} {M : Nat} (hM : 1 ≤ M) (en : Bool) (sid : Int) {i : Nat} (hi : i < nP M X.length) (hX : X.length ≤ 65536) :
    inJ ((65536 : Nat) : Int) (bkO en sid (nP M X.length) i) (bkH X M (nP M X.length) i) (splitF sid X en M (nP M X.length) i) =
      if i + 1 = nP M X.length then ⟨wholeF (some (en, sid)) X, true, 0, none, []⟩ else ⟨zeroF, false, 0, some (en, sid), X.take ((i + 1) * M)⟩ := by
  obtain ⟨hnx, hle⟩ := nP_next hM hi
  have hpl : (piece M X i).length ≤ X.length - i * M := by rw [piece_length]; omega
  obtain ⟨⟨e0, e1, e4, e5⟩, ⟨d0, d1, d4, d5⟩⟩ := flags4
  generalize nP M X.length = N at *
  have hall : i + 1 = N → X.take ((i + 1) * M) = X := fun h => by
    rw [List.take_of_length_le]
    rw [Nat.succ_mul]
    omega
  by_cases h0 : i = 0
  · subst h0
    have htp : piece M X 0 = X.take ((0 + 1) * M) := by rw [← take_piece]; simp
    have hk : (splitF sid X en M N 0).k = 1 := rfl
    unfold inJ
    rw [if_neg (by simp [bkO, follB, splitF]), if_neg (by rw [hk]; decide), if_neg (by simp [bkH, splitF, zeroF] at hpl ⊢; omega)]
    simp only [hk, if_true]
    by_cases h1 : 0 + 1 = N
    · subst h1
      have hX2 : X.take M = X := by simpa using hall rfl
      cases en
      · have hd : doneB (splitF sid X false M (0 + 1) 0).fl = true := d4
        have he : endB (splitF sid X false M (0 + 1) 0).fl = false := e4
        rw [if_neg (by rw [hd]; simp), if_pos rfl, he]
        simp [bkH, splitF, htp, hX2]
      · have hd : doneB (splitF sid X true M (0 + 1) 0).fl = true := d5
        have he : endB (splitF sid X true M (0 + 1) 0).fl = true := e5
        rw [if_neg (by rw [hd]; simp), if_pos rfl, he]
        simp [bkH, splitF, htp, hX2]
    · rw [if_neg h1]
      cases en
      · have hf : (splitF sid X false M N 0).fl = 0 := by simp [splitF]; omega
        rw [if_pos (by rw [hf]; exact d0), hf, e0]
        simp [bkH, splitF, htp]
      · have hf : (splitF sid X true M N 0).fl = 1 := by simp [splitF]; omega
        rw [if_pos (by rw [hf]; exact d1), hf, e1]
        simp [bkH, splitF, htp]
  · have hiN : ¬ (i = 0 ∨ i = N) := by omega
    have hk : (splitF sid X en M N i).k = 9 := by simp [splitF, h0]
    have hs : (splitF sid X en M N i).st = sid := rfl
    have hb : bkO en sid N i = some (en, sid) := if_neg hiN
    have hH : bkH X M N i = X.take (i * M) := if_neg hiN
    rw [hb, hH]
    unfold inJ
    rw [if_neg (by simp [follB, hk, hs]), if_neg (by rw [hk]; decide), if_neg (by
      have h9 : (splitF sid X en M N i).X = piece M X i := rfl
      rw [h9, List.length_take]
      omega)]
    have hx : (splitF sid X en M N i).X = piece M X i := rfl
    have hne : ¬ (splitF sid X en M N i).k = 1 := by rw [hk]; decide
    rw [if_neg hne, hx, take_piece]
    by_cases h1 : i + 1 = N
    · have hf : (splitF sid X en M N i).fl = 4 := by simp [splitF, h0, h1]
      rw [if_neg (by rw [hf, d4]; simp), if_pos h1, hall h1]
    · have hf : (splitF sid X en M N i).fl = 0 := by simp [splitF, h0, h1]
      rw [if_pos (by rw [hf]; exact d0), if_neg h1]
end Go.Proofs.Ytdndhidinbmpdaa
