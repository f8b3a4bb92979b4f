/- What is put is read back; as short as may be: the plain side. -/
import Derived.Test.YtemleghledcclabJ1
import Derived.Test.YtemleghledcclabJ4
import Derived.Test.YtemleghledcclabH1
namespace Go.Proofs.Ytemleghledcclab
open Go.RowKit
set_option maxRecDepth 100000
set_option linter.unusedVariables false

theorem digs_back (r : Nat) : ∀ (c s p : Nat) (B : List UInt8), c ≤ 4 → r < 128 ^ (5 - c) → s + r * 128 ^ c ≤ 2147483647 → digs c s p (tailOf r ++ B) = (s + r * 128 ^ c, p + (tailOf r).length, 0) := by
  induction r using tail_ind with
  | h1 r h =>
    intro c s p B hc hr hs
    have hx : (UInt8.ofNat r).toNat = r := by simp; omega
    rw [tailOf_last r h, List.singleton_append, digs, hx, Nat.mod_eq_of_lt h, if_neg (by omega), if_neg (by omega), if_pos h]
    rfl
  | h2 r h ih =>
    intro c s p B hc hr hs
    have hx : (UInt8.ofNat (128 + r % 128)).toNat = 128 + r % 128 := by simp; omega
    have hc3 : c ≤ 3 := by
      rcases Nat.lt_or_ge c 4 with h4 | h4
      · omega
      · obtain rfl : c = 4 := by omega
        simp at hr
        omega
    have hsum : r % 128 * 128 ^ c + r / 128 * 128 ^ (c + 1) = r * 128 ^ c := by
      rw [Nat.pow_succ, Nat.mul_comm (128 ^ c) 128, ← Nat.mul_assoc, ← Nat.add_mul]
      congr 1
      omega
    rw [tailOf_more r (by omega), List.cons_append, digs, hx, show (128 + r % 128) % 128 = r % 128 by omega, if_neg (by omega), if_neg (by omega), if_neg (by omega)]
    rw [ih (c + 1) _ (p + 1) B (by omega) (by
      rw [Nat.div_lt_iff_lt_mul (by decide), ← Nat.pow_succ, show (5 - (c + 1)).succ = 5 - c by omega]; exact hr) (by omega)]
    rw [List.length_cons]
    simp only [Prod.mk.injEq]
    exact ⟨by omega, by omega, trivial⟩
theorem digs_cut (r : Nat) : ∀ (c s p : Nat), c ≤ 4 → r < 128 ^ (5 - c) → s + r * 128 ^ c ≤ 2147483647 → digs c s p (tailOf r).dropLast = (0, p + ((tailOf r).length - 1), 3) := by
  induction r using tail_ind with
  | h1 r h =>
    intro c s p hc hr hs
    rw [tailOf_last r h]
    rfl
  | h2 r h ih =>
    intro c s p hc hr hs
    have hx : (UInt8.ofNat (128 + r % 128)).toNat = 128 + r % 128 := by simp; omega
    have hc3 : c ≤ 3 := by
      rcases Nat.lt_or_ge c 4 with h4 | h4
      · omega
      · obtain rfl : c = 4 := by omega
        simp at hr
        omega
    have hsum : r % 128 * 128 ^ c + r / 128 * 128 ^ (c + 1) = r * 128 ^ c := by
      rw [Nat.pow_succ, Nat.mul_comm (128 ^ c) 128, ← Nat.mul_assoc, ← Nat.add_mul]
      congr 1
      omega
    have hne : tailOf (r / 128) ≠ [] := by
      rcases Nat.lt_or_ge (r / 128) 128 with h1 | h1
      · rw [tailOf_last _ h1]; simp
      · rw [tailOf_more _ h1]; simp
    have hpos : 0 < (tailOf (r / 128)).length := List.length_pos_iff.2 hne
    rw [tailOf_more r (by omega), List.dropLast_cons_of_ne_nil hne, digs, hx, show (128 + r % 128) % 128 = r % 128 by omega, if_neg (by omega), if_neg (by omega), if_neg (by omega)]
    rw [ih (c + 1) _ (p + 1) (by omega) (by
      rw [Nat.div_lt_iff_lt_mul (by decide), ← Nat.pow_succ, show (5 - (c + 1)).succ = 5 - c by omega]; exact hr) (by omega)]
    rw [List.length_cons]
    simp only [Prod.mk.injEq]
    exact ⟨trivial, by omega, trivial⟩

theorem tailOf_pos (r : Nat) : 0 < (tailOf r).length := by
  rcases Nat.lt_or_ge r 128 with h1 | h1
  · rw [tailOf_last _ h1]; simp
  · rw [tailOf_more _ h1]; simp
theorem putInt_pos (f k n : Nat) : 0 < (putInt f k n).length := by
  unfold putInt
  split <;> simp
/-- The first byte's low bits. -/
theorem low_of {f k n : Nat} (hf : f < 256) (hk : k ≤ 8) (h0 : f % 2 ^ k = 0) (hn : n ≤ allOnes k) : (UInt8.ofNat (f + n)).toNat = f + n ∧ (f + n) % 2 ^ k = n := by
  have h1 := (put_low f k n hf hk h0 hn).2
  have h2 := (pow_cases k hk).1
  refine ⟨by simp; omega, ?_⟩
  have h3 : f = 2 ^ k * (f / 2 ^ k) := by have := Nat.div_add_mod f (2 ^ k); omega
  rw [h3, Nat.mul_add_mod, Nat.mod_eq_of_lt (by omega)]
theorem mid_get (A B C : List UInt8) (x : UInt8) : (A ++ (x :: B) ++ C)[A.length]? = some x := by simp
theorem mid_drop (A B C : List UInt8) (x : UInt8) : (A ++ (x :: B) ++ C).drop (A.length + 1) = B ++ C := by
  rw [show A ++ (x :: B) ++ C = (A ++ [x]) ++ (B ++ C) by simp, List.drop_left' (by simp)]
/-- An integer that was put, between any bytes. -/
theorem get_back (A B : List UInt8) (f k n : Nat) (hf : f < 256) (h1 : 1 ≤ k) (h8 : k ≤ 8) (h0 : f % 2 ^ k = 0) (hn : n ≤ 2147483647) : getOut (A ++ putInt f k n ++ B) (A.length : Int) k = (n, A.length + (putInt f k n).length, 0) := by
  unfold putInt
  have hp := pow_cases k h8
  split
  · rename_i hlt
    obtain ⟨hx, hm⟩ := low_of hf h8 h0 (Nat.le_of_lt hlt)
    rw [getOut_at h1 h8 (mid_get A [] B _), hx, hm, if_pos hlt]
    rfl
  · rename_i hlt
    obtain ⟨hx, hm⟩ := low_of hf h8 h0 (Nat.le_refl (allOnes k))
    rw [getOut_at h1 h8 (mid_get A _ B _), hx, hm, if_neg (by omega), mid_drop]
    rw [digs_back (n - allOnes k) 0 _ _ _ (by omega) (by simp; omega) (by simp; omega)]
    simp only [List.length_cons, Prod.mk.injEq]
    exact ⟨by omega, by omega, trivial⟩
/-- Without its last byte it ends too early. -/
theorem get_cut (k n : Nat) (h1 : 1 ≤ k) (h8 : k ≤ 8) (hn : n ≤ 2147483647) : getOut (putInt 0 k n).dropLast (0 : Int) k = (0, (putInt 0 k n).length - 1, 3) := by
  have hp := pow_cases k h8
  unfold putInt
  split
  · exact getOut_end (X := []) h1 h8
  · rename_i hlt
    obtain ⟨hx, hm⟩ := low_of (f := 0) (by decide) h8 (Nat.zero_mod _) (Nat.le_refl (allOnes k))
    have hne : tailOf (n - allOnes k) ≠ [] := by have := tailOf_pos (n - allOnes k); exact List.length_pos_iff.1 this
    rw [List.dropLast_cons_of_ne_nil hne]
    have h := getOut_at (X := UInt8.ofNat (0 + allOnes k) :: (tailOf (n - allOnes k)).dropLast) (p := 0) h1 h8 rfl
    rw [hx, hm, if_neg (by omega)] at h
    have e : (List.drop (0 + 1) (UInt8.ofNat (0 + allOnes k) :: (tailOf (n - allOnes k)).dropLast)) = (tailOf (n - allOnes k)).dropLast := rfl
    rw [e, digs_cut (n - allOnes k) 0 _ _ (by omega) (by simp; omega) (by simp; omega)] at h
    have hpos := tailOf_pos (n - allOnes k)
    refine h.trans ?_
    simp only [List.length_cons, Prod.mk.injEq]
    exact ⟨trivial, by omega, trivial⟩

theorem tailOf_mono (n : Nat) : ∀ m, m ≤ n → (tailOf m).length ≤ (tailOf n).length := by
  induction n using tail_ind with
  | h1 n h => intro m hm; rw [tailOf_last n h, tailOf_last m (by omega)]; simp
  | h2 n h ih =>
    intro m hm
    rw [tailOf_more n (by omega), List.length_cons]
    rcases Nat.lt_or_ge m 128 with h1 | h1
    · rw [tailOf_last m h1]; simp
    · rw [tailOf_more m h1, List.length_cons]
      have := ih (m / 128) (by omega)
      omega
theorem putInt_mono (f f' k m n : Nat) (h : m ≤ n) : (putInt f k m).length ≤ (putInt f' k n).length := by
  unfold putInt
  split
  · split <;> simp
  · rw [if_neg (by omega), List.length_cons, List.length_cons]
    have := tailOf_mono (n - allOnes k) (m - allOnes k) (by omega)
    omega
theorem putText_least (S : List UInt8) : (putText S true).length ≤ (putText S false).length := by
  have e : putText S false = putInt 0 7 S.length ++ S := by simp [putText]
  rw [e]
  unfold putText
  split
  · rename_i h
    rw [List.length_append, List.length_append]
    have := putInt_mono 128 0 7 (encOut S).length S.length (by omega)
    omega
  · exact Nat.le_refl _
theorem putText_len (S : List UInt8) (b : Bool) : (putText S b).length ≤ 4 * S.length + 1000 + S.length := by
  unfold putText
  have h1 := encOut_le S
  split
  · have := putInt_len 128 7 (encOut S).length; rw [List.length_append]; omega
  · have := putInt_len 0 7 S.length; rw [List.length_append]; omega

theorem putInt_first (f n : Nat) (hf : f = 0 ∨ f = 128) : ∃ x T, putInt f 7 n = x :: T ∧ (x.toNat < 128 ↔ f = 0) := by
  have h7 : allOnes 7 = 127 := rfl
  unfold putInt
  rw [h7]
  split
  · exact ⟨_, _, rfl, by rcases hf with rfl | rfl <;> simp <;> omega⟩
  · exact ⟨_, _, rfl, by rcases hf with rfl | rfl <;> simp⟩
theorem getD_mid (A B C : List UInt8) (x : UInt8) : (A ++ (x :: B) ++ C).getD A.length 0 = x := by
  rw [List.getD_eq_getElem?_getD, mid_get]; rfl
/-- A text that was put, between any bytes. -/
theorem text_back (A B S : List UInt8) (b : Bool) (hS : S.length ≤ 16384) : readText (A ++ putText S b ++ B) (A.length : Int) 16384 = (S, A.length + (putText S b).length, 0) := by
  have key : ∀ (f : Nat) (Y : List UInt8), (f = 0 ∨ f = 128) → Y.length ≤ 16384 → readText (A ++ (putInt f 7 Y.length ++ Y) ++ B) (A.length : Int) 16384 = textOut A.length 16384 (A.length + (putInt f 7 Y.length).length) (if f = 0 then 0 else 128) Y := by
    intro f Y hf hY
    obtain ⟨x, T, hx, hx2⟩ := putInt_first f Y.length hf
    have hg := get_back A (Y ++ B) f 7 Y.length (by omega) (by omega) (by omega) (by rcases hf with rfl | rfl <;> rfl) (by omega)
    rw [show A ++ putInt f 7 Y.length ++ (Y ++ B) = A ++ (putInt f 7 Y.length ++ Y) ++ B by simp] at hg
    have hlen : (A ++ (putInt f 7 Y.length ++ Y) ++ B).length = A.length + (putInt f 7 Y.length).length + Y.length + B.length := by simp; omega
    have hd : ((A ++ (putInt f 7 Y.length ++ Y) ++ B).drop (A.length + (putInt f 7 Y.length).length)).take Y.length = Y := by
      rw [show A ++ (putInt f 7 Y.length ++ Y) ++ B = (A ++ putInt f 7 Y.length) ++ (Y ++ B) by simp, List.drop_left' (by simp), List.take_left' rfl]
    have hgx : (A ++ (putInt f 7 Y.length ++ Y) ++ B).getD A.length 0 = x := by
      rw [hx, List.cons_append]; exact getD_mid A (T ++ Y) B x
    have hg' : getOut (A ++ (putInt f 7 Y.length ++ Y) ++ B) (A.length : Int) 7 = (Y.length, A.length + (putInt f 7 Y.length).length, 0) := hg
    rw [readText, if_neg (by rw [hlen]; omega), hg', if_neg (by simp), if_neg (by simp only; omega), if_neg (by rw [hlen]; simp only; omega)]
    simp only [Int.toNat_natCast]
    rw [hd, hgx]
    unfold textOut
    rcases hf with rfl | rfl
    · rw [if_pos (hx2.2 rfl)]; rfl
    · rw [if_neg (fun h => by have := hx2.1 h; omega)]; rfl
  unfold putText
  split
  · rename_i h
    rw [key 128 (encOut S) (.inr rfl) (by omega), textOut, if_neg (by decide), back1]
    simp only [List.length_append]
    rw [if_neg (by omega)]
    simp only [Prod.mk.injEq]
    exact ⟨trivial, by omega, trivial⟩
  · rw [key 0 S (.inl rfl) hS, textOut, if_pos (by decide)]
    simp only [List.length_append, Prod.mk.injEq]
    exact ⟨trivial, by omega, trivial⟩

end Go.Proofs.Ytemleghledcclab
