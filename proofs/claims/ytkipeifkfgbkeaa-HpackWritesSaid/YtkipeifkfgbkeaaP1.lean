/- Rows of bits: their values; codes as bits; bytes packed of bits. -/
import Derived.Test.YtkipeifkfgbkeaaK5
namespace Go.Proofs.Ytkipeifkfgbkeaa
set_option maxRecDepth 100000
set_option linter.unusedVariables false

/-- The number that a row of bits is, the highest bit first. -/
def val (l : List Bool) : Nat := l.foldl (fun a b => 2 * a + b.toNat) 0
theorem val_nil : val [] = 0 := rfl
theorem foldl_val (l : List Bool) : ∀ a, l.foldl (fun a b => 2 * a + b.toNat) a = a * 2 ^ l.length + val l := by
  induction l with
  | nil => intro a; simp [val]
  | cons b l ih =>
    intro a
    have h1 := ih (2 * a + b.toNat)
    have h2 := ih (2 * 0 + b.toNat)
    have h3 : val (b :: l) = l.foldl (fun a b => 2 * a + b.toNat) (2 * 0 + b.toNat) := rfl
    rw [List.foldl_cons, h1, h3, h2, List.length_cons, Nat.pow_succ]
    generalize 2 ^ l.length = p
    grind
theorem val_cons (b : Bool) (l : List Bool) : val (b :: l) = b.toNat * 2 ^ l.length + val l := by
  have := foldl_val l (2 * 0 + b.toNat)
  simpa [val] using this
theorem val_append (l m : List Bool) : val (l ++ m) = val l * 2 ^ m.length + val m := by
  unfold val
  rw [List.foldl_append, foldl_val]
  rfl
theorem val_snoc (l : List Bool) (b : Bool) : val (l ++ [b]) = 2 * val l + b.toNat := by simp [val]
theorem val_lt (l : List Bool) : val l < 2 ^ l.length := by
  induction l with
  | nil => simp [val_nil]
  | cons b l ih =>
    rw [val_cons, List.length_cons, Nat.pow_succ]
    cases b <;> simp <;> omega
theorem val_inj : ∀ (l m : List Bool), l.length = m.length → val l = val m → l = m := by
  intro l
  induction l with
  | nil =>
    intro m h _
    cases m with
    | nil => rfl
    | cons c m => simp at h
  | cons b l ih =>
    intro m h hv
    cases m with
    | nil => simp at h
    | cons c m =>
      simp only [List.length_cons, Nat.add_right_cancel_iff] at h
      rw [val_cons, val_cons, h] at hv
      have h1 := val_lt l
      have h2 := val_lt m
      rw [h] at h1
      have hbc : b = c := by
        cases b <;> cases c <;> simp at hv ⊢ <;> omega
      subst hbc
      rw [ih m h (by omega)]
theorem val_take_drop (l : List Bool) (n : Nat) : val l = val (l.take n) * 2 ^ (l.length - n) + val (l.drop n) := by
  have := val_append (l.take n) (l.drop n)
  rw [List.take_append_drop, List.length_drop] at this
  exact this
/-- The lowest n bits of a number. -/
def bitsN : Nat → Nat → List Bool
  | 0, _ => []
  | n + 1, w => bitsN n (w / 2) ++ [w % 2 == 1]
theorem bitsN_len (n : Nat) : ∀ w, (bitsN n w).length = n := by
  induction n with
  | zero => intro w; rfl
  | succ n ih => intro w; simp [bitsN, ih]
theorem val_bitsN (n : Nat) : ∀ w, val (bitsN n w) = w % 2 ^ n := by
  induction n with
  | zero => intro w; simp [bitsN, val_nil, Nat.mod_one]
  | succ n ih =>
    intro w
    rw [bitsN, val_snoc, ih, Nat.pow_succ, Nat.mul_comm (2 ^ n) 2, Nat.mod_mul]
    rcases Nat.mod_two_eq_zero_or_one w with h | h <;> simp [h] <;> omega
theorem bitsN_val (l : List Bool) : bitsN l.length (val l) = l :=
  val_inj _ _ (bitsN_len _ _) (by rw [val_bitsN, Nat.mod_eq_of_lt (val_lt l)])
/-- A symbol's code, as bits. -/
def code (s : Nat) : List Bool := bitsN (codeOf s).2 (codeOf s).1
theorem code_len (s : Nat) : (code s).length = (codeOf s).2 := bitsN_len _ _
theorem code_val' (s : Nat) (h : s ≤ 256) : val (code s) = (codeOf s).1 := by rw [code, val_bitsN, Nat.mod_eq_of_lt (code_size s h).2.2]
/-- The codes of bytes. -/
def enc (X : List UInt8) : List Bool := X.flatMap fun c => code c.toNat
theorem enc_cons (c : UInt8) (X : List UInt8) : enc (c :: X) = code c.toNat ++ enc X := by simp [enc]
theorem enc_append (X Y : List UInt8) : enc (X ++ Y) = enc X ++ enc Y := by simp [enc]
/-- The bits of bytes. -/
def stream (X : List UInt8) : List Bool := X.flatMap fun c => bitsN 8 c.toNat
theorem stream_cons (c : UInt8) (X : List UInt8) : stream (c :: X) = bitsN 8 c.toNat ++ stream X := by simp [stream]
theorem stream_append (X Y : List UInt8) : stream (X ++ Y) = stream X ++ stream Y := by simp [stream]
theorem stream_len (X : List UInt8) : (stream X).length = 8 * X.length := by
  induction X with
  | nil => rfl
  | cons c X ih => rw [stream_cons, List.length_append, bitsN_len, ih, List.length_cons]; omega
/-- Bytes of bits, eight by eight. -/
def packs : List Bool → List UInt8
  | a :: b :: c :: d :: e :: f :: g :: h :: T => UInt8.ofNat (val [a, b, c, d, e, f, g, h]) :: packs T
  | _ => []
theorem packs_short (l : List Bool) (h : l.length < 8) : packs l = [] := by
  match l, h with
  | [], _ => rfl
  | [_], _ => rfl
  | [_, _], _ => rfl
  | [_, _, _], _ => rfl
  | [_, _, _, _], _ => rfl
  | [_, _, _, _, _], _ => rfl
  | [_, _, _, _, _, _], _ => rfl
  | [_, _, _, _, _, _, _], _ => rfl
  | _ :: _ :: _ :: _ :: _ :: _ :: _ :: _ :: T, h => simp at h; omega
theorem packs_step (l : List Bool) (h : 8 ≤ l.length) : packs l = UInt8.ofNat (val (l.take 8)) :: packs (l.drop 8) := by
  match l, h with
  | a :: b :: c :: d :: e :: f :: g :: h :: T, _ => rfl
  | [], h => simp at h
  | [_], h => simp at h
  | [_, _], h => simp at h
  | [_, _, _], h => simp at h
  | [_, _, _, _], h => simp at h
  | [_, _, _, _, _], h => simp at h
  | [_, _, _, _, _, _], h => simp at h
  | [_, _, _, _, _, _, _], h => simp at h
theorem packs_front (l m : List Bool) (h : l.length = 8) : packs (l ++ m) = UInt8.ofNat (val l) :: packs m := by
  rw [packs_step _ (by simp; omega), List.take_append_of_le_length (by omega), List.take_of_length_le (by omega), ← h, List.drop_left]
theorem packs_stream (X : List UInt8) : packs (stream X) = X := by
  induction X with
  | nil => exact packs_short _ (by decide)
  | cons c X ih =>
    rw [stream_cons, packs_front _ _ (bitsN_len _ _), ih, val_bitsN]
    congr 1
    have := UInt8.toNat_lt c
    rw [Nat.mod_eq_of_lt (by simpa using this)]
    simp
theorem stream_packs (n : Nat) : ∀ l : List Bool, l.length = 8 * n → stream (packs l) = l := by
  induction n with
  | zero => intro l h; rw [packs_short _ (by omega)]; simp at h; subst h; rfl
  | succ n ih =>
    intro l h
    rw [packs_step _ (by omega), stream_cons, ih _ (by simp; omega)]
    have h1 : (l.take 8).length = 8 := by simp; omega
    have h2 := val_lt (l.take 8)
    rw [h1] at h2
    have h3 : (UInt8.ofNat (val (l.take 8))).toNat = val (l.take 8) := by simp; omega
    rw [h3]
    have h4 := bitsN_val (l.take 8)
    rw [h1] at h4
    rw [h4, List.take_append_drop]
theorem packs_len (n : Nat) : ∀ l : List Bool, l.length = 8 * n → (packs l).length = n := by
  induction n with
  | zero => intro l h; rw [packs_short _ (by omega)]; rfl
  | succ n ih => intro l h; rw [packs_step _ (by omega), List.length_cons, ih _ (by simp; omega)]
/-- Filled up with ones to whole bytes. -/
def padN (n : Nat) : Nat := (8 - n % 8) % 8
def padded (l : List Bool) : List Bool := l ++ List.replicate (padN l.length) true
theorem padded_len (l : List Bool) : (padded l).length = 8 * ((l.length + 7) / 8) := by simp [padded, padN]; omega
/-- What Encode answers. -/
def encOut (X : List UInt8) : List UInt8 := packs (padded (enc X))
theorem padded_step (l m : List Bool) (h : 8 ≤ l.length) : packs (padded (l ++ m)) = UInt8.ofNat (val (l.take 8)) :: packs (padded (l.drop 8 ++ m)) := by
  have e : padN (l.drop 8 ++ m).length = padN (l ++ m).length := by simp [padN]; omega
  have h1 : (l.take 8).length = 8 := by simp; omega
  unfold padded
  rw [e, ← packs_front (l.take 8) _ h1]
  congr 1
  rw [← List.append_assoc, ← List.append_assoc, List.take_append_drop]
theorem val_ones (n : Nat) : val (List.replicate n true) = 2 ^ n - 1 := by
  induction n with
  | zero => rfl
  | succ n ih =>
    rw [List.replicate_succ, val_cons, ih, List.length_replicate, Nat.pow_succ]
    have := Nat.two_pow_pos n
    simp
    omega
theorem padded_last (l : List Bool) (h0 : 0 < l.length) (h : l.length < 8) : packs (padded l) = [UInt8.ofNat (val l * 2 ^ (8 - l.length) + (2 ^ (8 - l.length) - 1))] := by
  have e : padN l.length = 8 - l.length := by simp [padN]; omega
  have h1 : (l ++ List.replicate (8 - l.length) true).length = 8 := by simp; omega
  have := packs_front (l ++ List.replicate (8 - l.length) true) [] h1
  unfold padded
  rw [e, ← List.append_nil (l ++ _), this, packs_short _ (by decide), val_append, val_ones, List.length_replicate]
theorem padded_nil : packs (padded []) = [] := packs_short _ (by decide)

end Go.Proofs.Ytkipeifkfgbkeaa
