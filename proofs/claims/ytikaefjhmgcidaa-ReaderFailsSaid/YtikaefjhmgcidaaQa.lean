/- Plain facts: a reader of frames, whatever bytes come; what is told of bytes is told however they are cut. -/
import Derived.Test.YtikaefjhmgcidaaPm
namespace Go.Proofs.Ytikaefjhmgcidaa
set_option linter.unusedVariables false
set_option maxRecDepth 100000
set_option maxHeartbeats 4000000

theorem take_more {B C : List UInt8} {n : Nat} (h : n ≤ B.length) : (B ++ C).take n = B.take n := List.take_append_of_le_length h
theorem drop_more {B C : List UInt8} {n : Nat} (h : n ≤ B.length) : (B ++ C).drop n = B.drop n ++ C := List.drop_append_of_le_length h
theorem getD_more {B C : List UInt8} {n : Nat} (h : n < B.length) : (B ++ C).getD n 0 = B.getD n 0 := by
  simp only [List.getD_eq_getElem?_getD, List.getElem?_append_left h]
theorem cut_more {B C : List UInt8} {p n : Nat} (h : p + n ≤ B.length) : ((B ++ C).drop p).take n = (B.drop p).take n := by
  rw [drop_more (by omega), take_more (by rw [List.length_drop]; omega)]
theorem headF_more {B C : List UInt8} (h : 9 ≤ B.length) : headF (B ++ C) = headF B := by
  unfold headF
  rw [getD_more (by omega), getD_more (by omega), cut_more (by omega)]
/-- Where Parse tells a frame or a fault, it has enough bytes, and would tell the same if more stood behind. -/
theorem parse_more {B : List UInt8} {most : Int} (h : (parseO B most).2.2.2 = 0) : (9 ≤ (parseO B most).2.1 ∧ (parseO B most).2.1 ≤ B.length) ∧ ∀ C, parseO (B ++ C) most = parseO B most := by
  by_cases h0 : most < 0
  · rw [parseO, if_pos h0] at h; simp at h
  by_cases h9 : B.length < 9
  · rw [parseO, if_neg h0, if_pos h9] at h; simp at h
  have e3 : ∀ C, (B ++ C).take 3 = B.take 3 := fun C => take_more (by omega)
  by_cases hb : most < (num (B.take 3) : Nat)
  · have e : parseO B most = (zeroF, 9, ⟨true, 0, 6⟩, 0) := by rw [parseO, if_neg h0, if_neg h9, if_pos hb]
    rw [e]
    refine ⟨⟨Nat.le_refl _, by show 9 ≤ B.length; omega⟩, fun C => ?_⟩
    rw [parseO, if_neg h0, if_neg (by rw [List.length_append]; omega), if_pos (by rw [e3]; exact hb)]
  by_cases hs : B.length < 9 + num (B.take 3)
  · rw [parseO, if_neg h0, if_neg h9, if_neg hb, if_pos hs] at h; simp at h
  have e : parseO B most = ((readO (headF B) ((B.drop 9).take (num (B.take 3)))).1, 9 + num (B.take 3), (readO (headF B) ((B.drop 9).take (num (B.take 3)))).2, 0) := by rw [parseO, if_neg h0, if_neg h9, if_neg hb, if_neg hs]
  rw [e]
  refine ⟨⟨by simp, by simp; omega⟩, fun C => ?_⟩
  rw [parseO, if_neg h0, if_neg (by rw [List.length_append]; omega), e3, if_neg hb, if_neg (by rw [List.length_append]; omega), headF_more (by omega), cut_more (by omega)]

/-- What a reader tells next (a frame; whether it is one; what is wrong), what it then has, and the fault by which it has failed. -/
def nextO (most : Int) : Nat → List UInt8 → Flt → (Fra × Bool × Flt) × List UInt8 × Flt
  | 0, B, X => ((zeroF, false, ⟨false, 0, 0⟩), B, X)
  | n + 1, B, X =>
    if X.is = true then ((zeroF, false, X), B, X)
    else if (parseO B most).2.2.2 ≠ 0 then ((zeroF, false, ⟨false, 0, 0⟩), B, X)
    else if (parseO B most).2.2.1.is = true ∧ (parseO B most).2.2.1.st = 0 then ((zeroF, false, (parseO B most).2.2.1), B, (parseO B most).2.2.1)
    else if (parseO B most).2.2.1.is = true then ((zeroF, false, (parseO B most).2.2.1), B.drop (parseO B most).2.1, X)
    else if knownB (parseO B most).1.k = true then (((parseO B most).1, true, ⟨false, 0, 0⟩), B.drop (parseO B most).2.1, X)
    else nextO most n (B.drop (parseO B most).2.1) X
def nextR (most : Int) (B : List UInt8) (X : Flt) : (Fra × Bool × Flt) × List UInt8 × Flt := nextO most (B.length + 1) B X
theorem nextO_any (most : Int) : ∀ (n m : Nat) (B : List UInt8) (X : Flt), B.length < n → B.length < m → nextO most n B X = nextO most m B X := by
  intro n
  induction n with
  | zero => intro m B X h; omega
  | succ n ih =>
    intro m B X h1 h2
    cases m with
    | zero => omega
    | succ m =>
      simp only [nextO]
      by_cases he : (parseO B most).2.2.2 = 0
      · have hp := (parse_more he).1
        rw [ih m (B.drop (parseO B most).2.1) X (by rw [List.length_drop]; omega) (by rw [List.length_drop]; omega)]
      · rw [if_pos he]
        rw [if_pos he]
theorem nextR_eq (most : Int) (B : List UInt8) (X : Flt) : nextR most B X =
    if X.is = true then ((zeroF, false, X), B, X)
    else if (parseO B most).2.2.2 ≠ 0 then ((zeroF, false, ⟨false, 0, 0⟩), B, X)
    else if (parseO B most).2.2.1.is = true ∧ (parseO B most).2.2.1.st = 0 then ((zeroF, false, (parseO B most).2.2.1), B, (parseO B most).2.2.1)
    else if (parseO B most).2.2.1.is = true then ((zeroF, false, (parseO B most).2.2.1), B.drop (parseO B most).2.1, X)
    else if knownB (parseO B most).1.k = true then (((parseO B most).1, true, ⟨false, 0, 0⟩), B.drop (parseO B most).2.1, X)
    else nextR most (B.drop (parseO B most).2.1) X := by
  unfold nextR
  by_cases he : (parseO B most).2.2.2 = 0
  · have hp := (parse_more he).1
    rw [← nextO_any most B.length ((B.drop (parseO B most).2.1).length + 1) (B.drop (parseO B most).2.1) X (by rw [List.length_drop]; omega) (by omega)]
    rfl
  · rw [nextO, if_pos he, if_pos he]
/-- It tells nothing. -/
def mute (r : (Fra × Bool × Flt) × List UInt8 × Flt) : Prop := r.1 = (zeroF, false, ⟨false, 0, 0⟩)
/-- With more bytes behind: what was told is told; where nothing was told, it goes on from what is left. -/
theorem next_more (most : Int) : ∀ (n : Nat) (B : List UInt8) (X : Flt), B.length < n → X.is = false → ∀ C,
    ((nextR most B X).1.2.1 = false ∧ (nextR most B X).1.2.2.is = false → nextR most (B ++ C) X = nextR most ((nextR most B X).2.1 ++ C) X ∧ (nextR most B X).2.2 = X ∧ (nextR most B X).1 = (zeroF, false, ⟨false, 0, 0⟩) ∧ nextR most (nextR most B X).2.1 X = nextR most B X) ∧
    (¬ ((nextR most B X).1.2.1 = false ∧ (nextR most B X).1.2.2.is = false) → nextR most (B ++ C) X = ((nextR most B X).1, (nextR most B X).2.1 ++ C, (nextR most B X).2.2)) := by
  intro n
  induction n with
  | zero => intro B X h; omega
  | succ n ih =>
    intro B X hB hX C
    have hX' : ¬ X.is = true := by rw [hX]; simp
    by_cases he : (parseO B most).2.2.2 = 0
    · obtain ⟨⟨h9, hn⟩, hm⟩ := parse_more he
      have hC := hm C
      by_cases h1 : (parseO B most).2.2.1.is = true ∧ (parseO B most).2.2.1.st = 0
      · have e1 : nextR most B X = ((zeroF, false, (parseO B most).2.2.1), B, (parseO B most).2.2.1) := by rw [nextR_eq, if_neg hX', if_neg (by simp [he]), if_pos h1]
        have e2 : nextR most (B ++ C) X = ((zeroF, false, (parseO B most).2.2.1), B ++ C, (parseO B most).2.2.1) := by rw [nextR_eq, if_neg hX', hC, if_neg (by simp [he]), if_pos h1]
        rw [e1, e2]
        exact ⟨fun h => by have := h.2; simp [h1.1] at this, fun _ => rfl⟩
      by_cases h2 : (parseO B most).2.2.1.is = true
      · have e1 : nextR most B X = ((zeroF, false, (parseO B most).2.2.1), B.drop (parseO B most).2.1, X) := by rw [nextR_eq, if_neg hX', if_neg (by simp [he]), if_neg h1, if_pos h2]
        have e2 : nextR most (B ++ C) X = ((zeroF, false, (parseO B most).2.2.1), B.drop (parseO B most).2.1 ++ C, X) := by rw [nextR_eq, if_neg hX', hC, if_neg (by simp [he]), if_neg h1, if_pos h2, drop_more hn]
        rw [e1, e2]
        exact ⟨fun h => by have := h.2; simp [h2] at this, fun _ => rfl⟩
      by_cases h3 : knownB (parseO B most).1.k = true
      · have e1 : nextR most B X = (((parseO B most).1, true, ⟨false, 0, 0⟩), B.drop (parseO B most).2.1, X) := by rw [nextR_eq, if_neg hX', if_neg (by simp [he]), if_neg h1, if_neg h2, if_pos h3]
        have e2 : nextR most (B ++ C) X = (((parseO B most).1, true, ⟨false, 0, 0⟩), B.drop (parseO B most).2.1 ++ C, X) := by rw [nextR_eq, if_neg hX', hC, if_neg (by simp [he]), if_neg h1, if_neg h2, if_pos h3, drop_more hn]
        rw [e1, e2]
        exact ⟨fun h => by have := h.1; simp at this, fun _ => rfl⟩
      · have e1 : nextR most B X = nextR most (B.drop (parseO B most).2.1) X := by rw [nextR_eq, if_neg hX', if_neg (by simp [he]), if_neg h1, if_neg h2, if_neg h3]
        have e2 : nextR most (B ++ C) X = nextR most (B.drop (parseO B most).2.1 ++ C) X := by rw [nextR_eq, if_neg hX', hC, if_neg (by simp [he]), if_neg h1, if_neg h2, if_neg h3, drop_more hn]
        rw [e1, e2]
        exact ih (B.drop (parseO B most).2.1) X (by rw [List.length_drop]; omega) hX C
    · have e1 : nextR most B X = ((zeroF, false, ⟨false, 0, 0⟩), B, X) := by rw [nextR_eq, if_neg hX', if_pos he]
      rw [e1]
      refine ⟨fun _ => ⟨rfl, rfl, rfl, e1⟩, fun h => absurd ⟨rfl, rfl⟩ h⟩
/-- What is told gets shorter by nine bytes at least, or the reader fails. -/
theorem next_less (most : Int) : ∀ (n : Nat) (B : List UInt8) (X : Flt), B.length < n → X.is = false →
    (nextR most B X).2.1.length ≤ B.length ∧ ((nextR most B X).1.2.1 = true ∨ ((nextR most B X).1.2.2.is = true ∧ (nextR most B X).1.2.2.st ≠ 0) → (nextR most B X).2.1.length + 9 ≤ B.length ∧ (nextR most B X).2.2 = X) ∧ ((nextR most B X).2.2.is = true → (nextR most B X).1 = (zeroF, false, (nextR most B X).2.2) ∧ (nextR most B X).2.2.st = 0) := by
  intro n
  induction n with
  | zero => intro B X h; omega
  | succ n ih =>
    intro B X hB hX
    have hX' : ¬ X.is = true := by rw [hX]; simp
    by_cases he : (parseO B most).2.2.2 = 0
    · obtain ⟨⟨h9, hn⟩, hm⟩ := parse_more he
      by_cases h1 : (parseO B most).2.2.1.is = true ∧ (parseO B most).2.2.1.st = 0
      · have e1 : nextR most B X = ((zeroF, false, (parseO B most).2.2.1), B, (parseO B most).2.2.1) := by rw [nextR_eq, if_neg hX', if_neg (by simp [he]), if_pos h1]
        rw [e1]
        refine ⟨Nat.le_refl _, fun h => ?_, fun _ => ⟨rfl, h1.2⟩⟩
        rcases h with h | h
        · simp at h
        · exact absurd h1.2 h.2
      by_cases h2 : (parseO B most).2.2.1.is = true
      · have e1 : nextR most B X = ((zeroF, false, (parseO B most).2.2.1), B.drop (parseO B most).2.1, X) := by rw [nextR_eq, if_neg hX', if_neg (by simp [he]), if_neg h1, if_pos h2]
        rw [e1]
        exact ⟨by simp, fun _ => ⟨by simp; omega, rfl⟩, fun h => absurd h hX'⟩
      by_cases h3 : knownB (parseO B most).1.k = true
      · have e1 : nextR most B X = (((parseO B most).1, true, ⟨false, 0, 0⟩), B.drop (parseO B most).2.1, X) := by rw [nextR_eq, if_neg hX', if_neg (by simp [he]), if_neg h1, if_neg h2, if_pos h3]
        rw [e1]
        exact ⟨by simp, fun _ => ⟨by simp; omega, rfl⟩, fun h => absurd h hX'⟩
      · have e1 : nextR most B X = nextR most (B.drop (parseO B most).2.1) X := by rw [nextR_eq, if_neg hX', if_neg (by simp [he]), if_neg h1, if_neg h2, if_neg h3]
        rw [e1]
        have h := ih (B.drop (parseO B most).2.1) X (by rw [List.length_drop]; omega) hX
        rw [List.length_drop] at h
        exact ⟨by omega, fun hh => ⟨by have := (h.2.1 hh).1; omega, (h.2.1 hh).2⟩, h.2.2⟩
    · have e1 : nextR most B X = ((zeroF, false, ⟨false, 0, 0⟩), B, X) := by rw [nextR_eq, if_neg hX', if_pos he]
      rw [e1]
      refine ⟨Nat.le_refl _, fun h => ?_, fun h => absurd h hX'⟩
      rcases h with h | h
      · simp at h
      · simp at h
end Go.Proofs.Ytikaefjhmgcidaa
