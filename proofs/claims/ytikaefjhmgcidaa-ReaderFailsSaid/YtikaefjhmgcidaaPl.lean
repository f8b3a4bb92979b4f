/- Plain facts: what is written is read back. -/
import Derived.Test.YtikaefjhmgcidaaFm
namespace Go.Proofs.Ytikaefjhmgcidaa
open Go.RowKit
set_option linter.unusedVariables false
set_option maxRecDepth 100000
set_option maxHeartbeats 4000000

theorem num_snoc (X : List UInt8) (c : UInt8) : num (X ++ [c]) = num X * 256 + c.toNat := by simp [num, List.foldl_append]
theorem num_be (n : Nat) : ∀ m, num (be n m) = m % 256 ^ n := by
  induction n with
  | zero => intro m; simp [be, num]; omega
  | succ n ih =>
    intro m
    rw [be, num_snoc, ih]
    have h1 : (UInt8.ofNat m).toNat = m % 256 := by simp
    rw [h1, Nat.pow_succ, Nat.mul_comm (256 ^ n) 256, Nat.mod_mul, Nat.mul_comm, Nat.add_comm]
theorem num_be_lt (n m : Nat) (h : m < 256 ^ n) : num (be n m) = m := by rw [num_be, Nat.mod_eq_of_lt h]

/-- A part is copied. -/
def cpP (f g : Fra) (j : Nat) : Fra :=
  if j = 0 then { g with last := f.last } else if j = 1 then { g with code := f.code } else if j = 2 then { g with dep := f.dep, only := f.only, wt := f.wt }
  else if j = 3 ∨ j = 5 then { g with X := f.X } else if j = 4 then { g with Y := f.Y } else { g with inc := f.inc }
def baseF (f : Fra) : Fra := { zeroF with k := f.k, fl := f.fl, st := f.st, pad := if padd f then f.pad else 0 }
/-- A frame, as far as its type uses it. -/
def nf (f : Fra) : Fra := (partsOf f).foldl (cpP f) (baseF f)

theorem piece_len {j : Nat} {f : Fra} (hj : j < 7) (h : (pieceO j f).1 = 0) (hz : sizeP j ≠ 0) : (pieceO j f).2.length = sizeP j := by
  obtain rfl | rfl | rfl | rfl | rfl | rfl | rfl : j = 0 ∨ j = 1 ∨ j = 2 ∨ j = 3 ∨ j = 4 ∨ j = 5 ∨ j = 6 := by omega
  all_goals simp [sizeP] at hz
  all_goals simp [pieceO] at h ⊢
  all_goals first
    | (split at h <;> simp_all [be_length, sizeP])
    | simp [be_length, sizeP]
theorem setsOf_back (Y : List (Int × Nat)) (h : Y.all setOk = true) (h2 : ∀ s ∈ Y, s.2 < 4294967296) : setsOf Y.length (setsB Y) = Y := by
  induction Y with
  | nil => rfl
  | cons s Y ih =>
    simp only [List.all_cons, Bool.and_eq_true] at h
    have hs := h.1
    simp [setOk] at hs
    have e : setsB (s :: Y) = be 2 s.1.toNat ++ (be 4 s.2 ++ setsB Y) := by simp [setsB, setB]
    have l2 : (be 2 s.1.toNat).length = 2 := be_length _ _
    have l4 : (be 4 s.2).length = 4 := be_length _ _
    have e6 : (be 2 s.1.toNat ++ (be 4 s.2 ++ setsB Y)).drop 6 = setsB Y := by
      rw [← List.append_assoc, List.drop_append_of_le_length (by simp [l2, l4]), List.drop_of_length_le (by simp [l2, l4]), List.nil_append]
    rw [e, List.length_cons, setsOf, e6, ih h.2 (fun t ht => h2 t (by simp [ht])), List.take_append_of_le_length (by omega), List.take_of_length_le (by omega), num_be_lt _ _ (by omega)]
    congr 1
    rw [List.drop_append_of_le_length (by omega), List.drop_of_length_le (by omega), List.nil_append, List.take_append_of_le_length (by omega), List.take_of_length_le (by omega), num_be_lt _ _ (by have := h2 s (by simp); omega)]
    apply Prod.ext
    · simp; omega
    · rfl
/-- Numbers that fit. -/
structure Fits (f : Fra) : Prop where
  code : f.code < 4294967296
  sets : ∀ s ∈ f.Y, s.2 < 4294967296
theorem piece_back {j : Nat} {f g : Fra} (hj : j < 7) (hf : Fits f) (h : (pieceO j f).1 = 0) (hY : j = 4 → g.Y = []) : rdP j g (pieceO j f).2 = cpP f g j := by
  obtain rfl | rfl | rfl | rfl | rfl | rfl | rfl : j = 0 ∨ j = 1 ∨ j = 2 ∨ j = 3 ∨ j = 4 ∨ j = 5 ∨ j = 6 := by omega
  · have hi : idOk f.last = true := by
      cases hi : idOk f.last
      · simp [pieceO, hi] at h
      · rfl
    have hp : (pieceO 0 f).2 = be 4 f.last.toNat := by simp [pieceO, hi]
    have hi2 := hi
    simp [idOk] at hi2
    have ht : (be 4 f.last.toNat).take 4 = be 4 f.last.toNat := List.take_of_length_le (by rw [be_length]; omega)
    rw [hp]
    simp only [rdP, cpP, if_true, ht, num_be_lt _ _ (show f.last.toNat < 256 ^ 4 by omega)]
    congr
    omega
  · have hp : (pieceO 1 f).2 = be 4 f.code := by simp [pieceO]
    have ht : (be 4 f.code).take 4 = be 4 f.code := List.take_of_length_le (by rw [be_length]; omega)
    rw [hp]
    simp [rdP, cpP, ht, num_be_lt _ _ (show f.code < 256 ^ 4 from hf.code)]
  · have hi : (idOk f.dep && decide (1 ≤ f.wt ∧ f.wt ≤ 256)) = true := by
      cases hi : (idOk f.dep && decide (1 ≤ f.wt ∧ f.wt ≤ 256))
      · simp only [pieceO, hi] at h; simp at h
      · rfl
    have hp : (pieceO 2 f).2 = be 4 (depW f) ++ [UInt8.ofNat (f.wt - 1).toNat] := by simp only [pieceO, hi]; simp
    simp [idOk] at hi
    have hd : depW f < 256 ^ 4 := by unfold depW; split <;> omega
    have ht : (be 4 (depW f) ++ [UInt8.ofNat (f.wt - 1).toNat]).take 4 = be 4 (depW f) := by
      rw [List.take_append_of_le_length (by rw [be_length]; omega)]
      exact List.take_of_length_le (by rw [be_length]; omega)
    have h4 : (be 4 (depW f) ++ [UInt8.ofNat (f.wt - 1).toNat]).getD 4 0 = UInt8.ofNat (f.wt - 1).toNat := by
      rw [List.getD_eq_getElem?_getD, List.getElem?_append_right (by rw [be_length]; omega), be_length]
      rfl
    have h0 : ((be 4 (depW f) ++ [UInt8.ofNat (f.wt - 1).toNat]).getD 0 0).toNat = depW f / 16777216 := by
      have : depW f / 256 / 256 / 256 % 256 = depW f / 16777216 := by omega
      simp [be]
      omega
    rw [hp]
    simp only [rdP, cpP, ht, h4, h0, num_be_lt _ _ hd]
    simp
    refine ⟨?_, ?_, ?_⟩
    · unfold depW; split <;> omega
    · unfold depW
      cases f.only
      · simp; omega
      · simp; omega
    · omega
  · simp [rdP, cpP, pieceO]
  · have hb : (decide (0 < f.Y.length) && has f.fl 1) = false := by
      cases hb : (decide (0 < f.Y.length) && has f.fl 1)
      · rfl
      · simp only [pieceO, hb] at h; simp at h
    have ha : f.Y.all setOk = true := by
      cases ha : f.Y.all setOk
      · simp only [pieceO, hb, ha] at h; simp at h
      · rfl
    have hp : (pieceO 4 f).2 = setsB f.Y := by simp only [pieceO, hb, ha]; simp
    rw [hp]
    have hl : (setsB f.Y).length / 6 = f.Y.length := by rw [setsB_len]; omega
    simp [rdP, cpP, hY rfl, hl, setsOf_back f.Y ha hf.sets]
  · have hx : f.X.length = 8 := by
      by_cases hx : f.X.length = 8
      · exact hx
      · simp [pieceO, hx] at h
    have hp : (pieceO 5 f).2 = f.X := by simp [pieceO, hx]
    rw [hp]
    simp [rdP, cpP]
  · have hi : decide (1 ≤ f.inc ∧ f.inc ≤ 2147483647) = true := by
      cases hi : decide (1 ≤ f.inc ∧ f.inc ≤ 2147483647)
      · simp only [pieceO, hi] at h; simp at h
      · rfl
    have hp : (pieceO 6 f).2 = be 4 f.inc.toNat := by simp only [pieceO, hi]; simp
    simp at hi
    have ht : (be 4 f.inc.toNat).take 4 = be 4 f.inc.toNat := List.take_of_length_le (by rw [be_length]; omega)
    rw [hp]
    simp [rdP, cpP, ht, num_be_lt _ _ (show f.inc.toNat < 256 ^ 4 by omega)]
    omega
theorem rd_pieces {f : Fra} (hf : Fits f) : ∀ (js : List Nat) (g : Fra), (∀ j ∈ js, j < 7) → (∀ j ∈ js, (pieceO j f).1 = 0) → (∀ i j, js[i]? = some j → sizeP j = 0 → i + 1 = js.length) → (4 ∈ js → js = [4] ∧ g.Y = []) →
    rd js g (pieceL f js).flatten = js.foldl (cpP f) g := by
  intro js
  induction js with
  | nil => intro g _ _ _ _; rfl
  | cons j js ih =>
    intro g h7 hok hl h4
    have hj7 := h7 j (by simp)
    have hjo := hok j (by simp)
    obtain ⟨P, hP⟩ : ∃ P, (pieceO j f).2 = P := ⟨_, rfl⟩
    have hfl : (pieceL f (j :: js)).flatten = P ++ (pieceL f js).flatten := by simp [pieceL, hP]
    have hcut : cutP j (P ++ (pieceL f js).flatten) = P.length := by
      rw [cutP]
      by_cases hz : sizeP j = 0
      · rw [if_pos hz]
        have := hl 0 j rfl hz
        have hjs : js = [] := List.eq_nil_of_length_eq_zero (by simpa using this)
        subst hjs
        simp [pieceL]
      · rw [if_neg hz, ← hP, piece_len hj7 hjo hz]
    rw [hfl, rd, hcut, List.take_left, List.drop_left, ← hP, piece_back hj7 hf hjo (fun e => (h4 (by simp [e])).2), List.foldl_cons]
    refine ih _ (fun k hk => h7 k (by simp [hk])) (fun k hk => hok k (by simp [hk])) (fun i k hi hz => ?_) (fun h => ?_)
    · have := hl (i + 1) k (by simpa using hi) hz
      simpa using this
    · have := (h4 (by simp [h])).1
      simp at this
      rw [this.2] at h
      simp at h
end Go.Proofs.Ytikaefjhmgcidaa
