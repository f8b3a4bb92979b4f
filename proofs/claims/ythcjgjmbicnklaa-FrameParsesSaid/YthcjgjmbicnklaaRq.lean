/- Plain facts: the document's reading is the program's. -/
import Derived.Test.YthcjgjmbicnklaaRn
namespace Go.Proofs.Ythcjgjmbicnklaa
open Go.RowKit
set_option linter.unusedVariables false
set_option maxRecDepth 100000
set_option maxHeartbeats 4000000

theorem rdP_same (j : Nat) (f : Fra) (b : List UInt8) : (rdP j f b).k = f.k ∧ (rdP j f b).st = f.st := by
  unfold rdP
  repeat' split
  all_goals exact ⟨rfl, rfl⟩
theorem rd_same (js : List Nat) : ∀ (f : Fra) (b : List UInt8), (rd js f b).k = f.k ∧ (rd js f b).st = f.st := by
  induction js with
  | nil => intro f b; exact ⟨rfl, rfl⟩
  | cons j js ih =>
    intro f b
    have h1 := ih (rdP j f (b.take (cutP j b))) (b.drop (cutP j b))
    have h2 := rdP_same j f (b.take (cutP j b))
    exact ⟨h1.1.trans h2.1, h1.2.trans h2.2⟩
theorem leastP_F0 (k fl st : Int) : leastP (partsOf (F0 k fl st 0)) = if k = 1 then (if has fl 32 = true then 5 else 0) else if k = 2 then 5 else if k = 3 ∨ k = 8 then 4 else if k = 5 then 4 else if k = 6 ∨ k = 7 then 8 else 0 := by
  rcases kinds k with h | h | h | h | h | h | h | h | h | h | h
  case inr.inl =>
    subst h
    cases hq : has fl 32 <;> simp [partsOf, F0, hq, leastP, sizeP]
  case inr.inr.inr.inr.inr.inr.inr.inr.inr.inr => simp [partsOf, F0, leastP, h]
  all_goals
    subst h
    simp [partsOf, F0, leastP, sizeP]
theorem short_eq {k fl st : Int} {n : Nat} (hz : sizedB (F0 k fl st 0) n = true) : n < leastP (partsOf (F0 k fl st 0)) ↔ n < leastD k fl := by
  rw [leastP_F0]
  unfold leastD
  rcases kinds k with h | h | h | h | h | h | h | h | h | h | h
  case inr.inl =>
    subst h
    cases hq : has fl 32 <;> simp
  case inr.inr.inr.inr.inr.inr.inr.inr.inr.inr => simp [h]
  all_goals
    subst h
    simp [sizedB, F0] at hz
    simp
  all_goals omega
theorem pad_least {k fl st : Int} (hp : padH k fl = true) : leastP (partsOf (F0 k fl st 0)) = leastD k fl := by
  rw [leastP_F0]
  unfold leastD
  simp only [padH, canP, Bool.and_eq_true, decide_eq_true_eq] at hp
  rcases hp.1 with h | h | h
  · subst h; simp
  · subst h; cases has fl 32 <;> simp
  · subst h; simp
/-- What stands behind a head, by the document. -/
def docO (k fl st : Int) (b : List UInt8) : Fra × Flt :=
  if (ptX k fl b).2.1 = 0 then
    (if (fdO k fl st (ptX k fl b).1 (ptX k fl b).2.2).2.is = true then (zeroF, (fdO k fl st (ptX k fl b).1 (ptX k fl b).2.2).2) else fdO k fl st (ptX k fl b).1 (ptX k fl b).2.2)
  else (zeroF, ⟨true, 0, (ptX k fl b).2.1⟩)
theorem last_eq (k fl st : Int) (x : Nat) (X : List UInt8) : (if (rd (partsOf (F0 k fl st 0)) (F0 k fl st x) X).k = 8 ∧ (rd (partsOf (F0 k fl st 0)) (F0 k fl st x) X).inc = 0 then (zeroF, (⟨true, (rd (partsOf (F0 k fl st 0)) (F0 k fl st x) X).st, 1⟩ : Flt)) else (rd (partsOf (F0 k fl st 0)) (F0 k fl st x) X, ⟨false, 0, 0⟩)) =
    (if (fdO k fl st x X).2.is = true then (zeroF, (fdO k fl st x X).2) else fdO k fl st x X) := by
  have e : partsOf (F0 k fl st 0) = partsOf (F0 k fl st x) := rfl
  rw [e]
  obtain ⟨h1, h2⟩ := rd_same (partsOf (F0 k fl st x)) (F0 k fl st x) X
  rw [h1, h2]
  unfold fdO
  by_cases h : k = 8 ∧ (rd (partsOf (F0 k fl st x)) (F0 k fl st x) X).inc = 0
  · rw [if_pos (show (F0 k fl st x).k = 8 ∧ _ from h), if_pos h]
    simp
    rfl
  · rw [if_neg (show ¬ ((F0 k fl st x).k = 8 ∧ _) from h), if_neg h]
    simp
theorem readO_doc {k fl st : Int} {b : List UInt8} (hpl : placedB k st = true) (hz : sizedB (F0 k fl st 0) b.length = true) : readO (F0 k fl st 0) b = docO k fl st b := by
  have e1 : placedB (F0 k fl st 0).k (F0 k fl st 0).st = placedB k st := rfl
  have e2 : padd (F0 k fl st 0) = padH k fl := rfl
  unfold readO
  rw [if_neg (by rw [e1, hpl]; simp), if_neg (by rw [hz]; simp), e2]
  cases hp : padH k fl
  · have ec : padC (F0 k fl st 0) b = b := by unfold padC; rw [e2, hp]; rfl
    have en : padN (F0 k fl st 0) b = 0 := by unfold padN; rw [e2, hp]; rfl
    rw [if_neg (by simp), ec, en]
    by_cases h : b.length < leastD k fl
    · rw [if_pos ((short_eq hz).2 h), docO, ptX_ns hp rfl h, if_neg (by simp)]
    · rw [if_neg (fun h2 => h ((short_eq hz).1 h2)), if_neg (by omega), docO, ptX_n hp rfl h, if_pos rfl, Nat.sub_zero, List.take_length]
      exact last_eq k fl st 0 b
  · have ec : padC (F0 k fl st 0) b = b.drop 1 := by unfold padC; rw [e2, hp]; rfl
    have en : padN (F0 k fl st 0) b = (b.getD 0 0).toNat := by unfold padN; rw [e2, hp]; rfl
    have el := pad_least (st := st) hp
    rw [ec, en, el, List.length_drop]
    by_cases h : b.length < 1 + leastD k fl
    · rw [docO, ptX_s hp rfl h]
      by_cases h3 : b.length = 0
      · rw [if_pos ⟨rfl, h3⟩, if_neg (by simp)]
      · rw [if_neg (fun h2 => h3 h2.2), if_pos (by omega), if_neg (by simp)]
    · rw [if_neg (fun h2 => h (by omega)), if_neg (by omega)]
      by_cases h4 : b.length - 1 - leastD k fl < (b.getD 0 0).toNat
      · rw [if_pos h4, docO, ptX_o hp rfl h h4, if_neg (by simp)]
      · rw [if_neg h4, docO, ptX_k hp rfl h h4, if_pos rfl]
        exact last_eq k fl st (b.getD 0 0).toNat _
theorem ptX_len {k fl : Int} {b : List UInt8} : (ptX k fl b).2.2.length ≤ b.length := by
  unfold ptX
  repeat' split
  all_goals simp
  all_goals omega
theorem ptX_fits {k fl st : Int} {b : List UInt8} (hk : knownB k = true) (hz : sizedB (F0 k fl st 0) b.length = true) (hc : (ptX k fl b).2.1 = 0) : fitsB k fl (ptX k fl b).2.2.length := by
  have hkr : 0 ≤ k ∧ k ≤ 9 := by simpa [knownB] using hk
  cases hp : padH k fl
  · by_cases h : b.length < leastD k fl
    · rw [ptX_ns hp rfl h] at hc
      simp at hc
    · rw [ptX_n hp rfl h]
      dsimp only
      generalize b.length = n at hz h
      unfold leastD at h
      refine ⟨?_, ?_, ?_, ?_, ?_, ?_, ?_, ?_⟩
      all_goals intro e
      all_goals subst e
      case refine_8 => intro hq; simp [hq] at h; exact h
      case refine_4 =>
        have hz2 : decide (n = 0 ∨ (n % 6 = 0 ∧ has fl 1 = false)) = true := hz
        rcases of_decide_eq_true hz2 with h | h
        · omega
        · exact h.1
      all_goals simp [sizedB, F0] at hz
      all_goals simp at h
      all_goals omega
  · by_cases h : b.length < 1 + leastD k fl
    · rw [ptX_s hp rfl h] at hc
      simp at hc
    · by_cases h4 : b.length - 1 - leastD k fl < (b.getD 0 0).toNat
      · rw [ptX_o hp rfl h h4] at hc
        simp at hc
      · rw [ptX_k hp rfl h h4]
        simp only [List.length_take, List.length_drop]
        generalize b.length = n at hz h h4
        generalize (b.getD 0 0).toNat = y at h4
        unfold leastD at h h4
        simp only [padH, canP, Bool.and_eq_true, decide_eq_true_eq] at hp
        refine ⟨?_, ?_, ?_, ?_, ?_, ?_, ?_, ?_⟩
        all_goals intro e
        all_goals subst e
        case refine_8 => intro hq; simp [hq] at h h4; omega
        case refine_7 => simp at h h4; omega
        all_goals omega
end Go.Proofs.Ythcjgjmbicnklaa
