/- Plain facts: what the document lets be written is what the program writes. -/
import Derived.Test.YtikaefjhmgcidaaZMRa
namespace Go.Proofs.Ytikaefjhmgcidaa
open Go.RowKit
set_option linter.unusedVariables false
set_option maxRecDepth 100000
set_option maxHeartbeats 4000000

theorem mayP_padOk (f : Fra) : mayP f.k f.fl f.pad = padOk f := by
  unfold mayP padOk padd
  cases canP f.k
  · simp
  · cases has f.fl 8
    · rw [Bool.eq_iff_iff]
      simp
      omega
    · simp
theorem piecesO_zero (f : Fra) (js : List Nat) : ((piecesO f js).1 = 0) ↔ ∀ j ∈ js, (pieceO j f).1 = 0 := by
  induction js with
  | nil => simp [piecesO]
  | cons j js ih =>
    simp only [piecesO]
    by_cases h : (pieceO j f).1 = 0
    · simp [h, ih]
    · simp [h]
theorem mayQL (f : Fra) (hk : knownB f.k = true) : (mayQ f.k f.fl f.dep f.wt && mayL f) = decide ((allP f).1 = 0) := by
  have e : ((allP f).1 = 0) ↔ ((piecesO f (partsOf f)).1 = 0) := by
    unfold allP
    split
    · rename_i h; simp [h]
    · rename_i h; simp [h]
  rw [Bool.eq_iff_iff, decide_eq_true_eq, e, piecesO_zero]
  clear e
  have p0 : ((pieceO 0 f).1 = 0) ↔ idOk f.last = true := by simp only [pieceO]; cases idOk f.last <;> simp
  have p1 : (pieceO 1 f).1 = 0 := rfl
  have p2 : ((pieceO 2 f).1 = 0) ↔ (idOk f.dep = true ∧ (1 ≤ f.wt ∧ f.wt ≤ 256)) := by
    simp only [pieceO]
    cases idOk f.dep
    · simp
    · by_cases h2 : 1 ≤ f.wt ∧ f.wt ≤ 256 <;> simp [h2]
  have p3 : (pieceO 3 f).1 = 0 := rfl
  have p4 : ((pieceO 4 f).1 = 0) ↔ (f.Y.all setOk = true ∧ (f.Y.length = 0 ∨ has f.fl 1 = false)) := by
    simp only [pieceO]
    cases h1 : has f.fl 1 <;> cases h2 : f.Y.all setOk <;> by_cases h3 : f.Y.length = 0
    all_goals
      have h4 : decide (0 < f.Y.length) = !decide (f.Y.length = 0) := by
        by_cases h5 : f.Y.length = 0
        · rw [h5]; rfl
        · rw [decide_eq_true (show 0 < f.Y.length by omega), decide_eq_false h5]; rfl
      rw [h4]
      simp [h3]
  have p5 : ((pieceO 5 f).1 = 0) ↔ f.X.length = 8 := by
    simp only [pieceO]
    by_cases h3 : f.X.length = 8 <;> simp [h3]
  have p6 : ((pieceO 6 f).1 = 0) ↔ (1 ≤ f.inc ∧ f.inc ≤ 2147483647) := by
    simp only [pieceO]
    by_cases h3 : 1 ≤ f.inc ∧ f.inc ≤ 2147483647 <;> simp [h3]
  rcases kinds f.k with h | h | h | h | h | h | h | h | h | h | h
  · rw [show partsOf f = [3] by simp [partsOf, h]]
    simp [mayQ, mayL, prioB, h, p3]
  · cases hq : has f.fl 32
    · rw [show partsOf f = [3] by simp [partsOf, h, hq]]
      simp [mayQ, mayL, prioB, h, hq, p3]
    · rw [show partsOf f = [2, 3] by simp [partsOf, h, hq]]
      simp [mayQ, mayL, prioB, h, hq, p2, p3]
  · rw [show partsOf f = [2] by simp [partsOf, h]]
    simp [mayQ, mayL, prioB, h, p2]
  · rw [show partsOf f = [1] by simp [partsOf, h]]
    simp [mayQ, mayL, prioB, h, p1]
  · rw [show partsOf f = [4] by simp [partsOf, h]]
    have e1 : (∀ j ∈ [4], (pieceO j f).1 = 0) ↔ (pieceO 4 f).1 = 0 := by simp
    rw [e1, p4]
    simp only [mayQ, mayL, prioB, h]
    simp
  · rw [show partsOf f = [0, 3] by simp [partsOf, h]]
    simp [mayQ, mayL, prioB, h, p0, p3]
  · rw [show partsOf f = [5] by simp [partsOf, h]]
    simp [mayQ, mayL, prioB, h, p5]
  · rw [show partsOf f = [0, 1, 3] by simp [partsOf, h]]
    simp [mayQ, mayL, prioB, h, p0, p1, p3]
  · rw [show partsOf f = [6] by simp [partsOf, h]]
    simp [mayQ, mayL, prioB, h, p6]
  · rw [show partsOf f = [3] by simp [partsOf, h]]
    simp [mayQ, mayL, prioB, h, p3]
  · simp [knownB] at hk
    omega
theorem mayB_eq (f : Fra) (hk : knownB f.k = true) : mayB f = (headOk f && placedB f.k f.st && padOk f && decide ((allP f).1 = 0)) := by
  rw [← mayQL f hk, ← mayP_padOk, ← right_placed hk]
  unfold mayB headOk
  rw [hk]
  simp [Bool.and_assoc]
theorem writeO_may (f : Fra) (hk : knownB f.k = true) : writeO f = if mayB f then (if (allP f).2.flatten.length ≤ 16777215 then (0, headB f (allP f).2.flatten.length ++ (allP f).2.flatten) else (2, [])) else (1, []) := by
  rw [mayB_eq f hk]
  unfold writeO
  cases h1 : (headOk f && placedB f.k f.st && padOk f)
  · simp
  · by_cases h2 : (allP f).1 = 0 <;> simp [h2]
theorem writeO_unknown (f : Fra) (hk : knownB f.k = false) : writeO f = (1, []) := by
  simp [writeO, headOk, hk]
theorem allP_flat {f : Fra} (h : mayB f = true) (hk : knownB f.k = true) : (allP f).2.flatten = (padsB f ++ (piecesO f (partsOf f)).2 ++ padsE f).flatten := by
  rw [mayB_eq f hk] at h
  simp only [Bool.and_eq_true, decide_eq_true_eq] at h
  unfold allP at h ⊢
  split
  · rfl
  · rename_i h2
    rw [if_neg h2] at h
    exact absurd h.2 (by simp)
end Go.Proofs.Ytikaefjhmgcidaa
