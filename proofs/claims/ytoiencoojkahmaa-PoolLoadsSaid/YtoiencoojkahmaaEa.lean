/- A backend's health, plainly. -/
import Derived.WalkKit
namespace Go.Proofs.Ytoiencoojkahmaa
open Go.RowKit
set_option linter.unusedVariables false

/-- Whether a model is down, its run, its hold. -/
structure Hs where
  d : Bool
  r : Int
  h : Int
/-- Rules that may be. -/
structure OkR (F R H : Int) : Prop where
  f1 : 1 ≤ F
  f2 : F ≤ 1000
  r1 : 1 ≤ R
  r2 : R ≤ 1000
  h1 : 0 ≤ H
  h2 : H ≤ 1073741824
/-- What a probe does. -/
def prbS (F R H : Int) (g : Bool) (s : Hs) : Hs :=
  if g = s.d then (if s.d = true then (if s.r + 1 < R ∨ 0 < s.h then ⟨true, s.r + 1, s.h⟩ else ⟨false, 0, s.h⟩) else (if s.r + 1 < F then ⟨false, s.r + 1, s.h⟩ else ⟨true, 0, H⟩)) else ⟨s.d, 0, s.h⟩
/-- What a tick does. -/
def tckS (s : Hs) : Hs := if 0 < s.h then ⟨s.d, s.r, s.h - 1⟩ else s
/-- What comes, by a script's numbers: a tick, or a probe. -/
def stpS (F R H k : Int) (s : Hs) : Hs := if k = 2 then tckS s else prbS F R H (decide (k = 1)) s
/-- What comes, by Fold's numbers. -/
def fldS (F R H k : Int) (s : Hs) : Hs := if k = 0 then prbS F R H false s else if k = 1 then prbS F R H true s else if k = 2 then tckS s else s
/-- The state behind all that has come. -/
def runS (F R H : Int) (L : List Int) : Hs := L.foldl (fun s k => fldS F R H k s) ⟨false, 0, 0⟩
theorem runS_snoc (F R H : Int) (L : List Int) (k : Int) : runS F R H (L ++ [k]) = fldS F R H k (runS F R H L) := by unfold runS; rw [List.foldl_append]; rfl
theorem prb_off (F R H : Int) {g d : Bool} (h : (g == d) = false) (r k : Int) : prbS F R H g ⟨d, r, k⟩ = ⟨d, 0, k⟩ := by
  have : g ≠ d := fun e => by subst e; simp at h
  unfold prbS
  rw [if_neg this]
theorem prb_more {F : Int} (R H : Int) {r : Int} (k : Int) (h : r + 1 < F) : prbS F R H false ⟨false, r, k⟩ = ⟨false, r + 1, k⟩ := by simp [prbS, h]
theorem prb_down {F : Int} (R H : Int) {r : Int} (k : Int) (h : ¬ r + 1 < F) : prbS F R H false ⟨false, r, k⟩ = ⟨true, 0, H⟩ := by simp [prbS, h]
theorem prb_stay (F H : Int) {R r k : Int} (h : r + 1 < R ∨ 0 < k) : prbS F R H true ⟨true, r, k⟩ = ⟨true, r + 1, k⟩ := by simp [prbS, h]
theorem prb_up (F H : Int) {R r k : Int} (h : ¬ (r + 1 < R ∨ 0 < k)) : prbS F R H true ⟨true, r, k⟩ = ⟨false, 0, k⟩ := by simp only [prbS, if_true, if_neg h]
theorem tck_one (d : Bool) (r : Int) {k : Int} (h : 0 < k) : tckS ⟨d, r, k⟩ = ⟨d, r, k - 1⟩ := by simp [tckS, h]
theorem tck_none (d : Bool) (r : Int) {k : Int} (h : ¬ 0 < k) : tckS ⟨d, r, k⟩ = ⟨d, r, k⟩ := by simp [tckS, h]
/-- What a model to which n things have come can be. -/
structure InvH (F n : Int) (s : Hs) : Prop where
  r0 : 0 ≤ s.r
  rn : s.r ≤ n
  up : s.d = false → s.r < F
  h0 : 0 ≤ s.h
  hm : s.h ≤ 1073741824
theorem InvH.start {F R H : Int} (h : OkR F R H) : InvH F 0 ⟨false, 0, 0⟩ := ⟨by simp, by simp, fun _ => by have := h.f1; show (0 : Int) < F; omega, by simp, by simp⟩
theorem InvH.more {F n m : Int} {s : Hs} (h : InvH F n s) (hm : n ≤ m) : InvH F m s := ⟨h.r0, by have := h.rn; omega, h.up, h.h0, h.hm⟩
theorem InvH.prb {F R H n : Int} {s : Hs} (h : InvH F n s) (hr : OkR F R H) (g : Bool) : InvH F (n + 1) (prbS F R H g s) := by
  obtain ⟨d, r, k⟩ := s
  obtain ⟨r0, rn, up, h0, hm⟩ := h
  obtain ⟨f1, f2, r1, r2, h1, h2⟩ := hr
  dsimp only at r0 rn up h0 hm
  by_cases hg : (g == d) = false
  · rw [prb_off F R H hg]
    exact ⟨by simp, by show (0 : Int) ≤ _; omega, fun _ => by show (0 : Int) < F; omega, h0, hm⟩
  · obtain rfl : g = d := by simpa using hg
    cases g
    · by_cases hk : r + 1 < F
      · rw [prb_more R H k hk]
        exact ⟨by show (0 : Int) ≤ r + 1; omega, by show r + 1 ≤ _; omega, fun _ => hk, h0, hm⟩
      · rw [prb_down R H k hk]
        exact ⟨by simp, by show (0 : Int) ≤ _; omega, fun e => by simp at e, h1, h2⟩
    · by_cases hk : r + 1 < R ∨ 0 < k
      · rw [prb_stay F H hk]
        exact ⟨by show (0 : Int) ≤ r + 1; omega, by show r + 1 ≤ _; omega, fun e => by simp at e, h0, hm⟩
      · rw [prb_up F H hk]
        exact ⟨by simp, by show (0 : Int) ≤ _; omega, fun _ => by show (0 : Int) < F; omega, h0, hm⟩
theorem InvH.tck {F n : Int} {s : Hs} (h : InvH F n s) : InvH F (n + 1) (tckS s) := by
  obtain ⟨d, r, k⟩ := s
  obtain ⟨r0, rn, up, h0, hm⟩ := h
  dsimp only at r0 rn up h0 hm
  by_cases hk : 0 < k
  · rw [tck_one d r hk]
    exact ⟨r0, by show r ≤ _; omega, up, by show (0 : Int) ≤ k - 1; omega, by show k - 1 ≤ _; omega⟩
  · rw [tck_none d r hk]
    exact ⟨r0, by show r ≤ _; omega, up, h0, hm⟩
theorem InvH.fld {F R H n : Int} {s : Hs} (h : InvH F n s) (hr : OkR F R H) (k : Int) : InvH F (n + 1) (fldS F R H k s) := by
  unfold fldS
  split
  · exact h.prb hr _
  split
  · exact h.prb hr _
  split
  · exact h.tck
  · exact h.more (by omega)
theorem OkR.decs {F R H : Int} (h : OkR F R H) : decide (F < 1) = false ∧ decide (1000 < F) = false ∧ decide (R < 1) = false ∧ decide (1000 < R) = false ∧ decide (H < 0) = false ∧ decide (1073741824 < H) = false := by
  obtain ⟨f1, f2, r1, r2, h1, h2⟩ := h
  refine ⟨?_, ?_, ?_, ?_, ?_, ?_⟩ <;> rw [decide_eq_false_iff_not] <;> omega
theorem OkR.not {F R H : Int} (h : ¬ OkR F R H) : F < 1 ∨ (¬ F < 1 ∧ 1000 < F) ∨ (¬ F < 1 ∧ ¬ 1000 < F ∧ R < 1) ∨ (¬ F < 1 ∧ ¬ 1000 < F ∧ ¬ R < 1 ∧ 1000 < R) ∨ (¬ F < 1 ∧ ¬ 1000 < F ∧ ¬ R < 1 ∧ ¬ 1000 < R ∧ H < 0) ∨ (¬ F < 1 ∧ ¬ 1000 < F ∧ ¬ R < 1 ∧ ¬ 1000 < R ∧ ¬ H < 0 ∧ 1073741824 < H) := by
  by_cases a1 : F < 1
  · exact .inl a1
  by_cases a2 : 1000 < F
  · exact .inr (.inl ⟨a1, a2⟩)
  by_cases a3 : R < 1
  · exact .inr (.inr (.inl ⟨a1, a2, a3⟩))
  by_cases a4 : 1000 < R
  · exact .inr (.inr (.inr (.inl ⟨a1, a2, a3, a4⟩)))
  by_cases a5 : H < 0
  · exact .inr (.inr (.inr (.inr (.inl ⟨a1, a2, a3, a4, a5⟩))))
  by_cases a6 : 1073741824 < H
  · exact .inr (.inr (.inr (.inr (.inr ⟨a1, a2, a3, a4, a5, a6⟩))))
  · exact (h ⟨by omega, by omega, by omega, by omega, by omega, by omega⟩).elim
end Go.Proofs.Ytoiencoojkahmaa
