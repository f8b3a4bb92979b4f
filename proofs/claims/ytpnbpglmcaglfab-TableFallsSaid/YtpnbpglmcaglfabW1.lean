/- The oldest fall: what is left are the last ones that fit together. -/
import Derived.Test.YtpnbpglmcaglfabV1
namespace Go.Proofs.Ytpnbpglmcaglfab
open Go.RowKit
set_option maxRecDepth 100000
set_option linter.unusedVariables false

theorem fallen_suffix (n : Int) (E : List (ByteArray × ByteArray)) : ∃ s, E = s ++ fallen n E ∧ ∀ s' x, s = s' ++ [x] → n < ((esz x + total (fallen n E) : Nat) : Int) := by
  induction E with
  | nil => exact ⟨[], rfl, fun s' x h => by simp at h⟩
  | cons e r ih =>
    by_cases h : n < ((total (e :: r) : Nat) : Int)
    · obtain ⟨s, h1, h2⟩ := ih
      have hf : fallen n (e :: r) = fallen n r := by rw [fallen, if_pos h]
      refine ⟨e :: s, by rw [hf, List.cons_append, ← h1], fun s' x hx => ?_⟩
      rw [hf]
      cases s with
      | nil =>
        have hs' : s' = [] := by
          cases s' with
          | nil => rfl
          | cons a b => simp at hx
        subst hs'
        have hex : x = e := by simpa using hx.symm
        subst hex
        have hr : r = fallen n r := by simpa using h1
        rw [← hr]
        exact h
      | cons a b =>
        cases s' with
        | nil => simp at hx
        | cons a' b' => exact h2 b' x (by simpa using (List.cons.inj hx).2)
    · exact ⟨[], by rw [fallen, if_neg h]; rfl, fun s' x hx => by simp at hx⟩
/-- E are the last ones of H that fit together. -/
structure LastFit (m : Nat) (H E : List (ByteArray × ByteArray)) : Prop where
  suf : ∃ r, H = r ++ E
  fits : total E ≤ m
  most : ∀ r x, H = r ++ [x] ++ E → m < esz x + total E
theorem LastFit.nil (m : Nat) : LastFit m [] [] := ⟨⟨[], rfl⟩, by simp [total], fun r x h => by simp at h⟩
theorem LastFit.add {m : Nat} {H E : List (ByteArray × ByteArray)} (h : LastFit m H E) (e : ByteArray × ByteArray) : LastFit m (H ++ [e]) (added m E e) := by
  by_cases hm : m < esz e
  · have he : added m E e = [] := by rw [added, if_pos hm]; exact fallen_neg _ _ (by omega)
    rw [he]
    refine ⟨⟨H ++ [e], by simp⟩, by simp [total], fun r x hx => ?_⟩
    rw [List.append_nil] at hx
    have hl := List.append_inj_right' hx rfl
    have hxe : e = x := by simpa using hl
    subst hxe
    simp only [total]
    omega
  · have he : added m E e = fallen ((m : Int) - esz e) E ++ [e] := by rw [added, if_neg hm]
    have hfits := added_fits m E e
    rw [he] at hfits ⊢
    obtain ⟨r, hr⟩ := h.suf
    obtain ⟨s, hs, hmax⟩ := fallen_suffix ((m : Int) - esz e) E
    generalize fallen ((m : Int) - esz e) E = F at hs hmax hfits
    refine ⟨⟨r ++ s, by rw [hr, hs]; simp⟩, hfits, fun q x hx => ?_⟩
    have hx2 : r ++ s = q ++ [x] := by
      rw [hr, hs] at hx
      have h1 : (r ++ s) ++ (F ++ [e]) = (q ++ [x]) ++ (F ++ [e]) := by simpa using hx
      exact List.append_cancel_right h1
    rw [total_append]
    simp only [total]
    by_cases hse : s = []
    · subst hse
      rw [List.append_nil] at hx2
      have hEF : E = F := by simpa using hs
      have := h.most q x (by rw [hr, hx2])
      rw [hEF] at this
      omega
    · obtain ⟨s', y, hy⟩ : ∃ s' y, s = s' ++ [y] := ⟨s.dropLast, s.getLast hse, (List.dropLast_concat_getLast hse).symm⟩
      have hyx : y = x := by
        rw [hy, ← List.append_assoc] at hx2
        have hl := List.append_inj_right' hx2 rfl
        simpa using hl
      subst hyx
      have := hmax s' y hy
      omega
/-- The entry at k from the end. -/
theorem LastFit.at {m : Nat} {H E : List (ByteArray × ByteArray)} (h : LastFit m H E) {k : Nat} (hk : k < E.length) : k < H.length ∧ H[H.length - 1 - k]? = E[E.length - 1 - k]? := by
  obtain ⟨r, rfl⟩ := h.suf
  refine ⟨by simp; omega, ?_⟩
  rw [List.getElem?_append_right (by simp; omega)]
  congr 1
  simp; omega
theorem LastFit.stop {m : Nat} {H E : List (ByteArray × ByteArray)} (h : LastFit m H E) (hlt : E.length < H.length) {x : ByteArray × ByteArray} (hx : H[H.length - 1 - E.length]? = some x) : m < esz x + total E := by
  obtain ⟨r, rfl⟩ := h.suf
  have hr : r ≠ [] := fun e => by subst e; simp at hlt
  have hd := List.dropLast_concat_getLast hr
  refine h.most r.dropLast x ?_
  have hlast : r.getLast hr = x := by
    rw [List.getElem?_append_left (by have := List.length_pos_iff.2 hr; simp; omega)] at hx
    rw [List.getLast_eq_getElem]
    have := (List.getElem?_eq_some_iff.1 hx).2
    rw [← this]
    congr 1
    simp; omega
  rw [← hlast, hd]
/-- The last k of E together. -/
theorem last_total {E : List (ByteArray × ByteArray)} {k : Nat} {e : ByteArray × ByteArray} (hk : k < E.length) (he : E[E.length - 1 - k]? = some e) : total (E.drop (E.length - (k + 1))) = esz e + total (E.drop (E.length - k)) := by
  have := total_drop he
  rw [show E.length - 1 - k + 1 = E.length - k by omega] at this
  rw [show E.length - (k + 1) = E.length - 1 - k by omega]
  exact this
end Go.Proofs.Ytpnbpglmcaglfab
