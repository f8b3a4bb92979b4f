/- The document's Code (aqueductref03.Code): the plain side. -/
import Derived.Test.YtkipeifkfgbkeaaR1
namespace Go.Proofs.Ytkipeifkfgbkeaa
set_option maxRecDepth 100000

/-- The word before row k, moved up to its bits. -/
def firstOf (k : Nat) : Nat := (stAt k).2.1 * 2 ^ ((tblR.getD k (0, [])).1 - (stAt k).2.2)
/-- The next word and its bits, ahead of row k. -/
def preR (k : Nat) : Nat × Nat := if k < 21 then (stAt k).2 else (1073741824, 30)
theorem tblR_len : tblR.length = 21 := by decide +kernel
theorem rowR_facts : ∀ k < 21, (stAt k).2.2 ≤ (tblR.getD k (0, [])).1 ∧ (tblR.getD k (0, [])).1 ≤ 30 ∧ firstOf k + (tblR.getD k (0, [])).2.length ≤ 1073741824 ∧ (stAt k).2.1 < 1073741824 ∧ 0 < (tblR.getD k (0, [])).2.length ∧ (tblR.getD k (0, [])).2.length ≤ 32 ∧
    preR (k + 1) = (firstOf k + (tblR.getD k (0, [])).2.length, (tblR.getD k (0, [])).1) := by decide +kernel
theorem place_all : (List.range 21).all (fun k => ((tblR.getD k (0, [])).2.zipIdx).all fun p => finL.getD p.1 (0, 0) == (firstOf k + p.2, (tblR.getD k (0, [])).1)) = true := by decide +kernel
theorem place_code (k j s : Nat) (hk : k < 21) (hj : (tblR.getD k (0, [])).2[j]? = some s) : codeOf s = (firstOf k + j, (tblR.getD k (0, [])).1) := by
  have h := List.all_eq_true.1 place_all k (by simpa using hk)
  have h2 := List.all_eq_true.1 h (s, j) (by rw [List.mem_zipIdx_iff_getElem?]; exact hj)
  rw [codeOf, fin_eq]
  simpa using h2
theorem in_all : (List.range 257).all (fun s => tblR.any fun r => r.2.contains s) = true := by decide +kernel
theorem all_le : tblR.all (fun r => r.2.all fun s => decide (s ≤ 256)) = true := by decide +kernel
theorem in_some (s : Nat) (h : s ≤ 256) : ∃ k j : Nat, k < 21 ∧ (tblR.getD k (0, [])).2[j]? = some s := by
  have h1 := List.all_eq_true.1 in_all s (by simp; omega)
  obtain ⟨r, hr, h2⟩ := List.any_eq_true.1 h1
  obtain ⟨k, hk⟩ := List.getElem?_of_mem hr
  have hk2 : k < 21 := by have := (List.getElem?_eq_some_iff.1 hk).1; rw [tblR_len] at this; exact this
  have h3 : s ∈ r.2 := by simpa using h2
  obtain ⟨j, hj⟩ := List.getElem?_of_mem h3
  exact ⟨k, j, hk2, by simp [List.getD_eq_getElem?_getD, hk, hj]⟩
theorem in_le (k j s : Nat) (hk : k < 21) (hj : (tblR.getD k (0, [])).2[j]? = some s) : s ≤ 256 := by
  have h1 := List.all_eq_true.1 all_le (tblR.getD k (0, [])) (by simp [List.getD_eq_getElem?_getD, show k < tblR.length by rw [tblR_len]; exact hk])
  have h2 := List.all_eq_true.1 h1 s (List.mem_of_getElem? hj)
  simpa using h2
theorem row_at (k : Nat) (hk : k < 21) : tblR[k]? = some (tblR.getD k (0, [])) := by
  simp [List.getD_eq_getElem?_getD, show k < tblR.length by rw [tblR_len]; exact hk]

end Go.Proofs.Ytkipeifkfgbkeaa
