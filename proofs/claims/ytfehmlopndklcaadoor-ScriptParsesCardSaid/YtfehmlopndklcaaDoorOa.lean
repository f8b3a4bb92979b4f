/- Texts: names, values, digits; how runes go over a text. -/
import Derived.WalkKit
import Derived.Lib.OthersKept
import Derived.Laws.RangeAny
import Derived.Laws.Runes
namespace Go.Proofs.YtfehmlopndklcaaDoor
open Go.RowKit
set_option linter.unusedVariables false

/-- A text's bytes. -/
def tx (s : ByteArray) : List UInt8 := s.data.toList
theorem tx_len (s : ByteArray) : (tx s).length = s.size := by unfold tx; rw [Array.length_toList]; rfl
theorem tx_toList (s : ByteArray) : s.toList = tx s := ByteArray.toList_eq s
theorem tx_at (s : ByteArray) (i : Nat) (h : i < s.size) : (tx s)[i]? = some (s[i]'h) := by
  unfold tx
  rw [Array.getElem?_toList]
  exact Array.getElem?_eq_getElem (xs := s.data) h
theorem tx_ext {s t : ByteArray} (h : tx s = tx t) : s = t := by
  cases s; cases t; unfold tx at h; simp at h; simp [h]
theorem tx_iff {s t : ByteArray} : tx s = tx t ↔ s = t := ⟨tx_ext, fun h => by rw [h]⟩
theorem tx_mk (l : List UInt8) : tx ⟨l.toArray⟩ = l := by simp [tx]

/-- The signs that may be in a name. -/
def marksL : List UInt8 := [33, 35, 36, 37, 38, 39, 42, 43, 45, 46, 94, 95, 96, 124, 126]
def digB (c : UInt8) : Bool := decide (48 ≤ c.toNat ∧ c.toNat ≤ 57)
def letB (c : UInt8) : Bool := decide (97 ≤ c.toNat ∧ c.toNat ≤ 122) || digB c || marksL.contains c
def nameB (s : List UInt8) : Bool := s.all letB && !s.isEmpty
/-- A byte that may be in a value. -/
def okB (c : UInt8) : Bool := !(c == 0 || c == 10 || c == 13)
def blankB (c : UInt8) : Bool := c == 32 || c == 9
def edgeB (s : List UInt8) : Bool := !(s.head?.any blankB) && !(s.getLast?.any blankB)
def valueB (s : List UInt8) : Bool := s.all okB && edgeB s

theorem mark_low : ∀ c ∈ marksL, c.toNat < 128 := by decide
theorem letB_low {c : UInt8} (h : letB c = true) : c.toNat < 128 := by
  unfold letB digB at h
  simp only [Bool.or_eq_true, decide_eq_true_eq] at h
  rcases h with (h | h) | h
  · omega
  · omega
  · exact mark_low c (List.contains_iff_mem.1 h)
theorem digB_low {c : UInt8} (h : digB c = true) : c.toNat < 128 := by
  unfold digB at h
  simp only [decide_eq_true_eq] at h
  omega
theorem okB_high {c : UInt8} (h : 128 ≤ c.toNat) : okB c = true := by
  unfold okB
  have h0 : c ≠ 0 := by rintro rfl; simp at h
  have h1 : c ≠ 10 := by rintro rfl; simp at h
  have h2 : c ≠ 13 := by rintro rfl; simp at h
  simp [h0, h1, h2]

/-- What is asked of a text's first bytes. -/
theorem all_take_succ {p : UInt8 → Bool} {s : List UInt8} {i : Nat} {c : UInt8} (h : s[i]? = some c) (hp : (s.take i).all p = true) (hc : p c = true) : (s.take (i + 1)).all p = true := by
  rw [List.take_add_one, h]
  simp [List.all_append, hp, hc]
theorem all_not {p : UInt8 → Bool} {s : List UInt8} {i : Nat} {c : UInt8} (h : s[i]? = some c) (hc : p c = false) : s.all p = false := by
  rw [List.all_eq_false]
  exact ⟨c, List.mem_of_getElem? h, by simp [hc]⟩
theorem all_end {p : UInt8 → Bool} {s : List UInt8} {i : Nat} (h : s.length ≤ i) (hp : (s.take i).all p = true) : s.all p = true := by
  rwa [List.take_of_length_le h] at hp

theorem width_pos (s : ByteArray) (pos : Nat) (h : pos < s.size) : 1 ≤ (Utf8.decode s pos).2 := by
  by_cases ha : (s[pos]'h).toNat < 128
  · rw [decode_ascii s pos h ha]
    exact Nat.le_refl _
  · exact (decode_high s pos h (by omega)).2

theorem get_tx (s : ByteArray) (i : Nat) (h : i < s.size) : s.get! i = s[i]'h := by
  simp [ByteArray.get!, getElem!_pos, h]
  rfl
/-- The bytes of a rune beyond ASCII are all beyond ASCII. -/
theorem high_bytes (s : ByteArray) (pos : Nat) (h : pos < s.size) (ha : 128 ≤ (s[pos]'h).toNat) :
    ∀ j, j < (Utf8.decode s pos).2 → ∃ c, (tx s)[pos + j]? = some c ∧ 128 ≤ c.toNat := by
  have h0 : s.get! (pos + 0) = s[pos]'h := get_at s pos h
  have hn : ¬ (s[pos]'h).toNat < 128 := by omega
  have hone : ∀ j, j < 1 → ∃ c, (tx s)[pos + j]? = some c ∧ 128 ≤ c.toNat := fun j hj => by
    obtain rfl : j = 0 := by omega
    exact ⟨_, tx_at s pos h, ha⟩
  have hcont : ∀ k, (decide (pos + k < s.size) && (s.get! (pos + k)).toNat / 64 == 2) = true → ∃ c, (tx s)[pos + k]? = some c ∧ 128 ≤ c.toNat := fun k hk => by
    simp only [Bool.and_eq_true, decide_eq_true_eq, beq_iff_eq] at hk
    rw [get_tx s _ hk.1] at hk
    exact ⟨_, tx_at s _ hk.1, by omega⟩
  have hz : ∃ c, (tx s)[pos + 0]? = some c ∧ 128 ≤ c.toNat := hone 0 (by omega)
  simp only [Utf8.decode, h0, hn, if_false]
  split
  · rename_i h1
    simp only [Bool.and_eq_true] at h1
    split
    · intro j hj
      have hj' : j < 2 := hj
      match j, hj' with
      | 0, _ => exact hz
      | 1, _ => exact hcont 1 (by simpa using h1.2)
    · exact hone
  · split
    · rename_i h1
      simp only [Bool.and_eq_true] at h1
      split
      · intro j hj
        have hj' : j < 3 := hj
        match j, hj' with
        | 0, _ => exact hz
        | 1, _ => exact hcont 1 (by simpa using h1.1.2)
        | 2, _ => exact hcont 2 (by simpa using h1.2)
      · exact hone
    · split
      · rename_i h1
        simp only [Bool.and_eq_true] at h1
        split
        · intro j hj
          have hj' : j < 4 := hj
          match j, hj' with
          | 0, _ => exact hz
          | 1, _ => exact hcont 1 (by simpa using h1.1.1.2)
          | 2, _ => exact hcont 2 (by simpa using h1.1.2)
          | 3, _ => exact hcont 3 (by simpa using h1.2)
        · exact hone
      · exact hone
theorem all_take_add {p : UInt8 → Bool} {s : List UInt8} {i : Nat} (hp : (s.take i).all p = true) : ∀ k, (∀ j, j < k → ∃ c, s[i + j]? = some c ∧ p c = true) → (s.take (i + k)).all p = true
  | 0, _ => hp
  | k + 1, h => by
    obtain ⟨c, hc, hpc⟩ := h k (by omega)
    exact all_take_succ hc (all_take_add hp k (fun j hj => h j (by omega))) hpc
end Go.Proofs.YtfehmlopndklcaaDoor
