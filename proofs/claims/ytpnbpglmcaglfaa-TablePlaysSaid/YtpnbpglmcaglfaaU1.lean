/- A table's entries in memory, the oldest first. -/
import Derived.Test.YtpnbpglmcaglfaaT8
import Derived.Deep.DeepAppendWide
namespace Go.Proofs.Ytpnbpglmcaglfaa
open Go.RowKit
set_option maxRecDepth 100000
set_option maxHeartbeats 4000000
set_option linter.unusedVariables false

/-- An entry's size; that of some. -/
def esz (e : ByteArray × ByteArray) : Nat := e.1.size + e.2.size + 32
def total : List (ByteArray × ByteArray) → Nat
  | [] => 0
  | e :: r => esz e + total r
/-- Entries as cells. -/
def cellsE : List (ByteArray × ByteArray) → List Value
  | [] => []
  | e :: r => .string e.1 :: .string e.2 :: .bool false :: cellsE r
theorem cellsE_length (E : List (ByteArray × ByteArray)) : (cellsE E).length = E.length * 3 := by
  induction E with
  | nil => rfl
  | cons e r ih => simp [cellsE, ih]; omega
theorem cellsE_append (E F : List (ByteArray × ByteArray)) : cellsE (E ++ F) = cellsE E ++ cellsE F := by
  induction E with
  | nil => rfl
  | cons e r ih => simp [cellsE, ih]
theorem cellsE_drop (E : List (ByteArray × ByteArray)) (k : Nat) : cellsE (E.drop k) = (cellsE E).drop (k * 3) := by
  induction E generalizing k with
  | nil => simp [cellsE]
  | cons e r ih =>
    cases k with
    | zero => simp
    | succ k => rw [show (k + 1) * 3 = k * 3 + 1 + 1 + 1 by omega]; simp [cellsE, ih]
theorem cellsE_one (E : List (ByteArray × ByteArray)) : ∀ u ∈ cellsE E, u.oneCell' = true := by
  induction E with
  | nil => intro u hu; simp [cellsE] at hu
  | cons e r ih =>
    intro u hu
    simp [cellsE] at hu
    rcases hu with rfl | rfl | rfl | h
    · rfl
    · rfl
    · rfl
    · exact ih u h
theorem cellsE_get {E : List (ByteArray × ByteArray)} {i : Nat} {e : ByteArray × ByteArray} (h : E[i]? = some e) : (cellsE E)[i * 3]? = some (.string e.1) ∧ (cellsE E)[i * 3 + 1]? = some (.string e.2) ∧ (cellsE E)[i * 3 + 2]? = some (.bool false) := by
  induction E generalizing i with
  | nil => simp at h
  | cons a r ih =>
    cases i with
    | zero =>
      simp at h
      subst h
      simp [cellsE]
    | succ i =>
      have h' := ih (i := i) (by simpa using h)
      rw [show (i + 1) * 3 = i * 3 + 1 + 1 + 1 by omega]
      simpa [cellsE, Nat.add_assoc] using h'
theorem total_append (E F : List (ByteArray × ByteArray)) : total (E ++ F) = total E + total F := by
  induction E with
  | nil => simp [total]
  | cons e r ih => simp [total, ih]; omega
theorem total_drop {E : List (ByteArray × ByteArray)} {i : Nat} {e : ByteArray × ByteArray} (h : E[i]? = some e) : total (E.drop i) = esz e + total (E.drop (i + 1)) := by
  obtain ⟨hi, he⟩ := List.getElem?_eq_some_iff.1 h
  rw [List.drop_eq_getElem_cons hi, he]; rfl
theorem total_drop_le (E : List (ByteArray × ByteArray)) (i : Nat) : total (E.drop i) ≤ total E := by
  have h := total_append (E.take i) (E.drop i)
  rw [List.take_append_drop] at h
  omega
theorem total_len (E : List (ByteArray × ByteArray)) : E.length * 32 ≤ total E := by
  induction E with
  | nil => simp
  | cons e r ih => simp [total, esz]; omega
/-- What is left when the oldest fall, until no more than n is there. -/
def fallen (n : Int) : List (ByteArray × ByteArray) → List (ByteArray × ByteArray)
  | [] => []
  | e :: r => if n < ((total (e :: r) : Nat) : Int) then fallen n r else e :: r
theorem fallen_stop {n : Int} {E : List (ByteArray × ByteArray)} {i : Nat} (h : ¬ n < ((total (E.drop i) : Nat) : Int)) : fallen n (E.drop i) = E.drop i := by
  cases hE : E.drop i with
  | nil => rfl
  | cons e r => rw [hE] at h; simp [fallen, h]
theorem fallen_next {n : Int} {E : List (ByteArray × ByteArray)} {i : Nat} (hi : i < E.length) (h : n < ((total (E.drop i) : Nat) : Int)) : fallen n (E.drop i) = fallen n (E.drop (i + 1)) := by
  rw [List.drop_eq_getElem_cons hi] at h ⊢
  rw [fallen, if_pos h]

/-- Three cells of an entry lie at a place of a row. -/
theorem row_cells {w : World} {g n cap : Nat} {cur : Array Value} {E : List (ByteArray × ByteArray)} (hg : w.heap[g]? = some (.cells cur 23 (0, 0))) (ht : cur.toList.take (E.length * 3) = cellsE E) {i : Nat} {e : ByteArray × ByteArray} (h : E[i]? = some e) :
    w.cell? ⟨g, i * 3, none⟩ = some (.string e.1) ∧ w.cell? ⟨g, i * 3 + 1, none⟩ = some (.string e.2) ∧ w.cell? ⟨g, i * 3 + 2, none⟩ = some (.bool false) := by
  have hi := (List.getElem?_eq_some_iff.1 h).1
  have key : ∀ j v, j < E.length * 3 → (cellsE E)[j]? = some v → cur[j]? = some v := fun j v hj hv => by
    rw [← ht, List.getElem?_take, if_pos hj] at hv
    rw [← Array.getElem?_toList]; exact hv
  obtain ⟨h0, h1, h2⟩ := cellsE_get h
  exact ⟨cell_of_heap hg (key _ _ (by omega) h0), cell_of_heap hg (key _ _ (by omega) h1), cell_of_heap hg (key _ _ (by omega) h2)⟩
theorem TabAt.laid {w : World} {t : Nat} {d : Bool} {m b : Nat} {v : Value} (h : TabAt w t d m b v) (o : Obj) : TabAt (w.alloc o) t d m b v := (Below.heap_alloc w o t h.lt).trans h
theorem TabAt.ne {w : World} {t g : Nat} {d : Bool} {m b : Nat} {v : Value} {cur : Array Value} {f : Nat × Nat} (h : TabAt w t d m b v) (hg : w.heap[g]? = some (.cells cur 23 f)) : g ≠ t := by
  intro e
  subst e
  rw [h] at hg
  cases hg
end Go.Proofs.Ytpnbpglmcaglfaa
