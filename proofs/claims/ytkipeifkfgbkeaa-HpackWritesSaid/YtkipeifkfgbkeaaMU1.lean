/- A table's entries in memory, the oldest first. -/
import Derived.Test.YtkipeifkfgbkeaaT8
import Derived.Deep.DeepAppendWide
namespace Go.Proofs.Ytkipeifkfgbkeaa
open Go.RowKit
set_option maxRecDepth 100000
set_option maxHeartbeats 4000000
set_option linter.unusedVariables false

/-- An entry's size; that of some. -/
def esz (e : ByteArray × ByteArray) : Nat := e.1.size + e.2.size + 32
def total : List (ByteArray × ByteArray) → Nat
  | [] => 0
  | e :: r => esz e + total r
/-- Entries as cells. -/
def cellsE : List (ByteArray × ByteArray) → List Value
  | [] => []
  | e :: r => .string e.1 :: .string e.2 :: .bool false :: cellsE r
theorem cellsE_length (E : List (ByteArray × ByteArray)) : (cellsE E).length = E.length * 3 := by
  induction E with
  | nil => rfl
  | cons e r ih => simp [cellsE, ih]; omega
theorem cellsE_append (E F : List (ByteArray × ByteArray)) : cellsE (E ++ F) = cellsE E ++ cellsE F := by
  induction E with
  | nil => rfl
  | cons e r ih => simp [cellsE, ih]
theorem cellsE_drop (E : List (ByteArray × ByteArray)) (k : Nat) : cellsE (E.drop k) = (cellsE E).drop (k * 3) := by
  induction E generalizing k with
  | nil => simp [cellsE]
  | cons e r ih =>
    cases k with
    | zero => simp
    | succ k => rw [show (k + 1) * 3 = k * 3 + 1 + 1 + 1 by omega]; simp [cellsE, ih]
theorem cellsE_one (E : List (ByteArray × ByteArray)) : ∀ u ∈ cellsE E, u.oneCell' = true := by
  induction E with
  | nil => intro u hu; simp [cellsE] at hu
  | cons e r ih =>
    intro u hu
    simp [cellsE] at hu
    rcases hu with rfl | rfl | rfl | h
    · rfl
    · rfl
    · rfl
    · exact ih u h
theorem cellsE_get {E : List (ByteArray × ByteArray)} {i : Nat} {e : ByteArray × ByteArray} (h : E[i]? = some e) : (cellsE E)[i * 3]? = some (.string e.1) ∧ (cellsE E)[i * 3 + 1]? = some (.string e.2) ∧ (cellsE E)[i * 3 + 2]? = some (.bool false) := by
  induction E generalizing i with
  | nil => simp at h
  | cons a r ih =>
    cases i with
    | zero =>
      simp at h
      subst h
      simp [cellsE]
    | succ i =>
      have h' := ih (i := i) (by simpa using h)
      rw [show (i + 1) * 3 = i * 3 + 1 + 1 + 1 by omega]
      simpa [cellsE, Nat.add_assoc] using h'
theorem total_append (E F : List (ByteArray × ByteArray)) : total (E ++ F) = total E + total F := by
  induction E with
  | nil => simp [total]
  | cons e r ih => simp [total, ih]; omega
theorem total_drop {E : List (ByteArray × ByteArray)} {i : Nat} {e : ByteArray × ByteArray} (h : E[i]? = some e) : total (E.drop i) = esz e + total (E.drop (i + 1)) := by
  obtain ⟨hi, he⟩ := List.getElem?_eq_some_iff.1 h
  rw [List.drop_eq_getElem_cons hi, he]; rfl
theorem total_drop_le (E : List (ByteArray × ByteArray)) (i : Nat) : total (E.drop i) ≤ total E := by
  have h := total_append (E.take i) (E.drop i)
  rw [List.take_append_drop] at h
  omega
theorem total_len (E : List (ByteArray × ByteArray)) : E.length * 32 ≤ total E := by
  induction E with
  | nil => simp
  | cons e r ih => simp [total, esz]; omega
/-- What is left when the oldest fall, until no more than n is there. -/
def fallen (n : Int) : List (ByteArray × ByteArray) → List (ByteArray × ByteArray)
  | [] => []
  | e :: r => if n < ((total (e :: r) : Nat) : Int) then fallen n r else e :: r
theorem fallen_stop {n : Int} {E : List (ByteArray × ByteArray)} {i : Nat} (h : ¬ n < ((total (E.drop i) : Nat) : Int)) : fallen n (E.drop i) = E.drop i := by
  cases hE : E.drop i with
  | nil => rfl
  | cons e r => rw [hE] at h; simp [fallen, h]
theorem fallen_next {n : Int} {E : List (ByteArray × ByteArray)} {i : Nat} (hi : i < E.length) (h : n < ((total (E.drop i) : Nat) : Int)) : fallen n (E.drop i) = fallen n (E.drop (i + 1)) := by
  rw [List.drop_eq_getElem_cons hi] at h ⊢
  rw [fallen, if_pos h]

/-- Three cells of an entry lie at a place of a row. -/
theorem row_cells {w : World} {g n cap : Nat} {cur : Array Value} {E : List (ByteArray × ByteArray)} (hg : w.heap[g]? = some (.cells cur 59 (0, 0))) (ht : cur.toList.take (E.length * 3) = cellsE E) {i : Nat} {e : ByteArray × ByteArray} (h : E[i]? = some e) :
    w.cell? ⟨g, i * 3, none⟩ = some (.string e.1) ∧ w.cell? ⟨g, i * 3 + 1, none⟩ = some (.string e.2) ∧ w.cell? ⟨g, i * 3 + 2, none⟩ = some (.bool false) := by
  have hi := (List.getElem?_eq_some_iff.1 h).1
  have key : ∀ j v, j < E.length * 3 → (cellsE E)[j]? = some v → cur[j]? = some v := fun j v hj hv => by
    rw [← ht, List.getElem?_take, if_pos hj] at hv
    rw [← Array.getElem?_toList]; exact hv
  obtain ⟨h0, h1, h2⟩ := cellsE_get h
  exact ⟨cell_of_heap hg (key _ _ (by omega) h0), cell_of_heap hg (key _ _ (by omega) h1), cell_of_heap hg (key _ _ (by omega) h2)⟩
theorem TabAt.laid {w : World} {t : Nat} {d : Bool} {m b : Nat} {v : Value} (h : TabAt w t d m b v) (o : Obj) : TabAt (w.alloc o) t d m b v := (Below.heap_alloc w o t h.lt).trans h
theorem TabAt.ne {w : World} {t g : Nat} {d : Bool} {m b : Nat} {v : Value} {cur : Array Value} {f : Nat × Nat} (h : TabAt w t d m b v) (hg : w.heap[g]? = some (.cells cur 59 f)) : g ≠ t := by
  intro e
  subst e
  rw [h] at hg
  cases hg
end Go.Proofs.Ytkipeifkfgbkeaa
/- The builtins copy and clear on rows of entries. -/
namespace Go.Proofs.Ytkipeifkfgbkeaa
open Go.RowKit
set_option maxRecDepth 100000
set_option maxHeartbeats 4000000
set_option linter.unusedVariables false

theorem fr_setRow (w : World) (g : Nat) (cs : Array Value) : Fr (fun k => k = g) w (w.setRow g cs) := Fr.setRow (S := fun k => k = g) (Fr.refl _ w) g (fun _ => rfl) cs
/-- copy within a row, from a later place to its head: what goes over lies at the head, the rest as it lay. -/
theorem step_copy_wide {P : Program} {ops : Array Oper} {o : Oper} {a : Act} {w : World} {K : Act → World → Prop} {Q : Exit → Act → World → Prop} {E : Prop} (hgd : o.guard = none) (d s : Operand) (dT sT : TypeId)
    (ho : o.op = .call { callee := .builtin .copy, args := #[d, s], argTypes := #[dT, sT] }) (elem : TypeId) (size : Nat) (hu : P.underlying dT = some (.slice elem)) (hsz : (P.info? elem).map (·.size) = some size)
    (g dLen dCap sLen sCap n : Nat) (sp : Option Addr) (hd : a.eval d = .slice (some ⟨g, 0, none⟩) dLen dCap) (hs : a.eval s = .slice sp sLen sCap) (hn : Nat.min sLen dLen = n)
    (cur : Array Value) (t : TypeId) (hg : w.heap[g]? = some (.cells cur t (0, 0))) (cs : List Value) (hl : cs.length = n * size)
    (hpos : 0 < n → ∃ ad, sp = some ad ∧ ∀ j v, cs[j]? = some v → w.cell? (ad.add j) = some v)
    (hfit : cs.length ≤ cur.size) (h1 : ∀ v ∈ cs, v.oneCell' = true)
    (h : ∀ w', Hid (w'.heap[g]? = some (.cells (cs ++ cur.toList.drop cs.length).toArray t (0, 0))) → Hid (Fr (fun k => k = g) w w') → K (a.put o.dst (goInt n)) w') :
    if Region.wanted o (yielded ops a.tmps) = true then Oper.wp P o a w K Q else E := by
  have hw : Region.wanted o (yielded ops a.tmps) = true := by simp [Region.wanted, hgd]
  rw [if_pos hw]
  obtain ⟨i, hi, his⟩ : ∃ i, P.info? elem = some i ∧ i.size = size := by
    cases hq : P.info? elem with
    | none => simp [hq] at hsz
    | some i => exact ⟨i, rfl, by simpa [hq] using hsz⟩
  have hst := run_storeCells_at P g 0 t cs 0 cur w hg (by simpa using hfit) h1
  have hfirst : (Builtin.firstCells size n (.slice sp sLen sCap)).run P w = .ok cs.toArray w := by
    by_cases h0 : n = 0
    · subst h0
      obtain rfl : cs = [] := List.eq_nil_of_length_eq_zero (by omega)
      cases sp with
      | none => simp [Builtin.firstCells]
      | some ad => exact run_firstCells_some w size 0 ad sLen sCap [] (by simp) (fun j v hv => by simp at hv)
    · obtain ⟨ad, rfl, hsrc⟩ := hpos (by omega)
      exact run_firstCells_some w size n ad sLen sCap cs hl hsrc
  have hrun : (Builtin.copy_ #[dT, sT] o.type #[.slice (some ⟨g, 0, none⟩) dLen dCap, .slice sp sLen sCap]).run P w = .ok (goInt n) (w.setRow g (cs ++ cur.toList.drop cs.length).toArray) := by
    simp only [List.take_zero, List.nil_append, Nat.zero_add, Nat.add_zero] at hst
    simp [Builtin.copy_, run_underlying hu, Builtin.lenOf, sizeOf, typeInfo, hi, his, hn, hfirst, hst]
  unfold Oper.wp
  simp [execOp, ho, resolve, invoke, builtin, hd, hs, hrun, Result.andThen]
  exact h _ (setRow_heap w g cur _ t _ hg) (fr_setRow w g _)
/-- clear of a row's end: its beginning lies as it lay. -/
theorem run_clear {P : Program} (w : World) (T ty elem : TypeId) (z : Value) (size : Nat) (hu : P.underlying T = some (.slice elem)) (hz : (zeroValue elem).run P w = .ok z w) (hzs : z.cells.size = size) (hz1 : ∀ n, ∀ v ∈ (Builtin.zeroCells z.cells n).toList, v.oneCell' = true)
    (q : Option Addr) (len cap : Nat) (g off : Nat) (cur : Array Value) (t : TypeId) (hg : w.heap[g]? = some (.cells cur t (0, 0))) (hpos : 0 < len → q = some ⟨g, off, none⟩) (hfit : off + len * size ≤ cur.size) :
    ∃ w' cur', (Builtin.clear_ #[T] ty #[.slice q len cap]).run P w = .ok (.tuple #[]) w' ∧ Hid (w'.heap[g]? = some (.cells cur' t (0, 0))) ∧ Hid (cur'.size = cur.size) ∧ Hid (cur'.toList.take off = cur.toList.take off) ∧ Hid (Fr (fun k => k = g) w w') := by
  by_cases h0 : len = 0
  · subst h0
    refine ⟨w, cur, ?_, hg, rfl, rfl, Fr.refl _ _⟩
    cases q <;> simp [Builtin.clear_, run_underlying hu]
  · obtain rfl := hpos (by omega)
    obtain ⟨zs, hzs2⟩ : ∃ zs, (Builtin.zeroCells z.cells len).toList = zs := ⟨_, rfl⟩
    have hzl : zs.length = len * size := by rw [← hzs2]; simp [Builtin.zeroCells, hzs]
    have hst := run_storeCells_at P g off t zs 0 cur w hg (by omega) (by rw [← hzs2]; exact hz1 len)
    refine ⟨w.setRow g (cur.toList.take (off + 0) ++ zs ++ cur.toList.drop (off + 0 + zs.length)).toArray, (cur.toList.take (off + 0) ++ zs ++ cur.toList.drop (off + 0 + zs.length)).toArray, ?_, setRow_heap w g cur _ t _ hg, ?_, ?_, fr_setRow w g _⟩
    · cases len with
      | zero => exact absurd rfl h0
      | succ k => simp [Builtin.clear_, run_underlying hu, hz, hzs2, hst]
    · show _ = _
      simp; omega
    · show (cur.toList.take (off + 0) ++ zs ++ cur.toList.drop (off + 0 + zs.length)).take off = cur.toList.take off
      rw [Nat.add_zero, List.append_assoc, List.take_append_of_le_length (by simp; omega), List.take_take, Nat.min_self]
end Go.Proofs.Ytkipeifkfgbkeaa
