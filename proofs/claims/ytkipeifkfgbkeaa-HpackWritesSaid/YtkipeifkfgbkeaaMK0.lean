/- The chapter's table of codes, as plain lists; what follows of it. -/
import Derived.WalkKit
import Derived.Test.YtkipeifkfgbkeaaRows
import Derived.Test.YtkipeifkfgbkeaaMA1
import Derived.OwnWalk
import Derived.RegionTactic
import Derived.BigQuiet
import Derived.Deep.QuietTactic
import Derived.WalkLawsBesides
import Derived.Deep.MidRow
import Derived.Deep.WholeRow
import Derived.Laws.ResultCell
import Derived.Deep.LoopGhost
namespace Go.Proofs.Ytkipeifkfgbkeaa
set_option maxRecDepth 100000

/-- The bytes whose codes have so many bits, in the order of their codes. -/
def tbl : List (Nat × List Nat) := [
  (5, [48, 49, 50, 97, 99, 101, 105, 111, 115, 116]),
  (6, [32, 37, 45, 46, 47, 51, 52, 53, 54, 55, 56, 57, 61, 65, 95, 98, 100, 102, 103, 104, 108, 109, 110, 112, 114, 117]),
  (7, [58, 66, 67, 68, 69, 70, 71, 72, 73, 74, 75, 76, 77, 78, 79, 80, 81, 82, 83, 84, 85, 86, 87, 89, 106, 107, 113, 118, 119, 120, 121, 122]),
  (8, [38, 42, 44, 59, 88, 90]),
  (10, [33, 34, 40, 41, 63]),
  (11, [39, 43, 124]),
  (12, [35, 62]),
  (13, [0, 36, 64, 91, 93, 126]),
  (14, [94, 125]),
  (15, [60, 96, 123]),
  (19, [92, 195, 208]),
  (20, [128, 130, 131, 162, 184, 194, 224, 226]),
  (21, [153, 161, 167, 172, 176, 177, 179, 209, 216, 217, 227, 229, 230]),
  (22, [129, 132, 133, 134, 136, 146, 154, 156, 160, 163, 164, 169, 170, 173, 178, 181, 185, 186, 187, 189, 190, 196, 198, 228, 232, 233]),
  (23, [1, 135, 137, 138, 139, 140, 141, 143, 147, 149, 150, 151, 152, 155, 157, 158, 165, 166, 168, 174, 175, 180, 182, 183, 188, 191, 197, 231, 239]),
  (24, [9, 142, 144, 145, 148, 159, 171, 206, 215, 225, 236, 237]),
  (25, [199, 207, 234, 235]),
  (26, [192, 193, 200, 201, 202, 205, 210, 213, 218, 219, 238, 240, 242, 243, 255]),
  (27, [203, 204, 211, 212, 214, 221, 222, 223, 241, 244, 245, 246, 247, 248, 250, 251, 252, 253, 254]),
  (28, [2, 3, 4, 5, 6, 7, 8, 11, 12, 14, 15, 16, 17, 18, 19, 20, 21, 23, 24, 25, 26, 27, 28, 29, 30, 31, 127, 220, 249]),
  (30, [10, 13, 22])]

/-- Bytes of numbers. -/
def u8s (l : List Nat) : List UInt8 := l.map UInt8.ofNat
def str8 (l : List Nat) : Value := .string ⟨(u8s l).toArray⟩
def rowCells (t : List (Nat × List Nat)) : List Value := t.flatMap fun r => [.int .i64 (r.1 : Int), str8 r.2]

/-- The codes told so far, a pair (word, bits) a symbol; and the next one's. -/
def fillRow (bt : Nat) (l : List Nat) (st : List (Nat × Nat) × Nat) : List (Nat × Nat) × Nat := l.foldl (fun st s => (st.1.set s (st.2, bt), st.2 + 1)) st
def stepRow (st : List (Nat × Nat) × Nat × Nat) (r : Nat × List Nat) : List (Nat × Nat) × Nat × Nat :=
  let f := fillRow r.1 r.2 (st.1, st.2.1 * 2 ^ (r.1 - st.2.2)); (f.1, f.2, r.1)
def noCodes : List (Nat × Nat) := List.replicate 257 (0, 0)
def stAt (k : Nat) : List (Nat × Nat) × Nat × Nat := (tbl.take k).foldl stepRow (noCodes, 0, 0)
/-- All codes. -/
def fin : List (Nat × Nat) := (stAt 21).1.set 256 ((stAt 21).2.1, (stAt 21).2.2)
def cellsP (L : List (Nat × Nat)) : List Value := L.flatMap fun p => [.int .u32 (p.1 : Int), .int .i64 (p.2 : Int)]
/-- A symbol's code: the word, and how many bits. -/
def codeOf (s : Nat) : Nat × Nat := fin.getD s (0, 0)

theorem fillRow_snoc (bt : Nat) (l : List Nat) (s : Nat) (st : List (Nat × Nat) × Nat) : fillRow bt (l ++ [s]) st = ((fillRow bt l st).1.set s ((fillRow bt l st).2, bt), (fillRow bt l st).2 + 1) := by simp [fillRow]
theorem fillRow_two (bt : Nat) (l : List Nat) : ∀ st, (fillRow bt l st).2 = st.2 + l.length := by
  induction l with
  | nil => intro st; simp [fillRow]
  | cons s l ih =>
    intro st
    have := ih (st.1.set s (st.2, bt), st.2 + 1)
    simp only [fillRow, List.foldl_cons, List.length_cons] at this ⊢
    omega
theorem fillRow_len (bt : Nat) (l : List Nat) : ∀ st, (fillRow bt l st).1.length = st.1.length := by
  induction l with
  | nil => intro st; simp [fillRow]
  | cons s l ih =>
    intro st
    have := ih (st.1.set s (st.2, bt), st.2 + 1)
    simp only [fillRow, List.foldl_cons, List.length_set] at this ⊢
    exact this
theorem stAt_succ (k : Nat) (r : Nat × List Nat) (h : tbl[k]? = some r) : stAt (k + 1) = stepRow (stAt k) r := by
  simp [stAt, List.take_add_one, h]
theorem stAt_len (k : Nat) : (stAt k).1.length = 257 := by
  unfold stAt
  generalize tbl.take k = t
  suffices h : ∀ st : List (Nat × Nat) × Nat × Nat, st.1.length = 257 → (t.foldl stepRow st).1.length = 257 from h _ (by simp [noCodes])
  induction t with
  | nil => intro st h; exact h
  | cons r t ih => intro st h; exact ih _ (by simp [stepRow, fillRow_len, h])

/-- What bounds the codes of each row. -/
theorem row_facts : ∀ k < 21, ∃ r, tbl[k]? = some r ∧ (stAt k).2.2 ≤ r.1 ∧ r.1 - (stAt k).2.2 ≤ 5 ∧ r.1 ≤ 30 ∧ (stAt k).2.1 * 2 ^ (r.1 - (stAt k).2.2) + r.2.length < 1073741824 ∧ (stAt k).2.1 < 1073741824 ∧ r.2.length ≤ 32 ∧ (∀ s ∈ r.2, s < 256) := by
  decide +kernel
theorem fin_len : fin.length = 257 := by simp [fin, stAt_len]

theorem cellsP_len (L : List (Nat × Nat)) : (cellsP L).length = 2 * L.length := by
  induction L with
  | nil => rfl
  | cons p L ih => simp [cellsP] at ih ⊢; omega
theorem cellsP_get (L : List (Nat × Nat)) : ∀ s p, L[s]? = some p → (cellsP L)[s * 2]? = some (.int .u32 (p.1 : Int)) ∧ (cellsP L)[s * 2 + 1]? = some (.int .i64 (p.2 : Int)) := by
  induction L with
  | nil => intro s p h; simp at h
  | cons q L ih =>
    intro s p h
    cases s with
    | zero => simp at h; subst h; simp [cellsP]
    | succ s =>
      have := ih s p (by simpa using h)
      simp only [cellsP, List.flatMap_cons] at this ⊢
      rw [show (s + 1) * 2 = s * 2 + 2 from by omega, show s * 2 + 2 + 1 = s * 2 + 1 + 2 from by omega]
      simpa using this
theorem cellsP_set (L : List (Nat × Nat)) : ∀ s p, ((cellsP L).set (s * 2) (.int .u32 (p.1 : Int))).set (s * 2 + 1) (.int .i64 (p.2 : Int)) = cellsP (L.set s p) := by
  induction L with
  | nil => intro s p; simp [cellsP]
  | cons q L ih =>
    intro s p
    cases s with
    | zero => simp [cellsP]
    | succ s =>
      have := ih s p
      simp only [cellsP, List.flatMap_cons, List.set_cons_succ] at this ⊢
      rw [show (s + 1) * 2 = s * 2 + 2 from by omega, show s * 2 + 2 + 1 = s * 2 + 1 + 2 from by omega]
      simpa using this
theorem cellsP_one (L : List (Nat × Nat)) : ∀ v ∈ cellsP L, v.oneCell' = true := by
  intro v hv
  simp [cellsP] at hv
  obtain ⟨a, b, _, h | h⟩ := hv <;> subst h <;> rfl
theorem rowCells_get (t : List (Nat × List Nat)) : ∀ k r, t[k]? = some r → (rowCells t)[k * 2]? = some (.int .i64 (r.1 : Int)) ∧ (rowCells t)[k * 2 + 1]? = some (str8 r.2) := by
  induction t with
  | nil => intro s p h; simp at h
  | cons q L ih =>
    intro s p h
    cases s with
    | zero => simp at h; subst h; simp [rowCells]
    | succ s =>
      have := ih s p (by simpa using h)
      simp only [rowCells, List.flatMap_cons] at this ⊢
      rw [show (s + 1) * 2 = s * 2 + 2 from by omega, show s * 2 + 2 + 1 = s * 2 + 1 + 2 from by omega]
      simpa using this

end Go.Proofs.Ytkipeifkfgbkeaa
/- Contract of huff.rows. -/
namespace Go.Proofs.Ytkipeifkfgbkeaa
open Go.RowKit
set_option maxRecDepth 100000
set_option maxHeartbeats 4000000

theorem rows_any (w : World) : Calls Try.prog 61 #[] w fun e w' => e = .returned (.slice (some ⟨w.heap.size, 0, none⟩) 21 21) ∧ w' = w.alloc (.cells (rowCells tbl).toArray 108) := by
  go_enter Try.func61, Try.ntmps61
  go_wp2
  go_ret
  exact ⟨rfl, rfl⟩

end Go.Proofs.Ytkipeifkfgbkeaa
/- Where huff.codes stands in memory. -/
namespace Go.Proofs.Ytkipeifkfgbkeaa
open Go.RowKit
set_option maxRecDepth 100000
set_option maxHeartbeats 4000000
set_option linter.unusedVariables false

structure CS (w wr : World) (L : List (Nat × Nat)) (wd bt : Nat) : Prop where
  fr : Fr (fun k => w.heap.size ≤ k) w wr
  sz : w.heap.size + 4 ≤ wr.heap.size
  res : wr.heap[w.heap.size]? = some (.cells (cellsP (noCodes)).toArray 97 (0, 0))
  all : wr.heap[w.heap.size + 1]? = some (.cells (cellsP L).toArray 97 (0, 0))
  nx : wr.heap[w.heap.size + 1 + 1]? = some (.cells #[.int .u32 (wd : Int), .int .i64 (bt : Int)] 96 (0, 0))
  rw : wr.heap[w.heap.size + 1 + 1 + 1]? = some (.cells (rowCells tbl).toArray 108 (0, 0))

theorem zero_codes : (∀ w, (zeroValue 97).run Try.prog w = .ok (.agg (cellsP (noCodes)).toArray) w) ∧ (Try.prog.info? 97).map (·.size) = some 514 :=
  zero_of_info (by kernel_rfl)

theorem last_at {w : World} {n : Nat} (o : Obj) (h : w.heap.size = n) : (w.alloc o).heap[n]? = some o := by
  subst h; exact heap_alloc_last w o
theorem past_at {w : World} {n : Nat} (o : Obj) {x : Obj} (h : w.heap[n]? = some x) : (w.alloc o).heap[n]? = some x := by
  rw [Below.heap_alloc _ _ _ (lt_of_heap h)]; exact h

theorem CS.start (w : World) : CS w ((((w.alloc (.cells (cellsP noCodes).toArray 97)).alloc (.cells (cellsP noCodes).toArray 97)).alloc (.cells #[.int .u32 0, .int .i64 0] 96)).alloc (.cells (rowCells tbl).toArray 108)) (stAt 0).1 (stAt 0).2.1 (stAt 0).2.2 :=
  ⟨((((Fr.refl _ w).alloc _).alloc _).alloc _).alloc _, by simp, past_at _ (past_at _ (past_at _ (last_at _ rfl))), past_at _ (past_at _ (last_at _ (by simp))), past_at _ (last_at _ (by simp)), last_at _ (by simp)⟩

theorem CS.alloc {w wr : World} {L : List (Nat × Nat)} {wd bt : Nat} (h : CS w wr L wd bt) (o : Obj) : CS w (wr.alloc o) L wd bt :=
  ⟨h.fr.alloc o, by have := h.sz; simp; omega, past_at _ h.res, past_at _ h.all, past_at _ h.nx, past_at _ h.rw⟩
theorem CS.drew {w wr : World} {L : List (Nat × Nat)} {wd bt : Nat} (h : CS w wr L wd bt) : CS w wr.drew L wd bt :=
  ⟨h.fr.drew, h.sz, h.res, h.all, h.nx, h.rw⟩
theorem CS.drewN {w wr : World} {L : List (Nat × Nat)} {wd bt : Nat} (h : CS w wr L wd bt) (n : Nat) : CS w (wr.drewN n) L wd bt :=
  ⟨h.fr.drewN n, h.sz, h.res, h.all, h.nx, h.rw⟩
theorem CS.word {w wr : World} {L : List (Nat × Nat)} {wd bt : Nat} (h : CS w wr L wd bt) (wd' : Nat) : CS w (wr.setCell ⟨w.heap.size + 1 + 1, 0, none⟩ (.int .u32 (wd' : Int))) L wd' bt :=
  ⟨h.fr.setS (by omega) _ _, by simpa using h.sz, by rw [Below.heap_setCell _ _ _ _ (by simp; omega)]; exact h.res, by rw [Below.heap_setCell _ _ _ _ (by simp)]; exact h.all,
    by rw [heap_setCell_same _ _ _ _ _ _ h.nx]; rfl, by rw [Below.heap_setCell _ _ _ _ (by simp)]; exact h.rw⟩
theorem CS.bits {w wr : World} {L : List (Nat × Nat)} {wd bt : Nat} (h : CS w wr L wd bt) (bt' : Nat) : CS w (wr.setCell ⟨w.heap.size + 1 + 1, 1, none⟩ (.int .i64 (bt' : Int))) L wd bt' :=
  ⟨h.fr.setS (by omega) _ _, by simpa using h.sz, by rw [Below.heap_setCell _ _ _ _ (by simp; omega)]; exact h.res, by rw [Below.heap_setCell _ _ _ _ (by simp)]; exact h.all,
    by rw [heap_setCell_same _ _ _ _ _ _ h.nx]; rfl, by rw [Below.heap_setCell _ _ _ _ (by simp)]; exact h.rw⟩
theorem CS.put {w wr : World} {L : List (Nat × Nat)} {wd bt : Nat} (h : CS w wr L wd bt) (s a b : Nat) :
    CS w ((wr.setCell ⟨w.heap.size + 1, s * 2, none⟩ (.int .u32 (a : Int))).setCell ⟨w.heap.size + 1, s * 2 + 1, none⟩ (.int .i64 (b : Int))) (L.set s (a, b)) wd bt :=
  ⟨(h.fr.setS (by omega) _ _).setS (by omega) _ _, by simpa using h.sz,
    by rw [Below.heap_setCell _ _ _ _ (by simp), Below.heap_setCell _ _ _ _ (by simp)]; exact h.res,
    by rw [heap_setCell_same _ _ _ _ _ _ (heap_setCell_same _ _ _ _ _ _ h.all), ← cellsP_set L s (a, b)]; simp,
    by rw [Below.heap_setCell _ _ _ _ (by simp), Below.heap_setCell _ _ _ _ (by simp)]; exact h.nx,
    by rw [Below.heap_setCell _ _ _ _ (by simp; omega), Below.heap_setCell _ _ _ _ (by simp; omega)]; exact h.rw⟩

end Go.Proofs.Ytkipeifkfgbkeaa
