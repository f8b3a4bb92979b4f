/- Contract of huff.Length. -/
import Derived.Test.YtcmdhdpedonihaaK4
import Derived.Test.YtcmdhdpedonihaaK5
namespace Go.Proofs.Ytcmdhdpedonihaa
open Go.RowKit
set_option maxRecDepth 100000
set_option maxHeartbeats 4000000
set_option linter.unusedVariables false

/-- How many bits the codes of bytes have together. -/
def sumBits (X : List UInt8) : Nat := (X.map fun c => (codeOf c.toNat).2).sum
theorem sumBits_snoc (X : List UInt8) (c : UInt8) : sumBits (X ++ [c]) = sumBits X + (codeOf c.toNat).2 := by simp [sumBits]
theorem byte_le (c : UInt8) : c.toNat ≤ 256 := by have := UInt8.toNat_lt c; omega
theorem sumBits_le (X : List UInt8) : 5 * X.length ≤ sumBits X ∧ sumBits X ≤ 30 * X.length := by
  induction X with
  | nil => simp [sumBits]
  | cons c X ih =>
    have h := code_size c.toNat (byte_le c)
    simp only [sumBits, List.map_cons, List.sum_cons, List.length_cons] at ih ⊢
    omega
theorem sumBits_take (X : List UInt8) (k : Nat) : sumBits (X.take k) ≤ 30 * X.length := by
  have := (sumBits_le (X.take k)).2
  have h : (X.take k).length ≤ X.length := by simp [List.length_take]; omega
  omega
theorem src_at {w : World} {sp : Option Addr} {X : List UInt8} (h : SrcAt w sp X) (j : Nat) (hj : j < X.length) : ∃ ad x, sp = some ad ∧ X[j]? = some x ∧ w.cell? (ad.add j) = some (.int .u8 x.toNat) := by
  obtain ⟨ad, h1, h2⟩ := h j _ (List.getElem?_eq_getElem hj)
  exact ⟨ad, _, h1, List.getElem?_eq_getElem hj, h2⟩
/-- The cell of a symbol's code in a block that holds all codes. -/
theorem code_cell {w : World} {n : Nat} (h : w.rangeAt n 0 (cellsP fin)) (x : UInt8) : w.cell? ⟨n, x.toNat * 2, none⟩ = some (.int .u32 ((codeOf x.toNat).1 : Int)) ∧ w.cell? ⟨n, x.toNat * 2 + 1, none⟩ = some (.int .i64 ((codeOf x.toNat).2 : Int)) := by
  have hg := cellsP_get fin x.toNat _ (code_get x.toNat (byte_le x))
  have a := h _ _ hg.1
  have b := h _ _ hg.2
  rw [Nat.zero_add] at a b
  exact ⟨a, b⟩
/-- All that is asked of the table of codes, its cells under a name. -/
theorem opened : ∃ A Z : List Value, (∀ w, (zeroValue 55).run Try.prog w = .ok (.agg Z.toArray) w) ∧ (∀ w, Calls Try.prog 15 #[] w fun e w' => e = .returned (.agg A.toArray) ∧ Fr (fun _ => False) w w') ∧
    (Try.prog.info? 55).map (·.size) = some A.toArray.size ∧ A.toArray.all (·.oneCell') = true ∧ A.toArray.size ≤ Z.toArray.size ∧
    (∀ (w : World) n, w.rangeAt n 0 A → ∀ x : UInt8, w.cell? ⟨n, x.toNat * 2, none⟩ = some (.int .u32 ((codeOf x.toNat).1 : Int)) ∧ w.cell? ⟨n, x.toNat * 2 + 1, none⟩ = some (.int .i64 ((codeOf x.toNat).2 : Int))) :=
  ⟨cellsP fin, cellsP noCodes, zero_codes.1, fun w => (codes_any w).mono fun e w' h => ⟨h.1, h.2.old⟩, by rw [zero_codes.2, List.size_toArray, cellsP_len, fin_len], all_oneCell_toArray (cellsP_one fin),
    Nat.le_of_eq (by rw [List.size_toArray, List.size_toArray, cellsP_len, cellsP_len, fin_len]; rfl), fun w n h x => code_cell h x⟩
/-- A block of its own for the table of codes. -/
theorem laid_at (w : World) (A Z : List Value) (h : A.toArray.size ≤ Z.toArray.size) : Fr (fun _ => False) w ((w.alloc (.cells Z.toArray 55)).setCells w.heap.size 0 A) ∧ ((w.alloc (.cells Z.toArray 55)).setCells w.heap.size 0 A).rangeAt w.heap.size 0 A ∧ (w.alloc (.cells Z.toArray 55)).there w.heap.size 0 A.toArray.size :=
  ⟨Fr.old (Fr.setCells (by simp) _ _ ((Fr.refl _ w).alloc _)), World.rangeAt_setCells_same _ _ _ _ (there_of_heap (last_at _ rfl) (by simpa using h)), there_of_heap (last_at _ rfl) h⟩

end Go.Proofs.Ytcmdhdpedonihaa
