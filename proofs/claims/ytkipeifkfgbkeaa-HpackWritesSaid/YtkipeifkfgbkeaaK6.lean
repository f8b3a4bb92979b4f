/- Contract of huff.Length. -/
import Derived.Test.YtkipeifkfgbkeaaK4
import Derived.Test.YtkipeifkfgbkeaaK5
namespace Go.Proofs.Ytkipeifkfgbkeaa
open Go.RowKit
set_option maxRecDepth 100000
set_option maxHeartbeats 4000000
set_option linter.unusedVariables false

/-- How many bits the codes of bytes have together. -/
def sumBits (X : List UInt8) : Nat := (X.map fun c => (codeOf c.toNat).2).sum
theorem sumBits_snoc (X : List UInt8) (c : UInt8) : sumBits (X ++ [c]) = sumBits X + (codeOf c.toNat).2 := by simp [sumBits]
theorem byte_le (c : UInt8) : c.toNat ≤ 256 := by have := UInt8.toNat_lt c; omega
theorem sumBits_le (X : List UInt8) : 5 * X.length ≤ sumBits X ∧ sumBits X ≤ 30 * X.length := by
  induction X with
  | nil => simp [sumBits]
  | cons c X ih =>
    have h := code_size c.toNat (byte_le c)
    simp only [sumBits, List.map_cons, List.sum_cons, List.length_cons] at ih ⊢
    omega
theorem sumBits_take (X : List UInt8) (k : Nat) : sumBits (X.take k) ≤ 30 * X.length := by
  have := (sumBits_le (X.take k)).2
  have h : (X.take k).length ≤ X.length := by simp [List.length_take]; omega
  omega
theorem src_at {w : World} {sp : Option Addr} {X : List UInt8} (h : SrcAt w sp X) (j : Nat) (hj : j < X.length) : ∃ ad x, sp = some ad ∧ X[j]? = some x ∧ w.cell? (ad.add j) = some (.int .u8 x.toNat) := by
  obtain ⟨ad, h1, h2⟩ := h j _ (List.getElem?_eq_getElem hj)
  exact ⟨ad, _, h1, List.getElem?_eq_getElem hj, h2⟩
/-- The cell of a symbol's code in a block that holds all codes. -/
theorem code_cell {w : World} {n : Nat} (h : w.rangeAt n 0 (cellsP fin)) (x : UInt8) : w.cell? ⟨n, x.toNat * 2, none⟩ = some (.int .u32 ((codeOf x.toNat).1 : Int)) ∧ w.cell? ⟨n, x.toNat * 2 + 1, none⟩ = some (.int .i64 ((codeOf x.toNat).2 : Int)) := by
  have hg := cellsP_get fin x.toNat _ (code_get x.toNat (byte_le x))
  have a := h _ _ hg.1
  have b := h _ _ hg.2
  rw [Nat.zero_add] at a b
  exact ⟨a, b⟩
/-- All that is asked of the table of codes, its cells under a name. -/
theorem opened : ∃ A Z : List Value, (∀ w, (zeroValue 97).run Try.prog w = .ok (.agg Z.toArray) w) ∧ (∀ w, Calls Try.prog 58 #[] w fun e w' => e = .returned (.agg A.toArray) ∧ Fr (fun _ => False) w w') ∧
    (Try.prog.info? 97).map (·.size) = some A.toArray.size ∧ A.toArray.all (·.oneCell') = true ∧ A.toArray.size ≤ Z.toArray.size ∧
    (∀ (w : World) n, w.rangeAt n 0 A → ∀ x : UInt8, w.cell? ⟨n, x.toNat * 2, none⟩ = some (.int .u32 ((codeOf x.toNat).1 : Int)) ∧ w.cell? ⟨n, x.toNat * 2 + 1, none⟩ = some (.int .i64 ((codeOf x.toNat).2 : Int))) :=
  ⟨cellsP fin, cellsP noCodes, zero_codes.1, fun w => (codes_any w).mono fun e w' h => ⟨h.1, h.2.old⟩, by rw [zero_codes.2, List.size_toArray, cellsP_len, fin_len], all_oneCell_toArray (cellsP_one fin),
    Nat.le_of_eq (by rw [List.size_toArray, List.size_toArray, cellsP_len, cellsP_len, fin_len]; rfl), fun w n h x => code_cell h x⟩
/-- A block of its own for the table of codes. -/
theorem laid_at (w : World) (A Z : List Value) (h : A.toArray.size ≤ Z.toArray.size) : Fr (fun _ => False) w ((w.alloc (.cells Z.toArray 97)).setCells w.heap.size 0 A) ∧ ((w.alloc (.cells Z.toArray 97)).setCells w.heap.size 0 A).rangeAt w.heap.size 0 A ∧ (w.alloc (.cells Z.toArray 97)).there w.heap.size 0 A.toArray.size :=
  ⟨Fr.old (Fr.setCells (by simp) _ _ ((Fr.refl _ w).alloc _)), World.rangeAt_setCells_same _ _ _ _ (there_of_heap (last_at _ rfl) (by simpa using h)), there_of_heap (last_at _ rfl) h⟩

theorem length_any (a : Option Addr) (len cap : Nat) (w : World) (X : List UInt8) (hs : SrcAt w a X) (hl : X.length = len) (hm : len ≤ 140737488355328) :
    Calls Try.prog 53 #[.slice a len cap] w fun e w' => e = .returned (.int .i64 (((sumBits X + 7) / 8 : Nat) : Int)) ∧ Fr (fun _ => False) w w' := by
  obtain ⟨A, Z, hz, hcodes, hi, h1, hlen, hcell⟩ := opened
  have HI : Hid ((Try.prog.info? 97).map (·.size) = some A.toArray.size) := hi
  have H1 : Hid (A.toArray.all (·.oneCell') = true) := h1
  have HC : Hid (∀ w, Calls Try.prog 58 #[] w fun e w' => e = .returned (.agg A.toArray) ∧ Fr (fun _ => False) w w') := hcodes
  have HL : Hid (A.toArray.size ≤ Z.toArray.size) := hlen
  have HCE : Hid (∀ (w : World) n, w.rangeAt n 0 A → ∀ x : UInt8, w.cell? ⟨n, x.toNat * 2, none⟩ = some (.int .u32 ((codeOf x.toNat).1 : Int)) ∧ w.cell? ⟨n, x.toNat * 2 + 1, none⟩ = some (.int .i64 ((codeOf x.toNat).2 : Int))) := hcell
  have HS : Hid (SrcAt w a X) := hs
  clear hs hi h1 hcodes hlen hcell
  go_enter Try.func53, Try.ntmps53
  go_wp2_with (fail)
  refine (HC.out w).mono ?_
  rintro e w1 ⟨rfl, hf⟩
  have HT := laid_at w1 A Z HL.out
  have HF1 : Hid (Fr (fun _ => False) w w1) := hf
  clear hf
  obtain ⟨t1, t2, t3⟩ := HT
  have T2 : Hid (_ ∧ _) := ⟨t1, t2⟩
  have T3 : Hid ((w1.alloc (.cells Z.toArray 97)).there w1.heap.size 0 A.toArray.size) := t3
  clear t1 t2 t3
  go_wp2_with (refine wpList_store_mid rfl 97 (.tmp 3) (.tmp 7) rfl w1.heap.size 0 A.toArray rfl rfl T3.out HI.out H1.out ?_)
  generalize hW : (w1.alloc (Obj.cells Z.toArray 97)).setCells w1.heap.size 0 A = W3 at *
  have HF : Hid (Fr (fun _ => False) w W3) := HF1.out.trans T2.out.1
  have HR : Hid (W3.rangeAt w1.heap.size 0 A) := T2.out.2
  have HSS : Hid (SrcAt W3 a X) := HS.out.fr HF.out (fun _ _ _ => id)
  clear T2 T3 hW HF1 HS hz HI H1 HC HL
  go_loop [4, 10] (fun vb vi => ∃ k : Nat, k ≤ len ∧ vi = .int .i64 k ∧ vb = .int .i64 (sumBits (X.take k) : Nat)) (fun _ vi => len - (intOf vi).toNat)
  case atStart => exact ⟨0, by omega, rfl, rfl⟩
  case round =>
    obtain ⟨k, hk, rfl, rfl⟩ := hrel
    by_cases hlt : k < len
    · have hci : (k : Int) < len := by omega
      obtain ⟨ad, x, rfl, hx, hc⟩ := src_at HSS.out k (by omega)
      have hb := sumBits_take X k
      have hsz := code_size x.toNat (byte_le x)
      have hg := (HCE.out W3 _ HR.out x).2
      have hx7 : (x.toNat : Int) < 257 := by have := UInt8.toNat_lt x; omega
      obtain ⟨n, hn⟩ : ∃ n, n = (codeOf x.toNat).2 := ⟨_, rfl⟩
      obtain ⟨sb, hsb⟩ : ∃ sb, sb = sumBits (X.take k) := ⟨_, rfl⟩
      rw [← hn] at hg hsz
      rw [← hsb] at hb ⊢
      obtain ⟨hz1, hz2, hz3⟩ := hsz
      have HN : Hid (n = (codeOf x.toNat).2) := hn
      have HSB : Hid (sb = sumBits (X.take k)) := hsb
      have HX : Hid (X[k]? = some x) := hx
      have hb2 : (sb : Int) + n < 9223372036854775808 := by omega
      clear hz3 hn hsb hx
      go_wp2
      go_round
      case rel =>
        refine ⟨k + 1, by omega, by go_num, ?_⟩
        rw [List.take_add_one, HX.out]
        simp only [Option.toList]
        rw [sumBits_snoc, ← HN.out, ← HSB.out]
        go_num
      case measure => simp [intOf]; omega
    · obtain rfl : k = len := by omega
      have hci : ¬ (k : Int) < k := by omega
      rw [← hl, List.take_length, hl]
      have hb := (sumBits_le X).2
      obtain ⟨sb, hsb⟩ : ∃ sb, sb = sumBits X := ⟨_, rfl⟩
      rw [← hsb] at hb ⊢
      have HSB : Hid (sb = sumBits X) := hsb
      clear hsb
      go_wp2
      go_ret
      exact ⟨by rw [← HSB.out]; simp, HF.out⟩

end Go.Proofs.Ytkipeifkfgbkeaa
