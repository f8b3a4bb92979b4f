/- Contracts of the document's readers (aqueductref02.number). -/
import Derived.Test.YtikaefjhmgcidaaFU1
namespace Go.Proofs.Ytikaefjhmgcidaa
open Go.RowKit
set_option linter.unusedVariables false

theorem number2_arg (a : Option Addr) (len cap : Nat) (p : Int) (w : World) (h : p < 0 ∨ (len : Int) < p) :
    Calls Try.prog 57 #[.slice a len cap, .int .i64 p, .int .i64 2] w fun e w' => e = .returned (.tuple #[.int .u64 0, .int .i64 0, .int .i64 1]) ∧ w' = w := by
  rcases h with h | h
  · go_enter Try.func57, Try.ntmps57
    go_wp2
    go_ret3
    exact ⟨rfl, rfl⟩
  · by_cases h0 : p < 0
    · go_enter Try.func57, Try.ntmps57
      go_wp2
      go_ret3
      exact ⟨rfl, rfl⟩
    · go_enter Try.func57, Try.ntmps57
      go_wp2
      go_ret3
      exact ⟨rfl, rfl⟩

theorem number2_short (a : Option Addr) (len cap p : Nat) (w : World) (hm : len ≤ 9223372036854775807) (h : p ≤ len) (h' : len < p + 2) :
    Calls Try.prog 57 #[.slice a len cap, .int .i64 p, .int .i64 2] w fun e w' => e = .returned (.tuple #[.int .u64 0, .int .i64 len, .int .i64 3]) ∧ w' = w := by
  go_enter Try.func57, Try.ntmps57
  go_wp2
  go_ret3
  exact ⟨rfl, rfl⟩

theorem number2_ok (ad : Addr) (len cap : Nat) (p : Nat) (w : World) (x0 x1 : UInt8) (h : p + 2 ≤ len) (hm : len ≤ 9223372036854775807) (h0 : w.cell? (ad.add p) = some (.int .u8 x0.toNat)) (h1 : w.cell? (ad.add (p + 1)) = some (.int .u8 x1.toNat)) :
    Calls Try.prog 57 #[.slice (some ad) len cap, .int .i64 p, .int .i64 2] w fun e w' => e = .returned (.tuple #[.int .u64 ((x0.toNat : Int) * 256 + x1.toNat), .int .i64 (p + 2 : Nat), .int .i64 0]) ∧ w' = w := by
  have u0 : x0.toNat < 256 := x0.toNat_lt
  have u1 : x1.toNat < 256 := x1.toNat_lt
  have k1 : w.cell? ⟨ad.block, ad.off + (p + 1), none⟩ = some (.int .u8 x1.toNat) := h1
  clear h1
  go_enter Try.func57, Try.ntmps57
  go_wp2
  refine wp_loop_rounds 3 ?_
  rw [rounds_succ]
  go_wp2
  rw [rounds_succ]
  go_wp2
  rw [rounds_succ]
  go_wp2
  go_ret3
  refine ⟨?_, rfl⟩
  simp

theorem number2_any (a : Option Addr) (len cap : Nat) (p : Int) (w : World) (X : List UInt8) (hs : SrcAt w a X) (hl : X.length = len) (hm : len ≤ 9223372036854775807) :
    Calls Try.prog 57 #[.slice a len cap, .int .i64 p, .int .i64 2] w fun e w' => e = .returned (.tuple #[.int .u64 (readOut 2 X p).1, .int .i64 (readOut 2 X p).2.1, .int .i64 (readOut 2 X p).2.2]) ∧ w' = w := by
  subst hl
  by_cases h1 : p < 0 ∨ (X.length : Int) < p
  · rw [show readOut 2 X p = (0, 0, 1) by simp only [readOut, if_pos h1]]
    exact number2_arg a _ cap p w h1
  · obtain ⟨q, rfl⟩ : ∃ q : Nat, p = q := ⟨p.toNat, by omega⟩
    by_cases h2 : (X.length : Int) - q < 2
    · rw [show readOut 2 X q = (0, (X.length : Int), 3) by rw [readOut, if_neg h1, if_pos (by simpa using h2)]]
      exact number2_short a _ cap q w hm (by omega) (by omega)
    · have hx : ∀ i, i < 2 → X[q + i]? = some (X[q + i]?.getD 0) := fun i hi => by
        rw [List.getElem?_eq_getElem (by omega)]; rfl
      obtain ⟨ad, rfl, -⟩ := hs _ _ (hx 0 (by omega))
      have hn : (X.drop q).take 2 = [X[q + 0]?.getD 0, X[q + 1]?.getD 0] := by
        apply List.ext_getElem?
        intro i
        by_cases hi : i < 2
        · rw [List.getElem?_take_of_lt hi, List.getElem?_drop, hx i hi]
          obtain rfl | rfl : i = 0 ∨ i = 1 := by omega
          all_goals rfl
        · rw [List.getElem?_eq_none (by simp; omega), List.getElem?_eq_none (by simp; omega)]
      rw [show readOut 2 X q = (num [X[q + 0]?.getD 0, X[q + 1]?.getD 0], ((q + 2 : Nat) : Int), 0) by rw [readOut, if_neg h1, if_neg (by simpa using h2)]; simp only [Int.toNat_natCast, hn]; simp]
      refine (number2_ok ad X.length cap q w (X[q + 0]?.getD 0) (X[q + 1]?.getD 0) (by omega) hm (src_cell hs _ _ (hx 0 (by omega))) (src_cell hs _ _ (hx 1 (by omega)))).mono ?_
      rintro e w' ⟨rfl, rfl⟩
      refine ⟨?_, rfl⟩
      simp [num]

theorem number3_arg (a : Option Addr) (len cap : Nat) (p : Int) (w : World) (h : p < 0 ∨ (len : Int) < p) :
    Calls Try.prog 57 #[.slice a len cap, .int .i64 p, .int .i64 3] w fun e w' => e = .returned (.tuple #[.int .u64 0, .int .i64 0, .int .i64 1]) ∧ w' = w := by
  rcases h with h | h
  · go_enter Try.func57, Try.ntmps57
    go_wp2
    go_ret3
    exact ⟨rfl, rfl⟩
  · by_cases h0 : p < 0
    · go_enter Try.func57, Try.ntmps57
      go_wp2
      go_ret3
      exact ⟨rfl, rfl⟩
    · go_enter Try.func57, Try.ntmps57
      go_wp2
      go_ret3
      exact ⟨rfl, rfl⟩

theorem number3_short (a : Option Addr) (len cap p : Nat) (w : World) (hm : len ≤ 9223372036854775807) (h : p ≤ len) (h' : len < p + 3) :
    Calls Try.prog 57 #[.slice a len cap, .int .i64 p, .int .i64 3] w fun e w' => e = .returned (.tuple #[.int .u64 0, .int .i64 len, .int .i64 3]) ∧ w' = w := by
  go_enter Try.func57, Try.ntmps57
  go_wp2
  go_ret3
  exact ⟨rfl, rfl⟩

theorem number3_ok (ad : Addr) (len cap : Nat) (p : Nat) (w : World) (x0 x1 x2 : UInt8) (h : p + 3 ≤ len) (hm : len ≤ 9223372036854775807) (h0 : w.cell? (ad.add p) = some (.int .u8 x0.toNat)) (h1 : w.cell? (ad.add (p + 1)) = some (.int .u8 x1.toNat)) (h2 : w.cell? (ad.add (p + 2)) = some (.int .u8 x2.toNat)) :
    Calls Try.prog 57 #[.slice (some ad) len cap, .int .i64 p, .int .i64 3] w fun e w' => e = .returned (.tuple #[.int .u64 (((x0.toNat : Int) * 256 + x1.toNat) * 256 + x2.toNat), .int .i64 (p + 3 : Nat), .int .i64 0]) ∧ w' = w := by
  have u0 : x0.toNat < 256 := x0.toNat_lt
  have u1 : x1.toNat < 256 := x1.toNat_lt
  have k1 : w.cell? ⟨ad.block, ad.off + (p + 1), none⟩ = some (.int .u8 x1.toNat) := h1
  clear h1
  have u2 : x2.toNat < 256 := x2.toNat_lt
  have k2 : w.cell? ⟨ad.block, ad.off + (p + 2), none⟩ = some (.int .u8 x2.toNat) := h2
  clear h2
  go_enter Try.func57, Try.ntmps57
  go_wp2
  refine wp_loop_rounds 4 ?_
  rw [rounds_succ]
  go_wp2
  rw [rounds_succ]
  go_wp2
  rw [rounds_succ]
  go_wp2
  rw [rounds_succ]
  go_wp2
  go_ret3
  refine ⟨?_, rfl⟩
  simp

theorem number3_any (a : Option Addr) (len cap : Nat) (p : Int) (w : World) (X : List UInt8) (hs : SrcAt w a X) (hl : X.length = len) (hm : len ≤ 9223372036854775807) :
    Calls Try.prog 57 #[.slice a len cap, .int .i64 p, .int .i64 3] w fun e w' => e = .returned (.tuple #[.int .u64 (readOut 3 X p).1, .int .i64 (readOut 3 X p).2.1, .int .i64 (readOut 3 X p).2.2]) ∧ w' = w := by
  subst hl
  by_cases h1 : p < 0 ∨ (X.length : Int) < p
  · rw [show readOut 3 X p = (0, 0, 1) by simp only [readOut, if_pos h1]]
    exact number3_arg a _ cap p w h1
  · obtain ⟨q, rfl⟩ : ∃ q : Nat, p = q := ⟨p.toNat, by omega⟩
    by_cases h2 : (X.length : Int) - q < 3
    · rw [show readOut 3 X q = (0, (X.length : Int), 3) by rw [readOut, if_neg h1, if_pos (by simpa using h2)]]
      exact number3_short a _ cap q w hm (by omega) (by omega)
    · have hx : ∀ i, i < 3 → X[q + i]? = some (X[q + i]?.getD 0) := fun i hi => by
        rw [List.getElem?_eq_getElem (by omega)]; rfl
      obtain ⟨ad, rfl, -⟩ := hs _ _ (hx 0 (by omega))
      have hn : (X.drop q).take 3 = [X[q + 0]?.getD 0, X[q + 1]?.getD 0, X[q + 2]?.getD 0] := by
        apply List.ext_getElem?
        intro i
        by_cases hi : i < 3
        · rw [List.getElem?_take_of_lt hi, List.getElem?_drop, hx i hi]
          obtain rfl | rfl | rfl : i = 0 ∨ i = 1 ∨ i = 2 := by omega
          all_goals rfl
        · rw [List.getElem?_eq_none (by simp; omega), List.getElem?_eq_none (by simp; omega)]
      rw [show readOut 3 X q = (num [X[q + 0]?.getD 0, X[q + 1]?.getD 0, X[q + 2]?.getD 0], ((q + 3 : Nat) : Int), 0) by rw [readOut, if_neg h1, if_neg (by simpa using h2)]; simp only [Int.toNat_natCast, hn]; simp]
      refine (number3_ok ad X.length cap q w (X[q + 0]?.getD 0) (X[q + 1]?.getD 0) (X[q + 2]?.getD 0) (by omega) hm (src_cell hs _ _ (hx 0 (by omega))) (src_cell hs _ _ (hx 1 (by omega))) (src_cell hs _ _ (hx 2 (by omega)))).mono ?_
      rintro e w' ⟨rfl, rfl⟩
      refine ⟨?_, rfl⟩
      simp [num]

theorem number4_arg (a : Option Addr) (len cap : Nat) (p : Int) (w : World) (h : p < 0 ∨ (len : Int) < p) :
    Calls Try.prog 57 #[.slice a len cap, .int .i64 p, .int .i64 4] w fun e w' => e = .returned (.tuple #[.int .u64 0, .int .i64 0, .int .i64 1]) ∧ w' = w := by
  rcases h with h | h
  · go_enter Try.func57, Try.ntmps57
    go_wp2
    go_ret3
    exact ⟨rfl, rfl⟩
  · by_cases h0 : p < 0
    · go_enter Try.func57, Try.ntmps57
      go_wp2
      go_ret3
      exact ⟨rfl, rfl⟩
    · go_enter Try.func57, Try.ntmps57
      go_wp2
      go_ret3
      exact ⟨rfl, rfl⟩

theorem number4_short (a : Option Addr) (len cap p : Nat) (w : World) (hm : len ≤ 9223372036854775807) (h : p ≤ len) (h' : len < p + 4) :
    Calls Try.prog 57 #[.slice a len cap, .int .i64 p, .int .i64 4] w fun e w' => e = .returned (.tuple #[.int .u64 0, .int .i64 len, .int .i64 3]) ∧ w' = w := by
  go_enter Try.func57, Try.ntmps57
  go_wp2
  go_ret3
  exact ⟨rfl, rfl⟩

theorem number4_ok (ad : Addr) (len cap : Nat) (p : Nat) (w : World) (x0 x1 x2 x3 : UInt8) (h : p + 4 ≤ len) (hm : len ≤ 9223372036854775807) (h0 : w.cell? (ad.add p) = some (.int .u8 x0.toNat)) (h1 : w.cell? (ad.add (p + 1)) = some (.int .u8 x1.toNat)) (h2 : w.cell? (ad.add (p + 2)) = some (.int .u8 x2.toNat)) (h3 : w.cell? (ad.add (p + 3)) = some (.int .u8 x3.toNat)) :
    Calls Try.prog 57 #[.slice (some ad) len cap, .int .i64 p, .int .i64 4] w fun e w' => e = .returned (.tuple #[.int .u64 ((((x0.toNat : Int) * 256 + x1.toNat) * 256 + x2.toNat) * 256 + x3.toNat), .int .i64 (p + 4 : Nat), .int .i64 0]) ∧ w' = w := by
  have u0 : x0.toNat < 256 := x0.toNat_lt
  have u1 : x1.toNat < 256 := x1.toNat_lt
  have k1 : w.cell? ⟨ad.block, ad.off + (p + 1), none⟩ = some (.int .u8 x1.toNat) := h1
  clear h1
  have u2 : x2.toNat < 256 := x2.toNat_lt
  have k2 : w.cell? ⟨ad.block, ad.off + (p + 2), none⟩ = some (.int .u8 x2.toNat) := h2
  clear h2
  have u3 : x3.toNat < 256 := x3.toNat_lt
  have k3 : w.cell? ⟨ad.block, ad.off + (p + 3), none⟩ = some (.int .u8 x3.toNat) := h3
  clear h3
  go_enter Try.func57, Try.ntmps57
  go_wp2
  refine wp_loop_rounds 5 ?_
  rw [rounds_succ]
  go_wp2
  rw [rounds_succ]
  go_wp2
  rw [rounds_succ]
  go_wp2
  rw [rounds_succ]
  go_wp2
  rw [rounds_succ]
  go_wp2
  go_ret3
  refine ⟨?_, rfl⟩
  simp

theorem number4_any (a : Option Addr) (len cap : Nat) (p : Int) (w : World) (X : List UInt8) (hs : SrcAt w a X) (hl : X.length = len) (hm : len ≤ 9223372036854775807) :
    Calls Try.prog 57 #[.slice a len cap, .int .i64 p, .int .i64 4] w fun e w' => e = .returned (.tuple #[.int .u64 (readOut 4 X p).1, .int .i64 (readOut 4 X p).2.1, .int .i64 (readOut 4 X p).2.2]) ∧ w' = w := by
  subst hl
  by_cases h1 : p < 0 ∨ (X.length : Int) < p
  · rw [show readOut 4 X p = (0, 0, 1) by simp only [readOut, if_pos h1]]
    exact number4_arg a _ cap p w h1
  · obtain ⟨q, rfl⟩ : ∃ q : Nat, p = q := ⟨p.toNat, by omega⟩
    by_cases h2 : (X.length : Int) - q < 4
    · rw [show readOut 4 X q = (0, (X.length : Int), 3) by rw [readOut, if_neg h1, if_pos (by simpa using h2)]]
      exact number4_short a _ cap q w hm (by omega) (by omega)
    · have hx : ∀ i, i < 4 → X[q + i]? = some (X[q + i]?.getD 0) := fun i hi => by
        rw [List.getElem?_eq_getElem (by omega)]; rfl
      obtain ⟨ad, rfl, -⟩ := hs _ _ (hx 0 (by omega))
      have hn : (X.drop q).take 4 = [X[q + 0]?.getD 0, X[q + 1]?.getD 0, X[q + 2]?.getD 0, X[q + 3]?.getD 0] := by
        apply List.ext_getElem?
        intro i
        by_cases hi : i < 4
        · rw [List.getElem?_take_of_lt hi, List.getElem?_drop, hx i hi]
          obtain rfl | rfl | rfl | rfl : i = 0 ∨ i = 1 ∨ i = 2 ∨ i = 3 := by omega
          all_goals rfl
        · rw [List.getElem?_eq_none (by simp; omega), List.getElem?_eq_none (by simp; omega)]
      rw [show readOut 4 X q = (num [X[q + 0]?.getD 0, X[q + 1]?.getD 0, X[q + 2]?.getD 0, X[q + 3]?.getD 0], ((q + 4 : Nat) : Int), 0) by rw [readOut, if_neg h1, if_neg (by simpa using h2)]; simp only [Int.toNat_natCast, hn]; simp]
      refine (number4_ok ad X.length cap q w (X[q + 0]?.getD 0) (X[q + 1]?.getD 0) (X[q + 2]?.getD 0) (X[q + 3]?.getD 0) (by omega) hm (src_cell hs _ _ (hx 0 (by omega))) (src_cell hs _ _ (hx 1 (by omega))) (src_cell hs _ _ (hx 2 (by omega))) (src_cell hs _ _ (hx 3 (by omega)))).mono ?_
      rintro e w' ⟨rfl, rfl⟩
      refine ⟨?_, rfl⟩
      simp [num]

end Go.Proofs.Ytikaefjhmgcidaa
