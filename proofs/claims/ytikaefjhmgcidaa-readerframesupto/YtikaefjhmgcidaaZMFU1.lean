/- Contracts of package field's readers: what is read, and that nothing that was there is changed. -/
import Derived.Test.YtikaefjhmgcidaaRows
import Derived.Test.YtikaefjhmgcidaaZMB1
import Derived.WalkKit
import Derived.OwnWalk
import Derived.RegionTactic
import Derived.BigQuiet
import Derived.LoopN
import Derived.Laws.BitsLemmas
import Derived.Deep.QuietTactic
import Derived.WalkLawsBesides
namespace Go.Proofs.Ytikaefjhmgcidaa
open Go.RowKit
set_option linter.unusedVariables false

/-- The number of these bytes, the highest first. -/
def num (X : List UInt8) : Nat := X.foldl (fun v x => v * 256 + x.toNat) 0

/-- What is read of n bytes at a place: the number, the place behind it, the error. -/
def readOut (n : Nat) (X : List UInt8) (p : Int) : Nat × Int × Int :=
  if p < 0 ∨ (X.length : Int) < p then (0, 0, 1) else if (X.length : Int) - p < n then (0, X.length, 3) else (num ((X.drop p.toNat).take n), p + n, 0)

theorem or32 (v : Int) (x : UInt8) (h0 : 0 ≤ v) (h1 : v % 256 = 0) (h2 : v < 4294967296) : bits .or .u32 v (x.toNat : Int) = v + x.toNat := by
  have hx := x.toNat_lt
  exact bits_join .u32 32 (by decide) (fun n h₀ h₁ => by rw [IntKind.wrap_u32]; omega) 8 v x.toNat h0 h1 h2 (by omega) (by omega) (by omega)

theorem src_cell {w : World} {ad : Addr} {X : List UInt8} (h : SrcAt w (some ad) X) (j : Nat) (x : UInt8) (hj : X[j]? = some x) : w.cell? (ad.add j) = some (.int .u8 x.toNat) := by
  obtain ⟨a, e, hc⟩ := h j x hj
  cases e
  exact hc

theorem read2_arg (a : Option Addr) (len cap : Nat) (p : Int) (w : World) (h : p < 0 ∨ (len : Int) < p) :
    Calls Try.prog 92 #[.slice a len cap, .int .i64 p] w fun e w' => e = .returned (.tuple #[.int .u32 0, .int .i64 0, .int .i64 1]) ∧ Fr (fun _ => False) w w' := by
  rcases h with h | h
  · go_enter Try.func92, Try.ntmps92
    go_wp2
    go_ret3
    exact ⟨rfl, (Fr.refl _ _).alloc _⟩
  · by_cases h0 : p < 0
    · go_enter Try.func92, Try.ntmps92
      go_wp2
      go_ret3
      exact ⟨rfl, (Fr.refl _ _).alloc _⟩
    · go_enter Try.func92, Try.ntmps92
      go_wp2
      go_ret3
      exact ⟨rfl, (Fr.refl _ _).alloc _⟩

theorem read2_short (a : Option Addr) (len cap p : Nat) (w : World) (hm : len ≤ 9223372036854775807) (h : p ≤ len) (h' : len < p + 2) :
    Calls Try.prog 92 #[.slice a len cap, .int .i64 p] w fun e w' => e = .returned (.tuple #[.int .u32 0, .int .i64 len, .int .i64 3]) ∧ Fr (fun _ => False) w w' := by
  go_enter Try.func92, Try.ntmps92
  go_wp2
  go_ret3
  exact ⟨rfl, (Fr.refl _ _).alloc _⟩

theorem read2_ok (ad : Addr) (len cap : Nat) (p : Nat) (w : World) (x0 x1 : UInt8) (h : p + 2 ≤ len) (hm : len ≤ 9223372036854775807) (h0 : w.cell? (ad.add p) = some (.int .u8 x0.toNat)) (h1 : w.cell? (ad.add (p + 1)) = some (.int .u8 x1.toNat)) :
    Calls Try.prog 92 #[.slice (some ad) len cap, .int .i64 p] w fun e w' => e = .returned (.tuple #[.int .u32 ((x0.toNat : Int) * 256 + x1.toNat), .int .i64 (p + 2 : Nat), .int .i64 0]) ∧ Fr (fun _ => False) w w' := by
  have l0 := World.block_lt_of_cell? _ _ h0
  have u0 : x0.toNat < 256 := x0.toNat_lt
  have k0 : ∀ o, (w.alloc o).cell? (ad.add p) = some (.int .u8 x0.toNat) := fun o => (World.cell?_alloc_lt _ _ _ l0).trans h0
  have e0 : bits .or .u32 0 (x0.toNat : Int) = (x0.toNat : Int) := by rw [or32 _ _ (by omega) (by omega) (by omega)]; omega
  have l1 := World.block_lt_of_cell? _ _ h1
  have u1 : x1.toNat < 256 := x1.toNat_lt
  have k1 : ∀ o, (w.alloc o).cell? ⟨ad.block, ad.off + (p + 1), none⟩ = some (.int .u8 x1.toNat) := fun o => (World.cell?_alloc_lt _ _ _ l1).trans h1
  have e1 : bits .or .u32 ((x0.toNat : Int) * 256) (x1.toNat : Int) = ((x0.toNat : Int) * 256 + x1.toNat) := or32 _ _ (by omega) (by omega) (by omega)
  clear l0
  clear l1
  go_enter Try.func92, Try.ntmps92
  go_wp2
  refine wp_loop_rounds 3 ?_
  rw [rounds_succ]
  go_wp2
  rw [rounds_succ]
  go_wp2
  rw [rounds_succ]
  go_wp2
  go_quiet (fail)
  go_wp2
  go_ret3
  refine ⟨?_, ((Fr.refl _ _).alloc _).drewN _⟩
  simp

theorem read2_any (a : Option Addr) (len cap : Nat) (p : Int) (w : World) (X : List UInt8) (hs : SrcAt w a X) (hl : X.length = len) (hm : len ≤ 9223372036854775807) :
    Calls Try.prog 92 #[.slice a len cap, .int .i64 p] w fun e w' => e = .returned (.tuple #[.int .u32 (readOut 2 X p).1, .int .i64 (readOut 2 X p).2.1, .int .i64 (readOut 2 X p).2.2]) ∧ Fr (fun _ => False) w w' := by
  subst hl
  by_cases h1 : p < 0 ∨ (X.length : Int) < p
  · rw [show readOut 2 X p = (0, 0, 1) by simp only [readOut, if_pos h1]]
    exact read2_arg a _ cap p w h1
  · obtain ⟨q, rfl⟩ : ∃ q : Nat, p = q := ⟨p.toNat, by omega⟩
    by_cases h2 : (X.length : Int) - q < 2
    · rw [show readOut 2 X q = (0, (X.length : Int), 3) by rw [readOut, if_neg h1, if_pos (by simpa using h2)]]
      exact read2_short a _ cap q w hm (by omega) (by omega)
    · have hx : ∀ i, i < 2 → X[q + i]? = some (X[q + i]?.getD 0) := fun i hi => by
        rw [List.getElem?_eq_getElem (by omega)]; rfl
      obtain ⟨ad, rfl, -⟩ := hs _ _ (hx 0 (by omega))
      have hn : (X.drop q).take 2 = [X[q + 0]?.getD 0, X[q + 1]?.getD 0] := by
        apply List.ext_getElem?
        intro i
        by_cases hi : i < 2
        · rw [List.getElem?_take_of_lt hi, List.getElem?_drop, hx i hi]
          obtain rfl | rfl : i = 0 ∨ i = 1 := by omega
          all_goals rfl
        · rw [List.getElem?_eq_none (by simp; omega), List.getElem?_eq_none (by simp; omega)]
      rw [show readOut 2 X q = (num [X[q + 0]?.getD 0, X[q + 1]?.getD 0], ((q + 2 : Nat) : Int), 0) by rw [readOut, if_neg h1, if_neg (by simpa using h2)]; simp only [Int.toNat_natCast, hn]; simp]
      refine (read2_ok ad X.length cap q w (X[q + 0]?.getD 0) (X[q + 1]?.getD 0) (by omega) hm (src_cell hs _ _ (hx 0 (by omega))) (src_cell hs _ _ (hx 1 (by omega)))).mono ?_
      rintro e w' ⟨rfl, hf⟩
      refine ⟨?_, hf⟩
      simp [num]

theorem read3_arg (a : Option Addr) (len cap : Nat) (p : Int) (w : World) (h : p < 0 ∨ (len : Int) < p) :
    Calls Try.prog 67 #[.slice a len cap, .int .i64 p] w fun e w' => e = .returned (.tuple #[.int .u32 0, .int .i64 0, .int .i64 1]) ∧ Fr (fun _ => False) w w' := by
  rcases h with h | h
  · go_enter Try.func67, Try.ntmps67
    go_wp2
    go_ret3
    exact ⟨rfl, (Fr.refl _ _).alloc _⟩
  · by_cases h0 : p < 0
    · go_enter Try.func67, Try.ntmps67
      go_wp2
      go_ret3
      exact ⟨rfl, (Fr.refl _ _).alloc _⟩
    · go_enter Try.func67, Try.ntmps67
      go_wp2
      go_ret3
      exact ⟨rfl, (Fr.refl _ _).alloc _⟩

theorem read3_short (a : Option Addr) (len cap p : Nat) (w : World) (hm : len ≤ 9223372036854775807) (h : p ≤ len) (h' : len < p + 3) :
    Calls Try.prog 67 #[.slice a len cap, .int .i64 p] w fun e w' => e = .returned (.tuple #[.int .u32 0, .int .i64 len, .int .i64 3]) ∧ Fr (fun _ => False) w w' := by
  go_enter Try.func67, Try.ntmps67
  go_wp2
  go_ret3
  exact ⟨rfl, (Fr.refl _ _).alloc _⟩

theorem read3_ok (ad : Addr) (len cap : Nat) (p : Nat) (w : World) (x0 x1 x2 : UInt8) (h : p + 3 ≤ len) (hm : len ≤ 9223372036854775807) (h0 : w.cell? (ad.add p) = some (.int .u8 x0.toNat)) (h1 : w.cell? (ad.add (p + 1)) = some (.int .u8 x1.toNat)) (h2 : w.cell? (ad.add (p + 2)) = some (.int .u8 x2.toNat)) :
    Calls Try.prog 67 #[.slice (some ad) len cap, .int .i64 p] w fun e w' => e = .returned (.tuple #[.int .u32 (((x0.toNat : Int) * 256 + x1.toNat) * 256 + x2.toNat), .int .i64 (p + 3 : Nat), .int .i64 0]) ∧ Fr (fun _ => False) w w' := by
  have l0 := World.block_lt_of_cell? _ _ h0
  have u0 : x0.toNat < 256 := x0.toNat_lt
  have k0 : ∀ o, (w.alloc o).cell? (ad.add p) = some (.int .u8 x0.toNat) := fun o => (World.cell?_alloc_lt _ _ _ l0).trans h0
  have e0 : bits .or .u32 0 (x0.toNat : Int) = (x0.toNat : Int) := by rw [or32 _ _ (by omega) (by omega) (by omega)]; omega
  have l1 := World.block_lt_of_cell? _ _ h1
  have u1 : x1.toNat < 256 := x1.toNat_lt
  have k1 : ∀ o, (w.alloc o).cell? ⟨ad.block, ad.off + (p + 1), none⟩ = some (.int .u8 x1.toNat) := fun o => (World.cell?_alloc_lt _ _ _ l1).trans h1
  have e1 : bits .or .u32 ((x0.toNat : Int) * 256) (x1.toNat : Int) = ((x0.toNat : Int) * 256 + x1.toNat) := or32 _ _ (by omega) (by omega) (by omega)
  have l2 := World.block_lt_of_cell? _ _ h2
  have u2 : x2.toNat < 256 := x2.toNat_lt
  have k2 : ∀ o, (w.alloc o).cell? ⟨ad.block, ad.off + (p + 2), none⟩ = some (.int .u8 x2.toNat) := fun o => (World.cell?_alloc_lt _ _ _ l2).trans h2
  have e2 : bits .or .u32 (((x0.toNat : Int) * 256 + x1.toNat) * 256) (x2.toNat : Int) = (((x0.toNat : Int) * 256 + x1.toNat) * 256 + x2.toNat) := or32 _ _ (by omega) (by omega) (by omega)
  clear l0
  clear l1
  clear l2
  go_enter Try.func67, Try.ntmps67
  go_wp2
  refine wp_loop_rounds 4 ?_
  rw [rounds_succ]
  go_wp2
  rw [rounds_succ]
  go_wp2
  rw [rounds_succ]
  go_wp2
  rw [rounds_succ]
  go_wp2
  go_quiet (fail)
  go_wp2
  go_ret3
  refine ⟨?_, ((Fr.refl _ _).alloc _).drewN _⟩
  simp

theorem read3_any (a : Option Addr) (len cap : Nat) (p : Int) (w : World) (X : List UInt8) (hs : SrcAt w a X) (hl : X.length = len) (hm : len ≤ 9223372036854775807) :
    Calls Try.prog 67 #[.slice a len cap, .int .i64 p] w fun e w' => e = .returned (.tuple #[.int .u32 (readOut 3 X p).1, .int .i64 (readOut 3 X p).2.1, .int .i64 (readOut 3 X p).2.2]) ∧ Fr (fun _ => False) w w' := by
  subst hl
  by_cases h1 : p < 0 ∨ (X.length : Int) < p
  · rw [show readOut 3 X p = (0, 0, 1) by simp only [readOut, if_pos h1]]
    exact read3_arg a _ cap p w h1
  · obtain ⟨q, rfl⟩ : ∃ q : Nat, p = q := ⟨p.toNat, by omega⟩
    by_cases h2 : (X.length : Int) - q < 3
    · rw [show readOut 3 X q = (0, (X.length : Int), 3) by rw [readOut, if_neg h1, if_pos (by simpa using h2)]]
      exact read3_short a _ cap q w hm (by omega) (by omega)
    · have hx : ∀ i, i < 3 → X[q + i]? = some (X[q + i]?.getD 0) := fun i hi => by
        rw [List.getElem?_eq_getElem (by omega)]; rfl
      obtain ⟨ad, rfl, -⟩ := hs _ _ (hx 0 (by omega))
      have hn : (X.drop q).take 3 = [X[q + 0]?.getD 0, X[q + 1]?.getD 0, X[q + 2]?.getD 0] := by
        apply List.ext_getElem?
        intro i
        by_cases hi : i < 3
        · rw [List.getElem?_take_of_lt hi, List.getElem?_drop, hx i hi]
          obtain rfl | rfl | rfl : i = 0 ∨ i = 1 ∨ i = 2 := by omega
          all_goals rfl
        · rw [List.getElem?_eq_none (by simp; omega), List.getElem?_eq_none (by simp; omega)]
      rw [show readOut 3 X q = (num [X[q + 0]?.getD 0, X[q + 1]?.getD 0, X[q + 2]?.getD 0], ((q + 3 : Nat) : Int), 0) by rw [readOut, if_neg h1, if_neg (by simpa using h2)]; simp only [Int.toNat_natCast, hn]; simp]
      refine (read3_ok ad X.length cap q w (X[q + 0]?.getD 0) (X[q + 1]?.getD 0) (X[q + 2]?.getD 0) (by omega) hm (src_cell hs _ _ (hx 0 (by omega))) (src_cell hs _ _ (hx 1 (by omega))) (src_cell hs _ _ (hx 2 (by omega)))).mono ?_
      rintro e w' ⟨rfl, hf⟩
      refine ⟨?_, hf⟩
      simp [num]

theorem read4_arg (a : Option Addr) (len cap : Nat) (p : Int) (w : World) (h : p < 0 ∨ (len : Int) < p) :
    Calls Try.prog 68 #[.slice a len cap, .int .i64 p] w fun e w' => e = .returned (.tuple #[.int .u32 0, .int .i64 0, .int .i64 1]) ∧ Fr (fun _ => False) w w' := by
  rcases h with h | h
  · go_enter Try.func68, Try.ntmps68
    go_wp2
    go_ret3
    exact ⟨rfl, (Fr.refl _ _).alloc _⟩
  · by_cases h0 : p < 0
    · go_enter Try.func68, Try.ntmps68
      go_wp2
      go_ret3
      exact ⟨rfl, (Fr.refl _ _).alloc _⟩
    · go_enter Try.func68, Try.ntmps68
      go_wp2
      go_ret3
      exact ⟨rfl, (Fr.refl _ _).alloc _⟩

theorem read4_short (a : Option Addr) (len cap p : Nat) (w : World) (hm : len ≤ 9223372036854775807) (h : p ≤ len) (h' : len < p + 4) :
    Calls Try.prog 68 #[.slice a len cap, .int .i64 p] w fun e w' => e = .returned (.tuple #[.int .u32 0, .int .i64 len, .int .i64 3]) ∧ Fr (fun _ => False) w w' := by
  go_enter Try.func68, Try.ntmps68
  go_wp2
  go_ret3
  exact ⟨rfl, (Fr.refl _ _).alloc _⟩

theorem read4_ok (ad : Addr) (len cap : Nat) (p : Nat) (w : World) (x0 x1 x2 x3 : UInt8) (h : p + 4 ≤ len) (hm : len ≤ 9223372036854775807) (h0 : w.cell? (ad.add p) = some (.int .u8 x0.toNat)) (h1 : w.cell? (ad.add (p + 1)) = some (.int .u8 x1.toNat)) (h2 : w.cell? (ad.add (p + 2)) = some (.int .u8 x2.toNat)) (h3 : w.cell? (ad.add (p + 3)) = some (.int .u8 x3.toNat)) :
    Calls Try.prog 68 #[.slice (some ad) len cap, .int .i64 p] w fun e w' => e = .returned (.tuple #[.int .u32 ((((x0.toNat : Int) * 256 + x1.toNat) * 256 + x2.toNat) * 256 + x3.toNat), .int .i64 (p + 4 : Nat), .int .i64 0]) ∧ Fr (fun _ => False) w w' := by
  have l0 := World.block_lt_of_cell? _ _ h0
  have u0 : x0.toNat < 256 := x0.toNat_lt
  have k0 : ∀ o, (w.alloc o).cell? (ad.add p) = some (.int .u8 x0.toNat) := fun o => (World.cell?_alloc_lt _ _ _ l0).trans h0
  have e0 : bits .or .u32 0 (x0.toNat : Int) = (x0.toNat : Int) := by rw [or32 _ _ (by omega) (by omega) (by omega)]; omega
  have l1 := World.block_lt_of_cell? _ _ h1
  have u1 : x1.toNat < 256 := x1.toNat_lt
  have k1 : ∀ o, (w.alloc o).cell? ⟨ad.block, ad.off + (p + 1), none⟩ = some (.int .u8 x1.toNat) := fun o => (World.cell?_alloc_lt _ _ _ l1).trans h1
  have e1 : bits .or .u32 ((x0.toNat : Int) * 256) (x1.toNat : Int) = ((x0.toNat : Int) * 256 + x1.toNat) := or32 _ _ (by omega) (by omega) (by omega)
  have l2 := World.block_lt_of_cell? _ _ h2
  have u2 : x2.toNat < 256 := x2.toNat_lt
  have k2 : ∀ o, (w.alloc o).cell? ⟨ad.block, ad.off + (p + 2), none⟩ = some (.int .u8 x2.toNat) := fun o => (World.cell?_alloc_lt _ _ _ l2).trans h2
  have e2 : bits .or .u32 (((x0.toNat : Int) * 256 + x1.toNat) * 256) (x2.toNat : Int) = (((x0.toNat : Int) * 256 + x1.toNat) * 256 + x2.toNat) := or32 _ _ (by omega) (by omega) (by omega)
  have l3 := World.block_lt_of_cell? _ _ h3
  have u3 : x3.toNat < 256 := x3.toNat_lt
  have k3 : ∀ o, (w.alloc o).cell? ⟨ad.block, ad.off + (p + 3), none⟩ = some (.int .u8 x3.toNat) := fun o => (World.cell?_alloc_lt _ _ _ l3).trans h3
  have e3 : bits .or .u32 ((((x0.toNat : Int) * 256 + x1.toNat) * 256 + x2.toNat) * 256) (x3.toNat : Int) = ((((x0.toNat : Int) * 256 + x1.toNat) * 256 + x2.toNat) * 256 + x3.toNat) := or32 _ _ (by omega) (by omega) (by omega)
  clear l0
  clear l1
  clear l2
  clear l3
  go_enter Try.func68, Try.ntmps68
  go_wp2
  refine wp_loop_rounds 5 ?_
  rw [rounds_succ]
  go_wp2
  rw [rounds_succ]
  go_wp2
  rw [rounds_succ]
  go_wp2
  rw [rounds_succ]
  go_wp2
  rw [rounds_succ]
  go_wp2
  go_quiet (fail)
  go_wp2
  go_ret3
  refine ⟨?_, ((Fr.refl _ _).alloc _).drewN _⟩
  simp

theorem read4_any (a : Option Addr) (len cap : Nat) (p : Int) (w : World) (X : List UInt8) (hs : SrcAt w a X) (hl : X.length = len) (hm : len ≤ 9223372036854775807) :
    Calls Try.prog 68 #[.slice a len cap, .int .i64 p] w fun e w' => e = .returned (.tuple #[.int .u32 (readOut 4 X p).1, .int .i64 (readOut 4 X p).2.1, .int .i64 (readOut 4 X p).2.2]) ∧ Fr (fun _ => False) w w' := by
  subst hl
  by_cases h1 : p < 0 ∨ (X.length : Int) < p
  · rw [show readOut 4 X p = (0, 0, 1) by simp only [readOut, if_pos h1]]
    exact read4_arg a _ cap p w h1
  · obtain ⟨q, rfl⟩ : ∃ q : Nat, p = q := ⟨p.toNat, by omega⟩
    by_cases h2 : (X.length : Int) - q < 4
    · rw [show readOut 4 X q = (0, (X.length : Int), 3) by rw [readOut, if_neg h1, if_pos (by simpa using h2)]]
      exact read4_short a _ cap q w hm (by omega) (by omega)
    · have hx : ∀ i, i < 4 → X[q + i]? = some (X[q + i]?.getD 0) := fun i hi => by
        rw [List.getElem?_eq_getElem (by omega)]; rfl
      obtain ⟨ad, rfl, -⟩ := hs _ _ (hx 0 (by omega))
      have hn : (X.drop q).take 4 = [X[q + 0]?.getD 0, X[q + 1]?.getD 0, X[q + 2]?.getD 0, X[q + 3]?.getD 0] := by
        apply List.ext_getElem?
        intro i
        by_cases hi : i < 4
        · rw [List.getElem?_take_of_lt hi, List.getElem?_drop, hx i hi]
          obtain rfl | rfl | rfl | rfl : i = 0 ∨ i = 1 ∨ i = 2 ∨ i = 3 := by omega
          all_goals rfl
        · rw [List.getElem?_eq_none (by simp; omega), List.getElem?_eq_none (by simp; omega)]
      rw [show readOut 4 X q = (num [X[q + 0]?.getD 0, X[q + 1]?.getD 0, X[q + 2]?.getD 0, X[q + 3]?.getD 0], ((q + 4 : Nat) : Int), 0) by rw [readOut, if_neg h1, if_neg (by simpa using h2)]; simp only [Int.toNat_natCast, hn]; simp]
      refine (read4_ok ad X.length cap q w (X[q + 0]?.getD 0) (X[q + 1]?.getD 0) (X[q + 2]?.getD 0) (X[q + 3]?.getD 0) (by omega) hm (src_cell hs _ _ (hx 0 (by omega))) (src_cell hs _ _ (hx 1 (by omega))) (src_cell hs _ _ (hx 2 (by omega))) (src_cell hs _ _ (hx 3 (by omega)))).mono ?_
      rintro e w' ⟨rfl, hf⟩
      refine ⟨?_, hf⟩
      simp [num]

end Go.Proofs.Ytikaefjhmgcidaa
/- Contracts of the document's readers (aqueductref02.number). -/
namespace Go.Proofs.Ytikaefjhmgcidaa
open Go.RowKit
set_option linter.unusedVariables false

theorem number2_arg (a : Option Addr) (len cap : Nat) (p : Int) (w : World) (h : p < 0 ∨ (len : Int) < p) :
    Calls Try.prog 57 #[.slice a len cap, .int .i64 p, .int .i64 2] w fun e w' => e = .returned (.tuple #[.int .u64 0, .int .i64 0, .int .i64 1]) ∧ w' = w := by
  rcases h with h | h
  · go_enter Try.func57, Try.ntmps57
    go_wp2
    go_ret3
    exact ⟨rfl, rfl⟩
  · by_cases h0 : p < 0
    · go_enter Try.func57, Try.ntmps57
      go_wp2
      go_ret3
      exact ⟨rfl, rfl⟩
    · go_enter Try.func57, Try.ntmps57
      go_wp2
      go_ret3
      exact ⟨rfl, rfl⟩

theorem number2_short (a : Option Addr) (len cap p : Nat) (w : World) (hm : len ≤ 9223372036854775807) (h : p ≤ len) (h' : len < p + 2) :
    Calls Try.prog 57 #[.slice a len cap, .int .i64 p, .int .i64 2] w fun e w' => e = .returned (.tuple #[.int .u64 0, .int .i64 len, .int .i64 3]) ∧ w' = w := by
  go_enter Try.func57, Try.ntmps57
  go_wp2
  go_ret3
  exact ⟨rfl, rfl⟩

theorem number2_ok (ad : Addr) (len cap : Nat) (p : Nat) (w : World) (x0 x1 : UInt8) (h : p + 2 ≤ len) (hm : len ≤ 9223372036854775807) (h0 : w.cell? (ad.add p) = some (.int .u8 x0.toNat)) (h1 : w.cell? (ad.add (p + 1)) = some (.int .u8 x1.toNat)) :
    Calls Try.prog 57 #[.slice (some ad) len cap, .int .i64 p, .int .i64 2] w fun e w' => e = .returned (.tuple #[.int .u64 ((x0.toNat : Int) * 256 + x1.toNat), .int .i64 (p + 2 : Nat), .int .i64 0]) ∧ w' = w := by
  have u0 : x0.toNat < 256 := x0.toNat_lt
  have u1 : x1.toNat < 256 := x1.toNat_lt
  have k1 : w.cell? ⟨ad.block, ad.off + (p + 1), none⟩ = some (.int .u8 x1.toNat) := h1
  clear h1
  go_enter Try.func57, Try.ntmps57
  go_wp2
  refine wp_loop_rounds 3 ?_
  rw [rounds_succ]
  go_wp2
  rw [rounds_succ]
  go_wp2
  rw [rounds_succ]
  go_wp2
  go_ret3
  refine ⟨?_, rfl⟩
  simp

theorem number2_any (a : Option Addr) (len cap : Nat) (p : Int) (w : World) (X : List UInt8) (hs : SrcAt w a X) (hl : X.length = len) (hm : len ≤ 9223372036854775807) :
    Calls Try.prog 57 #[.slice a len cap, .int .i64 p, .int .i64 2] w fun e w' => e = .returned (.tuple #[.int .u64 (readOut 2 X p).1, .int .i64 (readOut 2 X p).2.1, .int .i64 (readOut 2 X p).2.2]) ∧ w' = w := by
  subst hl
  by_cases h1 : p < 0 ∨ (X.length : Int) < p
  · rw [show readOut 2 X p = (0, 0, 1) by simp only [readOut, if_pos h1]]
    exact number2_arg a _ cap p w h1
  · obtain ⟨q, rfl⟩ : ∃ q : Nat, p = q := ⟨p.toNat, by omega⟩
    by_cases h2 : (X.length : Int) - q < 2
    · rw [show readOut 2 X q = (0, (X.length : Int), 3) by rw [readOut, if_neg h1, if_pos (by simpa using h2)]]
      exact number2_short a _ cap q w hm (by omega) (by omega)
    · have hx : ∀ i, i < 2 → X[q + i]? = some (X[q + i]?.getD 0) := fun i hi => by
        rw [List.getElem?_eq_getElem (by omega)]; rfl
      obtain ⟨ad, rfl, -⟩ := hs _ _ (hx 0 (by omega))
      have hn : (X.drop q).take 2 = [X[q + 0]?.getD 0, X[q + 1]?.getD 0] := by
        apply List.ext_getElem?
        intro i
        by_cases hi : i < 2
        · rw [List.getElem?_take_of_lt hi, List.getElem?_drop, hx i hi]
          obtain rfl | rfl : i = 0 ∨ i = 1 := by omega
          all_goals rfl
        · rw [List.getElem?_eq_none (by simp; omega), List.getElem?_eq_none (by simp; omega)]
      rw [show readOut 2 X q = (num [X[q + 0]?.getD 0, X[q + 1]?.getD 0], ((q + 2 : Nat) : Int), 0) by rw [readOut, if_neg h1, if_neg (by simpa using h2)]; simp only [Int.toNat_natCast, hn]; simp]
      refine (number2_ok ad X.length cap q w (X[q + 0]?.getD 0) (X[q + 1]?.getD 0) (by omega) hm (src_cell hs _ _ (hx 0 (by omega))) (src_cell hs _ _ (hx 1 (by omega)))).mono ?_
      rintro e w' ⟨rfl, rfl⟩
      refine ⟨?_, rfl⟩
      simp [num]

theorem number3_arg (a : Option Addr) (len cap : Nat) (p : Int) (w : World) (h : p < 0 ∨ (len : Int) < p) :
    Calls Try.prog 57 #[.slice a len cap, .int .i64 p, .int .i64 3] w fun e w' => e = .returned (.tuple #[.int .u64 0, .int .i64 0, .int .i64 1]) ∧ w' = w := by
  rcases h with h | h
  · go_enter Try.func57, Try.ntmps57
    go_wp2
    go_ret3
    exact ⟨rfl, rfl⟩
  · by_cases h0 : p < 0
    · go_enter Try.func57, Try.ntmps57
      go_wp2
      go_ret3
      exact ⟨rfl, rfl⟩
    · go_enter Try.func57, Try.ntmps57
      go_wp2
      go_ret3
      exact ⟨rfl, rfl⟩

theorem number3_short (a : Option Addr) (len cap p : Nat) (w : World) (hm : len ≤ 9223372036854775807) (h : p ≤ len) (h' : len < p + 3) :
    Calls Try.prog 57 #[.slice a len cap, .int .i64 p, .int .i64 3] w fun e w' => e = .returned (.tuple #[.int .u64 0, .int .i64 len, .int .i64 3]) ∧ w' = w := by
  go_enter Try.func57, Try.ntmps57
  go_wp2
  go_ret3
  exact ⟨rfl, rfl⟩

theorem number3_ok (ad : Addr) (len cap : Nat) (p : Nat) (w : World) (x0 x1 x2 : UInt8) (h : p + 3 ≤ len) (hm : len ≤ 9223372036854775807) (h0 : w.cell? (ad.add p) = some (.int .u8 x0.toNat)) (h1 : w.cell? (ad.add (p + 1)) = some (.int .u8 x1.toNat)) (h2 : w.cell? (ad.add (p + 2)) = some (.int .u8 x2.toNat)) :
    Calls Try.prog 57 #[.slice (some ad) len cap, .int .i64 p, .int .i64 3] w fun e w' => e = .returned (.tuple #[.int .u64 (((x0.toNat : Int) * 256 + x1.toNat) * 256 + x2.toNat), .int .i64 (p + 3 : Nat), .int .i64 0]) ∧ w' = w := by
  have u0 : x0.toNat < 256 := x0.toNat_lt
  have u1 : x1.toNat < 256 := x1.toNat_lt
  have k1 : w.cell? ⟨ad.block, ad.off + (p + 1), none⟩ = some (.int .u8 x1.toNat) := h1
  clear h1
  have u2 : x2.toNat < 256 := x2.toNat_lt
  have k2 : w.cell? ⟨ad.block, ad.off + (p + 2), none⟩ = some (.int .u8 x2.toNat) := h2
  clear h2
  go_enter Try.func57, Try.ntmps57
  go_wp2
  refine wp_loop_rounds 4 ?_
  rw [rounds_succ]
  go_wp2
  rw [rounds_succ]
  go_wp2
  rw [rounds_succ]
  go_wp2
  rw [rounds_succ]
  go_wp2
  go_ret3
  refine ⟨?_, rfl⟩
  simp

theorem number3_any (a : Option Addr) (len cap : Nat) (p : Int) (w : World) (X : List UInt8) (hs : SrcAt w a X) (hl : X.length = len) (hm : len ≤ 9223372036854775807) :
    Calls Try.prog 57 #[.slice a len cap, .int .i64 p, .int .i64 3] w fun e w' => e = .returned (.tuple #[.int .u64 (readOut 3 X p).1, .int .i64 (readOut 3 X p).2.1, .int .i64 (readOut 3 X p).2.2]) ∧ w' = w := by
  subst hl
  by_cases h1 : p < 0 ∨ (X.length : Int) < p
  · rw [show readOut 3 X p = (0, 0, 1) by simp only [readOut, if_pos h1]]
    exact number3_arg a _ cap p w h1
  · obtain ⟨q, rfl⟩ : ∃ q : Nat, p = q := ⟨p.toNat, by omega⟩
    by_cases h2 : (X.length : Int) - q < 3
    · rw [show readOut 3 X q = (0, (X.length : Int), 3) by rw [readOut, if_neg h1, if_pos (by simpa using h2)]]
      exact number3_short a _ cap q w hm (by omega) (by omega)
    · have hx : ∀ i, i < 3 → X[q + i]? = some (X[q + i]?.getD 0) := fun i hi => by
        rw [List.getElem?_eq_getElem (by omega)]; rfl
      obtain ⟨ad, rfl, -⟩ := hs _ _ (hx 0 (by omega))
      have hn : (X.drop q).take 3 = [X[q + 0]?.getD 0, X[q + 1]?.getD 0, X[q + 2]?.getD 0] := by
        apply List.ext_getElem?
        intro i
        by_cases hi : i < 3
        · rw [List.getElem?_take_of_lt hi, List.getElem?_drop, hx i hi]
          obtain rfl | rfl | rfl : i = 0 ∨ i = 1 ∨ i = 2 := by omega
          all_goals rfl
        · rw [List.getElem?_eq_none (by simp; omega), List.getElem?_eq_none (by simp; omega)]
      rw [show readOut 3 X q = (num [X[q + 0]?.getD 0, X[q + 1]?.getD 0, X[q + 2]?.getD 0], ((q + 3 : Nat) : Int), 0) by rw [readOut, if_neg h1, if_neg (by simpa using h2)]; simp only [Int.toNat_natCast, hn]; simp]
      refine (number3_ok ad X.length cap q w (X[q + 0]?.getD 0) (X[q + 1]?.getD 0) (X[q + 2]?.getD 0) (by omega) hm (src_cell hs _ _ (hx 0 (by omega))) (src_cell hs _ _ (hx 1 (by omega))) (src_cell hs _ _ (hx 2 (by omega)))).mono ?_
      rintro e w' ⟨rfl, rfl⟩
      refine ⟨?_, rfl⟩
      simp [num]

theorem number4_arg (a : Option Addr) (len cap : Nat) (p : Int) (w : World) (h : p < 0 ∨ (len : Int) < p) :
    Calls Try.prog 57 #[.slice a len cap, .int .i64 p, .int .i64 4] w fun e w' => e = .returned (.tuple #[.int .u64 0, .int .i64 0, .int .i64 1]) ∧ w' = w := by
  rcases h with h | h
  · go_enter Try.func57, Try.ntmps57
    go_wp2
    go_ret3
    exact ⟨rfl, rfl⟩
  · by_cases h0 : p < 0
    · go_enter Try.func57, Try.ntmps57
      go_wp2
      go_ret3
      exact ⟨rfl, rfl⟩
    · go_enter Try.func57, Try.ntmps57
      go_wp2
      go_ret3
      exact ⟨rfl, rfl⟩

theorem number4_short (a : Option Addr) (len cap p : Nat) (w : World) (hm : len ≤ 9223372036854775807) (h : p ≤ len) (h' : len < p + 4) :
    Calls Try.prog 57 #[.slice a len cap, .int .i64 p, .int .i64 4] w fun e w' => e = .returned (.tuple #[.int .u64 0, .int .i64 len, .int .i64 3]) ∧ w' = w := by
  go_enter Try.func57, Try.ntmps57
  go_wp2
  go_ret3
  exact ⟨rfl, rfl⟩

theorem number4_ok (ad : Addr) (len cap : Nat) (p : Nat) (w : World) (x0 x1 x2 x3 : UInt8) (h : p + 4 ≤ len) (hm : len ≤ 9223372036854775807) (h0 : w.cell? (ad.add p) = some (.int .u8 x0.toNat)) (h1 : w.cell? (ad.add (p + 1)) = some (.int .u8 x1.toNat)) (h2 : w.cell? (ad.add (p + 2)) = some (.int .u8 x2.toNat)) (h3 : w.cell? (ad.add (p + 3)) = some (.int .u8 x3.toNat)) :
    Calls Try.prog 57 #[.slice (some ad) len cap, .int .i64 p, .int .i64 4] w fun e w' => e = .returned (.tuple #[.int .u64 ((((x0.toNat : Int) * 256 + x1.toNat) * 256 + x2.toNat) * 256 + x3.toNat), .int .i64 (p + 4 : Nat), .int .i64 0]) ∧ w' = w := by
  have u0 : x0.toNat < 256 := x0.toNat_lt
  have u1 : x1.toNat < 256 := x1.toNat_lt
  have k1 : w.cell? ⟨ad.block, ad.off + (p + 1), none⟩ = some (.int .u8 x1.toNat) := h1
  clear h1
  have u2 : x2.toNat < 256 := x2.toNat_lt
  have k2 : w.cell? ⟨ad.block, ad.off + (p + 2), none⟩ = some (.int .u8 x2.toNat) := h2
  clear h2
  have u3 : x3.toNat < 256 := x3.toNat_lt
  have k3 : w.cell? ⟨ad.block, ad.off + (p + 3), none⟩ = some (.int .u8 x3.toNat) := h3
  clear h3
  go_enter Try.func57, Try.ntmps57
  go_wp2
  refine wp_loop_rounds 5 ?_
  rw [rounds_succ]
  go_wp2
  rw [rounds_succ]
  go_wp2
  rw [rounds_succ]
  go_wp2
  rw [rounds_succ]
  go_wp2
  rw [rounds_succ]
  go_wp2
  go_ret3
  refine ⟨?_, rfl⟩
  simp

theorem number4_any (a : Option Addr) (len cap : Nat) (p : Int) (w : World) (X : List UInt8) (hs : SrcAt w a X) (hl : X.length = len) (hm : len ≤ 9223372036854775807) :
    Calls Try.prog 57 #[.slice a len cap, .int .i64 p, .int .i64 4] w fun e w' => e = .returned (.tuple #[.int .u64 (readOut 4 X p).1, .int .i64 (readOut 4 X p).2.1, .int .i64 (readOut 4 X p).2.2]) ∧ w' = w := by
  subst hl
  by_cases h1 : p < 0 ∨ (X.length : Int) < p
  · rw [show readOut 4 X p = (0, 0, 1) by simp only [readOut, if_pos h1]]
    exact number4_arg a _ cap p w h1
  · obtain ⟨q, rfl⟩ : ∃ q : Nat, p = q := ⟨p.toNat, by omega⟩
    by_cases h2 : (X.length : Int) - q < 4
    · rw [show readOut 4 X q = (0, (X.length : Int), 3) by rw [readOut, if_neg h1, if_pos (by simpa using h2)]]
      exact number4_short a _ cap q w hm (by omega) (by omega)
    · have hx : ∀ i, i < 4 → X[q + i]? = some (X[q + i]?.getD 0) := fun i hi => by
        rw [List.getElem?_eq_getElem (by omega)]; rfl
      obtain ⟨ad, rfl, -⟩ := hs _ _ (hx 0 (by omega))
      have hn : (X.drop q).take 4 = [X[q + 0]?.getD 0, X[q + 1]?.getD 0, X[q + 2]?.getD 0, X[q + 3]?.getD 0] := by
        apply List.ext_getElem?
        intro i
        by_cases hi : i < 4
        · rw [List.getElem?_take_of_lt hi, List.getElem?_drop, hx i hi]
          obtain rfl | rfl | rfl | rfl : i = 0 ∨ i = 1 ∨ i = 2 ∨ i = 3 := by omega
          all_goals rfl
        · rw [List.getElem?_eq_none (by simp; omega), List.getElem?_eq_none (by simp; omega)]
      rw [show readOut 4 X q = (num [X[q + 0]?.getD 0, X[q + 1]?.getD 0, X[q + 2]?.getD 0, X[q + 3]?.getD 0], ((q + 4 : Nat) : Int), 0) by rw [readOut, if_neg h1, if_neg (by simpa using h2)]; simp only [Int.toNat_natCast, hn]; simp]
      refine (number4_ok ad X.length cap q w (X[q + 0]?.getD 0) (X[q + 1]?.getD 0) (X[q + 2]?.getD 0) (X[q + 3]?.getD 0) (by omega) hm (src_cell hs _ _ (hx 0 (by omega))) (src_cell hs _ _ (hx 1 (by omega))) (src_cell hs _ _ (hx 2 (by omega))) (src_cell hs _ _ (hx 3 (by omega)))).mono ?_
      rintro e w' ⟨rfl, rfl⟩
      refine ⟨?_, rfl⟩
      simp [num]

end Go.Proofs.Ytikaefjhmgcidaa
/- Contracts of what makes a number's bytes: field.lowest, aqueductref02.bytes. -/
namespace Go.Proofs.Ytikaefjhmgcidaa
open Go.RowKit
set_option linter.unusedVariables false

/-- The n lowest bytes of m, the highest of them first. -/
def be : Nat → Nat → List UInt8
  | 0, _ => []
  | n + 1, m => be n (m / 256) ++ [UInt8.ofNat m]

theorem be_length (n m : Nat) : (be n m).length = n := by
  induction n generalizing m with
  | zero => rfl
  | succ n ih => simp [be, ih]

/-- Bytes that lie in memory that was not there. -/
def New (w w' : World) (sp : Option Addr) (X : List UInt8) : Prop := SrcAt w' sp X ∧ ∀ ad, sp = some ad → w.heap.size ≤ ad.block
theorem New.nil (w w' : World) : New w w' none [] := ⟨SrcAt.nil _ _, fun _ h => by cases h⟩

theorem src_block {w : World} {g : Nat} {cs : Array Value} {t : TypeId} (off : Nat) (X : List UInt8) (hg : w.heap[g]? = some (.cells cs t (0, 0))) (h : cs.toList.drop off = bv X) : SrcAt w (some ⟨g, off, none⟩) X := by
  intro j c hj
  refine ⟨_, rfl, ?_⟩
  rw [add_none]
  refine cell_of_heap hg ?_
  have h1 : (cs.toList.drop off)[j]? = some (.int .u8 c.toNat) := by rw [h]; exact (bv_get _ _ _).2 ⟨c, hj, rfl⟩
  rw [List.getElem?_drop] at h1
  simpa using h1

theorem step_full {P : Program} {w0 w : World} {o : Oper} {a : Act} {K : Act → World → Prop} {Q : Exit → Act → World → Prop} (s x : Operand) (t tx : TypeId)
    (ho : o.op = .call { callee := .builtin .append, args := #[s, x], argTypes := #[t, tx] })
    (i : TypeInfo) (ht : P.underlying t = some (.slice 5)) (htx : P.underlying tx = some (.slice 5)) (hi : P.info? 5 = some i) (hz : i.zero = some (.int .u8 0)) (hsize : i.size = 1) (hby : i.bytes = 1)
    (sv : Option Addr) (n : Nat) (xs : List UInt8) (hsv : a.eval s = .slice sv n n) (hS : SrcAt w sv xs) (hn : xs.length = n) (hf : Fr (fun _ => False) w0 w) (sp : Option Addr) (m c : Nat) (hxv : a.eval x = .slice sp m c) (X : List UInt8) (hX : SrcAt w sp X) (hm : X.length = m) (h0 : 0 < m) (hbytes : xs.length + m ≤ 225179981368371)
    (h : ∀ a' n' c' w', Hid (n' = xs.length + m) → Gath w0 w' (.slice a' n' c') (xs ++ X) → Hid (Fr (fun _ => False) w w') → K (a.put o.dst (.slice a' n' c')) w') : o.wp P a w K Q := by
  subst hn
  subst hm
  have hs := src_bytes (P := P) tx 5 htx hX X.length c rfl
  have hold : (Builtin.firstCells i.size xs.length (.slice sv xs.length xs.length)).run P w.drew = .ok (bv xs).toArray w.drew := by
    cases sv with
    | none =>
      have h0 : xs = [] := by
        cases xs with
        | nil => rfl
        | cons y r => obtain ⟨ad, e, _⟩ := hS 0 y rfl; cases e
      subst h0
      exact run_firstCells_none _ _ _ _ _
    | some ad =>
      refine run_firstCells_some w.drew _ _ _ _ _ (bv xs) (by rw [hsize, bv_length]; omega) ?_
      intro j u hj
      obtain ⟨y, hy, rfl⟩ := (bv_get _ _ _).1 hj
      obtain ⟨ad', e, hc⟩ := hS j y hy
      cases e
      exact hc
  have hr := run_append_grow_src (P := P) w t tx o.type 5 i (.int .u8 0) ht hi hz sv xs.length xs.length (bv xs) hold (.slice sp X.length c) X.length (bv X) (by rw [hsize]; exact hs) (by omega) (by omega) (growslice_fits_wide (by omega) (by rw [hby]; omega))
  unfold Oper.wp execOp
  simp only [ho, resolve, invoke, builtin, Sem.run_bind, Sem.run_pure, Result.andThen_ok, List.map_toArray, List.map_cons, List.map_nil, hsv, hxv, hr]
  have hge := grownCap_ge w (xs.length + X.length) xs.length 5
  have hfr : Fr (fun _ => False) w (w.drew.alloc (.cells (((bv xs) ++ bv X).toArray ++ Builtin.zeroCells (Value.int .u8 0).cells (grownCap w (xs.length + X.length) xs.length 5 - (xs.length + X.length))) 5)) := (Fr.refl _ _).drew.alloc _
  refine h _ _ _ _ rfl ⟨.inr ⟨w.heap.size, 0, _, _, by rw [bv_length, List.length_append], heap_alloc_new w.drew _, ?_, ?_, grownCap_le_maxLen w _ xs.length 5 (by unfold maxLen; omega), ?_⟩, fun k hk => ?_, hf.trans hfr⟩ hfr
  · simp [size_zeroCells, Value.cells, bv_length]; omega
  · rw [bv_length, List.length_append]; exact hge
  · rw [List.drop_zero, Array.toList_append, ← bv_append]; exact List.take_left
  · simp [Value.ownBlock] at hk; have := hf.size; omega
theorem wpList_full {P : Program} {w0 w : World} {ops : Array Oper} {rest : List Oper} {o : Oper} {a : Act} {Q : Exit → Act → World → Prop} (hgd : o.guard = none) (s x : Operand) (t tx : TypeId)
    (ho : o.op = .call { callee := .builtin .append, args := #[s, x], argTypes := #[t, tx] })
    (i : TypeInfo) (ht : P.underlying t = some (.slice 5)) (htx : P.underlying tx = some (.slice 5)) (hi : P.info? 5 = some i) (hz : i.zero = some (.int .u8 0)) (hsize : i.size = 1) (hby : i.bytes = 1)
    (sv : Option Addr) (n : Nat) (xs : List UInt8) (hsv : a.eval s = .slice sv n n) (hS : SrcAt w sv xs) (hn : xs.length = n) (hf : Fr (fun _ => False) w0 w) (sp : Option Addr) (m c : Nat) (hxv : a.eval x = .slice sp m c) (X : List UInt8) (hX : SrcAt w sp X) (hm : X.length = m) (h0 : 0 < m) (hbytes : xs.length + m ≤ 225179981368371)
    (h : ∀ a' n' c' w', Hid (n' = xs.length + m) → Gath w0 w' (.slice a' n' c') (xs ++ X) → Hid (Fr (fun _ => False) w w') → wpList P ops Q rest (a.put o.dst (.slice a' n' c')) w') : wpList P ops Q (o :: rest) a w :=
  wpList_plain hgd fun _ hK => step_full s x t tx ho i ht htx hi hz hsize hby sv n xs hsv hS hn hf sp m c hxv X hX hm h0 hbytes (fun a' n' c' w' h1 h2 h3 => hK _ _ (h a' n' c' w' h1 h2 h3))
theorem stepR_full {P : Program} {w0 w : World} {ops : Array Oper} {o : Oper} {a : Act} {K : Act → World → Prop} {Q : Exit → Act → World → Prop} {E : Prop} (hgd : o.guard = none) (dd : Tmp) (hdst : o.dst = some dd) (s x : Operand) (t tx : TypeId)
    (ho : o.op = .call { callee := .builtin .append, args := #[s, x], argTypes := #[t, tx] })
    (i : TypeInfo) (ht : P.underlying t = some (.slice 5)) (htx : P.underlying tx = some (.slice 5)) (hi : P.info? 5 = some i) (hz : i.zero = some (.int .u8 0)) (hsize : i.size = 1) (hby : i.bytes = 1)
    (sv : Option Addr) (n : Nat) (xs : List UInt8) (hsv : a.eval s = .slice sv n n) (hS : SrcAt w sv xs) (hn : xs.length = n) (hf : Fr (fun _ => False) w0 w) (sp : Option Addr) (m c : Nat) (hxv : a.eval x = .slice sp m c) (X : List UInt8) (hX : SrcAt w sp X) (hm : X.length = m) (h0 : 0 < m) (hbytes : xs.length + m ≤ 225179981368371)
    (h : ∀ a' n' c' w', Hid (n' = xs.length + m) → Gath w0 w' (.slice a' n' c') (xs ++ X) → Hid (Fr (fun _ => False) w w') → K (a.put (some dd) (.slice a' n' c')) w') :
    if Region.wanted o (yielded ops a.tmps) = true then Oper.wp P o a w K Q else E := by
  have hw : Region.wanted o (yielded ops a.tmps) = true := by simp [Region.wanted, hgd]
  rw [if_pos hw]
  rw [← hdst] at h
  exact step_full s x t tx ho i ht htx hi hz hsize hby sv n xs hsv hS hn hf sp m c hxv X hX hm h0 hbytes h

theorem make_bytes (n : Nat) (h : n ≤ 140737488351232) : ∀ w : World, (Instr.makeSlice 31 (.int .i64 (n : Int)) (.int .i64 (n : Int))).run Try.prog w = .ok (.slice (some ⟨w.heap.size, 0, none⟩) n n) (w.alloc (.cells (bv (List.replicate n 0)).toArray 5)) := by
  intro w
  have hr := run_make (P := Try.prog) w 31 5 ((Try.prog.info? 5).get (by kernel_rfl)) (.int .u8 0) Try.underlying31 (by kernel_rfl) (by kernel_rfl) .i64 .i64 n n (by omega) (by omega) (by rw [show (((Try.prog.info? 5).get (by kernel_rfl)).bytes) = 1 from by kernel_rfl]; omega) (by omega)
  rw [show (((Try.prog.info? 5).get (by kernel_rfl)).size) = 1 from by kernel_rfl] at hr
  simpa [Value.cells, made_bytes] using hr

theorem lowest2 (m : Nat) (w : World) (hm : m < 4294967296) :
    Calls Try.prog 91 #[.int .u32 m, .int .i64 2] w fun e w' => (∃ sp, e = .returned (.slice sp 2 2) ∧ New w w' sp (be 2 m)) ∧ Fr (fun _ => False) w w' := by
  go_enter Try.func91, Try.ntmps91
  go_wp2
  go_ret
  refine ⟨⟨_, rfl, src_block 2 _ (heap_alloc_new w _) ?_, fun ad h => by cases h; exact Nat.le_refl _⟩, (Fr.refl _ _).alloc _⟩
  simp [be, bv]
  all_goals omega

theorem lowest3 (m : Nat) (w : World) (hm : m < 4294967296) :
    Calls Try.prog 91 #[.int .u32 m, .int .i64 3] w fun e w' => (∃ sp, e = .returned (.slice sp 3 3) ∧ New w w' sp (be 3 m)) ∧ Fr (fun _ => False) w w' := by
  go_enter Try.func91, Try.ntmps91
  go_wp2
  go_ret
  refine ⟨⟨_, rfl, src_block 1 _ (heap_alloc_new w _) ?_, fun ad h => by cases h; exact Nat.le_refl _⟩, (Fr.refl _ _).alloc _⟩
  simp [be, bv]
  all_goals omega

theorem lowest4 (m : Nat) (w : World) (hm : m < 4294967296) :
    Calls Try.prog 91 #[.int .u32 m, .int .i64 4] w fun e w' => (∃ sp, e = .returned (.slice sp 4 4) ∧ New w w' sp (be 4 m)) ∧ Fr (fun _ => False) w w' := by
  go_enter Try.func91, Try.ntmps91
  go_wp2
  go_ret
  refine ⟨⟨_, rfl, src_block 0 _ (heap_alloc_new w _) ?_, fun ad h => by cases h; exact Nat.le_refl _⟩, (Fr.refl _ _).alloc _⟩
  simp [be, bv]
  all_goals omega

theorem bytes2 (m : Nat) (w : World) (hm : m < 18446744073709551616) :
    Calls Try.prog 54 #[.int .u64 m, .int .i64 2] w fun e w' => (∃ sp, e = .returned (.slice sp 2 2) ∧ New w w' sp (be 2 m)) ∧ Fr (fun _ => False) w w' := by
  have hmk : ∀ w : World, (Instr.makeSlice 31 (.int .i64 2) (.int .i64 2)).run Try.prog w = .ok (.slice (some ⟨w.heap.size, 0, none⟩) 2 2) (w.alloc (.cells #[.int .u8 0, .int .u8 0] 5)) := make_bytes 2 (by omega)
  go_enter Try.func54, Try.ntmps54
  go_wp2
  refine wp_loop_rounds 3 ?_
  rw [rounds_succ]
  go_wp2
  rw [rounds_succ]
  go_wp2
  rw [rounds_succ]
  go_wp2
  go_ret
  refine ⟨⟨_, rfl, src_block 0 _ (heap_alloc_new w _) ?_, fun ad h => by cases h; exact Nat.le_refl _⟩, (Fr.refl _ _).alloc _⟩
  simp [be, bv]
  all_goals omega

theorem bytes3 (m : Nat) (w : World) (hm : m < 18446744073709551616) :
    Calls Try.prog 54 #[.int .u64 m, .int .i64 3] w fun e w' => (∃ sp, e = .returned (.slice sp 3 3) ∧ New w w' sp (be 3 m)) ∧ Fr (fun _ => False) w w' := by
  have hmk : ∀ w : World, (Instr.makeSlice 31 (.int .i64 3) (.int .i64 3)).run Try.prog w = .ok (.slice (some ⟨w.heap.size, 0, none⟩) 3 3) (w.alloc (.cells #[.int .u8 0, .int .u8 0, .int .u8 0] 5)) := make_bytes 3 (by omega)
  go_enter Try.func54, Try.ntmps54
  go_wp2
  refine wp_loop_rounds 4 ?_
  rw [rounds_succ]
  go_wp2
  rw [rounds_succ]
  go_wp2
  rw [rounds_succ]
  go_wp2
  rw [rounds_succ]
  go_wp2
  go_ret
  refine ⟨⟨_, rfl, src_block 0 _ (heap_alloc_new w _) ?_, fun ad h => by cases h; exact Nat.le_refl _⟩, (Fr.refl _ _).alloc _⟩
  simp [be, bv]
  all_goals omega

theorem bytes4 (m : Nat) (w : World) (hm : m < 18446744073709551616) :
    Calls Try.prog 54 #[.int .u64 m, .int .i64 4] w fun e w' => (∃ sp, e = .returned (.slice sp 4 4) ∧ New w w' sp (be 4 m)) ∧ Fr (fun _ => False) w w' := by
  have hmk : ∀ w : World, (Instr.makeSlice 31 (.int .i64 4) (.int .i64 4)).run Try.prog w = .ok (.slice (some ⟨w.heap.size, 0, none⟩) 4 4) (w.alloc (.cells #[.int .u8 0, .int .u8 0, .int .u8 0, .int .u8 0] 5)) := make_bytes 4 (by omega)
  go_enter Try.func54, Try.ntmps54
  go_wp2
  refine wp_loop_rounds 5 ?_
  rw [rounds_succ]
  go_wp2
  rw [rounds_succ]
  go_wp2
  rw [rounds_succ]
  go_wp2
  rw [rounds_succ]
  go_wp2
  rw [rounds_succ]
  go_wp2
  go_ret
  refine ⟨⟨_, rfl, src_block 0 _ (heap_alloc_new w _) ?_, fun ad h => by cases h; exact Nat.le_refl _⟩, (Fr.refl _ _).alloc _⟩
  simp [be, bv]
  all_goals omega

end Go.Proofs.Ytikaefjhmgcidaa
/- Contracts of what puts a number, of the program and of the document. -/
namespace Go.Proofs.Ytikaefjhmgcidaa
open Go.RowKit
set_option linter.unusedVariables false

/-- What is put: the error and the bytes. -/
def putOut (n : Nat) (bound v : Int) : Int × List UInt8 := if v < 0 ∨ bound ≤ v then (1, []) else (0, be n v.toNat)

/-- The answer of a call that puts. -/
def PutsAs (w : World) (o : Int × List UInt8) (e : Ending) (w' : World) : Prop := ∃ sp l, e = .returned (.tuple #[.slice sp l l, .int .i64 o.1]) ∧ o.2.length = l ∧ New w w' sp o.2

theorem put2 (v : Int) (w : World) (hv : (Lit.int .i64 v).wf = true) : Calls Try.prog 90 #[.int .i64 v, .int .u64 16] w fun e w' => PutsAs w (putOut 2 65536 v) e w' ∧ Fr (fun _ => False) w w' := by
  have hr : -9223372036854775808 ≤ v ∧ v ≤ 9223372036854775807 := by
    have h2 : IntKind.i64.min ≤ v ∧ v ≤ IntKind.i64.max := by simpa [Lit.wf] using hv
    exact h2
  by_cases h : v < 0 ∨ 65536 ≤ v
  · rw [show putOut 2 65536 v = (1, []) from if_pos h]
    by_cases h0 : v < 0
    · go_enter Try.func90, Try.ntmps90
      go_wp2
      go_ret2
      exact ⟨⟨_, _, rfl, rfl, New.nil _ _⟩, Fr.refl _ _⟩
    · have h1 : (v / 65536 != 0) = true := by simp; omega
      go_enter Try.func90, Try.ntmps90
      go_wp2
      go_ret2
      exact ⟨⟨_, _, rfl, rfl, New.nil _ _⟩, Fr.refl _ _⟩
  · obtain ⟨m, rfl⟩ : ∃ m : Nat, v = m := ⟨v.toNat, by omega⟩
    rw [show putOut 2 65536 (m : Int) = (0, be 2 m) from (if_neg h).trans (by simp)]
    have h1 : ((m : Int) / 65536 != 0) = false := by simp; omega
    go_enter Try.func90, Try.ntmps90
    go_wp2_with fail
    refine (lowest2 m w (by omega)).mono ?_
    rintro e w' ⟨⟨sp, rfl, hs⟩, hf⟩
    go_wp2
    go_ret2
    exact ⟨⟨_, _, rfl, be_length _ _, hs⟩, hf⟩

theorem put3 (v : Int) (w : World) (hv : (Lit.int .i64 v).wf = true) : Calls Try.prog 90 #[.int .i64 v, .int .u64 24] w fun e w' => PutsAs w (putOut 3 16777216 v) e w' ∧ Fr (fun _ => False) w w' := by
  have hr : -9223372036854775808 ≤ v ∧ v ≤ 9223372036854775807 := by
    have h2 : IntKind.i64.min ≤ v ∧ v ≤ IntKind.i64.max := by simpa [Lit.wf] using hv
    exact h2
  by_cases h : v < 0 ∨ 16777216 ≤ v
  · rw [show putOut 3 16777216 v = (1, []) from if_pos h]
    by_cases h0 : v < 0
    · go_enter Try.func90, Try.ntmps90
      go_wp2
      go_ret2
      exact ⟨⟨_, _, rfl, rfl, New.nil _ _⟩, Fr.refl _ _⟩
    · have h1 : (v / 16777216 != 0) = true := by simp; omega
      go_enter Try.func90, Try.ntmps90
      go_wp2
      go_ret2
      exact ⟨⟨_, _, rfl, rfl, New.nil _ _⟩, Fr.refl _ _⟩
  · obtain ⟨m, rfl⟩ : ∃ m : Nat, v = m := ⟨v.toNat, by omega⟩
    rw [show putOut 3 16777216 (m : Int) = (0, be 3 m) from (if_neg h).trans (by simp)]
    have h1 : ((m : Int) / 16777216 != 0) = false := by simp; omega
    go_enter Try.func90, Try.ntmps90
    go_wp2_with fail
    refine (lowest3 m w (by omega)).mono ?_
    rintro e w' ⟨⟨sp, rfl, hs⟩, hf⟩
    go_wp2
    go_ret2
    exact ⟨⟨_, _, rfl, be_length _ _, hs⟩, hf⟩

theorem put4 (v : Int) (w : World) (hv : (Lit.int .i64 v).wf = true) : Calls Try.prog 90 #[.int .i64 v, .int .u64 31] w fun e w' => PutsAs w (putOut 4 2147483648 v) e w' ∧ Fr (fun _ => False) w w' := by
  have hr : -9223372036854775808 ≤ v ∧ v ≤ 9223372036854775807 := by
    have h2 : IntKind.i64.min ≤ v ∧ v ≤ IntKind.i64.max := by simpa [Lit.wf] using hv
    exact h2
  by_cases h : v < 0 ∨ 2147483648 ≤ v
  · rw [show putOut 4 2147483648 v = (1, []) from if_pos h]
    by_cases h0 : v < 0
    · go_enter Try.func90, Try.ntmps90
      go_wp2
      go_ret2
      exact ⟨⟨_, _, rfl, rfl, New.nil _ _⟩, Fr.refl _ _⟩
    · have h1 : (v / 2147483648 != 0) = true := by simp; omega
      go_enter Try.func90, Try.ntmps90
      go_wp2
      go_ret2
      exact ⟨⟨_, _, rfl, rfl, New.nil _ _⟩, Fr.refl _ _⟩
  · obtain ⟨m, rfl⟩ : ∃ m : Nat, v = m := ⟨v.toNat, by omega⟩
    rw [show putOut 4 2147483648 (m : Int) = (0, be 4 m) from (if_neg h).trans (by simp)]
    have h1 : ((m : Int) / 2147483648 != 0) = false := by simp; omega
    go_enter Try.func90, Try.ntmps90
    go_wp2_with fail
    refine (lowest4 m w (by omega)).mono ?_
    rintro e w' ⟨⟨sp, rfl, hs⟩, hf⟩
    go_wp2
    go_ret2
    exact ⟨⟨_, _, rfl, be_length _ _, hs⟩, hf⟩

theorem rput2 (v : Int) (w : World) (hv : (Lit.int .i64 v).wf = true) : Calls Try.prog 45 #[.int .i64 v, .int .i64 2, .int .i64 65536] w fun e w' => PutsAs w (putOut 2 65536 v) e w' ∧ Fr (fun _ => False) w w' := by
  have hr : -9223372036854775808 ≤ v ∧ v ≤ 9223372036854775807 := by
    have h2 : IntKind.i64.min ≤ v ∧ v ≤ IntKind.i64.max := by simpa [Lit.wf] using hv
    exact h2
  by_cases h : v < 0 ∨ 65536 ≤ v
  · rw [show putOut 2 65536 v = (1, []) from if_pos h]
    by_cases h0 : v < 0
    · go_enter Try.func45, Try.ntmps45
      go_wp2
      go_ret2
      exact ⟨⟨_, _, rfl, rfl, New.nil _ _⟩, Fr.refl _ _⟩
    · have h1 : 65536 ≤ v := by omega
      go_enter Try.func45, Try.ntmps45
      go_wp2
      go_ret2
      exact ⟨⟨_, _, rfl, rfl, New.nil _ _⟩, Fr.refl _ _⟩
  · obtain ⟨m, rfl⟩ : ∃ m : Nat, v = m := ⟨v.toNat, by omega⟩
    rw [show putOut 2 65536 (m : Int) = (0, be 2 m) from (if_neg h).trans (by simp)]
    go_enter Try.func45, Try.ntmps45
    go_wp2_with fail
    refine (bytes2 m w (by omega)).mono ?_
    rintro e w' ⟨⟨sp, rfl, hs⟩, hf⟩
    go_wp2
    go_ret2
    exact ⟨⟨_, _, rfl, be_length _ _, hs⟩, hf⟩

theorem rput3 (v : Int) (w : World) (hv : (Lit.int .i64 v).wf = true) : Calls Try.prog 45 #[.int .i64 v, .int .i64 3, .int .i64 16777216] w fun e w' => PutsAs w (putOut 3 16777216 v) e w' ∧ Fr (fun _ => False) w w' := by
  have hr : -9223372036854775808 ≤ v ∧ v ≤ 9223372036854775807 := by
    have h2 : IntKind.i64.min ≤ v ∧ v ≤ IntKind.i64.max := by simpa [Lit.wf] using hv
    exact h2
  by_cases h : v < 0 ∨ 16777216 ≤ v
  · rw [show putOut 3 16777216 v = (1, []) from if_pos h]
    by_cases h0 : v < 0
    · go_enter Try.func45, Try.ntmps45
      go_wp2
      go_ret2
      exact ⟨⟨_, _, rfl, rfl, New.nil _ _⟩, Fr.refl _ _⟩
    · have h1 : 16777216 ≤ v := by omega
      go_enter Try.func45, Try.ntmps45
      go_wp2
      go_ret2
      exact ⟨⟨_, _, rfl, rfl, New.nil _ _⟩, Fr.refl _ _⟩
  · obtain ⟨m, rfl⟩ : ∃ m : Nat, v = m := ⟨v.toNat, by omega⟩
    rw [show putOut 3 16777216 (m : Int) = (0, be 3 m) from (if_neg h).trans (by simp)]
    go_enter Try.func45, Try.ntmps45
    go_wp2_with fail
    refine (bytes3 m w (by omega)).mono ?_
    rintro e w' ⟨⟨sp, rfl, hs⟩, hf⟩
    go_wp2
    go_ret2
    exact ⟨⟨_, _, rfl, be_length _ _, hs⟩, hf⟩

theorem rput4 (v : Int) (w : World) (hv : (Lit.int .i64 v).wf = true) : Calls Try.prog 45 #[.int .i64 v, .int .i64 4, .int .i64 2147483648] w fun e w' => PutsAs w (putOut 4 2147483648 v) e w' ∧ Fr (fun _ => False) w w' := by
  have hr : -9223372036854775808 ≤ v ∧ v ≤ 9223372036854775807 := by
    have h2 : IntKind.i64.min ≤ v ∧ v ≤ IntKind.i64.max := by simpa [Lit.wf] using hv
    exact h2
  by_cases h : v < 0 ∨ 2147483648 ≤ v
  · rw [show putOut 4 2147483648 v = (1, []) from if_pos h]
    by_cases h0 : v < 0
    · go_enter Try.func45, Try.ntmps45
      go_wp2
      go_ret2
      exact ⟨⟨_, _, rfl, rfl, New.nil _ _⟩, Fr.refl _ _⟩
    · have h1 : 2147483648 ≤ v := by omega
      go_enter Try.func45, Try.ntmps45
      go_wp2
      go_ret2
      exact ⟨⟨_, _, rfl, rfl, New.nil _ _⟩, Fr.refl _ _⟩
  · obtain ⟨m, rfl⟩ : ∃ m : Nat, v = m := ⟨v.toNat, by omega⟩
    rw [show putOut 4 2147483648 (m : Int) = (0, be 4 m) from (if_neg h).trans (by simp)]
    go_enter Try.func45, Try.ntmps45
    go_wp2_with fail
    refine (bytes4 m w (by omega)).mono ?_
    rintro e w' ⟨⟨sp, rfl, hs⟩, hf⟩
    go_wp2
    go_ret2
    exact ⟨⟨_, _, rfl, be_length _ _, hs⟩, hf⟩

theorem Put16 (v : Int) (w : World) (hv : (Lit.int .i64 v).wf = true) : Calls Try.prog 88 #[.int .i64 v] w fun e w' => PutsAs w (putOut 2 65536 v) e w' ∧ Fr (fun _ => False) w w' := by
  go_enter Try.func88, Try.ntmps88
  go_wp2_with fail
  refine (put2 v w hv).mono ?_
  rintro e w' ⟨⟨sp, l, rfl, hl, hs⟩, hf⟩
  go_wp2
  go_ret2
  exact ⟨⟨_, _, rfl, hl, hs⟩, hf⟩

theorem Put31 (v : Int) (w : World) (hv : (Lit.int .i64 v).wf = true) : Calls Try.prog 84 #[.int .i64 v] w fun e w' => PutsAs w (putOut 4 2147483648 v) e w' ∧ Fr (fun _ => False) w w' := by
  go_enter Try.func84, Try.ntmps84
  go_wp2_with fail
  refine (put4 v w hv).mono ?_
  rintro e w' ⟨⟨sp, l, rfl, hl, hs⟩, hf⟩
  go_wp2
  go_ret2
  exact ⟨⟨_, _, rfl, hl, hs⟩, hf⟩

theorem RPut16 (v : Int) (w : World) (hv : (Lit.int .i64 v).wf = true) : Calls Try.prog 44 #[.int .i64 v] w fun e w' => PutsAs w (putOut 2 65536 v) e w' ∧ Fr (fun _ => False) w w' := by
  go_enter Try.func44, Try.ntmps44
  go_wp2_with fail
  refine (rput2 v w hv).mono ?_
  rintro e w' ⟨⟨sp, l, rfl, hl, hs⟩, hf⟩
  go_wp2
  go_ret2
  exact ⟨⟨_, _, rfl, hl, hs⟩, hf⟩

theorem RPut24 (v : Int) (w : World) (hv : (Lit.int .i64 v).wf = true) : Calls Try.prog 28 #[.int .i64 v] w fun e w' => PutsAs w (putOut 3 16777216 v) e w' ∧ Fr (fun _ => False) w w' := by
  go_enter Try.func28, Try.ntmps28
  go_wp2_with fail
  refine (rput3 v w hv).mono ?_
  rintro e w' ⟨⟨sp, l, rfl, hl, hs⟩, hf⟩
  go_wp2
  go_ret2
  exact ⟨⟨_, _, rfl, hl, hs⟩, hf⟩

theorem Put32 (m : Nat) (w : World) (hm : m < 4294967296) : Calls Try.prog 85 #[.int .u32 m] w fun e w' => (∃ sp, e = .returned (.slice sp 4 4) ∧ New w w' sp (be 4 m)) ∧ Fr (fun _ => False) w w' := by
  go_enter Try.func85, Try.ntmps85
  go_wp2_with fail
  refine (lowest4 m w hm).mono ?_
  rintro e w' ⟨⟨sp, rfl, hs⟩, hf⟩
  go_wp2
  go_ret
  exact ⟨⟨_, rfl, hs⟩, hf⟩

theorem RPut32 (m : Nat) (w : World) (hm : m < 4294967296) : Calls Try.prog 43 #[.int .u32 m] w fun e w' => (∃ sp, e = .returned (.slice sp 4 4) ∧ New w w' sp (be 4 m)) ∧ Fr (fun _ => False) w w' := by
  go_enter Try.func43, Try.ntmps43
  go_wp2_with fail
  refine (bytes4 m w (by omega)).mono ?_
  rintro e w' ⟨⟨sp, rfl, hs⟩, hf⟩
  go_wp2
  go_ret
  exact ⟨⟨_, rfl, hs⟩, hf⟩

end Go.Proofs.Ytikaefjhmgcidaa
/- Contracts of the readers that are called from without, of the program and of the document. -/
namespace Go.Proofs.Ytikaefjhmgcidaa
open Go.RowKit
set_option linter.unusedVariables false

theorem num_lt (X : List UInt8) : num X < 256 ^ X.length := by
  have h : ∀ (X : List UInt8) (v : Nat), X.foldl (fun v x => v * 256 + x.toNat) v < (v + 1) * 256 ^ X.length := by
    intro X
    induction X with
    | nil => intro v; simp
    | cons x r ih =>
      intro v
      have h1 := ih (v * 256 + x.toNat)
      have hx := x.toNat_lt
      rw [List.foldl_cons, List.length_cons, Nat.pow_succ]
      refine Nat.lt_of_lt_of_le h1 ?_
      rw [Nat.mul_comm (256 ^ r.length) 256, ← Nat.mul_assoc]
      exact Nat.mul_le_mul_right _ (by omega)
  simpa [num] using h X 0

theorem readOut_lt (n : Nat) (X : List UInt8) (p : Int) (hn : n ≤ 4) : (readOut n X p).1 < 256 ^ n := by
  unfold readOut
  split
  · exact Nat.pow_pos (by omega)
  · split
    · exact Nat.pow_pos (by omega)
    · exact Nat.lt_of_lt_of_le (num_lt _) (Nat.pow_le_pow_right (by omega) (by simp; omega))

theorem readOut_place (n : Nat) (X : List UInt8) (p : Int) (hX : X.length ≤ 9223372036854775807) : 0 ≤ (readOut n X p).2.1 ∧ (readOut n X p).2.1 ≤ 9223372036854775807 := by
  unfold readOut
  split
  · simp
  · split
    · simp; omega
    · simp; omega

theorem andNot31 (m : Nat) (hm : m < 4294967296) : bits .andNot .u32 (m : Int) 2147483648 = ((m % 2147483648 : Nat) : Int) := by
  have h1 : (BitVec.ofInt 32 (m : Int) &&& ~~~ BitVec.ofInt 32 2147483648).toNat = m % 2147483648 := by
    rw [BitVec.toNat_and, BitVec.ofInt_natCast, BitVec.toNat_ofNat, Nat.mod_eq_of_lt (by simpa using hm), show (~~~ BitVec.ofInt 32 2147483648).toNat = 2 ^ 31 - 1 by decide, Nat.and_two_pow_sub_one_eq_mod]
  show IntKind.u32.wrap ((BitVec.ofInt 32 (m : Int) &&& ~~~ BitVec.ofInt 32 2147483648).toNat : Int) = _
  rw [h1, IntKind.wrap_u32]
  omega

theorem small_any (m : Nat) (p q : Int) (w : World) (hm : m < 4294967296) :
    Calls Try.prog 66 #[.int .u32 m, .int .i64 p, .int .i64 q] w fun e w' => e = .returned (.tuple #[.int .i64 ((m % 2147483648 : Nat) : Int), .int .i64 p, .int .i64 q]) ∧ w' = w := by
  have h := andNot31 m hm
  go_enter Try.func66, Try.ntmps66
  go_wp2
  go_ret3
  exact ⟨rfl, rfl⟩

theorem U16 (a : Option Addr) (len cap : Nat) (p : Int) (w : World) (X : List UInt8) (hs : SrcAt w a X) (hl : X.length = len) (hm : len ≤ 9223372036854775807) :
    Calls Try.prog 89 #[.slice a len cap, .int .i64 p] w fun e w' => e = .returned (.tuple #[.int .i64 (((readOut 2 X p).1 : Nat) : Int), .int .i64 (readOut 2 X p).2.1, .int .i64 (readOut 2 X p).2.2]) ∧ Fr (fun _ => False) w w' := by
  have hlt : (readOut 2 X p).1 < 65536 := readOut_lt 2 X p (by omega)
  go_enter Try.func89, Try.ntmps89
  go_wp2_with fail
  refine (read2_any a len cap p w X hs hl hm).mono ?_
  rintro e w1 ⟨rfl, hf⟩
  go_wp2_with fail
  refine (small_any _ _ _ w1 (Nat.lt_of_lt_of_le hlt (by decide))).mono ?_
  rintro e w2 ⟨rfl, rfl⟩
  go_wp2
  go_ret3
  refine ⟨?_, hf⟩
  simp
  omega

theorem U24 (a : Option Addr) (len cap : Nat) (p : Int) (w : World) (X : List UInt8) (hs : SrcAt w a X) (hl : X.length = len) (hm : len ≤ 9223372036854775807) :
    Calls Try.prog 58 #[.slice a len cap, .int .i64 p] w fun e w' => e = .returned (.tuple #[.int .i64 (((readOut 3 X p).1 : Nat) : Int), .int .i64 (readOut 3 X p).2.1, .int .i64 (readOut 3 X p).2.2]) ∧ Fr (fun _ => False) w w' := by
  have hlt : (readOut 3 X p).1 < 16777216 := readOut_lt 3 X p (by omega)
  go_enter Try.func58, Try.ntmps58
  go_wp2_with fail
  refine (read3_any a len cap p w X hs hl hm).mono ?_
  rintro e w1 ⟨rfl, hf⟩
  go_wp2_with fail
  refine (small_any _ _ _ w1 (Nat.lt_of_lt_of_le hlt (by decide))).mono ?_
  rintro e w2 ⟨rfl, rfl⟩
  go_wp2
  go_ret3
  refine ⟨?_, hf⟩
  simp
  omega

theorem U31 (a : Option Addr) (len cap : Nat) (p : Int) (w : World) (X : List UInt8) (hs : SrcAt w a X) (hl : X.length = len) (hm : len ≤ 9223372036854775807) :
    Calls Try.prog 59 #[.slice a len cap, .int .i64 p] w fun e w' => e = .returned (.tuple #[.int .i64 (((readOut 4 X p).1 % 2147483648 : Nat) : Int), .int .i64 (readOut 4 X p).2.1, .int .i64 (readOut 4 X p).2.2]) ∧ Fr (fun _ => False) w w' := by
  have hlt : (readOut 4 X p).1 < 4294967296 := readOut_lt 4 X p (by omega)
  go_enter Try.func59, Try.ntmps59
  go_wp2_with fail
  refine (read4_any a len cap p w X hs hl hm).mono ?_
  rintro e w1 ⟨rfl, hf⟩
  go_wp2_with fail
  refine (small_any _ _ _ w1 (Nat.lt_of_lt_of_le hlt (by decide))).mono ?_
  rintro e w2 ⟨rfl, rfl⟩
  go_wp2
  go_ret3
  refine ⟨?_, hf⟩
  rfl

theorem U32 (a : Option Addr) (len cap : Nat) (p : Int) (w : World) (X : List UInt8) (hs : SrcAt w a X) (hl : X.length = len) (hm : len ≤ 9223372036854775807) :
    Calls Try.prog 86 #[.slice a len cap, .int .i64 p] w fun e w' => e = .returned (.tuple #[.int .u32 (((readOut 4 X p).1 : Nat) : Int), .int .i64 (readOut 4 X p).2.1, .int .i64 (readOut 4 X p).2.2]) ∧ Fr (fun _ => False) w w' := by
  go_enter Try.func86, Try.ntmps86
  go_wp2_with fail
  refine (read4_any a len cap p w X hs hl hm).mono ?_
  rintro e w1 ⟨rfl, hf⟩
  go_wp2
  go_ret3
  exact ⟨rfl, hf⟩

theorem RU16 (a : Option Addr) (len cap : Nat) (p : Int) (w : World) (X : List UInt8) (hs : SrcAt w a X) (hl : X.length = len) (hm : len ≤ 9223372036854775807) :
    Calls Try.prog 53 #[.slice a len cap, .int .i64 p] w fun e w' => e = .returned (.tuple #[.int .i64 (((readOut 2 X p).1 : Nat) : Int), .int .i64 (readOut 2 X p).2.1, .int .i64 (readOut 2 X p).2.2]) ∧ w' = w := by
  have hlt : (readOut 2 X p).1 < 65536 := readOut_lt 2 X p (by omega)
  go_enter Try.func53, Try.ntmps53
  go_wp2_with fail
  refine (number2_any a len cap p w X hs hl hm).mono ?_
  rintro e w1 ⟨rfl, rfl⟩
  go_wp2
  go_ret3
  exact ⟨by simp, rfl⟩

theorem RU24 (a : Option Addr) (len cap : Nat) (p : Int) (w : World) (X : List UInt8) (hs : SrcAt w a X) (hl : X.length = len) (hm : len ≤ 9223372036854775807) :
    Calls Try.prog 48 #[.slice a len cap, .int .i64 p] w fun e w' => e = .returned (.tuple #[.int .i64 (((readOut 3 X p).1 : Nat) : Int), .int .i64 (readOut 3 X p).2.1, .int .i64 (readOut 3 X p).2.2]) ∧ w' = w := by
  have hlt : (readOut 3 X p).1 < 16777216 := readOut_lt 3 X p (by omega)
  go_enter Try.func48, Try.ntmps48
  go_wp2_with fail
  refine (number3_any a len cap p w X hs hl hm).mono ?_
  rintro e w1 ⟨rfl, rfl⟩
  go_wp2
  go_ret3
  exact ⟨by simp, rfl⟩

theorem RU31 (a : Option Addr) (len cap : Nat) (p : Int) (w : World) (X : List UInt8) (hs : SrcAt w a X) (hl : X.length = len) (hm : len ≤ 9223372036854775807) :
    Calls Try.prog 49 #[.slice a len cap, .int .i64 p] w fun e w' => e = .returned (.tuple #[.int .i64 (((readOut 4 X p).1 % 2147483648 : Nat) : Int), .int .i64 (readOut 4 X p).2.1, .int .i64 (readOut 4 X p).2.2]) ∧ w' = w := by
  have hlt : (readOut 4 X p).1 < 4294967296 := readOut_lt 4 X p (by omega)
  go_enter Try.func49, Try.ntmps49
  go_wp2_with fail
  refine (number4_any a len cap p w X hs hl hm).mono ?_
  rintro e w1 ⟨rfl, rfl⟩
  go_wp2
  go_ret3
  exact ⟨by simp, rfl⟩

theorem RU32 (a : Option Addr) (len cap : Nat) (p : Int) (w : World) (X : List UInt8) (hs : SrcAt w a X) (hl : X.length = len) (hm : len ≤ 9223372036854775807) :
    Calls Try.prog 52 #[.slice a len cap, .int .i64 p] w fun e w' => e = .returned (.tuple #[.int .u32 (((readOut 4 X p).1 : Nat) : Int), .int .i64 (readOut 4 X p).2.1, .int .i64 (readOut 4 X p).2.2]) ∧ w' = w := by
  have hlt : (readOut 4 X p).1 < 4294967296 := readOut_lt 4 X p (by omega)
  go_enter Try.func52, Try.ntmps52
  go_wp2_with fail
  refine (number4_any a len cap p w X hs hl hm).mono ?_
  rintro e w1 ⟨rfl, rfl⟩
  go_wp2
  go_ret3
  exact ⟨by simp, rfl⟩

end Go.Proofs.Ytikaefjhmgcidaa
/- Frames, plainly: what they are, what is written of them, what is read of bytes. -/
namespace Go.Proofs.Ytikaefjhmgcidaa
open Go.RowKit
set_option linter.unusedVariables false

/-- A frame. -/
structure Fra where
  k : Int
  fl : Int
  st : Int
  X : List UInt8
  pad : Int
  code : Nat
  last : Int
  inc : Int
  dep : Int
  only : Bool
  wt : Int
  Y : List (Int × Nat)

/-- Settings in memory. -/
structure SetsAt (w : World) (q : Option Addr) (c : Nat) (Y : List (Int × Nat)) : Prop where
  cap : Y.length ≤ c
  big : c ≤ maxLen
  few : Y.length * 16 < 2 ^ 47
  cells : ∀ r s, Y[r]? = some s → ∃ b o, q = some ⟨b, o, none⟩ ∧ b < w.heap.size ∧ w.cell? ⟨b, o + r * 2, none⟩ = some (.int .i64 s.1) ∧ w.cell? ⟨b, o + r * 2 + 1, none⟩ = some (.int .u32 (s.2 : Nat)) ∧ (Lit.int .i64 s.1).wf = true ∧ s.2 < 4294967296

theorem SetsAt.later {w w' : World} {q : Option Addr} {c : Nat} {Y : List (Int × Nat)} (h : SetsAt w q c Y) (f : Fr (fun _ => False) w w') : SetsAt w' q c Y := by
  refine ⟨h.cap, h.big, h.few, fun r x hr => ?_⟩
  obtain ⟨b, o, hq, hb, h0, h1, h2⟩ := h.cells r x hr
  have hc : ∀ j, w'.cell? ⟨b, j, none⟩ = w.cell? ⟨b, j, none⟩ := fun j => f.cell (p := ⟨b, j, none⟩) hb id
  exact ⟨b, o, hq, Nat.lt_of_lt_of_le hb f.size, (hc _).trans h0, (hc _).trans h1, h2⟩
theorem SetsAt.nil (w : World) : SetsAt w none 0 [] := ⟨by simp, by simp [maxLen], by simp, fun r h hr => by simp at hr⟩

/-- A frame's numbers are such as fit, and its payload and settings lie in memory. -/
structure FrIn (w : World) (f : Fra) (p : Option Addr) (q : Option Addr) (cq : Nat) : Prop where
  src : SrcAt w p f.X
  sets : SetsAt w q cq f.Y
  few : f.X.length < 2 ^ 47
  code : f.code < 4294967296
  k : (Lit.int .i64 f.k).wf = true
  fl : (Lit.int .i64 f.fl).wf = true
  st : (Lit.int .i64 f.st).wf = true
  pad : (Lit.int .i64 f.pad).wf = true
  last : (Lit.int .i64 f.last).wf = true
  inc : (Lit.int .i64 f.inc).wf = true
  dep : (Lit.int .i64 f.dep).wf = true
  wt : (Lit.int .i64 f.wt).wf = true
theorem FrIn.later {w w' : World} {f : Fra} {p q : Option Addr} {cq : Nat} (h : FrIn w f p q cq) (hf : Fr (fun _ => False) w w') : FrIn w' f p q cq :=
  { h with src := h.src.oldF hf, sets := h.sets.later hf }

def has (fl b : Int) : Bool := decide (fl / b % 2 = 1)
def idOk (n : Int) : Bool := decide (0 ≤ n ∧ n ≤ 2147483647)
def knownB (k : Int) : Bool := decide (0 ≤ k ∧ k ≤ 9)
def canP (k : Int) : Bool := decide (k = 0 ∨ k = 1 ∨ k = 5)
def padd (f : Fra) : Bool := canP f.k && has f.fl 8
def placedB (k st : Int) : Bool := if k = 4 ∨ k = 6 ∨ k = 7 then decide (st = 0) else if k = 0 ∨ k = 1 ∨ k = 2 ∨ k = 3 ∨ k = 5 ∨ k = 9 then decide (st ≠ 0) else true
def headOk (f : Fra) : Bool := knownB f.k && decide (0 ≤ f.fl ∧ f.fl ≤ 255) && idOk f.st
def padOk (f : Fra) : Bool := if padd f then decide (0 ≤ f.pad ∧ f.pad ≤ 255) else decide (f.pad = 0) || !canP f.k
/-- Which parts stand in a frame: 0 Last, 1 Code, 2 a priority, 3 what is left, 4 settings, 5 eight bytes, 6 Inc. -/
def partsOf (f : Fra) : List Nat :=
  if f.k = 1 then (if has f.fl 32 then [2, 3] else [3]) else if f.k = 0 ∨ f.k = 9 then [3] else if f.k = 2 then [2] else if f.k = 3 then [1] else if f.k = 4 then [4]
  else if f.k = 5 then [0, 3] else if f.k = 6 then [5] else if f.k = 7 then [0, 1, 3] else if f.k = 8 then [6] else []
def setB (s : Int × Nat) : List UInt8 := be 2 s.1.toNat ++ be 4 s.2
def setsB (Y : List (Int × Nat)) : List UInt8 := (Y.map setB).flatten
def setOk (s : Int × Nat) : Bool := decide (0 ≤ s.1 ∧ s.1 < 65536)
def depW (f : Fra) : Nat := f.dep.toNat + if f.only then 2147483648 else 0
/-- What is written of a part: the error and the bytes. -/
def pieceO (j : Nat) (f : Fra) : Int × List UInt8 :=
  if j = 0 then (if idOk f.last then (0, be 4 f.last.toNat) else (1, []))
  else if j = 1 then (0, be 4 f.code)
  else if j = 2 then (if idOk f.dep && decide (1 ≤ f.wt ∧ f.wt ≤ 256) then (0, be 4 (depW f) ++ [UInt8.ofNat (f.wt - 1).toNat]) else (1, []))
  else if j = 3 then (0, f.X)
  else if j = 4 then (if decide (0 < f.Y.length) && has f.fl 1 then (1, []) else if f.Y.all setOk then (0, setsB f.Y) else (1, []))
  else if j = 5 then (if f.X.length = 8 then (0, f.X) else (1, []))
  else (if decide (1 ≤ f.inc ∧ f.inc ≤ 2147483647) then (0, be 4 f.inc.toNat) else (1, []))
/-- What is written of parts. -/
def piecesO (f : Fra) : List Nat → Int × List (List UInt8)
  | [] => (0, [])
  | j :: js => if (pieceO j f).1 = 0 then ((piecesO f js).1, (pieceO j f).2 :: (piecesO f js).2) else (1, [])
def padsB (f : Fra) : List (List UInt8) := if padd f then [[UInt8.ofNat f.pad.toNat]] else []
def padsE (f : Fra) : List (List UInt8) := if padd f then [List.replicate f.pad.toNat 0] else []
/-- A frame's pieces behind its head. -/
def allP (f : Fra) : Int × List (List UInt8) := if (piecesO f (partsOf f)).1 = 0 then (0, padsB f ++ (piecesO f (partsOf f)).2 ++ padsE f) else (1, [])
def headB (f : Fra) (n : Nat) : List UInt8 := be 3 n ++ [UInt8.ofNat f.k.toNat, UInt8.ofNat f.fl.toNat] ++ be 4 f.st.toNat
/-- What is written of a frame: the error and the bytes. -/
def writeO (f : Fra) : Int × List UInt8 :=
  if headOk f && placedB f.k f.st && padOk f then
    (if (allP f).1 = 0 then (if (allP f).2.flatten.length ≤ 16777215 then (0, headB f (allP f).2.flatten.length ++ (allP f).2.flatten) else (2, [])) else (1, []))
  else (1, [])

def zeroF : Fra := ⟨0, 0, 0, [], 0, 0, 0, 0, 0, false, 0, []⟩
def sizeP (j : Nat) : Nat := if j = 0 then 4 else if j = 1 then 4 else if j = 2 then 5 else if j = 3 then 0 else if j = 4 then 0 else if j = 5 then 8 else 4
def leastP (js : List Nat) : Nat := (js.map sizeP).sum
def sizedB (f : Fra) (n : Nat) : Bool :=
  if f.k = 2 then decide (n = 5) else if f.k = 3 ∨ f.k = 8 then decide (n = 4) else if f.k = 4 then decide (n = 0 ∨ (n % 6 = 0 ∧ has f.fl 1 = false)) else if f.k = 6 then decide (n = 8) else if f.k = 7 then decide (8 ≤ n) else true
/-- The settings that so many bytes tell. -/
def setsOf : Nat → List UInt8 → List (Int × Nat)
  | 0, _ => []
  | n + 1, b => (((num (b.take 2) : Nat) : Int), num ((b.drop 2).take 4)) :: setsOf n (b.drop 6)
/-- A part is read. -/
def rdP (j : Nat) (f : Fra) (b : List UInt8) : Fra :=
  if j = 0 then { f with last := ((num (b.take 4) % 2147483648 : Nat) : Int) }
  else if j = 1 then { f with code := num (b.take 4) }
  else if j = 2 then { f with dep := ((num (b.take 4) % 2147483648 : Nat) : Int), only := decide (128 ≤ (b.getD 0 0).toNat), wt := (((b.getD 4 0).toNat : Nat) : Int) + 1 }
  else if j = 3 ∨ j = 5 then { f with X := b }
  else if j = 4 then { f with Y := f.Y ++ setsOf (b.length / 6) b }
  else { f with inc := ((num (b.take 4) % 2147483648 : Nat) : Int) }
def cutP (j : Nat) (b : List UInt8) : Nat := if sizeP j = 0 then b.length else sizeP j
def rd : List Nat → Fra → List UInt8 → Fra
  | [], f, _ => f
  | j :: js, f, b => rd js (rdP j f (b.take (cutP j b))) (b.drop (cutP j b))
/-- What is wrong: is anything, of which stream, by which code. -/
structure Flt where
  is : Bool
  st : Int
  code : Int
def padN (f : Fra) (b : List UInt8) : Nat := if padd f then (b.getD 0 0).toNat else 0
def padC (f : Fra) (b : List UInt8) : List UInt8 := if padd f then b.drop 1 else b
/-- What stands behind a head is read. -/
def readO (f : Fra) (b : List UInt8) : Fra × Flt :=
  if placedB f.k f.st = false then (zeroF, ⟨true, 0, 1⟩)
  else if sizedB f b.length = false then (zeroF, ⟨true, if f.k = 2 then f.st else 0, 6⟩)
  else if padd f = true ∧ b.length = 0 then (zeroF, ⟨true, 0, 6⟩)
  else if (padC f b).length < leastP (partsOf f) then (zeroF, ⟨true, 0, 6⟩)
  else if (padC f b).length - leastP (partsOf f) < padN f b then (zeroF, ⟨true, 0, 1⟩)
  else let g := rd (partsOf f) { f with pad := padN f b } ((padC f b).take ((padC f b).length - padN f b))
    if g.k = 8 ∧ g.inc = 0 then (zeroF, ⟨true, g.st, 1⟩) else (g, ⟨false, 0, 0⟩)
def headF (B : List UInt8) : Fra := { zeroF with k := (B.getD 3 0).toNat, fl := (B.getD 4 0).toNat, st := ((num ((B.drop 5).take 4) % 2147483648 : Nat) : Int) }
/-- The frame that bytes begin with: it, how many bytes it has, what is wrong, the error. -/
def parseO (B : List UInt8) (most : Int) : Fra × Nat × Flt × Int :=
  if most < 0 then (zeroF, 0, ⟨false, 0, 0⟩, 1)
  else if B.length < 9 then (zeroF, 0, ⟨false, 0, 0⟩, 3)
  else if most < (num (B.take 3) : Nat) then (zeroF, 9, ⟨true, 0, 6⟩, 0)
  else if B.length < 9 + num (B.take 3) then (zeroF, 0, ⟨false, 0, 0⟩, 3)
  else ((readO (headF B) ((B.drop 9).take (num (B.take 3)))).1, 9 + num (B.take 3), (readO (headF B) ((B.drop 9).take (num (B.take 3)))).2, 0)

theorem i64r {v : Int} (hv : (Lit.int .i64 v).wf = true) : -9223372036854775808 ≤ v ∧ v ≤ 9223372036854775807 := by
  have h2 : IntKind.i64.min ≤ v ∧ v ≤ IntKind.i64.max := by simpa [Lit.wf] using hv
  exact h2
theorem i64w {v : Int} (h : -9223372036854775808 ≤ v) (h' : v ≤ 9223372036854775807) : (Lit.int .i64 v).wf = true := by
  have h2 : IntKind.i64.min ≤ v ∧ v ≤ IntKind.i64.max := ⟨h, h'⟩
  simpa [Lit.wf] using h2
end Go.Proofs.Ytikaefjhmgcidaa
