/- Contracts of package field's readers: what is read, and that nothing that was there is changed. -/
import Derived.Test.YtpjbgjgaigkbcaaGreatRows
import Derived.Test.YtpjbgjgaigkbcaaGreatGf
import Derived.WalkKit
import Derived.OwnWalk
import Derived.RegionTactic
import Derived.BigQuiet
import Derived.LoopN
import Derived.Laws.BitsLemmas
import Derived.Deep.QuietTactic
import Derived.WalkLawsBesides
namespace Go.Proofs.YtpjbgjgaigkbcaaGreat
open Go.RowKit
set_option linter.unusedVariables false

/-- The number of these bytes, the highest first. -/
def num (X : List UInt8) : Nat := X.foldl (fun v x => v * 256 + x.toNat) 0

/-- What is read of n bytes at a place: the number, the place behind it, the error. -/
def readOut (n : Nat) (X : List UInt8) (p : Int) : Nat × Int × Int :=
  if p < 0 ∨ (X.length : Int) < p then (0, 0, 1) else if (X.length : Int) - p < n then (0, X.length, 3) else (num ((X.drop p.toNat).take n), p + n, 0)

theorem or32 (v : Int) (x : UInt8) (h0 : 0 ≤ v) (h1 : v % 256 = 0) (h2 : v < 4294967296) : bits .or .u32 v (x.toNat : Int) = v + x.toNat := by
  have hx := x.toNat_lt
  exact bits_join .u32 32 (by decide) (fun n h₀ h₁ => by rw [IntKind.wrap_u32]; omega) 8 v x.toNat h0 h1 h2 (by omega) (by omega) (by omega)

theorem src_cell {w : World} {ad : Addr} {X : List UInt8} (h : SrcAt w (some ad) X) (j : Nat) (x : UInt8) (hj : X[j]? = some x) : w.cell? (ad.add j) = some (.int .u8 x.toNat) := by
  obtain ⟨a, e, hc⟩ := h j x hj
  cases e
  exact hc

theorem read2_arg (a : Option Addr) (len cap : Nat) (p : Int) (w : World) (h : p < 0 ∨ (len : Int) < p) :
    Calls Tryz.prog 107 #[.slice a len cap, .int .i64 p] w fun e w' => e = .returned (.tuple #[.int .u32 0, .int .i64 0, .int .i64 1]) ∧ Fr (fun _ => False) w w' := by
  rcases h with h | h
  · go_enter Tryz.func107, Tryz.ntmps107
    go_wp2
    go_ret3
    exact ⟨rfl, (Fr.refl _ _).alloc _⟩
  · by_cases h0 : p < 0
    · go_enter Tryz.func107, Tryz.ntmps107
      go_wp2
      go_ret3
      exact ⟨rfl, (Fr.refl _ _).alloc _⟩
    · go_enter Tryz.func107, Tryz.ntmps107
      go_wp2
      go_ret3
      exact ⟨rfl, (Fr.refl _ _).alloc _⟩

theorem read2_short (a : Option Addr) (len cap p : Nat) (w : World) (hm : len ≤ 9223372036854775807) (h : p ≤ len) (h' : len < p + 2) :
    Calls Tryz.prog 107 #[.slice a len cap, .int .i64 p] w fun e w' => e = .returned (.tuple #[.int .u32 0, .int .i64 len, .int .i64 3]) ∧ Fr (fun _ => False) w w' := by
  go_enter Tryz.func107, Tryz.ntmps107
  go_wp2
  go_ret3
  exact ⟨rfl, (Fr.refl _ _).alloc _⟩

theorem read2_ok (ad : Addr) (len cap : Nat) (p : Nat) (w : World) (x0 x1 : UInt8) (h : p + 2 ≤ len) (hm : len ≤ 9223372036854775807) (h0 : w.cell? (ad.add p) = some (.int .u8 x0.toNat)) (h1 : w.cell? (ad.add (p + 1)) = some (.int .u8 x1.toNat)) :
    Calls Tryz.prog 107 #[.slice (some ad) len cap, .int .i64 p] w fun e w' => e = .returned (.tuple #[.int .u32 ((x0.toNat : Int) * 256 + x1.toNat), .int .i64 (p + 2 : Nat), .int .i64 0]) ∧ Fr (fun _ => False) w w' := by
  have l0 := World.block_lt_of_cell? _ _ h0
  have u0 : x0.toNat < 256 := x0.toNat_lt
  have k0 : ∀ o, (w.alloc o).cell? (ad.add p) = some (.int .u8 x0.toNat) := fun o => (World.cell?_alloc_lt _ _ _ l0).trans h0
  have e0 : bits .or .u32 0 (x0.toNat : Int) = (x0.toNat : Int) := by rw [or32 _ _ (by omega) (by omega) (by omega)]; omega
  have l1 := World.block_lt_of_cell? _ _ h1
  have u1 : x1.toNat < 256 := x1.toNat_lt
  have k1 : ∀ o, (w.alloc o).cell? ⟨ad.block, ad.off + (p + 1), none⟩ = some (.int .u8 x1.toNat) := fun o => (World.cell?_alloc_lt _ _ _ l1).trans h1
  have e1 : bits .or .u32 ((x0.toNat : Int) * 256) (x1.toNat : Int) = ((x0.toNat : Int) * 256 + x1.toNat) := or32 _ _ (by omega) (by omega) (by omega)
  clear l0
  clear l1
  go_enter Tryz.func107, Tryz.ntmps107
  go_wp2
  refine wp_loop_rounds 3 ?_
  rw [rounds_succ]
  go_wp2
  rw [rounds_succ]
  go_wp2
  rw [rounds_succ]
  go_wp2
  go_quiet (fail)
  go_wp2
  go_ret3
  refine ⟨?_, ((Fr.refl _ _).alloc _).drewN _⟩
  simp

theorem read2_any (a : Option Addr) (len cap : Nat) (p : Int) (w : World) (X : List UInt8) (hs : SrcAt w a X) (hl : X.length = len) (hm : len ≤ 9223372036854775807) :
    Calls Tryz.prog 107 #[.slice a len cap, .int .i64 p] w fun e w' => e = .returned (.tuple #[.int .u32 (readOut 2 X p).1, .int .i64 (readOut 2 X p).2.1, .int .i64 (readOut 2 X p).2.2]) ∧ Fr (fun _ => False) w w' := by
  subst hl
  by_cases h1 : p < 0 ∨ (X.length : Int) < p
  · rw [show readOut 2 X p = (0, 0, 1) by simp only [readOut, if_pos h1]]
    exact read2_arg a _ cap p w h1
  · obtain ⟨q, rfl⟩ : ∃ q : Nat, p = q := ⟨p.toNat, by omega⟩
    by_cases h2 : (X.length : Int) - q < 2
    · rw [show readOut 2 X q = (0, (X.length : Int), 3) by rw [readOut, if_neg h1, if_pos (by simpa using h2)]]
      exact read2_short a _ cap q w hm (by omega) (by omega)
    · have hx : ∀ i, i < 2 → X[q + i]? = some (X[q + i]?.getD 0) := fun i hi => by
        rw [List.getElem?_eq_getElem (by omega)]; rfl
      obtain ⟨ad, rfl, -⟩ := hs _ _ (hx 0 (by omega))
      have hn : (X.drop q).take 2 = [X[q + 0]?.getD 0, X[q + 1]?.getD 0] := by
        apply List.ext_getElem?
        intro i
        by_cases hi : i < 2
        · rw [List.getElem?_take_of_lt hi, List.getElem?_drop, hx i hi]
          obtain rfl | rfl : i = 0 ∨ i = 1 := by omega
          all_goals rfl
        · rw [List.getElem?_eq_none (by simp; omega), List.getElem?_eq_none (by simp; omega)]
      rw [show readOut 2 X q = (num [X[q + 0]?.getD 0, X[q + 1]?.getD 0], ((q + 2 : Nat) : Int), 0) by rw [readOut, if_neg h1, if_neg (by simpa using h2)]; simp only [Int.toNat_natCast, hn]; simp]
      refine (read2_ok ad X.length cap q w (X[q + 0]?.getD 0) (X[q + 1]?.getD 0) (by omega) hm (src_cell hs _ _ (hx 0 (by omega))) (src_cell hs _ _ (hx 1 (by omega)))).mono ?_
      rintro e w' ⟨rfl, hf⟩
      refine ⟨?_, hf⟩
      simp [num]

theorem read4_arg (a : Option Addr) (len cap : Nat) (p : Int) (w : World) (h : p < 0 ∨ (len : Int) < p) :
    Calls Tryz.prog 106 #[.slice a len cap, .int .i64 p] w fun e w' => e = .returned (.tuple #[.int .u32 0, .int .i64 0, .int .i64 1]) ∧ Fr (fun _ => False) w w' := by
  rcases h with h | h
  · go_enter Tryz.func106, Tryz.ntmps106
    go_wp2
    go_ret3
    exact ⟨rfl, (Fr.refl _ _).alloc _⟩
  · by_cases h0 : p < 0
    · go_enter Tryz.func106, Tryz.ntmps106
      go_wp2
      go_ret3
      exact ⟨rfl, (Fr.refl _ _).alloc _⟩
    · go_enter Tryz.func106, Tryz.ntmps106
      go_wp2
      go_ret3
      exact ⟨rfl, (Fr.refl _ _).alloc _⟩

theorem read4_short (a : Option Addr) (len cap p : Nat) (w : World) (hm : len ≤ 9223372036854775807) (h : p ≤ len) (h' : len < p + 4) :
    Calls Tryz.prog 106 #[.slice a len cap, .int .i64 p] w fun e w' => e = .returned (.tuple #[.int .u32 0, .int .i64 len, .int .i64 3]) ∧ Fr (fun _ => False) w w' := by
  go_enter Tryz.func106, Tryz.ntmps106
  go_wp2
  go_ret3
  exact ⟨rfl, (Fr.refl _ _).alloc _⟩

theorem read4_ok (ad : Addr) (len cap : Nat) (p : Nat) (w : World) (x0 x1 x2 x3 : UInt8) (h : p + 4 ≤ len) (hm : len ≤ 9223372036854775807) (h0 : w.cell? (ad.add p) = some (.int .u8 x0.toNat)) (h1 : w.cell? (ad.add (p + 1)) = some (.int .u8 x1.toNat)) (h2 : w.cell? (ad.add (p + 2)) = some (.int .u8 x2.toNat)) (h3 : w.cell? (ad.add (p + 3)) = some (.int .u8 x3.toNat)) :
    Calls Tryz.prog 106 #[.slice (some ad) len cap, .int .i64 p] w fun e w' => e = .returned (.tuple #[.int .u32 ((((x0.toNat : Int) * 256 + x1.toNat) * 256 + x2.toNat) * 256 + x3.toNat), .int .i64 (p + 4 : Nat), .int .i64 0]) ∧ Fr (fun _ => False) w w' := by
  have l0 := World.block_lt_of_cell? _ _ h0
  have u0 : x0.toNat < 256 := x0.toNat_lt
  have k0 : ∀ o, (w.alloc o).cell? (ad.add p) = some (.int .u8 x0.toNat) := fun o => (World.cell?_alloc_lt _ _ _ l0).trans h0
  have e0 : bits .or .u32 0 (x0.toNat : Int) = (x0.toNat : Int) := by rw [or32 _ _ (by omega) (by omega) (by omega)]; omega
  have l1 := World.block_lt_of_cell? _ _ h1
  have u1 : x1.toNat < 256 := x1.toNat_lt
  have k1 : ∀ o, (w.alloc o).cell? ⟨ad.block, ad.off + (p + 1), none⟩ = some (.int .u8 x1.toNat) := fun o => (World.cell?_alloc_lt _ _ _ l1).trans h1
  have e1 : bits .or .u32 ((x0.toNat : Int) * 256) (x1.toNat : Int) = ((x0.toNat : Int) * 256 + x1.toNat) := or32 _ _ (by omega) (by omega) (by omega)
  have l2 := World.block_lt_of_cell? _ _ h2
  have u2 : x2.toNat < 256 := x2.toNat_lt
  have k2 : ∀ o, (w.alloc o).cell? ⟨ad.block, ad.off + (p + 2), none⟩ = some (.int .u8 x2.toNat) := fun o => (World.cell?_alloc_lt _ _ _ l2).trans h2
  have e2 : bits .or .u32 (((x0.toNat : Int) * 256 + x1.toNat) * 256) (x2.toNat : Int) = (((x0.toNat : Int) * 256 + x1.toNat) * 256 + x2.toNat) := or32 _ _ (by omega) (by omega) (by omega)
  have l3 := World.block_lt_of_cell? _ _ h3
  have u3 : x3.toNat < 256 := x3.toNat_lt
  have k3 : ∀ o, (w.alloc o).cell? ⟨ad.block, ad.off + (p + 3), none⟩ = some (.int .u8 x3.toNat) := fun o => (World.cell?_alloc_lt _ _ _ l3).trans h3
  have e3 : bits .or .u32 ((((x0.toNat : Int) * 256 + x1.toNat) * 256 + x2.toNat) * 256) (x3.toNat : Int) = ((((x0.toNat : Int) * 256 + x1.toNat) * 256 + x2.toNat) * 256 + x3.toNat) := or32 _ _ (by omega) (by omega) (by omega)
  clear l0
  clear l1
  clear l2
  clear l3
  go_enter Tryz.func106, Tryz.ntmps106
  go_wp2
  refine wp_loop_rounds 5 ?_
  rw [rounds_succ]
  go_wp2
  rw [rounds_succ]
  go_wp2
  rw [rounds_succ]
  go_wp2
  rw [rounds_succ]
  go_wp2
  rw [rounds_succ]
  go_wp2
  go_quiet (fail)
  go_wp2
  go_ret3
  refine ⟨?_, ((Fr.refl _ _).alloc _).drewN _⟩
  simp

theorem read4_any (a : Option Addr) (len cap : Nat) (p : Int) (w : World) (X : List UInt8) (hs : SrcAt w a X) (hl : X.length = len) (hm : len ≤ 9223372036854775807) :
    Calls Tryz.prog 106 #[.slice a len cap, .int .i64 p] w fun e w' => e = .returned (.tuple #[.int .u32 (readOut 4 X p).1, .int .i64 (readOut 4 X p).2.1, .int .i64 (readOut 4 X p).2.2]) ∧ Fr (fun _ => False) w w' := by
  subst hl
  by_cases h1 : p < 0 ∨ (X.length : Int) < p
  · rw [show readOut 4 X p = (0, 0, 1) by simp only [readOut, if_pos h1]]
    exact read4_arg a _ cap p w h1
  · obtain ⟨q, rfl⟩ : ∃ q : Nat, p = q := ⟨p.toNat, by omega⟩
    by_cases h2 : (X.length : Int) - q < 4
    · rw [show readOut 4 X q = (0, (X.length : Int), 3) by rw [readOut, if_neg h1, if_pos (by simpa using h2)]]
      exact read4_short a _ cap q w hm (by omega) (by omega)
    · have hx : ∀ i, i < 4 → X[q + i]? = some (X[q + i]?.getD 0) := fun i hi => by
        rw [List.getElem?_eq_getElem (by omega)]; rfl
      obtain ⟨ad, rfl, -⟩ := hs _ _ (hx 0 (by omega))
      have hn : (X.drop q).take 4 = [X[q + 0]?.getD 0, X[q + 1]?.getD 0, X[q + 2]?.getD 0, X[q + 3]?.getD 0] := by
        apply List.ext_getElem?
        intro i
        by_cases hi : i < 4
        · rw [List.getElem?_take_of_lt hi, List.getElem?_drop, hx i hi]
          obtain rfl | rfl | rfl | rfl : i = 0 ∨ i = 1 ∨ i = 2 ∨ i = 3 := by omega
          all_goals rfl
        · rw [List.getElem?_eq_none (by simp; omega), List.getElem?_eq_none (by simp; omega)]
      rw [show readOut 4 X q = (num [X[q + 0]?.getD 0, X[q + 1]?.getD 0, X[q + 2]?.getD 0, X[q + 3]?.getD 0], ((q + 4 : Nat) : Int), 0) by rw [readOut, if_neg h1, if_neg (by simpa using h2)]; simp only [Int.toNat_natCast, hn]; simp]
      refine (read4_ok ad X.length cap q w (X[q + 0]?.getD 0) (X[q + 1]?.getD 0) (X[q + 2]?.getD 0) (X[q + 3]?.getD 0) (by omega) hm (src_cell hs _ _ (hx 0 (by omega))) (src_cell hs _ _ (hx 1 (by omega))) (src_cell hs _ _ (hx 2 (by omega))) (src_cell hs _ _ (hx 3 (by omega)))).mono ?_
      rintro e w' ⟨rfl, hf⟩
      refine ⟨?_, hf⟩
      simp [num]

end Go.Proofs.YtpjbgjgaigkbcaaGreat
