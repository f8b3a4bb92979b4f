/- The document's four bytes and priority, written. -/
import Derived.Test.YthcjgjmbicnklaaRa
import Derived.Test.YthcjgjmbicnklaaFe
import Derived.Test.YthcjgjmbicnklaaRz
namespace Go.Proofs.Ythcjgjmbicnklaa
open Go.RowKit
set_option linter.unusedVariables false
set_option maxRecDepth 100000
set_option maxHeartbeats 4000000

theorem four_in (m : Nat) (w : World) (hm : m < 2147483648) : Calls Try.prog 25 #[.int .i64 (m : Int)] w fun e w' => (∃ sp, e = .returned (.slice sp 4 4) ∧ New w w' sp (be 4 m)) ∧ Fr (fun _ => False) w w' := by
  have K := RPut32 m w (by omega)
  have hw2 : IntKind.u32.wrap (m : Int) = (m : Int) := by rw [IntKind.wrap_u32]; omega
  go_enter Try.func25, Try.ntmps25
  go_wp2_with fail
  refine K.mono ?_
  rintro e w' ⟨⟨sp, rfl, hs⟩, hf⟩
  go_wp2
  go_ret
  exact ⟨⟨_, rfl, hs⟩, hf⟩

theorem priority_core (k fl st pad : Int) (X : List UInt8) (code : Nat) (last inc : Int) (d : Nat) (only : Bool) (u : UInt8) (Y : List (Int × Nat)) (p q : Option Addr) (cp cq : Nat) (w : World) (m : Nat) (hdb : d < 2147483648) (hm : d + (if only then 2147483648 else 0) = m) :
    Calls Try.prog 44 #[.agg #[.int .i64 k, .int .i64 fl, .int .i64 st, .slice p X.length cp, .int .i64 pad, .int .u32 code, .int .i64 last, .int .i64 inc, .int .i64 (d : Int), .bool only, .int .i64 ((u.toNat : Int) + 1), .slice q Y.length cq]] w fun e w' => ∃ a n c, e = .returned (.slice a n c) ∧ n = 5 ∧ Gath w w' (.slice a n c) (be 4 m ++ [u]) := by
  have hub := u.toNat_lt
  have hmb : m < 4294967296 := by rw [← hm]; split <;> omega
  have K2 : Hid (∀ w, Calls Try.prog 45 #[.int .u32 (m : Nat)] w fun e w' => (∃ sp, e = .returned (.slice sp 4 4) ∧ New w w' sp (be 4 m)) ∧ Fr (fun _ => False) w w') := fun w => RPut32 m w hmb
  obtain ⟨j, J1, J2, J3, J4⟩ := info5
  have J1 : Hid _ := J1
  have J2 : Hid _ := J2
  have J3 : Hid _ := J3
  have J4 : Hid _ := J4
  have HL : Hid ((be 4 m).length = 4) := be_length 4 m
  have hw1 : IntKind.i64.wrap (u.toNat : Int) = (u.toNat : Int) := by rw [IntKind.wrap_i64]; omega
  have hw2 : IntKind.u8.wrap (u.toNat : Int) = (u.toNat : Int) := by rw [IntKind.wrap_u8]; omega
  have hw3 : IntKind.u32.wrap (d : Int) = (d : Int) := by rw [IntKind.wrap_u32]; omega
  have hw4 : (d : Int) % 4294967296 = (d : Int) := by omega
  cases only
  case' false =>
    simp at hm
    subst hm
    have hb : d = d := rfl
  case' true =>
    simp at hm
    have hb : IntKind.u32.wrap ((d : Int) + 2147483648) = (m : Int) := by rw [IntKind.wrap_u32]; omega
    have hb2 : ((d : Int) + 2147483648) % 4294967296 = (m : Int) := by omega
    clear hm
  case' false => obtain ⟨W, hW⟩ : ∃ W, W = w.alloc (.cells #[.int .i64 k, .int .i64 fl, .int .i64 st, .slice p X.length cp, .int .i64 pad, .int .u32 code, .int .i64 last, .int .i64 inc, .int .i64 (d : Int), .bool false, .int .i64 ((u.toNat : Int) + 1), .slice q Y.length cq] 26) := ⟨_, rfl⟩
  case' true => obtain ⟨W, hW⟩ : ∃ W, W = w.alloc (.cells #[.int .i64 k, .int .i64 fl, .int .i64 st, .slice p X.length cp, .int .i64 pad, .int .u32 code, .int .i64 last, .int .i64 inc, .int .i64 (d : Int), .bool true, .int .i64 ((u.toNat : Int) + 1), .slice q Y.length cq] 26) := ⟨_, rfl⟩
  all_goals
    have HF : Hid (Fr (fun _ => False) w W) := by rw [hW]; exact (Fr.refl _ _).alloc _
    have c10 : W.cell? ⟨w.heap.size, 10, none⟩ = some (.int .i64 ((u.toNat : Int) + 1)) := by rw [hW]; exact cell_of_heap (heap_alloc_new w _) rfl
    have HC : Hid (∀ w', Fr (fun _ => False) W w' → w'.cell? ⟨w.heap.size, 10, none⟩ = some (.int .i64 ((u.toNat : Int) + 1))) := fun w' hf => (hf.cell (p := ⟨w.heap.size, 10, none⟩) (World.block_lt_of_cell? _ _ c10) id).trans c10
    clear hmb
    go_enter Try.func44, Try.ntmps44
    go_wp2_with (fail)
    rw [← hW]
    clear hW
    go_region_held_law (fun w' => w'.cell? ⟨w.heap.size, 10, none⟩ = some (.int .i64 ((u.toNat : Int) + 1))) (first | exact c10 | exact d10 | exact e10 | go_keep)
      (first
        | (go_at_call 45; refine (K2.out _).mono ?_; rintro e w1 ⟨⟨sp, rfl, hs⟩, hf⟩; have HS : Hid (SrcAt w1 sp _) := hs.1; clear hs; have HG : Hid (Fr (fun _ => False) _ w1) := hf; clear hf; have d10 : w1.cell? ⟨w.heap.size, 10, none⟩ = some (.int .i64 ((u.toNat : Int) + 1)) := (by first | exact HC.out w1 ((Fr.refl _ _).drew.trans HG.out) | exact HC.out w1 (((Fr.refl _ _).drew.alloc _).trans HG.out)))
        | (refine stepR_full (w0 := w) rfl 18 rfl (.tmp 12) (.tmp 17) 22 22 rfl j Try.underlying22 Try.underlying22 J1.out J2.out J3.out J4.out sp 4 _ (by go_simp) (HS.out.oldF ((Fr.refl _ _).alloc _)) HL.out (by exact (HF.out.drew.trans HG.out).alloc _) (some ⟨w1.heap.size, 0, none⟩) 1 1 (by go_simp) [u] (src_one w1 u) rfl (by omega) (by rw [HL.out]; omega) ?_; intro a5 n5 c5 w5 Hn5 G5 F5; have e10 : w5.cell? ⟨w.heap.size, 10, none⟩ = some (.int .i64 ((u.toNat : Int) + 1)) := HC.out w5 (((Fr.refl _ _).drew.trans HG.out).trans (((Fr.refl _ _).alloc _).trans F5.out)))
        | (refine stepR_full (w0 := w) rfl 18 rfl (.tmp 12) (.tmp 17) 22 22 rfl j Try.underlying22 Try.underlying22 J1.out J2.out J3.out J4.out sp 4 _ (by go_simp) HS.out HL.out (by exact (HF.out.drew.alloc _).trans HG.out) (some ⟨W.heap.size, 0, none⟩) 1 1 (by go_simp) [u] (show SrcAt w1 (some ⟨W.heap.size, 0, none⟩) [u] from (src_one W.drew u).oldF HG.out) rfl (by omega) (by rw [HL.out]; omega) ?_; intro a5 n5 c5 w5 Hn5 G5 F5; have e10 : w5.cell? ⟨w.heap.size, 10, none⟩ = some (.int .i64 ((u.toNat : Int) + 1)) := HC.out w5 ((((Fr.refl _ _).drew.alloc _).trans HG.out).trans F5.out)))
    all_goals
      clear e10
      go_wp2
      go_ret
      refine ⟨a5, n5, c5, rfl, ?_, G5⟩
      rw [Hn5.out, HL.out]

theorem priority_in (f : Fra) (p q : Option Addr) (cp cq : Nat) (w : World) (hi : idOk f.dep = true) (h1 : 1 ≤ f.wt) (h2 : f.wt ≤ 256) :
    Calls Try.prog 44 #[.agg #[.int .i64 f.k, .int .i64 f.fl, .int .i64 f.st, .slice p f.X.length cp, .int .i64 f.pad, .int .u32 f.code, .int .i64 f.last, .int .i64 f.inc, .int .i64 f.dep, .bool f.only, .int .i64 f.wt, .slice q f.Y.length cq]] w fun e w' => ∃ a n c, e = .returned (.slice a n c) ∧ n = 5 ∧ Gath w w' (.slice a n c) (be 4 (depW f) ++ [UInt8.ofNat (f.wt - 1).toNat]) := by
  obtain ⟨u, hu⟩ : ∃ u : UInt8, f.wt = (u.toNat : Int) + 1 := ⟨UInt8.ofNat (f.wt - 1).toNat, by simp; omega⟩
  obtain ⟨d, hdd⟩ : ∃ d : Nat, f.dep = d := ⟨f.dep.toNat, by simp [idOk] at hi; omega⟩
  have hdb : d < 2147483648 := by simp [idOk, hdd] at hi; omega
  have hd : be 4 (depW f) ++ [UInt8.ofNat (f.wt - 1).toNat] = be 4 (d + (if f.only then 2147483648 else 0)) ++ [u] := by
    have : (f.wt - 1).toNat = u.toNat := by omega
    simp [depW, this, hdd]
  rw [hd, hu, hdd]
  exact priority_core f.k f.fl f.st f.pad f.X f.code f.last f.inc d f.only u f.Y p q cp cq w _ hdb rfl
end Go.Proofs.Ythcjgjmbicnklaa
