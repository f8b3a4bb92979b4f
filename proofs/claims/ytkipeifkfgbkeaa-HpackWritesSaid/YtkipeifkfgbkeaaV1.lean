/- The walk of TableBound. -/
import Derived.Test.YtkipeifkfgbkeaaU6
namespace Go.Proofs.Ytkipeifkfgbkeaa
open Go.RowKit
set_option maxRecDepth 100000
set_option maxHeartbeats 8000000
set_option linter.unusedVariables false

/-- A table that was made since w0: its blocks are new, all that was there is as it was. -/
structure Tab0 (w0 w : World) (t : Nat) (v : Value) (m : Nat) (E : List (ByteArray × ByteArray)) : Prop where
  tab : TabIs w t v m E
  lt : w0.heap.size ≤ t
  own : ∀ k, v.ownBlock = some k → w0.heap.size ≤ k
  fr : Below w0.heap.size w0 w
  most : m ≤ 65536
  fits : total E ≤ m
theorem Tab0.below {w0 w w' : World} {t : Nat} {v : Value} {m : Nat} {E : List (ByteArray × ByteArray)} (h : Tab0 w0 w t v m E) (b : Below w.heap.size w w') : Tab0 w0 w' t v m E :=
  ⟨h.tab.kept (S := fun _ => False) (Fr.of_below b) (fun _ _ => id), h.lt, h.own, h.fr.trans (b.mono h.fr.size), h.most, h.fits⟩
theorem Tab0.alloc {w0 w : World} {t : Nat} {v : Value} {m : Nat} {E : List (ByteArray × ByteArray)} (h : Tab0 w0 w t v m E) (o : Obj) : Tab0 w0 (w.alloc o) t v m E := h.below ((Below.refl _ w).alloc (Nat.le_refl _) o)
theorem Tab0.turn {w0 w w' : World} {t : Nat} {v : Value} {m : Nat} {E : List (ByteArray × ByteArray)} (h : Tab0 w0 w t v m E) (f : Fr (fun k => k = t ∨ v.ownBlock = some k) w w') : Below w0.heap.size w0 w' :=
  h.fr.trans ⟨f.os, f.tape, f.output, f.size, fun k hk => f.block k (Nat.lt_of_lt_of_le hk h.fr.size) (fun hs => by
    rcases hs with rfl | hs
    · have := h.lt; omega
    · have := h.own k hs; omega)⟩
theorem Tab0.len {w0 w : World} {t : Nat} {v : Value} {m : Nat} {E : List (ByteArray × ByteArray)} (h : Tab0 w0 w t v m E) : E.length ≤ 2048 := by
  have := total_len E; have := h.fits; have := h.most; omega
theorem Tab0.new (w : World) (m : Nat) (hm : m ≤ 65536) : Tab0 w (w.alloc (.cells #[.bool true, .int .i64 (m : Int), .int .i64 0, .slice none 0 0] 66)) w.heap.size (.slice none 0 0) m [] :=
  ⟨⟨heap_alloc_new w _, rfl, .inl ⟨rfl, rfl⟩⟩, Nat.le_refl _, (fun k hk => by cases hk), (Below.refl _ w).alloc (Nat.le_refl _) _, hm, by simp [total]⟩
/-- Add and Resize, in these words. -/
theorem Add0 {w0 w : World} {t : Nat} {v : Value} {m : Nat} {E : List (ByteArray × ByteArray)} (h : Tab0 w0 w t v m E) (n u : ByteArray) (s : Bool) (hn : n.size < 2 ^ 47) (hu : u.size < 2 ^ 47) :
    Calls Try.prog 33 #[.pointer (some ⟨t, 0, none⟩), .agg #[.string n, .string u, .bool s]] w fun e w' => e = .returned (.int .i64 0) ∧ ∃ v', Tab0 w0 w' t v' m (added m E (n, u)) ∧ Fr (fun k => k = t ∨ v.ownBlock = some k) w w' ∧ (∀ k, v'.ownBlock = some k → v.ownBlock = some k ∨ w.heap.size ≤ k) := by
  refine (Add_in t m v E n u s w h.tab h.most (Nat.le_trans h.fits h.most) hn hu).mono ?_
  rintro e w' ⟨rfl, v', a1, a2, a3⟩
  exact ⟨rfl, v', ⟨a1, h.lt, fun k hk => (a2 k hk).elim (h.own k) (fun hl => Nat.le_trans h.fr.size hl), h.turn a3, h.most, added_fits m E (n, u)⟩, a3, a2⟩
theorem Resize0 {w0 w : World} {t : Nat} {v : Value} {m : Nat} {E : List (ByteArray × ByteArray)} (h : Tab0 w0 w t v m E) (n : Int) :
    Calls Try.prog 26 #[.pointer (some ⟨t, 0, none⟩), .int .i64 n] w fun e w' => e = .returned (.int .i64 (if 0 ≤ n ∧ n ≤ 65536 then 0 else 1)) ∧ ∃ v', Tab0 w0 w' t v' (if 0 ≤ n ∧ n ≤ 65536 then n.toNat else m) (if 0 ≤ n ∧ n ≤ 65536 then fallen n E else E) ∧ Fr (fun k => k = t ∨ v.ownBlock = some k) w w' ∧ v'.ownBlock = v.ownBlock := by
  by_cases hn : 0 ≤ n ∧ n ≤ 65536
  · obtain ⟨k, rfl⟩ : ∃ k : Nat, n = (k : Int) := ⟨n.toNat, by omega⟩
    rw [if_pos hn, if_pos hn, if_pos hn]
    refine (Resize_in t m k v E w h.tab (by omega) (by have := h.fits; have := h.most; omega)).mono ?_
    rintro e w' ⟨rfl, v', a1, a2, a3⟩
    have hf := fallen_fits (k : Int) E (by omega)
    exact ⟨rfl, v', ⟨a1, h.lt, fun k hk => h.own k (by rw [← a2]; exact hk), h.turn a3, by show k ≤ 65536; omega, by show total (fallen (k : Int) E) ≤ k; omega⟩, a3, a2⟩
  · rw [if_neg hn, if_neg hn, if_neg hn]
    refine (Resize_bad t m v E n w h.tab hn).mono ?_
    rintro e w' ⟨rfl, rfl⟩
    exact ⟨rfl, v, h, Fr.refl _ _, rfl⟩
end Go.Proofs.Ytkipeifkfgbkeaa
