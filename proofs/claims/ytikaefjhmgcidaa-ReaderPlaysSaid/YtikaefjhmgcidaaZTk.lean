/- Both readers side by side in memory. -/
import Derived.Test.YtikaefjhmgcidaaZMTe
import Derived.Test.YtikaefjhmgcidaaZTh
namespace Go.Proofs.Ytikaefjhmgcidaa
open Go.RowKit
set_option linter.unusedVariables false

structure Two (w wr : World) (g g2 : Nat) (most : Int) (B : List UInt8) (X : Flt) (ob : Option Nat) (M : Nat) (B2 : List UInt8) (X2 : Flt) (ob2 : Option Nat) : Prop where
  p : Rdr wr g most B X ob M
  d : RRd wr g2 most B2 X2 ob2
  ne : g ≠ g2
  og : ob ≠ some g2
  og2 : ob2 ≠ some g
  oo : ∀ k, ob = some k → ob2 ≠ some k
  ng : w.heap.size ≤ g
  ng2 : w.heap.size ≤ g2
  no : ∀ k, ob = some k → w.heap.size ≤ k
  no2 : ∀ k, ob2 = some k → w.heap.size ≤ k
  fr : Fr (fun _ => False) w wr
theorem Two.later {w wr w2 : World} {g g2 : Nat} {most : Int} {B B2 : List UInt8} {X X2 : Flt} {ob ob2 : Option Nat} {M : Nat} (h : Two w wr g g2 most B X ob M B2 X2 ob2) (hf : Fr (fun _ => False) wr w2) : Two w w2 g g2 most B X ob M B2 X2 ob2 :=
  { h with p := h.p.later hf, d := h.d.later hf, fr := h.fr.trans hf }
theorem Two.stepP {w wr w2 : World} {g g2 : Nat} {most : Int} {B B2 B' : List UInt8} {X X2 X' : Flt} {ob ob2 ob' : Option Nat} {M M' : Nat} (h : Two w wr g g2 most B X ob M B2 X2 ob2) (hr : Rdr w2 g most B' X' ob' M') (hf : Fr (fun k => k = g ∨ ob = some k) wr w2) (ho : ob' = ob ∨ ∃ k, ob' = some k ∧ wr.heap.size ≤ k) : Two w w2 g g2 most B' X' ob' M' B2 X2 ob2 := by
  have hd := h.d.lt
  have hz := h.fr.size
  refine ⟨hr, h.d.fr hf (fun e => ?_) (fun k hk e => ?_), h.ne, ?_, h.og2, ?_, h.ng, h.ng2, ?_, h.no2, ?_⟩
  · rcases e with e | e
    · exact h.ne e.symm
    · exact h.og e
  · rcases e with e | e
    · exact h.og2 (e ▸ hk)
    · exact h.oo k e hk
  · rcases ho with e | ⟨k, hk, hk2⟩
    · rw [e]; exact h.og
    · rw [hk]; intro e; cases e; omega
  · intro k hk e
    rcases ho with e' | ⟨j, hj, hj2⟩
    · exact h.oo k (e' ▸ hk) e
    · rw [hj] at hk; cases hk; have := (hd.2 _ e).1; omega
  · intro k hk
    rcases ho with e' | ⟨j, hj, hj2⟩
    · exact h.no k (e' ▸ hk)
    · rw [hj] at hk; cases hk; omega
  · refine ((h.fr.mono (T := fun k => w.heap.size ≤ k) (fun _ _ e => e.elim)).trans (hf.mono (fun k _ e => ?_))).mono (fun k hk e => by omega)
    rcases e with e | e
    · rw [e]; exact h.ng
    · exact h.no k e
theorem Two.stepD {w wr w2 : World} {g g2 : Nat} {most : Int} {B B2 B' : List UInt8} {X X2 X' : Flt} {ob ob2 ob' : Option Nat} {M : Nat} (h : Two w wr g g2 most B X ob M B2 X2 ob2) (hr : RRd w2 g2 most B' X' ob') (hf : Fr (fun k => k = g2 ∨ ob2 = some k) wr w2) (ho : ob' = ob2 ∨ ∃ k, ob' = some k ∧ wr.heap.size ≤ k) : Two w w2 g g2 most B X ob M B' X' ob' := by
  have hd := h.p.lt
  have hz := h.fr.size
  refine ⟨h.p.fr hf (fun e => ?_) (fun k hk e => ?_), hr, h.ne, h.og, ?_, ?_, h.ng, h.ng2, h.no, ?_, ?_⟩
  · rcases e with e | e
    · exact h.ne e
    · exact h.og2 e
  · rcases e with e | e
    · exact h.og (e ▸ hk)
    · exact h.oo k hk e
  · rcases ho with e | ⟨k, hk, hk2⟩
    · rw [e]; exact h.og2
    · rw [hk]; intro e; cases e; omega
  · intro k hk e
    rcases ho with e' | ⟨j, hj, hj2⟩
    · exact h.oo k hk (e' ▸ e)
    · rw [hj] at e; cases e; have := (hd.2 _ hk).1; omega
  · intro k hk
    rcases ho with e' | ⟨j, hj, hj2⟩
    · exact h.no2 k (e' ▸ hk)
    · rw [hj] at hk; cases hk; omega
  · refine ((h.fr.mono (T := fun k => w.heap.size ≤ k) (fun _ _ e => e.elim)).trans (hf.mono (fun k _ e => ?_))).mono (fun k hk e => by omega)
    rcases e with e | e
    · rw [e]; exact h.ng2
    · exact h.no2 k e
end Go.Proofs.Ytikaefjhmgcidaa
