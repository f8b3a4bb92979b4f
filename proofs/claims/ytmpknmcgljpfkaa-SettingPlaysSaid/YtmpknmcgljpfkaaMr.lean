/- The program's settings and the document's, side by side. -/
import Derived.Test.YtmpknmcgljpfkaaMq
import Derived.Test.YtmpknmcgljpfkaaMn
namespace Go.Proofs.Ytmpknmcgljpfkaa
open Go.RowKit Go.Maps
set_option linter.unusedVariables false
set_option maxRecDepth 100000
set_option maxHeartbeats 4000000

theorem map_own {w : World} {b n : Nat} {M : Int → Option Value} {v : Value} {xs : List Value} (h : MapAt w b n M) (ho : OwnAt w 33 v xs) : v.ownBlock ≠ some b := by
  intro e
  rcases ho with ⟨e2, -⟩ | ⟨g', off, cap, cur', e2, hg', -⟩
  · rw [e2] at e; simp [Value.ownBlock] at e
  · rw [e2] at e; simp [Value.ownBlock] at e; exact h.ne hg' e.symm
/-- Both, side by side: the same values, the same lists wait. -/
structure TwoS (w wr : World) (g b rg rb : Nat) (V : Int → Nat) (a : Option Addr) (n c : Nat) (LL : List (Option Addr × Nat × List (Int × Nat))) (ra : Option Addr) (rn rc : Nat) (RL : List (Option Addr × Nat × List (Int × Nat))) (i : Nat) : Prop where
  prog : SetQ w wr g b V a n c LL
  ref : RefQ w wr rg rb V ra rn rc RL
  same : LL.map (·.2.2) = RL.map (·.2.2)
  ap : ∀ k, (Value.slice a n c).ownBlock = some k → (Value.slice ra rn rc).ownBlock ≠ some k
  few : LL.length ≤ i
def Two (w : World) (g b rg rb i : Nat) (wr : World) : Prop := ∃ V a n c LL ra rn rc RL, TwoS w wr g b rg rb V a n c LL ra rn rc RL i
section
variable {w0 w w' : World} {g b rg rb : Nat} {V V2 : Int → Nat} {a : Option Addr} {n c : Nat} {LL : List (Option Addr × Nat × List (Int × Nat))} {ra : Option Addr} {rn rc : Nat} {RL : List (Option Addr × Nat × List (Int × Nat))}
theorem SetQ.applied (h : SetQ w0 w g b V a n c LL) (h1 : Set1 w0 w' g b (.slice a n c) V2) (hf : Fr (fun k => k = b) w w') : SetQ w0 w' g b V2 a n c LL :=
  ⟨h1, h.own.fr hf (fun k e e2 => by subst e2; exact map_own h.one.vals h.own e), fun x hx => (h.copies x hx).fr hf (fun k cur hc e => h.one.vals.ne hc e.symm), h.newQ⟩
theorem RefQ.by_map (h : RefQ w0 w rg rb V ra rn rc RL) {M : Int → Option Value} {m : Nat} (hm : MapAt w b m M) (h0 : w0.heap.size ≤ b) (hf : Fr (fun k => k = b) w w') : RefQ w0 w' rg rb V ra rn rc RL :=
  h.fr' hf (fun k e => by omega) (fun e => hm.ne h.set e.symm) (fun e => hm.ne h.vals e.symm) (fun k e e2 => by subst e2; exact map_own hm h.own e) (fun k cur hc e => hm.ne hc e.symm)
theorem SetQ.by_vals (h : SetQ w0 w g b V a n c LL) (hr : RefQ w0 w rg rb V2 ra rn rc RL) (hf : Fr (fun k => k = rb) w w') : SetQ w0 w' g b V a n c LL :=
  h.fr hf (fun k e => by have := hr.new; omega) (fun e => cells_ne9 h.one.set hr.vals (by decide) e) (fun e => h.one.vals.ne hr.vals e) (fun k e e2 => by subst e2; exact tag_own hr.vals h.own (by decide) e) (fun k cur hc e => tag_set hc hr.vals (by decide) e)
theorem RefQ.by_queue (h : RefQ w0 w rg rb V ra rn rc RL) (hs : SetQ w0 w g b V2 a n c LL) (hap : ∀ k, (Value.slice a n c).ownBlock = some k → (Value.slice ra rn rc).ownBlock ≠ some k) (hf : Fr (fun k => k = g ∨ (Value.slice a n c).ownBlock = some k) w w') : RefQ w0 w' rg rb V ra rn rc RL :=
  h.fr' hf (fun k e => by
      rcases e with rfl | e
      · exact hs.one.new.2
      · exact hs.newQ k e)
    (fun e => by
      rcases e with e | e
      · exact cells_ne9 hs.one.set h.set (by decide) e.symm
      · exact tag_own h.set hs.own (by decide) e)
    (fun e => by
      rcases e with e | e
      · exact cells_ne9 hs.one.set h.vals (by decide) e.symm
      · exact tag_own h.vals hs.own (by decide) e)
    (fun k e e2 => by
      rcases e2 with e2 | e2
      · subst e2; exact tag_own hs.one.set h.own (by decide) e
      · exact hap k e2 e)
    (fun k cur hc e => by
      rcases e with e | e
      · exact tag_set hc hs.one.set (by decide) e
      · exact tag_own hc hs.own (by decide) e)
theorem SetQ.by_queue (h : SetQ w0 w g b V a n c LL) (hr : RefQ w0 w rg rb V2 ra rn rc RL) (hap : ∀ k, (Value.slice a n c).ownBlock = some k → (Value.slice ra rn rc).ownBlock ≠ some k) (hf : Fr (fun k => k = rg ∨ (Value.slice ra rn rc).ownBlock = some k) w w') : SetQ w0 w' g b V a n c LL :=
  h.fr hf (fun k e => by
      rcases e with rfl | e
      · exact hr.new.2
      · exact hr.newQ k e)
    (fun e => by
      rcases e with e | e
      · exact cells_ne9 h.one.set hr.set (by decide) e
      · exact tag_own h.one.set hr.own (by decide) e)
    (fun e => by
      rcases e with e | e
      · exact h.one.vals.ne hr.set e
      · exact map_own h.one.vals hr.own e)
    (fun k e e2 => by
      rcases e2 with e2 | e2
      · subst e2; exact tag_own hr.set h.own (by decide) e
      · exact hap k e e2)
    (fun k cur hc e => by
      rcases e with e | e
      · exact tag_set hc hr.set (by decide) e
      · exact tag_own hc hr.own (by decide) e)
theorem TwoS.later {i : Nat} (h : TwoS w0 w g b rg rb V a n c LL ra rn rc RL i) (hf : Fr (fun _ => False) w w') : TwoS w0 w' g b rg rb V a n c LL ra rn rc RL i :=
  { h with prog := h.prog.later hf, ref := h.ref.later hf }
end
theorem Two.later {w wr w' : World} {g b rg rb i : Nat} (h : Two w g b rg rb i wr) (hf : Fr (fun _ => False) wr w') : Two w g b rg rb i w' := by
  obtain ⟨V, a, n, c, LL, ra, rn, rc, RL, h⟩ := h
  exact ⟨V, a, n, c, LL, ra, rn, rc, RL, h.later hf⟩
theorem Two.fr {w wr : World} {g b rg rb i : Nat} (h : Two w g b rg rb i wr) : Fr (fun _ => False) w wr := by
  obtain ⟨V, a, n, c, LL, ra, rn, rc, RL, h⟩ := h
  exact h.prog.one.fr
theorem Two.mono {w wr : World} {g b rg rb i j : Nat} (h : Two w g b rg rb i wr) (hij : i ≤ j) : Two w g b rg rb j wr := by
  obtain ⟨V, a, n, c, LL, ra, rn, rc, RL, h⟩ := h
  exact ⟨V, a, n, c, LL, ra, rn, rc, RL, { h with few := Nat.le_trans h.few hij }⟩
/-- Both have applied the same list. -/
theorem TwoS.appl {w wr w2 : World} {g b rg rb i : Nat} {V V2 : Int → Nat} {a : Option Addr} {n c : Nat} {LL : List (Option Addr × Nat × List (Int × Nat))} {ra : Option Addr} {rn rc : Nat} {RL : List (Option Addr × Nat × List (Int × Nat))} (h : TwoS w wr g b rg rb V a n c LL ra rn rc RL i) (h1 : Set1 w w2 g b (.slice a n c) V2) (hf : Fr (fun k => k = b) wr w2) :
    SetQ w w2 g b V2 a n c LL ∧ RefQ w w2 rg rb V ra rn rc RL := ⟨h.prog.applied h1 hf, h.ref.by_map h.prog.one.vals h.prog.one.new.1 hf⟩
end Go.Proofs.Ytmpknmcgljpfkaa
