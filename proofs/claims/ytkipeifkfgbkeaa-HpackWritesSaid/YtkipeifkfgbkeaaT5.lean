/- Contracts of table.Static and of awake. -/
import Derived.Test.YtkipeifkfgbkeaaT4
namespace Go.Proofs.Ytkipeifkfgbkeaa
open Go.RowKit
set_option maxRecDepth 100000
set_option maxHeartbeats 4000000
set_option linter.unusedVariables false
attribute [local go_sem] Oper.semAt_some

theorem own_cells {β : Type} (B b : Nat) (o : β → Obj) (ho : ∀ s, (o s).isCells = true) : OwnFrom B (fun s W => W.heap[b]? = some (o s)) := fun s X Y row hs hg hr =>
  (hg.block b (Array.getElem?_eq_some_iff.1 hs).1 (fun e => by obtain ⟨_, o', h1, h2⟩ := hr b e.symm; rw [hs] at h1; cases h1; rw [ho s] at h2; cases h2)).trans hs
theorem heap_set {w : World} {b i : Nat} {cs : Array Value} {t : TypeId} {f : Nat × Nat} (v : Value) (h : w.heap[b]? = some (.cells cs t f)) : (w.setCell ⟨b, i, none⟩ v).heap[b]? = some (.cells (cs.setIfInBounds i v) t f) := by
  obtain ⟨hlt, he⟩ := Array.getElem?_eq_some_iff.1 h
  have hlt2 : b < (w.setCell ⟨b, i, none⟩ v).heap.size := by simpa [World.setCell] using hlt
  rw [Array.getElem?_eq_getElem hlt2]
  congr 1
  simp [World.setCell, Array.getElem_modify, he]
theorem heap_set_other {w : World} {b c i : Nat} (hne : b ≠ c) (v : Value) : (w.setCell ⟨c, i, none⟩ v).heap[b]? = w.heap[b]? := Below.heap_setCell _ _ _ _ hne
theorem heap_of_alloc {w : World} {b : Nat} {o : Obj} (h : w.heap[b]? = some o) (o' : Obj) : (w.alloc o').heap[b]? = some o := (Below.heap_alloc w o' b (Array.getElem?_eq_some_iff.1 h).1).trans h
theorem heap_of_put {w : World} {b D : Nat} {o o1 : Obj} (o' : Obj) (h : w.heap[b]? = some o) (hD : w.heap[D]? = some o1) (hc : o.isCells = true) (h1 : o1.isCells = false) : (w.putObj D o').heap[b]? = some o :=
  (World.putObj_heap_other (fun e => by subst e; rw [h] at hD; cases hD; rw [hc] at h1; cases h1)).trans h

theorem set4 {W : World} {b c : Nat} {a0 a1 a2 d : Value} {t t' : TypeId} (x y z u : Value) (f1 : W.heap[b]? = some (.cells #[a0, a1, a2] t (0, 0))) (f2 : W.heap[c]? = some (.cells #[d] t' (0, 0))) (hne : b ≠ c) :
    ((((W.setCell ⟨b, 0, none⟩ x).setCell ⟨b, 1, none⟩ y).setCell ⟨b, 2, none⟩ z).setCell ⟨c, 0, none⟩ u).heap[b]? = some (.cells #[x, y, z] t (0, 0)) ∧
    ((((W.setCell ⟨b, 0, none⟩ x).setCell ⟨b, 1, none⟩ y).setCell ⟨b, 2, none⟩ z).setCell ⟨c, 0, none⟩ u).heap[c]? = some (.cells #[u] t' (0, 0)) := by
  refine ⟨?_, ?_⟩
  · rw [heap_set_other hne]
    exact heap_set _ (heap_set _ (heap_set _ f1))
  · exact heap_set u (((heap_set_other hne.symm z).trans ((heap_set_other hne.symm y).trans (heap_set_other hne.symm x))).trans f2)
/-- What Static answers: the name, the value, the error. -/
def statIn (i : Int) : Bool := decide (1 ≤ i ∧ i ≤ 61)
def stN (i : Int) : ByteArray := if statIn i then sName (i.toNat - 1) else ⟨#[]⟩
def stV (i : Int) : ByteArray := if statIn i then sValue (i.toNat - 1) else ⟨#[]⟩
def stE (i : Int) : Int := if statIn i then 0 else 50

end Go.Proofs.Ytkipeifkfgbkeaa
