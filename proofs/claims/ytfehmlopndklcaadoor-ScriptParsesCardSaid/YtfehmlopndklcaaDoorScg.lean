/- Words: what a word is, and what it does to an event. -/
import Derived.Test.YtfehmlopndklcaaDoorScd
namespace Go.Proofs.YtfehmlopndklcaaDoor
open Go.RowKit
set_option linter.unusedVariables false

/-- A word: a name, a number, bytes. -/
abbrev Wd := List UInt8 ⊕ (Nat ⊕ List UInt8)
def isDig (l : List UInt8) : Bool := match l with | c :: _ => (dg 10 c).isSome | [] => false
def wordO (l : List UInt8) : Option Wd :=
  if l.head? = some 61 then (hexO l.tail).map fun b => .inr (.inr b)
  else if isDig l = true then (numO l).map fun n => .inr (.inl n)
  else some (.inl l)
/-- An event of which some words were read; nx: the least place of the next one. -/
structure Dr where
  what : Int
  a : Int
  b : Int
  d : Int
  dat : List UInt8
  nx : Nat
def Dr0 : Dr := ⟨0, 0, 0, 0, [], 0⟩
def namesL : List (List UInt8) := [[111, 112, 101, 110], [98, 121, 116, 101, 115], [99, 108, 111, 115, 101], [98, 117, 100, 103, 101, 116], [116, 105, 99, 107], [112, 114, 111, 98, 101], [98, 97, 99, 107], [115, 116, 111, 112]]
def kindI (l : List UInt8) : Int := match namesL.findIdx? (· == l) with | some i => (i : Int) | none => -1
def putN (x : Dr) (n : Int) : Dr := if x.nx = 1 then { x with a := n, nx := 2 } else if x.nx = 2 then { x with b := n, nx := 3 } else { x with d := n, nx := 4 }
def addW (x : Dr) : Wd → Option Dr
  | .inl l => if 0 ≤ kindI l ∧ x.nx = 0 then some { x with what := kindI l, nx := 1 } else none
  | .inr (.inl n) => if 1 ≤ x.nx ∧ x.nx < 4 then some (putN x n) else none
  | .inr (.inr b) => if 1 ≤ x.nx ∧ x.nx ≤ 4 then some { x with dat := b, nx := 5 } else none
def stepW (x : Dr) (l : List UInt8) : Option Dr := (wordO l).bind (addW x)
/-- The words of a line, one behind the other; else the place of the first that can't stand there. -/
def lineGo : List (List UInt8) → Nat → Dr → Dr ⊕ Nat
  | [], _, x => .inl x
  | p :: r, at_, x => match stepW x p with
    | some y => lineGo r (at_ + (p.length + 1)) y
    | none => .inr at_
def lineO (l : List UInt8) : Dr ⊕ Nat := lineGo (cuts 32 l) 0 Dr0
/-- Bytes that lie in a block of bytes. -/
def BAt (W : World) (v : Value) (X : List UInt8) : Prop := ∃ q c, v = .slice q X.length c ∧ (X = [] ∨ ∃ g o cs fr, q = some ⟨g, o, none⟩ ∧ W.heap[g]? = some (.cells cs 5 fr) ∧ ∀ j x, X[j]? = some x → cs[o + j]? = some (.int .u8 (x.toNat : Int)))
theorem BAt.nil (W : World) : BAt W (.slice none 0 0) [] := ⟨none, 0, rfl, .inl rfl⟩
theorem BAt.fr {S : Nat → Prop} {W W' : World} {v : Value} {X : List UInt8} (h : BAt W v X) (hf : Fr S W W') (hs : ∀ k cs fr, W.heap[k]? = some (.cells cs 5 fr) → ¬ S k) : BAt W' v X := by
  obtain ⟨q, c, rfl, h⟩ := h
  refine ⟨q, c, rfl, ?_⟩
  rcases h with h | ⟨g, o, cs, fr, h1, h2, h3⟩
  · exact .inl h
  · exact .inr ⟨g, o, cs, fr, h1, (hf.block _ (lt_of_heap h2) (hs _ _ _ h2)).trans h2, h3⟩
theorem BAt.old {W W' : World} {v : Value} {X : List UInt8} (h : BAt W v X) (hf : Fr (fun _ => False) W W') : BAt W' v X := h.fr hf (fun _ _ _ _ => id)
theorem BAt.of_own {W : World} {v : Value} {X : List UInt8} (h : OwnAt W 5 v (bv X)) : BAt W v X := by
  rcases h with ⟨rfl, hx⟩ | ⟨g, off, cap, cur, rfl, hg, h1, h2, h3, h4⟩
  · have : X = [] := by cases X with | nil => rfl | cons a b => simp [bv] at hx
    subst this
    exact .nil W
  · refine ⟨some ⟨g, off, none⟩, cap, by rw [bv_length], .inr ⟨g, off, cur, (0, 0), rfl, hg, fun j x hj => ?_⟩⟩
    have hj2 : (bv X)[j]? = some (.int .u8 (x.toNat : Int)) := (bv_get X j _).2 ⟨x, hj, rfl⟩
    rw [← h4, List.getElem?_take] at hj2
    split at hj2
    · rw [List.getElem?_drop] at hj2; simpa using hj2
    · cases hj2
theorem BAt.src {W : World} {v : Value} {X : List UInt8} (h : BAt W v X) : ∃ q c, v = .slice q X.length c ∧ SrcAt W q X := by
  obtain ⟨q, c, rfl, h⟩ := h
  refine ⟨q, c, rfl, fun j x hj => ?_⟩
  rcases h with rfl | ⟨g, o, cs, fr, rfl, h2, h3⟩
  · simp at hj
  · refine ⟨_, rfl, ?_⟩
    rw [add_none]
    exact cell_of_heap h2 (h3 j x hj)
/-- A word in memory. -/
def WAt (W : World) (v : Value) : Wd → Prop
  | .inl l => v = .iface 85 (.string ⟨l.toArray⟩)
  | .inr (.inl n) => v = .iface 86 (.int .i64 (n : Int))
  | .inr (.inr b) => ∃ u, v = .iface 87 u ∧ BAt W u b
theorem mk_tx (s : ByteArray) : (⟨(tx s).toArray⟩ : ByteArray) = s := by cases s; simp [tx]
end Go.Proofs.YtfehmlopndklcaaDoor
