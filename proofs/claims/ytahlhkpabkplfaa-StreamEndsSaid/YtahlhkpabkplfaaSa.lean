/- Streams, plainly: what the calls answer, and what holds behind each. -/
import Derived.Test.YtahlhkpabkplfaaRows
namespace Go.Proofs.Ytahlhkpabkplfaa
set_option linter.unusedVariables false

/-- The chapter's table: the next state; 5, 6: a fault with CClosed (the stream's, the connection's), 7: of the connection with CProtocol, 8: not now. -/
def tblS : List (List Nat) := [[1, 1, 2, 5, 6], [3, 3, 4, 5, 6], [7, 1, 2, 5, 6], [7, 4, 4, 4, 4], [7, 1, 2, 3, 4], [1, 1, 8, 3, 8], [2, 2, 8, 4, 8], [8, 1, 8, 3, 8], [8, 4, 4, 4, 8]]
def codeT (what state : Nat) : Nat := (tblS.getD what []).getD state 9
def stepO (state what : Int) : Int × Int × Int × Int :=
  if what < 0 ∨ 9 ≤ what ∨ state < 0 ∨ 4 < state then (0, 0, 0, 1)
  else if codeT what.toNat state.toNat = 5 then (state, 1, 5, 0)
  else if codeT what.toNat state.toNat = 6 then (state, 2, 5, 0)
  else if codeT what.toNat state.toNat = 7 then (state, 2, 1, 0)
  else if codeT what.toNat state.toNat = 8 then (state, 0, 0, 5)
  else ((codeT what.toNat state.toNat : Nat), 0, 0, 0)
/-- Streams of an end. -/
structure Stm where
  server : Bool
  most : Int
  mine : Int
  L : List (Int × Int)
  gone : List Int
  theirs : Int
  ours : Int
def ownS (sv : Bool) (d : Int) : Bool := decide (d % 2 = 0) == sv
/-- Is a known stream one that counts as open on this side? -/
def countS (sv own : Bool) (x : Int × Int) : Bool := (ownS sv x.1 == own) && decide (x.2 ≠ 4)
def openS (S : Stm) (own : Bool) : Nat := (S.L.filter (countS S.server own)).length
def last64 (l : List Int) : List Int := l.drop (l.length - 64)
def dropS (S : Stm) (d : Int) : Stm := { S with gone := last64 (S.gone ++ [d]) }
/-- A number that was opened. -/
def openedS (S : Stm) (d : Int) : Prop := 1 ≤ d ∧ d ≤ 2147483647 ∧ (if ownS S.server d then d ≤ S.ours else d ≤ S.theirs)
theorem openedS_dec (S : Stm) (d : Int) : openedS S d ∨ ¬ openedS S d := Classical.em _
def findS (L : List (Int × Int)) (d : Int) : Option (Int × Int) := L.find? (fun x => x.1 == d)
def stateS (S : Stm) (d : Int) : Int :=
  match findS S.L d with
  | some x => x.2
  | none => if d < 1 ∨ 2147483647 < d ∨ (ownS S.server d = true ∧ S.ours < d) ∨ (ownS S.server d = false ∧ S.theirs < d) then 0 else 4
def putL (d : Int) : List (Int × Int) → List (Int × Int)
  | [] => [(d, 0)]
  | x :: r => if d < x.1 then (d, 0) :: x :: r else x :: putL d r
def setL (d n : Int) (L : List (Int × Int)) : List (Int × Int) := L.map fun x => if x.1 = d then (d, n) else x
def newS (sv : Bool) (most : Int) : Stm := ⟨sv, most, 1024, [], [], 0, 0⟩
def limitS (S : Stm) (n : Int) : Int × Stm := if n < 0 then (1, S) else (0, { S with mine := if n ≤ 1024 then n else 1024 })
/-- The answer, and whether there is a fault. -/
def peerS (S : Stm) (d : Int) : Bool × Bool × Stm :=
  if d < 1 ∨ 2147483647 < d ∨ ownS S.server d = true ∨ d ≤ S.theirs then (false, true, S)
  else if S.most ≤ (openS S false : Nat) then (false, false, dropS { S with theirs := d } d)
  else (true, false, { S with theirs := d, L := putL d S.L })
def nextS (S : Stm) : Int := if S.ours = 0 ∧ S.server = false then 1 else S.ours + 2
def ownO (S : Stm) : Int × Int × Stm :=
  if S.mine ≤ (openS S true : Nat) then (0, 9, S)
  else if 2147483647 < nextS S then (0, 2, S)
  else (nextS S, 0, { S with ours := nextS S, L := putL (nextS S) S.L })
def turnS (S : Stm) (d n what : Int) : Stm :=
  match findS S.L d with
  | none => S
  | some _ => if n = 4 then (if what = 8 then dropS { S with L := S.L.filter (fun x => x.1 ≠ d) } d else { S with L := S.L.filter (fun x => x.1 ≠ d) }) else { S with L := setL d n S.L }
/-- The next state, the fault (is, of which stream, code), the error. -/
def doS (S : Stm) (d what : Int) : (Int × (Bool × Int × Int) × Int) × Stm :=
  if d < 1 ∨ 2147483647 < d then ((0, (false, 0, 0), 1), S)
  else if S.gone.contains d = true ∧ 0 ≤ what ∧ what ≤ 4 then ((4, (false, 0, 0), 0), S)
  else if (stepO (stateS S d) what).2.2.2 ≠ 0 then ((0, (false, 0, 0), (stepO (stateS S d) what).2.2.2), S)
  else if (stepO (stateS S d) what).2.1 = 1 then ((0, (true, d, (stepO (stateS S d) what).2.2.1), 0), S)
  else if (stepO (stateS S d) what).2.1 = 2 then ((0, (true, 0, (stepO (stateS S d) what).2.2.1), 0), S)
  else (((stepO (stateS S d) what).1, (false, 0, 0), 0), turnS S d (stepO (stateS S d) what).1 what)

/-! what holds -/
structure InvS (S : Stm) : Prop where
  rise : S.L.Pairwise (fun x y => x.1 < y.1)
  st : ∀ x ∈ S.L, 0 ≤ x.2 ∧ x.2 ≤ 3
  num : ∀ x ∈ S.L, openedS S x.1
  th : 0 ≤ S.theirs ∧ S.theirs ≤ 2147483647
  ou : 0 ≤ S.ours ∧ S.ours ≤ 2147483647
  mo : 0 ≤ S.most ∧ S.most ≤ 1024
  mi : 0 ≤ S.mine ∧ S.mine ≤ 1024
  peers : (openS S false : Int) ≤ S.most
  owns : openS S true ≤ 1024
  few : S.gone.length ≤ 64
  par : S.ours = 0 ∨ ownS S.server S.ours = true
theorem last64_few (l : List Int) : (last64 l).length ≤ 64 := by unfold last64; rw [List.length_drop]; omega
theorem mem_last64 {l : List Int} {x : Int} (h : x ∈ last64 l) : x ∈ l := List.mem_of_mem_drop h
theorem mem_putL (d : Int) (x : Int × Int) : ∀ L : List (Int × Int), x ∈ putL d L ↔ x = (d, 0) ∨ x ∈ L
  | [] => by simp [putL]
  | y :: r => by
    unfold putL
    split
    · simp
    · rw [List.mem_cons, mem_putL d x r, List.mem_cons]
      constructor
      · rintro (h | h | h)
        · exact .inr (.inl h)
        · exact .inl h
        · exact .inr (.inr h)
      · rintro (h | h | h)
        · exact .inr (.inl h)
        · exact .inl h
        · exact .inr (.inr h)
theorem rise_putL (d : Int) : ∀ L : List (Int × Int), L.Pairwise (fun x y => x.1 < y.1) → (∀ x ∈ L, x.1 ≠ d) → (putL d L).Pairwise (fun x y => x.1 < y.1)
  | [], _, _ => by simp [putL]
  | y :: r, h, hn => by
    have hy := hn y (List.mem_cons_self ..)
    obtain ⟨h1, h2⟩ := List.pairwise_cons.1 h
    unfold putL
    split
    · rename_i hd
      refine List.pairwise_cons.2 ⟨fun z hz => ?_, h⟩
      rcases List.mem_cons.1 hz with rfl | hz
      · exact hd
      · have := h1 z hz
        show d < z.1
        omega
    · rename_i hd
      refine List.pairwise_cons.2 ⟨fun z hz => ?_, rise_putL d r h2 (fun x hx => hn x (List.mem_cons_of_mem _ hx))⟩
      rcases (mem_putL d z r).1 hz with rfl | hz
      · show y.1 < d
        omega
      · exact h1 z hz
theorem count_putL (f : Int × Int → Bool) (d : Int) : ∀ L : List (Int × Int), ((putL d L).filter f).length = (L.filter f).length + (if f (d, 0) then 1 else 0)
  | [] => by cases h : f (d, 0) <;> simp [putL, List.filter, h]
  | y :: r => by
    unfold putL
    split
    · cases h : f (d, 0) <;> simp [List.filter_cons, h]
    · have ih := count_putL f d r
      cases hy : f y <;> simp [hy, ih] <;> omega
theorem count_sub (f : Int × Int → Bool) (p : Int × Int → Bool) (L : List (Int × Int)) : ((L.filter p).filter f).length ≤ (L.filter f).length := by
  rw [List.filter_filter]
  induction L with
  | nil => simp
  | cons a r ih =>
    cases hp : p a <;> cases hf : f a <;> simp [hp, hf] <;> omega
theorem find_some {L : List (Int × Int)} {d : Int} {x : Int × Int} (h : findS L d = some x) : x ∈ L ∧ x.1 = d := by
  unfold findS at h
  have h1 := List.find?_some h
  have h2 := List.mem_of_find?_eq_some h
  exact ⟨h2, by simpa using h1⟩
theorem find_none {L : List (Int × Int)} {d : Int} (h : findS L d = none) : ∀ x ∈ L, x.1 ≠ d := by
  unfold findS at h
  intro x hx
  have := List.find?_eq_none.1 h x hx
  simpa using this
theorem find_of_none {L : List (Int × Int)} {d : Int} (h : ∀ x ∈ L, x.1 ≠ d) : findS L d = none := by
  unfold findS
  rw [List.find?_eq_none]
  intro x hx
  simpa using h x hx
/-- Closed: opened, and known no more. -/
theorem state_closed {S : Stm} (h : InvS S) (d : Int) : stateS S d = 4 ↔ openedS S d ∧ ∀ x ∈ S.L, x.1 ≠ d := by
  unfold stateS
  constructor
  · intro e
    split at e
    · rename_i x hx
      have := h.st x (find_some hx).1
      omega
    · rename_i hx
      split at e
      · cases e
      · rename_i hn
        refine ⟨⟨by omega, by omega, ?_⟩, find_none hx⟩
        cases ho : ownS S.server d
        · rw [if_neg (by simp)]
          simp only [ho] at hn
          simp at hn
          omega
        · rw [if_pos rfl]
          simp only [ho] at hn
          simp at hn
          omega
  · rintro ⟨⟨h1, h2, h3⟩, hn⟩
    rw [find_of_none hn]
    dsimp only
    rw [if_neg]
    cases ho : ownS S.server d
    · rw [ho] at h3
      simp at h3 ⊢
      omega
    · rw [ho] at h3
      simp at h3 ⊢
      omega
end Go.Proofs.Ytahlhkpabkplfaa
