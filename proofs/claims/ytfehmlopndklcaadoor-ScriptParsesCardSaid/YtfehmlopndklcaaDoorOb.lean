/- Lists of headers: what is found, lengths, what a request, a response, trailers are. -/
import Derived.Test.YtfehmlopndklcaaDoorOa
namespace Go.Proofs.YtfehmlopndklcaaDoor
open Go.RowKit
set_option linter.unusedVariables false

abbrev Hd := ByteArray × ByteArray × Bool
def sMethod : List UInt8 := [58, 109, 101, 116, 104, 111, 100]
def sScheme : List UInt8 := [58, 115, 99, 104, 101, 109, 101]
def sAuth : List UInt8 := [58, 97, 117, 116, 104, 111, 114, 105, 116, 121]
def sPath : List UInt8 := [58, 112, 97, 116, 104]
def sProto : List UInt8 := [58, 112, 114, 111, 116, 111, 99, 111, 108]
def sStatus : List UInt8 := [58, 115, 116, 97, 116, 117, 115]
def sConnect : List UInt8 := [67, 79, 78, 78, 69, 67, 84]
def sCL : List UInt8 := [99, 111, 110, 116, 101, 110, 116, 45, 108, 101, 110, 103, 116, 104]
def sTe : List UInt8 := [116, 101]
def sTrailers : List UInt8 := [116, 114, 97, 105, 108, 101, 114, 115]
def sConn : List UInt8 := [99, 111, 110, 110, 101, 99, 116, 105, 111, 110]
def sPConn : List UInt8 := [112, 114, 111, 120, 121, 45, 99, 111, 110, 110, 101, 99, 116, 105, 111, 110]
def sKeep : List UInt8 := [107, 101, 101, 112, 45, 97, 108, 105, 118, 101]
def sTrans : List UInt8 := [116, 114, 97, 110, 115, 102, 101, 114, 45, 101, 110, 99, 111, 100, 105, 110, 103]
def sUp : List UInt8 := [117, 112, 103, 114, 97, 100, 101]

/-- The value of the first header of a name. -/
def findL : List Hd → List UInt8 → Option ByteArray
  | [], _ => none
  | h :: t, n => if tx h.1 = n then some h.2.1 else findL t n
theorem findL_append (a b : List Hd) (n : List UInt8) : findL (a ++ b) n = (findL a n).or (findL b n) := by
  induction a with
  | nil => simp [findL]
  | cons h t ih =>
    simp only [List.cons_append, findL]
    split
    · rfl
    · exact ih
theorem findL_mem {l : List Hd} {n : List UInt8} {v : ByteArray} (h : findL l n = some v) : ∃ x ∈ l, tx x.1 = n ∧ x.2.1 = v := by
  induction l with
  | nil => simp [findL] at h
  | cons x t ih =>
    simp only [findL] at h
    split at h
    · rename_i hx
      cases h
      exact ⟨x, by simp, hx, rfl⟩
    · obtain ⟨y, hy, h1⟩ := ih h
      exact ⟨y, by simp [hy], h1⟩
theorem findL_none {l : List Hd} {n : List UInt8} (h : findL l n = none) : ∀ x ∈ l, tx x.1 ≠ n := by
  induction l with
  | nil => simp
  | cons x t ih =>
    simp only [findL] at h
    split at h
    · cases h
    · rename_i hx
      intro y hy
      rcases List.mem_cons.1 hy with rfl | hy
      · exact hx
      · exact ih h y hy
/-- How a walk finds it. -/
theorem findL_step {l : List Hd} {n : List UInt8} {i : Nat} {h : Hd} (hi : l[i]? = some h) (hp : findL (l.take i) n = none) (hne : tx h.1 ≠ n) : findL (l.take (i + 1)) n = none := by
  rw [List.take_add_one, hi, findL_append, hp]
  simp [findL, hne]
theorem findL_hit {l : List Hd} {n : List UInt8} {i : Nat} {h : Hd} (hi : l[i]? = some h) (hp : findL (l.take i) n = none) (he : tx h.1 = n) : findL l n = some h.2.1 := by
  have h1 : l = l.take i ++ (h :: l.drop (i + 1)) := by
    have hlt := (List.getElem?_eq_some_iff.1 hi).1
    have h2 := (List.getElem?_eq_some_iff.1 hi).2
    rw [← h2, ← List.drop_eq_getElem_cons hlt, List.take_append_drop]
  rw [h1, findL_append, hp]
  simp [findL, he]
theorem findL_end {l : List Hd} {n : List UInt8} {i : Nat} (hi : l.length ≤ i) (hp : findL (l.take i) n = none) : findL l n = none := by rwa [List.take_of_length_le hi] at hp

def numL (s : List UInt8) : Nat := s.foldl (fun n c => 10 * n + (c.toNat - 48)) 0
def digsB (m : Nat) (s : List UInt8) : Bool := s.all digB && decide (1 ≤ s.length) && decide (s.length ≤ m)
/-- Every length is this text. -/
def alikeB (l : List Hd) (f : List UInt8) : Bool := l.all fun h => !(tx h.1 == sCL) || tx h.2.1 == f
def lengthO (l : List Hd) : Nat × Bool × Int :=
  match findL l sCL with
  | none => (0, false, 0)
  | some f => if alikeB l (tx f) && digsB 9 (tx f) then (numL (tx f), true, 0) else (0, false, 134)

def pseudoB (s : List UInt8) : Bool := s.head? == some 58
def nameOk (n : List UInt8) : Bool := nameB (if pseudoB n then n.tail else n)
def boundB (n v : List UInt8) : Bool := [sConn, sPConn, sKeep, sTrans, sUp].contains n || (n == sTe && v != sTrailers)
def plainB (l : List Hd) : Bool := l.any fun h => !pseudoB (tx h.1)
/-- What a header answers behind others. -/
def stepE (may : List (List UInt8)) (done : List Hd) (h : Hd) : Int :=
  if nameOk (tx h.1) = false then 130
  else if valueB (tx h.2.1) = false then 131
  else if (pseudoB (tx h.1) && (plainB done || !may.contains (tx h.1) || (findL done (tx h.1)).isSome)) = true then 132
  else if boundB (tx h.1) (tx h.2.1) = true then 133
  else 0
def eachO (may : List (List UInt8)) : List Hd → List Hd → Int
  | done, [] => 0
  | done, h :: t => if stepE may done h = 0 then eachO may (done ++ [h]) t else stepE may done h
theorem eachO_at {may : List (List UInt8)} {l : List Hd} {i : Nat} {h : Hd} (hi : l[i]? = some h) : eachO may (l.take i) (l.drop i) = if stepE may (l.take i) h = 0 then eachO may (l.take (i + 1)) (l.drop (i + 1)) else stepE may (l.take i) h := by
  have hlt := (List.getElem?_eq_some_iff.1 hi).1
  have h2 := (List.getElem?_eq_some_iff.1 hi).2
  have h3 : l.drop i = h :: l.drop (i + 1) := by rw [← h2]; exact List.drop_eq_getElem_cons hlt
  have h4 : l.take (i + 1) = l.take i ++ [h] := by rw [List.take_add_one, hi]; rfl
  rw [h3, h4, eachO]
theorem eachO_end {may : List (List UInt8)} {l : List Hd} {i : Nat} (hi : l.length ≤ i) : eachO may (l.take i) (l.drop i) = 0 := by
  rw [List.drop_of_length_le hi, eachO]

def valO (l : List Hd) (n : List UInt8) : List UInt8 := ((findL l n).map tx).getD []
def hasO (l : List Hd) (n : List UInt8) : Bool := (findL l n).isSome
def wholeB (l : List Hd) : Bool :=
  if (valO l sMethod).isEmpty then false
  else if valO l sMethod == sConnect && !hasO l sProto then hasO l sAuth && !hasO l sScheme && !hasO l sPath
  else if hasO l sProto && (!(valO l sMethod == sConnect) || !hasO l sAuth) then false
  else !(valO l sScheme).isEmpty && !(valO l sPath).isEmpty
def mayR : List (List UInt8) := [sMethod, sScheme, sAuth, sPath, sProto]
def requestO (l : List Hd) : Int :=
  if eachO mayR [] l = 0 then (if wholeB l then (lengthO l).2.2 else 132) else eachO mayR [] l
def statusB (s : List UInt8) : Bool := digsB 3 s && decide (100 ≤ numL s) && decide (numL s ≤ 599)
def responseO (l : List Hd) : Nat × Int :=
  if eachO [sStatus] [] l = 0 then
    (if statusB (valO l sStatus) then (if (lengthO l).2.2 = 0 then (numL (valO l sStatus), 0) else (0, (lengthO l).2.2)) else (0, 132))
  else (0, eachO [sStatus] [] l)
def trailersO (l : List Hd) : Int := eachO [] [] l

/-- What a pseudo header answers where it may not be. -/
theorem each_pseudo {may : List (List UInt8)} : ∀ {l done : List Hd}, eachO may done l = 0 → ∀ x ∈ l, pseudoB (tx x.1) = true → tx x.1 ∈ may
  | [], _, _, x, hx, _ => by simp at hx
  | h :: t, done, he, x, hx, hp => by
    rw [eachO] at he
    split at he
    · rename_i h0
      rcases List.mem_cons.1 hx with rfl | hx
      · unfold stepE at h0
        split at h0
        · simp at h0
        split at h0
        · simp at h0
        split at h0
        · simp at h0
        rename_i h1
        simp [hp] at h1
        exact h1.1.2
      · exact each_pseudo he x hx hp
    · rename_i h0
      exact absurd he h0
theorem whole_method {l : List Hd} (h : wholeB l = true) : ∃ x ∈ l, tx x.1 = sMethod := by
  unfold wholeB at h
  split at h
  · cases h
  · rename_i h1
    unfold valO at h1
    cases hf : findL l sMethod with
    | none => rw [hf] at h1; simp at h1
    | some v => obtain ⟨x, hx, he, _⟩ := findL_mem hf; exact ⟨x, hx, he⟩
theorem request_method {l : List Hd} (h : requestO l = 0) : eachO mayR [] l = 0 ∧ ∃ x ∈ l, tx x.1 = sMethod := by
  unfold requestO at h
  split at h
  · rename_i h0
    refine ⟨h0, ?_⟩
    split at h
    · rename_i hw; exact whole_method hw
    · simp at h
  · rename_i h0; exact absurd h h0
theorem response_status {l : List Hd} (h : (responseO l).2 = 0) : eachO [sStatus] [] l = 0 ∧ (∃ x ∈ l, tx x.1 = sStatus) ∧ 100 ≤ (responseO l).1 ∧ (responseO l).1 ≤ 599 := by
  unfold responseO at h ⊢
  split at h
  · rename_i h0
    rw [if_pos h0]
    split at h
    · rename_i hs
      rw [if_pos hs]
      unfold statusB at hs
      simp only [Bool.and_eq_true, decide_eq_true_eq] at hs
      split at h
      · rename_i hl
        rw [if_pos hl]
        refine ⟨h0, ?_, hs.1.2, hs.2⟩
        cases hf : findL l sStatus with
        | none => exfalso; have := hs.1.1; unfold valO digsB at this; rw [hf] at this; simp at this
        | some v => obtain ⟨x, hx, he, _⟩ := findL_mem hf; exact ⟨x, hx, he⟩
      · rename_i hl; exact absurd h hl
    · simp at h
  · rename_i h0; exact absurd h h0
theorem one_of_three (l : List Hd) : ¬ (requestO l = 0 ∧ (responseO l).2 = 0) ∧ ¬ (requestO l = 0 ∧ trailersO l = 0) ∧ ¬ ((responseO l).2 = 0 ∧ trailersO l = 0) := by
  refine ⟨fun ⟨h1, h2⟩ => ?_, fun ⟨h1, h2⟩ => ?_, fun ⟨h1, h2⟩ => ?_⟩
  · obtain ⟨_, x, hx, he⟩ := request_method h1
    have := each_pseudo (response_status h2).1 x hx (by rw [he]; decide)
    rw [he] at this
    exact absurd this (by decide)
  · obtain ⟨_, x, hx, he⟩ := request_method h1
    have := each_pseudo h2 x hx (by rw [he]; decide)
    simp at this
  · obtain ⟨_, ⟨x, hx, he⟩, _⟩ := response_status h1
    have := each_pseudo h2 x hx (by rw [he]; decide)
    simp at this
end Go.Proofs.YtfehmlopndklcaaDoor
