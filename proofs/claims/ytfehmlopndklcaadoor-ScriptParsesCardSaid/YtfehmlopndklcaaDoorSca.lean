/- A script's lines over bytes: digits, numbers, bytes in base 16, pieces between gaps. -/
import Derived.Test.YtfehmlopndklcaaDoorOa
namespace Go.Proofs.YtfehmlopndklcaaDoor
open Go.RowKit
set_option linter.unusedVariables false

/-- The number that a digit of a base stands for. -/
def dg (b : Nat) (c : UInt8) : Option Nat :=
  if 48 ≤ c.toNat ∧ c.toNat ≤ 57 then some (c.toNat - 48) else if b = 16 ∧ 97 ≤ c.toNat ∧ c.toNat ≤ 102 then some (c.toNat - 87) else none
def dgI (b : Nat) (c : UInt8) : Int := match dg b c with | some n => (n : Int) | none => -1
theorem dg_low {b : Nat} {c : UInt8} {n : Nat} (h : dg b c = some n) : c.toNat < 128 ∧ n < 16 := by
  unfold dg at h
  split at h
  · injection h with h; omega
  · split at h
    · injection h with h; omega
    · cases h
theorem dg_ten {c : UInt8} {n : Nat} (h : dg 10 c = some n) : n < 10 ∧ c.toNat = n + 48 := by
  unfold dg at h
  split at h
  · injection h with h; omega
  · split at h
    · omega
    · cases h
theorem dg_high {b : Nat} {c : UInt8} (h : 128 ≤ c.toNat) : dg b c = none := by
  cases e : dg b c with
  | none => rfl
  | some n => have := (dg_low e).1; omega

/-- A number's digits. -/
def numF (o : Option Nat) (c : UInt8) : Option Nat := match o, dg 10 c with | some n, some d => some (10 * n + d) | _, _ => none
def numV (l : List UInt8) : Option Nat := l.foldl numF (some 0)
def numO (l : List UInt8) : Option Nat := if (l.length == 0 || decide (9 < l.length)) || (decide (1 < l.length) && l.head? == some 48) then none else numV l
theorem num_none : ∀ l : List UInt8, l.foldl numF none = none
  | [] => rfl
  | c :: r => by rw [List.foldl_cons]; exact num_none r
theorem foldl_at {α β : Type} {f : β → α → β} {z : β} {l : List α} {i : Nat} {c : α} (h : l[i]? = some c) : (l.take (i + 1)).foldl f z = f ((l.take i).foldl f z) c := by
  rw [List.take_add_one, h]
  simp [List.foldl_append]
theorem foldl_split {α β : Type} {f : β → α → β} {z : β} (l : List α) (i : Nat) : l.foldl f z = (l.drop i).foldl f ((l.take i).foldl f z) := by
  rw [← List.foldl_append, List.take_append_drop]
theorem num_step {l : List UInt8} {i n d : Nat} {c : UInt8} (h : l[i]? = some c) (hn : numV (l.take i) = some n) (hd : dg 10 c = some d) : numV (l.take (i + 1)) = some (10 * n + d) := by
  unfold numV at hn ⊢
  rw [foldl_at h, hn]
  simp [numF, hd]
theorem num_bad {l : List UInt8} {i : Nat} {c : UInt8} (h : l[i]? = some c) (hd : dg 10 c = none) : numV l = none := by
  unfold numV
  rw [foldl_split l (i + 1), foldl_at h]
  have : numF ((l.take i).foldl numF (some 0)) c = none := by
    unfold numF
    rw [hd]
    split <;> simp_all
  rw [this]
  exact num_none _
theorem num_end {l : List UInt8} {i n : Nat} (h : l.length ≤ i) (hn : numV (l.take i) = some n) : numV l = some n := by rwa [List.take_of_length_le h] at hn
theorem num_lt : ∀ {i n : Nat} {l : List UInt8}, i ≤ l.length → numV (l.take i) = some n → n < 10 ^ i
  | 0, n, l, _, h => by
    simp [numV] at h
    subst h
    decide
  | i + 1, n, l, hi, h => by
    have hg : l[i]? = some (l[i]'(by omega)) := List.getElem?_eq_getElem _
    unfold numV at h
    rw [foldl_at hg] at h
    cases e : (l.take i).foldl numF (some 0) with
    | none => rw [e] at h; simp [numF] at h
    | some m =>
      rw [e] at h
      cases e2 : dg 10 (l[i]'(by omega)) with
      | none => simp [numF, e2] at h
      | some d =>
        simp [numF, e2] at h
        have h1 := num_lt (i := i) (n := m) (l := l) (by omega) e
        have h2 := (dg_ten e2).1
        rw [Nat.pow_succ]
        omega

/-- Bytes in base 16: what is whole, the last high part, whether one stands open. -/
def hexF (o : Option (List UInt8 × Nat × Bool)) (c : UInt8) : Option (List UInt8 × Nat × Bool) := match o, dg 16 c with
  | some (out, h, false), some d => some (out, d, true)
  | some (out, h, true), some d => some (out ++ [UInt8.ofNat (16 * h + d)], h, false)
  | _, _ => none
def hexV (l : List UInt8) : Option (List UInt8 × Nat × Bool) := l.foldl hexF (some ([], 0, false))
def hexO (l : List UInt8) : Option (List UInt8) := if l.length % 2 = 0 then (hexV l).map (·.1) else none
theorem hex_none : ∀ l : List UInt8, l.foldl hexF none = none
  | [] => rfl
  | c :: r => by rw [List.foldl_cons]; exact hex_none r
theorem hex_even {l : List UInt8} {i h d : Nat} {out : List UInt8} {c : UInt8} (hc : l[i]? = some c) (hv : hexV (l.take i) = some (out, h, false)) (hd : dg 16 c = some d) : hexV (l.take (i + 1)) = some (out, d, true) := by
  unfold hexV at hv ⊢
  rw [foldl_at hc, hv]
  simp [hexF, hd]
theorem hex_odd {l : List UInt8} {i h d : Nat} {out : List UInt8} {c : UInt8} (hc : l[i]? = some c) (hv : hexV (l.take i) = some (out, h, true)) (hd : dg 16 c = some d) : hexV (l.take (i + 1)) = some (out ++ [UInt8.ofNat (16 * h + d)], h, false) := by
  unfold hexV at hv ⊢
  rw [foldl_at hc, hv]
  simp [hexF, hd]
theorem hex_bad {l : List UInt8} {i : Nat} {c : UInt8} (h : l[i]? = some c) (hd : dg 16 c = none) : hexV l = none := by
  unfold hexV
  rw [foldl_split l (i + 1), foldl_at h]
  have : hexF ((l.take i).foldl hexF (some ([], 0, false))) c = none := by
    unfold hexF
    rw [hd]
    split <;> simp_all
  rw [this]
  exact hex_none _
theorem hexO_bad {l : List UInt8} {i : Nat} {c : UInt8} (h : l[i]? = some c) (hd : dg 16 c = none) : hexO l = none := by
  unfold hexO
  rw [hex_bad h hd]
  split <;> rfl
theorem hexO_end {l out : List UInt8} {i h : Nat} {o : Bool} (he : l.length % 2 = 0) (hi : l.length ≤ i) (hv : hexV (l.take i) = some (out, h, o)) : hexO l = some out := by
  rw [List.take_of_length_le hi] at hv
  unfold hexO
  rw [if_pos he, hv]
  rfl
theorem hexO_odd {l : List UInt8} (he : ¬ l.length % 2 = 0) : hexO l = none := by unfold hexO; rw [if_neg he]

/-- What stands between gaps. -/
def cuts (g : UInt8) : List UInt8 → List (List UInt8)
  | [] => [[]]
  | c :: r => if c = g then [] :: cuts g r else match cuts g r with
    | p :: q => (c :: p) :: q
    | [] => [[c]]
theorem cuts_end (g : UInt8) : ∀ (l : List UInt8), (∀ j, j < l.length → l[j]? ≠ some g) → cuts g l = [l]
  | [], _ => rfl
  | c :: r, h => by
    have h0 : ¬ c = g := fun e => h 0 (by simp) (by simp [e])
    have h1 := cuts_end g r (fun j hj => by have := h (j + 1) (by simpa using hj); simpa using this)
    simp [cuts, h0, h1]
theorem cuts_hit (g : UInt8) : ∀ (l : List UInt8) (p : Nat), l[p]? = some g → (∀ j, j < p → l[j]? ≠ some g) → cuts g l = l.take p :: cuts g (l.drop (p + 1))
  | [], p, h, _ => by simp at h
  | c :: r, 0, h, _ => by
    simp at h
    simp [cuts, h]
  | c :: r, p + 1, h, hn => by
    have h0 : ¬ c = g := fun e => hn 0 (by omega) (by simp [e])
    have h1 := cuts_hit g r p (by simpa using h) (fun j hj => by have := hn (j + 1) (by omega); simpa using this)
    simp [cuts, h0, h1]
theorem cuts_pos (g : UInt8) (l : List UInt8) : 0 < (cuts g l).length := by
  cases l with
  | nil => simp [cuts]
  | cons c r =>
    simp only [cuts]
    split
    · simp
    · split <;> simp
theorem cuts_len (g : UInt8) : ∀ (l p : List UInt8), p ∈ cuts g l → p.length ≤ l.length
  | [], p, h => by simp [cuts] at h; simp [h]
  | c :: r, p, h => by
    have ih := cuts_len g r
    by_cases hc : c = g
    · simp only [cuts, hc, if_true, List.mem_cons] at h
      rcases h with rfl | h
      · simp
      · have := ih p h
        simp; omega
    · simp only [cuts, hc, if_false] at h
      cases hx : cuts g r with
      | nil => rw [hx] at h; simp at h; simp [h]
      | cons q qs =>
        rw [hx] at h
        simp only [List.mem_cons] at h
        rcases h with rfl | h
        · have := ih q (by rw [hx]; simp)
          simp; omega
        · have := ih p (by rw [hx]; simp [h])
          simp; omega
/-- Where piece k begins. -/
def cutAt (L : List (List UInt8)) (k : Nat) : Nat := ((L.take k).map fun p => p.length + 1).sum
theorem cutAt_step {L : List (List UInt8)} {k : Nat} {p : List UInt8} (h : L[k]? = some p) : cutAt L (k + 1) = cutAt L k + (p.length + 1) := by
  unfold cutAt
  rw [List.take_add_one, h]
  simp
/-- k pieces are over, the next one begins at b. -/
structure CutSt (g : UInt8) (l : List UInt8) (k b : Nat) : Prop where
  le : b ≤ l.length
  rest : (cuts g l).drop k = cuts g (l.drop b)
  pos : cutAt (cuts g l) k = b
theorem CutSt.zero (g : UInt8) (l : List UInt8) : CutSt g l 0 0 := ⟨by omega, by simp, by simp [cutAt]⟩
theorem drop_head {α : Type} {L : List α} {k : Nat} {p : α} {r : List α} (h : L.drop k = p :: r) : L[k]? = some p ∧ L.drop (k + 1) = r := by
  constructor
  · have : (L.drop k)[0]? = some p := by rw [h]; rfl
    simpa using this
  · have : (L.drop k).drop 1 = r := by rw [h]; rfl
    rwa [List.drop_drop] at this
theorem CutSt.next {g : UInt8} {l : List UInt8} {k b p : Nat} (h : CutSt g l k b) (hb : b ≤ p) (hp : l[p]? = some g) (hn : ∀ j, b ≤ j → j < p → l[j]? ≠ some g) :
    (cuts g l)[k]? = some ((l.drop b).take (p - b)) ∧ CutSt g l (k + 1) (p + 1) := by
  have hlt := (List.getElem?_eq_some_iff.1 hp).1
  have h1 := cuts_hit g (l.drop b) (p - b) (by rw [List.getElem?_drop, show b + (p - b) = p by omega]; exact hp) (fun j hj => by rw [List.getElem?_drop]; exact hn _ (by omega) (by omega))
  rw [List.drop_drop, show b + (p - b + 1) = p + 1 by omega] at h1
  have h2 := drop_head (h.rest.trans h1)
  refine ⟨h2.1, ⟨by omega, h2.2, ?_⟩⟩
  rw [cutAt_step h2.1, h.pos, List.length_take, List.length_drop]
  omega
theorem CutSt.last {g : UInt8} {l : List UInt8} {k b : Nat} (h : CutSt g l k b) (hn : ∀ j, b ≤ j → j < l.length → l[j]? ≠ some g) : (cuts g l)[k]? = some (l.drop b) ∧ (cuts g l).length = k + 1 := by
  have h1 := cuts_end g (l.drop b) (fun j hj => by rw [List.getElem?_drop]; rw [List.length_drop] at hj; exact hn _ (by omega) (by omega))
  have h2 := drop_head (h.rest.trans h1)
  refine ⟨h2.1, ?_⟩
  have h3 := (List.getElem?_eq_some_iff.1 h2.1).1
  have h4 : ((cuts g l).drop (k + 1)).length = 0 := by rw [h2.2]; rfl
  rw [List.length_drop] at h4
  omega
theorem CutSt.more {g : UInt8} {l : List UInt8} {k b p : Nat} (h : CutSt g l k b) (hb : b ≤ p) (hp : l[p]? = some g) (hn : ∀ j, b ≤ j → j < p → l[j]? ≠ some g) : k + 1 < (cuts g l).length := by
  have h1 := (h.next hb hp hn).2
  have h2 := cuts_pos g (l.drop (p + 1))
  rw [← h1.rest, List.length_drop] at h2
  omega
theorem not_step {l : List UInt8} {g c : UInt8} {b p : Nat} (hn : ∀ j, b ≤ j → j < p → l[j]? ≠ some g) (hp : l[p]? = some c) (hc : ¬ c = g) : ∀ j, b ≤ j → j < p + 1 → l[j]? ≠ some g := fun j hj hlt => by
  rcases Nat.lt_or_ge j p with h | h
  · exact hn j hj h
  · obtain rfl : j = p := by omega
    rw [hp]
    intro e
    injection e with e
    exact hc e
theorem not_more {l : List UInt8} {g : UInt8} {b p k : Nat} (hn : ∀ j, b ≤ j → j < p → l[j]? ≠ some g) (hk : ∀ j, j < k → ∃ c, l[p + j]? = some c ∧ 128 ≤ c.toNat) (hg : g.toNat < 128) : ∀ j, b ≤ j → j < p + k → l[j]? ≠ some g := fun j hj hlt => by
  rcases Nat.lt_or_ge j p with h | h
  · exact hn j hj h
  · obtain ⟨c, h1, h2⟩ := hk (j - p) (by omega)
    rw [show p + (j - p) = j by omega] at h1
    rw [h1]
    intro e
    injection e with e
    subst e
    omega
end Go.Proofs.YtfehmlopndklcaaDoor
