/- How the document goes over the words of a line: plain facts. -/
import Derived.Test.YtfehmlopndklcaaDoorScr
import Derived.Test.YtfehmlopndklcaaDoorScv
import Derived.Test.YtfehmlopndklcaaDoorScu
import Derived.Test.YtfehmlopndklcaaDoorScq
namespace Go.Proofs.YtfehmlopndklcaaDoor
open Go.RowKit
set_option maxRecDepth 100000
set_option linter.unusedVariables false

theorem piece_of {l : List UInt8} {k b e : Nat} (h : CutSt 32 l k b) (hw : WE l b e) : (cuts 32 l)[k]? = some ((l.drop b).take (e - b)) ∧ ((e < l.length ∧ CutSt 32 l (k + 1) (e + 1)) ∨ (e = l.length ∧ (cuts 32 l).length = k + 1)) := by
  by_cases hlt : e < l.length
  · have h1 := h.next hw.ge (hw.hit hlt) hw.no
    exact ⟨h1.1, .inl ⟨hlt, h1.2⟩⟩
  · have he : e = l.length := by have := hw.le; omega
    have h1 := h.last (fun j h1 h2 => hw.no j h1 (by omega))
    refine ⟨?_, .inr ⟨he, h1.2⟩⟩
    rw [h1.1, List.take_of_length_le (by rw [List.length_drop]; omega)]
theorem kind_hit {p : List UInt8} : ∀ {i : Nat}, namesL[i]? = some p → kindI p = (i : Int)
  | 0, h | 1, h | 2, h | 3, h | 4, h | 5, h | 6, h | 7, h => by
    injection h with h
    subst h
    rfl
  | n + 8, h => by simp [namesL] at h
theorem kind_of {p : List UInt8} {i : Nat} (h : kindI p = (i : Int)) : namesL[i]? = some p := by
  unfold kindI at h
  cases e : namesL.findIdx? (· == p) with
  | none => rw [e] at h; simp at h
  | some j =>
    rw [e] at h
    have h2 : (j : Int) = (i : Int) := by simpa using h
    have h' : j = i := by omega
    subst h'
    obtain ⟨hl, h1, -⟩ := List.findIdx?_eq_some_iff_getElem.1 e
    rw [List.getElem?_eq_getElem hl]
    simpa using h1
theorem kind_lt {p : List UInt8} : kindI p < 8 ∧ -1 ≤ kindI p := by
  unfold kindI
  cases e : namesL.findIdx? (· == p) with
  | none => simp
  | some j =>
    obtain ⟨hl, -, -⟩ := List.findIdx?_eq_some_iff_getElem.1 e
    have : namesL.length = 8 := rfl
    dsimp only
    omega
theorem names_head {p : List UInt8} (h : 0 ≤ kindI p) : ∃ c r, p = c :: r ∧ 97 ≤ c.toNat := by
  obtain ⟨i, hi⟩ : ∃ i : Nat, kindI p = (i : Int) := ⟨(kindI p).toNat, by omega⟩
  have h1 := kind_of hi
  have h2 := kind_lt (p := p)
  have hi8 : i < 8 := by omega
  have : ∀ q ∈ namesL, ∃ c r, q = c :: r ∧ 97 ≤ c.toNat := by
    intro q hq
    simp only [namesL, List.mem_cons, List.not_mem_nil, or_false] at hq
    rcases hq with rfl | rfl | rfl | rfl | rfl | rfl | rfl | rfl <;> exact ⟨_, _, rfl, by decide⟩
  exact this p (List.mem_of_getElem? h1)
theorem first_step (p : List UInt8) : stepW Dr0 p = if 0 ≤ kindI p then some { Dr0 with what := kindI p, nx := 1 } else none := by
  unfold stepW wordO
  by_cases hk : 0 ≤ kindI p
  · obtain ⟨c, r, hp, hc⟩ := names_head hk
    rw [if_pos hk]
    have h1 : ¬ p.head? = some 61 := by
      rw [hp]
      intro e
      injection e with e
      rw [e] at hc
      revert hc
      decide
    have h2 : ¬ isDig p = true := by
      rw [hp]
      simp only [isDig]
      cases hd : dg 10 c with
      | none => simp
      | some n => have := (dg_ten hd); omega
    rw [if_neg h1, if_neg h2]
    show addW Dr0 (.inl p) = _
    simp only [addW]
    rw [if_pos ⟨hk, rfl⟩]
  · rw [if_neg hk]
    split
    · cases hexO p.tail with
      | none => rfl
      | some b => rfl
    · split
      · cases numO p with
        | none => rfl
        | some b => rfl
      · show addW Dr0 (.inl p) = _
        simp only [addW]
        rw [if_neg (fun e => hk e.1)]
theorem step_hex {x : Dr} {p : List UInt8} (h : p.head? = some 61) (hx : 1 ≤ x.nx) : stepW x p = (hexO p.tail).bind fun b => if x.nx ≤ 4 then some { x with dat := b, nx := 5 } else none := by
  unfold stepW wordO
  rw [if_pos h]
  cases hexO p.tail with
  | none => rfl
  | some b =>
    show addW x (.inr (.inr b)) = _
    simp only [addW, Option.bind_some, hx, true_and]
theorem num_no {p : List UInt8} (h : ¬ isDig p = true) : numO p = none := by
  unfold numO
  cases p with
  | nil => rfl
  | cons c r =>
    have hc : dg 10 c = none := by
      simp only [isDig] at h
      cases hd : dg 10 c with
      | none => rfl
      | some n => rw [hd] at h; simp at h
    have := num_bad (l := c :: r) (i := 0) (c := c) rfl hc
    rw [this]
    split <;> rfl
theorem num_eq {p : List UInt8} (h : p.head? = some 61) : numO p = none := by
  refine num_no ?_
  cases p with
  | nil => simp at h
  | cons c r =>
    simp at h
    subst h
    show ¬ (dg 10 61).isSome = true
    decide
theorem step_num {x : Dr} {p : List UInt8} (h : ¬ p.head? = some 61) (hx : 1 ≤ x.nx) : stepW x p = (numO p).bind fun n => if x.nx < 4 then some (putN x n) else none := by
  unfold stepW wordO
  rw [if_neg h]
  by_cases hd : isDig p = true
  · rw [if_pos hd]
    cases numO p with
    | none => rfl
    | some n =>
      show addW x (.inr (.inl n)) = _
      simp only [addW, Option.bind_some, hx, true_and]
  · rw [if_neg hd, num_no hd]
    show addW x (.inl p) = none
    simp only [addW]
    rw [if_neg (fun e => by have := e.2; omega)]
/-- The document's state: its numbers, whether bytes were read. -/
structure DS (x : Dr) (ns : List Int) (dn : Bool) : Prop where
  few : ns.length ≤ 3
  nx : x.nx = if dn then 5 else 1 + ns.length
  a : x.a = ns.getD 0 0
  b : x.b = ns.getD 1 0
  d : x.d = ns.getD 2 0
theorem DS.pos {x : Dr} {ns : List Int} {dn : Bool} (h : DS x ns dn) : 1 ≤ x.nx := by have := h.nx; split at this <;> omega
theorem DS.first (k : Int) : DS { Dr0 with what := k, nx := 1 } [] false := ⟨by simp, rfl, rfl, rfl, rfl⟩
theorem DS.hex {x : Dr} {ns : List Int} (h : DS x ns false) (b : List UInt8) : x.nx ≤ 4 ∧ DS { x with dat := b, nx := 5 } ns true := by
  have h1 := h.nx
  have h2 := h.few
  simp at h1
  exact ⟨by omega, h.few, rfl, h.a, h.b, h.d⟩
theorem DS.num {x : Dr} {ns : List Int} (h : DS x ns false) (hl : ns.length < 3) (n : Int) : x.nx < 4 ∧ DS (putN x n) (ns ++ [n]) false ∧ (putN x n).what = x.what ∧ (putN x n).dat = x.dat := by
  have h1 := h.nx
  simp at h1
  obtain ⟨h2, -, ha, hb, hd⟩ := h
  have hn : x.nx < 4 := by omega
  refine ⟨hn, ?_⟩
  match ns, hl, h1, ha, hb, hd with
  | [], _, h1, ha, hb, hd =>
    have e : x.nx = 1 := by simpa using h1
    have hp : putN x n = { x with a := n, nx := 2 } := by simp [putN, e]
    rw [hp]
    exact ⟨⟨by simp, rfl, rfl, hb, hd⟩, rfl, rfl⟩
  | [u], _, h1, ha, hb, hd =>
    have e : x.nx = 2 := by simpa using h1
    have hp : putN x n = { x with b := n, nx := 3 } := by simp [putN, e]
    rw [hp]
    exact ⟨⟨by simp, rfl, ha, rfl, hd⟩, rfl, rfl⟩
  | [u, v], _, h1, ha, hb, hd =>
    have e : x.nx = 3 := by simpa using h1
    have hp : putN x n = { x with d := n, nx := 4 } := by simp [putN, e]
    rw [hp]
    exact ⟨⟨by simp, rfl, ha, hb, rfl⟩, rfl, rfl⟩
theorem DS.full {x : Dr} {ns : List Int} {dn : Bool} (h : DS x ns dn) (hf : dn = true ∨ ns.length = 3) : ¬ x.nx < 4 := by
  have h1 := h.nx
  rcases hf with rfl | h3
  · simp at h1; omega
  · cases dn with
    | true => simp at h1; omega
    | false => simp at h1; omega
end Go.Proofs.YtfehmlopndklcaaDoor
