/- Plain facts of timers for the laws: one timer among others; timers set one behind the other. -/
import Derived.Test.YtldedlphamcehaaGa
namespace Go.Proofs.Ytldedlphamcehaa
open Go.RowKit Go.Maps
set_option linter.unusedVariables false

theorem find_set_other {N : Nat} {L : List (Int × Int)} {d n k : Int} (hk : k ≠ d) : findT (setT N L d n).2 k = findT L k := by
  unfold setT
  split
  · rfl
  · split
    · rfl
    · dsimp only
      rw [findT_add (del_not L d), if_neg hk, findT_del, if_neg hk]
theorem find_cancel_other {L : List (Int × Int)} {d k : Int} (hk : k ≠ d) : findT (cancelT L d).2 k = findT L k := by
  unfold cancelT
  split
  · rfl
  · dsimp only
    rw [findT_del, if_neg hk]
theorem due_mem {N : Nat} {L : List (Int × Int)} (h : InvT N L) (k : Int) : k ∈ dueT N L ↔ ∃ x, findT L k = some x ∧ x.2 = (N : Int) + 1 := by
  unfold dueT
  simp only [List.mem_map, List.mem_filter, decide_eq_true_eq]
  constructor
  · rintro ⟨x, ⟨h1, h2⟩, rfl⟩
    exact ⟨x, find_mem h.nd h1, h2⟩
  · rintro ⟨x, h1, h2⟩
    obtain ⟨h3, h4⟩ := findT_some h1
    exact ⟨x, ⟨h3, h2⟩, h4⟩
theorem find_rest {N : Nat} {L : List (Int × Int)} (h : InvT N L) (k : Int) : findT (restT N L) k = (findT L k).bind (fun x => if x.2 = (N : Int) + 1 then none else some x) := by
  cases hk : findT L k with
  | none => exact findT_of_none fun x hx => findT_none hk x (List.mem_filter.1 hx).1
  | some x =>
    obtain ⟨h1, h2⟩ := findT_some hk
    rw [Option.bind_some]
    split
    · rename_i e
      refine findT_of_none fun y hy e2 => ?_
      obtain ⟨h3, h4⟩ := List.mem_filter.1 hy
      have := find_mem h.nd h3
      rw [e2, hk] at this
      cases this
      simp [e] at h4
    · rename_i e
      have := find_mem (inv_tick h).nd (x := x) (List.mem_filter.2 ⟨h1, by simpa using e⟩)
      rw [h2] at this
      exact this
theorem due_few {N : Nat} {L : List (Int × Int)} (h : InvT N L) : (dueT N L).length ≤ 4096 := by
  unfold dueT
  rw [List.length_map]
  have h1 := List.length_filter_le (fun x : Int × Int => decide (x.2 = (N : Int) + 1)) L
  have h2 := h.few
  omega
/-- A timer, n ticks ahead at first, N ticks in: there, or told. -/
def OneT (k : Int) (n N : Nat) (L : List (Int × Int)) : Prop := if N < n then findT L k = some (k, (n : Int)) else findT L k = none
theorem one_tick {k : Int} {n N : Nat} {L : List (Int × Int)} (h : InvT N L) (ho : OneT k n N L) : OneT k n (N + 1) (restT N L) ∧ decide (k ∈ dueT N L) = decide (N + 1 = n) := by
  unfold OneT at ho ⊢
  rw [find_rest h]
  by_cases h1 : N < n
  · rw [if_pos h1] at ho
    rw [ho, Option.bind_some]
    dsimp only
    by_cases h2 : N + 1 = n
    · refine ⟨by rw [if_neg (by omega), if_pos (by omega)], ?_⟩
      rw [decide_eq_true h2, decide_eq_true]
      exact (due_mem h k).2 ⟨_, ho, by dsimp only; omega⟩
    · refine ⟨by rw [if_pos (by omega), if_neg (by omega)], ?_⟩
      rw [decide_eq_false h2, decide_eq_false]
      intro e
      obtain ⟨x, h3, h4⟩ := (due_mem h k).1 e
      rw [ho] at h3
      cases h3
      dsimp only at h4
      omega
  · rw [if_neg h1] at ho
    rw [ho]
    refine ⟨by rw [if_neg (by omega)]; rfl, ?_⟩
    rw [decide_eq_false (by omega : ¬ N + 1 = n), decide_eq_false]
    intro e
    obtain ⟨x, h3, h4⟩ := (due_mem h k).1 e
    rw [ho] at h3
    cases h3
theorem one_set {k : Int} {n N : Nat} {L : List (Int × Int)} (ho : OneT k n N L) {d m : Int} (hk : k ≠ d) : OneT k n N (setT N L d m).2 := by
  unfold OneT at ho ⊢
  rw [find_set_other hk]
  exact ho
theorem one_cancel {k : Int} {n N : Nat} {L : List (Int × Int)} (ho : OneT k n N L) {d : Int} (hk : k ≠ d) : OneT k n N (cancelT L d).2 := by
  unfold OneT at ho ⊢
  rw [find_cancel_other hk]
  exact ho
theorem one_first (k : Int) (n : Nat) (hk : 0 ≤ k) (h1 : 1 ≤ n) (h2 : n ≤ 1000) : (setT 0 [] k (n : Int)).1 = 0 ∧ OneT k n 0 (setT 0 [] k (n : Int)).2 := by
  have e : setT 0 [] k (n : Int) = (0, [(k, (n : Int))]) := by
    unfold setT
    rw [if_neg (by omega), if_neg (by simp)]
    simp [delT]
  rw [e]
  refine ⟨rfl, ?_⟩
  unfold OneT
  rw [if_pos (by omega)]
  simp [findT]
theorem del_len {L : List (Int × Int)} (hn : (L.map (·.1)).Nodup) {d : Int} {x : Int × Int} (h : findT L d = some x) : (delT L d).length + 1 = L.length := by
  induction L with
  | nil => simp [findT] at h
  | cons y r ih =>
    rw [List.map_cons, List.nodup_cons] at hn
    by_cases e : y.1 = d
    · have hr : delT r d = r := by
        unfold delT
        rw [List.filter_eq_self]
        intro z hz
        have : z.1 ≠ d := fun e2 => hn.1 (List.mem_map.2 ⟨z, hz, e2.trans e.symm⟩)
        simpa using this
      have : delT (y :: r) d = delT r d := by unfold delT; rw [List.filter_cons, if_neg (by simp [e])]
      rw [this, hr, List.length_cons]
    · have h2 : findT r d = some x := by
        unfold findT at h ⊢
        rw [List.find?_cons, show (y.1 == d) = false from beq_eq_false_iff_ne.2 e] at h
        exact h
      have : delT (y :: r) d = y :: delT r d := by unfold delT; rw [List.filter_cons, if_pos (by simp [e])]
      rw [this, List.length_cons, List.length_cons, ih hn.2 h2]
/-- Timers 0, 1, .. i - 1, set one behind the other. -/
def rowN (f : Nat → Nat) (i : Nat) : List (Int × Int) := (List.range i).map fun k : Nat => ((k : Int), (f k : Int))
theorem rowN_succ (f : Nat → Nat) (i : Nat) : rowN f (i + 1) = rowN f i ++ [((i : Int), (f i : Int))] := by
  unfold rowN
  rw [List.range_succ, List.map_append]
  rfl
theorem rowN_length (f : Nat → Nat) (i : Nat) : (rowN f i).length = i := by simp [rowN]
theorem rowN_not (f : Nat → Nat) (i : Nat) : findT (rowN f i) (i : Int) = none := by
  refine findT_of_none fun x hx => ?_
  unfold rowN at hx
  obtain ⟨k, hk, rfl⟩ := List.mem_map.1 hx
  rw [List.mem_range] at hk
  dsimp only
  omega
theorem rowN_set (f : Nat → Nat) (i : Nat) (h1 : 1 ≤ f i) (h2 : f i ≤ 1000) (hi : i < 1024) : setT 0 (rowN f i) (i : Int) (f i : Int) = (0, rowN f (i + 1)) := by
  unfold setT
  rw [if_neg (by omega), if_neg (by rw [rowN_length]; omega), del_same (rowN_not f i), rowN_succ]
  simp
theorem rowN_full (f : Nat → Nat) (i : Nat) (n : Int) (h1 : 1 ≤ n) (h2 : n ≤ 1000) (hi : 1024 ≤ i) : setT 0 (rowN f 1024) (i : Int) n = (9, rowN f 1024) := by
  have hf : findT (rowN f 1024) (i : Int) = none := by
    refine findT_of_none fun x hx => ?_
    unfold rowN at hx
    obtain ⟨k, hk, rfl⟩ := List.mem_map.1 hx
    rw [List.mem_range] at hk
    dsimp only
    omega
  unfold setT
  rw [if_neg (by omega), if_pos ⟨hf, by rw [rowN_length]; omega⟩]
theorem rowN_first (f : Nat → Nat) (i : Nat) (hi : 0 < i) (hn : ((rowN f i).map (·.1)).Nodup) : (setT 0 (rowN f i) 0 5).1 = 0 ∧ (setT 0 (rowN f i) 0 5).2.length = i := by
  have hm : (((0 : Nat) : Int), (f 0 : Int)) ∈ rowN f i := List.mem_map.2 ⟨0, List.mem_range.2 hi, rfl⟩
  have hf := find_mem hn hm
  have hf0 : findT (rowN f i) 0 = some (((0 : Nat) : Int), (f 0 : Int)) := hf
  unfold setT
  rw [if_neg (by omega), if_neg (by rw [hf0]; simp)]
  refine ⟨rfl, ?_⟩
  dsimp only
  rw [List.length_append, List.length_singleton, del_len hn hf0, rowN_length]
end Go.Proofs.Ytldedlphamcehaa
