/- Timers, plainly: those that are set, in the order in which they were set; their slots; what the calls do. -/
import Derived.Test.YtoiencoojkahmaaMu
import Derived.Test.YtoiencoojkahmaaIx
namespace Go.Proofs.Ytoiencoojkahmaa
open Go.RowKit Go.Maps
set_option linter.unusedVariables false

def findT (L : List (Int × Int)) (d : Int) : Option (Int × Int) := L.find? (fun x => x.1 == d)
theorem findT_some {L : List (Int × Int)} {d : Int} {x : Int × Int} (h : findT L d = some x) : x ∈ L ∧ x.1 = d := by
  unfold findT at h
  have h1 := List.find?_some h
  have h2 := List.mem_of_find?_eq_some h
  exact ⟨h2, by simpa using h1⟩
theorem findT_none {L : List (Int × Int)} {d : Int} (h : findT L d = none) : ∀ x ∈ L, x.1 ≠ d := by
  unfold findT at h
  intro x hx
  have := List.find?_eq_none.1 h x hx
  simpa using this
theorem findT_of_none {L : List (Int × Int)} {d : Int} (h : ∀ x ∈ L, x.1 ≠ d) : findT L d = none := by
  unfold findT
  rw [List.find?_eq_none]
  intro x hx
  simpa using h x hx
/-- Timers as a map: when each is due. -/
def mapT (L : List (Int × Int)) (k : Int) : Option Value := (findT L k).map fun x => .int .i64 x.2
theorem mapT_some (L : List (Int × Int)) (k : Int) : (mapT L k).isSome = true ↔ k ∈ L.map (·.1) := by
  unfold mapT
  rw [Option.isSome_map]
  constructor
  · intro h
    obtain ⟨x, hx⟩ := Option.isSome_iff_exists.1 h
    obtain ⟨h1, h2⟩ := findT_some hx
    exact List.mem_map.2 ⟨x, h1, h2⟩
  · intro h
    cases hf : findT L k with
    | some x => rfl
    | none =>
      obtain ⟨x, h1, h2⟩ := List.mem_map.1 h
      exact absurd h2 (findT_none hf x h1)
/-- Without one timer. -/
def delT (L : List (Int × Int)) (d : Int) : List (Int × Int) := L.filter (fun x => !(x.1 == d))
theorem findT_del {L : List (Int × Int)} {d : Int} (k : Int) : findT (delT L d) k = if k = d then none else findT L k := by
  by_cases hk : k = d
  · subst hk
    rw [if_pos rfl]
    refine findT_of_none fun x hx => ?_
    simpa using (List.mem_filter.1 hx).2
  · rw [if_neg hk]
    unfold findT delT
    rw [List.find?_filter]
    congr 1
    funext x
    by_cases hx : x.1 = k
    · simp [hx, hk]
    · simp [hx]
theorem mapT_del (L : List (Int × Int)) (d : Int) : mapT (delT L d) = delM (mapT L) d := by
  funext k
  unfold mapT delM
  rw [findT_del]
  split <;> rfl
theorem findT_add {L : List (Int × Int)} {d v : Int} (hn : ∀ x ∈ L, x.1 ≠ d) (k : Int) : findT (L ++ [(d, v)]) k = if k = d then some (d, v) else findT L k := by
  unfold findT
  rw [List.find?_append]
  by_cases hk : k = d
  · subst hk
    have := findT_of_none hn
    unfold findT at this
    rw [this, if_pos rfl]
    simp
  · rw [if_neg hk]
    have hk2 : ¬ d = k := fun e => hk e.symm
    simp [hk2]
theorem mapT_add {L : List (Int × Int)} {d v : Int} (hn : ∀ x ∈ L, x.1 ≠ d) : mapT (L ++ [(d, v)]) = putM (mapT L) d (.int .i64 v) := by
  funext k
  unfold mapT putM
  rw [findT_add hn]
  split <;> rfl
theorem del_not (L : List (Int × Int)) (d : Int) : ∀ x ∈ delT L d, x.1 ≠ d := fun x hx => by simpa using (List.mem_filter.1 hx).2
theorem del_same {L : List (Int × Int)} {d : Int} (h : findT L d = none) : delT L d = L := by
  unfold delT
  rw [List.filter_eq_self]
  intro x hx
  simpa using findT_none h x hx

/-- The timers that are due at ticks of that rest by 64. -/
def slotT (L : List (Int × Int)) (r : Int) : List Int := (L.filter (fun x => decide (x.2 % 64 = r))).map (·.1)
theorem slot_mem {L : List (Int × Int)} {r k : Int} : k ∈ slotT L r ↔ ∃ x ∈ L, x.1 = k ∧ x.2 % 64 = r := by
  unfold slotT
  simp only [List.mem_map, List.mem_filter, decide_eq_true_eq]
  constructor
  · rintro ⟨x, ⟨h1, h2⟩, h3⟩; exact ⟨x, h1, h3, h2⟩
  · rintro ⟨x, h1, h2, h3⟩; exact ⟨x, ⟨h1, h3⟩, h2⟩
theorem slot_del (L : List (Int × Int)) (d r : Int) : slotT (delT L d) r = (slotT L r).filter (fun i => !(i == d)) := by
  unfold slotT delT
  rw [List.filter_map, List.filter_filter, List.filter_filter]
  congr 2
  funext x
  simp [Bool.and_comm]
theorem slot_add (L : List (Int × Int)) (d v r : Int) : slotT (L ++ [(d, v)]) r = slotT L r ++ (if v % 64 = r then [d] else []) := by
  unfold slotT
  rw [List.filter_append, List.map_append]
  congr 1
  by_cases h : v % 64 = r <;> simp [h]
theorem slot_few (L : List (Int × Int)) (r : Int) : (slotT L r).length ≤ L.length := by
  unfold slotT
  rw [List.length_map]
  exact List.length_filter_le _ _

/-- What timers are, N ticks in. -/
structure InvT (N : Nat) (L : List (Int × Int)) : Prop where
  nd : (L.map (·.1)).Nodup
  ids : ∀ x ∈ L, 0 ≤ x.1 ∧ x.1 ≤ 9223372036854775807
  due : ∀ x ∈ L, (N : Int) < x.2 ∧ x.2 ≤ (N : Int) + 1073741824
  few : L.length ≤ 1024
theorem inv_newT : InvT 0 [] := ⟨List.nodup_nil, fun x h => by simp at h, fun x h => by simp at h, by simp⟩
theorem find_mem {L : List (Int × Int)} (hn : (L.map (·.1)).Nodup) {x : Int × Int} (hx : x ∈ L) : findT L x.1 = some x := by
  induction L with
  | nil => simp at hx
  | cons y r ih =>
    rw [List.map_cons, List.nodup_cons] at hn
    unfold findT at ih ⊢
    rcases List.mem_cons.1 hx with rfl | hx
    · simp
    · have hne : (y.1 == x.1) = false := by
        rw [beq_eq_false_iff_ne]
        intro e
        exact hn.1 (List.mem_map.2 ⟨x, hx, e.symm⟩)
      rw [List.find?_cons, hne]
      exact ih hn.2 hx
theorem slot_other {L : List (Int × Int)} (hn : (L.map (·.1)).Nodup) {d : Int} {x : Int × Int} (h : findT L d = some x) {r : Int} (hr : r ≠ x.2 % 64) : slotT (delT L d) r = slotT L r := by
  rw [slot_del, List.filter_eq_self]
  intro k hk
  obtain ⟨y, hy, rfl, h2⟩ := slot_mem.1 hk
  have := find_mem hn hy
  simp
  intro e
  rw [e, h] at this
  cases this
  exact hr h2.symm
theorem inv_del {N : Nat} {L : List (Int × Int)} (h : InvT N L) (d : Int) : InvT N (delT L d) := by
  have hs : ∀ x ∈ delT L d, x ∈ L := fun x hx => (List.mem_filter.1 hx).1
  refine ⟨?_, fun x hx => h.ids x (hs x hx), fun x hx => h.due x (hs x hx), Nat.le_trans (List.length_filter_le _ _) h.few⟩
  exact h.nd.sublist ((List.filter_sublist).map _)
theorem del_less {L : List (Int × Int)} {d : Int} {x : Int × Int} (h : findT L d = some x) : (delT L d).length < L.length := by
  obtain ⟨h1, h2⟩ := findT_some h
  unfold delT
  rw [List.length_filter_lt_length_iff_exists]
  exact ⟨x, h1, by simp [h2]⟩
/-- Set. -/
def setT (N : Nat) (L : List (Int × Int)) (d n : Int) : Int × List (Int × Int) :=
  if d < 0 ∨ n < 1 ∨ 1073741824 < n then (1, L)
  else if findT L d = none ∧ 1024 ≤ L.length then (9, L)
  else (0, delT L d ++ [(d, (N : Int) + n)])
theorem inv_add {N : Nat} {L : List (Int × Int)} (h : InvT N L) {d n : Int} (hd : 0 ≤ d ∧ d ≤ 9223372036854775807) (hn : 1 ≤ n ∧ n ≤ 1073741824) (hf : ¬ (findT L d = none ∧ 1024 ≤ L.length)) : InvT N (delT L d ++ [(d, (N : Int) + n)]) := by
  have h1 := inv_del h d
  refine ⟨?_, ?_, ?_, ?_⟩
  · rw [List.map_append, List.nodup_append]
    refine ⟨h1.nd, by simp, ?_⟩
    intro a ha b hb
    simp at hb
    obtain ⟨x, hx, e⟩ := List.mem_map.1 ha
    have := del_not L d x hx
    rw [← e, hb]
    exact this
  · intro x hx
    rcases List.mem_append.1 hx with hx | hx
    · exact h1.ids x hx
    · simp at hx; subst hx; exact hd
  · intro x hx
    rcases List.mem_append.1 hx with hx | hx
    · exact h1.due x hx
    · simp at hx; subst hx; dsimp only; omega
  · rw [List.length_append, List.length_singleton]
    cases hf2 : findT L d with
    | none =>
      have := h1.few
      rw [del_same hf2]
      rw [hf2] at hf
      simp at hf
      omega
    | some x =>
      have := del_less hf2
      have := h.few
      omega
theorem inv_set {N : Nat} {L : List (Int × Int)} (h : InvT N L) {d : Int} (n : Int) (hd : IsI d) : InvT N (setT N L d n).2 := by
  unfold setT
  split
  · exact h
  · split
    · exact h
    · rename_i h1 h2
      exact inv_add h ⟨by omega, hd.2⟩ ⟨by omega, by omega⟩ h2
/-- Cancel. -/
def cancelT (L : List (Int × Int)) (d : Int) : Int × List (Int × Int) := match findT L d with
  | none => (6, L)
  | some _ => (0, delT L d)
theorem inv_cancel {N : Nat} {L : List (Int × Int)} (h : InvT N L) (d : Int) : InvT N (cancelT L d).2 := by
  unfold cancelT
  split
  · exact h
  · exact inv_del h d
/-- Left. -/
def leftT (N : Nat) (L : List (Int × Int)) (d : Int) : Int × Int := match findT L d with
  | none => (0, 6)
  | some x => (x.2 - (N : Int), 0)
/-- What the next tick tells, and what it leaves. -/
def dueT (N : Nat) (L : List (Int × Int)) : List Int := (L.filter (fun x => decide (x.2 = (N : Int) + 1))).map (·.1)
def restT (N : Nat) (L : List (Int × Int)) : List (Int × Int) := L.filter (fun x => !decide (x.2 = (N : Int) + 1))
theorem inv_tick {N : Nat} {L : List (Int × Int)} (h : InvT N L) : InvT (N + 1) (restT N L) := by
  have hs : ∀ x ∈ restT N L, x ∈ L ∧ x.2 ≠ (N : Int) + 1 := fun x hx => by
    obtain ⟨h1, h2⟩ := List.mem_filter.1 hx
    exact ⟨h1, by simpa using h2⟩
  refine ⟨h.nd.sublist ((List.filter_sublist).map _), fun x hx => h.ids x (hs x hx).1, fun x hx => ?_, Nat.le_trans (List.length_filter_le _ _) h.few⟩
  have h1 := h.due x (hs x hx).1
  have h2 := (hs x hx).2
  rw [Int.natCast_add]
  omega
/-- Is a timer due at the next tick? -/
def lateB (N : Nat) (L : List (Int × Int)) (d : Int) : Bool := (findT L d).any (fun x => decide (x.2 = (N : Int) + 1))
theorem late_mem {N : Nat} {L : List (Int × Int)} (h : InvT N L) {x : Int × Int} (hx : x ∈ L) : lateB N L x.1 = decide (x.2 = (N : Int) + 1) := by
  unfold lateB
  rw [find_mem h.nd hx]
  rfl
theorem due_slot {N : Nat} {L : List (Int × Int)} (h : InvT N L) : dueT N L = (slotT L (((N : Int) + 1) % 64)).filter (lateB N L) := by
  unfold dueT slotT
  rw [List.filter_map, List.filter_filter]
  congr 1
  refine List.filter_congr fun x hx => ?_
  rw [Function.comp, late_mem h hx]
  by_cases e : x.2 = (N : Int) + 1
  · simp [e]
  · simp [e]
theorem rest_slot {N : Nat} {L : List (Int × Int)} (h : InvT N L) : slotT (restT N L) (((N : Int) + 1) % 64) = (slotT L (((N : Int) + 1) % 64)).filter (fun i => !lateB N L i) := by
  unfold restT slotT
  rw [List.filter_map, List.filter_filter, List.filter_filter]
  congr 1
  refine List.filter_congr fun x hx => ?_
  rw [Function.comp, late_mem h hx, Bool.and_comm]
theorem rest_other {N : Nat} {L : List (Int × Int)} {r : Int} (hr : r ≠ ((N : Int) + 1) % 64) : slotT (restT N L) r = slotT L r := by
  unfold restT slotT
  rw [List.filter_filter]
  congr 1
  refine List.filter_congr fun x hx => ?_
  by_cases e : x.2 = (N : Int) + 1
  · have : ¬ x.2 % 64 = r := by rw [e]; exact fun e => hr e.symm
    simp [this]
  · simp [e]
/-- The map, when the first ones of the slot (D) were looked at. -/
def goneM (N : Nat) (L : List (Int × Int)) (D : List Int) : Int → Option Value := fun k => if k ∈ D ∧ lateB N L k = true then none else mapT L k
theorem goneM_nil (N : Nat) (L : List (Int × Int)) : goneM N L [] = mapT L := by
  funext k
  simp [goneM]
theorem goneM_late {N : Nat} {L : List (Int × Int)} {D : List Int} {d : Int} (h : lateB N L d = true) : goneM N L (D ++ [d]) = delM (goneM N L D) d := by
  funext k
  unfold goneM delM
  by_cases hk : k = d
  · subst hk; simp [h]
  · simp [hk]
theorem goneM_not {N : Nat} {L : List (Int × Int)} {D : List Int} {d : Int} (h : lateB N L d = false) : goneM N L (D ++ [d]) = goneM N L D := by
  funext k
  unfold goneM
  by_cases hk : k = d
  · subst hk; simp [h]
  · simp [hk]
theorem goneM_look {N : Nat} {L : List (Int × Int)} {D : List Int} {d : Int} (h : d ∉ D) : goneM N L D d = mapT L d := by
  unfold goneM
  simp [h]
theorem goneM_end {N : Nat} {L : List (Int × Int)} (h : InvT N L) : goneM N L (slotT L (((N : Int) + 1) % 64)) = mapT (restT N L) := by
  funext k
  unfold goneM
  have hf : findT (restT N L) k = (findT L k).bind (fun x => if x.2 = (N : Int) + 1 then none else some x) := by
    cases hk : findT L k with
    | none =>
      refine findT_of_none fun x hx => findT_none hk x (List.mem_filter.1 hx).1
    | some x =>
      obtain ⟨h1, h2⟩ := findT_some hk
      rw [Option.bind_some]
      split
      · rename_i e
        refine findT_of_none fun y hy e2 => ?_
        obtain ⟨h3, h4⟩ := List.mem_filter.1 hy
        have := find_mem h.nd h3
        rw [e2, hk] at this
        cases this
        simp [e] at h4
      · rename_i e
        have := find_mem (inv_tick h).nd (x := x) (List.mem_filter.2 ⟨h1, by simpa using e⟩)
        rw [h2] at this
        exact this
  cases hk : findT L k with
  | none =>
    have e1 : mapT L k = none := by unfold mapT; rw [hk]; rfl
    have e2 : mapT (restT N L) k = none := by unfold mapT; rw [hf, hk]; rfl
    rw [e1, e2]
    split <;> rfl
  | some x =>
    obtain ⟨h1, h2⟩ := findT_some hk
    have hl := late_mem h h1
    rw [h2] at hl
    by_cases e : x.2 = (N : Int) + 1
    · rw [if_pos ⟨slot_mem.2 ⟨x, h1, h2, by rw [e]⟩, by rw [hl]; simpa using e⟩]
      unfold mapT
      rw [hf, hk]
      simp [e]
    · rw [if_neg (by rw [hl]; simp [e])]
      unfold mapT
      rw [hf, hk]
      simp [e]
theorem slot_nodup {N : Nat} {L : List (Int × Int)} (h : InvT N L) (r : Int) : (slotT L r).Nodup := h.nd.sublist ((List.filter_sublist).map _)
end Go.Proofs.Ytoiencoojkahmaa
