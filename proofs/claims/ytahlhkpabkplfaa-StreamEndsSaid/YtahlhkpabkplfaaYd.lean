/- Streams, plainly: the array of dropped ones that goes round; known ones as a map. -/
import Derived.Test.YtahlhkpabkplfaaSc
import Derived.Test.YtahlhkpabkplfaaMt
namespace Go.Proofs.Ytahlhkpabkplfaa
open Go.RowKit Go.Maps
set_option linter.unusedVariables false

/-- The array of dropped ones: from the next place on, and round: noughts, and then those that are remembered. -/
def RingY (rg : List Int) (nx : Nat) (gone : List Int) : Prop := rg.length = 64 ∧ nx < 64 ∧ gone.length ≤ 64 ∧ rg.drop nx ++ rg.take nx = List.replicate (64 - gone.length) 0 ++ gone
theorem ring_new : RingY (List.replicate 64 0) 0 [] := ⟨rfl, by omega, by simp, by simp⟩
theorem ring_drop {rg : List Int} {nx : Nat} {gone : List Int} (h : RingY rg nx gone) (d : Int) : RingY (rg.set nx d) ((nx + 1) % 64) (last64 (gone ++ [d])) := by
  obtain ⟨h1, h2, h3, h4⟩ := h
  refine ⟨by simp [h1], by omega, last64_few _, ?_⟩
  have hrot : (rg.set nx d).drop ((nx + 1) % 64) ++ (rg.set nx d).take ((nx + 1) % 64) = (rg.drop nx ++ rg.take nx).tail ++ [d] := by
    have e1 : rg = rg.take nx ++ rg[nx] :: rg.drop (nx + 1) := by
      rw [← List.drop_eq_getElem_cons (by omega : nx < rg.length), List.take_append_drop]
    have hA : (rg.take nx).length = nx := by rw [List.length_take]; omega
    have e2 : rg.set nx d = rg.take nx ++ d :: rg.drop (nx + 1) := by
      rw [List.set_eq_take_append_cons_drop, if_pos (by omega)]
    have e3 : rg.drop nx = rg[nx] :: rg.drop (nx + 1) := List.drop_eq_getElem_cons (by omega)
    rw [e2, e3]
    by_cases hn : nx + 1 < 64
    · rw [Nat.mod_eq_of_lt hn]
      have e4 : (rg.take nx ++ d :: rg.drop (nx + 1)) = (rg.take nx ++ [d]) ++ rg.drop (nx + 1) := by simp
      have e5 : (rg.take nx ++ [d]).length = nx + 1 := by simp [hA]
      rw [e4, List.drop_left' e5, List.take_left' e5]
      show _ = (rg.drop (nx + 1) ++ rg.take nx) ++ [d]
      rw [List.append_assoc]
    · have e6 : nx + 1 = 64 := by omega
      rw [e6]
      have e7 : rg.drop 64 = [] := by rw [List.drop_eq_nil_iff]; omega
      rw [e7]
      simp
  rw [hrot, h4]
  by_cases hk : gone.length < 64
  · have e1 : last64 (gone ++ [d]) = gone ++ [d] := by unfold last64; rw [List.length_append, List.length_singleton, Nat.sub_eq_zero_of_le (by omega), List.drop_zero]
    rw [e1]
    obtain ⟨m, hm⟩ : ∃ m, 64 - gone.length = m + 1 := ⟨63 - gone.length, by omega⟩
    have e2 : 64 - (gone ++ [d]).length = m := by simp; omega
    rw [e2, hm, List.replicate_succ]
    simp
  · have e0 : gone.length = 64 := by omega
    have e1 : last64 (gone ++ [d]) = gone.tail ++ [d] := by
      unfold last64
      rw [List.length_append, List.length_singleton, e0]
      cases gone with
      | nil => simp at e0
      | cons a r => simp
    have e2 : 64 - (last64 (gone ++ [d])).length = 0 := by rw [e1]; simp; omega
    rw [e2, e0, e1]
    simp
theorem ring_mem {rg : List Int} {nx : Nat} {gone : List Int} (h : RingY rg nx gone) {d : Int} (hd : d ≠ 0) : d ∈ rg ↔ d ∈ gone := by
  obtain ⟨h1, h2, h3, h4⟩ := h
  have e1 : d ∈ rg ↔ d ∈ rg.drop nx ++ rg.take nx := by
    rw [List.mem_append]
    conv => lhs; rw [← List.take_append_drop nx rg]
    rw [List.mem_append]
    exact Or.comm
  rw [e1, h4, List.mem_append]
  constructor
  · rintro (h | h)
    · exact absurd (List.eq_of_mem_replicate h) hd
    · exact h
  · exact .inr

/-- Known ones as a map. -/
def mapL (L : List (Int × Int)) (k : Int) : Option Value := (findS L k).map fun x => .int .i64 x.2
theorem mapL_some (L : List (Int × Int)) (k : Int) : (mapL L k).isSome = true ↔ k ∈ L.map (·.1) := by
  unfold mapL
  rw [Option.isSome_map]
  constructor
  · intro h
    obtain ⟨x, hx⟩ := Option.isSome_iff_exists.1 h
    obtain ⟨h1, h2⟩ := find_some hx
    exact List.mem_map.2 ⟨x, h1, h2⟩
  · intro h
    cases hf : findS L k with
    | some x => rfl
    | none =>
      obtain ⟨x, h1, h2⟩ := List.mem_map.1 h
      exact absurd h2 (find_none hf x h1)
theorem find_put {L : List (Int × Int)} {d : Int} (hn : ∀ x ∈ L, x.1 ≠ d) (k : Int) : findS (putL d L) k = if k = d then some (d, 0) else findS L k := by
  induction L with
  | nil =>
    by_cases hk : k = d
    · subst hk; simp [putL, findS]
    · have : ¬ d = k := fun e => hk e.symm
      simp [putL, findS, hk, this]
  | cons x r ih =>
    have ih := ih (fun y hy => hn y (List.mem_cons_of_mem _ hy))
    have hx := hn x (List.mem_cons_self ..)
    unfold putL
    split
    · by_cases hk : k = d
      · subst hk; simp [findS]
      · have : ¬ d = k := fun e => hk e.symm
        simp [findS, hk, this]
    · unfold findS at ih ⊢
      simp only [List.find?_cons]
      by_cases hxk : x.1 = k
      · have : ¬ k = d := by rw [← hxk]; exact hx
        simp [hxk, this]
      · have e : (x.1 == k) = false := by simpa using hxk
        rw [e]
        simpa using ih
theorem mapL_put {L : List (Int × Int)} {d : Int} (hn : ∀ x ∈ L, x.1 ≠ d) : mapL (putL d L) = putM (mapL L) d (.int .i64 0) := by
  funext k
  unfold mapL putM
  rw [find_put hn]
  split <;> rfl
theorem find_set {L : List (Int × Int)} {d n : Int} (k : Int) : findS (setL d n L) k = if k = d then (findS L d).map (fun _ => (d, n)) else findS L k := by
  induction L with
  | nil => simp [findS, setL]
  | cons x r ih =>
    unfold findS setL at ih ⊢
    simp only [List.map_cons, List.find?_cons]
    by_cases hx : x.1 = d
    · rw [if_pos hx]
      by_cases hk : k = d
      · subst hk; simp [hx]
      · have h1 : ¬ d = k := fun e => hk e.symm
        have h2 : ¬ x.1 = k := by rw [hx]; exact h1
        have e1 : (d == k) = false := by simpa using h1
        have e2 : (x.1 == k) = false := by simpa using h2
        simp only [e1, e2, if_neg hk]
        rw [ih, if_neg hk]
    · rw [if_neg hx]
      by_cases hxk : x.1 = k
      · have e : (x.1 == k) = true := by simpa using hxk
        have hk : ¬ k = d := by rw [← hxk]; exact hx
        simp only [e, if_neg hk]
      · have e : (x.1 == k) = false := by simpa using hxk
        have e2 : (x.1 == d) = false := by simpa using hx
        simp only [e, e2]
        exact ih
theorem mapL_set {L : List (Int × Int)} {d n : Int} {x : Int × Int} (h : findS L d = some x) : mapL (setL d n L) = putM (mapL L) d (.int .i64 n) := by
  funext k
  unfold mapL putM
  rw [find_set, h]
  split <;> rfl
theorem find_del {L : List (Int × Int)} {d : Int} (k : Int) : findS (L.filter (fun x => x.1 ≠ d)) k = if k = d then none else findS L k := by
  by_cases hk : k = d
  · subst hk
    rw [if_pos rfl]
    refine find_of_none fun x hx => ?_
    simpa using (List.mem_filter.1 hx).2
  · rw [if_neg hk]
    unfold findS
    rw [List.find?_filter]
    congr 1
    funext x
    by_cases hx : x.1 = k
    · have : ¬ x.1 = d := by rw [hx]; exact hk
      simp [hx, hk]
    · simp [hx]
theorem mapL_del (L : List (Int × Int)) (d : Int) : mapL (L.filter (fun x => x.1 ≠ d)) = delM (mapL L) d := by
  funext k
  unfold mapL delM
  rw [find_del]
  split <;> rfl
theorem keys_nodup {L : List (Int × Int)} (h : L.Pairwise (fun x y => x.1 < y.1)) : (L.map (·.1)).Nodup := by
  rw [List.Nodup, List.pairwise_map]
  exact h.imp (fun h e => by omega)
/-- A map holds as many as it has keys. -/
theorem MapAt.tight {w : World} {b n : Nat} {M : Int → Option Value} (h : MapAt w b n M) (ks : List Int) (hn : ks.Nodup) (hk : ∀ k, (M k).isSome = true ↔ k ∈ ks) : MapAt w b ks.length M := by
  obtain ⟨D0, h0, hM0⟩ := id h
  obtain ⟨D, h1, h2⟩ := h.size ks hn hk
  have hsz : Maps.size D0 = Maps.size D := by
    obtain ⟨es, clock, hb, F, hs, hD⟩ := h0
    obtain ⟨es', clock', hb', F', hs', hD'⟩ := h1
    rw [hb] at hb'
    cases hb'
    rw [hD, hD']
  obtain ⟨es, clock, hb, F, hs, hD⟩ := h0
  refine ⟨D0, ⟨es, clock, hb, F, ?_, hD⟩, hM0⟩
  have e1 : Maps.size D0 = es.size := by rw [hD]; exact length_read es
  rw [← e1, hsz, h2]
  exact Nat.le_refl _
theorem mapL_tight {w : World} {b n : Nat} {L : List (Int × Int)} (h : MapAt w b n (mapL L)) (hr : L.Pairwise (fun x y => x.1 < y.1)) : MapAt w b L.length (mapL L) := by
  have := h.tight (L.map (·.1)) (keys_nodup hr) (mapL_some L)
  simpa using this

/-! counts -/
theorem count_two (sv : Bool) : ∀ L : List (Int × Int), (∀ x ∈ L, 0 ≤ x.2 ∧ x.2 ≤ 3) → (L.filter (countS sv true)).length + (L.filter (countS sv false)).length = L.length
  | [], _ => rfl
  | x :: r, h => by
    have ih := count_two sv r (fun y hy => h y (List.mem_cons_of_mem _ hy))
    have hx := h x (List.mem_cons_self ..)
    have h4 : ¬ x.2 = 4 := by omega
    cases ho : ownS sv x.1
    · have e1 : countS sv true x = false := by simp [countS, ho]
      have e2 : countS sv false x = true := by simp [countS, ho, h4]
      simp [e1, e2]
      omega
    · have e1 : countS sv true x = true := by simp [countS, ho, h4]
      have e2 : countS sv false x = false := by simp [countS, ho]
      simp [e1, e2]
      omega
theorem few_known {S : Stm} (h : InvS S) : S.L.length ≤ 2048 := by
  have h1 := count_two S.server S.L h.st
  have h2 := h.peers
  have h3 := h.owns
  have h4 := h.mo
  unfold openS at h2 h3
  omega
theorem count_del (f : Int × Int → Bool) (d : Int) : ∀ L : List (Int × Int), L.Pairwise (fun x y => x.1 < y.1) → ∀ x ∈ L, x.1 = d → ((L.filter (fun x => x.1 ≠ d)).filter f).length + (if f x then 1 else 0) = (L.filter f).length
  | [], _, x, hx, _ => by simp at hx
  | y :: r, hp, x, hx, hd => by
    obtain ⟨h1, h2⟩ := List.pairwise_cons.1 hp
    rcases List.mem_cons.1 hx with rfl | hx
    · have e : r.filter (fun x => x.1 ≠ d) = r := by
        rw [List.filter_eq_self]
        intro z hz
        have := h1 z hz
        simp
        omega
      have e2 : ((x :: r).filter (fun x => x.1 ≠ d)) = r := by
        rw [List.filter_cons, if_neg (by simp [hd]), e]
      rw [e2, List.filter_cons]
      cases f x <;> simp
    · have := h1 x hx
      have hy : ¬ y.1 = d := by omega
      have ih := count_del f d r h2 x hx hd
      have e2 : ((y :: r).filter (fun x => x.1 ≠ d)) = y :: r.filter (fun x => x.1 ≠ d) := by
        rw [List.filter_cons, if_pos (by simp [hy])]
      rw [e2, List.filter_cons, List.filter_cons]
      by_cases hfy : f y = true
      · rw [if_pos hfy, if_pos hfy, List.length_cons, List.length_cons]
        omega
      · rw [if_neg hfy, if_neg hfy]
        exact ih
theorem open_del {S : Stm} (h : InvS S) {d : Int} {x : Int × Int} (hx : findS S.L d = some x) (own : Bool) (T : Stm) (hT : T.server = S.server) (hL : T.L = S.L.filter (fun x => x.1 ≠ d)) : openS T own + (if ownS S.server d == own then 1 else 0) = openS S own := by
  obtain ⟨h1, h2⟩ := find_some hx
  have := count_del (countS S.server own) d S.L h.rise x h1 h2
  unfold openS
  rw [hT, hL, ← this]
  congr 1
  have h4 := h.st x h1
  have h5 : ¬ x.2 = 4 := by omega
  simp [countS, h2, h5]
/-- What a reset steps was known. -/
theorem reset_known {S : Stm} {d : Int} (he : (stepO (stateS S d) 8).2.2.2 = 0) (hk1 : (stepO (stateS S d) 8).2.1 ≠ 1) (hk2 : (stepO (stateS S d) 8).2.1 ≠ 2) : (stepO (stateS S d) 8).1 = 4 ∧ ∃ x, findS S.L d = some x := by
  have key : ∀ st : Int, (stepO st 8).2.2.2 = 0 → st ≠ 0 ∧ st ≠ 4 ∧ (stepO st 8).1 = 4 := by
    intro st h
    by_cases hb : st < 0 ∨ 4 < st
    · unfold stepO at h
      rw [if_pos (by omega)] at h
      cases h
    · have : st = 0 ∨ st = 1 ∨ st = 2 ∨ st = 3 ∨ st = 4 := by omega
      rcases this with rfl | rfl | rfl | rfl | rfl
      · exact absurd h (by decide)
      · exact ⟨by decide, by decide, rfl⟩
      · exact ⟨by decide, by decide, rfl⟩
      · exact ⟨by decide, by decide, rfl⟩
      · exact absurd h (by decide)
  obtain ⟨h1, h2, h3⟩ := key _ he
  refine ⟨h3, ?_⟩
  cases hf : findS S.L d with
  | some x => exact ⟨x, rfl⟩
  | none =>
    exfalso
    unfold stateS at h1 h2
    rw [hf] at h1 h2
    dsimp only at h1 h2
    split at h1 <;> simp_all
end Go.Proofs.Ytahlhkpabkplfaa
