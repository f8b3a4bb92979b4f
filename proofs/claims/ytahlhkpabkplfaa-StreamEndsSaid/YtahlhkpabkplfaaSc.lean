/- Streams, plainly: numbers rise; what was reset is let pass. -/
import Derived.Test.YtahlhkpabkplfaaSb
namespace Go.Proofs.Ytahlhkpabkplfaa
set_option linter.unusedVariables false

theorem own_ok {S : Stm} (h : (ownO S).2.1 = 0) : (ownO S).1 = nextS S ∧ (ownO S).2.2.ours = nextS S := by
  unfold ownO at h ⊢
  split at h
  · cases h
  · split at h
    · cases h
    · rename_i h1 h2
      rw [if_neg h1, if_neg h2]
      exact ⟨rfl, rfl⟩
theorem own_not {S : Stm} (h : (ownO S).2.1 ≠ 0) : (ownO S).2.2 = S := by
  unfold ownO at h ⊢
  split
  · rfl
  · split
    · rfl
    · rename_i h1 h2
      rw [if_neg h1, if_neg h2] at h
      exact absurd rfl h
/-- What an end's first calls of Own leave. -/
theorem own_step {S : Stm} (h : InvS S) (hm : (openS S true : Int) < S.mine) (hx : nextS S ≤ 2147483647) : (ownO S).1 = nextS S ∧ (ownO S).2.1 = 0 ∧ (ownO S).2.2.ours = nextS S ∧ openS (ownO S).2.2 true = openS S true + 1 ∧ openS (ownO S).2.2 false = openS S false ∧ (ownO S).2.2.server = S.server ∧ (ownO S).2.2.mine = S.mine ∧ (ownO S).2.2.most = S.most ∧ (ownO S).2.2.theirs = S.theirs := by
  have hp := open_put (S := S) (L := S.L) (T := { S with ours := nextS S, L := putL (nextS S) S.L }) (nextS S) rfl rfl
  have ho := (next_own h).1
  unfold ownO
  rw [if_neg (by omega), if_neg (by omega)]
  refine ⟨rfl, rfl, rfl, ?_, ?_, rfl, rfl, rfl, rfl⟩
  · rw [hp true, ho]; rfl
  · rw [hp false, ho]; rfl
/-- A peer's number that may be. -/
def mayS (S : Stm) (d : Int) : Prop := 1 ≤ d ∧ d ≤ 2147483647 ∧ ownS S.server d = false ∧ S.theirs < d
theorem peer_yes {S : Stm} (d : Int) (hd : mayS S d) (hm : (openS S false : Int) < S.most) : (peerS S d).1 = true ∧ (peerS S d).2.1 = false ∧ (peerS S d).2.2.theirs = d ∧ openS (peerS S d).2.2 false = openS S false + 1 ∧ openS (peerS S d).2.2 true = openS S true ∧ (peerS S d).2.2.server = S.server ∧ (peerS S d).2.2.most = S.most := by
  obtain ⟨h1, h2, h3, h4⟩ := hd
  have hp := open_put (S := S) (L := S.L) (T := { S with theirs := d, L := putL d S.L }) d rfl rfl
  have hn : ¬ (d < 1 ∨ 2147483647 < d ∨ ownS S.server d = true ∨ d ≤ S.theirs) := by
    rw [h3]
    simp
    omega
  unfold peerS
  rw [if_neg hn, if_neg (by omega)]
  refine ⟨rfl, rfl, rfl, ?_, ?_, rfl, rfl⟩
  · rw [hp false, h3]; rfl
  · rw [hp true, h3]; rfl
theorem peer_not {S : Stm} (d : Int) (hd : ¬ mayS S d) : peerS S d = (false, true, S) := by
  unfold peerS
  rw [if_pos]
  unfold mayS at hd
  cases ho : ownS S.server d
  · rw [ho] at hd
    simp at hd ⊢
    omega
  · simp
theorem last64_snoc (l : List Int) (x : Int) : last64 (last64 l ++ [x]) = last64 (l ++ [x]) := by
  unfold last64
  by_cases h : l.length ≤ 64
  · rw [show l.length - 64 = 0 by omega, List.drop_zero]
  · have e1 : (l.drop (l.length - 64)).length = 64 := by rw [List.length_drop]; omega
    rw [List.length_append, e1, List.length_singleton, List.length_append, List.length_singleton, List.drop_append_of_le_length (by rw [e1]; omega), List.drop_append_of_le_length (by omega), List.drop_drop]
    congr 2
    omega
/-- The first i odd numbers. -/
def oddsS (i : Nat) : List Int := (List.range i).map fun (k : Nat) => 2 * (k : Int) + 1
theorem odds_succ (i : Nat) : oddsS (i + 1) = oddsS i ++ [2 * (i : Int) + 1] := by simp [oddsS, List.range_succ]
theorem odds_len (i : Nat) : (oddsS i).length = i := by simp [oddsS]
/-- Behind i streams that were opened and reset. -/
def dropd (i : Nat) : Stm := ⟨true, 10, 1024, [], last64 (oddsS i), if i = 0 then 0 else 2 * (i : Int) - 1, 0⟩
theorem dropd_new : newS true 10 = dropd 0 := rfl
theorem odd_own (i : Nat) : ownS true (2 * (i : Int) + 1) = false := by
  simp [ownS]
theorem drop_peer (i : Nat) (hi : i < 1000000) : peerS (dropd i) (2 * (i : Int) + 1) = (true, false, { dropd i with theirs := 2 * (i : Int) + 1, L := [(2 * (i : Int) + 1, 0)] }) := by
  unfold peerS
  have hn : ¬ (2 * (i : Int) + 1 < 1 ∨ 2147483647 < 2 * (i : Int) + 1 ∨ ownS (dropd i).server (2 * (i : Int) + 1) = true ∨ 2 * (i : Int) + 1 ≤ (dropd i).theirs) := by
    rw [show (dropd i).server = true from rfl, odd_own]
    have : (dropd i).theirs = if i = 0 then 0 else 2 * (i : Int) - 1 := rfl
    rw [this]
    split <;> simp <;> omega
  rw [if_neg hn, if_neg (by show ¬ (10 : Int) ≤ _; simp [openS, dropd])]
  rfl
theorem odds_no (i : Nat) : (last64 (oddsS i)).contains (2 * (i : Int) + 1) = false := by
  cases h : (last64 (oddsS i)).contains (2 * (i : Int) + 1)
  · rfl
  · exfalso
    have h1 := mem_last64 (by simpa using h : (2 * (i : Int) + 1) ∈ last64 (oddsS i))
    obtain ⟨k, hk, e⟩ := List.mem_map.1 h1
    have := List.mem_range.1 hk
    omega
theorem drop_open (i : Nat) (hi : i < 1000000) : doS { dropd i with theirs := 2 * (i : Int) + 1, L := [(2 * (i : Int) + 1, 0)] } (2 * (i : Int) + 1) 0 = ((1, (false, 0, 0), 0), { dropd i with theirs := 2 * (i : Int) + 1, L := [(2 * (i : Int) + 1, 1)] }) := by
  have hs : stateS { dropd i with theirs := 2 * (i : Int) + 1, L := [(2 * (i : Int) + 1, 0)] } (2 * (i : Int) + 1) = 0 := by simp [stateS, findS]
  have hg := odds_no i
  unfold doS
  rw [if_neg (by omega), if_neg (by show ¬ ((last64 (oddsS i)).contains _ = true ∧ _); rw [hg]; simp), hs]
  rw [show stepO 0 0 = (1, 0, 0, 0) by decide]
  simp [turnS, findS, setL]
theorem drop_reset (i : Nat) (hi : i < 1000000) : doS { dropd i with theirs := 2 * (i : Int) + 1, L := [(2 * (i : Int) + 1, 1)] } (2 * (i : Int) + 1) 8 = ((4, (false, 0, 0), 0), dropd (i + 1)) := by
  have hs : stateS { dropd i with theirs := 2 * (i : Int) + 1, L := [(2 * (i : Int) + 1, 1)] } (2 * (i : Int) + 1) = 1 := by simp [stateS, findS]
  unfold doS
  rw [if_neg (by omega), if_neg (by simp), hs]
  rw [show stepO 1 8 = (4, 0, 0, 0) by decide]
  simp [turnS, findS, dropS]
  unfold dropd
  simp
  refine ⟨?_, by omega⟩
  rw [odds_succ, last64_snoc]
theorem odds_first (n : Nat) (h : 1 ≤ n) : (last64 (oddsS n)).contains 1 = decide (n ≤ 64) := by
  by_cases hn : n ≤ 64
  · rw [decide_eq_true hn]
    unfold last64
    rw [odds_len, show n - 64 = 0 by omega, List.drop_zero]
    have : (1 : Int) ∈ oddsS n := List.mem_map.2 ⟨0, List.mem_range.2 (by omega), rfl⟩
    simpa using this
  · rw [decide_eq_false hn]
    cases hc : (last64 (oddsS n)).contains 1
    · rfl
    · exfalso
      have h1 : (1 : Int) ∈ last64 (oddsS n) := by simpa using hc
      unfold last64 at h1
      rw [odds_len] at h1
      obtain ⟨k, hk⟩ := List.getElem?_of_mem h1
      rw [List.getElem?_drop] at hk
      simp only [oddsS, List.getElem?_map, Option.map_eq_some_iff] at hk
      obtain ⟨r, hr, e⟩ := hk
      obtain ⟨h2, h3⟩ := List.getElem?_eq_some_iff.1 hr
      simp at h3
      omega
theorem odds_last (n : Nat) (h : 1 ≤ n) : (last64 (oddsS n)).contains (2 * (n : Int) - 1) = true := by
  obtain ⟨m, rfl⟩ : ∃ m, n = m + 1 := ⟨n - 1, by omega⟩
  have e : 2 * ((m + 1 : Nat) : Int) - 1 = 2 * (m : Int) + 1 := by omega
  rw [e, odds_succ]
  unfold last64
  rw [List.drop_append_of_le_length (by simp [odds_len])]
  simp
end Go.Proofs.Ytahlhkpabkplfaa
