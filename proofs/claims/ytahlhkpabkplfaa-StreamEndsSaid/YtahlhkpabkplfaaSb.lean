/- Streams, plainly: each call keeps what holds; closed is closed. -/
import Derived.Test.YtahlhkpabkplfaaSa
namespace Go.Proofs.Ytahlhkpabkplfaa
set_option linter.unusedVariables false

theorem openedS_mono {S T : Stm} (hs : T.server = S.server) (ho : S.ours ≤ T.ours) (ht : S.theirs ≤ T.theirs) {d : Int} (h : openedS S d) : openedS T d := by
  obtain ⟨h1, h2, h3⟩ := h
  refine ⟨h1, h2, ?_⟩
  rw [hs]
  cases hw : ownS S.server d <;> rw [hw] at h3 <;> simp at h3 ⊢ <;> omega
theorem inv_new (sv : Bool) (most : Int) (h0 : 0 ≤ most) (h1 : most ≤ 1024) : InvS (newS sv most) :=
  ⟨List.Pairwise.nil, fun x hx => (by cases hx), fun x hx => (by cases hx), ⟨by simp [newS], by simp [newS]⟩, ⟨by simp [newS], by simp [newS]⟩, ⟨h0, h1⟩, ⟨by simp [newS], by simp [newS]⟩, by simp [newS, openS]; exact h0, by simp [newS, openS], by simp [newS], .inl rfl⟩
theorem inv_limit {S : Stm} (h : InvS S) (n : Int) : InvS (limitS S n).2 := by
  unfold limitS
  split
  · exact h
  · exact { h with num := h.num, mi := by dsimp only; split <;> omega, peers := h.peers, owns := h.owns }
theorem count_own (sv own : Bool) (d : Int) : countS sv own (d, 0) = (ownS sv d == own) := by simp [countS]
theorem open_put {S : Stm} {L : List (Int × Int)} {T : Stm} (d : Int) (hT : T.server = S.server) (hL : T.L = putL d S.L) (own : Bool) : openS T own = openS S own + (if ownS S.server d == own then 1 else 0) := by
  unfold openS
  rw [hT, hL, count_putL, count_own]
theorem inv_peer {S : Stm} (h : InvS S) (d : Int) : InvS (peerS S d).2.2 := by
  unfold peerS
  split
  · exact h
  · rename_i hn
    have hd : ownS S.server d = false := by
      cases ho : ownS S.server d
      · rfl
      · exact absurd (.inr (.inr (.inl ho))) hn
    have h1 : 1 ≤ d ∧ d ≤ 2147483647 ∧ S.theirs < d := by omega
    split
    · exact { rise := h.rise, st := h.st, num := fun x hx => openedS_mono (S := S) (T := dropS { S with theirs := d } d) rfl (Int.le_refl _) (by show S.theirs ≤ d; omega) (h.num x hx), th := ⟨by show 0 ≤ d; omega, by show d ≤ _; omega⟩, ou := h.ou, mo := h.mo, mi := h.mi, peers := h.peers, owns := h.owns, few := last64_few _, par := h.par }
    · rename_i hm
      have hne : ∀ x ∈ S.L, x.1 ≠ d := fun x hx e => by
        obtain ⟨_, _, h3⟩ := h.num x hx
        rw [e, hd] at h3
        simp at h3
        omega
      have hp := open_put (S := S) (L := S.L) (T := { S with theirs := d, L := putL d S.L }) d rfl rfl
      refine { rise := rise_putL d S.L h.rise hne, st := fun x hx => ?_, num := fun x hx => ?_, th := ⟨by show 0 ≤ d; omega, by show d ≤ _; omega⟩, ou := h.ou, mo := h.mo, mi := h.mi, peers := ?_, owns := ?_, few := h.few, par := h.par }
      · rcases (mem_putL d x S.L).1 hx with rfl | hx
        · exact ⟨by simp, by simp⟩
        · exact h.st x hx
      · rcases (mem_putL d x S.L).1 hx with rfl | hx
        · refine ⟨h1.1, h1.2.1, ?_⟩
          show if ownS S.server d then _ else d ≤ d
          rw [hd]
          simp
        · exact openedS_mono (S := S) (T := { S with theirs := d, L := putL d S.L }) rfl (Int.le_refl _) (by show S.theirs ≤ d; omega) (h.num x hx)
      · rw [hp false, hd]
        simp
        show (openS S false : Int) + 1 ≤ S.most
        omega
      · rw [hp true, hd]
        simpa using h.owns
theorem next_own {S : Stm} (h : InvS S) : ownS S.server (nextS S) = true ∧ S.ours < nextS S := by
  unfold nextS
  have hp := h.par
  have ho := h.ou
  split
  · rename_i e
    rw [e.2]
    exact ⟨by decide, by omega⟩
  · rename_i e
    refine ⟨?_, by omega⟩
    rcases hp with hp | hp
    · rw [hp]
      have hs : S.server = true := by
        cases hs : S.server
        · exact absurd ⟨hp, hs⟩ e
        · rfl
      rw [hs]
      decide
    · unfold ownS at hp ⊢
      rw [← hp]
      congr 1
      simp
theorem inv_own {S : Stm} (h : InvS S) : InvS (ownO S).2.2 := by
  unfold ownO
  split
  · exact h
  · rename_i hm
    split
    · exact h
    · rename_i hx
      obtain ⟨ho, hl⟩ := next_own h
      obtain ⟨d, hd⟩ : ∃ d, nextS S = d := ⟨_, rfl⟩
      rw [hd] at ho hl hx ⊢
      have h0 := h.ou
      have hne : ∀ x ∈ S.L, x.1 ≠ d := fun x hx e => by
        obtain ⟨_, _, h3⟩ := h.num x hx
        rw [e, ho] at h3
        simp at h3
        omega
      have hp := open_put (S := S) (L := S.L) (T := { S with ours := d, L := putL d S.L }) d rfl rfl
      refine { rise := rise_putL d S.L h.rise hne, st := fun x hx => ?_, num := fun x hx => ?_, th := h.th, ou := ⟨by show 0 ≤ d; omega, by show d ≤ _; omega⟩, mo := h.mo, mi := h.mi, peers := ?_, owns := ?_, few := h.few, par := .inr ho }
      · rcases (mem_putL d x S.L).1 hx with rfl | hx
        · exact ⟨by simp, by simp⟩
        · exact h.st x hx
      · rcases (mem_putL d x S.L).1 hx with rfl | hx
        · refine ⟨by show 1 ≤ d; omega, by show d ≤ _; omega, ?_⟩
          show if ownS S.server d then d ≤ d else _
          rw [ho]
          simp
        · exact openedS_mono (S := S) (T := { S with ours := d, L := putL d S.L }) rfl (by show S.ours ≤ d; omega) (Int.le_refl _) (h.num x hx)
      · rw [hp false, ho]
        simpa using h.peers
      · rw [hp true, ho]
        simp
        have := h.mi
        omega
theorem setL_mem {d n : Int} {L : List (Int × Int)} {x : Int × Int} (h : x ∈ setL d n L) : ∃ y ∈ L, x.1 = y.1 ∧ (x = y ∨ x.2 = n) := by
  obtain ⟨y, hy, e⟩ := List.mem_map.1 h
  refine ⟨y, hy, ?_⟩
  split at e
  · rename_i e2
    subst e
    exact ⟨e2.symm, .inr rfl⟩
  · subst e
    exact ⟨rfl, .inl rfl⟩
theorem setL_keys (d n : Int) (L : List (Int × Int)) : (setL d n L).map (·.1) = L.map (·.1) := by
  unfold setL
  rw [List.map_map]
  apply List.map_congr_left
  intro x hx
  dsimp only [Function.comp]
  split
  · rename_i e; exact e.symm
  · rfl
theorem setL_rise {d n : Int} {L : List (Int × Int)} (h : L.Pairwise (fun x y => x.1 < y.1)) : (setL d n L).Pairwise (fun x y => x.1 < y.1) := by
  have h1 : (L.map (·.1)).Pairwise (· < ·) := List.pairwise_map.2 h
  rw [← setL_keys d n L] at h1
  exact List.pairwise_map.1 h1
theorem setL_count {sv own : Bool} {d n : Int} (hn : n ≠ 4) : ∀ L : List (Int × Int), (∀ x ∈ L, x.2 ≠ 4) → ((setL d n L).filter (countS sv own)).length = (L.filter (countS sv own)).length
  | [], _ => rfl
  | x :: r, h => by
    have ih := setL_count (sv := sv) (own := own) (d := d) hn r (fun y hy => h y (List.mem_cons_of_mem _ hy))
    have hx := h x (List.mem_cons_self ..)
    have e : countS sv own (if x.1 = d then (d, n) else x) = countS sv own x := by
      split
      · rename_i e
        simp [countS, e, hx, hn]
      · rfl
    unfold setL at ih ⊢
    rw [List.map_cons, List.filter_cons, List.filter_cons, e]
    split
    · rw [List.length_cons, List.length_cons, ih]
    · exact ih
theorem inv_turn {S : Stm} (h : InvS S) (d n what : Int) (hn : 0 ≤ n ∧ n ≤ 4) : InvS (turnS S d n what) := by
  unfold turnS
  split
  · exact h
  · have hc : ∀ own, openS { S with L := S.L.filter (fun x => decide (x.1 ≠ d)) } own ≤ openS S own := fun own => count_sub _ _ _
    split
    · have hb : InvS { S with L := S.L.filter (fun x => decide (x.1 ≠ d)) } :=
        { rise := h.rise.filter _, st := fun x hx => h.st x (List.mem_filter.1 hx).1, num := fun x hx => h.num x (List.mem_filter.1 hx).1, th := h.th, ou := h.ou, mo := h.mo, mi := h.mi, peers := by have := hc false; have := h.peers; show _ ≤ S.most; omega, owns := by have := hc true; have := h.owns; omega, few := h.few, par := h.par }
      split
      · exact { hb with num := hb.num, peers := hb.peers, owns := hb.owns, few := last64_few _ }
      · exact hb
    · rename_i hn4
      have h4 : ∀ x ∈ S.L, x.2 ≠ 4 := fun x hx => by have := h.st x hx; omega
      refine { rise := setL_rise h.rise, st := fun x hx => ?_, num := fun x hx => ?_, th := h.th, ou := h.ou, mo := h.mo, mi := h.mi, peers := ?_, owns := ?_, few := h.few, par := h.par }
      · obtain ⟨y, hy, _, e | e⟩ := setL_mem hx
        · rw [e]; exact h.st y hy
        · omega
      · obtain ⟨y, hy, e, _⟩ := setL_mem hx
        rw [e]
        exact h.num y hy
      · show (((setL d n S.L).filter (countS S.server false)).length : Int) ≤ S.most
        rw [setL_count hn4 S.L h4]
        exact h.peers
      · show ((setL d n S.L).filter (countS S.server true)).length ≤ 1024
        rw [setL_count hn4 S.L h4]
        exact h.owns
theorem code_le (what state : Nat) (hw : what < 9) (hs : state < 5) : codeT what state ≤ 8 := by
  obtain rfl | rfl | rfl | rfl | rfl | rfl | rfl | rfl | rfl : what = 0 ∨ what = 1 ∨ what = 2 ∨ what = 3 ∨ what = 4 ∨ what = 5 ∨ what = 6 ∨ what = 7 ∨ what = 8 := by omega
  all_goals
    obtain rfl | rfl | rfl | rfl | rfl : state = 0 ∨ state = 1 ∨ state = 2 ∨ state = 3 ∨ state = 4 := by omega
    all_goals decide
theorem step_le (state what : Int) : 0 ≤ (stepO state what).1 ∧ (stepO state what).1 ≤ 4 := by
  unfold stepO
  split
  · simp
  · rename_i h
    have hc := code_le what.toNat state.toNat (by omega) (by omega)
    split
    · dsimp only; omega
    · split
      · dsimp only; omega
      · split
        · dsimp only; omega
        · split
          · dsimp only; omega
          · dsimp only; omega
theorem inv_do {S : Stm} (h : InvS S) (d what : Int) : InvS (doS S d what).2 := by
  unfold doS
  repeat' split
  all_goals first | exact h | exact inv_turn h d _ what (step_le _ _)
/-- Closed is closed. -/
theorem closed_peer {S : Stm} (h : InvS S) (d n : Int) (hc : stateS S n = 4) : stateS (peerS S d).2.2 n = 4 := by
  have hi := inv_peer h d
  rw [state_closed h] at hc
  rw [state_closed hi]
  obtain ⟨h1, h2⟩ := hc
  unfold peerS
  split
  · exact ⟨h1, h2⟩
  · rename_i hn
    have hd : ownS S.server d = false := by
      cases ho : ownS S.server d
      · rfl
      · exact absurd (.inr (.inr (.inl ho))) hn
    have h3 : S.theirs < d := by omega
    split
    · exact ⟨openedS_mono (S := S) (T := dropS { S with theirs := d } d) rfl (Int.le_refl _) (by show S.theirs ≤ d; omega) h1, h2⟩
    · refine ⟨openedS_mono (S := S) (T := { S with theirs := d, L := putL d S.L }) rfl (Int.le_refl _) (by show S.theirs ≤ d; omega) h1, fun x hx e => ?_⟩
      rcases (mem_putL d x S.L).1 hx with rfl | hx
      · dsimp only at e
        subst e
        obtain ⟨_, _, h5⟩ := h1
        rw [hd] at h5
        simp at h5
        omega
      · exact h2 x hx e
theorem closed_own {S : Stm} (h : InvS S) (n : Int) (hc : stateS S n = 4) : stateS (ownO S).2.2 n = 4 := by
  have hi := inv_own h
  rw [state_closed h] at hc
  rw [state_closed hi]
  obtain ⟨h1, h2⟩ := hc
  obtain ⟨ho, hl⟩ := next_own h
  unfold ownO
  split
  · exact ⟨h1, h2⟩
  · split
    · exact ⟨h1, h2⟩
    · refine ⟨openedS_mono (S := S) (T := { S with ours := nextS S, L := putL (nextS S) S.L }) rfl (by show S.ours ≤ nextS S; omega) (Int.le_refl _) h1, fun x hx e => ?_⟩
      rcases (mem_putL _ x S.L).1 hx with rfl | hx
      · dsimp only at e
        subst e
        obtain ⟨_, _, h5⟩ := h1
        rw [ho] at h5
        simp at h5
        omega
      · exact h2 x hx e
theorem closed_limit {S : Stm} (m n : Int) (hc : stateS S n = 4) : stateS (limitS S m).2 n = 4 := by
  unfold limitS
  split
  · exact hc
  · exact hc
theorem turn_keys {S : Stm} {d n what : Int} : ∀ x ∈ (turnS S d n what).L, ∃ y ∈ S.L, x.1 = y.1 := by
  intro x hx
  unfold turnS at hx
  split at hx
  · exact ⟨x, hx, rfl⟩
  · split at hx
    · split at hx
      · exact ⟨x, (List.mem_filter.1 hx).1, rfl⟩
      · exact ⟨x, (List.mem_filter.1 hx).1, rfl⟩
    · obtain ⟨y, hy, e, _⟩ := setL_mem hx
      exact ⟨y, hy, e⟩
theorem turn_same (S : Stm) (d n what : Int) : (turnS S d n what).server = S.server ∧ (turnS S d n what).ours = S.ours ∧ (turnS S d n what).theirs = S.theirs := by
  unfold turnS
  repeat' split
  all_goals exact ⟨rfl, rfl, rfl⟩
theorem closed_do {S : Stm} (h : InvS S) (d what n : Int) (hc : stateS S n = 4) : stateS (doS S d what).2 n = 4 := by
  have hi := inv_do h d what
  rw [state_closed h] at hc
  rw [state_closed hi]
  obtain ⟨h1, h2⟩ := hc
  unfold doS
  split
  · exact ⟨h1, h2⟩
  split
  · exact ⟨h1, h2⟩
  split
  · exact ⟨h1, h2⟩
  split
  · exact ⟨h1, h2⟩
  split
  · exact ⟨h1, h2⟩
  · obtain ⟨e1, e2, e3⟩ := turn_same S d (stepO (stateS S d) what).1 what
    refine ⟨openedS_mono e1 (by rw [e2]; exact Int.le_refl _) (by rw [e3]; exact Int.le_refl _) h1, fun x hx e => ?_⟩
    obtain ⟨y, hy, e4⟩ := turn_keys x hx
    exact h2 y hy (e4.symm.trans e)
end Go.Proofs.Ytahlhkpabkplfaa
