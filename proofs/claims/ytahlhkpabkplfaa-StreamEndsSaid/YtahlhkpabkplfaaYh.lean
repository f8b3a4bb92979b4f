/- The program's streams: State, Dropped, Own. -/
import Derived.Test.YtahlhkpabkplfaaYf
import Derived.Test.YtahlhkpabkplfaaSt
namespace Go.Proofs.Ytahlhkpabkplfaa
open Go.RowKit Go.Maps
set_option linter.unusedVariables false
set_option maxRecDepth 100000
set_option maxHeartbeats 4000000

theorem state_not {S : Stm} (h : InvS S) {d : Int} (hd : numB d = false) : stateS S d = 0 := by
  have hn := numB_false hd
  have hf : findS S.L d = none := find_of_none fun x hx e => by
    have := h.num x hx
    obtain ⟨h1, h2, -⟩ := this
    omega
  unfold stateS
  rw [hf]
  dsimp only
  rw [if_pos (by omega)]
theorem state_known {S : Stm} {d : Int} {x : Int × Int} (hf : findS S.L d = some x) : stateS S d = x.2 := by unfold stateS; rw [hf]
theorem state_own {S : Stm} (h : InvS S) {d : Int} (hd : 1 ≤ d ∧ d ≤ 2147483647) (hf : findS S.L d = none) (ho : ownS S.server d = true) : stateS S d = if d ≤ olY S then 4 else 0 := by
  unfold stateS
  rw [hf]
  dsimp only
  have h1 := h.ou
  have e : d ≤ olY S ↔ d ≤ S.ours := by unfold olY; split <;> omega
  by_cases hl : d ≤ olY S
  · rw [if_pos hl, if_neg]
    rw [ho]
    simp
    omega
  · rw [if_neg hl, if_pos]
    exact .inr (.inr (.inl ⟨ho, by omega⟩))
theorem state_peer {S : Stm} {d : Int} (hd : 1 ≤ d ∧ d ≤ 2147483647) (hf : findS S.L d = none) (ho : ownS S.server d = false) : stateS S d = if d ≤ S.theirs then 4 else 0 := by
  unfold stateS
  rw [hf]
  dsimp only
  by_cases hl : d ≤ S.theirs
  · rw [if_pos hl, if_neg]
    rw [ho]
    simp
    omega
  · rw [if_neg hl, if_pos]
    exact .inr (.inr (.inr ⟨ho, by omega⟩))
theorem mapL_of {L : List (Int × Int)} {d : Int} {x : Int × Int} (h : findS L d = some x) : mapL L d = some (.int .i64 x.2) := by unfold mapL; rw [h]; rfl
theorem mapL_no {L : List (Int × Int)} {d : Int} (h : findS L d = none) : mapL L d = none := by unfold mapL; rw [h]; rfl
theorem yState_in (g mb : Nat) (S : Stm) (d : Int) (w : World) (h : YAt w g mb S) (hI : IsI d) : Calls Try.prog 17 #[.pointer (some ⟨g, 0, none⟩), .int .i64 d] w fun e w' => e = .returned (.int .i64 (stateS S d)) ∧ w = w' := by
  obtain ⟨rg, nx, h1, h2, h3, h4⟩ := h
  have K := ymade_in g _ w h1
  have KN := ynumbered_in d w
  obtain ⟨c0, c1, c2, c3, c4, c5, c6, c7⟩ := h1.cells
  dsimp only [ysOf] at c0 c1 c2 c3 c4 c5 c6 c7
  cases hd : numB d
  · rw [state_not h4 hd]
    rw [hd] at KN
    clear h1 h2 h3 h4 hI hd
    go_enter Try.func17, Try.ntmps17
    go_wp2_with (first | (go_at_call 37; refine K.mono ?_; clear K; rintro e w' ⟨rfl, rfl⟩) | (go_at_call 39; refine KN.mono ?_; clear KN; rintro e w' ⟨rfl, rfl⟩))
    go_ret
    exact ⟨rfl, rfl⟩
  · rw [hd] at KN
    have hr := numB_true hd
    clear hd
    cases hf : findS S.L d with
    | some x =>
      rw [state_known hf]
      have hv : (mapL S.L d).getD (.int .i64 0) = .int .i64 x.2 := by rw [mapL_of hf]; rfl
      have hs : (mapL S.L d).isSome = true := by rw [mapL_of hf]; rfl
      go_enter Try.func17, Try.ntmps17
      go_wp2_with (first | (go_at_call 37; refine K.mono ?_; clear K; rintro e w' ⟨rfl, rfl⟩) | (go_at_call 39; refine KN.mono ?_; clear KN; rintro e w' ⟨rfl, rfl⟩) | (refine wpList_look_ok rfl (.tmp 19) (.tmp 20) 55 rfl 3 Try.underlying55 (.int .i64 0) yzero_int mb S.L.length (mapL S.L) rfl h3 d rfl hI (.int .i64 x.2) hv true hs ?_))
      go_ret
      exact ⟨rfl, rfl⟩
    | none =>
      have hv : (mapL S.L d).getD (.int .i64 0) = .int .i64 0 := by rw [mapL_no hf]; rfl
      have hs : (mapL S.L d).isSome = false := by rw [mapL_no hf]; rfl
      have KS := ysideOf_in g _ d w h1 hr.1
      have e0 : (ysOf mb S rg nx).sv = S.server := rfl
      rw [e0] at KS
      cases ho : ownS S.server d
      · rw [state_peer hr hf ho]
        rw [ho] at KS
        by_cases hl : d ≤ S.theirs
        · rw [if_pos hl]
          go_enter Try.func17, Try.ntmps17
          go_wp2_with (first | (go_at_call 37; refine K.mono ?_; clear K; rintro e w' ⟨rfl, rfl⟩) | (go_at_call 39; refine KN.mono ?_; clear KN; rintro e w' ⟨rfl, rfl⟩) | (go_at_call 40; refine KS.mono ?_; clear KS; rintro e w' ⟨rfl, rfl⟩) | (refine wpList_look_ok rfl (.tmp 19) (.tmp 20) 55 rfl 3 Try.underlying55 (.int .i64 0) yzero_int mb S.L.length (mapL S.L) rfl h3 d rfl hI (.int .i64 0) hv false hs ?_))
          go_ret
          exact ⟨rfl, rfl⟩
        · rw [if_neg hl]
          go_enter Try.func17, Try.ntmps17
          go_wp2_with (first | (go_at_call 37; refine K.mono ?_; clear K; rintro e w' ⟨rfl, rfl⟩) | (go_at_call 39; refine KN.mono ?_; clear KN; rintro e w' ⟨rfl, rfl⟩) | (go_at_call 40; refine KS.mono ?_; clear KS; rintro e w' ⟨rfl, rfl⟩) | (refine wpList_look_ok rfl (.tmp 19) (.tmp 20) 55 rfl 3 Try.underlying55 (.int .i64 0) yzero_int mb S.L.length (mapL S.L) rfl h3 d rfl hI (.int .i64 0) hv false hs ?_))
          go_ret
          exact ⟨rfl, rfl⟩
      · rw [state_own h4 hr hf ho]
        rw [ho] at KS
        by_cases hl : d ≤ olY S
        · rw [if_pos hl]
          go_enter Try.func17, Try.ntmps17
          go_wp2_with (first | (go_at_call 37; refine K.mono ?_; clear K; rintro e w' ⟨rfl, rfl⟩) | (go_at_call 39; refine KN.mono ?_; clear KN; rintro e w' ⟨rfl, rfl⟩) | (go_at_call 40; refine KS.mono ?_; clear KS; rintro e w' ⟨rfl, rfl⟩) | (refine wpList_look_ok rfl (.tmp 19) (.tmp 20) 55 rfl 3 Try.underlying55 (.int .i64 0) yzero_int mb S.L.length (mapL S.L) rfl h3 d rfl hI (.int .i64 0) hv false hs ?_))
          go_ret
          exact ⟨rfl, rfl⟩
        · rw [if_neg hl]
          go_enter Try.func17, Try.ntmps17
          go_wp2_with (first | (go_at_call 37; refine K.mono ?_; clear K; rintro e w' ⟨rfl, rfl⟩) | (go_at_call 39; refine KN.mono ?_; clear KN; rintro e w' ⟨rfl, rfl⟩) | (go_at_call 40; refine KS.mono ?_; clear KS; rintro e w' ⟨rfl, rfl⟩) | (refine wpList_look_ok rfl (.tmp 19) (.tmp 20) 55 rfl 3 Try.underlying55 (.int .i64 0) yzero_int mb S.L.length (mapL S.L) rfl h3 d rfl hI (.int .i64 0) hv false hs ?_))
          go_ret
          exact ⟨rfl, rfl⟩
theorem yDropped_in (g mb : Nat) (S : Stm) (d : Int) (w : World) (h : YAt w g mb S) : Calls Try.prog 22 #[.pointer (some ⟨g, 0, none⟩), .int .i64 d] w fun e w' => e = .returned (.bool (numB d && S.gone.contains d)) ∧ w = w' := by
  obtain ⟨rg, nx, h1, h2, h3, h4⟩ := h
  have K := ymade_in g _ w h1
  have KN := ynumbered_in d w
  obtain ⟨c0, -⟩ := h1.cells
  have KC := yContains_in g 8 64 64 rg d w h1.2 (by omega) (fun j hj => h1.ring j hj)
  cases hd : numB d
  · rw [hd] at KN
    clear h1 h2 h3 h4
    go_enter Try.func22, Try.ntmps22
    go_wp2_with (first | (go_at_call 37; refine K.mono ?_; clear K; rintro e w' ⟨rfl, rfl⟩) | (go_at_call 39; refine KN.mono ?_; clear KN; rintro e w' ⟨rfl, rfl⟩))
    go_ret
    exact ⟨rfl, rfl⟩
  · rw [hd] at KN
    have hr := numB_true hd
    have e1 : rg.contains d = S.gone.contains d := by
      rw [Bool.eq_iff_iff, List.contains_iff_mem, List.contains_iff_mem]
      exact ring_mem h2 (by omega)
    rw [e1] at KC
    generalize S.gone.contains d = b at KC ⊢
    clear h1 h2 h3 h4 e1
    go_enter Try.func22, Try.ntmps22
    go_wp2_with (first | (go_at_call 37; refine K.mono ?_; clear K; rintro e w' ⟨rfl, rfl⟩) | (go_at_call 39; refine KN.mono ?_; clear KN; rintro e w' ⟨rfl, rfl⟩) | (go_at_call 45; refine KC.mono ?_; clear KC; rintro e w' ⟨rfl, rfl⟩))
    go_ret
    exact ⟨rfl, rfl⟩
end Go.Proofs.Ytahlhkpabkplfaa
