/- The document's streams: Do, whole. -/
import Derived.Test.YtahlhkpabkplfaaVh
import Derived.Test.YtahlhkpabkplfaaVi
import Derived.Test.YtahlhkpabkplfaaVj
import Derived.Test.YtahlhkpabkplfaaVk
namespace Go.Proofs.Ytahlhkpabkplfaa
open Go.RowKit
set_option linter.unusedVariables false

theorem ryDo_in (base g : Nat) (S : Stm) (vL vG : Value) (d wh : Int) (w : World) (h : RAt base w g S vL vG) (hb : base ≤ w.heap.size) : Calls Try.prog 30 #[.pointer (some ⟨g, 0, none⟩), .int .i64 d, .int .i64 wh] w (RPost base w g vL vG (doS S d wh).2 (doV (doS S d wh).1)) := by
  by_cases hd : d < 1
  · have e1 : doS S d wh = ((0, (false, 0, 0), 1), S) := by unfold doS; rw [if_pos (.inl hd)]
    rw [e1]
    exact ryDo_low base g S vL vG d wh w h hb hd
  by_cases hd2 : 2147483647 < d
  · have e1 : doS S d wh = ((0, (false, 0, 0), 1), S) := by unfold doS; rw [if_pos (.inr hd2)]
    rw [e1]
    exact ryDo_high base g S vL vG d wh w h hb hd hd2
  have e0 : ¬ (d < 1 ∨ 2147483647 < d) := by omega
  by_cases hg : S.gone.contains d = true ∧ 0 ≤ wh ∧ wh ≤ 4
  · have e1 : doS S d wh = ((4, (false, 0, 0), 0), S) := by
      unfold doS
      rw [if_neg e0, if_pos hg]
    rw [e1]
    exact ryDo_gone base g S vL vG d wh w h hb hd hd2 hg.1 hg.2.1 hg.2.2
  obtain ⟨⟨n, k, c, er⟩, hstep⟩ : ∃ s, stepO (stateS S d) wh = s := ⟨_, rfl⟩
  have hn : 0 ≤ n ∧ n ≤ 4 := by have := step_le (stateS S d) wh; rw [hstep] at this; exact this
  have e1 : doS S d wh = if er ≠ 0 then ((0, (false, 0, 0), er), S) else if k = 1 then ((0, (true, d, c), 0), S) else if k = 2 then ((0, (true, 0, c), 0), S) else ((n, (false, 0, 0), 0), turnS S d n wh) := by
    unfold doS
    rw [if_neg e0, if_neg hg, hstep]
  rw [e1]
  by_cases he : er = 0
  · rw [if_neg (by simp [he])]
    by_cases hk1 : k = 1
    · rw [if_pos hk1]
      exact ryDo_k1 base g S vL vG d wh w n k c er h hb hd hd2 hg hstep he hk1
    rw [if_neg hk1]
    by_cases hk2 : k = 2
    · rw [if_pos hk2]
      exact ryDo_k2 base g S vL vG d wh w n k c er h hb hd hd2 hg hstep he hk2
    rw [if_neg hk2]
    cases hf : findS S.L d with
    | none =>
      have e2 : turnS S d n wh = S := by unfold turnS; rw [hf]
      rw [e2]
      exact ryDo_none base g S vL vG d wh w n k c er h hb hd hd2 hg hstep he hk1 hk2 hf
    | some x =>
      by_cases hn4 : n = 4
      · subst hn4
        by_cases hw : wh = 8
        · have e2 : turnS S d 4 wh = dropS (moveS S d 4) d := by rw [hw]; exact turn_8 hf
          rw [e2]
          exact ryDo_del8 base g S vL vG d wh w k c er h hb hd hd2 hg hstep he hk1 hk2 x hf hw
        · rw [turn_not8 hw]
          exact ryDo_del base g S vL vG d wh w k c er h hb hd hd2 hg hstep he hk1 hk2 x hf hw
      · have e2 : turnS S d n wh = moveS S d n := by
          rw [moveS_set hf hn4]
          unfold turnS
          rw [hf]
          dsimp only
          rw [if_neg hn4]
        rw [e2]
        exact ryDo_set base g S vL vG d wh w n k c er h hb hd hd2 hg hstep he hk1 hk2 hn hn4 x hf
  · rw [if_pos he]
    exact ryDo_err base g S vL vG d wh w n k c er h hb hd hd2 hg hstep he
end Go.Proofs.Ytahlhkpabkplfaa
