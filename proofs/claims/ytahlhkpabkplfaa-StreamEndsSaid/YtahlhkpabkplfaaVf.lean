/- The document's streams: Own. -/
import Derived.Test.YtahlhkpabkplfaaVe
namespace Go.Proofs.Ytahlhkpabkplfaa
open Go.RowKit
set_option linter.unusedVariables false
set_option maxRecDepth 100000
set_option maxHeartbeats 4000000

theorem ryOwn_in (base g : Nat) (S : Stm) (vL vG : Value) (w : World) (h : RAt base w g S vL vG) (hb : base ≤ w.heap.size) : Calls Try.prog 29 #[.pointer (some ⟨g, 0, none⟩)] w (RPost base w g vL vG (ownO S).2.2 (.tuple #[.int .i64 (ownO S).1, .int .i64 (ownO S).2.1])) := by
  have H : Hid (RAt base w g S vL vG) := h
  obtain ⟨on, hon⟩ : ∃ on, openS S true = on := ⟨_, rfl⟩
  have KQ : Hid (∀ k, Calls Try.prog 36 #[.pointer (some ⟨g, 0, none⟩), .bool true] (w.drewN k) fun e w' => e = .returned (.int .i64 (on : Int)) ∧ w' = w.drewN k) := fun k => by
    refine (ryOpen_in base g S vL vG true (w.drewN k) (H.out.later ((Fr.refl _ _).drewN k))).mono ?_
    rintro e w' ⟨rfl, rfl⟩
    rw [hon]
    exact ⟨rfl, rfl⟩
  obtain ⟨c0, c1, c2, c3, c4, c5, c6⟩ := h.cells
  by_cases hf : S.mine ≤ (openS S true : Nat)
  · rw [ownO_full hf]
    rw [hon] at hf
    clear h hon
    go_enter Try.func29, Try.ntmps29
    go_wp2_with (fail)
    go_quiet ((go_at_call 36; exact Calls.quiet_of_same (KQ.out _)))
    go_wp2_with (fail)
    go_ret2
    exact ⟨rfl, vL, vG, H.out.later ((Fr.refl _ _).drewN _), (Fr.refl _ _).drewN _⟩
  · have hn := next_own h.inv
    have h0 := h.inv.ou
    obtain ⟨nx, hnx⟩ : ∃ nx, nextS S = nx := ⟨_, rfl⟩
    by_cases hx : 2147483647 < nextS S
    · rw [ownO_long hf hx]
      rw [hon] at hf
      rw [hnx] at hx hn
      unfold nextS at hnx
      by_cases hz : S.ours = 0
      · cases hs : S.server
        · rw [if_pos ⟨hz, hs⟩] at hnx
          omega
        · rw [hs] at c0
          rw [if_neg (by rw [hs]; simp)] at hnx
          omega
      · rw [if_neg (by simp [hz])] at hnx
        have hz2 : (S.ours == 0) = false := by simpa using hz
        clear h hon
        go_enter Try.func29, Try.ntmps29
        go_wp2_with (fail)
        go_quiet ((go_at_call 36; exact Calls.quiet_of_same (KQ.out _)))
        go_wp2_with (fail)
        go_ret2
        exact ⟨rfl, vL, vG, H.out.later ((Fr.refl _ _).drewN _), (Fr.refl _ _).drewN _⟩
    · have hi := inv_own h.inv
      have e1 := ownO_yes hf hx
      rw [e1] at hi ⊢
      rw [hnx] at hi hx hn ⊢
      dsimp only at hi ⊢
      have HI : Hid (InvS { S with ours := nx, L := putL nx S.L }) := hi
      have HO : Hid (InvS { S with ours := nx }) := inv_ours h.inv (by omega) (by omega) hn.1
      have z6 : ∀ k, (w.drewN k).frozen? ⟨g, 6, none⟩ = false := fun k => frozen_of_heap (H.out.later ((Fr.refl _ _).drewN k)).blk
      rw [hon] at hf
      unfold nextS at hnx
      have KP : Hid (∀ k (w2 : World), w2 = (w.drewN k).setCell ⟨g, 6, none⟩ (.int .i64 nx) → Calls Try.prog 51 #[.pointer (some ⟨g, 0, none⟩), .int .i64 nx] w2 fun e w' => e = .returned (.tuple #[]) ∧ ∃ uL, RAt base w' g { S with ours := nx, L := putL nx S.L } uL vG ∧ Fr (RX g vL vG) w w') := fun k w2 hw2 => by
        have F : Fr (fun _ => False) w (w.drewN k) := (Fr.refl _ _).drewN k
        have F2 : Fr (fun k => k = g) w w2 := by rw [hw2]; exact ((Fr.refl _ _).drewN k).setB _ _
        have H2 : RAt base w2 g { S with ours := nx } vL vG := by
          rw [hw2]
          have H1 := H.out.later F
          exact H1.put 6 _ rfl HO.out H1.row H1.gone H1.bs.1 H1.bs.2
        refine (ryput_in base g { S with ours := nx } { S with ours := nx, L := putL nx S.L } vL vG nx w2 H2 (Nat.le_trans hb F2.size) rfl HI.out).mono ?_
        rintro e w' ⟨rfl, uL, a1, a2, -⟩
        exact ⟨rfl, uL, a1, (F2.mono (fun _ _ e => .inl e)).trans (a2.mono (fun _ _ e => .inl e))⟩
      clear hi e1 hon hn h
      by_cases hz : S.ours = 0
      · cases hs : S.server
        · rw [if_pos ⟨hz, hs⟩] at hnx
          subst hnx
          rw [hs] at c0
          rw [hz] at c6
          go_enter Try.func29, Try.ntmps29
          go_wp2_with (fail)
          go_quiet ((go_at_call 36; exact Calls.quiet_of_same (KQ.out _)))
          go_upto_region 9 with (fail)
          obtain ⟨w2, hw2⟩ : ∃ w2, w2 = (w.drewN nq).setCell ⟨g, 6, none⟩ (.int .i64 (1)) := ⟨_, rfl⟩
          have KP2 := KP.out nq w2 hw2
          rw [← hw2]
          clear hw2
          go_wp2_with (go_at_call 51; refine KP2.mono ?_; rintro e w3 ⟨rfl, uL, a1, a2⟩)
          go_ret2
          exact ⟨rfl, uL, vG, (by rw [hs] at a1; exact a1), a2⟩
        · rw [hs] at c0
          rw [if_neg (by rw [hs]; simp), hz] at hnx
          rw [hz] at c6
          have hnx2 : nx = 2 := by omega
          clear hnx
          subst hnx2
          go_enter Try.func29, Try.ntmps29
          go_wp2_with (fail)
          go_quiet ((go_at_call 36; exact Calls.quiet_of_same (KQ.out _)))
          go_upto_region 9 with (fail)
          obtain ⟨w2, hw2⟩ : ∃ w2, w2 = (w.drewN nq).setCell ⟨g, 6, none⟩ (.int .i64 (2)) := ⟨_, rfl⟩
          have KP2 := KP.out nq w2 hw2
          rw [← hw2]
          clear hw2
          go_wp2_with (go_at_call 51; refine KP2.mono ?_; rintro e w3 ⟨rfl, uL, a1, a2⟩)
          go_ret2
          exact ⟨rfl, uL, vG, (by rw [hs] at a1; exact a1), a2⟩
      · rw [if_neg (by simp [hz])] at hnx
        have hz2 : (S.ours == 0) = false := by simpa using hz
        subst hnx
        go_enter Try.func29, Try.ntmps29
        go_wp2_with (fail)
        go_quiet ((go_at_call 36; exact Calls.quiet_of_same (KQ.out _)))
        go_upto_region 9 with (fail)
        obtain ⟨w2, hw2⟩ : ∃ w2, w2 = (w.drewN nq).setCell ⟨g, 6, none⟩ (.int .i64 (S.ours + 2)) := ⟨_, rfl⟩
        have KP2 := KP.out nq w2 hw2
        rw [← hw2]
        clear hw2
        go_wp2_with (go_at_call 51; refine KP2.mono ?_; rintro e w3 ⟨rfl, uL, a1, a2⟩)
        go_ret2
        exact ⟨rfl, uL, vG, a1, a2⟩
end Go.Proofs.Ytahlhkpabkplfaa
