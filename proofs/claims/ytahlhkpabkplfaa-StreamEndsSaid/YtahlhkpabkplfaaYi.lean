/- The program's streams: Own, Peer. -/
import Derived.Test.YtahlhkpabkplfaaYh
namespace Go.Proofs.Ytahlhkpabkplfaa
open Go.RowKit Go.Maps
set_option linter.unusedVariables false
set_option maxRecDepth 100000
set_option maxHeartbeats 4000000

theorem own_new {S : Stm} (h : InvS S) : ∀ x ∈ S.L, x.1 ≠ nextS S := fun x hx e => by
  obtain ⟨h1, h2⟩ := next_own h
  obtain ⟨-, -, h3⟩ := h.num x hx
  rw [e, h1] at h3
  simp at h3
  omega
theorem ownO_full {S : Stm} (h : S.mine ≤ (openS S true : Nat)) : ownO S = (0, 9, S) := by unfold ownO; rw [if_pos h]
theorem ownO_long {S : Stm} (h : ¬ S.mine ≤ (openS S true : Nat)) (hx : 2147483647 < nextS S) : ownO S = (0, 2, S) := by unfold ownO; rw [if_neg h, if_pos hx]
theorem ownO_yes {S : Stm} (h : ¬ S.mine ≤ (openS S true : Nat)) (hx : ¬ 2147483647 < nextS S) : ownO S = (nextS S, 0, { S with ours := nextS S, L := putL (nextS S) S.L }) := by unfold ownO; rw [if_neg h, if_neg hx]
theorem yat_own {w : World} {g mb nx : Nat} {S : Stm} {rg : List Int} (h4 : InvS S) (h : ¬ S.mine ≤ (openS S true : Nat)) (hx : ¬ 2147483647 < nextS S) (h2 : RingY rg nx S.gone)
    (hst : StC w g { ysOf mb S rg nx with ol := nextS S, oo := (ysOf mb S rg nx).oo + 1 }) (hm : MapAt w mb (S.L.length + 1) (putM (mapL S.L) (nextS S) (.int .i64 0))) : YAt w g mb (ownO S).2.2 := by
  have hi := inv_own h4
  obtain ⟨-, -, -, e1, e2, -⟩ := own_step h4 (by omega) (by omega)
  have hn := next_own h4
  have h0 := h4.ou
  rw [ownO_yes h hx] at hi e1 e2 ⊢
  dsimp only at hi e1 e2 ⊢
  refine ⟨rg, nx, ?_, h2, mapL_tight (n := S.L.length + 1) ?_ hi.rise, hi⟩
  · have e3 : ysOf mb { S with ours := nextS S, L := putL (nextS S) S.L } rg nx = { ysOf mb S rg nx with ol := nextS S, oo := (ysOf mb S rg nx).oo + 1 } := by
      unfold ysOf
      rw [e1, e2]
      have e4 : olY { S with ours := nextS S, L := putL (nextS S) S.L } = nextS S := by unfold olY; rw [if_neg (by dsimp only; omega)]
      rw [e4]
      simp
    rw [e3]
    exact hst
  · dsimp only
    rw [mapL_put (own_new h4)]
    exact hm
theorem yOwn_in (g mb : Nat) (S : Stm) (w : World) (h : YAt w g mb S) : Calls Try.prog 16 #[.pointer (some ⟨g, 0, none⟩)] w fun e w' => e = .returned (.tuple #[.int .i64 (ownO S).1, .int .i64 (ownO S).2.1]) ∧ YAt w' g mb (ownO S).2.2 ∧ Fr (fun k => k = g ∨ k = mb) w w' := by
  have H : Hid (YAt w g mb S) := h
  obtain ⟨rg, nx, h1, h2, h3, h4⟩ := h
  have K := ymade_in g _ w h1
  obtain ⟨c0, c1, c2, c3, c4, c5, c6, c7⟩ := h1.cells
  dsimp only [ysOf] at c0 c1 c2 c3 c4 c5 c6 c7
  by_cases hf : S.mine ≤ (openS S true : Nat)
  · rw [ownO_full hf]
    generalize openS S true = on at c3 hf ⊢
    clear h1 h2 h3 h4
    go_enter Try.func16, Try.ntmps16
    go_wp2_with (go_at_call 37; refine K.mono ?_; clear K; rintro e w' ⟨rfl, rfl⟩)
    go_quiet (fail)
    go_wp2_with (fail)
    go_ret2
    exact ⟨rfl, H.out.fr ((Fr.refl (fun _ => False) _).drewN _) id id, (Fr.refl _ _).drewN _⟩
  · by_cases hx : 2147483647 < nextS S
    · rw [ownO_long hf hx]
      rw [next_ol] at hx
      generalize openS S true = on at c3 hf ⊢
      have hx2 : 2147483645 < olY S := by omega
      clear h1 h2 h3 h4
      go_enter Try.func16, Try.ntmps16
      go_wp2_with (go_at_call 37; refine K.mono ?_; clear K; rintro e w' ⟨rfl, rfl⟩)
      go_quiet (fail)
      go_wp2_with (fail)
      go_ret2
      exact ⟨rfl, H.out.fr ((Fr.refl (fun _ => False) _).drewN _) id id, (Fr.refl _ _).drewN _⟩
    · have hn := next_own h4
      have h0 := h4.ou
      have hfew := few_known h4
      have hoo := h4.owns
      have KO : ∀ k, Calls Try.prog 38 #[.pointer (some ⟨g, 0, none⟩), .int .i64 (nextS S)] (w.drewN k) fun e w' => e = .returned (.tuple #[]) ∧ YAt w' g mb (ownO S).2.2 ∧ Fr (fun k => k = g ∨ k = mb) w w' := fun k => by
        have F : Fr (fun _ => False) w (w.drewN k) := (Fr.refl _ _).drewN k
        refine (yopen_true g (ysOf mb S rg nx) S.L.length (mapL S.L) (nextS S) _ (h1.fr F id) (h3.fr F id) (by unfold maxLen; omega) ⟨by omega, by omega⟩ hn.1 ⟨by show (0 : Int) ≤ ((openS S true : Nat) : Int); omega, by show ((openS S true : Nat) : Int) ≤ 1024; omega⟩).mono ?_
        rintro e w' ⟨rfl, a1, a2, a3⟩
        exact ⟨rfl, yat_own h4 hf hx h2 a1 a2, (F.mono (fun _ _ e => e.elim)).trans a3⟩
      have HO : Hid (∀ k, Calls Try.prog 38 #[.pointer (some ⟨g, 0, none⟩), .int .i64 (nextS S)] (w.drewN k) fun e w' => e = .returned (.tuple #[]) ∧ YAt w' g mb (ownO S).2.2 ∧ Fr (fun k => k = g ∨ k = mb) w w') := KO
      clear KO
      have HE : Hid ((ownO S).1 = nextS S ∧ (ownO S).2.1 = 0) := by show _ ∧ _; rw [ownO_yes hf hx]; exact ⟨rfl, rfl⟩
      rw [HE.out.1, HE.out.2]
      rw [next_ol] at hx hn HO ⊢
      generalize openS S true = on at c3 hf ⊢
      have hx2 : ¬ 2147483645 < olY S := by omega
      have hx3 : 0 ≤ olY S + 2 := by omega
      clear h1 h2 h3 h4 HE hn
      go_enter Try.func16, Try.ntmps16
      go_wp2_with (go_at_call 37; refine K.mono ?_; clear K; rintro e w' ⟨rfl, rfl⟩)
      go_quiet (fail)
      go_wp2_with (go_at_call 38; refine (HO.out _).mono ?_; rintro e w2 ⟨rfl, a1, a2⟩)
      go_ret2
      exact ⟨rfl, a1, a2⟩
end Go.Proofs.Ytahlhkpabkplfaa
