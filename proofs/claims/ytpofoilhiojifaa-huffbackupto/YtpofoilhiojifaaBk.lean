/- The walk of HuffBack. -/
import Derived.Test.YtpofoilhiojifaaH1
import Derived.Test.YtpofoilhiojifaaK4b
import Derived.Deep.RegionHeldLaw
namespace Go.Proofs.Ytpofoilhiojifaa.huffBack
open Go.RowKit
set_option maxRecDepth 100000
set_option maxHeartbeats 4000000
set_option linter.unusedVariables false

theorem walk (a0 : Option Addr) (len0 cap0 : Nat) (a1 : Option Addr) (len1 cap1 : Nat) (X Z : List UInt8) (w : World) (h0 : SrcAt w a0 X) (hl0 : X.length = len0) (hb0 : len0 ≤ 1048576) (h1 : SrcAt w a1 Z) (hl1 : Z.length = len1) (hb1 : len1 ≤ 1048576) :
    Calls Try.prog 3 #[.slice a0 len0 cap0, .slice a1 len1 cap1] w fun e w' => e = .returned (.bool true) ∧ Below w.heap.size w w' := by
  have K1 : Hid (Calls Try.prog 6 #[.slice a0 len0 cap0] w fun e w' => ∃ v, e = .returned v ∧ Gath w w' v (encOut X)) := encode_any a0 len0 cap0 w X h0 hl0 (by omega)
  have HEL : Hid ((encOut X).length ≤ 1099511627776) := by
    show _ ≤ _
    rw [encOut_len]
    have := (sumBits_le X).2
    omega
  have HS0 : Hid (SrcAt w a0 X) := h0
  have HS1 : Hid (SrcAt w a1 Z) := h1
  have HL0 : Hid (X.length = len0) := hl0
  have HL1 : Hid (Z.length = len1) := hl1
  clear h0 h1 hl0 hl1
  go_enter Try.func3, Try.ntmps3
  go_wp2_with (fail)
  refine K1.out.mono ?_
  rintro e w1 ⟨v1, rfl, g1⟩
  have HG1 : Hid (Gath w w1 v1 (encOut X)) := g1
  clear g1 K1
  go_wp2_with (fail)
  refine (decode_own HG1.out HEL.out).mono ?_
  rw [back1]
  rintro e w2 ⟨v2, rfl, g2⟩
  have HF2 : Hid (Fr (fun _ => False) w w2) := HG1.out.2.2.trans g2.2.2
  have s1 := g2.str
  have s2 := SrcAt.str (HS0.out.oldF HF2.out) HL0.out cap0
  clear g2 HG1
  go_wp2_with (fail)
  refine (decode_any a1 len1 cap1 w2 Z (HS1.out.oldF HF2.out) HL1.out (by omega)).mono ?_
  clear s1 s2
  rintro e w3 h3
  cases hd : dec [] (stream Z) 0 with
  | inl Y =>
    rw [hd] at h3
    obtain ⟨v3, rfl, g3⟩ := h3
    obtain ⟨he, hY⟩ := back2 Z Y hd
    have HG3 : Hid (Gath w2 w3 v3 Y) := g3
    have HF3 : Hid (Fr (fun _ => False) w w3) := HF2.out.trans g3.2.2
    have K4 : Hid (∀ n, Calls Try.prog 6 #[v3] (w3.drewN n) fun e w' => ∃ v4, e = .returned v4 ∧ (convert 22 9 v4).run Try.prog w' = .ok (.string ⟨Z.toArray⟩) w' ∧ (convert 22 9 (.slice a1 len1 cap1)).run Try.prog w' = .ok (.string ⟨Z.toArray⟩) w' ∧ Hid (Fr (fun _ => False) w w')) := by
      intro n
      have g3' := HG3.out.fr ((Fr.refl _ w3).drewN n)
      refine (encode_own g3' (by have := HL1.out; omega)).mono ?_
      rintro e w' ⟨v4, rfl, g4⟩
      rw [he] at g4
      have hf : Fr (fun _ => False) w w' := (HF3.out.drewN n).trans g4.2.2
      exact ⟨v4, rfl, g4.str, SrcAt.str (HS1.out.oldF hf) HL1.out cap1, hf⟩
    have K4' : Hid (Calls Try.prog 6 #[v3] w3.drew fun e w' => ∃ v4, e = .returned v4 ∧ (convert 22 9 v4).run Try.prog w' = .ok (.string ⟨Z.toArray⟩) w' ∧ (convert 22 9 (.slice a1 len1 cap1)).run Try.prog w' = .ok (.string ⟨Z.toArray⟩) w' ∧ Hid (Fr (fun _ => False) w w')) := K4.out 1
    have t3 : (convert 22 9 (.slice a1 len1 cap1)).run Try.prog w3 = .ok (.string ⟨Z.toArray⟩) w3 := SrcAt.str (HS1.out.oldF HF3.out) HL1.out cap1
    have t3' : (convert 22 9 (.slice a1 len1 cap1)).run Try.prog w3.drew = .ok (.string ⟨Z.toArray⟩) w3.drew := SrcAt.str ((HS1.out.oldF HF3.out).oldF ((Fr.refl _ _).drew)) HL1.out cap1
    clear g3 hd he hY
    go_wp2_with (fail)
    go_region_held_law (fun _ => True) (trivial) (first | (go_at_call 6; refine K4'.out.mono ?_; rintro e w4 ⟨v4, rfl, c4, c4', hf4⟩) | (go_at_call 7; refine (awake_any _).mono ?_; rintro e w5 ⟨rfl, hf5⟩))
    all_goals
      have HF5 : Hid (Fr (fun _ => False) w w5) := hf4.out.trans hf5
      clear hf5
      go_wp2_with (fail)
      go_ret
      exact ⟨rfl, HF5.out.below (fun _ _ => id)⟩
  | inr oo =>
    cases oo with
    | none =>
      rw [hd] at h3
      obtain ⟨rfl, hf3⟩ := h3
      have HF3 : Hid (Fr (fun _ => False) w w3) := HF2.out.trans hf3
      clear hf3 hd
      go_wp2_with (fail)
      refine wp_region_held_drew (S := fun _ => True) (by kernel_rfl) trivial (fun hHeld => ?_)
      refine wpAnyH_take (i := 0) (oi := _) (v := (.int .i64 30)) rfl (by kernel_rfl) (by kernel_rfl) (by kernel_rfl) (fun _ _ _ h => h) (Or.inl ⟨by kernel_rfl, fun w _ => by go_simp⟩) trivial ?_
      refine wpAnyH_take (i := 1) (oi := _) (v := (.bool true)) rfl (by kernel_rfl) (by kernel_rfl) (by kernel_rfl) (fun _ _ _ h => h) (Or.inl ⟨by kernel_rfl, fun w _ => by go_simp⟩) trivial ?_
      refine wpAnyH_take (i := 2) (oi := _) (v := (.bool true)) rfl (by kernel_rfl) (by kernel_rfl) (by kernel_rfl) (fun _ _ _ h => h) (Or.inl ⟨by kernel_rfl, fun w _ => by go_simp⟩) trivial ?_
      refine wpAnyH_take (i := 3) (oi := _) (v := undef) rfl (by kernel_rfl) (by kernel_rfl) (by kernel_rfl) (fun _ _ _ h => h) (Or.inr ⟨by kernel_rfl, rfl⟩) trivial ?_
      refine wpAnyH_take (i := 4) (oi := _) (v := undef) rfl (by kernel_rfl) (by kernel_rfl) (by kernel_rfl) (fun _ _ _ h => h) (Or.inr ⟨by kernel_rfl, rfl⟩) trivial ?_
      refine wpAnyH_take (i := 5) (oi := _) (v := undef) rfl (by kernel_rfl) (by kernel_rfl) (by kernel_rfl) (fun _ _ _ h => h) (Or.inr ⟨by kernel_rfl, rfl⟩) trivial ?_
      refine wpAnyH_take (i := 6) (oi := _) (v := undef) rfl (by kernel_rfl) (by kernel_rfl) (by kernel_rfl) (fun _ _ _ h => h) (Or.inr ⟨by kernel_rfl, rfl⟩) trivial ?_
      refine wpAnyH_take (i := 7) (oi := _) (v := undef) rfl (by kernel_rfl) (by kernel_rfl) (by kernel_rfl) (fun _ _ _ h => h) (Or.inr ⟨by kernel_rfl, rfl⟩) trivial ?_
      refine wpAnyH_take (i := 8) (oi := _) (v := undef) rfl (by kernel_rfl) (by kernel_rfl) (by kernel_rfl) (fun _ _ _ h => h) (Or.inr ⟨by kernel_rfl, rfl⟩) trivial ?_
      refine wpAnyH_take (i := 9) (oi := _) (v := (.bool true)) rfl (by kernel_rfl) (by kernel_rfl) (by kernel_rfl) (fun _ _ _ h => h) (Or.inl ⟨by kernel_rfl, fun w _ => by go_simp⟩) trivial ?_
      refine wpAnyH_take (i := 10) (oi := _) (v := (.bool true)) rfl (by kernel_rfl) (by kernel_rfl) (by kernel_rfl) (fun _ _ _ h => h) (Or.inl ⟨by kernel_rfl, fun w _ => by go_simp⟩) trivial ?_
      refine wpAnyH_ready (rs := [11]) (by kernel_rfl) (by simp) ?_
      refine AllReadyH.cons rfl (fun K hK => ?_) AllReadyH.nil
      go_simp
      go_wp2_with (fail)
      refine (awake_any _).mono ?_
      rintro e w5 ⟨rfl, hf5⟩
      refine hK.out _ _ trivial (fun hHeld2 => ?_)
      refine wpAnyH_take (i := 12) (oi := _) (v := (.bool true)) rfl (by kernel_rfl) (by kernel_rfl) (by kernel_rfl) (fun _ _ _ h => h) (Or.inl ⟨by kernel_rfl, fun w _ => by go_simp⟩) trivial ?_
      refine wpAnyH_take (i := 13) (oi := _) (v := (.bool true)) rfl (by kernel_rfl) (by kernel_rfl) (by kernel_rfl) (fun _ _ _ h => h) (Or.inl ⟨by kernel_rfl, fun w _ => by go_simp⟩) trivial ?_
      refine wpAnyH_done (by kernel_rfl) ?_ _
      have HF5 : Hid (Fr (fun _ => False) w w5) := (HF3.out.drew).trans hf5
      clear hf5 hK K hHeld hHeld2
      go_wp2_with (fail)
      go_ret
      exact ⟨rfl, HF5.out.below (fun _ _ => id)⟩
    | some m =>
      rw [hd] at h3
      obtain ⟨rfl, hf3⟩ := h3
      have HF3 : Hid (Fr (fun _ => False) w w3) := HF2.out.trans hf3
      clear hf3 hd
      go_wp2_with (fail)
      refine wp_region_held_drew (S := fun _ => True) (by kernel_rfl) trivial (fun hHeld => ?_)
      refine wpAnyH_take (i := 0) (oi := _) (v := (.int .i64 31)) rfl (by kernel_rfl) (by kernel_rfl) (by kernel_rfl) (fun _ _ _ h => h) (Or.inl ⟨by kernel_rfl, fun w _ => by go_simp⟩) trivial ?_
      refine wpAnyH_take (i := 1) (oi := _) (v := (.bool true)) rfl (by kernel_rfl) (by kernel_rfl) (by kernel_rfl) (fun _ _ _ h => h) (Or.inl ⟨by kernel_rfl, fun w _ => by go_simp⟩) trivial ?_
      refine wpAnyH_take (i := 2) (oi := _) (v := (.bool true)) rfl (by kernel_rfl) (by kernel_rfl) (by kernel_rfl) (fun _ _ _ h => h) (Or.inl ⟨by kernel_rfl, fun w _ => by go_simp⟩) trivial ?_
      refine wpAnyH_take (i := 3) (oi := _) (v := undef) rfl (by kernel_rfl) (by kernel_rfl) (by kernel_rfl) (fun _ _ _ h => h) (Or.inr ⟨by kernel_rfl, rfl⟩) trivial ?_
      refine wpAnyH_take (i := 4) (oi := _) (v := undef) rfl (by kernel_rfl) (by kernel_rfl) (by kernel_rfl) (fun _ _ _ h => h) (Or.inr ⟨by kernel_rfl, rfl⟩) trivial ?_
      refine wpAnyH_take (i := 5) (oi := _) (v := undef) rfl (by kernel_rfl) (by kernel_rfl) (by kernel_rfl) (fun _ _ _ h => h) (Or.inr ⟨by kernel_rfl, rfl⟩) trivial ?_
      refine wpAnyH_take (i := 6) (oi := _) (v := undef) rfl (by kernel_rfl) (by kernel_rfl) (by kernel_rfl) (fun _ _ _ h => h) (Or.inr ⟨by kernel_rfl, rfl⟩) trivial ?_
      refine wpAnyH_take (i := 7) (oi := _) (v := undef) rfl (by kernel_rfl) (by kernel_rfl) (by kernel_rfl) (fun _ _ _ h => h) (Or.inr ⟨by kernel_rfl, rfl⟩) trivial ?_
      refine wpAnyH_take (i := 8) (oi := _) (v := undef) rfl (by kernel_rfl) (by kernel_rfl) (by kernel_rfl) (fun _ _ _ h => h) (Or.inr ⟨by kernel_rfl, rfl⟩) trivial ?_
      refine wpAnyH_take (i := 9) (oi := _) (v := (.bool true)) rfl (by kernel_rfl) (by kernel_rfl) (by kernel_rfl) (fun _ _ _ h => h) (Or.inl ⟨by kernel_rfl, fun w _ => by go_simp⟩) trivial ?_
      refine wpAnyH_take (i := 10) (oi := _) (v := (.bool true)) rfl (by kernel_rfl) (by kernel_rfl) (by kernel_rfl) (fun _ _ _ h => h) (Or.inl ⟨by kernel_rfl, fun w _ => by go_simp⟩) trivial ?_
      refine wpAnyH_ready (rs := [11]) (by kernel_rfl) (by simp) ?_
      refine AllReadyH.cons rfl (fun K hK => ?_) AllReadyH.nil
      go_simp
      go_wp2_with (fail)
      refine (awake_any _).mono ?_
      rintro e w5 ⟨rfl, hf5⟩
      refine hK.out _ _ trivial (fun hHeld2 => ?_)
      refine wpAnyH_take (i := 12) (oi := _) (v := (.bool true)) rfl (by kernel_rfl) (by kernel_rfl) (by kernel_rfl) (fun _ _ _ h => h) (Or.inl ⟨by kernel_rfl, fun w _ => by go_simp⟩) trivial ?_
      refine wpAnyH_take (i := 13) (oi := _) (v := (.bool true)) rfl (by kernel_rfl) (by kernel_rfl) (by kernel_rfl) (fun _ _ _ h => h) (Or.inl ⟨by kernel_rfl, fun w _ => by go_simp⟩) trivial ?_
      refine wpAnyH_done (by kernel_rfl) ?_ _
      have HF5 : Hid (Fr (fun _ => False) w w5) := (HF3.out.drew).trans hf5
      clear hf5 hK K hHeld hHeld2
      go_wp2_with (fail)
      go_ret
      exact ⟨rfl, HF5.out.below (fun _ _ => id)⟩


end Go.Proofs.Ytpofoilhiojifaa.huffBack
