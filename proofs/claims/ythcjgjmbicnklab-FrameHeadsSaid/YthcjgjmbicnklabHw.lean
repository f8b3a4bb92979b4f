/- The walk of FrameHeads. -/
import Derived.Test.YthcjgjmbicnklabHd
import Derived.Test.YthcjgjmbicnklabFb
namespace Go.Proofs.Ythcjgjmbicnklab
open Go.RowKit
set_option linter.unusedVariables false
set_option maxRecDepth 100000
set_option maxHeartbeats 4000000

theorem rKnown_in (k : Int) (w : World) : Calls Try.prog 7 #[.int .i64 k] w fun e w' => e = .returned (.bool (knownB k)) ∧ w = w' := by
  by_cases h0 : 0 ≤ k
  · by_cases h1 : k ≤ 9
    · have hd : knownB k = true := by simp [knownB]; omega
      go_enter Try.func7, Try.ntmps7
      go_wp2
      go_ret
      exact ⟨by first | rfl | (rw [hd]; rfl), rfl⟩
    · have hd : knownB k = false := by simp [knownB]; omega
      go_enter Try.func7, Try.ntmps7
      go_wp2
      go_ret
      exact ⟨by first | rfl | (rw [hd]; rfl), rfl⟩
  · have hd : knownB k = false := by simp [knownB]; omega
    go_enter Try.func7, Try.ntmps7
    go_wp2
    go_ret
    exact ⟨by first | rfl | (rw [hd]; rfl), rfl⟩

theorem heads_walk (q : Option Addr) (c : Nat) (X : List UInt8) (k : Int) (w : World) (hX : SrcAt w q X) (hn : X.length < 2 ^ 47) :
    Calls Try.prog 3 #[.slice q X.length c, .int .i64 k] w fun e w' => e = .returned (.bool true) ∧ Below w.heap.size w w' := by
  obtain ⟨n, hl⟩ : ∃ n, X.length = n := ⟨_, rfl⟩
  have K1 : Hid (∀ a cap w', SrcAt w' a X → Calls Try.prog 4 #[.slice a n cap] w' fun e w2 => HeadAs (headO X) e ∧ Fr (fun _ => False) w' w2) := fun a cap w' h => Head_in a n cap w' X h hl (by omega)
  have K2 : Hid (∀ a cap w', SrcAt w' a X → Calls Try.prog 5 #[.slice a n cap] w' fun e w2 => HeadAs (headO X) e ∧ Fr (fun _ => False) w' w2) := fun a cap w' h => rHead_in a n cap w' X h hl (by omega)
  obtain ⟨o1, o2, o3, o4, o5, ho⟩ : ∃ o1 o2 o3 o4 o5, headO X = (o1, o2, o3, o4, o5) := ⟨_, _, _, _, _, rfl⟩
  rw [ho] at K1 K2
  have HX : Hid (SrcAt w q X) := hX
  have HL : Hid (X.length = n) := hl
  rw [hl]
  rw [hl] at hn
  have HN : Hid (n < 2 ^ 47) := hn
  have KK : Hid (∀ w, Calls Try.prog 6 #[.int .i64 k] w fun e w' => e = .returned (.bool (knownB k)) ∧ w = w') := fun w => Known_in k w
  have KR : Hid (∀ w, Calls Try.prog 7 #[.int .i64 k] w fun e w' => e = .returned (.bool (knownB k)) ∧ w = w') := fun w => rKnown_in k w
  obtain ⟨b, hb⟩ : ∃ b, knownB k = b := ⟨_, rfl⟩
  rw [hb] at KK KR
  obtain ⟨j, J1, J2, J3, J4⟩ := info5
  have J1 : Hid _ := J1
  have J2 : Hid _ := J2
  have J3 : Hid _ := J3
  have J4 : Hid _ := J4
  clear ho hX hl hb hn
  go_enter Try.func3, Try.ntmps3
  go_wp2_with (refine wpList_gather (w0 := w) rfl (.tmp 16) (.tmp 17) 22 22 rfl j Try.underlying22 Try.underlying22 J1.out J2.out J3.out J4.out (.slice (some ⟨w.heap.size, 0, none⟩) 0 0) [] (by go_simp) (Gath.start (Fr.refl _ _)) q n c (by go_simp) X (HX.out.oldF ((Fr.refl _ _).alloc _)) HL.out (by have := HN.out; simp; omega) ?_; intro a1 n1 c1 w1 Hn1 G1 F1)
  obtain rfl : n1 = n := by rw [Hn1.out]; simp
  refine (K1.out _ _ _ (own_src G1.1)).mono ?_
  rintro e w2 ⟨rfl, hf2⟩
  have F2 : Hid (Fr (fun _ => False) w w2) := G1.2.2.trans hf2
  dsimp only
  go_wp2_with (fail)
  refine (K2.out _ _ _ (HX.out.oldF F2.out)).mono ?_
  rintro e w3 ⟨rfl, hf3⟩
  have F3 : Hid (Fr (fun _ => False) w w3) := F2.out.trans hf3
  dsimp only
  go_wp2_with (fail)
  refine (KK.out _).mono ?_
  rintro e w4 ⟨rfl, rfl⟩
  go_wp2_with (fail)
  refine (KR.out _).mono ?_
  rintro e w4 ⟨rfl, rfl⟩
  cases b
  all_goals
    go_wp2_with (fail)
    refine (fawake_in _).mono ?_
    rintro e w4 ⟨rfl, rfl⟩
    go_wp2
    go_ret
    exact ⟨rfl, F3.out.below (fun _ _ => id)⟩
end Go.Proofs.Ythcjgjmbicnklab
