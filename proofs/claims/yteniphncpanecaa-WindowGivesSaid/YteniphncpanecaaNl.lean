/- The walk of WindowGives. -/
import Derived.Test.YteniphncpanecaaNj
namespace Go.Proofs.Yteniphncpanecaa
open Go.RowKit
set_option linter.unusedVariables false
set_option maxRecDepth 100000
set_option maxHeartbeats 4000000

theorem give_none {z x : Int} (h : z - x = 0 ∨ 2 * (z - x) < z) : giveV z x 0 = 0 := by
  unfold giveV
  rw [if_pos (by omega)]
theorem give_all {z x : Int} (h : ¬ (z - x = 0 ∨ 2 * (z - x) < z)) : giveV z x 0 = z - x := by
  unfold giveV
  rw [if_neg (by omega)]
  omega
theorem wgives_walk (u : Nat) (hu : u ≤ 65535) (q : Option Addr) (c n : Nat) (L : List Nat) (w : World) (hI : U16s w q c L) (hl : L.length = n) : Calls Try.prog 8 #[.int .u16 (u : Int), .slice q n c] w fun e w' => e = .returned (.bool true) ∧ Below w.heap.size w w' := by
  have hz : sizB (u : Int) = true := by unfold sizB; apply decide_eq_true; omega
  obtain ⟨z, hzu⟩ : ∃ z : Int, z = (u : Int) := ⟨_, rfl⟩
  have hz6 : 0 ≤ z ∧ z ≤ 65535 := by omega
  rw [← hzu] at hz ⊢
  clear hzu hu
  have KN := cNew_yes z w hz
  have HZ : Hid (InvC z z 0) := invC_new hz
  have KA : Hid (∀ w, Calls Try.prog 18 #[] w fun e w' => e = .returned (.bool true) ∧ Fr (fun _ => False) w w') := fun w => wawake_in w
  have HI : Hid (U16s w q c L) := hI
  have HL : Hid (L.length = n) := hl
  have hnb : (n : Int) ≤ 70368744177664 := by have := hI.few; rw [hl] at this; have h2 : reachBytes < 2 ^ 47 := reach_lt; omega
  have hnc : n ≤ c := by have := hI.cap; rw [hl] at this; exact this
  obtain ⟨hz1, hz2⟩ := hz6
  clear hI hl hz
  go_enter Try.func8, Try.ntmps8
  go_upto_region 5 with (go_at_call 19; refine KN.mono ?_; clear KN; rintro e w1 ⟨g, hg, rfl, h1, f1⟩)
  have HS0 : Hid (OneC w w1 g z z 0) := ⟨h1, HZ.out, hg, f1.mono (fun _ _ e => e.elim)⟩
  clear hg h1 f1
  go_wp2_with (fail)
  go_loopw [8, 9, 10] (fun x8 x9 x10 wr => ∃ (i : Nat) (U G x : Int), x8 = .int .i64 U ∧ x9 = .int .i64 G ∧ x10 = .int .i64 (i : Int) ∧ i ≤ n ∧ Hid (0 ≤ G ∧ G ≤ U ∧ U ≤ 65535 * (i : Int) ∧ z - U + G = x ∧ OneC w wr g z x 0)) (fun _ _ x10 _ => n - (intOf x10).toNat)
  case atStart => exact ⟨0, 0, 0, z, rfl, rfl, rfl, by omega, by omega, by omega, by omega, by omega, HS0.out⟩
  case round =>
    clear HS0
    obtain ⟨i, U, G, x, rfl, rfl, rfl, hin, HS⟩ := hrel
    by_cases hlt : i < n
    · have hlt2 : (i : Int) < (n : Int) := by omega
      obtain ⟨d, hd⟩ : ∃ d, L[i]? = some d := ⟨L[i]'(by rw [HL.out]; exact hlt), List.getElem?_eq_getElem _⟩
      obtain ⟨gq, oq, rfl, hgq, d0, hdI⟩ := HI.out.cells i d hd
      obtain ⟨g0, gu, ub, hx, HC⟩ := HS.out
      have c0 : wr.cell? ⟨gq, oq + i, none⟩ = some (.int .u16 (d : Int)) := (HC.fr.cell (p := ⟨gq, oq + i, none⟩) hgq (by show ¬ _ ≤ gq; omega)).trans d0
      have hx0 := HC.inv.x0
      have hxz := HC.inv.sum
      have K1 := cGot_in g z x 0 (d : Int) wr HC.prog HC.inv
      have HO : Hid (OneC w wr g z x 0) := HC
      have b1 : -9223372036854775808 ≤ z - U := by omega
      have b2 : z - U ≤ 9223372036854775807 := by omega
      have b3 : -9223372036854775808 ≤ z - U + G := by omega
      have b4 : z - U + G ≤ 9223372036854775807 := by omega
      clear hd hgq d0 HC HS
      by_cases hk : (d : Int) ≤ x
      · have t1 : takeE x (d : Int) = 0 ∧ takeX x (d : Int) = x - (d : Int) := take_ok (by omega) (by omega)
        rw [t1.1, t1.2, show gotH x 0 (d : Int) = (d : Int) by unfold gotH; rw [t1.1, if_pos rfl]; omega] at K1
        have HJ : Hid (InvC z (x - (d : Int)) (d : Int)) := ⟨by omega, by omega, by omega, by have := HO.out.inv.top; exact this⟩
        clear t1
        go_upto_region 15 with (go_at_call 21; refine K1.mono ?_; clear K1; rintro e w2 ⟨rfl, p2, f2⟩)
        have H2 : Hid (OneC w w2 g z (x - (d : Int)) (d : Int)) := HO.out.step p2 f2 HJ.out
        clear p2 f2 c0
        have K2 := cUsed_in g z (x - (d : Int)) (d : Int) (d : Int) w2 H2.out.prog H2.out.inv
        rw [(used_all (show (0 : Int) ≤ (d : Int) by omega)).1, (used_all (show (0 : Int) ≤ (d : Int) by omega)).2] at K2
        obtain ⟨X, hX⟩ : ∃ X, x - (d : Int) = X := ⟨_, rfl⟩
        obtain ⟨V, hV⟩ : ∃ V, U + (d : Int) = V := ⟨_, rfl⟩
        have b5 : -9223372036854775808 ≤ U + (d : Int) := by omega
        have b6 : U + (d : Int) ≤ 9223372036854775807 := by omega
        have HJ2 : Hid (InvC z X 0) := ⟨by omega, by omega, by omega, by have := HO.out.inv.top; exact this⟩
        rw [hX] at K2 H2
        go_upto_region 18 with (go_at_call 23; refine K2.mono ?_; clear K2; rintro e w3 ⟨rfl, p3, f3⟩)
        have H3 : Hid (OneC w w3 g z X 0) := H2.out.step p3 f3 HJ2.out
        try rw [hV]
        have HX : Hid (0 ≤ G ∧ G ≤ V ∧ V ≤ 65535 * ((i + 1 : Nat) : Int) ∧ z - V + G = X) := by
          have hdI := hdI
          refine ⟨g0, ?_, ?_, ?_⟩ <;> omega
        clear p3 f3 H2 HJ HJ2 HO hX hV hk hx0 hxz b1 b2 b3 b4 b5 b6 g0 gu ub hx hdI
        obtain ⟨g0, gu, ub, hx⟩ := HX.out
        have K3 := cGive_in g z X 0 w3 H3.out.prog H3.out.inv
        have hx0 := H3.out.inv.x0
        have hxz := H3.out.inv.sum
        have b1 : -9223372036854775808 ≤ z - V := by omega
        have b2 : z - V ≤ 9223372036854775807 := by omega
        have b3 : -9223372036854775808 ≤ z - V + G := by omega
        have b4 : z - V + G ≤ 9223372036854775807 := by omega
        have b5 : -9223372036854775808 ≤ G := by omega
        have b6 : G ≤ 9223372036854775807 := by omega
        have b7 : -9223372036854775808 ≤ V - G := by omega
        have b8 : V - G ≤ 9223372036854775807 := by omega
        have b9 : -9223372036854775808 ≤ 2 * (V - G) := by omega
        have b10 : 2 * (V - G) ≤ 9223372036854775807 := by omega
        have hvg : z - X = V - G := by omega
        by_cases o0 : V - G = 0
        · rw [give_none (by omega), Int.add_zero] at K3
          have o1 : ¬ G < V := by omega
          clear hvg ub hx0 hxz
          go_upto_region 20 with (go_at_call 25; refine K3.mono ?_; clear K3; rintro e w4 ⟨rfl, p4, f4⟩)
          have H4 : Hid (OneC w w4 g z X 0) := H3.out.step p4 f4 H3.out.inv
          have KS := cSize_in g z X 0 w4 p4
          clear p4 f4 H3
          go_wp2_with (go_at_call 27; refine KS.mono ?_; rintro e w' ⟨rfl, rfl⟩)
          all_goals (go_roundw; (case rel => exact ⟨i + 1, V, G, X, rfl, rfl, by go_num, by omega, HX.out.1, HX.out.2.1, HX.out.2.2.1, HX.out.2.2.2, H4.out⟩); (case measure => simp [intOf]; omega))
        by_cases o2 : 2 * (V - G) < z
        · rw [give_none (by omega), Int.add_zero] at K3
          clear hvg ub hx0 hxz
          go_upto_region 20 with (go_at_call 25; refine K3.mono ?_; clear K3; rintro e w4 ⟨rfl, p4, f4⟩)
          have H4 : Hid (OneC w w4 g z X 0) := H3.out.step p4 f4 H3.out.inv
          have KS := cSize_in g z X 0 w4 p4
          clear p4 f4 H3
          go_wp2_with (go_at_call 27; refine KS.mono ?_; rintro e w' ⟨rfl, rfl⟩)
          all_goals (go_roundw; (case rel => exact ⟨i + 1, V, G, X, rfl, rfl, by go_num, by omega, HX.out.1, HX.out.2.1, HX.out.2.2.1, HX.out.2.2.2, H4.out⟩); (case measure => simp [intOf]; omega))
        · obtain ⟨v, hv⟩ : ∃ v, z - X = v := ⟨_, rfl⟩
          rw [give_all (by omega), hv, show X + v = z by omega] at K3
          have v0 : 0 < v := by omega
          have v1 : ¬ 2 * v < z := by omega
          have v2 : G + v = V := by omega
          have v3 : -9223372036854775808 ≤ 2 * v := by omega
          have v4 : 2 * v ≤ 9223372036854775807 := by omega
          have v5 : -9223372036854775808 ≤ V ∧ V ≤ 9223372036854775807 := by omega
          obtain ⟨v5, v6⟩ := v5
          have v7 : z - V + V = z := by omega
          have HI4 : Hid (InvC z z 0) := HZ.out
          clear hv hvg ub hx0 hxz hx b7 b8 b9 b10 o0 o2 g0 gu
          go_upto_region 20 with (go_at_call 25; refine K3.mono ?_; clear K3; rintro e w4 ⟨rfl, p4, f4⟩)
          have H4 : Hid (OneC w w4 g z z 0) := H3.out.step p4 f4 HI4.out
          have KS := cSize_in g z z 0 w4 p4
          clear p4 f4 H3
          go_wp2_with (go_at_call 27; refine KS.mono ?_; rintro e w' ⟨rfl, rfl⟩)
          go_roundw
          case rel => exact ⟨i + 1, V, V, z, rfl, rfl, by go_num, by omega, by have := HX.out; omega, by omega, HX.out.2.2.1, by omega, H4.out⟩
          case measure => simp [intOf]; omega
      · have t1 : takeE x (d : Int) = 110 ∧ takeX x (d : Int) = x := take_win (by omega) (by omega)
        rw [t1.1, t1.2, show gotH x 0 (d : Int) = 0 by unfold gotH; rw [t1.1]; rfl] at K1
        clear t1
        go_upto_region 18 with (go_at_call 21; refine K1.mono ?_; clear K1; rintro e w3 ⟨rfl, p3, f3⟩)
        obtain ⟨X, hX⟩ : ∃ X, x = X := ⟨_, rfl⟩
        obtain ⟨V, hV⟩ : ∃ V, U = V := ⟨_, rfl⟩
        have H3 : Hid (OneC w w3 g z X 0) := by rw [← hX]; exact HO.out.step p3 f3 HO.out.inv
        have HX : Hid (0 ≤ G ∧ G ≤ V ∧ V ≤ 65535 * ((i + 1 : Nat) : Int) ∧ z - V + G = X) := by
          refine ⟨g0, ?_, ?_, ?_⟩ <;> omega
        subst hV
        clear p3 f3 HO hX hk hx0 hxz b1 b2 b3 b4 g0 gu ub hx hdI c0
        obtain ⟨g0, gu, ub, hx⟩ := HX.out
        have K3 := cGive_in g z X 0 w3 H3.out.prog H3.out.inv
        have hx0 := H3.out.inv.x0
        have hxz := H3.out.inv.sum
        have b1 : -9223372036854775808 ≤ z - U := by omega
        have b2 : z - U ≤ 9223372036854775807 := by omega
        have b3 : -9223372036854775808 ≤ z - U + G := by omega
        have b4 : z - U + G ≤ 9223372036854775807 := by omega
        have b5 : -9223372036854775808 ≤ G := by omega
        have b6 : G ≤ 9223372036854775807 := by omega
        have b7 : -9223372036854775808 ≤ U - G := by omega
        have b8 : U - G ≤ 9223372036854775807 := by omega
        have b9 : -9223372036854775808 ≤ 2 * (U - G) := by omega
        have b10 : 2 * (U - G) ≤ 9223372036854775807 := by omega
        have hvg : z - X = U - G := by omega
        by_cases o0 : U - G = 0
        · rw [give_none (by omega), Int.add_zero] at K3
          have o1 : ¬ G < U := by omega
          clear hvg ub hx0 hxz
          go_upto_region 20 with (go_at_call 25; refine K3.mono ?_; clear K3; rintro e w4 ⟨rfl, p4, f4⟩)
          have H4 : Hid (OneC w w4 g z X 0) := H3.out.step p4 f4 H3.out.inv
          have KS := cSize_in g z X 0 w4 p4
          clear p4 f4 H3
          go_wp2_with (go_at_call 27; refine KS.mono ?_; rintro e w' ⟨rfl, rfl⟩)
          all_goals (go_roundw; (case rel => exact ⟨i + 1, U, G, X, rfl, rfl, by go_num, by omega, HX.out.1, HX.out.2.1, HX.out.2.2.1, HX.out.2.2.2, H4.out⟩); (case measure => simp [intOf]; omega))
        by_cases o2 : 2 * (U - G) < z
        · rw [give_none (by omega), Int.add_zero] at K3
          clear hvg ub hx0 hxz
          go_upto_region 20 with (go_at_call 25; refine K3.mono ?_; clear K3; rintro e w4 ⟨rfl, p4, f4⟩)
          have H4 : Hid (OneC w w4 g z X 0) := H3.out.step p4 f4 H3.out.inv
          have KS := cSize_in g z X 0 w4 p4
          clear p4 f4 H3
          go_wp2_with (go_at_call 27; refine KS.mono ?_; rintro e w' ⟨rfl, rfl⟩)
          all_goals (go_roundw; (case rel => exact ⟨i + 1, U, G, X, rfl, rfl, by go_num, by omega, HX.out.1, HX.out.2.1, HX.out.2.2.1, HX.out.2.2.2, H4.out⟩); (case measure => simp [intOf]; omega))
        · obtain ⟨v, hv⟩ : ∃ v, z - X = v := ⟨_, rfl⟩
          rw [give_all (by omega), hv, show X + v = z by omega] at K3
          have v0 : 0 < v := by omega
          have v1 : ¬ 2 * v < z := by omega
          have v2 : G + v = U := by omega
          have v3 : -9223372036854775808 ≤ 2 * v := by omega
          have v4 : 2 * v ≤ 9223372036854775807 := by omega
          have v5 : -9223372036854775808 ≤ U ∧ U ≤ 9223372036854775807 := by omega
          obtain ⟨v5, v6⟩ := v5
          have v7 : z - U + U = z := by omega
          have HI4 : Hid (InvC z z 0) := HZ.out
          clear hv hvg ub hx0 hxz hx b7 b8 b9 b10 o0 o2 g0 gu
          go_upto_region 20 with (go_at_call 25; refine K3.mono ?_; clear K3; rintro e w4 ⟨rfl, p4, f4⟩)
          have H4 : Hid (OneC w w4 g z z 0) := H3.out.step p4 f4 HI4.out
          have KS := cSize_in g z z 0 w4 p4
          clear p4 f4 H3
          go_wp2_with (go_at_call 27; refine KS.mono ?_; rintro e w' ⟨rfl, rfl⟩)
          go_roundw
          case rel => exact ⟨i + 1, U, U, z, rfl, rfl, by go_num, by omega, by have := HX.out; omega, by omega, HX.out.2.2.1, by omega, H4.out⟩
          case measure => simp [intOf]; omega
    · have hlt2 : ¬ (i : Int) < (n : Int) := by omega
      obtain ⟨-, -, -, -, HC⟩ := HS.out
      have K1 := cHeld_in g z x 0 wr HC.prog
      go_wp2_with (first | (go_at_call 28; refine K1.mono ?_; clear K1; rintro e w' ⟨rfl, rfl⟩) | (go_at_call 18; refine (KA.out _).mono ?_; rintro e w6 ⟨rfl, f6⟩))
      go_ret
      exact ⟨rfl, (HC.fr.trans (f6.mono (fun _ _ e => e.elim))).below (fun k hk e => by omega)⟩
end Go.Proofs.Yteniphncpanecaa
