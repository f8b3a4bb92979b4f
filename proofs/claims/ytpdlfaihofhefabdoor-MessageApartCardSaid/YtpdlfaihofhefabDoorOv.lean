/- Trailers of both; that no list is two of the three. -/
import Derived.Test.YtpdlfaihofhefabDoorOq
import Derived.Test.YtpdlfaihofhefabDoorOr
namespace Go.Proofs.YtpdlfaihofhefabDoor
open Go.RowKit Go.Maps
set_option linter.unusedVariables false
set_option maxRecDepth 100000
set_option maxHeartbeats 8000000

theorem Trailers_in (q : Option Addr) (c : Nat) (l : List Hd) (w : World) (hl : HL w q c l) :
    Calls Tryd.prog 6 #[.slice q l.length c] w fun e w' => e = .returned (.int .i64 (trailersO l)) ∧ Fr (fun _ => False) w w' := by
  have KL : Calls Tryd.prog 13 #[.slice q l.length c, .slice none 0 0] w fun e w' => LookAs w [] l e w' := look_in q none c 0 l [] w hl (strs_nil w)
  have KL2 : Calls Tryd.prog 13 #[.slice q l.length c, .slice none 0 0] w fun e w' => (∃ m, e = .returned (.tuple #[m, .int .i64 (trailersO l)])) ∧ Fr (fun _ => False) w w' := KL.mono fun e w' h => by
    obtain ⟨h1, h2 | ⟨h2, b, n, h3, _⟩⟩ := h
    · exact ⟨⟨_, h2.2⟩, h1⟩
    · exact ⟨⟨_, by rw [h3]; unfold trailersO; rw [h2]⟩, h1⟩
  generalize trailersO l = V at KL2 ⊢
  generalize l.length = len at KL2 ⊢
  clear KL hl
  go_enter Tryd.func6, Tryd.ntmps6
  go_wp2_with (fail)
  refine KL2.mono ?_
  rintro e w1 ⟨⟨m, rfl⟩, f1⟩
  go_wp2_with (fail)
  go_ret
  exact ⟨rfl, f1⟩
theorem rTrailers_in (q : Option Addr) (c : Nat) (l : List Hd) (w : World) (hl : HL w q c l) :
    Calls Tryd.prog 7 #[.slice q l.length c] w fun e w' => e = .returned (.int .i64 (trailersO l)) ∧ Fr (fun _ => False) w w' := by
  have KL : Calls Tryd.prog 14 #[.slice q l.length c, .slice none 0 0] w fun e w' => e = .returned (.int .i64 (trailersO l)) ∧ Fr (fun _ => False) w w' := each_in q none c 0 l [] w hl (strs_nil w)
  generalize trailersO l = V at KL ⊢
  generalize l.length = len at KL ⊢
  clear hl
  go_enter Tryd.func7, Tryd.ntmps7
  go_wp2_with (fail)
  refine KL.mono ?_
  rintro e w1 ⟨rfl, f1⟩
  go_wp2_with (fail)
  go_ret
  exact ⟨rfl, f1⟩
theorem trailers_walk (q : Option Addr) (c : Nat) (l : List Hd) (w : World) (hl : HL w q c l) :
    Calls Tryd.prog 3 #[.slice q l.length c] w fun e w' => e = .returned (.bool true) ∧ Below w.heap.size w w' := by
  have K1 := Trailers_in q c l w hl
  have K2 : Hid (∀ W, Fr (fun _ => False) w W → Calls Tryd.prog 7 #[.slice q l.length c] W fun e w' => e = .returned (.int .i64 (trailersO l)) ∧ Fr (fun _ => False) W w') := fun W f => rTrailers_in q c l W (hl.fr f)
  have K3 : Hid (∀ W, Calls Tryd.prog 8 #[] W fun e w' => e = .returned (.bool true) ∧ Fr (fun _ => False) W w') := fun W => mawake_in W
  generalize trailersO l = n at K1 K2
  clear hl
  go_enter Tryd.func3, Tryd.ntmps3
  go_wp2_with (fail)
  refine K1.mono ?_
  rintro e w1 ⟨rfl, f1⟩
  go_wp2_with (fail)
  refine (K2.out _ f1).mono ?_
  rintro e w2 ⟨rfl, f2⟩
  go_wp2_with (fail)
  refine (K3.out _).mono ?_
  rintro e w3 ⟨rfl, f3⟩
  go_wp2_with (fail)
  go_ret
  exact ⟨rfl, ((f1.trans f2).trans f3).below (fun _ _ h => h)⟩
theorem apart_walk (q : Option Addr) (c : Nat) (l : List Hd) (w : World) (hl : HL w q c l) (hE : ErrAt w) :
    Calls Tryd.prog 4 #[.slice q l.length c] w fun e w' => e = .returned (.bool true) ∧ Below w.heap.size w w' := by
  have K1 := Request_in q c l w hl hE
  have K2 : Hid (∀ W, Fr (fun _ => False) w W → Calls Tryd.prog 10 #[.slice q l.length c] W fun e w' => e = .returned (.tuple #[.int .i64 (((responseO l).1 : Nat) : Int), .int .i64 (responseO l).2]) ∧ Fr (fun _ => False) W w') := fun W f => Response_in q c l W (hl.fr f) (hE.fr f)
  have K3 : Hid (∀ W, Fr (fun _ => False) w W → Calls Tryd.prog 6 #[.slice q l.length c] W fun e w' => e = .returned (.int .i64 (trailersO l)) ∧ Fr (fun _ => False) W w') := fun W f => Trailers_in q c l W (hl.fr f)
  have K4 : Hid (∀ W, Calls Tryd.prog 8 #[] W fun e w' => e = .returned (.bool true) ∧ Fr (fun _ => False) W w') := fun W => mawake_in W
  obtain ⟨h12, h13, h23⟩ := one_of_three l
  have hst : (responseO l).2 = 0 → 100 ≤ (responseO l).1 ∧ (responseO l).1 ≤ 599 := fun h => (response_status h).2.2
  generalize requestO l = A at K1 h12 h13
  generalize trailersO l = C at K3 h13 h23
  generalize (responseO l).2 = B at K2 h12 h23 hst
  generalize (responseO l).1 = N at K2 hst
  generalize l.length = len at K1 K2 K3 ⊢
  clear hl hE
  by_cases hA : A = 0
  · have hB : ¬ B = 0 := fun h => h12 ⟨hA, h⟩
    have hC : ¬ C = 0 := fun h => h13 ⟨hA, h⟩
    have eB : (B == 0) = false := beq_eq_false_iff_ne.2 hB
    have nB : (B != 0) = true := by unfold bne; rw [eB]; rfl
    have eC : (C == 0) = false := beq_eq_false_iff_ne.2 hC
    have nC : (C != 0) = true := by unfold bne; rw [eC]; rfl
    clear h12 h13 h23 hst hB hC
    subst hA
    go_enter Tryd.func4, Tryd.ntmps4
    go_wp2_with (fail)
    refine K1.mono ?_
    rintro e w1 ⟨rfl, f1⟩
    go_wp2_with (fail)
    refine (K2.out _ f1).mono ?_
    rintro e w2 ⟨rfl, f2⟩
    go_wp2_with (fail)
    refine (K3.out _ (f1.trans f2)).mono ?_
    rintro e w3 ⟨rfl, f3⟩
    go_wp2_with (fail)
    refine (K4.out _).mono ?_
    rintro e w4 ⟨rfl, f4⟩
    go_wp2_with (fail)
    go_ret
    exact ⟨rfl, (((f1.trans f2).trans f3).trans f4).below (fun _ _ h => h)⟩
  · by_cases hB : B = 0
    · have hC : ¬ C = 0 := fun h => h23 ⟨hB, h⟩
      obtain ⟨n1, n2⟩ := hst hB
      have i1 : (100 : Int) ≤ (N : Int) := by omega
      have i2 : (N : Int) < 600 := by omega
      have eA : (A == 0) = false := beq_eq_false_iff_ne.2 hA
      have nA : (A != 0) = true := by unfold bne; rw [eA]; rfl
      have eC : (C == 0) = false := beq_eq_false_iff_ne.2 hC
      have nC : (C != 0) = true := by unfold bne; rw [eC]; rfl
      clear h12 h13 h23 hst hA hC n1 n2
      subst hB
      go_enter Tryd.func4, Tryd.ntmps4
      go_wp2_with (fail)
      refine K1.mono ?_
      rintro e w1 ⟨rfl, f1⟩
      go_wp2_with (fail)
      refine (K2.out _ f1).mono ?_
      rintro e w2 ⟨rfl, f2⟩
      go_wp2_with (fail)
      refine (K3.out _ (f1.trans f2)).mono ?_
      rintro e w3 ⟨rfl, f3⟩
      go_wp2_with (fail)
      refine (K4.out _).mono ?_
      rintro e w4 ⟨rfl, f4⟩
      go_wp2_with (fail)
      go_ret
      exact ⟨rfl, (((f1.trans f2).trans f3).trans f4).below (fun _ _ h => h)⟩
    · by_cases hC : C = 0
      · have eA : (A == 0) = false := beq_eq_false_iff_ne.2 hA
        have nA : (A != 0) = true := by unfold bne; rw [eA]; rfl
        have eB : (B == 0) = false := beq_eq_false_iff_ne.2 hB
        have nB : (B != 0) = true := by unfold bne; rw [eB]; rfl
        clear h12 h13 h23 hst hA hB
        subst hC
        go_enter Tryd.func4, Tryd.ntmps4
        go_wp2_with (fail)
        refine K1.mono ?_
        rintro e w1 ⟨rfl, f1⟩
        go_wp2_with (fail)
        refine (K2.out _ f1).mono ?_
        rintro e w2 ⟨rfl, f2⟩
        go_wp2_with (fail)
        refine (K3.out _ (f1.trans f2)).mono ?_
        rintro e w3 ⟨rfl, f3⟩
        go_wp2_with (fail)
        refine (K4.out _).mono ?_
        rintro e w4 ⟨rfl, f4⟩
        go_wp2_with (fail)
        go_ret
        exact ⟨rfl, (((f1.trans f2).trans f3).trans f4).below (fun _ _ h => h)⟩
      · have eA : (A == 0) = false := beq_eq_false_iff_ne.2 hA
        have nA : (A != 0) = true := by unfold bne; rw [eA]; rfl
        have eB : (B == 0) = false := beq_eq_false_iff_ne.2 hB
        have nB : (B != 0) = true := by unfold bne; rw [eB]; rfl
        have eC : (C == 0) = false := beq_eq_false_iff_ne.2 hC
        have nC : (C != 0) = true := by unfold bne; rw [eC]; rfl
        clear h12 h13 h23 hst hA hB hC
        go_enter Tryd.func4, Tryd.ntmps4
        go_wp2_with (fail)
        refine K1.mono ?_
        rintro e w1 ⟨rfl, f1⟩
        go_wp2_with (fail)
        refine (K2.out _ f1).mono ?_
        rintro e w2 ⟨rfl, f2⟩
        go_wp2_with (fail)
        refine (K3.out _ (f1.trans f2)).mono ?_
        rintro e w3 ⟨rfl, f3⟩
        go_wp2_with (fail)
        refine (K4.out _).mono ?_
        rintro e w4 ⟨rfl, f4⟩
        go_wp2_with (fail)
        go_ret
        exact ⟨rfl, (((f1.trans f2).trans f3).trans f4).below (fun _ _ h => h)⟩
end Go.Proofs.YtpdlfaihofhefabDoor
