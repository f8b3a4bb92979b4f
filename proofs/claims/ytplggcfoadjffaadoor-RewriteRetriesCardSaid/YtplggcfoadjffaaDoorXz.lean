/- Which requests may be sent again. -/
import Derived.Test.YtplggcfoadjffaaDoorXo
namespace Go.Proofs.YtplggcfoadjffaaDoor
open Go.RowKit
set_option linter.unusedVariables false
set_option maxRecDepth 100000
set_option maxHeartbeats 8000000

theorem rxhas_in (q : Option Addr) (c : Nat) (l : List Hd) (n : ByteArray) (w : World) (hl : HL w q c l) : Calls Tryd.prog 19 #[.slice q l.length c, .string n] w fun e w' => e = .returned (.bool (hasO l (tx n))) ∧ w = w' := by
  have K := rFind_in q c l n w hl
  obtain ⟨a, hv⟩ : ∃ a : ByteArray, findV l (tx n) = .tuple #[.string a, .bool (hasO l (tx n))] := by unfold findV hasO; cases findL l (tx n) <;> exact ⟨_, rfl⟩
  rw [hv] at K
  generalize hasO l (tx n) = b at K ⊢
  clear hv hl
  generalize l.length = len at K ⊢
  go_enter Tryd.func19, Tryd.ntmps19
  go_wp2_with (fail)
  refine K.mono ?_
  rintro e w1 ⟨rfl, rfl⟩
  go_wp2_with (fail)
  go_ret
  exact ⟨rfl, rfl⟩
/-- The method's text. -/
theorem find_method (l : List Hd) : ∃ (M : ByteArray) (b : Bool), findV l (tx ⟨#[58, 109, 101, 116, 104, 111, 100]⟩) = .tuple #[.string M, .bool b] ∧ valO l sMethod = tx M := by
  have e : tx ⟨#[58, 109, 101, 116, 104, 111, 100]⟩ = sMethod := rfl
  rw [e]
  unfold findV valO
  cases findL l sMethod with
  | none => exact ⟨_, _, rfl, rfl⟩
  | some v => exact ⟨_, _, rfl, rfl⟩
theorem find_proto (l : List Hd) : ∃ M : ByteArray, findV l (tx ⟨#[58, 112, 114, 111, 116, 111, 99, 111, 108]⟩) = .tuple #[.string M, .bool (hasO l sProto)] := by
  have e : tx ⟨#[58, 112, 114, 111, 116, 111, 99, 111, 108]⟩ = sProto := rfl
  rw [e]
  unfold findV hasO
  cases findL l sProto <;> exact ⟨_, rfl⟩
theorem eqM (M : ByteArray) (n : List UInt8) : (M.toList == n) = decide (tx M = n) := by
  rw [tx_toList]
  by_cases h : tx M = n
  · simp [h]
  · rw [decide_eq_false h, beq_eq_false_iff_ne]
    exact h
theorem Retry_in (q : Option Addr) (c : Nat) (l : List Hd) (w : World) (hl : HL w q c l) : Calls Tryd.prog 11 #[.slice q l.length c] w fun e w' => e = .returned (.bool (retryB l)) ∧ Fr (fun _ => False) w w' := by
  obtain ⟨M, mb, hM, hM2⟩ := find_method l
  obtain ⟨P, hP⟩ := find_proto l
  obtain ⟨pr, hpr⟩ : ∃ pr, hasO l sProto = pr := ⟨_, rfl⟩
  have HPR : Hid (hasO l sProto = pr) := hpr
  have HM : Hid (valO l sMethod = tx M) := hM2
  obtain ⟨V, hV⟩ : ∃ V, retryB l = V := ⟨_, rfl⟩
  have HV : Hid (retryB l = V) := hV
  rw [hV]
  have KP := Find_in q c l ⟨#[58, 112, 114, 111, 116, 111, 99, 111, 108]⟩ w hl
  rw [hP, hpr] at KP
  have KM : Hid (∀ W, Fr (fun _ => False) w W → Calls Tryd.prog 17 #[.slice q l.length c, .string ⟨#[58, 109, 101, 116, 104, 111, 100]⟩] W fun e w' => e = .returned (.tuple #[.string M, .bool mb]) ∧ Fr (fun _ => False) W w') := fun W f => by have := Find_in q c l ⟨#[58, 109, 101, 116, 104, 111, 100]⟩ W (hl.fr f); rw [hM] at this; exact this
  obtain ⟨len, hlen⟩ : ∃ len, l.length = len := ⟨_, rfl⟩
  rw [hlen] at KP KM ⊢
  clear hl hM hM2 hP hpr hV hlen
  cases pr with
  | true =>
    have hv : V = false := by rw [← HV.out]; unfold retryB; rw [HPR.out]; rfl
    clear HV
    subst hv
    go_enter Tryd.func11, Tryd.ntmps11
    go_wp2_with (fail)
    refine KP.mono ?_
    rintro e w1 ⟨rfl, f1⟩
    have HF1 : Hid (Fr (fun _ => False) w w1) := f1
    clear f1
    go_wp2_with (fail)
    go_ret
    exact ⟨rfl, HF1.out⟩
  | false =>
    by_cases h0 : tx M = [71, 69, 84]
    · have e0 := eqM M [71, 69, 84]
      rw [decide_eq_true h0] at e0
      have g0 : M.toList = [71, 69, 84] := by rw [beq_iff_eq] at e0; exact e0
      have hv : V = (true) := by rw [← HV.out]; unfold retryB; rw [HPR.out, HM.out]; rw [h0]; rfl
      clear HV
      subst hv
      clear h0
      go_enter Tryd.func11, Tryd.ntmps11
      go_wp2_with (fail)
      refine KP.mono ?_
      rintro e w1 ⟨rfl, f1⟩
      have HF1 : Hid (Fr (fun _ => False) w w1) := f1
      clear f1
      go_wp2_with (fail)
      refine (KM.out w1 HF1.out).mono ?_
      rintro e w2 ⟨rfl, f2⟩
      have HF2 : Hid (Fr (fun _ => False) w w2) := HF1.out.trans f2
      clear f2
      go_wp2_with (fail)
      go_ret
      exact ⟨rfl, HF2.out⟩
    by_cases h1 : tx M = [72, 69, 65, 68]
    · have e0 := eqM M [71, 69, 84]
      rw [decide_eq_false h0] at e0
      have g0 : ¬ M.toList = [71, 69, 84] := by rw [beq_eq_false_iff_ne] at e0; exact e0
      have e1 := eqM M [72, 69, 65, 68]
      rw [decide_eq_true h1] at e1
      have g1 : M.toList = [72, 69, 65, 68] := by rw [beq_iff_eq] at e1; exact e1
      have hv : V = (true) := by rw [← HV.out]; unfold retryB; rw [HPR.out, HM.out]; rw [h1]; rfl
      clear HV
      subst hv
      clear h0 h1
      go_enter Tryd.func11, Tryd.ntmps11
      go_wp2_with (fail)
      refine KP.mono ?_
      rintro e w1 ⟨rfl, f1⟩
      have HF1 : Hid (Fr (fun _ => False) w w1) := f1
      clear f1
      go_wp2_with (fail)
      refine (KM.out w1 HF1.out).mono ?_
      rintro e w2 ⟨rfl, f2⟩
      have HF2 : Hid (Fr (fun _ => False) w w2) := HF1.out.trans f2
      clear f2
      go_wp2_with (fail)
      go_ret
      exact ⟨rfl, HF2.out⟩
    by_cases h2 : tx M = [79, 80, 84, 73, 79, 78, 83]
    · have e0 := eqM M [71, 69, 84]
      rw [decide_eq_false h0] at e0
      have g0 : ¬ M.toList = [71, 69, 84] := by rw [beq_eq_false_iff_ne] at e0; exact e0
      have e1 := eqM M [72, 69, 65, 68]
      rw [decide_eq_false h1] at e1
      have g1 : ¬ M.toList = [72, 69, 65, 68] := by rw [beq_eq_false_iff_ne] at e1; exact e1
      have e2 := eqM M [79, 80, 84, 73, 79, 78, 83]
      rw [decide_eq_true h2] at e2
      have g2 : M.toList = [79, 80, 84, 73, 79, 78, 83] := by rw [beq_iff_eq] at e2; exact e2
      have hv : V = (true) := by rw [← HV.out]; unfold retryB; rw [HPR.out, HM.out]; rw [h2]; rfl
      clear HV
      subst hv
      clear h0 h1 h2
      go_enter Tryd.func11, Tryd.ntmps11
      go_wp2_with (fail)
      refine KP.mono ?_
      rintro e w1 ⟨rfl, f1⟩
      have HF1 : Hid (Fr (fun _ => False) w w1) := f1
      clear f1
      go_wp2_with (fail)
      refine (KM.out w1 HF1.out).mono ?_
      rintro e w2 ⟨rfl, f2⟩
      have HF2 : Hid (Fr (fun _ => False) w w2) := HF1.out.trans f2
      clear f2
      go_wp2_with (fail)
      go_ret
      exact ⟨rfl, HF2.out⟩
    by_cases h3 : tx M = [80, 85, 84]
    · have e0 := eqM M [71, 69, 84]
      rw [decide_eq_false h0] at e0
      have g0 : ¬ M.toList = [71, 69, 84] := by rw [beq_eq_false_iff_ne] at e0; exact e0
      have e1 := eqM M [72, 69, 65, 68]
      rw [decide_eq_false h1] at e1
      have g1 : ¬ M.toList = [72, 69, 65, 68] := by rw [beq_eq_false_iff_ne] at e1; exact e1
      have e2 := eqM M [79, 80, 84, 73, 79, 78, 83]
      rw [decide_eq_false h2] at e2
      have g2 : ¬ M.toList = [79, 80, 84, 73, 79, 78, 83] := by rw [beq_eq_false_iff_ne] at e2; exact e2
      have e3 := eqM M [80, 85, 84]
      rw [decide_eq_true h3] at e3
      have g3 : M.toList = [80, 85, 84] := by rw [beq_iff_eq] at e3; exact e3
      have hv : V = (true) := by rw [← HV.out]; unfold retryB; rw [HPR.out, HM.out]; rw [h3]; rfl
      clear HV
      subst hv
      clear h0 h1 h2 h3
      go_enter Tryd.func11, Tryd.ntmps11
      go_wp2_with (fail)
      refine KP.mono ?_
      rintro e w1 ⟨rfl, f1⟩
      have HF1 : Hid (Fr (fun _ => False) w w1) := f1
      clear f1
      go_wp2_with (fail)
      refine (KM.out w1 HF1.out).mono ?_
      rintro e w2 ⟨rfl, f2⟩
      have HF2 : Hid (Fr (fun _ => False) w w2) := HF1.out.trans f2
      clear f2
      go_wp2_with (fail)
      go_ret
      exact ⟨rfl, HF2.out⟩
    by_cases h4 : tx M = [68, 69, 76, 69, 84, 69]
    · have e0 := eqM M [71, 69, 84]
      rw [decide_eq_false h0] at e0
      have g0 : ¬ M.toList = [71, 69, 84] := by rw [beq_eq_false_iff_ne] at e0; exact e0
      have e1 := eqM M [72, 69, 65, 68]
      rw [decide_eq_false h1] at e1
      have g1 : ¬ M.toList = [72, 69, 65, 68] := by rw [beq_eq_false_iff_ne] at e1; exact e1
      have e2 := eqM M [79, 80, 84, 73, 79, 78, 83]
      rw [decide_eq_false h2] at e2
      have g2 : ¬ M.toList = [79, 80, 84, 73, 79, 78, 83] := by rw [beq_eq_false_iff_ne] at e2; exact e2
      have e3 := eqM M [80, 85, 84]
      rw [decide_eq_false h3] at e3
      have g3 : ¬ M.toList = [80, 85, 84] := by rw [beq_eq_false_iff_ne] at e3; exact e3
      have e4 := eqM M [68, 69, 76, 69, 84, 69]
      rw [decide_eq_true h4] at e4
      have g4 : M.toList = [68, 69, 76, 69, 84, 69] := by rw [beq_iff_eq] at e4; exact e4
      have hv : V = (true) := by rw [← HV.out]; unfold retryB; rw [HPR.out, HM.out]; rw [h4]; rfl
      clear HV
      subst hv
      clear h0 h1 h2 h3 h4
      go_enter Tryd.func11, Tryd.ntmps11
      go_wp2_with (fail)
      refine KP.mono ?_
      rintro e w1 ⟨rfl, f1⟩
      have HF1 : Hid (Fr (fun _ => False) w w1) := f1
      clear f1
      go_wp2_with (fail)
      refine (KM.out w1 HF1.out).mono ?_
      rintro e w2 ⟨rfl, f2⟩
      have HF2 : Hid (Fr (fun _ => False) w w2) := HF1.out.trans f2
      clear f2
      go_wp2_with (fail)
      go_ret
      exact ⟨rfl, HF2.out⟩
    have e0 := eqM M [71, 69, 84]
    rw [decide_eq_false h0] at e0
    have g0 : ¬ M.toList = [71, 69, 84] := by rw [beq_eq_false_iff_ne] at e0; exact e0
    have e1 := eqM M [72, 69, 65, 68]
    rw [decide_eq_false h1] at e1
    have g1 : ¬ M.toList = [72, 69, 65, 68] := by rw [beq_eq_false_iff_ne] at e1; exact e1
    have e2 := eqM M [79, 80, 84, 73, 79, 78, 83]
    rw [decide_eq_false h2] at e2
    have g2 : ¬ M.toList = [79, 80, 84, 73, 79, 78, 83] := by rw [beq_eq_false_iff_ne] at e2; exact e2
    have e3 := eqM M [80, 85, 84]
    rw [decide_eq_false h3] at e3
    have g3 : ¬ M.toList = [80, 85, 84] := by rw [beq_eq_false_iff_ne] at e3; exact e3
    have e4 := eqM M [68, 69, 76, 69, 84, 69]
    rw [decide_eq_false h4] at e4
    have g4 : ¬ M.toList = [68, 69, 76, 69, 84, 69] := by rw [beq_eq_false_iff_ne] at e4; exact e4
    have hv : V = (false) := by rw [← HV.out]; unfold retryB; rw [HPR.out, HM.out]; have : [[71, 69, 84], [72, 69, 65, 68], [79, 80, 84, 73, 79, 78, 83], [80, 85, 84], [68, 69, 76, 69, 84, 69]].contains (tx M) = false := (by simp [h0, h1, h2, h3, h4]); rw [this]; simp
    clear HV
    subst hv
    clear h0 h1 h2 h3 h4
    go_enter Tryd.func11, Tryd.ntmps11
    go_wp2_with (fail)
    refine KP.mono ?_
    rintro e w1 ⟨rfl, f1⟩
    have HF1 : Hid (Fr (fun _ => False) w w1) := f1
    clear f1
    go_wp2_with (fail)
    refine (KM.out w1 HF1.out).mono ?_
    rintro e w2 ⟨rfl, f2⟩
    have HF2 : Hid (Fr (fun _ => False) w w2) := HF1.out.trans f2
    clear f2
    go_wp2_with (fail)
    go_ret
    exact ⟨rfl, HF2.out⟩
theorem rRetry_in (q : Option Addr) (c : Nat) (l : List Hd) (w : World) (hl : HL w q c l) : Calls Tryd.prog 12 #[.slice q l.length c] w fun e w' => e = .returned (.bool (retryB l)) ∧ Fr (fun _ => False) w w' := by
  obtain ⟨M, mb, hM, hM2⟩ := find_method l
  obtain ⟨P, hP⟩ := find_proto l
  obtain ⟨pr, hpr⟩ : ∃ pr, hasO l sProto = pr := ⟨_, rfl⟩
  have HPR : Hid (hasO l sProto = pr) := hpr
  have HM : Hid (valO l sMethod = tx M) := hM2
  obtain ⟨V, hV⟩ : ∃ V, retryB l = V := ⟨_, rfl⟩
  have HV : Hid (retryB l = V) := hV
  rw [hV]
  have KM := rFind_in q c l ⟨#[58, 109, 101, 116, 104, 111, 100]⟩ w hl
  rw [hM] at KM
  have KH := rxhas_in q c l ⟨#[58, 112, 114, 111, 116, 111, 99, 111, 108]⟩ w hl
  have eP : tx ⟨#[58, 112, 114, 111, 116, 111, 99, 111, 108]⟩ = sProto := rfl
  rw [eP, hpr] at KH
  obtain ⟨len, hlen⟩ : ∃ len, l.length = len := ⟨_, rfl⟩
  rw [hlen] at KM KH ⊢
  clear hl hM hM2 hP hpr hV hlen eP
  by_cases h0 : tx M = [71, 69, 84]
  · have e0 := eqM M [71, 69, 84]
    rw [decide_eq_true h0] at e0
    have g0 : M.toList = [71, 69, 84] := by rw [beq_iff_eq] at e0; exact e0
    have hv : V = (!pr) := by rw [← HV.out]; unfold retryB; rw [HPR.out, HM.out]; rw [h0]; cases pr <;> rfl
    clear HV
    subst hv
    clear h0
    go_enter Tryd.func12, Tryd.ntmps12
    go_wp2_with (fail)
    refine KM.mono ?_
    rintro e w1 ⟨rfl, rfl⟩
    go_wp2_with (fail)
    refine KH.mono ?_
    rintro e w1 ⟨rfl, rfl⟩
    go_wp2_with (fail)
    go_ret
    exact ⟨rfl, Fr.refl _ _⟩
  by_cases h1 : tx M = [72, 69, 65, 68]
  · have e0 := eqM M [71, 69, 84]
    rw [decide_eq_false h0] at e0
    have g0 : ¬ M.toList = [71, 69, 84] := by rw [beq_eq_false_iff_ne] at e0; exact e0
    have e1 := eqM M [72, 69, 65, 68]
    rw [decide_eq_true h1] at e1
    have g1 : M.toList = [72, 69, 65, 68] := by rw [beq_iff_eq] at e1; exact e1
    have hv : V = (!pr) := by rw [← HV.out]; unfold retryB; rw [HPR.out, HM.out]; rw [h1]; cases pr <;> rfl
    clear HV
    subst hv
    clear h0 h1
    go_enter Tryd.func12, Tryd.ntmps12
    go_wp2_with (fail)
    refine KM.mono ?_
    rintro e w1 ⟨rfl, rfl⟩
    go_wp2_with (fail)
    refine KH.mono ?_
    rintro e w1 ⟨rfl, rfl⟩
    go_wp2_with (fail)
    go_ret
    exact ⟨rfl, Fr.refl _ _⟩
  by_cases h2 : tx M = [79, 80, 84, 73, 79, 78, 83]
  · have e0 := eqM M [71, 69, 84]
    rw [decide_eq_false h0] at e0
    have g0 : ¬ M.toList = [71, 69, 84] := by rw [beq_eq_false_iff_ne] at e0; exact e0
    have e1 := eqM M [72, 69, 65, 68]
    rw [decide_eq_false h1] at e1
    have g1 : ¬ M.toList = [72, 69, 65, 68] := by rw [beq_eq_false_iff_ne] at e1; exact e1
    have e2 := eqM M [79, 80, 84, 73, 79, 78, 83]
    rw [decide_eq_true h2] at e2
    have g2 : M.toList = [79, 80, 84, 73, 79, 78, 83] := by rw [beq_iff_eq] at e2; exact e2
    have hv : V = (!pr) := by rw [← HV.out]; unfold retryB; rw [HPR.out, HM.out]; rw [h2]; cases pr <;> rfl
    clear HV
    subst hv
    clear h0 h1 h2
    go_enter Tryd.func12, Tryd.ntmps12
    go_wp2_with (fail)
    refine KM.mono ?_
    rintro e w1 ⟨rfl, rfl⟩
    go_wp2_with (fail)
    refine KH.mono ?_
    rintro e w1 ⟨rfl, rfl⟩
    go_wp2_with (fail)
    go_ret
    exact ⟨rfl, Fr.refl _ _⟩
  by_cases h3 : tx M = [80, 85, 84]
  · have e0 := eqM M [71, 69, 84]
    rw [decide_eq_false h0] at e0
    have g0 : ¬ M.toList = [71, 69, 84] := by rw [beq_eq_false_iff_ne] at e0; exact e0
    have e1 := eqM M [72, 69, 65, 68]
    rw [decide_eq_false h1] at e1
    have g1 : ¬ M.toList = [72, 69, 65, 68] := by rw [beq_eq_false_iff_ne] at e1; exact e1
    have e2 := eqM M [79, 80, 84, 73, 79, 78, 83]
    rw [decide_eq_false h2] at e2
    have g2 : ¬ M.toList = [79, 80, 84, 73, 79, 78, 83] := by rw [beq_eq_false_iff_ne] at e2; exact e2
    have e3 := eqM M [80, 85, 84]
    rw [decide_eq_true h3] at e3
    have g3 : M.toList = [80, 85, 84] := by rw [beq_iff_eq] at e3; exact e3
    have hv : V = (!pr) := by rw [← HV.out]; unfold retryB; rw [HPR.out, HM.out]; rw [h3]; cases pr <;> rfl
    clear HV
    subst hv
    clear h0 h1 h2 h3
    go_enter Tryd.func12, Tryd.ntmps12
    go_wp2_with (fail)
    refine KM.mono ?_
    rintro e w1 ⟨rfl, rfl⟩
    go_wp2_with (fail)
    refine KH.mono ?_
    rintro e w1 ⟨rfl, rfl⟩
    go_wp2_with (fail)
    go_ret
    exact ⟨rfl, Fr.refl _ _⟩
  by_cases h4 : tx M = [68, 69, 76, 69, 84, 69]
  · have e0 := eqM M [71, 69, 84]
    rw [decide_eq_false h0] at e0
    have g0 : ¬ M.toList = [71, 69, 84] := by rw [beq_eq_false_iff_ne] at e0; exact e0
    have e1 := eqM M [72, 69, 65, 68]
    rw [decide_eq_false h1] at e1
    have g1 : ¬ M.toList = [72, 69, 65, 68] := by rw [beq_eq_false_iff_ne] at e1; exact e1
    have e2 := eqM M [79, 80, 84, 73, 79, 78, 83]
    rw [decide_eq_false h2] at e2
    have g2 : ¬ M.toList = [79, 80, 84, 73, 79, 78, 83] := by rw [beq_eq_false_iff_ne] at e2; exact e2
    have e3 := eqM M [80, 85, 84]
    rw [decide_eq_false h3] at e3
    have g3 : ¬ M.toList = [80, 85, 84] := by rw [beq_eq_false_iff_ne] at e3; exact e3
    have e4 := eqM M [68, 69, 76, 69, 84, 69]
    rw [decide_eq_true h4] at e4
    have g4 : M.toList = [68, 69, 76, 69, 84, 69] := by rw [beq_iff_eq] at e4; exact e4
    have hv : V = (!pr) := by rw [← HV.out]; unfold retryB; rw [HPR.out, HM.out]; rw [h4]; cases pr <;> rfl
    clear HV
    subst hv
    clear h0 h1 h2 h3 h4
    go_enter Tryd.func12, Tryd.ntmps12
    go_wp2_with (fail)
    refine KM.mono ?_
    rintro e w1 ⟨rfl, rfl⟩
    go_wp2_with (fail)
    refine KH.mono ?_
    rintro e w1 ⟨rfl, rfl⟩
    go_wp2_with (fail)
    go_ret
    exact ⟨rfl, Fr.refl _ _⟩
  have e0 := eqM M [71, 69, 84]
  rw [decide_eq_false h0] at e0
  have g0 : ¬ M.toList = [71, 69, 84] := by rw [beq_eq_false_iff_ne] at e0; exact e0
  have e1 := eqM M [72, 69, 65, 68]
  rw [decide_eq_false h1] at e1
  have g1 : ¬ M.toList = [72, 69, 65, 68] := by rw [beq_eq_false_iff_ne] at e1; exact e1
  have e2 := eqM M [79, 80, 84, 73, 79, 78, 83]
  rw [decide_eq_false h2] at e2
  have g2 : ¬ M.toList = [79, 80, 84, 73, 79, 78, 83] := by rw [beq_eq_false_iff_ne] at e2; exact e2
  have e3 := eqM M [80, 85, 84]
  rw [decide_eq_false h3] at e3
  have g3 : ¬ M.toList = [80, 85, 84] := by rw [beq_eq_false_iff_ne] at e3; exact e3
  have e4 := eqM M [68, 69, 76, 69, 84, 69]
  rw [decide_eq_false h4] at e4
  have g4 : ¬ M.toList = [68, 69, 76, 69, 84, 69] := by rw [beq_eq_false_iff_ne] at e4; exact e4
  have hv : V = (false) := by rw [← HV.out]; unfold retryB; rw [HPR.out, HM.out]; have : [[71, 69, 84], [72, 69, 65, 68], [79, 80, 84, 73, 79, 78, 83], [80, 85, 84], [68, 69, 76, 69, 84, 69]].contains (tx M) = false := (by simp [h0, h1, h2, h3, h4]); rw [this]; simp
  clear HV
  subst hv
  clear h0 h1 h2 h3 h4
  go_enter Tryd.func12, Tryd.ntmps12
  go_wp2_with (fail)
  refine KM.mono ?_
  rintro e w1 ⟨rfl, rfl⟩
  go_wp2_with (fail)
  go_ret
  exact ⟨rfl, Fr.refl _ _⟩
theorem retries_walk (q : Option Addr) (c : Nat) (l : List Hd) (w : World) (hl : HL w q c l) (hP : PowAt w) :
    Calls Tryd.prog 4 #[.slice q l.length c] w fun e w' => e = .returned (.bool true) ∧ Below w.heap.size w w' := by
  have K1 := Retry_in q c l w hl
  have K2 : Hid (∀ W, Fr (fun _ => False) w W → Calls Tryd.prog 12 #[.slice q l.length c] W fun e w' => e = .returned (.bool (retryB l)) ∧ Fr (fun _ => False) W w') := fun W f => rRetry_in q c l W (hl.fr f)
  have KA : Hid (∀ W, Fr (fun _ => False) w W → Calls Tryd.prog 10 #[] W fun e w' => e = .returned (.bool true) ∧ Fr (fun _ => False) W w') := fun W f => awake14_in W (hP.fr f)
  generalize retryB l = V at K1 K2
  generalize l.length = len at K1 K2 ⊢
  clear hl hP
  have hvv : (V == V) = true := beq_self_eq_true _
  go_enter Tryd.func4, Tryd.ntmps4
  go_wp2_with (fail)
  refine K1.mono ?_
  rintro e w1 ⟨rfl, f1⟩
  have HF1 : Hid (Fr (fun _ => False) w w1) := f1
  clear f1
  go_wp2_with (fail)
  refine (K2.out w1 HF1.out).mono ?_
  rintro e w2 ⟨rfl, f2⟩
  have HF2 : Hid (Fr (fun _ => False) w w2) := HF1.out.trans f2
  clear f2
  go_wp2_with (fail)
  refine (KA.out w2 HF2.out).mono ?_
  rintro e w3 ⟨rfl, f3⟩
  have HF3 : Hid (Fr (fun _ => False) w w3) := HF2.out.trans f3
  clear f3
  go_wp2_with (fail)
  go_ret
  exact ⟨rfl, HF3.out.below (fun _ _ h => h)⟩
end Go.Proofs.YtplggcfoadjffaaDoor
