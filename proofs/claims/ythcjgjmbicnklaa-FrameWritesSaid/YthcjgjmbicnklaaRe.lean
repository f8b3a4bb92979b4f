/- Whether a frame may be written, by the document: all. -/
import Derived.Test.YthcjgjmbicnklaaRb
import Derived.Test.YthcjgjmbicnklaaRd1
import Derived.Test.YthcjgjmbicnklaaRd2
import Derived.Test.YthcjgjmbicnklaaRd3
namespace Go.Proofs.Ythcjgjmbicnklaa
open Go.RowKit
set_option linter.unusedVariables false
set_option maxRecDepth 100000
set_option maxHeartbeats 4000000

theorem may_in (f : Fra) (p q : Option Addr) (cp cq : Nat) (w : World) (hk : knownB f.k = true) (hY : SetsAt w q cq f.Y) :
    Calls Try.prog 22 #[.agg #[.int .i64 f.k, .int .i64 f.fl, .int .i64 f.st, .slice p f.X.length cp, .int .i64 f.pad, .int .u32 f.code, .int .i64 f.last, .int .i64 f.inc, .int .i64 f.dep, .bool f.only, .int .i64 f.wt, .slice q f.Y.length cq]] w fun e w' => e = .returned (.bool (mayB f)) ∧ Fr (fun _ => False) w w' := by
  by_cases hh : (0 ≤ f.fl ∧ f.fl ≤ 255) ∧ idOk f.st = true ∧ rightB f.k f.st = true
  case neg =>
    have hd : mayB f = false := by
      cases hm : mayB f with
      | false => rfl
      | true =>
        simp only [mayB, Bool.and_eq_true, decide_eq_true_eq] at hm
        exact absurd ⟨hm.1.1.1.1.1, hm.1.1.1.1.2, hm.1.1.1.2⟩ hh
    rw [hd]
    refine may_h f.k f.fl f.st f.pad f.X f.code f.last f.inc f.dep f.only f.wt f.Y p q cp cq w ?_
    cases h1 : idOk f.st
    · exact .inr (.inr (.inl rfl))
    · cases h2 : rightB f.k f.st
      · exact .inr (.inr (.inr rfl))
      · rw [h1, h2] at hh
        simp at hh
        omega
  case pos =>
    obtain ⟨⟨h0, h1⟩, hs, hr⟩ := hh
    have base : mayB f = (mayP f.k f.fl f.pad && mayQ f.k f.fl f.dep f.wt && mayL f) := by
      simp only [mayB]
      rw [show decide (0 ≤ f.fl ∧ f.fl ≤ 255) = true by simp [h0, h1], hs, hr]
      simp
    cases hP : mayP f.k f.fl f.pad
    · rw [base, hP]
      simp only [Bool.false_and]
      simp only [mayP, Bool.or_eq_false_iff, Bool.not_eq_false', Bool.and_eq_false_iff, decide_eq_false_iff_not] at hP
      refine may_a f.k f.fl f.st f.pad f.X f.code f.last f.inc f.dep f.only f.wt f.Y p q cp cq w h0 h1 hs hr hP.1 ?_
      rcases hP.2 with h | h
      · omega
      · exact .inr (.inr ⟨by omega, h.2⟩)
    · have hP' := hP
      simp only [mayP, Bool.or_eq_true, Bool.not_eq_true', Bool.and_eq_true, decide_eq_true_eq] at hP'
      cases hQ : mayQ f.k f.fl f.dep f.wt
      · rw [base, hP, hQ]
        simp only [Bool.true_and, Bool.false_and]
        simp only [mayQ, Bool.or_eq_false_iff, Bool.not_eq_false', Bool.and_eq_false_iff, decide_eq_false_iff_not] at hQ
        have hd : idOk f.dep = false ∨ f.wt < 1 ∨ 256 < f.wt := by
          rcases hQ.2 with h | h
          · exact .inl h
          · omega
        cases hc : canP f.k
        · exact may_b1 f.k f.fl f.st f.pad f.X f.code f.last f.inc f.dep f.only f.wt f.Y p q cp cq w h0 h1 hs hr hc hQ.1 hd
        · rw [hc] at hP'
          simp at hP'
          by_cases hp0 : f.pad = 0
          · exact may_b2 f.k f.fl f.st f.pad f.X f.code f.last f.inc f.dep f.only f.wt f.Y p q cp cq w h0 h1 hs hr hc hp0 hQ.1 hd
          · exact may_b3 f.k f.fl f.st f.pad f.X f.code f.last f.inc f.dep f.only f.wt f.Y p q cp cq w h0 h1 hs hr hc (by omega) (by omega) (hP'.2.resolve_left (by omega)) hQ.1 hd
      · rw [base, hP, hQ]
        simp only [Bool.true_and]
        simp only [mayQ, Bool.or_eq_true, Bool.not_eq_true', Bool.and_eq_true, decide_eq_true_eq] at hQ
        have hpad : canP f.k = true → f.pad = 0 ∨ (0 < f.pad ∧ f.pad ≤ 255 ∧ has f.fl 8 = true) := fun hc => by
          rw [hc] at hP'
          simp at hP'
          by_cases hp0 : f.pad = 0
          · exact .inl hp0
          · refine .inr ⟨by omega, by omega, ?_⟩
            rcases hP'.2 with h | h
            · omega
            · exact h
        have hpr : prioB f.k f.fl = true → idOk f.dep = true ∧ 1 ≤ f.wt ∧ f.wt ≤ 256 := fun hq => by
          rw [hq] at hQ
          simpa using hQ
        clear base hP hP' hQ
        rcases kinds f.k with h | h | h | h | h | h | h | h | h | h | h
        · rw [show mayL f = true by simp [mayL, h]]
          rw [h] at hr hpad ⊢
          rcases hpad (by decide) with hp | ⟨hp, hp2, h8⟩
          · rw [hp]
            exact may_0z f.fl f.st 0 f.X f.code f.last f.inc f.dep f.only f.wt f.Y p q cp cq w h0 h1 hs hr
          · exact may_0s f.fl f.st f.pad f.X f.code f.last f.inc f.dep f.only f.wt f.Y p q cp cq w h0 h1 hs hr hp hp2 h8
        · rw [show mayL f = true by simp [mayL, h]]
          rw [h] at hr hpad hpr ⊢
          cases hq : has f.fl 32
          · rcases hpad (by decide) with hp | ⟨hp, hp2, h8⟩
            · rw [hp]
              exact may_1z f.fl f.st 0 f.X f.code f.last f.inc f.dep f.only f.wt f.Y p q cp cq w h0 h1 hs hr hq
            · exact may_1s f.fl f.st f.pad f.X f.code f.last f.inc f.dep f.only f.wt f.Y p q cp cq w h0 h1 hs hr hp hp2 h8 hq
          · obtain ⟨hi, hj, hk2⟩ := hpr (by simp [prioB, hq])
            rcases hpad (by decide) with hp | ⟨hp, hp2, h8⟩
            · rw [hp]
              exact may_1pz f.fl f.st 0 f.X f.code f.last f.inc f.dep f.only f.wt f.Y p q cp cq w h0 h1 hs hr hq hi hj hk2
            · exact may_1ps f.fl f.st f.pad f.X f.code f.last f.inc f.dep f.only f.wt f.Y p q cp cq w h0 h1 hs hr hp hp2 h8 hq hi hj hk2
        · rw [show mayL f = true by simp [mayL, h]]
          rw [h] at hr hpr ⊢
          obtain ⟨hi, hj, hk2⟩ := hpr (by simp [prioB])
          exact may_2 f.fl f.st f.pad f.X f.code f.last f.inc f.dep f.only f.wt f.Y p q cp cq w h0 h1 hs hr hi hj hk2
        · rw [show mayL f = true by simp [mayL, h]]
          rw [h] at hr ⊢
          exact may_3 f.fl f.st f.pad f.X f.code f.last f.inc f.dep f.only f.wt f.Y p q cp cq w h0 h1 hs hr
        · rw [h] at hr ⊢
          by_cases hz : f.Y.length = 0
          · have hY0 : f.Y = [] := List.eq_nil_of_length_eq_zero hz
            rw [show mayL f = true by simp [mayL, h, hY0], hz]
            exact may_4z f.fl f.st f.pad f.X f.code f.last f.inc f.dep f.only f.wt p q cp cq w h0 h1 hs hr
          · rw [show mayL f = (f.Y.all setOk && !has f.fl 1) by
              have : decide (f.Y.length = 0) = false := by simp [hz]
              simp only [mayL, h, this]
              simp]
            exact may_4 f.fl f.st f.pad f.X f.code f.last f.inc f.dep f.only f.wt f.Y p q cp cq f.Y.length w h0 h1 hs hr hY rfl (by omega)
        · rw [show mayL f = idOk f.last by simp [mayL, h]]
          rw [h] at hr hpad ⊢
          rcases hpad (by decide) with hp | ⟨hp, hp2, h8⟩
          · rw [hp]
            exact may_5z f.fl f.st 0 f.X f.code f.last f.inc f.dep f.only f.wt f.Y p q cp cq w h0 h1 hs hr
          · exact may_5s f.fl f.st f.pad f.X f.code f.last f.inc f.dep f.only f.wt f.Y p q cp cq w h0 h1 hs hr hp hp2 h8
        · rw [show mayL f = ((f.X.length : Int) == 8) by rw [Bool.eq_iff_iff]; simp [mayL, h]; omega]
          rw [h] at hr ⊢
          exact may_6 f.fl f.st f.pad f.X f.code f.last f.inc f.dep f.only f.wt f.Y p q cp cq w h0 h1 hs hr
        · rw [show mayL f = idOk f.last by simp [mayL, h]]
          rw [h] at hr ⊢
          exact may_7 f.fl f.st f.pad f.X f.code f.last f.inc f.dep f.only f.wt f.Y p q cp cq w h0 h1 hs hr
        · by_cases hn : f.inc < 1
          · rw [show mayL f = false by simp [mayL, h]; omega]
            rw [h] at hr ⊢
            exact may_8a f.fl f.st f.pad f.X f.code f.last f.inc f.dep f.only f.wt f.Y p q cp cq w h0 h1 hs hr hn
          · rw [show mayL f = decide (f.inc ≤ 2147483647) by rw [Bool.eq_iff_iff]; simp [mayL, h]; omega]
            rw [h] at hr ⊢
            exact may_8b f.fl f.st f.pad f.X f.code f.last f.inc f.dep f.only f.wt f.Y p q cp cq w h0 h1 hs hr (by omega)
        · rw [show mayL f = true by simp [mayL, h]]
          rw [h] at hr ⊢
          exact may_9 f.fl f.st f.pad f.X f.code f.last f.inc f.dep f.only f.wt f.Y p q cp cq w h0 h1 hs hr
        · simp [knownB] at hk
          omega
end Go.Proofs.Ythcjgjmbicnklaa
