/- Proved: of any two unlike symbols neither's code begins the other's, and each code has 5 to 30 bits (Rows.HuffApartSaid, the law aqueductlaw03.HuffApart answers true). Conditions: none beyond the given statement. -/
import Derived.Test.YtemmpigpbfijkaaRows
import Derived.Test.YtemmpigpbfijkaaK4
import Derived.Test.YtemmpigpbfijkaaK5
import Derived.WalkKit
import Derived.ProofKit
import Derived.OpenShut
import Derived.ShutString
namespace Go.Proofs.Ytemmpigpbfijkaa.huffApart
open Go.ChangeShapes Go.WideShapes Go.ChangeAt Go.RowKit
open Go.ChangeMaps (open_string shut_string)
set_option linter.unusedVariables false      -- a walk need not use every 'w<i>' (that an integer argument fits its kind)

theorem own : ownKnob Try.prog.godebug = none := by kernel_rfl

set_option maxRecDepth 100000 in
set_option maxHeartbeats 4000000 in
theorem walk (a0 : Int) (a1 : Int) (w0 : (Lit.int .u16 a0).wf = true) (w1 : (Lit.int .u16 a1).wf = true) (w : World) :
    Calls Try.prog 7 #[.int .u16 a0, .int .u16 a1] w fun e w' => e = .returned (.bool true) ∧ Below w.heap.size w w' := by
  have b0 := bounds_u16 w0
  have b1 := bounds_u16 w1
  clear w0 w1
  obtain ⟨m, rfl⟩ : ∃ m : Nat, a0 = m := ⟨a0.toNat, by omega⟩
  obtain ⟨l, rfl⟩ : ∃ l : Nat, a1 = l := ⟨a1.toNat, by omega⟩
  obtain ⟨s, hs⟩ : ∃ s, s = m % 257 := ⟨_, rfl⟩
  obtain ⟨t, ht⟩ : ∃ t, t = l % 257 := ⟨_, rfl⟩
  have em : (m : Int) % 257 = s := by omega
  have el : (l : Int) % 257 = t := by omega
  have hs' : s ≤ 256 := by omega
  have ht' : t ≤ 256 := by omega
  have f1 := code_size s hs'
  have f2 := code_size t ht'
  have f3 := code_word s hs'
  have f4 := code_word t ht'
  have A1 : Hid (s ≠ t → _) := code_apart s t hs' ht'
  have A2 : Hid (t ≠ s → _) := code_apart t s ht' hs'
  have K1 : Hid (∀ w, _) := fun w => code_ok s w hs'
  have K2 : Hid (∀ w, _) := fun w => code_ok t w ht'
  generalize hc : codeOf s = c at *
  generalize hd : codeOf t = d at *
  obtain ⟨x, n⟩ := c
  obtain ⟨y, k⟩ := d
  simp only at *
  clear hs ht
  obtain ⟨f11, f12, f13⟩ := f1
  obtain ⟨f21, f22, f23⟩ := f2
  clear f13 f23
  have g1 : ¬ (n : Int) < 5 := by omega
  have g2 : ¬ (30 : Int) < n := by omega
  have div_cast : ∀ a b c : Nat, ((a : Int) / 2 ^ b = (c : Int)) ↔ a / 2 ^ b = c := fun a b c => by
    rw [show (2 : Int) ^ b = ((2 ^ b : Nat) : Int) by push_cast; rfl, ← Int.natCast_ediv]; exact Int.natCast_inj
  clear f11 f12
  by_cases hst : s = t
  · subst hst
    obtain ⟨rfl, rfl⟩ : x = y ∧ n = k := by
      have : (x, n) = (y, k) := by rw [← hc, ← hd]
      simpa using this
    clear hc hd A1 A2 f21 f22 div_cast
    go_enter Try.func7, Try.ntmps7
    go_wp2_with (fail)
    refine (K1.out w).mono ?_
    rintro e w1 ⟨rfl, hf1⟩
    have HF1 : Hid (Fr (fun _ => False) w w1) := hf1
    clear hf1
    go_wp2_with (fail)
    refine (K2.out w1).mono ?_
    rintro e w2 ⟨rfl, hf2⟩
    have HF2 : Hid (Fr (fun _ => False) w1 w2) := hf2
    clear hf2
    go_wp2_with (fail)
    all_goals first | (exfalso; omega) | skip
    all_goals go_ret
    all_goals exact ⟨by simp_all, (HF1.out.trans HF2.out).below (fun _ _ => id)⟩
  · have hsti : ¬ (s : Int) = t := by omega
    clear hc hd
    rcases Nat.lt_trichotomy n k with hnk | hnk | hnk
    · have z1 : ¬ ((y : Int) / 2 ^ (k - n) = x) := fun e => A1.out hst ⟨by omega, (div_cast _ _ _).1 e⟩
      have y1 : ¬ (k : Int) < n := by omega
      have y2 : (n : Int) < k := by omega
      clear div_cast
      go_enter Try.func7, Try.ntmps7
      go_wp2_with (fail)
      refine (K1.out w).mono ?_
      rintro e w1 ⟨rfl, hf1⟩
      have HF1 : Hid (Fr (fun _ => False) w w1) := hf1
      clear hf1
      go_wp2_with (fail)
      refine (K2.out w1).mono ?_
      rintro e w2 ⟨rfl, hf2⟩
      have HF2 : Hid (Fr (fun _ => False) w1 w2) := hf2
      clear hf2
      go_wp2_with (fail)
      all_goals first | (exfalso; omega) | skip
      all_goals go_ret
      all_goals exact ⟨by simp_all, (HF1.out.trans HF2.out).below (fun _ _ => id)⟩
    · subst hnk
      have z1 : ¬ ((y : Int) = x) := fun e => A1.out hst ⟨by omega, by simp; omega⟩
      have z2 : ¬ ((x : Int) = y) := fun e => z1 e.symm
      have y1 : ¬ (n : Int) < n := by omega
      clear div_cast
      go_enter Try.func7, Try.ntmps7
      go_wp2_with (fail)
      refine (K1.out w).mono ?_
      rintro e w1 ⟨rfl, hf1⟩
      have HF1 : Hid (Fr (fun _ => False) w w1) := hf1
      clear hf1
      go_wp2_with (fail)
      refine (K2.out w1).mono ?_
      rintro e w2 ⟨rfl, hf2⟩
      have HF2 : Hid (Fr (fun _ => False) w1 w2) := hf2
      clear hf2
      go_wp2_with (fail)
      all_goals first | (exfalso; omega) | skip
      all_goals go_ret
      all_goals exact ⟨by simp_all, (HF1.out.trans HF2.out).below (fun _ _ => id)⟩
    · have z1 : ¬ ((x : Int) / 2 ^ (n - k) = y) := fun e => A2.out (Ne.symm hst) ⟨by omega, (div_cast _ _ _).1 e⟩
      have y1 : (k : Int) < n := by omega
      have y2 : ¬ (n : Int) < k := by omega
      clear div_cast
      go_enter Try.func7, Try.ntmps7
      go_wp2_with (fail)
      refine (K1.out w).mono ?_
      rintro e w1 ⟨rfl, hf1⟩
      have HF1 : Hid (Fr (fun _ => False) w w1) := hf1
      clear hf1
      go_wp2_with (fail)
      refine (K2.out w1).mono ?_
      rintro e w2 ⟨rfl, hf2⟩
      have HF2 : Hid (Fr (fun _ => False) w1 w2) := hf2
      clear hf2
      go_wp2_with (fail)
      all_goals first | (exfalso; omega) | skip
      all_goals go_ret
      all_goals exact ⟨by simp_all, (HF1.out.trans HF2.out).below (fun _ _ => id)⟩

/-! ### THE ROW's STEP: WRITTEN OUT: LEAVE IT -/
set_option maxRecDepth 100000 in
theorem lifted (os : Os) (started : os.Started) (H : Type) (enc : TypeId × Value → H) :
    ReturnsInHanded {} Try.checked os 7 .any (Rows.huffApartSpec.pre6 enc Try.prog Try.f7 Rows.huffApartRow.domain false) (Rows.huffApartSpec.post enc Try.prog Try.f7 false true false false) := by
  refine returnsInHanded_of_change (C := Try.checked) own started (by kernel_rfl) Try.func7
    (ChangeSpec.witness6 (enc := enc) (C := Try.checked) false ⟨#[], #[.int .u16 0, .int .u16 0], []⟩ 8 (by kernel_rfl) (by kernel_rfl) (by kernel_rfl) (by kernel_rfl)) ?_
  intro W base args ds gs before hval0 hW hcnd _
  have hval : ∀ (j : Nat) t v, Try.f7.params[j]? = some t → args[j]? = some v → Value.okWide Try.prog W .any base t v := hval0
  have hW' := hW
  obtain ⟨p, q, hA0, hV, rfl, hfz, hnd⟩ := hW
  have hA : DataW.TrodAll enc Try.prog W 0 (fun _ => true) true Try.f7.params.toList args.toList ds p := hA0
  rw [Try.params7] at hA hval
  obtain ⟨v0, vs0, d0, ds0, p0, q0, hargs, rfl, rfl, h0, r0⟩ := trodAll_cons hA
  obtain ⟨v1, vs1, d1, ds1, p1, q1, rfl, rfl, rfl, h1, r1⟩ := trodAll_cons r0
  obtain ⟨rfl, rfl, rfl⟩ := trodAll_nil r1
  obtain rfl : args = #[v0, v1] := by cases args; simp_all
  obtain ⟨rfl, rfl⟩ := trodVars_none hV
  obtain ⟨a0, rfl, rfl, rfl, w0⟩ := open_int Try.underlying39 (hval 0 39 v0 rfl rfl) h0
  obtain ⟨a1, rfl, rfl, rfl, w1⟩ := open_int Try.underlying39 (hval 1 39 v1 rfl rfl) h1
  clear hA0 hval0
  simp only [List.append_nil] at hW'
  refine (walk a0 a1 w0 w1 W).mono fun e W' ⟨he, bel⟩ => ?_
  subst he
  exact ⟨_, rfl, _, _, _, [], _, [], hW', trodAll_mk1 (shut_bool Try.underlying4 _), (trodAll_cons_mk (shut_int Try.underlying39 w0) (trodAll_cons_mk (shut_int Try.underlying39 w1) trodAll_mk0)), rfl, bel.frame _, fun h => by cases h⟩

theorem over : Rows.huffApartRow.holds Try.pinned (OpenSpec.ofChange Rows.huffApartSpec) :=
  OpenClaim.holds_of_wide 7 Try.f7 rfl rfl rfl rfl rfl rfl rfl ⟨rfl, rfl, rfl, rfl, rfl⟩ rfl rfl rfl rfl rfl (by kernel_rfl) Try.func7 (by kernel_rfl)
    (of_decide_eq_true (by kernel_rfl)) (by unfold Func.isWrapper; first | (rw [if_pos (by decide +kernel)]; kernel_rfl) | (rw [if_neg (by decide +kernel)]; exact ⟨rfl, rfl⟩))
    (fun os started H enc _ => lifted os started H enc)

/-- ████ THE STATEMENT ████ -/
theorem proved : Rows.HuffApartSaid :=
  over
#print axioms proved
end Go.Proofs.Ytemmpigpbfijkaa.huffApart
namespace Go.Proofs.Ytemmpigpbfijkaa
theorem huffApart_holds : Rows.HuffApartSaid := huffApart.proved
end Go.Proofs.Ytemmpigpbfijkaa
