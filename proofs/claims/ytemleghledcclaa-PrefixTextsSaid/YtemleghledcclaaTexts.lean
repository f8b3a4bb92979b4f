/- Proved: aqueductlaw04.PrefixTexts (prefix.PutText answers what the document asks) returns true for every string and bool; no condition. -/
import Derived.Test.YtemleghledcclaaRows
import Derived.Test.YtemleghledcclaaJ2
import Derived.WalkKit
import Derived.ProofKit
import Derived.OpenShut
import Derived.ShutString
namespace Go.Proofs.Ytemleghledcclaa.prefixTexts
open Go.ChangeShapes Go.WideShapes Go.ChangeAt Go.RowKit
open Go.ChangeMaps (open_string shut_string)
set_option linter.unusedVariables false      -- a walk need not use every 'w<i>' (that an integer argument fits its kind)

theorem own : ownKnob Try.prog.godebug = none := by kernel_rfl

set_option maxRecDepth 100000 in
set_option maxHeartbeats 4000000 in
theorem walk (a0 : ByteArray) (a1 : Bool) (w0 : a0.size ≤ maxLen) (w : World) :
    Calls Try.prog 7 #[.string a0, .bool a1] w fun e w' => e = .returned (.bool true) ∧ Below w.heap.size w w' := by
  unfold maxLen at w0
  by_cases h : a0.size ≤ 16384
  · have K1 : Hid (∀ w, Calls Try.prog 20 #[.string a0, .bool a1] w fun e w' => ∃ v, e = .returned (.tuple #[v, .int .i64 0]) ∧ Gath w w' v (putText (strB a0) a1)) := fun w => ptext_ok a0 a1 w h
    have K2 : Hid (∀ w, Calls Try.prog 21 #[.string a0, .bool a1] w fun e w' => ∃ v, e = .returned (.tuple #[v, .int .i64 0]) ∧ Gath w w' v (putText (strB a0) a1)) := fun w => rtext_ok a0 a1 w h
    generalize putText (strB a0) a1 = T at *
    go_enter Try.func7, Try.ntmps7
    go_wp2_with (fail)
    refine (K1.out w).mono ?_
    rintro e w1 ⟨v1, rfl, g1⟩
    have G1 : Hid (Gath w w1 v1 T) := g1
    clear g1
    go_wp2_with (fail)
    refine (K2.out w1).mono ?_
    rintro e w2 ⟨v2, rfl, g2⟩
    have s1 := (G1.out.fr g2.2.2).str
    have s2 := g2.str
    have HF2 : Hid (Fr (fun _ => False) w w2) := G1.out.2.2.trans g2.2.2
    clear g2 G1
    go_wp2_with (fail)
    refine (pawake_any w2).mono ?_
    rintro e w3 ⟨rfl, hf3⟩
    have HF3 : Hid (Fr (fun _ => False) w2 w3) := hf3
    clear hf3
    go_wp2_with (fail)
    go_ret
    exact ⟨rfl, (HF2.out.trans HF3.out).below (fun _ _ => id)⟩
  · have K1 : Hid (∀ w, Calls Try.prog 20 #[.string a0, .bool a1] w fun e w' => e = .returned (.tuple #[.slice none 0 0, .int .i64 2]) ∧ w' = w) := fun w => ptext_long a0 a1 w (by omega) w0
    have K2 : Hid (∀ w, Calls Try.prog 21 #[.string a0, .bool a1] w fun e w' => e = .returned (.tuple #[.slice none 0 0, .int .i64 2]) ∧ w' = w) := fun w => rtext_long a0 a1 w (by omega) w0
    go_enter Try.func7, Try.ntmps7
    go_wp2_with (fail)
    refine (K1.out w).mono ?_
    rintro e w1 ⟨rfl, rfl⟩
    go_wp2_with (fail)
    refine (K2.out w1).mono ?_
    rintro e w2 ⟨rfl, rfl⟩
    have s1 : (convert 22 9 (.slice none 0 0)).run Try.prog w2 = .ok (.string ⟨#[]⟩) w2 := SrcAt.str (SrcAt.nil w2 none) rfl 0
    go_wp2_with (fail)
    refine (pawake_any w2).mono ?_
    rintro e w3 ⟨rfl, hf3⟩
    have HF3 : Hid (Fr (fun _ => False) w2 w3) := hf3
    clear hf3
    go_wp2_with (fail)
    go_ret
    exact ⟨rfl, HF3.out.below (fun _ _ => id)⟩

/-! ### THE ROW's STEP: WRITTEN OUT: LEAVE IT -/
set_option maxRecDepth 100000 in
theorem lifted (os : Os) (started : os.Started) (H : Type) (enc : TypeId × Value → H) :
    ReturnsInHanded {} Try.checked os 7 .any (Rows.prefixTextsSpec.pre6 enc Try.prog Try.f7 Rows.prefixTextsRow.domain false) (Rows.prefixTextsSpec.post enc Try.prog Try.f7 false true false false) := by
  refine returnsInHanded_of_change (C := Try.checked) own started (by kernel_rfl) Try.func7
    (ChangeSpec.witness6 (enc := enc) (C := Try.checked) false ⟨#[], #[.string ByteArray.empty, .bool false], []⟩ 8 (by kernel_rfl) (by kernel_rfl) (by kernel_rfl) (by kernel_rfl)) ?_
  intro W base args ds gs before hval0 hW hcnd _
  have hval : ∀ (j : Nat) t v, Try.f7.params[j]? = some t → args[j]? = some v → Value.okWide Try.prog W .any base t v := hval0
  have hW' := hW
  obtain ⟨p, q, hA0, hV, rfl, hfz, hnd⟩ := hW
  have hA : DataW.TrodAll enc Try.prog W 0 (fun _ => true) true Try.f7.params.toList args.toList ds p := hA0
  rw [Try.params7] at hA hval
  obtain ⟨v0, vs0, d0, ds0, p0, q0, hargs, rfl, rfl, h0, r0⟩ := trodAll_cons hA
  obtain ⟨v1, vs1, d1, ds1, p1, q1, rfl, rfl, rfl, h1, r1⟩ := trodAll_cons r0
  obtain ⟨rfl, rfl, rfl⟩ := trodAll_nil r1
  obtain rfl : args = #[v0, v1] := by cases args; simp_all
  obtain ⟨rfl, rfl⟩ := trodVars_none hV
  obtain ⟨a0, rfl, rfl, rfl, w0⟩ := open_string Try.underlying9 (hval 0 9 v0 rfl rfl) h0
  obtain ⟨a1, rfl, rfl, rfl⟩ := open_bool Try.underlying4 (hval 1 4 v1 rfl rfl) h1
  clear hA0 hval0
  simp only [List.append_nil] at hW'
  refine (walk a0 a1 w0 W).mono fun e W' ⟨he, bel⟩ => ?_
  subst he
  exact ⟨_, rfl, _, _, _, [], _, [], hW', trodAll_mk1 (shut_bool Try.underlying4 _), (trodAll_cons_mk (shut_string Try.underlying9 w0) (trodAll_cons_mk (shut_bool Try.underlying4 _) trodAll_mk0)), rfl, bel.frame _, fun h => by cases h⟩

theorem over : Rows.prefixTextsRow.holds Try.pinned (OpenSpec.ofChange Rows.prefixTextsSpec) :=
  OpenClaim.holds_of_wide 7 Try.f7 rfl rfl rfl rfl rfl rfl rfl ⟨rfl, rfl, rfl, rfl, rfl⟩ rfl rfl rfl rfl rfl (by kernel_rfl) Try.func7 (by kernel_rfl)
    (of_decide_eq_true (by kernel_rfl)) (by unfold Func.isWrapper; first | (rw [if_pos (by decide +kernel)]; kernel_rfl) | (rw [if_neg (by decide +kernel)]; exact ⟨rfl, rfl⟩))
    (fun os started H enc _ => lifted os started H enc)

/-- ████ THE STATEMENT ████ -/
theorem proved : Rows.PrefixTextsSaid :=
  over
#print axioms proved
end Go.Proofs.Ytemleghledcclaa.prefixTexts
namespace Go.Proofs.Ytemleghledcclaa
theorem prefixTexts_holds : Rows.PrefixTextsSaid := prefixTexts.proved
end Go.Proofs.Ytemleghledcclaa
