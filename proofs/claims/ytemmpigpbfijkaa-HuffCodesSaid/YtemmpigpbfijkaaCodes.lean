/- Proved: aqueductlaw03.HuffCodes (every symbol's code is the chapter's) returns true for every int; no condition. -/
import Derived.Test.YtemmpigpbfijkaaRows
import Derived.Test.YtemmpigpbfijkaaR3
import Derived.WalkKit
import Derived.ProofKit
import Derived.OpenShut
import Derived.ShutString
namespace Go.Proofs.Ytemmpigpbfijkaa.huffCodes
open Go.ChangeShapes Go.WideShapes Go.ChangeAt Go.RowKit
open Go.ChangeMaps (open_string shut_string)
set_option linter.unusedVariables false      -- a walk need not use every 'w<i>' (that an integer argument fits its kind)

theorem own : ownKnob Try.prog.godebug = none := by kernel_rfl

theorem code_val (s : Int) (w : World) : Calls Try.prog 9 #[.int .i64 s] w fun e w' => e = .returned (codeVal s) ∧ Fr (fun _ => False) w w' := by
  by_cases h : 0 ≤ s ∧ s ≤ 256
  · obtain ⟨m, rfl⟩ : ∃ m : Nat, s = m := ⟨s.toNat, by omega⟩
    refine (code_ok m w (by omega)).mono ?_
    rintro e w' ⟨rfl, hf⟩
    exact ⟨by rw [codeVal_hit m (codeOf m).1 (codeOf m).2 (by omega) (by cases codeOf m; rfl)], hf⟩
  · refine (code_bad s w (by omega)).mono ?_
    rintro e w' ⟨rfl, hf⟩
    exact ⟨by simp [codeVal, codeAns, h], hf⟩

set_option maxRecDepth 100000 in
set_option maxHeartbeats 4000000 in
theorem walk (a0 : Int) (w0 : (Lit.int .i64 a0).wf = true) (w : World) :
    Calls Try.prog 3 #[.int .i64 a0] w fun e w' => e = .returned (.bool true) ∧ Below w.heap.size w w' := by
  have K1 : Hid (∀ w, Calls Try.prog 9 #[.int .i64 a0] w fun e w' => e = .returned (codeVal a0) ∧ Fr (fun _ => False) w w') := code_val a0
  have K2 : Hid (∀ w, Calls Try.prog 10 #[.int .i64 a0] w fun e w' => e = .returned (codeVal a0) ∧ Fr (fun _ => False) w w') := rcode_any a0
  have hv : ∃ x n f : Nat, codeVal a0 = .tuple #[.int .u32 x, .int .i64 n, .int .i64 f] := ⟨_, _, _, rfl⟩
  obtain ⟨x, n, f, hv⟩ := hv
  rw [hv] at K1 K2
  clear hv w0
  go_enter Try.func3, Try.ntmps3
  go_wp2_with (fail)
  refine (K1.out w).mono ?_
  rintro e w1 ⟨rfl, hf1⟩
  have HF1 : Hid (Fr (fun _ => False) w w1) := hf1
  clear hf1
  go_wp2_with (fail)
  refine (K2.out w1).mono ?_
  rintro e w2 ⟨rfl, hf2⟩
  have HF2 : Hid (Fr (fun _ => False) w1 w2) := hf2
  clear hf2
  go_wp2_with (fail)
  refine (awake_any w2).mono ?_
  rintro e w3 ⟨rfl, hf3⟩
  have HF3 : Hid (Fr (fun _ => False) w2 w3) := hf3
  clear hf3
  go_wp2_with (fail)
  go_ret
  exact ⟨rfl, ((HF1.out.trans HF2.out).trans HF3.out).below (fun _ _ => id)⟩

/-! ### THE ROW's STEP: WRITTEN OUT: LEAVE IT -/
set_option maxRecDepth 100000 in
theorem lifted (os : Os) (started : os.Started) (H : Type) (enc : TypeId × Value → H) :
    ReturnsInHanded {} Try.checked os 3 .any (Rows.huffCodesSpec.pre6 enc Try.prog Try.f3 Rows.huffCodesRow.domain false) (Rows.huffCodesSpec.post enc Try.prog Try.f3 false true false false) := by
  refine returnsInHanded_of_change (C := Try.checked) own started (by kernel_rfl) Try.func3
    (ChangeSpec.witness6 (enc := enc) (C := Try.checked) false ⟨#[], #[.int .i64 0], []⟩ 8 (by kernel_rfl) (by kernel_rfl) (by kernel_rfl) (by kernel_rfl)) ?_
  intro W base args ds gs before hval0 hW hcnd _
  have hval : ∀ (j : Nat) t v, Try.f3.params[j]? = some t → args[j]? = some v → Value.okWide Try.prog W .any base t v := hval0
  have hW' := hW
  obtain ⟨p, q, hA0, hV, rfl, hfz, hnd⟩ := hW
  have hA : DataW.TrodAll enc Try.prog W 0 (fun _ => true) true Try.f3.params.toList args.toList ds p := hA0
  rw [Try.params3] at hA hval
  obtain ⟨v0, vs0, d0, ds0, p0, q0, hargs, rfl, rfl, h0, r0⟩ := trodAll_cons hA
  obtain ⟨rfl, rfl, rfl⟩ := trodAll_nil r0
  obtain rfl : args = #[v0] := by cases args; simp_all
  obtain ⟨rfl, rfl⟩ := trodVars_none hV
  obtain ⟨a0, rfl, rfl, rfl, w0⟩ := open_int Try.underlying3 (hval 0 3 v0 rfl rfl) h0
  clear hA0 hval0
  simp only [List.append_nil] at hW'
  refine (walk a0 w0 W).mono fun e W' ⟨he, bel⟩ => ?_
  subst he
  exact ⟨_, rfl, _, _, _, [], _, [], hW', trodAll_mk1 (shut_bool Try.underlying4 _), (trodAll_cons_mk (shut_int Try.underlying3 w0) trodAll_mk0), rfl, bel.frame _, fun h => by cases h⟩

theorem over : Rows.huffCodesRow.holds Try.pinned (OpenSpec.ofChange Rows.huffCodesSpec) :=
  OpenClaim.holds_of_wide 3 Try.f3 rfl rfl rfl rfl rfl rfl rfl ⟨rfl, rfl, rfl, rfl, rfl⟩ rfl rfl rfl rfl rfl (by kernel_rfl) Try.func3 (by kernel_rfl)
    (of_decide_eq_true (by kernel_rfl)) (by unfold Func.isWrapper; first | (rw [if_pos (by decide +kernel)]; kernel_rfl) | (rw [if_neg (by decide +kernel)]; exact ⟨rfl, rfl⟩))
    (fun os started H enc _ => lifted os started H enc)

/-- ████ THE STATEMENT ████ -/
theorem proved : Rows.HuffCodesSaid :=
  over
#print axioms proved
end Go.Proofs.Ytemmpigpbfijkaa.huffCodes
namespace Go.Proofs.Ytemmpigpbfijkaa
theorem huffCodes_holds : Rows.HuffCodesSaid := huffCodes.proved
end Go.Proofs.Ytemmpigpbfijkaa
