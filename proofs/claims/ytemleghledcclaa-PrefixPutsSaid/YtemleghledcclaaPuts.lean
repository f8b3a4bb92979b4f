/- Proved: aqueductlaw04.PrefixPuts (prefix.Put answers what the document asks) returns true for every byte and every two ints; no condition. -/
import Derived.Test.YtemleghledcclaaRows
import Derived.Test.YtemleghledcclaaI2
import Derived.WalkKit
import Derived.ProofKit
import Derived.OpenShut
import Derived.ShutString
namespace Go.Proofs.Ytemleghledcclaa.prefixPuts
open Go.ChangeShapes Go.WideShapes Go.ChangeAt Go.RowKit
open Go.ChangeMaps (open_string shut_string)
set_option linter.unusedVariables false      -- a walk need not use every 'w<i>' (that an integer argument fits its kind)

theorem own : ownKnob Try.prog.godebug = none := by kernel_rfl

set_option maxRecDepth 100000 in
set_option maxHeartbeats 4000000 in
theorem walk (a0 : Int) (a1 : Int) (a2 : Int) (w0 : (Lit.int .u8 a0).wf = true) (w1 : (Lit.int .i64 a1).wf = true) (w2 : (Lit.int .i64 a2).wf = true) (w : World) :
    Calls Try.prog 5 #[.int .u8 a0, .int .i64 a1, .int .i64 a2] w fun e w' => e = .returned (.bool true) ∧ Below w.heap.size w w' := by
  obtain ⟨f, rfl, hf⟩ : ∃ f : Nat, a0 = f ∧ f < 256 := by
    have h2 : IntKind.u8.min ≤ a0 ∧ a0 ≤ IntKind.u8.max := by simpa [Lit.wf] using w0
    simp [IntKind.min, IntKind.max, IntKind.signed, IntKind.bits] at h2
    exact ⟨a0.toNat, by omega, by omega⟩
  clear w0 w1 w2
  by_cases hb : PutBad f a1 a2
  · have K1 : Hid (∀ w, Calls Try.prog 15 #[.int .u8 f, .int .i64 a1, .int .i64 a2] w fun e w' => e = .returned (.tuple #[.slice none 0 0, .int .i64 1]) ∧ w' = w) := fun w => put_bad f a1 a2 w hf hb
    have K2 : Hid (∀ w, Calls Try.prog 16 #[.int .u8 f, .int .i64 a1, .int .i64 a2] w fun e w' => e = .returned (.tuple #[.slice none 0 0, .int .i64 1]) ∧ w' = w) := fun w => rput_bad f a1 a2 w hf hb
    clear hb hf
    go_enter Try.func5, Try.ntmps5
    go_wp2_with (fail)
    refine (K1.out w).mono ?_
    rintro e w1 ⟨rfl, rfl⟩
    go_wp2_with (fail)
    refine (K2.out w1).mono ?_
    rintro e w2 ⟨rfl, rfl⟩
    have s1 : (convert 22 9 (.slice none 0 0)).run Try.prog w2 = .ok (.string ⟨#[]⟩) w2 := SrcAt.str (SrcAt.nil w2 none) rfl 0
    go_wp2_with (fail)
    refine (pawake_any w2).mono ?_
    rintro e w3 ⟨rfl, hf3⟩
    have HF3 : Hid (Fr (fun _ => False) w2 w3) := hf3
    clear hf3
    go_wp2_with (fail)
    go_ret
    exact ⟨rfl, HF3.out.below (fun _ _ => id)⟩
  · obtain ⟨k, n, rfl, rfl, hk1, hk8, hn, hz⟩ : ∃ k n : Nat, a1 = k ∧ a2 = n ∧ 1 ≤ k ∧ k ≤ 8 ∧ n ≤ 2147483647 ∧ f % 2 ^ k = 0 := by
      unfold PutBad at hb
      refine ⟨a1.toNat, a2.toNat, by omega, by omega, by omega, by omega, by omega, ?_⟩
      rcases Nat.decEq (f % 2 ^ a1.toNat) 0 with h | h
      · exact absurd (Or.inr (Or.inr (Or.inl ⟨a1.toNat, by omega, h⟩))) hb
      · exact h
    have K1 : Hid (∀ w, Calls Try.prog 15 #[.int .u8 f, .int .i64 k, .int .i64 n] w fun e w' => ∃ v, e = .returned (.tuple #[v, .int .i64 0]) ∧ Gath w w' v (putInt f k n)) := fun w => put_ok f k n w hf hk1 hk8 hz hn
    have K2 : Hid (∀ w, Calls Try.prog 16 #[.int .u8 f, .int .i64 k, .int .i64 n] w fun e w' => ∃ v, e = .returned (.tuple #[v, .int .i64 0]) ∧ Gath w w' v (putInt f k n)) := fun w => rput_ok f k n w hf hk1 hk8 hz hn
    clear hb hf hk1 hk8 hz hn
    go_enter Try.func5, Try.ntmps5
    go_wp2_with (fail)
    refine (K1.out w).mono ?_
    rintro e w1 ⟨v1, rfl, g1⟩
    have G1 : Hid (Gath w w1 v1 (putInt f k n)) := g1
    clear g1
    go_wp2_with (fail)
    refine (K2.out w1).mono ?_
    rintro e w2 ⟨v2, rfl, g2⟩
    have s1 := (G1.out.fr g2.2.2).str
    have s2 := g2.str
    have HF2 : Hid (Fr (fun _ => False) w w2) := G1.out.2.2.trans g2.2.2
    clear g2 G1
    go_wp2_with (fail)
    refine (pawake_any w2).mono ?_
    rintro e w3 ⟨rfl, hf3⟩
    have HF3 : Hid (Fr (fun _ => False) w2 w3) := hf3
    clear hf3
    go_wp2_with (fail)
    go_ret
    exact ⟨rfl, (HF2.out.trans HF3.out).below (fun _ _ => id)⟩

/-! ### THE ROW's STEP: WRITTEN OUT: LEAVE IT -/
set_option maxRecDepth 100000 in
theorem lifted (os : Os) (started : os.Started) (H : Type) (enc : TypeId × Value → H) :
    ReturnsInHanded {} Try.checked os 5 .any (Rows.prefixPutsSpec.pre6 enc Try.prog Try.f5 Rows.prefixPutsRow.domain false) (Rows.prefixPutsSpec.post enc Try.prog Try.f5 false true false false) := by
  refine returnsInHanded_of_change (C := Try.checked) own started (by kernel_rfl) Try.func5
    (ChangeSpec.witness6 (enc := enc) (C := Try.checked) false ⟨#[], #[.int .u8 0, .int .i64 0, .int .i64 0], []⟩ 8 (by kernel_rfl) (by kernel_rfl) (by kernel_rfl) (by kernel_rfl)) ?_
  intro W base args ds gs before hval0 hW hcnd _
  have hval : ∀ (j : Nat) t v, Try.f5.params[j]? = some t → args[j]? = some v → Value.okWide Try.prog W .any base t v := hval0
  have hW' := hW
  obtain ⟨p, q, hA0, hV, rfl, hfz, hnd⟩ := hW
  have hA : DataW.TrodAll enc Try.prog W 0 (fun _ => true) true Try.f5.params.toList args.toList ds p := hA0
  rw [Try.params5] at hA hval
  obtain ⟨v0, vs0, d0, ds0, p0, q0, hargs, rfl, rfl, h0, r0⟩ := trodAll_cons hA
  obtain ⟨v1, vs1, d1, ds1, p1, q1, rfl, rfl, rfl, h1, r1⟩ := trodAll_cons r0
  obtain ⟨v2, vs2, d2, ds2, p2, q2, rfl, rfl, rfl, h2, r2⟩ := trodAll_cons r1
  obtain ⟨rfl, rfl, rfl⟩ := trodAll_nil r2
  obtain rfl : args = #[v0, v1, v2] := by cases args; simp_all
  obtain ⟨rfl, rfl⟩ := trodVars_none hV
  obtain ⟨a0, rfl, rfl, rfl, w0⟩ := open_int Try.underlying5 (hval 0 5 v0 rfl rfl) h0
  obtain ⟨a1, rfl, rfl, rfl, w1⟩ := open_int Try.underlying3 (hval 1 3 v1 rfl rfl) h1
  obtain ⟨a2, rfl, rfl, rfl, w2⟩ := open_int Try.underlying3 (hval 2 3 v2 rfl rfl) h2
  clear hA0 hval0
  simp only [List.append_nil] at hW'
  refine (walk a0 a1 a2 w0 w1 w2 W).mono fun e W' ⟨he, bel⟩ => ?_
  subst he
  exact ⟨_, rfl, _, _, _, [], _, [], hW', trodAll_mk1 (shut_bool Try.underlying4 _), (trodAll_cons_mk (shut_int Try.underlying5 w0) (trodAll_cons_mk (shut_int Try.underlying3 w1) (trodAll_cons_mk (shut_int Try.underlying3 w2) trodAll_mk0))), rfl, bel.frame _, fun h => by cases h⟩

theorem over : Rows.prefixPutsRow.holds Try.pinned (OpenSpec.ofChange Rows.prefixPutsSpec) :=
  OpenClaim.holds_of_wide 5 Try.f5 rfl rfl rfl rfl rfl rfl rfl ⟨rfl, rfl, rfl, rfl, rfl⟩ rfl rfl rfl rfl rfl (by kernel_rfl) Try.func5 (by kernel_rfl)
    (of_decide_eq_true (by kernel_rfl)) (by unfold Func.isWrapper; first | (rw [if_pos (by decide +kernel)]; kernel_rfl) | (rw [if_neg (by decide +kernel)]; exact ⟨rfl, rfl⟩))
    (fun os started H enc _ => lifted os started H enc)

/-- ████ THE STATEMENT ████ -/
theorem proved : Rows.PrefixPutsSaid :=
  over
#print axioms proved
end Go.Proofs.Ytemleghledcclaa.prefixPuts
namespace Go.Proofs.Ytemleghledcclaa
theorem prefixPuts_holds : Rows.PrefixPutsSaid := prefixPuts.proved
end Go.Proofs.Ytemleghledcclaa
