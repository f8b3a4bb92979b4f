/- Proved: aqueductlaw04.PrefixLeast (no shorter bytes are read as the same integer; a short text is never longer than a plain one) returns true for every byte, every 32-bit number and every string; no condition. -/
import Derived.Test.YtemleghledcclabRows
import Derived.Test.YtemleghledcclabS1
import Derived.Test.YtemleghledcclabI2a
import Derived.WalkKit
import Derived.ProofKit
import Derived.OpenShut
import Derived.ShutString
namespace Go.Proofs.Ytemleghledcclab.prefixLeast
open Go.ChangeShapes Go.WideShapes Go.ChangeAt Go.RowKit
open Go.ChangeMaps (open_string shut_string)
set_option linter.unusedVariables false      -- a walk need not use every 'w<i>' (that an integer argument fits its kind)

theorem own : ownKnob Try.prog.godebug = none := by kernel_rfl

/-- A slice cut up to n. -/
theorem cut_to (P : Program) (t e : TypeId) (ht : P.underlying t = some (.slice e)) (hsz : (P.info? e).map (·.size) = some 1) (a : Option Addr) (len cap n : Nat) (k : IntKind) (hn : n ≤ cap) :
    ∀ w, (Instr.slice t (.slice a len cap) none (some (.int k (n : Int))) none).run P w = .ok (.slice a n cap) w := by
  intro w
  have hb := run_sliceBound (P := P) (w := w) k (n : Int) cap .sliceAcap (by omega) (by omega)
  cases hi : P.info? e with
  | none => simp [hi] at hsz
  | some i =>
  have hadd : ∀ x : Addr, x.add 0 = x := fun x => by unfold Addr.add; simp
  cases a <;> simp [Instr.slice, run_underlying ht, Instr.sliceBounds, hb, sizeOf, typeInfo, hi, hadd]
set_option maxRecDepth 100000 in
set_option maxHeartbeats 4000000 in
theorem walk (a0 : Int) (a1 : Int) (a2 : ByteArray) (w0 : (Lit.int .u8 a0).wf = true) (w1 : (Lit.int .u32 a1).wf = true) (w2 : a2.size ≤ maxLen) (w : World) :
    Calls Try.prog 4 #[.int .u8 a0, .int .u32 a1, .string a2] w fun e w' => e = .returned (.bool true) ∧ Below w.heap.size w w' := by
  obtain ⟨b0, rfl, hb0⟩ : ∃ f : Nat, a0 = f ∧ f < 256 := by
    have h2 : IntKind.u8.min ≤ a0 ∧ a0 ≤ IntKind.u8.max := by simpa [Lit.wf] using w0
    simp [IntKind.min, IntKind.max, IntKind.signed, IntKind.bits] at h2
    exact ⟨a0.toNat, by omega, by omega⟩
  obtain ⟨n0, rfl, hn0⟩ : ∃ f : Nat, a1 = f ∧ f < 4294967296 := by
    have h2 : IntKind.u32.min ≤ a1 ∧ a1 ≤ IntKind.u32.max := by simpa [Lit.wf] using w1
    simp [IntKind.min, IntKind.max, IntKind.signed, IntKind.bits] at h2
    exact ⟨a1.toNat, by omega, by omega⟩
  unfold maxLen at w2
  obtain ⟨kk, hkk⟩ : ∃ kk, kk = b0 % 8 := ⟨_, rfl⟩
  have hkki : (b0 : Int) % 8 = (kk : Int) := by omega
  obtain ⟨k, hk⟩ : ∃ k, k = kk + 1 := ⟨_, rfl⟩
  have hki : 1 + (kk : Int) = (k : Int) := by omega
  obtain ⟨v, hv⟩ : ∃ v, v = n0 % 2147483648 := ⟨_, rfl⟩
  have hvi : (n0 : Int) % 2147483648 = (v : Int) := by omega
  have hk1 : 1 ≤ k := by omega
  have hk8 : k ≤ 8 := by omega
  have hv31 : v ≤ 2147483647 := by omega
  have K1 : Hid (∀ w, Calls Try.prog 5 #[.int .u8 0, .int .i64 k, .int .i64 v] w fun e w' => ∃ v1, e = .returned (.tuple #[v1, .int .i64 0]) ∧ Gath w w' v1 (putInt 0 k v)) := fun w => put_ok 0 k v w (by decide) hk1 hk8 (Nat.zero_mod _) hv31
  have hcut := get_cut k v hk1 hk8 hv31
  have hpos := putInt_pos 0 k v
  have hpl := putInt_len 0 k v
  obtain ⟨X, hX⟩ : ∃ X, X = putInt 0 k v := ⟨_, rfl⟩
  rw [← hX] at K1 hcut hpos hpl
  obtain ⟨L, hL⟩ : ∃ L, L = X.length := ⟨_, rfl⟩
  rw [← hL] at hcut hpos hpl
  obtain ⟨m, hm⟩ : ∃ m, m = L - 1 := ⟨_, rfl⟩
  have hmi : (L : Int) - 1 = (m : Int) := by omega
  rw [← hm] at hcut
  have HCUT : Hid (getOut X.dropLast (0 : Int) k = (0, m, 3)) := hcut
  have HDL : Hid (X.dropLast = X.take m ∧ X.dropLast.length = m) := ⟨by rw [List.dropLast_eq_take, ← hL, hm], by rw [List.length_dropLast, ← hL, hm]⟩
  have HL : Hid (L = X.length) := hL
  have hL1 : ¬ (L : Int) < 1 := by omega
  have hLb : L ≤ 16777300 := by omega
  have K3 : Hid (∀ b w, a2.size ≤ 16384 → Calls Try.prog 7 #[.string a2, .bool b] w fun e w' => ∃ v, e = .returned (.tuple #[v, .int .i64 0]) ∧ Gath w w' v (putText (strB a2) b)) := fun b w h => ptext_ok a2 b w h
  have K4 : Hid (∀ b w, 16384 < a2.size → Calls Try.prog 7 #[.string a2, .bool b] w fun e w' => e = .returned (.tuple #[.slice none 0 0, .int .i64 2]) ∧ w' = w) := fun b w h => ptext_long a2 b w h w2
  have HLE : Hid ((putText (strB a2) true).length ≤ (putText (strB a2) false).length) := putText_least (strB a2)
  have HLN := putText_len (strB a2) false
  rw [strB_len] at HLN
  clear w0 w1 hkk hk hv hX hL hcut hpl hm
  have KW : Hid (∀ w1 a1 c1, Gath w w1 (.slice a1 L c1) X → (∀ w2, (Instr.slice 22 (.slice a1 L c1) none (some (.int .i64 (m : Int))) none).run Try.prog w2 = .ok (.slice a1 m c1) w2) ∧ Calls Try.prog 6 #[.slice a1 m c1, .int .i64 0, .int .i64 k] w1 fun e w' => e = .returned (.tuple #[.int .i64 0, .int .i64 m, .int .i64 3]) ∧ Fr (fun _ => False) w1 w') := by
    intro w1 a1 c1 g
    have hlc := (own_len g.1).2
    refine ⟨cut_to Try.prog 22 5 Try.underlying22 (by kernel_rfl) a1 L c1 m .i64 (by omega), ?_⟩
    have hs : SrcAt w1 a1 X.dropLast := by rw [HDL.out.1]; exact (own_src g.1).take m
    have := get_any a1 m c1 0 k w1 X.dropLast hs HDL.out.2 (by omega)
    rw [HCUT.out] at this
    exact this
  go_enter Try.func4, Try.ntmps4
  go_wp2_with (fail)
  refine (K1.out w).mono ?_
  rintro e w1 ⟨v1, rfl, g1⟩
  obtain ⟨a1, c1, rfl, -⟩ := g1.1.form
  simp only [bv_length, ← HL.out] at g1 ⊢
  obtain ⟨hsl, hget⟩ := KW.out w1 a1 c1 g1
  have HGET : Hid (Calls _ _ _ _ _) := hget
  have HF1 : Hid (Fr (fun _ => False) w w1) := g1.2.2
  clear g1 hget KW
  go_wp2_with (fail)
  refine HGET.out.mono ?_
  rintro e w2 ⟨rfl, hf2⟩
  have HF2 : Hid (Fr (fun _ => False) w w2) := HF1.out.trans hf2
  clear hf2 HGET
  by_cases hs : a2.size ≤ 16384
  · go_wp2_with (fail)
    refine (K3.out true w2 hs).mono ?_
    rintro e w3 ⟨v3, rfl, g3⟩
    obtain ⟨a3, c3, rfl, -⟩ := g3.1.form
    have HF3 : Hid (Fr (fun _ => False) w w3) := HF2.out.trans g3.2.2
    have hl3 : (bv (putText (strB a2) true)).length = (putText (strB a2) true).length := bv_length _
    clear g3
    rw [hl3]
    go_wp2_with (fail)
    refine (K3.out false w3 hs).mono ?_
    rintro e w4 ⟨v4, rfl, g4⟩
    obtain ⟨a4, c4, rfl, -⟩ := g4.1.form
    have HF4 : Hid (Fr (fun _ => False) w w4) := HF3.out.trans g4.2.2
    have hl4 : (bv (putText (strB a2) false)).length = (putText (strB a2) false).length := bv_length _
    clear g4
    rw [hl4]
    have hle := HLE.out
    obtain ⟨p1, hp1⟩ : ∃ p1, p1 = (putText (strB a2) true).length := ⟨_, rfl⟩
    obtain ⟨p2, hp2⟩ : ∃ p2, p2 = (putText (strB a2) false).length := ⟨_, rfl⟩
    rw [← hp1] at hle ⊢
    rw [← hp2] at hle HLN ⊢
    have hlei : (p1 : Int) ≤ p2 := by omega
    clear hp1 hp2 hl3 hl4 HLE
    go_wp2_with (fail)
    refine (pawake_any w4).mono ?_
    rintro e w5 ⟨rfl, hf5⟩
    have HF5 : Hid (Fr (fun _ => False) w w5) := HF4.out.trans hf5
    clear hf5
    go_wp2_with (fail)
    go_ret
    exact ⟨rfl, HF5.out.below (fun _ _ => id)⟩
  · go_wp2_with (fail)
    refine (K4.out true w2 (by omega)).mono ?_
    rintro e w3 ⟨rfl, rfl⟩
    go_wp2_with (fail)
    refine (K4.out false w3 (by omega)).mono ?_
    rintro e w4 ⟨rfl, rfl⟩
    go_wp2_with (fail)
    refine (pawake_any w4).mono ?_
    rintro e w5 ⟨rfl, hf5⟩
    have HF5 : Hid (Fr (fun _ => False) w w5) := HF2.out.trans hf5
    clear hf5
    go_wp2_with (fail)
    go_ret
    exact ⟨rfl, HF5.out.below (fun _ _ => id)⟩

/-! ### THE ROW's STEP: WRITTEN OUT: LEAVE IT -/
set_option maxRecDepth 100000 in
theorem lifted (os : Os) (started : os.Started) (H : Type) (enc : TypeId × Value → H) :
    ReturnsInHanded {} Try.checked os 4 .any (Rows.prefixLeastSpec.pre6 enc Try.prog Try.f4 Rows.prefixLeastRow.domain false) (Rows.prefixLeastSpec.post enc Try.prog Try.f4 false true false false) := by
  refine returnsInHanded_of_change (C := Try.checked) own started (by kernel_rfl) Try.func4
    (ChangeSpec.witness6 (enc := enc) (C := Try.checked) false ⟨#[], #[.int .u8 0, .int .u32 0, .string ByteArray.empty], []⟩ 8 (by kernel_rfl) (by kernel_rfl) (by kernel_rfl) (by kernel_rfl)) ?_
  intro W base args ds gs before hval0 hW hcnd _
  have hval : ∀ (j : Nat) t v, Try.f4.params[j]? = some t → args[j]? = some v → Value.okWide Try.prog W .any base t v := hval0
  have hW' := hW
  obtain ⟨p, q, hA0, hV, rfl, hfz, hnd⟩ := hW
  have hA : DataW.TrodAll enc Try.prog W 0 (fun _ => true) true Try.f4.params.toList args.toList ds p := hA0
  rw [Try.params4] at hA hval
  obtain ⟨v0, vs0, d0, ds0, p0, q0, hargs, rfl, rfl, h0, r0⟩ := trodAll_cons hA
  obtain ⟨v1, vs1, d1, ds1, p1, q1, rfl, rfl, rfl, h1, r1⟩ := trodAll_cons r0
  obtain ⟨v2, vs2, d2, ds2, p2, q2, rfl, rfl, rfl, h2, r2⟩ := trodAll_cons r1
  obtain ⟨rfl, rfl, rfl⟩ := trodAll_nil r2
  obtain rfl : args = #[v0, v1, v2] := by cases args; simp_all
  obtain ⟨rfl, rfl⟩ := trodVars_none hV
  obtain ⟨a0, rfl, rfl, rfl, w0⟩ := open_int Try.underlying5 (hval 0 5 v0 rfl rfl) h0
  obtain ⟨a1, rfl, rfl, rfl, w1⟩ := open_int Try.underlying23 (hval 1 23 v1 rfl rfl) h1
  obtain ⟨a2, rfl, rfl, rfl, w2⟩ := open_string Try.underlying9 (hval 2 9 v2 rfl rfl) h2
  clear hA0 hval0
  simp only [List.append_nil] at hW'
  refine (walk a0 a1 a2 w0 w1 w2 W).mono fun e W' ⟨he, bel⟩ => ?_
  subst he
  exact ⟨_, rfl, _, _, _, [], _, [], hW', trodAll_mk1 (shut_bool Try.underlying4 _), (trodAll_cons_mk (shut_int Try.underlying5 w0) (trodAll_cons_mk (shut_int Try.underlying23 w1) (trodAll_cons_mk (shut_string Try.underlying9 w2) trodAll_mk0))), rfl, bel.frame _, fun h => by cases h⟩

theorem over : Rows.prefixLeastRow.holds Try.pinned (OpenSpec.ofChange Rows.prefixLeastSpec) :=
  OpenClaim.holds_of_wide 4 Try.f4 rfl rfl rfl rfl rfl rfl rfl ⟨rfl, rfl, rfl, rfl, rfl⟩ rfl rfl rfl rfl rfl (by kernel_rfl) Try.func4 (by kernel_rfl)
    (of_decide_eq_true (by kernel_rfl)) (by unfold Func.isWrapper; first | (rw [if_pos (by decide +kernel)]; kernel_rfl) | (rw [if_neg (by decide +kernel)]; exact ⟨rfl, rfl⟩))
    (fun os started H enc _ => lifted os started H enc)

/-- ████ THE STATEMENT ████ -/
theorem proved : Rows.PrefixLeastSaid :=
  over
#print axioms proved
end Go.Proofs.Ytemleghledcclab.prefixLeast
namespace Go.Proofs.Ytemleghledcclab
theorem prefixLeast_holds : Rows.PrefixLeastSaid := prefixLeast.proved
end Go.Proofs.Ytemleghledcclab
