/- The walk of HuffDecodes. -/
import Derived.Test.YtcmdhdpedonihaaR7
import Derived.Test.YtcmdhdpedonihaaK4b
namespace Go.Proofs.Ytcmdhdpedonihaa
open Go.RowKit
set_option maxRecDepth 100000
set_option maxHeartbeats 4000000
set_option linter.unusedVariables false

/-- Place, error and bytes of an answer. -/
def decAns (len : Nat) (r : DR) : Int × Int × ByteArray := match r with
  | .inl Y => (0, 0, ⟨Y.toArray⟩)
  | .inr none => ((len : Int), 30, ⟨#[]⟩)
  | .inr (some n) => (((n / 8 : Nat) : Int), 31, ⟨#[]⟩)
/-- What both answer, in whatever world comes behind. -/
theorem decPost_split {w : World} {len : Nat} {r : DR} {e : Ending} {w' : World} (h : DecPost w len r e w') : ∃ (v : Value) (at_ er : Int) (s : ByteArray), e = .returned (.tuple #[v, .int .i64 at_, .int .i64 er]) ∧ Fr (fun _ => False) w w' ∧
    (∀ w2, Fr (fun _ => False) w' w2 → (convert 22 9 v).run Try.prog w2 = .ok (.string s) w2) ∧ (at_, er, s) = decAns len r := by
  cases r with
  | inl Y =>
    obtain ⟨v, rfl, g⟩ := h
    exact ⟨v, _, _, _, rfl, g.2.2, fun w2 hf => (g.fr hf).str, rfl⟩
  | inr oo =>
    cases oo with
    | none =>
      obtain ⟨rfl, hf⟩ := h
      exact ⟨_, _, _, _, rfl, hf, fun w2 _ => SrcAt.str (SrcAt.nil w2 none) rfl 0, rfl⟩
    | some n =>
      obtain ⟨rfl, hf⟩ := h
      exact ⟨_, _, _, _, rfl, hf, fun w2 _ => SrcAt.str (SrcAt.nil w2 none) rfl 0, rfl⟩

namespace huffDecodes
theorem walk (a0 : Option Addr) (len0 cap0 : Nat) (X : List UInt8) (w : World) (h0 : SrcAt w a0 X) (hl0 : X.length = len0) (hb0 : len0 ≤ 140737488351232) :
    Calls Try.prog 3 #[.slice a0 len0 cap0] w fun e w' => e = .returned (.bool true) ∧ Below w.heap.size w w' := by
  obtain ⟨i, hi1, hi2, hi3, hi4⟩ := info5
  have J1 : Hid (Try.prog.info? 5 = some i) := hi1
  have J2 : Hid (i.zero = some (.int .u8 0)) := hi2
  have J3 : Hid (i.size = 1) := hi3
  have J4 : Hid (i.bytes = 1) := hi4
  have HS0 : Hid (SrcAt w a0 X) := h0
  have HL0 : Hid (X.length = len0) := hl0
  have B1 : Hid (([] : List UInt8).length + len0 ≤ 225179981368371) := by show _ ≤ _; simp; omega
  have G0 : Gath w (w.alloc (.cells #[] 5)) (.slice (some ⟨w.heap.size, 0, none⟩) 0 0) [] := Gath.start (Fr.refl _ _)
  have q0 : SrcAt (w.alloc (.cells #[] 5)) a0 X := h0.oldF ((Fr.refl _ _).alloc _)
  clear h0 hl0 hi1 hi2 hi3 hi4
  go_enter Try.func3, Try.ntmps3
  go_wp2_with (at_builtin; refine wpList_gather rfl (.tmp 10) (.tmp 11) 22 22 rfl i Try.underlying22 Try.underlying22 J1.out J2.out J3.out J4.out (.slice (some ⟨w.heap.size, 0, none⟩) 0 0) [] (by go_simp) G0 a0 len0 cap0 (by go_simp) X q0 HL0.out B1.out ?_; intro a2 n2 c2 w2 Hn2 G2 Hf2)
  rw [List.nil_append] at G2
  have hn2 : X.length = n2 := (own_len G2.1).1.symm
  refine (decode_any a2 n2 c2 w2 X (own_src G2.1) hn2 (by have := HL0.out; omega)).mono ?_
  intro e w3 hp3
  obtain ⟨v3, at3, er3, s3, rfl, hf3, hc3, he3⟩ := decPost_split hp3
  rw [← hn2, HL0.out] at he3
  have HF3 : Hid (Fr (fun _ => False) w w3) := G2.2.2.trans hf3
  have HC3 : Hid (∀ w2, Fr (fun _ => False) w3 w2 → (convert 22 9 v3).run Try.prog w2 = .ok (.string s3) w2) := hc3
  have HE3 : Hid ((at3, er3, s3) = _) := he3
  clear hp3 hf3 hc3 he3 G2 Hf2 Hn2 G0 q0
  go_wp2_with (fail)
  refine (rdecode_any a0 len0 cap0 w3 X (HS0.out.oldF HF3.out) HL0.out (by omega)).mono ?_
  intro e w4 hp4
  obtain ⟨v4, at4, er4, s4, rfl, hf4, hc4, he4⟩ := decPost_split hp4
  rw [← HE3.out] at he4
  cases he4
  have k3 := HC3.out w4 hf4
  have k4 := hc4 w4 (Fr.refl _ _)
  have HF4 : Hid (Fr (fun _ => False) w w4) := HF3.out.trans hf4
  clear hf4 hc4 hp4 HE3 HC3
  go_wp2_with (fail)
  refine (awake_any _).mono ?_
  rintro e w6 ⟨rfl, hf6⟩
  have HF6 : Hid (Fr (fun _ => False) w w6) := HF4.out.trans hf6
  clear hf6
  go_wp2_with (fail)
  go_ret
  exact ⟨rfl, HF6.out.below (fun _ _ => id)⟩

end huffDecodes
end Go.Proofs.Ytcmdhdpedonihaa
