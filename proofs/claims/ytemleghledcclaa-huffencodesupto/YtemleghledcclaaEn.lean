/- The walk of HuffEncodes. -/
import Derived.Test.YtemleghledcclaaR5
import Derived.Test.YtemleghledcclaaE1
import Derived.Deep.RegionHeldLaw
import Derived.Test.YtemleghledcclaaK4b
namespace Go.Proofs.Ytemleghledcclaa.huffEncodes
open Go.RowKit
set_option maxRecDepth 100000
set_option maxHeartbeats 4000000
set_option linter.unusedVariables false

theorem encode_own' {w0 w : World} {a : Option Addr} {n c : Nat} {Y : List UInt8} (h : Gath w0 w (.slice a n c) Y) (hm : Y.length ≤ 1099511627776) : Calls Try.prog 9 #[.slice a n c] w fun e w' => ∃ v', e = .returned v' ∧ Gath w w' v' (encOut Y) :=
  encode_any a n c w Y (own_src h.1) (own_len h.1).1.symm (by rw [(own_len h.1).1]; exact hm)

theorem walk (a0 : Option Addr) (len0 cap0 : Nat) (X : List UInt8) (w : World) (h0 : SrcAt w a0 X) (hl0 : X.length = len0) (hb0 : len0 ≤ 1048576) :
    Calls Try.prog 3 #[.slice a0 len0 cap0] w fun e w' => e = .returned (.bool true) ∧ Below w.heap.size w w' := by
  obtain ⟨i, hi1, hi2, hi3, hi4⟩ := info5
  have J1 : Hid (Try.prog.info? 5 = some i) := hi1
  have J2 : Hid (i.zero = some (.int .u8 0)) := hi2
  have J3 : Hid (i.size = 1) := hi3
  have J4 : Hid (i.bytes = 1) := hi4
  have HS0 : Hid (SrcAt w a0 X) := h0
  have HL0 : Hid (X.length = len0) := hl0
  have B1 : Hid (([] : List UInt8).length + len0 ≤ 140737488355328) := by show _ ≤ _; simp; omega
  have G0 : Gath w (w.alloc (.cells #[] 5)) (.slice (some ⟨w.heap.size, 0, none⟩) 0 0) [] := Gath.start (Fr.refl _ _)
  have q0 : SrcAt (w.alloc (.cells #[] 5)) a0 X := h0.oldF ((Fr.refl _ _).alloc _)
  have hel := encOut_len X
  obtain ⟨L, hL⟩ : ∃ L, L = (sumBits X + 7) / 8 := ⟨_, rfl⟩
  rw [← hL] at hel
  have HEL : Hid ((encOut X).length = L) := hel
  have HLL : Hid (L = (sumBits X + 7) / 8) := hL
  clear h0 hl0 hi1 hi2 hi3 hi4 hel hL
  go_enter Try.func3, Try.ntmps3
  go_wp2_with (at_builtin; refine wpList_gather rfl (.tmp 4) (.tmp 5) 22 22 rfl i Try.underlying22 Try.underlying22 J1.out J2.out J3.out J4.out (.slice (some ⟨w.heap.size, 0, none⟩) 0 0) [] (by go_simp) G0 a0 len0 cap0 (by go_simp) X q0 HL0.out B1.out ?_; intro a2 n2 c2 w2 Hn2 G2 Hf2)
  rw [List.nil_append] at G2
  refine (encode_own' G2 (by rw [HL0.out]; omega)).mono ?_
  rintro e w3 ⟨v3, rfl, g3⟩
  obtain ⟨sp, cp, rfl, -⟩ := g3.1.form
  simp only [bv_length, HEL.out] at g3 ⊢
  have HG3 : Hid (Gath w w3 (.slice sp L cp) (encOut X)) := g3.old G2.2.2
  clear g3 G2 Hf2 Hn2 G0 q0
  have KE : Hid (∀ w', Fr (fun _ => False) w w' → Calls Try.prog 10 #[.slice a0 len0 cap0] w' fun e w2 => ∃ v, e = .returned v ∧ Gath w' w2 v (encOut X)) := fun w' hf => rencode_any a0 len0 cap0 w' X (HS0.out.oldF hf) HL0.out (by omega)
  have KL : Hid (∀ w', Fr (fun _ => False) w w' → Calls Try.prog 11 #[.slice a0 len0 cap0] w' fun e w2 => e = .returned (.int .i64 (L : Int)) ∧ Fr (fun _ => False) w' w2) := by
    intro w' hf
    have := length_any a0 len0 cap0 w' X (HS0.out.oldF hf) HL0.out (by omega)
    rw [← HLL.out] at this
    exact this
  have s3 : (convert 22 9 (.slice sp L cp)).run Try.prog w3 = .ok (.string ⟨(encOut X).toArray⟩) w3 := HG3.out.str
  have s3' : (convert 22 9 (.slice sp L cp)).run Try.prog w3.drew = .ok (.string ⟨(encOut X).toArray⟩) w3.drew := (HG3.out.fr ((Fr.refl _ _).drew)).str
  have KE' : Hid (Calls Try.prog 10 #[.slice a0 len0 cap0] w3.drew fun e w' => ∃ v4, e = .returned v4 ∧ (convert 22 9 v4).run Try.prog w' = .ok (.string ⟨(encOut X).toArray⟩) w' ∧ (convert 22 9 (.slice sp L cp)).run Try.prog w' = .ok (.string ⟨(encOut X).toArray⟩) w' ∧ Hid (Fr (fun _ => False) w w')) := by
    refine (KE.out _ (HG3.out.2.2.drew)).mono ?_
    rintro e w' ⟨v4, rfl, g4⟩
    exact ⟨v4, rfl, g4.str, ((HG3.out.fr ((Fr.refl _ _).drew)).fr g4.2.2).str, (HG3.out.2.2.drew).trans g4.2.2⟩
  go_wp2_with (fail)
  go_region_held_law (fun _ => True) (trivial) (first | (go_at_call 10; refine KE'.out.mono ?_; rintro e w4 ⟨v4, rfl, c4, c4', hf4⟩) | (go_at_call 11; refine (KL.out _ hf4.out).mono ?_; rintro e w5 ⟨rfl, hf5⟩; have HF5 : Hid (Fr (fun _ => False) w w5) := hf4.out.trans hf5) | (go_at_call 12; refine (awake_any _).mono ?_; rintro e w6 ⟨rfl, hf6⟩))
  all_goals
    have HF6 : Hid (Fr (fun _ => False) w w6) := HF5.out.trans hf6
    clear hf6
    go_wp2_with (fail)
    go_ret
    exact ⟨rfl, HF6.out.below (fun _ _ => id)⟩

end Go.Proofs.Ytemleghledcclaa.huffEncodes
