/- The walk of FieldBack. -/
import Derived.Test.YtdbffhgooomdnaaG1
namespace Go.Proofs.Ytdbffhgooomdnaa.fieldBack
open Go.RowKit
set_option linter.unusedVariables false

set_option maxRecDepth 100000 in
set_option maxHeartbeats 4000000 in
theorem walk (a0 : Option Addr) (len0 cap0 : Nat) (a1 : Option Addr) (len1 cap1 m : Nat) (X Z : List UInt8) (w : World) (h0 : SrcAt w a0 X) (hl0 : X.length = len0) (h1 : SrcAt w a1 Z) (hl1 : Z.length = len1) (hm : m < 4294967296) (hb0 : len0 ≤ 1048576) (hb1 : len1 ≤ 1048576) :
    Calls Try.prog 7 #[.slice a0 len0 cap0, .slice a1 len1 cap1, .int .u32 m] w fun e w' => e = .returned (.bool true) ∧ Below w.heap.size w w' := by
  obtain ⟨i, hi1, hi2, hi3, hi4⟩ := info5
  have J1 : Hid (Try.prog.info? 5 = some i) := hi1
  have J2 : Hid (i.zero = some (.int .u8 0)) := hi2
  have J3 : Hid (i.size = 1) := hi3
  have J4 : Hid (i.bytes = 1) := hi4
  have HL0 : Hid (X.length = len0) := hl0
  have HL1 : Hid (Z.length = len1) := hl1
  have B1 : Hid (([] : List UInt8).length + len0 ≤ 140737488355328) := by show _ ≤ _; simp; omega
  have B2 : Hid (([] ++ X).length + 4 ≤ 140737488355328) := by show _ ≤ _; simp; omega
  have B2' : Hid (([] ++ X).length + 3 ≤ 140737488355328) := by show _ ≤ _; simp; omega
  have B3 : Hid (∀ Y : List UInt8, Y.length ≤ 4 → (([] ++ X) ++ Y).length + len1 ≤ 140737488355328) := by intro Y hY; simp; omega
  have G0 : Gath w (w.alloc (.cells #[] 5)) (.slice (some ⟨w.heap.size, 0, none⟩) 0 0) [] := Gath.start (Fr.refl _ _)
  have q0 := G0.src h0
  clear hi1 hi2 hi3 hi4 hl0 hl1
  go_enter Try.func7, Try.ntmps7
  go_wp2_with (first | (at_builtin; refine wpList_gather rfl (.tmp 13) (.tmp 14) 22 22 rfl i Try.underlying22 Try.underlying22 J1.out J2.out J3.out J4.out (.slice (some ⟨w.heap.size, 0, none⟩) 0 0) [] (by go_simp) G0 a0 len0 cap0 (by go_simp) X q0 HL0.out B1.out ?_; intro a2 n2 c2 w2 Hn2 G2) | (go_at_call 23; refine (Put32 m _ hm).mono ?_; rintro e w3 ⟨⟨sp, c, rfl, hs3⟩, hf3⟩; have G3 := G2.fr hf3; clear G2 hf3) | (at_builtin; refine wpList_gather rfl (.tmp 15) (.tmp 17) 22 22 rfl i Try.underlying22 Try.underlying22 J1.out J2.out J3.out J4.out (.slice a2 n2 c2) ([] ++ X) (by go_simp) G3 sp 4 c (by go_simp) (be 4 m) hs3 (be_length _ _) B2.out ?_; intro a4 n4 c4 w4 Hn4 G4; have q4 := G4.src h1) | (at_builtin; refine wpList_gather rfl (.tmp 18) (.tmp 19) 22 22 rfl i Try.underlying22 Try.underlying22 J1.out J2.out J3.out J4.out (.slice a4 n4 c4) (([] ++ X) ++ be 4 m) (by go_simp) G4 a1 len1 cap1 (by go_simp) Z q4 HL1.out (B3.out _ (Nat.le_of_eq (be_length _ _))) ?_; intro a5 n5 c5 w5 Hn5 G5))
  have r1 : readOut 4 ([] ++ X ++ be 4 m ++ Z) (len0 : Int) = (m, (len0 : Int) + 4, 0) := by
    have := readOut_mid 4 X (be 4 m) Z (be_length _ _)
    rw [HL0.out, num_be] at this
    rw [List.nil_append, this, Nat.mod_eq_of_lt (by omega)]
    rfl
  have hn5 := Hn5.out
  refine (U32 a5 n5 c5 len0 w5 _ (own_src G5.1) (own_len G5.1).1.symm (by rw [hn5]; simp [be_length]; have := HL0.out; omega)).mono ?_
  rw [r1]
  rintro e w6 ⟨rfl, hf6⟩
  have G6 := G5.fr hf6
  clear hn5 Hn5 G5 hf6 r1 Hn4 G4 q4 G3 hs3 Hn2 q0 G0
  have R6 : Fr (fun k => w.heap.size ≤ k) w w6 := G6.2.2
  have HR6 : Hid (Fr (fun k => w.heap.size ≤ k) w w6) := R6
  clear G6 R6
  obtain ⟨t, ht⟩ : ∃ t : Nat, t = m % 16777216 := ⟨_, rfl⟩
  have hti : (m : Int) % 16777216 = (t : Int) := by omega
  have htl : t < 16777216 := by omega
  have hto : putOut 3 16777216 (t : Int) = (0, be 3 t) := by rw [putOut, if_neg (by omega)]; rfl
  clear ht
  go_wp2_with fail
  refine (Put24 t w6 (WalkArith.wf_i64 (by omega))).mono ?_
  rw [hto]
  rintro e w7 ⟨⟨sp, l, c, rfl, hl, hs7⟩, hf7⟩
  obtain rfl : l = 3 := by rw [← hl]; exact be_length 3 t
  have R7 : Fr (fun k => w.heap.size ≤ k) w w7 := HR6.out.trans (hf7.mono (fun _ _ e => e.elim))
  have h07 := h0.since R7
  have h17 := h1.since R7
  have HR7 : Hid (Fr (fun k => w.heap.size ≤ k) w w7) := R7
  have G0 : Gath w7 (w7.alloc (.cells #[] 5)) (.slice (some ⟨w7.heap.size, 0, none⟩) 0 0) [] := Gath.start (Fr.refl _ _)
  have q0 := G0.src h07
  clear R7 hf7 hl HR6 hto h0 h1
  go_wp2_with (first | (at_builtin; refine wpList_gather rfl (.tmp 53) (.tmp 54) 22 22 rfl i Try.underlying22 Try.underlying22 J1.out J2.out J3.out J4.out (.slice (some ⟨w7.heap.size, 0, none⟩) 0 0) [] (by go_simp) G0 a0 len0 cap0 (by go_simp) X q0 HL0.out B1.out ?_; intro a2 n2 c2 w2 Hn2 G2; have q2 := G2.src hs7) | (at_builtin; refine wpList_gather rfl (.tmp 55) (.tmp 56) 22 22 rfl i Try.underlying22 Try.underlying22 J1.out J2.out J3.out J4.out (.slice a2 n2 c2) ([] ++ X) (by go_simp) G2 sp 3 c (by go_simp) (be 3 t) q2 (be_length _ _) B2'.out ?_; intro a4 n4 c4 w4 Hn4 G4; have q4 := G4.src h17) | (at_builtin; refine wpList_gather rfl (.tmp 57) (.tmp 58) 22 22 rfl i Try.underlying22 Try.underlying22 J1.out J2.out J3.out J4.out (.slice a4 n4 c4) (([] ++ X) ++ be 3 t) (by go_simp) G4 a1 len1 cap1 (by go_simp) Z q4 HL1.out (B3.out _ (by rw [be_length]; omega)) ?_; intro a5 n5 c5 w5 Hn5 G5))
  have r1 : readOut 3 ([] ++ X ++ be 3 t ++ Z) (len0 : Int) = (t, (len0 : Int) + 3, 0) := by
    have := readOut_mid 3 X (be 3 t) Z (be_length _ _)
    rw [HL0.out, num_be] at this
    rw [List.nil_append, this, Nat.mod_eq_of_lt (by omega)]
    rfl
  have hn5 := Hn5.out
  refine (U24 a5 n5 c5 len0 w5 _ (own_src G5.1) (own_len G5.1).1.symm (by rw [hn5]; simp [be_length]; have := HL0.out; omega)).mono ?_
  rw [r1]
  rintro e w8 ⟨rfl, hf8⟩
  have HR8 : Hid (Fr (fun k => w.heap.size ≤ k) w w8) := HR7.out.trans ((G5.fr hf8).2.2.mono (fun k hk e => by have := HR7.out.size; omega))
  clear hn5 Hn5 G5 hf8 r1 Hn4 G4 q4 Hn2 q0 G0 q2 G2 hs7 h07 h17
  go_wp2
  go_ret
  exact ⟨rfl, HR8.out.below (fun k hk => by omega)⟩
end Go.Proofs.Ytdbffhgooomdnaa.fieldBack
