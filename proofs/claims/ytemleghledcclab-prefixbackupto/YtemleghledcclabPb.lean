/- The walk of PrefixBack. -/
import Derived.Test.YtemleghledcclabS1
import Derived.Test.YtemleghledcclabI2a
namespace Go.Proofs.Ytemleghledcclab.prefixBack
open Go.RowKit
set_option maxRecDepth 100000
set_option maxHeartbeats 4000000
set_option linter.unusedVariables false

theorem walk (a0 : Option Addr) (len0 cap0 : Nat) (a1 : Option Addr) (len1 cap1 b0 f0 n0 : Nat) (s : ByteArray) (X0 X1 : List UInt8) (w : World) (h0 : SrcAt w a0 X0) (hl0 : X0.length = len0) (hm0 : len0 ≤ 1048576) (h1 : SrcAt w a1 X1) (hl1 : X1.length = len1) (hm1 : len1 ≤ 1048576) (hb0 : b0 < 256) (hf0 : f0 < 256) (hn0 : n0 < 4294967296) (hs0 : s.size ≤ 1048576) :
    Calls Try.prog 3 #[.slice a0 len0 cap0, .slice a1 len1 cap1, .int .u8 b0, .int .u8 f0, .int .u32 n0, .string s] w fun e w' => e = .returned (.bool true) ∧ Below w.heap.size w w' := by
  obtain ⟨i, hi1, hi2, hi3, hi4⟩ := info5
  have J1 : Hid (Try.prog.info? 5 = some i) := hi1
  have J2 : Hid (i.zero = some (.int .u8 0)) := hi2
  have J3 : Hid (i.size = 1) := hi3
  have J4 : Hid (i.bytes = 1) := hi4
  have HS0 : Hid (SrcAt w a0 X0) := h0
  have HS1 : Hid (SrcAt w a1 X1) := h1
  have HL0 : Hid (X0.length = len0) := hl0
  have HL1 : Hid (X1.length = len1) := hl1
  obtain ⟨b, hb⟩ : ∃ b, b = n0 % 2 := ⟨_, rfl⟩
  have hbi : (n0 : Int) % 2 = (b : Int) := by omega
  obtain ⟨kk, hkk⟩ : ∃ kk, kk = b0 % 8 := ⟨_, rfl⟩
  have hkki : (b0 : Int) % 8 = (kk : Int) := by omega
  obtain ⟨k, hk⟩ : ∃ k, k = kk + 1 := ⟨_, rfl⟩
  have hki : 1 + (kk : Int) = (k : Int) := by omega
  obtain ⟨v, hv⟩ : ∃ v, v = n0 % 2147483648 := ⟨_, rfl⟩
  have hvi : (n0 : Int) % 2147483648 = (v : Int) := by omega
  have hk1 : 1 ≤ k := by omega
  have hk8 : k ≤ 8 := by omega
  have hv31 : v ≤ 2147483647 := by omega
  obtain ⟨f, hf⟩ : ∃ f, f = f0 / 2 ^ k * 2 ^ k := ⟨_, rfl⟩
  have hfm : f % 2 ^ k = 0 := by rw [hf, Nat.mul_mod_left]
  have hf256 : f < 256 := by
    have : f0 / 2 ^ k * 2 ^ k ≤ f0 := Nat.div_mul_le_self _ _
    omega
  have HK1 : Hid (∀ w, Calls Try.prog 5 #[.int .u8 f, .int .i64 k, .int .i64 v] w fun e w' => ∃ v1, e = .returned (.tuple #[v1, .int .i64 0]) ∧ Gath w w' v1 (putInt f k v)) := fun w => put_ok f k v w hf256 hk1 hk8 hfm hv31
  have HBK : Hid (getOut (X0 ++ putInt f k v ++ X1) (X0.length : Int) k = (v, X0.length + (putInt f k v).length, 0)) := get_back X0 X1 f k v hf256 hk1 hk8 hfm hv31
  have hpos := putInt_pos f k v
  have hpl := putInt_len f k v
  have HF : Hid (f = f0 / 2 ^ k * 2 ^ k) := hf
  obtain ⟨X, hX⟩ : ∃ X, X = putInt f k v := ⟨_, rfl⟩
  rw [← hX] at HK1 HBK hpos hpl
  obtain ⟨L, hL⟩ : ∃ L, L = X.length := ⟨_, rfl⟩
  rw [← hL] at HBK hpos hpl
  rw [hl0] at HBK
  have HL : Hid (X.length = L) := hL.symm
  have hL0 : ¬ (L : Int) = 0 := by omega
  have hLb : L ≤ 16777300 := by omega
  have G0 : Hid (∀ w, Gath w (w.alloc (.cells #[] 5)) (.slice (some ⟨w.heap.size, 0, none⟩) 0 0) []) := fun w => Gath.start (Fr.refl _ _)
  have q0 : Hid (∀ w' (Z : List UInt8) (az : Option Addr), SrcAt w' az Z → SrcAt (w'.alloc (.cells #[] 5)) az Z) := fun w' Z az h => h.oldF ((Fr.refl _ _).alloc _)
  have HT3 : Hid (∀ bb, s.size ≤ 16384 → readText (X0 ++ putText (strB s) bb ++ X1) (len0 : Int) 16384 = (strB s, len0 + (putText (strB s) bb).length, 0)) := by
    intro bb h
    have := text_back X0 X1 (strB s) bb (by rw [strB_len]; exact h)
    rw [hl0] at this
    exact this
  have HTL : Hid (∀ bb, s.size ≤ 16384 → (putText (strB s) bb).length ≤ 100000) := by
    intro bb h
    have := putText_len (strB s) bb
    rw [strB_len] at this
    show _ ≤ _
    omega
  have K3 : Hid (∀ b w, s.size ≤ 16384 → Calls Try.prog 7 #[.string s, .bool b] w fun e w' => ∃ v, e = .returned (.tuple #[v, .int .i64 0]) ∧ Gath w w' v (putText (strB s) b)) := fun b w h => ptext_ok s b w h
  have K4 : Hid (∀ b w, 16384 < s.size → Calls Try.prog 7 #[.string s, .bool b] w fun e w' => e = .returned (.tuple #[.slice none 0 0, .int .i64 2]) ∧ w' = w) := fun b w h => ptext_long s b w h (by omega)
  have B1 : Hid (([] : List UInt8).length + len0 ≤ 140737488355328) := by show _ ≤ _; simp; omega
  have B2 : Hid (([] ++ X0).length + L ≤ 140737488355328) := by show _ ≤ _; simp; omega
  have B3 : Hid (([] ++ X0 ++ X).length + len1 ≤ 140737488355328) := by show _ ≤ _; simp; omega
  obtain ⟨lx, hlx⟩ : ∃ lx, lx = len0 + L := ⟨_, rfl⟩
  have hlxi : (len0 : Int) + L = (lx : Int) := by omega
  rw [← hlx] at HBK
  have KG : Hid (∀ w' a n c, Gath w w' (.slice a n c) ([] ++ X0 ++ X ++ X1) → Calls Try.prog 6 #[.slice a n c, .int .i64 (len0 : Int), .int .i64 k] w' fun e w2 => e = .returned (.tuple #[.int .i64 (v : Int), .int .i64 (lx : Int), .int .i64 0]) ∧ Fr (fun _ => False) w' w2) := by
    intro w' a n c g
    have hn := (own_len g.1).1
    have := get_any a n c (len0 : Int) (k : Int) w' (X0 ++ X ++ X1) (own_src g.1) (by rw [hn]; simp) (by rw [hn]; simp; omega)
    rw [HBK.out] at this
    exact this
  have hshort : ((b : Int) == 0) = (b == 0) := by
    have h2 : b = 0 ∨ b = 1 := by omega
    rcases h2 with h | h <;> rw [h] <;> rfl
  clear h0 h1 hi1 hi2 hi3 hi4 hl0 hl1 hkk hk hv hX hL hf hfm hpl hlx HBK
  obtain ⟨sh, hsh⟩ : ∃ sh : Bool, sh = (b == 0) := ⟨_, rfl⟩
  rw [← hsh] at hshort
  clear hb hsh
  go_enter Try.func3, Try.ntmps3
  by_cases hk7 : k < 8
  case' pos =>
    have hk7i : (k : Int) < 8 := by omega
    obtain ⟨P, hP⟩ : ∃ P, P = 2 ^ k := ⟨_, rfl⟩
    have hP7 : P ≤ 128 := by
      rw [hP]; exact Nat.le_trans (Nat.pow_le_pow_right (by omega) (show k ≤ 7 by omega)) (by decide)
    have hP1 : 1 ≤ P := by rw [hP]; exact Nat.two_pow_pos k
    have hPi : (2 : Int) ^ k = (P : Int) := by rw [hP]; push_cast; rfl
    obtain ⟨q, hq⟩ : ∃ q, q = f0 / P := ⟨_, rfl⟩
    have hqi : (f0 : Int) / P = (q : Int) := by rw [hq]; push_cast; rfl
    have hqP : (q : Int) * P = (f : Int) := by rw [HF.out, hq, hP]; push_cast; rfl
    have hPne : ¬ (P : Int) = 0 := by omega
    have hqb : q < 256 := by rw [hq]; exact Nat.lt_of_le_of_lt (Nat.div_le_self _ _) hf0
    clear hP hq
    go_wp2_with (fail)
  case' neg =>
    have hk7i : ¬ (k : Int) < 8 := by omega
    obtain rfl : k = 8 := by omega
    have hf0z : f = 0 := by rw [HF.out, show (2 : Nat) ^ 8 = 256 from rfl]; omega
    subst hf0z
    go_wp2_with (fail)
  all_goals
    refine (HK1.out w).mono ?_
    rintro e w1 ⟨v1, rfl, g1⟩
    obtain ⟨ax, cx, rfl, -⟩ := g1.1.form
    simp only [bv_length, HL.out] at g1 ⊢
    have E0 := G0.out w1
    have E1 := q0.out w1 X0 a0 (HS0.out.oldF g1.2.2)
    have HX1 : Hid (SrcAt w1 ax X) := own_src g1.1
    have HF1 : Hid (Fr (fun _ => False) w w1) := g1.2.2
    clear g1
    go_wp2_with (first | (at_builtin; refine wpList_gather rfl (.tmp 58) (.tmp 59) 22 22 rfl i Try.underlying22 Try.underlying22 J1.out J2.out J3.out J4.out (.slice (some ⟨w1.heap.size, 0, none⟩) 0 0) [] (by go_simp) E0 a0 len0 cap0 (by go_simp) X0 E1 HL0.out B1.out ?_; intro a2 n2 c2 w2 Hn2 G2 Hf2) | (at_builtin; refine wpList_gather rfl (.tmp 60) (.tmp 61) 22 22 rfl i Try.underlying22 Try.underlying22 J1.out J2.out J3.out J4.out (.slice a2 n2 c2) ([] ++ X0) (by go_simp) G2 ax L cx (by go_simp) X (HX1.out.oldF G2.2.2) HL.out B2.out ?_; intro a3 n3 c3 w3 Hn3 G3 Hf3) | (at_builtin; refine wpList_gather rfl (.tmp 62) (.tmp 63) 22 22 rfl i Try.underlying22 Try.underlying22 J1.out J2.out J3.out J4.out (.slice a3 n3 c3) ([] ++ X0 ++ X) (by go_simp) G3 a1 len1 cap1 (by go_simp) X1 ((HS1.out.oldF HF1.out).oldF G3.2.2) HL1.out B3.out ?_; intro a4 n4 c4 w4 Hn4 G4 Hf4))
    refine (KG.out w4 a4 n4 c4 (G4.old HF1.out)).mono ?_
    rintro e w5 ⟨rfl, hf5⟩
    have HF5 : Hid (Fr (fun _ => False) w w5) := (HF1.out.trans G4.2.2).trans hf5
    clear hf5 G2 G3 G4 E0 E1 Hn2 Hn3 Hn4 Hf2 Hf3 Hf4 HX1
    by_cases hs : s.size ≤ 16384
    · go_wp2_with (fail)
      refine (K3.out sh w5 hs).mono ?_
      have hr3 := HT3.out sh hs
      have hl3 := HTL.out sh hs
      obtain ⟨Y, hY⟩ : ∃ Y, Y = putText (strB s) sh := ⟨_, rfl⟩
      rw [← hY] at hr3 hl3 ⊢
      clear hY
      obtain ⟨M, hM⟩ : ∃ M, M = Y.length := ⟨_, rfl⟩
      rw [← hM] at hr3 hl3
      have HM : Hid (Y.length = M) := hM.symm
      clear hM
      obtain ⟨ly, hly⟩ : ∃ ly, ly = len0 + M := ⟨_, rfl⟩
      have hlyi : (len0 : Int) + M = (ly : Int) := by omega
      rw [← hly] at hr3
      have D2 : Hid (([] ++ X0).length + M ≤ 140737488355328) := by show _ ≤ _; have := HL0.out; simp; omega
      have D3 : Hid (([] ++ X0 ++ Y).length + len1 ≤ 140737488355328) := by show _ ≤ _; have := HL0.out; have := HM.out; simp; omega
      have KT : Hid (∀ w' a n c, Gath w w' (.slice a n c) ([] ++ X0 ++ Y ++ X1) → Calls Try.prog 9 #[.slice a n c, .int .i64 (len0 : Int), .int .i64 16384] w' fun e w2 => e = .returned (.tuple #[.string s, .int .i64 (ly : Int), .int .i64 0]) ∧ Fr (fun _ => False) w' w2) := by
        intro w' a n c g
        have hn := (own_len g.1).1
        have h1 := HL0.out
        have h2 := HL1.out
        have h3 := HM.out
        have := gtext_any a n c (len0 : Int) 16384 w' (X0 ++ Y ++ X1) (own_src g.1) (by rw [hn]; simp) (by rw [hn]; simp; omega)
        rw [hr3] at this
        unfold triT at this
        simp only [strB_back] at this
        exact this
      clear hly hr3
      rintro e w6 ⟨v6, rfl, g6⟩
      obtain ⟨ay, cy, rfl, -⟩ := g6.1.form
      simp only [bv_length, HM.out] at g6 ⊢
      have HF6 : Hid (Fr (fun _ => False) w w6) := HF5.out.trans g6.2.2
      have E0 := G0.out w6
      have E1 := q0.out w6 X0 a0 (HS0.out.oldF HF6.out)
      have HX1 : Hid (SrcAt w6 ay Y) := own_src g6.1
      clear g6
      go_wp2_with (first | (at_builtin; refine wpList_gather rfl (.tmp 107) (.tmp 108) 22 22 rfl i Try.underlying22 Try.underlying22 J1.out J2.out J3.out J4.out (.slice (some ⟨w6.heap.size, 0, none⟩) 0 0) [] (by go_simp) E0 a0 len0 cap0 (by go_simp) X0 E1 HL0.out B1.out ?_; intro a2 n2 c2 w2 Hn2 G2 Hf2) | (at_builtin; refine wpList_gather rfl (.tmp 109) (.tmp 110) 22 22 rfl i Try.underlying22 Try.underlying22 J1.out J2.out J3.out J4.out (.slice a2 n2 c2) ([] ++ X0) (by go_simp) G2 ay M cy (by go_simp) Y (HX1.out.oldF G2.2.2) HM.out D2.out ?_; intro a3 n3 c3 w3 Hn3 G3 Hf3) | (at_builtin; refine wpList_gather rfl (.tmp 111) (.tmp 112) 22 22 rfl i Try.underlying22 Try.underlying22 J1.out J2.out J3.out J4.out (.slice a3 n3 c3) ([] ++ X0 ++ Y) (by go_simp) G3 a1 len1 cap1 (by go_simp) X1 ((HS1.out.oldF HF6.out).oldF G3.2.2) HL1.out D3.out ?_; intro a4 n4 c4 w4 Hn4 G4 Hf4))
      refine (KT.out w4 a4 n4 c4 (G4.old HF6.out)).mono ?_
      rintro e w7 ⟨rfl, hf7⟩
      have HF7 : Hid (Fr (fun _ => False) w w7) := (HF6.out.trans G4.2.2).trans hf7
      clear hf7 G2 G3 G4 E0 E1 Hn2 Hn3 Hn4 Hf2 Hf3 Hf4 HX1
      go_wp2_with (fail)
      refine (pawake_any w7).mono ?_
      rintro e w8 ⟨rfl, hf8⟩
      have HF8 : Hid (Fr (fun _ => False) w w8) := HF7.out.trans hf8
      clear hf8
      go_wp2_with (fail)
      go_ret
      exact ⟨rfl, HF8.out.below (fun _ _ => id)⟩
    · have hsi : (16384 : Int) < s.size := by omega
      go_wp2_with (fail)
      refine (K4.out sh w5 (by omega)).mono ?_
      rintro e w6 ⟨rfl, rfl⟩
      go_wp2_with (fail)
      refine (pawake_any w6).mono ?_
      rintro e w8 ⟨rfl, hf8⟩
      have HF8 : Hid (Fr (fun _ => False) w w8) := HF5.out.trans hf8
      clear hf8
      go_wp2_with (fail)
      go_ret
      exact ⟨rfl, HF8.out.below (fun _ _ => id)⟩

end Go.Proofs.Ytemleghledcclab.prefixBack
