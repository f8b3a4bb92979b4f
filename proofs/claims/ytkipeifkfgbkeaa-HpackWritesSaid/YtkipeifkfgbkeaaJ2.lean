/- Contract of the document's PutText (aqueductref04.PutText). -/
import Derived.Test.YtkipeifkfgbkeaaJ1
import Derived.Test.YtkipeifkfgbkeaaI2
import Derived.Test.YtkipeifkfgbkeaaR5
namespace Go.Proofs.Ytkipeifkfgbkeaa
open Go.RowKit
set_option maxRecDepth 100000
set_option maxHeartbeats 4000000
set_option linter.unusedVariables false

theorem rtext_long (s : ByteArray) (b : Bool) (w : World) (h : 16384 < s.size) (hm : s.size ≤ 9223372036854775807) : Calls Try.prog 45 #[.string s, .bool b] w fun e w' => e = .returned (.tuple #[.slice none 0 0, .int .i64 2]) ∧ w' = w := by
  have hi : (16384 : Int) < s.size := by omega
  go_enter Try.func45, Try.ntmps45
  go_wp2_with (fail)
  go_ret2
  exact ⟨rfl, rfl⟩

theorem rtext_ok (s : ByteArray) (b : Bool) (w : World) (h : s.size ≤ 16384) : Calls Try.prog 45 #[.string s, .bool b] w fun e w' => ∃ v, e = .returned (.tuple #[v, .int .i64 0]) ∧ Gath w w' v (putText (strB s) b) := by
  obtain ⟨i, hi1, hi2, hi3, hi4⟩ := info5
  have J1 : Hid (Try.prog.info? 5 = some i) := hi1
  have J2 : Hid (i.zero = some (.int .u8 0)) := hi2
  have J3 : Hid (i.size = 1) := hi3
  have J4 : Hid (i.bytes = 1) := hi4
  have hlong : ¬ (16384 : Int) < s.size := by omega
  obtain ⟨cap, w1, hcv, hsrc, hf1⟩ := bytes_of s w
  have HS : Hid (SrcAt w1 (some ⟨w.heap.size, 0, none⟩) (strB s)) := hsrc
  have HF1 : Hid (Fr (fun _ => False) w w1) := hf1
  have hle := encOut_le (strB s)
  have hSl := strB_len s
  obtain ⟨S, hS⟩ : ∃ S, S = strB s := ⟨_, rfl⟩
  have HSS : Hid (S = strB s) := hS
  rw [← hS] at HS hle hSl ⊢
  obtain ⟨n, hn⟩ : ∃ n, n = s.size := ⟨_, rfl⟩
  rw [← hn] at hcv hSl h hlong
  have hnn : s.size = n := hn.symm
  obtain ⟨L, hL⟩ : ∃ L, L = (encOut S).length := ⟨_, rfl⟩
  rw [← hL] at hle
  have HSl : Hid (S.length = n) := hSl
  have HL : Hid (L = (encOut S).length) := hL
  have hLb : L ≤ 65537 := by omega
  have HPT : Hid (∀ b, putText S b = if b = true ∧ L < n then putInt 128 7 L ++ encOut S else putInt 0 7 n ++ S) := by intro b; rw [putText, ← hL, hSl]
  have KE : Hid (Calls Try.prog 51 #[.slice (some ⟨w.heap.size, 0, none⟩) n cap] w1 fun e w' => ∃ v, e = .returned v ∧ Gath w1 w' v (encOut S)) := rencode_any _ n cap w1 S HS.out hSl (by omega)
  have B1 : Hid ((putInt 0 7 n).length + s.size ≤ 225179981368371) := by show _ ≤ _; have := putInt_len 0 7 n; omega
  have B2 : Hid ((putInt 128 7 L).length + L ≤ 225179981368371) := by show _ ≤ _; have := putInt_len 128 7 L; omega
  have KP0 : Hid (∀ w, Calls Try.prog 34 #[.int .u8 0, .int .i64 7, .int .i64 (n : Int)] w fun e w' => ∃ v, e = .returned (.tuple #[v, .int .i64 0]) ∧ Gath w w' v (putInt 0 7 n)) := fun w => rput_ok 0 7 n w (by decide) (by decide) (by decide) (by decide) (by omega)
  have KP1 : Hid (∀ w, Calls Try.prog 34 #[.int .u8 128, .int .i64 7, .int .i64 (L : Int)] w fun e w' => ∃ v, e = .returned (.tuple #[v, .int .i64 0]) ∧ Gath w w' v (putInt 128 7 L)) := fun w => rput_ok 128 7 L w (by decide) (by decide) (by decide) (by decide) (by omega)
  clear hi1 hi2 hi3 hi4 hsrc hf1 hL hle hSl hS hn
  cases b with
  | false =>
    have HD : Hid (putText S false = putInt 0 7 n ++ S) := by show _ = _; rw [HPT.out]; simp
    have HFW : Hid (Fr (fun _ => False) w w) := Fr.refl _ _
    clear hcv
    go_enter Try.func45, Try.ntmps45
    go_wp2_with (fail)
    refine (KP0.out _).mono ?_
    rintro e w3 ⟨v3, rfl, g3⟩
    obtain ⟨a3, c3, rfl, -⟩ := g3.1.form
    have HG3 : Hid (Gath w w3 (.slice a3 (bv (putInt 0 7 n)).length c3) (putInt 0 7 n)) := g3.old HFW.out
    clear g3
    go_wp2_with (at_builtin; refine wpList_gather_str rfl (.tmp 38) (.tmp 39) 35 9 rfl i Try.underlying35 Try.underlying9 J1.out J2.out J3.out J4.out (.slice a3 (bv (putInt 0 7 n)).length c3) (putInt 0 7 n) (by go_simp) HG3.out s (by go_simp) B1.out ?_; intro a4 n4 c4 w4 Hn4 G4 Hf4)
    have HG4 : Hid (Gath w w4 (.slice a4 n4 c4) (putInt 0 7 n ++ S)) := HSS.out ▸ G4
    clear G4
    go_wp2_with (fail)
    go_ret2
    exact ⟨_, rfl, HD.out ▸ HG4.out⟩
  | true =>
    by_cases hlt : L < n
    · have hlti : (L : Int) < n := by omega
      have HD : Hid (putText S true = putInt 128 7 L ++ encOut S) := by show _ = _; rw [HPT.out, if_pos ⟨rfl, hlt⟩]
      go_enter Try.func45, Try.ntmps45
      go_wp2_with (fail)
      refine KE.out.mono ?_
      rintro e w3 ⟨v3, rfl, g3⟩
      obtain ⟨a3, c3, rfl, -⟩ := g3.1.form
      simp only [bv_length, ← HL.out] at g3 ⊢
      have HG3 : Hid (Gath w1 w3 (.slice a3 L c3) (encOut S)) := g3
      have HF3 : Hid (Fr (fun _ => False) w w3) := HF1.out.trans g3.2.2
      clear g3
      go_wp2_with (fail)
      refine (KP1.out _).mono ?_
      rintro e w4 ⟨v4, rfl, g4⟩
      obtain ⟨a4, c4, rfl, -⟩ := g4.1.form
      have q4 : SrcAt w4 a3 (encOut S) := (own_src HG3.out.1).oldF g4.2.2
      have HG4 : Hid (Gath w w4 (.slice a4 (bv (putInt 128 7 L)).length c4) (putInt 128 7 L)) := g4.old HF3.out
      clear g4
      go_wp2_with (at_builtin; refine wpList_gather rfl (.tmp 29) (.tmp 30) 35 35 rfl i Try.underlying35 Try.underlying35 J1.out J2.out J3.out J4.out (.slice a4 (bv (putInt 128 7 L)).length c4) (putInt 128 7 L) (by go_simp) HG4.out a3 L c3 (by go_simp) (encOut S) q4 HL.out.symm B2.out ?_; intro a5 n5 c5 w5 Hn5 G5 Hf5)
      have HG5 : Hid (Gath w w5 (.slice a5 n5 c5) (putInt 128 7 L ++ encOut S)) := G5
      clear G5
      go_wp2_with (fail)
      go_ret2
      exact ⟨_, rfl, HD.out ▸ HG5.out⟩
    · have hlti : ¬ (L : Int) < n := by omega
      have HD : Hid (putText S true = putInt 0 7 n ++ S) := by show _ = _; rw [HPT.out, if_neg (fun h => hlt h.2)]
      go_enter Try.func45, Try.ntmps45
      go_wp2_with (fail)
      refine KE.out.mono ?_
      rintro e w2 ⟨v2, rfl, g2⟩
      obtain ⟨a2, c2, rfl, -⟩ := g2.1.form
      simp only [bv_length, ← HL.out] at g2 ⊢
      have HFW : Hid (Fr (fun _ => False) w w2) := HF1.out.trans g2.2.2
      clear g2
      go_wp2_with (fail)
      refine (KP0.out _).mono ?_
      rintro e w3 ⟨v3, rfl, g3⟩
      obtain ⟨a3, c3, rfl, -⟩ := g3.1.form
      have HG3 : Hid (Gath w w3 (.slice a3 (bv (putInt 0 7 n)).length c3) (putInt 0 7 n)) := g3.old HFW.out
      clear g3
      go_wp2_with (at_builtin; refine wpList_gather_str rfl (.tmp 38) (.tmp 39) 35 9 rfl i Try.underlying35 Try.underlying9 J1.out J2.out J3.out J4.out (.slice a3 (bv (putInt 0 7 n)).length c3) (putInt 0 7 n) (by go_simp) HG3.out s (by go_simp) B1.out ?_; intro a4 n4 c4 w4 Hn4 G4 Hf4)
      have HG4 : Hid (Gath w w4 (.slice a4 n4 c4) (putInt 0 7 n ++ S)) := HSS.out ▸ G4
      clear G4
      go_wp2_with (fail)
      go_ret2
      exact ⟨_, rfl, HD.out ▸ HG4.out⟩

end Go.Proofs.Ytkipeifkfgbkeaa
