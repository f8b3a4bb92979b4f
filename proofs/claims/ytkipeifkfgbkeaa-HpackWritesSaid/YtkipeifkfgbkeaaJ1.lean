/- Texts: a string's bytes, gathered; contract of prefix.PutText. -/
import Derived.Test.YtkipeifkfgbkeaaI1
import Derived.Test.YtkipeifkfgbkeaaE1
import Derived.Laws.IdiomStrings
namespace Go.Proofs.Ytkipeifkfgbkeaa
open Go.RowKit
set_option maxRecDepth 100000
set_option maxHeartbeats 4000000
set_option linter.unusedVariables false

/-- A string's bytes. -/
def strB (s : ByteArray) : List UInt8 := s.data.toList
theorem strB_len (s : ByteArray) : (strB s).length = s.size := by unfold strB; rw [Array.length_toList]; rfl
theorem strB_back (s : ByteArray) : (⟨(strB s).toArray⟩ : ByteArray) = s := by cases s; simp [strB]
theorem bytes_of (s : ByteArray) (w : World) : ∃ cap w1, (convert 9 35 (.string s)).run Try.prog w = .ok (.slice (some ⟨w.heap.size, 0, none⟩) s.size cap) w1 ∧ SrcAt w1 (some ⟨w.heap.size, 0, none⟩) (strB s) ∧ Fr (fun _ => False) w w1 := by
  refine ⟨_, _, run_bytes_of_string w 9 35 5 s Try.underlying9 Try.underlying35 Try.underlying5, ?_, ((Fr.refl _ w).drew).alloc _⟩
  intro j c hj
  refine ⟨_, rfl, ?_⟩
  rw [add_none, Nat.zero_add]
  refine cell_of_heap (last_at _ rfl) ?_
  unfold strB at hj
  obtain ⟨hlt, he⟩ := List.getElem?_eq_some_iff.1 hj
  rw [bytesRow, Array.getElem?_append_left (by simpa using hlt)]
  rw [Array.getElem?_map, ← Array.getElem?_toList, hj]
  rfl
theorem byteCells_bv (s : ByteArray) : byteCells s = bv (strB s) := rfl

theorem wpList_gather_str {P : Program} {w0 w : World} {ops : Array Oper} {rest : List Oper} {o : Oper} {a : Act} {Q : Exit → Act → World → Prop} (hgd : o.guard = none) (s x : Operand) (t tx : TypeId)
    (ho : o.op = .call { callee := .builtin .append, args := #[s, x], argTypes := #[t, tx] })
    (i : TypeInfo) (ht : P.underlying t = some (.slice 5)) (htx : P.underlying tx = some .string) (hi : P.info? 5 = some i) (hz : i.zero = some (.int .u8 0)) (hsize : i.size = 1) (hby : i.bytes = 1)
    (v : Value) (xs : List UInt8) (hsv : a.eval s = v) (hown : Gath w0 w v xs) (S : ByteArray) (hxv : a.eval x = .string S) (hbytes : xs.length + S.size ≤ 225179981368371)
    (h : ∀ a' n' c' w', Hid (n' = xs.length + S.size) → Gath w0 w' (.slice a' n' c') (xs ++ strB S) → Hid (Fr (fun k => v.ownBlock = some k) w w') → wpList P ops Q rest (a.put o.dst (.slice a' n' c')) w') : wpList P ops Q (o :: rest) a w := by
  refine wpList_append_at hgd s x t tx ho 5 i (.int .u8 0) ht hi hz hsize rfl v (bv xs) hsv hown.1 (.string S) hxv S.size (byteCells S) (Src.ofString w htx S) (by rw [bv_length, hby]; omega) (by rw [bv_length]; unfold maxLen; omega) ?_
  intro a' c' w' h1 hf hk
  rw [bv_length] at h1 hk ⊢
  rw [byteCells_bv, ← bv_append] at h1
  have h2 : Fr (fun k => w0.heap.size ≤ k) w0 w' := (hown.2.2.mono (fun _ _ e => e.elim)).trans (hf.out.mono (fun k _ e => hown.2.1 k e))
  refine h a' _ c' w' rfl ⟨h1, fun k e => ?_, h2.mono (fun k hk e => by omega)⟩ hf
  rcases hk.out with h1 | ⟨k', h1, h2⟩
  · exact hown.2.1 k (h1 ▸ e)
  · rw [h1] at e
    cases e
    have := hown.2.2.size
    omega

/-- What PutText answers. -/
def putText (S : List UInt8) (short : Bool) : List UInt8 := if short = true ∧ (encOut S).length < S.length then putInt 128 7 (encOut S).length ++ encOut S else putInt 0 7 S.length ++ S
theorem encOut_le (S : List UInt8) : (encOut S).length ≤ 4 * S.length + 1 := by
  rw [encOut_len]
  have := (sumBits_le S).2
  omega

theorem ptext_long (s : ByteArray) (b : Bool) (w : World) (h : 16384 < s.size) (hm : s.size ≤ 9223372036854775807) : Calls Try.prog 48 #[.string s, .bool b] w fun e w' => e = .returned (.tuple #[.slice none 0 0, .int .i64 2]) ∧ w' = w := by
  have hi : (16384 : Int) < s.size := by omega
  go_enter Try.func48, Try.ntmps48
  go_wp2_with (fail)
  go_ret2
  exact ⟨rfl, rfl⟩

theorem ptext_ok (s : ByteArray) (b : Bool) (w : World) (h : s.size ≤ 16384) : Calls Try.prog 48 #[.string s, .bool b] w fun e w' => ∃ v, e = .returned (.tuple #[v, .int .i64 0]) ∧ Gath w w' v (putText (strB s) b) := by
  obtain ⟨i, hi1, hi2, hi3, hi4⟩ := info5
  have J1 : Hid (Try.prog.info? 5 = some i) := hi1
  have J2 : Hid (i.zero = some (.int .u8 0)) := hi2
  have J3 : Hid (i.size = 1) := hi3
  have J4 : Hid (i.bytes = 1) := hi4
  have hlong : ¬ (16384 : Int) < s.size := by omega
  obtain ⟨cap, w1, hcv, hsrc, hf1⟩ := bytes_of s w
  have HS : Hid (SrcAt w1 (some ⟨w.heap.size, 0, none⟩) (strB s)) := hsrc
  have HF1 : Hid (Fr (fun _ => False) w w1) := hf1
  have hle := encOut_le (strB s)
  have hEl := encOut_len (strB s)
  have hSl := strB_len s
  obtain ⟨S, hS⟩ : ∃ S, S = strB s := ⟨_, rfl⟩
  rw [← hS] at HS hle hEl hSl ⊢
  obtain ⟨n, hn⟩ : ∃ n, n = s.size := ⟨_, rfl⟩
  rw [← hn] at hcv hSl h hlong
  have hnn : s.size = n := hn.symm
  obtain ⟨L, hL⟩ : ∃ L, L = (encOut S).length := ⟨_, rfl⟩
  rw [← hL] at hle hEl
  have HSl : Hid (S.length = n) := hSl
  have HL : Hid (L = (encOut S).length) := hL
  have hLb : L ≤ 65537 := by omega
  have HPT : Hid (∀ b, putText S b = if b = true ∧ L < n then putInt 128 7 L ++ encOut S else putInt 0 7 n ++ S) := by intro b; rw [putText, ← hL, hSl]
  have KL : Hid (Calls Try.prog 53 #[.slice (some ⟨w.heap.size, 0, none⟩) n cap] w1 fun e w' => e = .returned (.int .i64 (L : Int)) ∧ Fr (fun _ => False) w1 w') := by
    have := length_any (some ⟨w.heap.size, 0, none⟩) n cap w1 S HS.out hSl (by omega)
    rw [← hEl] at this
    exact this
  have KE : Hid (∀ w2, Fr (fun _ => False) w1 w2 → Calls Try.prog 54 #[.slice (some ⟨w.heap.size, 0, none⟩) n cap] w2 fun e w' => ∃ v, e = .returned v ∧ Gath w2 w' v (encOut S)) := fun w2 hf => encode_any _ n cap w2 S (HS.out.oldF hf) hSl (by omega)
  have B1 : Hid ((putInt 0 7 n).length + n ≤ 225179981368371) := by show _ ≤ _; have := putInt_len 0 7 n; omega
  have B2 : Hid ((putInt 128 7 L).length + L ≤ 225179981368371) := by show _ ≤ _; have := putInt_len 128 7 L; omega
  have KP0 : Hid (∀ w, Calls Try.prog 40 #[.int .u8 0, .int .i64 7, .int .i64 (n : Int)] w fun e w' => ∃ v, e = .returned (.tuple #[v, .int .i64 0]) ∧ Gath w w' v (putInt 0 7 n)) := fun w => put_ok 0 7 n w (by decide) (by decide) (by decide) (by decide) (by omega)
  have KP1 : Hid (∀ w, Calls Try.prog 40 #[.int .u8 128, .int .i64 7, .int .i64 (L : Int)] w fun e w' => ∃ v, e = .returned (.tuple #[v, .int .i64 0]) ∧ Gath w w' v (putInt 128 7 L)) := fun w => put_ok 128 7 L w (by decide) (by decide) (by decide) (by decide) (by omega)
  clear hi1 hi2 hi3 hi4 hsrc hf1 hL hEl hle hSl hS hn
  cases b with
  | false =>
    have HD : Hid (putText S false = putInt 0 7 n ++ S) := by show _ = _; rw [HPT.out]; simp
    go_enter Try.func48, Try.ntmps48
    go_wp2_with (fail)
    have HSW : Hid (SrcAt w1 (some ⟨w.heap.size, 0, none⟩) S) := HS
    have HFW : Hid (Fr (fun _ => False) w w1) := HF1
    refine (KP0.out _).mono ?_
    rintro e w3 ⟨v3, rfl, g3⟩
    obtain ⟨a3, c3, rfl, -⟩ := g3.1.form
    have q3 : SrcAt w3 (some ⟨w.heap.size, 0, none⟩) S := HSW.out.oldF g3.2.2
    have HG3 : Hid (Gath w w3 (.slice a3 (bv (putInt 0 7 n)).length c3) (putInt 0 7 n)) := g3.old HFW.out
    clear g3
    go_wp2_with (at_builtin; refine wpList_gather rfl (.tmp 32) (.tmp 33) 35 35 rfl i Try.underlying35 Try.underlying35 J1.out J2.out J3.out J4.out (.slice a3 (bv (putInt 0 7 n)).length c3) (putInt 0 7 n) (by go_simp) HG3.out (some ⟨w.heap.size, 0, none⟩) n cap (by go_simp) S q3 HSl.out B1.out ?_; intro a4 n4 c4 w4 Hn4 G4 Hf4)
    have HG4 : Hid (Gath w w4 (.slice a4 n4 c4) (putInt 0 7 n ++ S)) := G4
    clear G4
    go_wp2_with (fail)
    go_ret2
    exact ⟨_, rfl, HD.out ▸ HG4.out⟩
  | true =>
    by_cases hlt : L < n
    · have hlti : (L : Int) < n := by omega
      have HD : Hid (putText S true = putInt 128 7 L ++ encOut S) := by show _ = _; rw [HPT.out, if_pos ⟨rfl, hlt⟩]
      go_enter Try.func48, Try.ntmps48
      go_wp2_with (fail)
      refine KL.out.mono ?_
      rintro e w2 ⟨rfl, hf2⟩
      have HF2 : Hid (Fr (fun _ => False) w1 w2) := hf2
      clear hf2
      go_wp2_with (fail)
      refine (KE.out w2 HF2.out).mono ?_
      rintro e w3 ⟨v3, rfl, g3⟩
      obtain ⟨a3, c3, rfl, -⟩ := g3.1.form
      simp only [bv_length, ← HL.out] at g3 ⊢
      have HG3 : Hid (Gath w2 w3 (.slice a3 L c3) (encOut S)) := g3
      have HF3 : Hid (Fr (fun _ => False) w w3) := (HF1.out.trans HF2.out).trans g3.2.2
      clear g3
      go_wp2_with (fail)
      refine (KP1.out _).mono ?_
      rintro e w4 ⟨v4, rfl, g4⟩
      obtain ⟨a4, c4, rfl, -⟩ := g4.1.form
      have q4 : SrcAt w4 a3 (encOut S) := (own_src HG3.out.1).oldF g4.2.2
      have HG4 : Hid (Gath w w4 (.slice a4 (bv (putInt 128 7 L)).length c4) (putInt 128 7 L)) := g4.old HF3.out
      clear g4
      go_wp2_with (at_builtin; refine wpList_gather rfl (.tmp 32) (.tmp 33) 35 35 rfl i Try.underlying35 Try.underlying35 J1.out J2.out J3.out J4.out (.slice a4 (bv (putInt 128 7 L)).length c4) (putInt 128 7 L) (by go_simp) HG4.out a3 L c3 (by go_simp) (encOut S) q4 HL.out.symm B2.out ?_; intro a5 n5 c5 w5 Hn5 G5 Hf5)
      have HG5 : Hid (Gath w w5 (.slice a5 n5 c5) (putInt 128 7 L ++ encOut S)) := G5
      clear G5
      go_wp2_with (fail)
      go_ret2
      exact ⟨_, rfl, HD.out ▸ HG5.out⟩
    · have hlti : ¬ (L : Int) < n := by omega
      have HD : Hid (putText S true = putInt 0 7 n ++ S) := by show _ = _; rw [HPT.out, if_neg (fun h => hlt h.2)]
      go_enter Try.func48, Try.ntmps48
      go_wp2_with (fail)
      refine KL.out.mono ?_
      rintro e w2 ⟨rfl, hf2⟩
      have HSW : Hid (SrcAt w2 (some ⟨w.heap.size, 0, none⟩) S) := HS.out.oldF hf2
      have HFW : Hid (Fr (fun _ => False) w w2) := HF1.out.trans hf2
      clear hf2
      go_wp2_with (fail)
      refine (KP0.out _).mono ?_
      rintro e w3 ⟨v3, rfl, g3⟩
      obtain ⟨a3, c3, rfl, -⟩ := g3.1.form
      have q3 : SrcAt w3 (some ⟨w.heap.size, 0, none⟩) S := HSW.out.oldF g3.2.2
      have HG3 : Hid (Gath w w3 (.slice a3 (bv (putInt 0 7 n)).length c3) (putInt 0 7 n)) := g3.old HFW.out
      clear g3
      go_wp2_with (at_builtin; refine wpList_gather rfl (.tmp 32) (.tmp 33) 35 35 rfl i Try.underlying35 Try.underlying35 J1.out J2.out J3.out J4.out (.slice a3 (bv (putInt 0 7 n)).length c3) (putInt 0 7 n) (by go_simp) HG3.out (some ⟨w.heap.size, 0, none⟩) n cap (by go_simp) S q3 HSl.out B1.out ?_; intro a4 n4 c4 w4 Hn4 G4 Hf4)
      have HG4 : Hid (Gath w w4 (.slice a4 n4 c4) (putInt 0 7 n ++ S)) := G4
      clear G4
      go_wp2_with (fail)
      go_ret2
      exact ⟨_, rfl, HD.out ▸ HG4.out⟩

end Go.Proofs.Ytkipeifkfgbkeaa
