/- The walk of HuffPads. -/
import Derived.Test.YtpofoilhiojifaaLB
import Derived.LoopN
namespace Go.Proofs.Ytpofoilhiojifaa.huffPads
open Go.RowKit
set_option maxRecDepth 100000
set_option maxHeartbeats 4000000
set_option linter.unusedVariables false

theorem sub_toNat (c : UInt8) (z : Nat) : (UInt8.ofNat (c.toNat - z)).toNat = c.toNat - z := by
  have := UInt8.toNat_lt c
  simp
  omega

theorem walk (a0 : Option Addr) (len0 cap0 bit : Nat) (X : List UInt8) (w : World) (h0 : SrcAt w a0 X) (hl0 : X.length = len0) (hb0 : len0 ≤ 1048576) (hbit : bit < 256) :
    Calls Try.prog 4 #[.slice a0 len0 cap0, .int .u8 bit] w fun e w' => e = .returned (.bool true) ∧ Below w.heap.size w w' := by
  obtain ⟨i, hi1, hi2, hi3, hi4⟩ := info5
  have J1 : Hid (Try.prog.info? 5 = some i) := hi1
  have J2 : Hid (i.zero = some (.int .u8 0)) := hi2
  have J3 : Hid (i.size = 1) := hi3
  have J4 : Hid (i.bytes = 1) := hi4
  have K1 : Hid (Calls Try.prog 6 #[.slice a0 len0 cap0] w fun e w' => ∃ v, e = .returned v ∧ Gath w w' v (encOut X)) := encode_any a0 len0 cap0 w X h0 hl0 (by omega)
  have hsb := (sumBits_le X).2
  have hEl := encOut_len X
  obtain ⟨n, hn⟩ : ∃ n, n = (encOut X).length := ⟨_, rfl⟩
  have hn2 : n ≤ 3932161 := by omega
  have HN : Hid (n = (encOut X).length) := hn
  obtain ⟨m, hm⟩ : ∃ m, m = sumBits X % 8 := ⟨_, rfl⟩
  have hm8 : m < 8 := by omega
  have HPN : Hid (padN (enc X).length = (8 - m) % 8) := by show _ = _; rw [enc_len, hm]; rfl
  have HNZ : Hid (m ≠ 0 → 0 < n) := by intro h; show 0 < n; omega
  have HM : Hid (m = sumBits X % 8) := hm
  have HS0 : Hid (SrcAt w a0 X) := h0
  have HL0 : Hid (X.length = len0) := hl0
  have B1 : Hid (([] : List UInt8).length + n ≤ 140737488355328) := by show _ ≤ _; simp; omega
  have B2 : Hid (([] ++ encOut X).length + 1 ≤ 140737488355328) := by show _ ≤ _; simp; omega
  clear h0 hl0 hi1 hi2 hi3 hi4 hEl hsb hn hm
  go_enter Try.func4, Try.ntmps4
  go_wp2_with (fail)
  refine K1.out.mono ?_
  rintro e w1 ⟨v1, rfl, g1⟩
  obtain ⟨sp, cp, rfl, -⟩ := g1.1.form
  simp only [bv_length, ← HN.out] at g1 ⊢
  have HG1 : Hid (Gath w w1 (.slice sp n cp) (encOut X)) := g1
  have HE1 : Hid (SrcAt w1 sp (encOut X)) := own_src g1.1
  have HF1 : Hid (Fr (fun _ => False) w w1) := g1.2.2
  have G0 : Gath w1 (w1.alloc (.cells #[] 5)) (.slice (some ⟨w1.heap.size, 0, none⟩) 0 0) [] := Gath.start (Fr.refl _ _)
  have q0 : SrcAt (w1.alloc (.cells #[] 5)) sp (encOut X) := HE1.out.oldF ((Fr.refl _ _).alloc _)
  clear g1 K1
  go_wp2_with (first | (at_builtin; refine wpList_gather rfl (.tmp 15) (.tmp 16) 22 22 rfl i Try.underlying22 Try.underlying22 J1.out J2.out J3.out J4.out (.slice (some ⟨w1.heap.size, 0, none⟩) 0 0) [] (by go_simp) G0 sp n cp (by go_simp) (encOut X) q0 HN.out.symm B1.out ?_; intro a2 n2 c2 w2 Hn2 G2 Hf2) | (at_builtin; refine wpList_gather rfl (.tmp 17) (.tmp 18) 22 22 rfl i Try.underlying22 Try.underlying22 J1.out J2.out J3.out J4.out (.slice a2 n2 c2) ([] ++ encOut X) (by go_simp) (G2.fr ((Fr.refl _ _).alloc _)) (some ⟨w2.heap.size, 0, none⟩) 1 1 (by go_simp) [255] (show SrcAt (w2.alloc (.cells #[.int .u8 255] 5)) (some ⟨w2.heap.size, 0, none⟩) [255] from src_one w2 255) rfl B2.out ?_; intro a3 n3 c3 w3 Hn3 G3 Hf3))
  refine (decode_own G3 (by simp; rw [← HN.out]; omega)).mono ?_
  rw [List.nil_append, pads1]
  rintro e w4 ⟨rfl, hf4⟩
  have hlen : (encOut X ++ [255]).length = n + 1 := by simp [← HN.out]
  rw [hlen]
  have HF4 : Hid (Fr (fun _ => False) w w4) := (HF1.out.trans G3.2.2).trans hf4
  have HE4 : Hid (SrcAt w4 sp (encOut X)) := (HE1.out.oldF G3.2.2).oldF hf4
  clear hf4 G3 G2 G0 q0 Hn2 Hf2 Hn3 Hf3 hlen
  go_wp2_with (fail)
  refine (lbits_any a0 len0 cap0 w4 X (HS0.out.oldF HF4.out) HL0.out (by omega)).mono ?_
  rw [← HM.out]
  rintro e w5 ⟨rfl, hf5⟩
  have HF5 : Hid (Fr (fun _ => False) w w5) := HF4.out.trans hf5
  have HE5 : Hid (SrcAt w5 sp (encOut X)) := HE4.out.oldF hf5
  clear hf5 HE4 HF4
  by_cases hm0 : m = 0
  · subst hm0
    go_wp2_with (fail)
    refine wp_loop_rounds 1 ?_
    rw [rounds_succ]
    go_wp2_with (fail)
    refine (awake_any _).mono ?_
    rintro e w6 ⟨rfl, hf6⟩
    have HF6 : Hid (Fr (fun _ => False) w w6) := HF5.out.trans hf6
    clear hf6
    go_wp2_with (fail)
    go_ret
    exact ⟨rfl, HF6.out.below (fun _ _ => id)⟩
  · have hmi : (0 : Int) < m := by omega
    obtain ⟨f, hf⟩ : ∃ f, f = 8 - m := ⟨_, rfl⟩
    have hfi : -(m : Int) + 8 = f := by omega
    have hneg : -(m : Int) < 0 := by omega
    have hfp : ¬ (f : Int) < 0 := by omega
    have hf0 : ¬ (f : Int) = 0 := by omega
    have hn0 : 0 < n := HNZ.out hm0
    have hni : ¬ (n : Int) = 0 := by omega
    have HFF : Hid (padN (enc X).length = f) := by show _ = _; rw [HPN.out]; omega
    have hf7 : f ≤ 7 := by omega
    have hf1 : 1 ≤ f := by omega
    clear hf
    have hfb : ((f : Int) == 0) = false := by simpa using hf0
    have hnb : ((n : Int) == 0) = false := by simpa using hni
    have hfd : decide ((f : Int) < 0) = false := decide_eq_false hfp
    go_wp2_with (fail)
    refine wp_loop_rounds 2 ?_
    rw [rounds_succ]
    go_wp2_with (fail)
    rw [rounds_succ]
    have G0 : Gath w5 (w5.alloc (.cells #[] 5)) (.slice (some ⟨w5.heap.size, 0, none⟩) 0 0) [] := Gath.start (Fr.refl _ _)
    have q0 : SrcAt (w5.alloc (.cells #[] 5)) sp (encOut X) := HE5.out.oldF ((Fr.refl _ _).alloc _)
    go_wp2_with (at_builtin; refine wpList_gather rfl (.tmp 48) (.tmp 49) 22 22 rfl i Try.underlying22 Try.underlying22 J1.out J2.out J3.out J4.out (.slice (some ⟨w5.heap.size, 0, none⟩) 0 0) [] (by go_simp) G0 sp n cp (by go_simp) (encOut X) q0 HN.out.symm B1.out ?_; intro a6 n6 c6 w6 Hn6 G6 Hf6)
    obtain ⟨B, c, hbc⟩ : ∃ B c, encOut X = B ++ [c] := by
      have hne : encOut X ≠ [] := by intro e; have := HN.out; rw [e] at this; simp at this; omega
      exact ⟨_, _, (List.dropLast_concat_getLast hne).symm⟩
    have hBl : B.length = n - 1 := by have := HN.out; rw [hbc] at this; simp at this; omega
    obtain ⟨j, hj⟩ : ∃ j, j = bit % f := ⟨_, rfl⟩
    have hjf : j < f := by rw [hj]; exact Nat.mod_lt _ (by omega)
    have hji : (bit : Int) % f = j := by rw [hj]; rfl
    obtain ⟨g6, o6, cap6, hv6, hc6, hz6⟩ := G6.1.cells (n - 1) (.int .u8 c.toNat) (by rw [List.nil_append, hbc, bv_append, List.getElem?_append_right (by rw [bv_length]; omega), bv_length, hBl]; simp [bv])
    have hl6 : (bv ([] ++ encOut X)).length = n := by rw [bv_length, List.nil_append, ← HN.out]
    rw [hl6] at hv6
    simp only [Value.slice.injEq] at hv6
    obtain ⟨rfl, rfl, rfl⟩ := hv6
    obtain ⟨q, hq⟩ : ∃ q, q = n6 - 1 := ⟨_, rfl⟩
    rw [← hq] at hc6 hz6 hBl
    have hqi : (n6 : Int) - 1 = q := by omega
    have hql : (q : Int) < n6 := by omega
    obtain ⟨c', hc'⟩ : ∃ c', c' = UInt8.ofNat (c.toNat - 2 ^ j) := ⟨_, rfl⟩
    have hcl := UInt8.toNat_lt c
    have hct : c'.toNat = c.toNat - 2 ^ j := by rw [hc']; exact sub_toNat c _
    obtain ⟨p1, p2⟩ := pads2 X B c c' j hbc (by rw [HFF.out]; exact hjf) hct
    have hsub : (c.toNat : Int) - ((2 ^ j : Nat) : Int) = (c'.toNat : Int) := by omega
    have hc6' : ∀ k, (w6.drewN k).cell? ⟨g6, o6 + q, none⟩ = some (.int .u8 c.toNat) := fun k => hc6
    have hown : OwnAt w6 5 (.slice (some ⟨g6, o6, none⟩) n6 c6) (bv (B ++ [c])) := by have := G6.1; rw [List.nil_append, hbc] at this; exact this
    have HOWN : Hid (OwnAt ((w6.setCell ⟨g6, o6 + q, none⟩ (.int .u8 c'.toNat)).drew) 5 (.slice (some ⟨g6, o6, none⟩) n6 c6) (bv (B ++ [c']))) := by
      show OwnAt _ _ _ _
      have h1 := own_set hown q (by simp; omega) c'
      rw [show (B ++ [c]).set q c' = B ++ [c'] by rw [List.set_append_right _ _ (by omega), hBl]; simp] at h1
      exact h1.fr ((Fr.refl (fun _ => False) _).drew) (fun _ _ => id)
    have HNEW : Hid (w5.heap.size ≤ g6) := G6.2.1 g6 rfl
    have HF6 : Hid (Fr (fun _ => False) w ((w6.setCell ⟨g6, o6 + q, none⟩ (.int .u8 c'.toNat)).drew)) := by
      have h1 : Fr (fun k => w.heap.size ≤ k) w w6 := (HF5.out.trans G6.2.2).mono (fun _ _ e => e.elim)
      have h2 := HF5.out.size
      exact (h1.setS (by have := HNEW.out; omega) (o6 + q) (.int .u8 c'.toNat)).drew.old
    have HP2 : Hid (dec [] (stream (B ++ [c'])) 0 = .inr none ∨ ∃ Y, dec [] (stream (B ++ [c'])) 0 = .inl Y ∧ Y ≠ X) := p2
    have HBL : Hid ((B ++ [c']).length = n6) := by show _ = _; simp; omega
    clear G6 Hf6 Hn6 G0 q0 hown p2 hc' hct hj hbc hBl hq hl6
    have h7 : j = 0 ∨ j = 1 ∨ j = 2 ∨ j = 3 ∨ j = 4 ∨ j = 5 ∨ j = 6 := by omega
    rcases h7 with rfl | rfl | rfl | rfl | rfl | rfl | rfl
    · have hsub1 : (c.toNat : Int) - 1 = (c'.toNat : Int) := by simpa using hsub
      clear hsub p1
      go_wp2_with (fail)
      go_region
      go_wp2_with (fail)
      refine (decode_any (some ⟨g6, o6, none⟩) n6 c6 _ (B ++ [c']) (own_src HOWN.out) HBL.out (by omega)).mono ?_
      rintro e w7 h7
      rcases HP2.out with hd | ⟨Y, hd, hY⟩
      · rw [hd] at h7
        obtain ⟨rfl, hf7⟩ := h7
        have HF7 : Hid (Fr (fun _ => False) w w7) := HF6.out.trans hf7
        clear hf7 hd
        go_wp2_with (fail)
        refine (awake_any _).mono ?_
        rintro e w8 ⟨rfl, hf8⟩
        have HF8 : Hid (Fr (fun _ => False) w w8) := HF7.out.trans hf8
        clear hf8
        go_wp2_with (fail)
        go_ret
        exact ⟨rfl, HF8.out.below (fun _ _ => id)⟩
      · rw [hd] at h7
        obtain ⟨v7, rfl, g7⟩ := h7
        have HF7 : Hid (Fr (fun _ => False) w w7) := HF6.out.trans g7.2.2
        have s1 := g7.str
        have s2 := SrcAt.str (HS0.out.oldF HF7.out) HL0.out cap0
        obtain ⟨S, hS⟩ : ∃ S : ByteArray, S = ⟨Y.toArray⟩ := ⟨_, rfl⟩
        obtain ⟨S', hS'⟩ : ∃ S' : ByteArray, S' = ⟨X.toArray⟩ := ⟨_, rfl⟩
        have hne : ¬ S.toList = S'.toList := by rw [hS, hS', ByteArray.toList_mk, ByteArray.toList_mk]; exact hY
        have hnb2 : (S.toList == S'.toList) = false := by simpa using hne
        rw [← hS] at s1
        rw [← hS'] at s2
        clear g7 hd hY hS hS'
        go_wp2_with (fail)
        refine (awake_any _).mono ?_
        rintro e w8 ⟨rfl, hf8⟩
        have HF8 : Hid (Fr (fun _ => False) w w8) := HF7.out.trans hf8
        clear hf8
        go_wp2_with (fail)
        go_ret
        exact ⟨by first | rfl | (show Ending.returned (.bool (!(S.toList == S'.toList))) = _; rw [hnb2]; rfl), HF8.out.below (fun _ _ => id)⟩
    · have hsub1 : (c.toNat : Int) - 2 = (c'.toNat : Int) := by simpa using hsub
      clear hsub p1
      go_wp2_with (fail)
      go_region
      go_wp2_with (fail)
      refine (decode_any (some ⟨g6, o6, none⟩) n6 c6 _ (B ++ [c']) (own_src HOWN.out) HBL.out (by omega)).mono ?_
      rintro e w7 h7
      rcases HP2.out with hd | ⟨Y, hd, hY⟩
      · rw [hd] at h7
        obtain ⟨rfl, hf7⟩ := h7
        have HF7 : Hid (Fr (fun _ => False) w w7) := HF6.out.trans hf7
        clear hf7 hd
        go_wp2_with (fail)
        refine (awake_any _).mono ?_
        rintro e w8 ⟨rfl, hf8⟩
        have HF8 : Hid (Fr (fun _ => False) w w8) := HF7.out.trans hf8
        clear hf8
        go_wp2_with (fail)
        go_ret
        exact ⟨rfl, HF8.out.below (fun _ _ => id)⟩
      · rw [hd] at h7
        obtain ⟨v7, rfl, g7⟩ := h7
        have HF7 : Hid (Fr (fun _ => False) w w7) := HF6.out.trans g7.2.2
        have s1 := g7.str
        have s2 := SrcAt.str (HS0.out.oldF HF7.out) HL0.out cap0
        obtain ⟨S, hS⟩ : ∃ S : ByteArray, S = ⟨Y.toArray⟩ := ⟨_, rfl⟩
        obtain ⟨S', hS'⟩ : ∃ S' : ByteArray, S' = ⟨X.toArray⟩ := ⟨_, rfl⟩
        have hne : ¬ S.toList = S'.toList := by rw [hS, hS', ByteArray.toList_mk, ByteArray.toList_mk]; exact hY
        have hnb2 : (S.toList == S'.toList) = false := by simpa using hne
        rw [← hS] at s1
        rw [← hS'] at s2
        clear g7 hd hY hS hS'
        go_wp2_with (fail)
        refine (awake_any _).mono ?_
        rintro e w8 ⟨rfl, hf8⟩
        have HF8 : Hid (Fr (fun _ => False) w w8) := HF7.out.trans hf8
        clear hf8
        go_wp2_with (fail)
        go_ret
        exact ⟨by first | rfl | (show Ending.returned (.bool (!(S.toList == S'.toList))) = _; rw [hnb2]; rfl), HF8.out.below (fun _ _ => id)⟩
    · have hsub1 : (c.toNat : Int) - 4 = (c'.toNat : Int) := by simpa using hsub
      clear hsub p1
      go_wp2_with (fail)
      go_region
      go_wp2_with (fail)
      refine (decode_any (some ⟨g6, o6, none⟩) n6 c6 _ (B ++ [c']) (own_src HOWN.out) HBL.out (by omega)).mono ?_
      rintro e w7 h7
      rcases HP2.out with hd | ⟨Y, hd, hY⟩
      · rw [hd] at h7
        obtain ⟨rfl, hf7⟩ := h7
        have HF7 : Hid (Fr (fun _ => False) w w7) := HF6.out.trans hf7
        clear hf7 hd
        go_wp2_with (fail)
        refine (awake_any _).mono ?_
        rintro e w8 ⟨rfl, hf8⟩
        have HF8 : Hid (Fr (fun _ => False) w w8) := HF7.out.trans hf8
        clear hf8
        go_wp2_with (fail)
        go_ret
        exact ⟨rfl, HF8.out.below (fun _ _ => id)⟩
      · rw [hd] at h7
        obtain ⟨v7, rfl, g7⟩ := h7
        have HF7 : Hid (Fr (fun _ => False) w w7) := HF6.out.trans g7.2.2
        have s1 := g7.str
        have s2 := SrcAt.str (HS0.out.oldF HF7.out) HL0.out cap0
        obtain ⟨S, hS⟩ : ∃ S : ByteArray, S = ⟨Y.toArray⟩ := ⟨_, rfl⟩
        obtain ⟨S', hS'⟩ : ∃ S' : ByteArray, S' = ⟨X.toArray⟩ := ⟨_, rfl⟩
        have hne : ¬ S.toList = S'.toList := by rw [hS, hS', ByteArray.toList_mk, ByteArray.toList_mk]; exact hY
        have hnb2 : (S.toList == S'.toList) = false := by simpa using hne
        rw [← hS] at s1
        rw [← hS'] at s2
        clear g7 hd hY hS hS'
        go_wp2_with (fail)
        refine (awake_any _).mono ?_
        rintro e w8 ⟨rfl, hf8⟩
        have HF8 : Hid (Fr (fun _ => False) w w8) := HF7.out.trans hf8
        clear hf8
        go_wp2_with (fail)
        go_ret
        exact ⟨by first | rfl | (show Ending.returned (.bool (!(S.toList == S'.toList))) = _; rw [hnb2]; rfl), HF8.out.below (fun _ _ => id)⟩
    · have hsub1 : (c.toNat : Int) - 8 = (c'.toNat : Int) := by simpa using hsub
      clear hsub p1
      go_wp2_with (fail)
      go_region
      go_wp2_with (fail)
      refine (decode_any (some ⟨g6, o6, none⟩) n6 c6 _ (B ++ [c']) (own_src HOWN.out) HBL.out (by omega)).mono ?_
      rintro e w7 h7
      rcases HP2.out with hd | ⟨Y, hd, hY⟩
      · rw [hd] at h7
        obtain ⟨rfl, hf7⟩ := h7
        have HF7 : Hid (Fr (fun _ => False) w w7) := HF6.out.trans hf7
        clear hf7 hd
        go_wp2_with (fail)
        refine (awake_any _).mono ?_
        rintro e w8 ⟨rfl, hf8⟩
        have HF8 : Hid (Fr (fun _ => False) w w8) := HF7.out.trans hf8
        clear hf8
        go_wp2_with (fail)
        go_ret
        exact ⟨rfl, HF8.out.below (fun _ _ => id)⟩
      · rw [hd] at h7
        obtain ⟨v7, rfl, g7⟩ := h7
        have HF7 : Hid (Fr (fun _ => False) w w7) := HF6.out.trans g7.2.2
        have s1 := g7.str
        have s2 := SrcAt.str (HS0.out.oldF HF7.out) HL0.out cap0
        obtain ⟨S, hS⟩ : ∃ S : ByteArray, S = ⟨Y.toArray⟩ := ⟨_, rfl⟩
        obtain ⟨S', hS'⟩ : ∃ S' : ByteArray, S' = ⟨X.toArray⟩ := ⟨_, rfl⟩
        have hne : ¬ S.toList = S'.toList := by rw [hS, hS', ByteArray.toList_mk, ByteArray.toList_mk]; exact hY
        have hnb2 : (S.toList == S'.toList) = false := by simpa using hne
        rw [← hS] at s1
        rw [← hS'] at s2
        clear g7 hd hY hS hS'
        go_wp2_with (fail)
        refine (awake_any _).mono ?_
        rintro e w8 ⟨rfl, hf8⟩
        have HF8 : Hid (Fr (fun _ => False) w w8) := HF7.out.trans hf8
        clear hf8
        go_wp2_with (fail)
        go_ret
        exact ⟨by first | rfl | (show Ending.returned (.bool (!(S.toList == S'.toList))) = _; rw [hnb2]; rfl), HF8.out.below (fun _ _ => id)⟩
    · have hsub1 : (c.toNat : Int) - 16 = (c'.toNat : Int) := by simpa using hsub
      clear hsub p1
      go_wp2_with (fail)
      go_region
      go_wp2_with (fail)
      refine (decode_any (some ⟨g6, o6, none⟩) n6 c6 _ (B ++ [c']) (own_src HOWN.out) HBL.out (by omega)).mono ?_
      rintro e w7 h7
      rcases HP2.out with hd | ⟨Y, hd, hY⟩
      · rw [hd] at h7
        obtain ⟨rfl, hf7⟩ := h7
        have HF7 : Hid (Fr (fun _ => False) w w7) := HF6.out.trans hf7
        clear hf7 hd
        go_wp2_with (fail)
        refine (awake_any _).mono ?_
        rintro e w8 ⟨rfl, hf8⟩
        have HF8 : Hid (Fr (fun _ => False) w w8) := HF7.out.trans hf8
        clear hf8
        go_wp2_with (fail)
        go_ret
        exact ⟨rfl, HF8.out.below (fun _ _ => id)⟩
      · rw [hd] at h7
        obtain ⟨v7, rfl, g7⟩ := h7
        have HF7 : Hid (Fr (fun _ => False) w w7) := HF6.out.trans g7.2.2
        have s1 := g7.str
        have s2 := SrcAt.str (HS0.out.oldF HF7.out) HL0.out cap0
        obtain ⟨S, hS⟩ : ∃ S : ByteArray, S = ⟨Y.toArray⟩ := ⟨_, rfl⟩
        obtain ⟨S', hS'⟩ : ∃ S' : ByteArray, S' = ⟨X.toArray⟩ := ⟨_, rfl⟩
        have hne : ¬ S.toList = S'.toList := by rw [hS, hS', ByteArray.toList_mk, ByteArray.toList_mk]; exact hY
        have hnb2 : (S.toList == S'.toList) = false := by simpa using hne
        rw [← hS] at s1
        rw [← hS'] at s2
        clear g7 hd hY hS hS'
        go_wp2_with (fail)
        refine (awake_any _).mono ?_
        rintro e w8 ⟨rfl, hf8⟩
        have HF8 : Hid (Fr (fun _ => False) w w8) := HF7.out.trans hf8
        clear hf8
        go_wp2_with (fail)
        go_ret
        exact ⟨by first | rfl | (show Ending.returned (.bool (!(S.toList == S'.toList))) = _; rw [hnb2]; rfl), HF8.out.below (fun _ _ => id)⟩
    · have hsub1 : (c.toNat : Int) - 32 = (c'.toNat : Int) := by simpa using hsub
      clear hsub p1
      go_wp2_with (fail)
      go_region
      go_wp2_with (fail)
      refine (decode_any (some ⟨g6, o6, none⟩) n6 c6 _ (B ++ [c']) (own_src HOWN.out) HBL.out (by omega)).mono ?_
      rintro e w7 h7
      rcases HP2.out with hd | ⟨Y, hd, hY⟩
      · rw [hd] at h7
        obtain ⟨rfl, hf7⟩ := h7
        have HF7 : Hid (Fr (fun _ => False) w w7) := HF6.out.trans hf7
        clear hf7 hd
        go_wp2_with (fail)
        refine (awake_any _).mono ?_
        rintro e w8 ⟨rfl, hf8⟩
        have HF8 : Hid (Fr (fun _ => False) w w8) := HF7.out.trans hf8
        clear hf8
        go_wp2_with (fail)
        go_ret
        exact ⟨rfl, HF8.out.below (fun _ _ => id)⟩
      · rw [hd] at h7
        obtain ⟨v7, rfl, g7⟩ := h7
        have HF7 : Hid (Fr (fun _ => False) w w7) := HF6.out.trans g7.2.2
        have s1 := g7.str
        have s2 := SrcAt.str (HS0.out.oldF HF7.out) HL0.out cap0
        obtain ⟨S, hS⟩ : ∃ S : ByteArray, S = ⟨Y.toArray⟩ := ⟨_, rfl⟩
        obtain ⟨S', hS'⟩ : ∃ S' : ByteArray, S' = ⟨X.toArray⟩ := ⟨_, rfl⟩
        have hne : ¬ S.toList = S'.toList := by rw [hS, hS', ByteArray.toList_mk, ByteArray.toList_mk]; exact hY
        have hnb2 : (S.toList == S'.toList) = false := by simpa using hne
        rw [← hS] at s1
        rw [← hS'] at s2
        clear g7 hd hY hS hS'
        go_wp2_with (fail)
        refine (awake_any _).mono ?_
        rintro e w8 ⟨rfl, hf8⟩
        have HF8 : Hid (Fr (fun _ => False) w w8) := HF7.out.trans hf8
        clear hf8
        go_wp2_with (fail)
        go_ret
        exact ⟨by first | rfl | (show Ending.returned (.bool (!(S.toList == S'.toList))) = _; rw [hnb2]; rfl), HF8.out.below (fun _ _ => id)⟩
    · have hsub1 : (c.toNat : Int) - 64 = (c'.toNat : Int) := by simpa using hsub
      clear hsub p1
      go_wp2_with (fail)
      go_region
      go_wp2_with (fail)
      refine (decode_any (some ⟨g6, o6, none⟩) n6 c6 _ (B ++ [c']) (own_src HOWN.out) HBL.out (by omega)).mono ?_
      rintro e w7 h7
      rcases HP2.out with hd | ⟨Y, hd, hY⟩
      · rw [hd] at h7
        obtain ⟨rfl, hf7⟩ := h7
        have HF7 : Hid (Fr (fun _ => False) w w7) := HF6.out.trans hf7
        clear hf7 hd
        go_wp2_with (fail)
        refine (awake_any _).mono ?_
        rintro e w8 ⟨rfl, hf8⟩
        have HF8 : Hid (Fr (fun _ => False) w w8) := HF7.out.trans hf8
        clear hf8
        go_wp2_with (fail)
        go_ret
        exact ⟨rfl, HF8.out.below (fun _ _ => id)⟩
      · rw [hd] at h7
        obtain ⟨v7, rfl, g7⟩ := h7
        have HF7 : Hid (Fr (fun _ => False) w w7) := HF6.out.trans g7.2.2
        have s1 := g7.str
        have s2 := SrcAt.str (HS0.out.oldF HF7.out) HL0.out cap0
        obtain ⟨S, hS⟩ : ∃ S : ByteArray, S = ⟨Y.toArray⟩ := ⟨_, rfl⟩
        obtain ⟨S', hS'⟩ : ∃ S' : ByteArray, S' = ⟨X.toArray⟩ := ⟨_, rfl⟩
        have hne : ¬ S.toList = S'.toList := by rw [hS, hS', ByteArray.toList_mk, ByteArray.toList_mk]; exact hY
        have hnb2 : (S.toList == S'.toList) = false := by simpa using hne
        rw [← hS] at s1
        rw [← hS'] at s2
        clear g7 hd hY hS hS'
        go_wp2_with (fail)
        refine (awake_any _).mono ?_
        rintro e w8 ⟨rfl, hf8⟩
        have HF8 : Hid (Fr (fun _ => False) w w8) := HF7.out.trans hf8
        clear hf8
        go_wp2_with (fail)
        go_ret
        exact ⟨by first | rfl | (show Ending.returned (.bool (!(S.toList == S'.toList))) = _; rw [hnb2]; rfl), HF8.out.below (fun _ _ => id)⟩

end Go.Proofs.Ytpofoilhiojifaa.huffPads
