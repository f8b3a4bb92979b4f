/- Contract of prefix.GetText. -/
import Derived.Test.YtemleghledcclaaJ3
namespace Go.Proofs.Ytemleghledcclaa
open Go.RowKit
set_option maxRecDepth 100000
set_option maxHeartbeats 4000000
set_option linter.unusedVariables false

theorem readText_bad {X : List UInt8} {p most : Int} (h : most < 0 ∨ 16384 < most ∨ p < 0 ∨ (X.length : Int) < p) : readText X p most = ([], 0, 1) := by rw [readText, if_pos h]
theorem dec_eos_lt : ∀ (T R : List Bool) (n m : Nat), dec R T n = .inr (some m) → m < n + T.length := by
  intro T
  induction T with
  | nil => intro R n m h; rw [dec] at h; split at h <;> cases h
  | cons t T ih =>
    intro R n m h
    rw [dec] at h
    cases hf : find (R ++ [t]) with
    | none => rw [hf] at h; have := ih _ _ _ h; simp; omega
    | some s =>
      rw [hf] at h
      simp only at h
      split at h
      · cases h; simp
      · cases hd : dec [] T (n + 1) with
        | inl Y' => rw [hd] at h; cases h
        | inr oo =>
          cases oo with
          | none => rw [hd] at h; cases h
          | some k => rw [hd] at h; cases h; have := ih _ _ _ hd; simp; omega

theorem gtext_any (a : Option Addr) (len cap : Nat) (p most : Int) (w : World) (X : List UInt8) (hs : SrcAt w a X) (hl : X.length = len) (hm : len ≤ 9223372036854775807) :
    Calls Try.prog 22 #[.slice a len cap, .int .i64 p, .int .i64 most] w fun e w' => e = .returned (triT (readText X p most)) ∧ Fr (fun _ => False) w w' := by
  by_cases h1 : most < 0
  · rw [readText_bad (.inl h1)]
    clear hs
    go_enter Try.func22, Try.ntmps22
    go_wp2_with (fail)
    go_ret3
    exact ⟨rfl, Fr.refl _ _⟩
  by_cases h2 : 16384 < most
  · rw [readText_bad (.inr (.inl h2))]
    clear hs
    go_enter Try.func22, Try.ntmps22
    go_wp2_with (fail)
    go_ret3
    exact ⟨rfl, Fr.refl _ _⟩
  by_cases h3 : p < 0
  · rw [readText_bad (.inr (.inr (.inl h3)))]
    clear hs
    go_enter Try.func22, Try.ntmps22
    go_wp2_with (fail)
    go_ret3
    exact ⟨rfl, Fr.refl _ _⟩
  by_cases h4 : (len : Int) < p
  · rw [readText_bad (.inr (.inr (.inr (by omega))))]
    clear hs
    go_enter Try.func22, Try.ntmps22
    go_wp2_with (fail)
    go_ret3
    exact ⟨rfl, Fr.refl _ _⟩
  obtain ⟨pn, rfl⟩ : ∃ j : Nat, p = j := ⟨p.toNat, by omega⟩
  obtain ⟨mn, rfl⟩ : ∃ j : Nat, most = j := ⟨most.toNat, by omega⟩
  have hgl := getOut_le (X := X) (p := pn) (k := 7) (by omega) (by omega) (by omega)
  have HRT : Hid (readText X (pn : Int) (mn : Int) = if (getOut X (pn : Int) 7).2.2 ≠ 0 then ([], (getOut X (pn : Int) 7).2.1, (getOut X (pn : Int) 7).2.2) else
    if mn < (getOut X (pn : Int) 7).1 then ([], pn, 2) else if len - (getOut X (pn : Int) 7).2.1 < (getOut X (pn : Int) 7).1 then ([], len, 3) else
    textOut pn mn (getOut X (pn : Int) 7).2.1 (X.getD pn 0) ((X.drop (getOut X (pn : Int) 7).2.1).take (getOut X (pn : Int) 7).1)) := by
    show _ = _
    rw [readText, if_neg (by omega), hl]
    simp
  have KG : Hid (∀ w, SrcAt w a X → Calls Try.prog 18 #[.slice a len cap, .int .i64 (pn : Int), .int .i64 7] w fun e w' => e = .returned (trip (getOut X (pn : Int) 7)) ∧ Fr (fun _ => False) w w') := fun w h => get_any a len cap pn 7 w X h hl hm
  have HS : Hid (SrcAt w a X) := hs
  have HL : Hid (X.length = len) := hl
  rw [hl] at hgl
  obtain ⟨⟨n, q, er⟩, hg⟩ : ∃ g, g = getOut X (pn : Int) 7 := ⟨_, rfl⟩
  have hgl' : n ≤ 2147483647 ∧ q ≤ len ∧ er ≤ 3 ∧ (er = 0 → pn < q) := by
    have h := hgl
    simp only [show ((7 : Nat) : Int) = 7 from rfl, ← hg] at h
    exact h
  rw [← hg] at HRT KG
  unfold trip at KG
  simp only at HRT KG
  obtain ⟨hn31, hql, her, hpq⟩ := hgl'
  obtain ⟨RT, hRT⟩ : ∃ RT, RT = readText X (pn : Int) (mn : Int) := ⟨_, rfl⟩
  rw [← hRT] at HRT ⊢
  clear hgl hg hs hl hRT
  by_cases h5 : er = 0
  · subst h5
    have hpq := hpq rfl
    rw [if_neg (by simp)] at HRT
    by_cases h6 : mn < n
    · have h6i : (mn : Int) < n := by omega
      have HE : Hid (RT = ([], pn, 2)) := by show _ = _; rw [HRT.out, if_pos h6]
      clear HRT
      go_enter Try.func22, Try.ntmps22
      go_wp2_with (fail)
      refine (KG.out w HS.out).mono ?_
      rintro e w1 ⟨rfl, hf1⟩
      have HF1 : Hid (Fr (fun _ => False) w w1) := hf1
      clear hf1
      go_wp2_with (fail)
      go_ret3
      exact ⟨by rw [HE.out]; rfl, HF1.out⟩
    · have h6i : ¬ (mn : Int) < n := by omega
      rw [if_neg h6] at HRT
      obtain ⟨lq, hlq⟩ : ∃ lq, lq = len - q := ⟨_, rfl⟩
      have hlqi : (len : Int) - q = (lq : Int) := by omega
      by_cases h7 : lq < n
      · have h7i : (lq : Int) < n := by omega
        have HE : Hid (RT = ([], len, 3)) := by show _ = _; rw [HRT.out, if_pos (by omega)]
        clear HRT hlq
        go_enter Try.func22, Try.ntmps22
        go_wp2_with (fail)
        refine (KG.out w HS.out).mono ?_
        rintro e w1 ⟨rfl, hf1⟩
        have HF1 : Hid (Fr (fun _ => False) w w1) := hf1
        clear hf1
        go_wp2_with (fail)
        go_ret3
        exact ⟨by rw [HE.out]; rfl, HF1.out⟩
      · have h7i : ¬ (lq : Int) < n := by omega
        rw [if_neg (by omega)] at HRT
        have hqn : q + n ≤ len := by omega
        obtain ⟨ad, x, rfl, hx, -⟩ := src_at HS.out pn (by have := HL.out; omega)
        have hx8 : x.toNat < 256 := UInt8.toNat_lt x
        have hgd : X.getD pn 0 = x := by rw [List.getD_eq_getElem?_getD, hx]; rfl
        rw [hgd] at HRT
        have HXC : Hid (∀ w, SrcAt w (some ad) X → w.cell? (ad.add pn) = some (.int .u8 x.toNat)) := by
          intro w h
          obtain ⟨ad', x', e, hx', hc⟩ := src_at h pn (by have := HL.out; omega)
          cases e
          rw [hx] at hx'
          cases hx'
          exact hc
        have hpl : (pn : Int) < len := by omega
        obtain ⟨Y, hY⟩ : ∃ Y, Y = (X.drop q).take n := ⟨_, rfl⟩
        have hYl : Y.length = n := by rw [hY, List.length_take, List.length_drop, HL.out]; omega
        rw [← hY] at HRT
        have HK : Hid (∀ w, SrcAt w (some ad) X → Calls Try.prog 35 #[.slice (some ad) len cap, .int .i64 q, .int .i64 n] w fun e w' => ∃ g, e = .returned (.slice (some ⟨g, 0, none⟩) n n) ∧ Gath w w' (.slice (some ⟨g, 0, none⟩) n n) Y) := by
          intro w h
          rw [hY]
          exact takeBytes_any (some ad) len cap q n w X h HL.out hm hqn (by omega)
        have hand := and_high x.toNat hx8
        have HYl : Hid (Y.length = n) := hYl
        have HTX : Hid (RT = textOut pn mn q x Y) := HRT.out
        clear hY HRT hlq hgd hx
        by_cases h8 : x.toNat < 128
        · rw [if_pos h8] at hand
          have HE : Hid (RT = (Y, q + n, 0)) := by show _ = _; rw [HTX.out, textOut, if_pos h8, HYl.out]
          clear HTX
          go_enter Try.func22, Try.ntmps22
          go_wp2_with (fail)
          refine (KG.out w HS.out).mono ?_
          rintro e w1 ⟨rfl, hf1⟩
          have HF1 : Hid (Fr (fun _ => False) w w1) := hf1
          clear hf1
          go_wp2_with (fail)
          refine (HK.out w1 (HS.out.oldF HF1.out)).mono ?_
          rintro e w2 ⟨g, rfl, g2⟩
          have hxc := HXC.out w2 ((HS.out.oldF HF1.out).oldF g2.2.2)
          have s2 := g2.str
          have HF2 : Hid (Fr (fun _ => False) w w2) := HF1.out.trans g2.2.2
          clear g2
          go_wp2_with (fail)
          go_ret3
          exact ⟨by rw [HE.out]; rfl, HF2.out⟩
        · rw [if_neg h8] at hand
          have HT : Hid (RT = match dec [] (stream Y) 0 with
            | .inl Z => if mn < Z.length then ([], pn, 2) else (Z, q + n, 0)
            | .inr none => ([], q + n, 30)
            | .inr (some j) => ([], q + j / 8, 31)) := by show _ = _; rw [HTX.out, textOut, if_neg h8, HYl.out]; rfl
          have KD : Hid (∀ w g, SrcAt w (some ⟨g, 0, none⟩) Y → Calls Try.prog 13 #[.slice (some ⟨g, 0, none⟩) n n] w fun e w' => DecPost w n (dec [] (stream Y) 0) e w') := fun w g h => decode_any _ n n w Y h HYl.out (by omega)
          have HLG : Hid (∀ j, dec [] (stream Y) 0 = .inr (some j) → j / 8 ≤ n) := by
            intro j hj
            have := dec_eos_lt _ _ _ _ hj
            rw [stream_len, HYl.out] at this
            omega
          clear HTX
          go_enter Try.func22, Try.ntmps22
          go_wp2_with (fail)
          refine (KG.out w HS.out).mono ?_
          rintro e w1 ⟨rfl, hf1⟩
          have HF1 : Hid (Fr (fun _ => False) w w1) := hf1
          clear hf1
          go_wp2_with (fail)
          refine (HK.out w1 (HS.out.oldF HF1.out)).mono ?_
          rintro e w2 ⟨g, rfl, g2⟩
          have hxc := HXC.out w2 ((HS.out.oldF HF1.out).oldF g2.2.2)
          have HS2 : Hid (SrcAt w2 (some ⟨g, 0, none⟩) Y) := own_src g2.1
          have HF2 : Hid (Fr (fun _ => False) w w2) := HF1.out.trans g2.2.2
          clear g2
          go_wp2_with (fail)
          refine (KD.out w2 g HS2.out).mono ?_
          intro e w3 hp3
          cases hd : dec [] (stream Y) 0 with
          | inl Z =>
            rw [hd] at hp3 HT
            simp only at HT
            obtain ⟨v3, rfl, g3⟩ := hp3
            obtain ⟨a3, c3, rfl, -⟩ := g3.1.form
            simp only [bv_length] at g3 ⊢
            obtain ⟨zl, hzl⟩ : ∃ zl, zl = Z.length := ⟨_, rfl⟩
            rw [← hzl] at g3 HT ⊢
            have s3 := g3.str
            have HF3 : Hid (Fr (fun _ => False) w w3) := HF2.out.trans g3.2.2
            have hzb : zl ≤ 9223372036854775807 := Nat.le_trans (own_len g3.1).2 (by
              rcases g3.1 with ⟨h, -⟩ | ⟨g', off, cap', cur, h, -, -, -, h5, -⟩
              · cases h; omega
              · cases h; unfold maxLen at h5; omega)
            clear g3 hd hzl
            by_cases h9 : mn < zl
            · have h9i : (mn : Int) < zl := by omega
              have HE : Hid (RT = ([], pn, 2)) := by show _ = _; rw [HT.out, if_pos h9]
              clear HT
              go_wp2_with (fail)
              go_ret3
              exact ⟨by rw [HE.out]; rfl, HF3.out⟩
            · have h9i : ¬ (mn : Int) < zl := by omega
              have HE : Hid (RT = (Z, q + n, 0)) := by show _ = _; rw [HT.out, if_neg h9]
              clear HT
              go_wp2_with (fail)
              go_ret3
              exact ⟨by rw [HE.out]; rfl, HF3.out⟩
          | inr oo =>
            cases oo with
            | none =>
              rw [hd] at hp3 HT
              simp only at HT
              obtain ⟨rfl, hf3⟩ := hp3
              have HF3 : Hid (Fr (fun _ => False) w w3) := HF2.out.trans hf3
              clear hf3 hd
              go_wp2_with (fail)
              go_ret3
              exact ⟨by rw [HT.out]; rfl, HF3.out⟩
            | some j =>
              have hj8 := HLG.out j hd
              rw [hd] at hp3 HT
              simp only at HT
              obtain ⟨rfl, hf3⟩ := hp3
              have HF3 : Hid (Fr (fun _ => False) w w3) := HF2.out.trans hf3
              obtain ⟨k, hk⟩ : ∃ k, k = j / 8 := ⟨_, rfl⟩
              rw [← hk] at hj8 HT ⊢
              clear hf3 hd hk
              go_wp2_with (fail)
              go_ret3
              exact ⟨by rw [HT.out]; rfl, HF3.out⟩
  · have h5i : ¬ (er : Int) = 0 := by omega
    have HE : Hid (RT = ([], q, er)) := by show _ = _; rw [HRT.out, if_pos h5]
    clear HRT
    go_enter Try.func22, Try.ntmps22
    go_wp2_with (fail)
    refine (KG.out w HS.out).mono ?_
    rintro e w1 ⟨rfl, hf1⟩
    have HF1 : Hid (Fr (fun _ => False) w w1) := hf1
    clear hf1
    go_wp2_with (fail)
    go_ret3
    exact ⟨by rw [HE.out]; rfl, HF1.out⟩

end Go.Proofs.Ytemleghledcclaa
