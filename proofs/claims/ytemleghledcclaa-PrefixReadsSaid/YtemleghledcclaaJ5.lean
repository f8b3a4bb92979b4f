/- Contract of the document's GetText (aqueductref04.GetText). -/
import Derived.Test.YtemleghledcclaaJ4
import Derived.Test.YtemleghledcclaaI4
import Derived.Test.YtemleghledcclaaR7
namespace Go.Proofs.Ytemleghledcclaa
open Go.RowKit
set_option maxRecDepth 100000
set_option maxHeartbeats 4000000
set_option linter.unusedVariables false

theorem add_add' (a : Addr) (k j : Nat) : (a.add k).add j = a.add (k + j) := by
  unfold Addr.add
  by_cases h1 : k = 0
  · subst h1; simp
  · by_cases h2 : j = 0
    · subst h2; simp
    · simp [h1, h2, Nat.add_assoc]
/-- A slice cut from l to h. -/
theorem cut_mid (P : Program) (t e : TypeId) (ht : P.underlying t = some (.slice e)) (hsz : (P.info? e).map (·.size) = some 1) (a : Option Addr) (len cap l h : Nat) (k k' : IntKind) (hl : l ≤ h) (hn : h ≤ cap) :
    ∃ dp : Option Addr, (∀ w, (Instr.slice t (.slice a len cap) (some (.int k (l : Int))) (some (.int k' (h : Int))) none).run P w = .ok (.slice dp (h - l) (cap - l)) w) ∧ (l < cap → dp = a.map (·.add l)) := by
  refine ⟨if cap = l then a else a.map (·.add l), fun w => ?_, fun h => by rw [if_neg (by omega)]⟩
  have hb := run_sliceBound (P := P) (w := w) k' (h : Int) cap .sliceAcap (by omega) (by omega)
  have hb2 := run_sliceBound (P := P) (w := w) k (l : Int) h .sliceB (by omega) (by omega)
  cases hi : P.info? e with
  | none => simp [hi] at hsz
  | some i =>
  have h1 : i.size = 1 := by simpa [hi] using hsz
  simp [Instr.slice, run_underlying ht, Instr.sliceBounds, hb, hb2, sizeOf, typeInfo, hi, h1]

theorem rgtext_any (a : Option Addr) (len cap : Nat) (p most : Int) (w : World) (X : List UInt8) (hs : SrcAt w a X) (hl : X.length = len) (hm : len ≤ 9223372036854775807) (hcap : len ≤ cap) :
    Calls Try.prog 23 #[.slice a len cap, .int .i64 p, .int .i64 most] w fun e w' => e = .returned (triT (readText X p most)) ∧ Fr (fun _ => False) w w' := by
  have HCAP : Hid (len ≤ cap) := hcap
  clear hcap
  by_cases h1 : most < 0
  · rw [readText_bad (.inl h1)]
    clear hs
    go_enter Try.func23, Try.ntmps23
    go_wp2_with (fail)
    go_ret3
    exact ⟨rfl, Fr.refl _ _⟩
  by_cases h2 : 16384 < most
  · rw [readText_bad (.inr (.inl h2))]
    clear hs
    go_enter Try.func23, Try.ntmps23
    go_wp2_with (fail)
    go_ret3
    exact ⟨rfl, Fr.refl _ _⟩
  by_cases h3 : p < 0
  · rw [readText_bad (.inr (.inr (.inl h3)))]
    clear hs
    go_enter Try.func23, Try.ntmps23
    go_wp2_with (fail)
    go_ret3
    exact ⟨rfl, Fr.refl _ _⟩
  by_cases h4 : (len : Int) < p
  · rw [readText_bad (.inr (.inr (.inr (by omega))))]
    clear hs
    go_enter Try.func23, Try.ntmps23
    go_wp2_with (fail)
    go_ret3
    exact ⟨rfl, Fr.refl _ _⟩
  obtain ⟨pn, rfl⟩ : ∃ j : Nat, p = j := ⟨p.toNat, by omega⟩
  obtain ⟨mn, rfl⟩ : ∃ j : Nat, most = j := ⟨most.toNat, by omega⟩
  have hgl := getOut_le (X := X) (p := pn) (k := 7) (by omega) (by omega) (by omega)
  have HRT : Hid (readText X (pn : Int) (mn : Int) = if (getOut X (pn : Int) 7).2.2 ≠ 0 then ([], (getOut X (pn : Int) 7).2.1, (getOut X (pn : Int) 7).2.2) else
    if mn < (getOut X (pn : Int) 7).1 then ([], pn, 2) else if len - (getOut X (pn : Int) 7).2.1 < (getOut X (pn : Int) 7).1 then ([], len, 3) else
    textOut pn mn (getOut X (pn : Int) 7).2.1 (X.getD pn 0) ((X.drop (getOut X (pn : Int) 7).2.1).take (getOut X (pn : Int) 7).1)) := by
    show _ = _
    rw [readText, if_neg (by omega), hl]
    simp
  have KG : Hid (∀ w, SrcAt w a X → Calls Try.prog 19 #[.slice a len cap, .int .i64 (pn : Int), .int .i64 7] w fun e w' => e = .returned (trip (getOut X (pn : Int) 7)) ∧ w' = w) := fun w h => rget_any a len cap pn 7 w X h hl hm
  have HS : Hid (SrcAt w a X) := hs
  have HL : Hid (X.length = len) := hl
  rw [hl] at hgl
  obtain ⟨⟨n, q, er⟩, hg⟩ : ∃ g, g = getOut X (pn : Int) 7 := ⟨_, rfl⟩
  have hgl' : n ≤ 2147483647 ∧ q ≤ len ∧ er ≤ 3 ∧ (er = 0 → pn < q) := by
    have h := hgl
    simp only [show ((7 : Nat) : Int) = 7 from rfl, ← hg] at h
    exact h
  rw [← hg] at HRT KG
  unfold trip at KG
  simp only at HRT KG
  obtain ⟨hn31, hql, her, hpq⟩ := hgl'
  obtain ⟨RT, hRT⟩ : ∃ RT, RT = readText X (pn : Int) (mn : Int) := ⟨_, rfl⟩
  rw [← hRT] at HRT ⊢
  clear hgl hg hs hl hRT
  by_cases h5 : er = 0
  · subst h5
    have hpq := hpq rfl
    rw [if_neg (by simp)] at HRT
    by_cases h6 : mn < n
    · have h6i : (mn : Int) < n := by omega
      have HE : Hid (RT = ([], pn, 2)) := by show _ = _; rw [HRT.out, if_pos h6]
      clear HRT
      go_enter Try.func23, Try.ntmps23
      go_wp2_with (fail)
      refine (KG.out w HS.out).mono ?_
      rintro e w1 ⟨rfl, hf1⟩
      have HF1 : Hid (Fr (fun _ => False) w w1) := hf1 ▸ Fr.refl _ _
      clear hf1
      go_wp2_with (fail)
      go_ret3
      exact ⟨by rw [HE.out]; rfl, HF1.out⟩
    · have h6i : ¬ (mn : Int) < n := by omega
      rw [if_neg h6] at HRT
      obtain ⟨lq, hlq⟩ : ∃ lq, lq = len - q := ⟨_, rfl⟩
      have hlqi : (len : Int) - q = (lq : Int) := by omega
      by_cases h7 : lq < n
      · have h7i : (lq : Int) < n := by omega
        have HE : Hid (RT = ([], len, 3)) := by show _ = _; rw [HRT.out, if_pos (by omega)]
        clear HRT hlq
        go_enter Try.func23, Try.ntmps23
        go_wp2_with (fail)
        refine (KG.out w HS.out).mono ?_
        rintro e w1 ⟨rfl, hf1⟩
        have HF1 : Hid (Fr (fun _ => False) w w1) := hf1 ▸ Fr.refl _ _
        clear hf1
        go_wp2_with (fail)
        go_ret3
        exact ⟨by rw [HE.out]; rfl, HF1.out⟩
      · have h7i : ¬ (lq : Int) < n := by omega
        rw [if_neg (by omega)] at HRT
        have hqn : q + n ≤ len := by omega
        obtain ⟨ad, x, rfl, hx, -⟩ := src_at HS.out pn (by have := HL.out; omega)
        have hx8 : x.toNat < 256 := UInt8.toNat_lt x
        have hgd : X.getD pn 0 = x := by rw [List.getD_eq_getElem?_getD, hx]; rfl
        rw [hgd] at HRT
        have HXC : Hid (∀ w, SrcAt w (some ad) X → w.cell? (ad.add pn) = some (.int .u8 x.toNat)) := by
          intro w h
          obtain ⟨ad', x', e, hx', hc⟩ := src_at h pn (by have := HL.out; omega)
          cases e
          rw [hx] at hx'
          cases hx'
          exact hc
        have hpl : (pn : Int) < len := by omega
        obtain ⟨Y, hY⟩ : ∃ Y, Y = (X.drop q).take n := ⟨_, rfl⟩
        have hYl : Y.length = n := by rw [hY, List.length_take, List.length_drop, HL.out]; omega
        rw [← hY] at HRT
        obtain ⟨u, hu⟩ : ∃ u, u = q + n := ⟨_, rfl⟩
        have hui : (q : Int) + n = (u : Int) := by omega
        have hcapl : len ≤ cap := HCAP.out
        obtain ⟨dp, hcut, hdp⟩ := cut_mid Try.prog 22 5 Try.underlying22 (by kernel_rfl) (some ad) len cap q u .i64 .i64 (by omega) (by omega)
        have hun : u - q = n := by omega
        rw [hun] at hcut
        have HSY : Hid (∀ w, SrcAt w (some ad) X → SrcAt w dp Y) := by
          intro w h j c hj
          rw [hY, List.getElem?_take] at hj
          split at hj
          · rename_i hjn
            rw [List.getElem?_drop] at hj
            obtain ⟨ad', e, hc⟩ := h (q + j) c hj
            cases e
            exact ⟨ad.add q, hdp (by omega), by rw [add_add']; exact hc⟩
          · cases hj
        have HYl : Hid (Y.length = n) := hYl
        have HTX : Hid (RT = textOut pn mn q x Y) := HRT.out
        have HU : Hid (u = q + n) := hu
        clear hY HRT hlq hgd hx hu hdp
        by_cases h8 : x.toNat < 128
        · have h8i : (x.toNat : Int) < 128 := by omega
          have HE : Hid (RT = (Y, u, 0)) := by show _ = _; rw [HTX.out, textOut, if_pos h8, HYl.out, HU.out]
          clear HTX
          go_enter Try.func23, Try.ntmps23
          go_wp2_with (fail)
          refine (KG.out w HS.out).mono ?_
          rintro e w1 ⟨rfl, hf1⟩
          have HF1 : Hid (Fr (fun _ => False) w w1) := hf1 ▸ Fr.refl _ _
          clear hf1
          have hxc := HXC.out w1 (HS.out.oldF HF1.out)
          have s2 : (convert 22 9 (.slice dp n (cap - q))).run Try.prog w1 = .ok (.string ⟨Y.toArray⟩) w1 := SrcAt.str (HSY.out w1 (HS.out.oldF HF1.out)) HYl.out _
          go_wp2_with (fail)
          go_ret3
          exact ⟨by rw [HE.out]; rfl, HF1.out⟩
        · have h8i : ¬ (x.toNat : Int) < 128 := by omega
          have HT : Hid (RT = match dec [] (stream Y) 0 with
            | .inl Z => if mn < Z.length then ([], pn, 2) else (Z, u, 0)
            | .inr none => ([], u, 30)
            | .inr (some j) => ([], q + j / 8, 31)) := by show _ = _; rw [HTX.out, textOut, if_neg h8, HYl.out, HU.out]; rfl
          have KD : Hid (∀ w, SrcAt w (some ad) X → Calls Try.prog 14 #[.slice dp n (cap - q)] w fun e w' => DecPost w n (dec [] (stream Y) 0) e w') := fun w h => rdecode_any _ n _ w Y (HSY.out w h) HYl.out (by omega)
          have HLG : Hid (∀ j, dec [] (stream Y) 0 = .inr (some j) → j / 8 ≤ n) := by
            intro j hj
            have := dec_eos_lt _ _ _ _ hj
            rw [stream_len, HYl.out] at this
            omega
          clear HTX
          go_enter Try.func23, Try.ntmps23
          go_wp2_with (fail)
          refine (KG.out w HS.out).mono ?_
          rintro e w1 ⟨rfl, hf1⟩
          have HF1 : Hid (Fr (fun _ => False) w w1) := hf1 ▸ Fr.refl _ _
          clear hf1
          have hxc := HXC.out w1 (HS.out.oldF HF1.out)
          have HF2 : Hid (Fr (fun _ => False) w w1) := HF1
          go_wp2_with (fail)
          refine (KD.out w1 (HS.out.oldF HF1.out)).mono ?_
          intro e w3 hp3
          cases hd : dec [] (stream Y) 0 with
          | inl Z =>
            rw [hd] at hp3 HT
            simp only at HT
            obtain ⟨v3, rfl, g3⟩ := hp3
            obtain ⟨a3, c3, rfl, -⟩ := g3.1.form
            simp only [bv_length] at g3 ⊢
            obtain ⟨zl, hzl⟩ : ∃ zl, zl = Z.length := ⟨_, rfl⟩
            rw [← hzl] at g3 HT ⊢
            have s3 := g3.str
            have HF3 : Hid (Fr (fun _ => False) w w3) := HF2.out.trans g3.2.2
            have hzb : zl ≤ 9223372036854775807 := Nat.le_trans (own_len g3.1).2 (by
              rcases g3.1 with ⟨h, -⟩ | ⟨g', off, cap', cur, h, -, -, -, h5, -⟩
              · cases h; omega
              · cases h; unfold maxLen at h5; omega)
            clear g3 hd hzl
            by_cases h9 : mn < zl
            · have h9i : (mn : Int) < zl := by omega
              have HE : Hid (RT = ([], pn, 2)) := by show _ = _; rw [HT.out, if_pos h9]
              clear HT
              go_wp2_with (fail)
              go_ret3
              exact ⟨by rw [HE.out]; rfl, HF3.out⟩
            · have h9i : ¬ (mn : Int) < zl := by omega
              have HE : Hid (RT = (Z, u, 0)) := by show _ = _; rw [HT.out, if_neg h9]
              clear HT
              go_wp2_with (fail)
              go_ret3
              exact ⟨by rw [HE.out]; rfl, HF3.out⟩
          | inr oo =>
            cases oo with
            | none =>
              rw [hd] at hp3 HT
              simp only at HT
              obtain ⟨rfl, hf3⟩ := hp3
              have HF3 : Hid (Fr (fun _ => False) w w3) := HF2.out.trans hf3
              clear hf3 hd
              go_wp2_with (fail)
              go_ret3
              exact ⟨by rw [HT.out]; rfl, HF3.out⟩
            | some j =>
              have hj8 := HLG.out j hd
              rw [hd] at hp3 HT
              simp only at HT
              obtain ⟨rfl, hf3⟩ := hp3
              have HF3 : Hid (Fr (fun _ => False) w w3) := HF2.out.trans hf3
              obtain ⟨k, hk⟩ : ∃ k, k = j / 8 := ⟨_, rfl⟩
              rw [← hk] at hj8 HT ⊢
              clear hf3 hd hk
              go_wp2_with (fail)
              go_ret3
              exact ⟨by rw [HT.out]; rfl, HF3.out⟩
  · have h5i : ¬ (er : Int) = 0 := by omega
    have HE : Hid (RT = ([], q, er)) := by show _ = _; rw [HRT.out, if_pos h5]
    clear HRT
    go_enter Try.func23, Try.ntmps23
    go_wp2_with (fail)
    refine (KG.out w HS.out).mono ?_
    rintro e w1 ⟨rfl, hf1⟩
    have HF1 : Hid (Fr (fun _ => False) w w1) := hf1 ▸ Fr.refl _ _
    clear hf1
    go_wp2_with (fail)
    go_ret3
    exact ⟨by rw [HE.out]; rfl, HF1.out⟩

end Go.Proofs.Ytemleghledcclaa
