/- Contract of the document's Decode (aqueductref03.Decode). -/
import Derived.Test.YtcmdhdpedonihaaR6
import Derived.Test.YtcmdhdpedonihaaD4
namespace Go.Proofs.Ytcmdhdpedonihaa
open Go.RowKit
set_option maxRecDepth 100000
set_option maxHeartbeats 4000000
set_option linter.unusedVariables false

/-- Are they all 1? -/
def allB (R : List Bool) : Bool := R.all id
theorem allB_iff (R : List Bool) : allB R = true ↔ R = List.replicate R.length true := by
  unfold allB
  rw [List.eq_replicate_iff]
  simp
theorem allB_snoc (R : List Bool) (t : Bool) : allB (R ++ [t]) = (allB R && t) := by simp [allB]
/-- Where the document's Decode stands. -/
structure RD (w1 wr : World) (v : Value) (out : List UInt8) (R T : List Bool) (p : Nat) : Prop where
  g : Gath w1 wr v out
  all : (dec R (T.drop p) p).pre out = dec [] T 0
  fresh : Fresh R
  few : 5 * out.length + R.length ≤ p
theorem dec_none_step {R T : List Bool} {t : Bool} {p : Nat} (hT : T[p]? = some t) (hf : find (R ++ [t]) = none) : dec R (T.drop p) p = dec (R ++ [t]) (T.drop (p + 1)) (p + 1) := by
  obtain ⟨hp, e⟩ := List.getElem?_eq_some_iff.1 hT
  rw [List.drop_eq_getElem_cons hp, e, dec, hf]
theorem dec_some_step {R T : List Bool} {t : Bool} {p s : Nat} (hT : T[p]? = some t) (hf : find (R ++ [t]) = some s) : dec R (T.drop p) p = if s = 256 then .inr (some p) else (dec [] (T.drop (p + 1)) (p + 1)).pre [UInt8.ofNat s] := by
  obtain ⟨hp, e⟩ := List.getElem?_eq_some_iff.1 hT
  rw [List.drop_eq_getElem_cons hp, e, dec, hf]

theorem rdecode_any (a : Option Addr) (len cap : Nat) (w : World) (X : List UInt8) (hs : SrcAt w a X) (hl : X.length = len) (hm : len ≤ 140737488351232) :
    Calls Try.prog 5 #[.slice a len cap] w fun e w' => DecPost w len (dec [] (stream X) 0) e w' := by
  obtain ⟨i, hi1, hi2, hi3, hi4⟩ := info5
  have J1 : Hid (Try.prog.info? 5 = some i) := hi1
  have J2 : Hid (i.zero = some (.int .u8 0)) := hi2
  have J3 : Hid (i.size = 1) := hi3
  have J4 : Hid (i.bytes = 1) := hi4
  have HS : Hid (SrcAt w a X) := hs
  obtain ⟨T, hT⟩ : ∃ T, T = stream X := ⟨_, rfl⟩
  rw [← hT]
  have HT : Hid (T = stream X) := hT
  have hTl : T.length = 8 * len := by rw [hT, stream_len, hl]
  obtain ⟨N, hN⟩ : ∃ N, N = 8 * len := ⟨_, rfl⟩
  have hNi : 8 * (len : Int) = (N : Int) := by omega
  have hNb : N ≤ 1125899906809856 := by omega
  have HN : Hid (N = 8 * len) := hN
  have HTl : Hid (T.length = 8 * len) := hTl
  clear hi1 hi2 hi3 hi4 hs hT hN hTl
  go_enter Try.func5, Try.ntmps5
  go_wp2_with (fail)
  refine (rspans_any w).mono ?_
  rintro e w1 ⟨g, cg, rfl, hst, hf1⟩
  have HST : Hid (ST w1 g) := hst
  have HF1 : Hid (Fr (fun _ => False) w w1) := hf1
  clear hst hf1
  go_wp2_with (fail)
  go_loopw [5, 7, 8, 9, 10] (fun v5 v7 v8 v9 v10 wr => ∃ (p no co : Nat) (ao : Option Addr) (out : List UInt8) (R : List Bool), p ≤ N ∧ v10 = .int .i64 p ∧ v5 = .slice ao no co ∧ v7 = .int .u64 (val R : Nat) ∧ v8 = .int .i64 (R.length : Nat) ∧ v9 = .bool (allB R) ∧ Hid (RD w1 wr (.slice ao no co) out R T p)) (fun _ _ _ _ v10 _ => N - (intOf v10).toNat)
  case atStart => exact ⟨0, 0, 0, none, [], [], by omega, rfl, rfl, rfl, rfl, rfl, Gath.ofNil (Fr.refl _ _), by simp [DR.pre_nil], fresh_nil, by simp⟩
  case round =>
    rename World => wo
    obtain ⟨p, no, co, ao, out, R, hp, rfl, rfl, rfl, rfl, rfl, HR⟩ := hrel
    have hfew := fresh_few HR.out.fresh
    have hfe := HR.out.few
    have hvl : val R < 1073741824 := Nat.lt_of_lt_of_le (val_lt R) (Nat.le_trans (Nat.pow_le_pow_right (by omega) (show R.length ≤ 30 by omega)) (by decide))
    by_cases hlt : p < N
    · have hci : (p : Int) < N := by omega
      obtain ⟨q, hq⟩ : ∃ q, q = p / 8 := ⟨_, rfl⟩
      obtain ⟨m, hmm⟩ : ∃ m, m = p % 8 := ⟨_, rfl⟩
      have hqi : (p : Int) / 8 = (q : Int) := by omega
      have hmi : (p : Int) % 8 = (m : Int) := by omega
      have hm8 : m < 8 := by omega
      have hql : q < len := by have := HN.out; omega
      obtain ⟨s7, hs7⟩ : ∃ s7, s7 = 7 - m := ⟨_, rfl⟩
      have hs7i : 7 - (m : Int) = (s7 : Int) := by omega
      have hs7b : s7 ≤ 7 := by omega
      obtain ⟨ad, c, rfl, hx, hcell⟩ := src_at ((HS.out.oldF HF1.out).oldF HR.out.g.2.2) q (by omega)
      have hc8 : c.toNat < 256 := UInt8.toNat_lt c
      obtain ⟨d, hd⟩ : ∃ d, d = c.toNat / 2 ^ s7 := ⟨_, rfl⟩
      have hdi : (c.toNat : Int) / 2 ^ s7 = (d : Int) := by
        rw [hd, show (2 : Int) ^ s7 = ((2 ^ s7 : Nat) : Int) by push_cast; rfl]
        omega
      have hdb : d < 256 := by rw [hd]; exact Nat.lt_of_le_of_lt (Nat.div_le_self _ _) hc8
      obtain ⟨b, hb⟩ : ∃ b, b = d % 2 := ⟨_, rfl⟩
      have hbi : (d : Int) % 2 = (b : Int) := by omega
      have hb1 : b ≤ 1 := by omega
      obtain ⟨t, ht⟩ : ∃ t : Bool, t = (d % 2 == 1) := ⟨_, rfl⟩
      have htn : t.toNat = b := by
        rw [ht, hb]
        rcases Nat.mod_two_eq_zero_or_one d with h | h <;> rw [h] <;> rfl
      have htb : ((b : Int) == 1) = t := by
        rw [ht, hb]
        rcases Nat.mod_two_eq_zero_or_one d with h | h <;> rw [h] <;> rfl
      have HTp : Hid (T[p]? = some t) := by
        have := stream_get X q m c hx hm8
        rw [show 8 * q + m = p by omega, ← hs7, ← hd, ← ht, ← HT.out] at this
        exact this
      have hal := allB_snoc R t
      have hvs := val_snoc R t
      rw [htn] at hvs
      have K := fun w' (h : ST w' g) => rsymbol_any g cg (R ++ [t]) w' h (by simp; omega)
      have hrl : (R ++ [t]).length = R.length + 1 := by simp
      rw [hrl] at K
      obtain ⟨cv, hcv⟩ : ∃ cv, cv = val R := ⟨_, rfl⟩
      obtain ⟨cv2, hcv2⟩ : ∃ cv2, cv2 = val (R ++ [t]) := ⟨_, rfl⟩
      obtain ⟨n, hn⟩ : ∃ n, n = R.length := ⟨_, rfl⟩
      obtain ⟨o, ho⟩ : ∃ o, o = allB R := ⟨_, rfl⟩
      rw [← hcv, ← hn, ← ho]
      rw [← hcv] at hvs hvl
      rw [← hcv2] at hvs K
      rw [← hn] at K hfew hfe
      rw [← ho] at hal
      have hcvi : (cv : Int) * 2 + b = (cv2 : Int) := by omega
      have hcv2b : cv2 < 4294967296 := by omega
      have hn1 : ((n + 1 : Nat) : Int) = (n : Int) + 1 := by omega
      rw [hn1] at K
      have HK : Hid (∀ w', ST w' g → Calls Try.prog 12 #[.slice (some ⟨g, 0, none⟩) 21 cg, .int .u64 (cv2 : Int), .int .i64 ((n : Int) + 1)] w' fun e w2 => e = .returned (.int .i64 (symOf (R ++ [t]))) ∧ Fr (fun _ => False) w' w2) := K
      have HV2 : Hid (cv2 = val (R ++ [t]) ∧ n = R.length ∧ o = allB R) := ⟨hcv2, hn, ho⟩
      obtain ⟨o2, ho2⟩ : ∃ o2, o2 = (o && t) := ⟨_, rfl⟩
      have HO2 : Hid (o2 = allB (R ++ [t])) := by show _ = _; rw [ho2, hal]
      clear hq hmm hs7 hd hb ht htn hx hal hvs hrl hcv hcv2 hn ho K hn1
      have HND : Hid (∀ w2 v, Gath w1 w2 v out → find (R ++ [t]) = none → RD w1 w2 v out (R ++ [t]) T (p + 1)) := by
        intro w2 v hg hf
        refine ⟨hg, ?_, fresh_snoc HR.out.fresh hf, ?_⟩
        · rw [← HR.out.all, dec_none_step HTp.out hf]
        · have := HR.out.few; rw [List.length_append, List.length_singleton]; omega
      have HEO : Hid (find (R ++ [t]) = some 256 → dec [] T 0 = .inr (some p)) := by
        intro hf
        rw [← HR.out.all, dec_some_step HTp.out hf, if_pos rfl]
        rfl
      have HSM : Hid (∀ s w2 v, find (R ++ [t]) = some s → s ≠ 256 → Gath w1 w2 v (out ++ [UInt8.ofNat s]) → RD w1 w2 v (out ++ [UInt8.ofNat s]) [] T (p + 1) ∧ s < 256) := by
        intro s w2 v hf hs hg
        have h3 := find_some hf
        have h5 := (code_size s h3.1).1
        have hl2 := congrArg Prod.snd h3.2.1
        simp only [List.length_append, List.length_singleton] at hl2
        refine ⟨⟨hg, ?_, fresh_nil, ?_⟩, by have := h3.1; omega⟩
        · rw [← HR.out.all, dec_some_step HTp.out hf, if_neg hs, DR.pre_pre]
        · have := HR.out.few; rw [List.length_append, List.length_singleton]; simp; omega
      cases o
      case' true =>
        have htb2 : ((b : Int) == 1) = o2 := by rw [htb, ho2]; rfl
        clear ho2 htb
        go_wp2_with (fail)
        clear htb2
      case' false =>
        obtain rfl : o2 = false := by rw [ho2]; rfl
        clear ho2 htb
        go_wp2_with (fail)
      all_goals
        refine (HK.out wo (HST.out.old HR.out.g.2.2)).mono ?_
        cases hf : find (R ++ [t]) with
        | none =>
          rw [show symOf (R ++ [t]) = -1 by rw [symOf, hf]]
          rintro e w2 ⟨rfl, hf2⟩
          have HRR : Hid (RD w1 w2 (.slice ao no co) out (R ++ [t]) T (p + 1)) := HND.out w2 _ (HR.out.g.fr hf2) hf
          clear hf hf2
          go_wp2_with (fail)
          go_roundw
          case rel => exact ⟨p + 1, no, co, ao, out, R ++ [t], by omega, by go_num, rfl, by rw [HV2.out.1], by rw [List.length_append, List.length_singleton, ← HV2.out.2.1]; go_num, by rw [← HO2.out], HRR⟩
          case measure => simp [intOf]; omega
        | some s =>
          rw [show symOf (R ++ [t]) = (s : Int) by rw [symOf, hf]]
          rintro e w2 ⟨rfl, hf2⟩
          have hs256 := (find_some hf).1
          by_cases h6 : s = 256
          · subst h6
            have HD : Hid (dec [] T 0 = .inr (some p)) := HEO.out hf
            have HFW : Hid (Fr (fun _ => False) w w2) := (HF1.out.trans HR.out.g.2.2).trans hf2
            have HQ : Hid (q = p / 8) := by show _ = _; omega
            clear hf hf2
            go_wp2_with (fail)
            go_ret3
            show DecPost _ _ _ _ _
            rw [HD.out]
            exact ⟨by rw [← HQ.out]; rfl, HFW.out⟩
          · have h6i : ¬ (s : Int) = 256 := by omega
            have hs0 : (0 : Int) ≤ s := by omega
            have hsb : s < 256 := by omega
            have hsm : (s : Int) % 256 = s := by omega
            obtain ⟨c2, hc2⟩ : ∃ c2, c2 = UInt8.ofNat s := ⟨_, rfl⟩
            have hcs : c2.toNat = s := by rw [hc2]; simp; omega
            have HSM2 : Hid (∀ w2 v, Gath w1 w2 v (out ++ [c2]) → RD w1 w2 v (out ++ [c2]) [] T (p + 1)) := by
              intro w2 v hg
              rw [hc2] at hg ⊢
              exact (HSM.out s w2 v hf h6 hg).1
            have HG2 : Hid (Gath w1 (w2.alloc (.cells #[.int .u8 (s : Int)] 5)) (.slice ao no co) out) := (HR.out.g.fr hf2).fr ((Fr.refl _ _).alloc _)
            have hso := src_one w2 c2
            rw [hcs] at hso
            have HSO : Hid (SrcAt (w2.alloc (.cells #[.int .u8 (s : Int)] 5)) (some ⟨w2.heap.size, 0, none⟩) [c2]) := hso
            have HBd : Hid (out.length + 1 ≤ 225179981368371) := by show _ ≤ _; omega
            clear hf hf2 hc2 hcs hso
            go_wp2_with (at_builtin; refine wpList_gather rfl (.tmp 54) (.tmp 57) 22 22 rfl i Try.underlying22 Try.underlying22 J1.out J2.out J3.out J4.out (.slice ao no co) _ (by go_simp) HG2.out (some ⟨w2.heap.size, 0, none⟩) 1 1 (by go_simp) [c2] HSO.out rfl HBd.out ?_; intro a3 n3 c3 w3 Hn3 G3 Hf3)
            have HRR : Hid (RD w1 w3 (.slice a3 n3 c3) (out ++ [c2]) [] T (p + 1)) := HSM2.out w3 _ G3
            clear G3
            go_wp2_with (fail)
            go_roundw
            case rel => exact ⟨p + 1, n3, c3, a3, out ++ [c2], [], by omega, by go_num, rfl, rfl, rfl, rfl, HRR⟩
            case measure => simp [intOf]; omega
    · obtain rfl : p = N := by omega
      have hci : ¬ (p : Int) < p := by omega
      have hal : (dec R [] p).pre out = dec [] T 0 := by
        have := HR.out.all
        rw [List.drop_eq_nil_of_le (by rw [HTl.out, ← HN.out]; exact Nat.le_refl _)] at this
        exact this
      rw [dec] at hal
      have hai := allB_iff R
      obtain ⟨n, hn⟩ : ∃ n, n = R.length := ⟨_, rfl⟩
      obtain ⟨o, ho⟩ : ∃ o, o = allB R := ⟨_, rfl⟩
      obtain ⟨cv, hcv⟩ : ∃ cv, cv = val R := ⟨_, rfl⟩
      rw [← hcv, ← hn, ← ho]
      rw [← hn] at hal hai
      rw [← ho] at hai
      have HFW : Hid (Fr (fun _ => False) w wo) := HF1.out.trans HR.out.g.2.2
      have HG : Hid (Gath w wo (.slice ao no co) out) := HR.out.g.old HF1.out
      have hnb : n < 30 := by omega
      by_cases h7 : n ≤ 7
      · have h7i : ¬ (7 : Int) < n := by omega
        cases o with
        | true =>
          rw [if_pos ⟨h7, hai.1 rfl⟩] at hal
          have HD : Hid (dec [] T 0 = .inl out) := by show _ = _; rw [← hal]; simp [DR.pre]
          clear hal hai hn ho hcv
          go_wp2_with (fail)
          go_ret3
          show DecPost _ _ _ _ _
          rw [HD.out]
          exact ⟨_, rfl, HG.out⟩
        | false =>
          rw [if_neg (fun h => by have := hai.2 h.2; cases this)] at hal
          have HD : Hid (dec [] T 0 = .inr none) := by show _ = _; rw [← hal]; rfl
          clear hal hai hn ho hcv
          go_wp2_with (fail)
          go_ret3
          show DecPost _ _ _ _ _
          rw [HD.out]
          exact ⟨rfl, HFW.out⟩
      · have h7i : (7 : Int) < n := by omega
        rw [if_neg (fun h => h7 h.1)] at hal
        have HD : Hid (dec [] T 0 = .inr none) := by show _ = _; rw [← hal]; rfl
        clear hal hai hn ho hcv
        go_wp2_with (fail)
        go_ret3
        show DecPost _ _ _ _ _
        rw [HD.out]
        exact ⟨rfl, HFW.out⟩

end Go.Proofs.Ytcmdhdpedonihaa
