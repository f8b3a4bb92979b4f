/- Contract of the document's Encode (aqueductref03.Encode). -/
import Derived.Test.YtkipeifkfgbkeaaR4
namespace Go.Proofs.Ytkipeifkfgbkeaa
open Go.RowKit
set_option maxRecDepth 100000
set_option maxHeartbeats 4000000
set_option linter.unusedVariables false

theorem packs_get (N : Nat) : ∀ (T : List Bool) (m : Nat), T.length = 8 * N → m < N → (packs T)[m]? = some (UInt8.ofNat (val ((T.drop (8 * m)).take 8))) := by
  induction N with
  | zero => intro T m h hm; omega
  | succ N ih =>
    intro T m h hm
    rw [packs_step T (by omega)]
    cases m with
    | zero => simp
    | succ m =>
      rw [List.getElem?_cons_succ, ih (T.drop 8) m (by rw [List.length_drop]; omega) (by omega), List.drop_drop, show 8 + 8 * m = 8 * (m + 1) by omega]
theorem b01_get {l : List Bool} {j : Nat} {b : Bool} (h : l[j]? = some b) : (b01 l)[j]? = some (if b then 1 else 0) := by
  simp [b01, h]

theorem rencode_any (a : Option Addr) (len cap : Nat) (w : World) (X : List UInt8) (hs : SrcAt w a X) (hl : X.length = len) (hm : len ≤ 1099511627776) :
    Calls Try.prog 51 #[.slice a len cap] w fun e w' => ∃ v, e = .returned v ∧ Gath w w' v (encOut X) := by
  obtain ⟨i, hi1, hi2, hi3, hi4⟩ := info5
  have J1 : Hid (Try.prog.info? 5 = some i) := hi1
  have J2 : Hid (i.zero = some (.int .u8 0)) := hi2
  have J3 : Hid (i.size = 1) := hi3
  have J4 : Hid (i.bytes = 1) := hi4
  have K1 : Hid (Calls Try.prog 56 #[.slice a len cap] w fun e w' => ∃ v, e = .returned v ∧ Gath w w' v (b01 (padded (enc X)))) := rbits_any a len cap w X hs hl hm
  obtain ⟨T, hT⟩ : ∃ T, T = padded (enc X) := ⟨_, rfl⟩
  obtain ⟨N, hN⟩ : ∃ N, N = ((enc X).length + 7) / 8 := ⟨_, rfl⟩
  have hTl : T.length = 8 * N := by rw [hT, padded_len, hN]
  have hNb : N ≤ 4 * 1099511627776 := by
    rw [hN, enc_len]
    have := (sumBits_le X).2
    omega
  have HO : Hid (encOut X = packs T) := by show _ = _; rw [encOut, hT]
  have HPL : Hid ((packs T).length = N) := packs_len N T hTl
  have HPG : Hid (∀ m, m < N → (packs T)[m]? = some (UInt8.ofNat (val ((T.drop (8 * m)).take 8)))) := fun m hm => packs_get N T m hTl hm
  rw [← hT] at K1
  clear hi1 hi2 hi3 hi4 hs hT hN hl hm
  go_enter Try.func51, Try.ntmps51
  go_wp2_with (fail)
  refine K1.out.mono ?_
  rintro e w1 ⟨v1, rfl, g1⟩
  obtain ⟨al, cl, e1, _⟩ := g1.1.form
  subst e1
  have hlen1 : (bv (b01 T)).length = 8 * N := by rw [bv_length, b01_len, hTl]
  obtain ⟨L, hL⟩ : ∃ L, L = 8 * N := ⟨_, rfl⟩
  rw [hlen1, ← hL] at g1 ⊢
  have HSL : Hid (SrcAt w1 al (b01 T)) := own_src g1.1
  have HF1 : Hid (Fr (fun _ => False) w w1) := g1.2.2
  clear g1 hlen1 K1
  go_wp2_with (fail)
  go_loopw [4, 5] (fun v4 v5 wr => ∃ (m no co : Nat) (ao : Option Addr), m ≤ N ∧ v5 = .int .i64 (8 * m : Nat) ∧ v4 = .slice ao no co ∧ Hid (Gath w1 wr (.slice ao no co) ((packs T).take m))) (fun _ v5 _ => 8 * N - (intOf v5).toNat)
  case atStart => exact ⟨0, 0, 0, none, by omega, rfl, rfl, Gath.ofNil (Fr.refl _ _)⟩
  case round =>
    rename World => wo
    obtain ⟨m, no, co, ao, hmN, rfl, rfl, HG⟩ := hrel
    by_cases hlt : m < N
    · obtain ⟨p, hp⟩ : ∃ p, p = 8 * m := ⟨_, rfl⟩
      rw [← hp]
      have hpl : p + 8 ≤ 8 * N := by omega
      have hci : (p : Int) < (L : Int) := by omega
      have HP : Hid (p = 8 * m) := hp
      clear hp
      go_wp2_with (fail)
      go_loop [6, 7] (fun v6 v7 => ∃ k : Nat, k ≤ 8 ∧ v7 = .int .i64 k ∧ v6 = .int .u8 (val ((T.drop p).take k) : Nat)) (fun _ v7 => 8 - (intOf v7).toNat)
      case atStart => exact ⟨0, by omega, rfl, rfl⟩
      case round =>
        obtain ⟨k, hk, rfl, rfl⟩ := hrel
        by_cases hk8 : k < 8
        · have hki : (k : Int) < 8 := by omega
          obtain ⟨b, hb⟩ : ∃ b, T[p + k]? = some b := ⟨_, List.getElem?_eq_getElem (by omega)⟩
          obtain ⟨ad, x, rfl, hx, hc⟩ := src_at HSL.out (p + k) (by rw [b01_len]; omega)
          rw [b01_get hb] at hx
          have hx2 : x.toNat = b.toNat := by cases hx; cases b <;> rfl
          have hc2 : wo.cell? (ad.add (p + k)) = some (.int .u8 x.toNat) := by
            rw [HG.out.2.2.cell (World.block_lt_of_cell? _ _ hc) id]; exact hc
          have HV : Hid (val ((T.drop p).take (k + 1)) = 2 * val ((T.drop p).take k) + x.toNat) := by
            show _ = _
            rw [List.take_add_one, List.getElem?_drop, hb, Option.toList, val_snoc, hx2]
          have hvl := val_lt ((T.drop p).take k)
          have hvl2 : val ((T.drop p).take k) < 128 := by
            refine Nat.lt_of_lt_of_le hvl (Nat.le_trans (Nat.pow_le_pow_right (by omega) (show ((T.drop p).take k).length ≤ 7 by rw [List.length_take]; omega)) (by decide))
          have hx1 : x.toNat ≤ 1 := by rw [hx2]; cases b <;> decide
          obtain ⟨v, hv⟩ : ∃ v, v = val ((T.drop p).take k) := ⟨_, rfl⟩
          rw [← hv] at HV hvl2 ⊢
          obtain ⟨r, hr⟩ : ∃ r, r = p + k := ⟨_, rfl⟩
          have hri : (p : Int) + k = (r : Int) := by omega
          have hrl : (r : Int) < (L : Int) := by omega
          rw [← hr] at hc2
          clear hr
          clear hvl hv hx hx2 hc hb
          go_wp2_with (fail)
          go_round
          case rel => exact ⟨k + 1, by omega, by go_num, by rw [HV.out]; go_num⟩
          case measure => simp [intOf]; omega
        · obtain rfl : k = 8 := by omega
          obtain ⟨c, hcd⟩ : ∃ c, c = UInt8.ofNat (val ((T.drop p).take 8)) := ⟨_, rfl⟩
          have hcn : val ((T.drop p).take 8) = c.toNat := by
            have := val_lt ((T.drop p).take 8)
            rw [show ((T.drop p).take 8).length = 8 by simp; omega] at this
            rw [hcd]; simp; omega
          have HT : Hid ((packs T).take (m + 1) = (packs T).take m ++ [c]) := by
            show _ = _
            rw [List.take_add_one, HPG.out m hlt, Option.toList, hcd, HP.out]
          have HG2 : Hid (Gath w1 (wo.alloc (.cells #[.int .u8 c.toNat] 5)) (.slice ao no co) ((packs T).take m)) := HG.out.fr ((Fr.refl _ _).alloc _)
          have HSO : Hid (SrcAt (wo.alloc (.cells #[.int .u8 c.toNat] 5)) (some ⟨wo.heap.size, 0, none⟩) [c]) := src_one wo c
          have HBd : Hid (((packs T).take m).length + 1 ≤ 225179981368371) := by
            show _ ≤ _
            rw [List.length_take]
            omega
          rw [hcn]
          clear hcd hcn
          go_wp2_with (at_builtin; refine wpList_gather rfl (.tmp 29) (.tmp 31) 35 35 rfl i Try.underlying35 Try.underlying35 J1.out J2.out J3.out J4.out (.slice ao no co) _ (by go_simp) HG2.out (some ⟨wo.heap.size, 0, none⟩) 1 1 (by go_simp) [c] HSO.out rfl HBd.out ?_; intro a2 n2 c2 w2 Hn2 G2 Hf2)
          have HG3 : Hid (Gath w1 w2 (.slice a2 n2 c2) ((packs T).take (m + 1))) := HT.out ▸ G2
          clear G2
          go_wp2_with (fail)
          go_roundw
          case rel => exact ⟨m + 1, n2, c2, a2, by omega, by rw [show 8 * (m + 1) = p + 8 by have := HP.out; omega]; go_num, rfl, HG3⟩
          case measure => simp [intOf]; omega
    · obtain rfl : m = N := by omega
      rw [← hL]
      have hci : ¬ (L : Int) < (L : Int) := by omega
      have HD : Hid (Gath w1 wo (.slice ao no co) (encOut X)) := by
        have h := HG.out
        rw [List.take_of_length_le (by rw [HPL.out]; exact Nat.le_refl _)] at h
        show Gath _ _ _ _
        rw [HO.out]; exact h
      go_wp2_with (fail)
      go_ret
      exact ⟨_, rfl, HD.out.old HF1.out⟩

end Go.Proofs.Ytkipeifkfgbkeaa
