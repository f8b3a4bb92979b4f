/- The document's bytes in base 16. -/
import Derived.Test.YtfehmlopndklcaaDoorScr
import Derived.Deep.RegionHeldLaw
namespace Go.Proofs.YtfehmlopndklcaaDoor
open Go.RowKit
set_option maxRecDepth 100000
set_option maxHeartbeats 4000000
set_option linter.unusedVariables false

/-- What the document's hex answers. -/
def RHexAs (s : ByteArray) (w : World) (e : Ending) (w' : World) : Prop :=
  (hexO (tx s) = none ∧ e = .returned (.tuple #[.slice none 0 0, .bool false]) ∧ Fr (fun _ => False) w w') ∨
    ∃ out v, hexO (tx s) = some out ∧ e = .returned (.tuple #[v, .bool true]) ∧ Gath w w' v out
theorem rhex_in (s : ByteArray) (w : World) (hb : s.size ≤ 100000) : Calls Tryd.prog 17 #[.string s] w (RHexAs s w) := by
  have hl := tx_len s
  by_cases hev : s.size % 2 = 0
  · have HE : Hid ((tx s).length % 2 = 0) := by show _ = _; rw [hl]; exact hev
    have hmod : (s.size : Int) % 2 = 0 := by omega
    have HEV : Hid (s.size % 2 = 0) := hev
    have HB : Hid (s.size ≤ 100000) := hb
    obtain ⟨i8, E1, E2, E3, E4⟩ := info5
    have e1 : Hid (Tryd.prog.info? 5 = some i8) := E1
    have e2 : Hid (i8.zero = some (.int .u8 0)) := E2
    have e3 : Hid (i8.size = 1) := E3
    have e4 : Hid (i8.bytes = 1) := E4
    have KD : Hid (∀ (c : UInt8) (W : World), Calls Tryd.prog 27 #[.int .u8 (c.toNat : Int)] W fun e w' => e = .returned (.int .i64 (dgI 16 c)) ∧ W = w') := fun c W => rdigit_in c W
    clear hev hl E1 E2 E3 E4
    go_enter Tryd.func17, Tryd.ntmps17
    go_wp2_with (fail)
    clear hmod
    go_loopw [4, 5] (fun x4 x5 wr => ∃ (i h : Nat) (out : List UInt8) (v : Value), v = x4 ∧ x5 = .int .i64 ((2 * i : Nat) : Int) ∧ Hid (2 * i ≤ s.size ∧ out.length = i ∧ Gath w wr v out ∧ hexV ((tx s).take (2 * i)) = some (out, h, false))) (fun _ x5 _ => s.size - (intOf x5).toNat)
    case atStart => exact ⟨0, 0, [], _, rfl, rfl, by omega, rfl, Gath.ofNil (Fr.refl _ _), rfl⟩
    case round =>
      obtain ⟨i, h, out, v, rfl, rfl, HS⟩ := hrel
      by_cases hlt : 2 * i < s.size
      · have hlt1 : 2 * i + 1 < s.size := by have := HEV.out; omega
        have hlt2 : ((2 * i : Nat) : Int) < (s.size : Int) := by omega
        have HT1 : Hid ((tx s)[2 * i]? = some (s[2 * i]'hlt)) := tx_at s _ hlt
        have HT2 : Hid ((tx s)[2 * i + 1]? = some (s[2 * i + 1]'hlt1)) := tx_at s _ hlt1
        have ix1 := index_tx4 s (2 * i) hlt
        have ix2 := index_tx4 s (2 * i + 1) hlt1
        rw [show (((2 * i + 1 : Nat)) : Int) = ((2 * i : Nat) : Int) + 1 by omega] at ix2
        generalize (s[2 * i]'hlt) = c1 at HT1 ix1
        generalize (s[2 * i + 1]'hlt1) = c2 at HT2 ix2
        have K1 : Hid (∀ W, Calls Tryd.prog 27 #[.int .u8 (c1.toNat : Int)] W fun e w' => e = .returned (.int .i64 (dgI 16 c1)) ∧ W = w') := fun W => KD.out c1 W
        have K2 : Hid (∀ W, Calls Tryd.prog 27 #[.int .u8 (c2.toNat : Int)] W fun e w' => e = .returned (.int .i64 (dgI 16 c2)) ∧ W = w') := fun W => KD.out c2 W
        obtain ⟨j, hj⟩ : ∃ j : Nat, 2 * i = j := ⟨_, rfl⟩
        have HJ : Hid (2 * i = j) := hj
        have HLT : Hid (2 * i + 1 < s.size) := hlt1
        have hjb : j + 1 ≤ 100000 := by have := HB.out; omega
        rw [hj] at hlt2 HT1 HT2 ix1 ix2 ⊢
        obtain ⟨n1, hn1⟩ : ∃ n1 : Nat, c1.toNat = n1 := ⟨_, rfl⟩
        obtain ⟨n2, hn2⟩ : ∃ n2 : Nat, c2.toNat = n2 := ⟨_, rfl⟩
        rw [hn1] at ix1 K1
        rw [hn2] at ix2 K2
        clear hlt hlt1 hj hn1 hn2
        cases hd1 : dg 16 c1 with
        | none =>
          have hI : dgI 16 c1 = -1 := by unfold dgI; rw [hd1]
          have HN : Hid (hexO (tx s) = none) := hexO_bad HT1.out hd1
          rw [hI] at K1
          obtain ⟨d2, hd2⟩ : ∃ d2, dgI 16 c2 = d2 := ⟨_, rfl⟩
          rw [hd2] at K2
          clear hI hd1 hd2
          go_wp2_with (fail)
          refine (K1.out _).mono ?_
          rintro e w1 ⟨rfl, rfl⟩
          go_wp2_with (fail)
          refine (K2.out _).mono ?_
          rintro e w1 ⟨rfl, rfl⟩
          go_wp2_with (fail)
          go_ret2
          exact .inl ⟨HN.out, rfl, HS.out.2.2.1.2.2⟩
        | some d1 =>
          have hI : dgI 16 c1 = (d1 : Int) := by unfold dgI; rw [hd1]
          have hs1 := (dg_low hd1).2
          have HV1 : Hid (hexV ((tx s).take (j + 1)) = some (out, d1, true)) := by
            have h4 := HS.out.2.2.2
            rw [HJ.out] at h4
            exact hex_even HT1.out h4 hd1
          rw [hI] at K1
          cases hd2 : dg 16 c2 with
          | none =>
            have hI2 : dgI 16 c2 = -1 := by unfold dgI; rw [hd2]
            have HN : Hid (hexO (tx s) = none) := hexO_bad HT2.out hd2
            rw [hI2] at K2
            have hd10 : ¬ (d1 : Int) < 0 := by omega
            clear hI hd1 hd2 hI2
            go_wp2_with (fail)
            refine (K1.out _).mono ?_
            rintro e w1 ⟨rfl, rfl⟩
            go_wp2_with (fail)
            refine (K2.out _).mono ?_
            rintro e w1 ⟨rfl, rfl⟩
            go_wp2_with (fail)
            go_ret2
            exact .inl ⟨HN.out, rfl, HS.out.2.2.1.2.2⟩
          | some d2 =>
            have hI2 : dgI 16 c2 = (d2 : Int) := by unfold dgI; rw [hd2]
            have hs2 := (dg_low hd2).2
            obtain ⟨y, hy⟩ : ∃ y, UInt8.ofNat (16 * d1 + d2) = y := ⟨_, rfl⟩
            have HV2 : Hid (hexV ((tx s).take (j + 1 + 1)) = some (out ++ [y], d1, false)) := by
              have := hex_odd HT2.out HV1.out hd2
              rwa [hy] at this
            rw [hI2] at K2
            have hd10 : ¬ (d1 : Int) < 0 := by omega
            have hd20 : ¬ (d2 : Int) < 0 := by omega
            have hmd : (16 : Int) * (d1 : Int) + (d2 : Int) = ((y.toNat : Nat) : Int) := by rw [← hy]; simp; omega
            have HLN : Hid (out.length ≤ 100000) := by have h1 := HS.out.2.1; have := HJ.out; show _ ≤ _; omega
            clear hI hd1 hd2 hI2 hy
            go_wp2_with (fail)
            refine (K1.out _).mono ?_
            rintro e w1 ⟨rfl, rfl⟩
            go_wp2_with (fail)
            refine (K2.out _).mono ?_
            rintro e w1 ⟨rfl, rfl⟩
            go_wp2_with (refine wpList_gather (w0 := w) rfl (.tmp 33) (.tmp 39) 22 22 rfl i8 Tryd.underlying22 Tryd.underlying22 e1.out e2.out e3.out e4.out v out (by go_simp) (HS.out.2.2.1.fr ((Fr.refl _ _).alloc _)) _ 1 1 (by go_simp) [y] (src_one _ y) rfl (by have := HLN.out; omega) ?_; intro a6 n6 c6 w6 N6 O6 F6; have H6 : Hid (Gath w w6 (.slice a6 n6 c6) (out ++ [y])) := O6; clear O6)
            obtain rfl := N6.out
            go_roundw
            case rel => exact ⟨i + 1, d1, out ++ [y], _, rfl, by have := HJ.out; go_num, by have h9 := HLT.out; omega, by have := HS.out.2.1; simp; omega, H6.out, by have := HJ.out; rw [show 2 * (i + 1) = j + 1 + 1 by omega]; exact HV2.out⟩
            case measure => simp [intOf]; omega
      · have hlt2 : ¬ ((2 * i : Nat) : Int) < (s.size : Int) := by omega
        have HN : Hid (hexO (tx s) = some out) := hexO_end HE.out (by rw [tx_len]; omega) HS.out.2.2.2
        clear hlt
        generalize 2 * i = j at hlt2 ⊢
        go_wp2_with (fail)
        go_ret2
        exact .inr ⟨out, _, HN.out, rfl, HS.out.2.2.1⟩
  · have HN : Hid (hexO (tx s) = none) := hexO_odd (by rw [hl]; exact hev)
    have hmod : ¬ (s.size : Int) % 2 = 0 := by omega
    clear hev hl
    go_enter Tryd.func17, Tryd.ntmps17
    go_wp2_with (fail)
    go_ret2
    exact .inl ⟨HN.out, rfl, Fr.refl _ _⟩
end Go.Proofs.YtfehmlopndklcaaDoor
