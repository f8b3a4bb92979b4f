/- The walk of RewriteKeeps. -/
import Derived.Test.YtplggcfoadjffaaGreatDoorXm
import Derived.Test.YtplggcfoadjffaaGreatDoorXo
import Derived.Test.YtplggcfoadjffaaGreatDoorXu
import Derived.Test.YtplggcfoadjffaaGreatDoorOu
import Derived.Test.YtplggcfoadjffaaGreatDoorOs
import Derived.Test.YtplggcfoadjffaaGreatDoorA2
namespace Go.Proofs.YtplggcfoadjffaaGreatDoor
open Go.RowKit
set_option linter.unusedVariables false
set_option maxRecDepth 100000
set_option maxHeartbeats 8000000

theorem rewReq_keeps {l : List Hd} {name : List UInt8} (hn : PlainN name) (h : (rewReq l name).2 = 0) : requestO (rewReq l name).1 = 0 ∧ plainF (rewReq l name).1 = plainF l ∧ ∃ y, (rewReq l name).1[(rewReq l name).1.length - 1]? = some y ∧ tx y.1 = sVia ∧ 1 ≤ (rewReq l name).1.length := by
  by_cases h0 : requestO l = 0
  · by_cases h1 : (cookieO l).length ≤ 16384
    · by_cases h2 : (viaO l name).length ≤ 16384
      · have e : (rewReq l name).1 = passO (reqStep (hasO l sAuth) (cookieO l)) l name := by unfold rewReq passR; rw [if_pos h0, if_pos h1, if_pos h2]
        rw [e]
        exact ⟨req_keeps h0 hn, pass_plain (fun d h => req_plain _ _ d h) l name, _, pass_last l name, mkS_tx _, pass_len l name⟩
      · unfold rewReq passR at h; rw [if_pos h0, if_pos h1, if_neg h2] at h; simp at h
    · unfold rewReq at h; rw [if_pos h0, if_neg h1] at h; simp at h
  · unfold rewReq at h; rw [if_neg h0] at h; exact absurd h h0
theorem rewRes_keeps {l : List Hd} {name : List UInt8} (hn : PlainN name) (h : (rewRes l name).2 = 0) : (responseO l).2 = 0 ∧ responseO (rewRes l name).1 = responseO l ∧ plainF (rewRes l name).1 = plainF l ∧ ∃ y, (rewRes l name).1[(rewRes l name).1.length - 1]? = some y ∧ tx y.1 = sVia ∧ 1 ≤ (rewRes l name).1.length := by
  by_cases h0 : (responseO l).2 = 0
  · by_cases h2 : (viaO l name).length ≤ 16384
    · have e : (rewRes l name).1 = passO resStep l name := by unfold rewRes passR; rw [if_pos h0, if_pos h2]
      rw [e]
      exact ⟨h0, res_keeps h0 hn, pass_plain (fun d h => res_plainF d h) l name, _, pass_last l name, mkS_tx _, pass_len l name⟩
    · unfold rewRes passR at h; rw [if_pos h0, if_neg h2] at h; simp at h
  · unfold rewRes at h; rw [if_neg h0] at h; exact absurd h h0
theorem tx_cat (a b : ByteArray) : tx (a ++ b) = tx a ++ tx b := by
  unfold tx
  simp
theorem plainN_p : PlainN (tx ⟨#[112]⟩) := ⟨by decide, by decide, by decide⟩
theorem letter_ok (k : Nat) (h : k < 26) : ∃ B : UInt8, B.toNat = 97 + k ∧ okB B = true ∧ blankB B = false := by
  have : ∀ k, k < 26 → (UInt8.ofNat (97 + k)).toNat = 97 + k ∧ okB (UInt8.ofNat (97 + k)) = true ∧ blankB (UInt8.ofNat (97 + k)) = false := by decide
  exact ⟨_, this k h⟩
theorem plainN_add {s : ByteArray} (h : PlainN (tx s)) (B : UInt8) (o1 : okB B = true) (o2 : blankB B = false) : PlainN (tx (s ++ ⟨#[B]⟩)) := by
  obtain ⟨h1, h2, h3⟩ := h
  rw [tx_cat]
  have e : tx ⟨#[B]⟩ = [B] := rfl
  rw [e]
  refine ⟨by rw [List.all_append, h1]; simp [o1], by simp, ?_⟩
  rw [List.getLast?_append]
  simp [o2]
/-- A byte as a text. -/
theorem byte_text (B : UInt8) (z : Int) (hz : (B.toNat : Int) = z) (w : World) : (convert 31 9 (.slice (some ⟨w.heap.size, 0, none⟩) 1 1)).run Tryz.prog (w.alloc (.cells #[.int .u8 z] 5)) = .ok (.string ⟨#[B]⟩) (w.alloc (.cells #[.int .u8 z] 5)) := by
  have hs : SrcAt (w.alloc (.cells #[.int .u8 z] 5)) (some ⟨w.heap.size, 0, none⟩) [B] := by
    intro j c hj
    cases j with
    | succ j => simp at hj
    | zero =>
      simp at hj
      subst hj
      refine ⟨_, rfl, ?_⟩
      rw [add_none, hz]
      exact cell_of_heap (i := 0) (v := .int .u8 z) (heap_alloc_new w (.cells #[.int .u8 z] 5)) rfl
  exact string_of 31 9 5 Tryz.underlying31 Tryz.underlying9 Tryz.underlying5 hs _ _ rfl
theorem name_step (q : Option Addr) (c : Nat) (l : List Hd) (lq : Option Addr) (lc : Nat) (X : List UInt8) (w : World) (hl : HL w q c l) (hE : ErrAt w) (hP : PowAt w) (hls : l.length * 40 + 400 ≤ 2 ^ 47) (hsrc : SrcAt w lq X) (hX : X.length < 2 ^ 47) (hXc : X.length ≤ lc) :
    Calls Tryz.prog 5 #[.slice q l.length c, .slice lq X.length lc] w fun e w' => e = .returned (.bool true) ∧ Below w.heap.size w w' := by
  have HLW : Hid (HL w q c l) := hl
  have HSR : Hid (SrcAt w lq X) := hsrc
  have KX : Hid (∀ W (nm : ByteArray), Fr (fun _ => False) w W → nm.size ≤ 21 → Calls Tryz.prog 7 #[.slice q l.length c, .string nm] W fun e w' => PassAs W (rewReq l (tx nm)) e w') := fun W nm f hn => xReq_in q c l nm W (hl.fr f) (hE.fr f) hls (by omega)
  have KY : Hid (∀ W (nm : ByteArray), Fr (fun _ => False) w W → nm.size ≤ 21 → Calls Tryz.prog 11 #[.slice q l.length c, .string nm] W fun e w' => PassAs W (rewRes l (tx nm)) e w') := fun W nm f hn => xRes_in q c l nm W (hl.fr f) (hE.fr f) hls (by omega)
  have KA : Hid (∀ W, Fr (fun _ => False) w W → Calls Tryz.prog 10 #[] W fun e w' => e = .returned (.bool true) ∧ Fr (fun _ => False) W w') := fun W f => awake14_in W (hP.fr f)
  have KS : Hid (∀ W, Fr (fun _ => False) w W → Calls Tryz.prog 15 #[.slice q l.length c] W fun e w' => e = .returned (.tuple #[.int .i64 (((responseO l).1 : Nat) : Int), .int .i64 (responseO l).2]) ∧ Fr (fun _ => False) W w') := fun W f => rResponse_in q c l W (hl.fr f)
  have KL : Hid (∀ W, Fr (fun _ => False) w W → Calls Tryz.prog 14 #[.slice q l.length c] W fun e w' => ListAs W (plainF l) e w') := fun W f => xplain_in q c l W (hl.fr f)
  obtain ⟨xl, hxl⟩ : ∃ xl, X.length = xl := ⟨_, rfl⟩
  have HXL : Hid (X.length = xl) := hxl
  obtain ⟨len, hlen⟩ : ∃ len, l.length = len := ⟨_, rfl⟩
  rw [hxl] at hX hXc ⊢
  rw [hlen] at KX KY KS KL ⊢
  clear hl hE hP hls hsrc hxl hlen
  go_enter Tryz.func5, Tryz.ntmps5
  go_wp2_with (fail)
  go_loopw [5, 6] (fun x5 x6 wr => ∃ (i : Nat) (s : ByteArray), x5 = .string s ∧ x6 = .int .i64 (i : Int) ∧ i ≤ 20 ∧ i ≤ xl ∧ s.size = i + 1 ∧ Hid (PlainN (tx s) ∧ Fr (fun _ => False) w wr)) (fun _ x6 _ => 20 - (intOf x6).toNat)
  case atStart => exact ⟨0, ⟨#[112]⟩, rfl, rfl, by omega, by omega, rfl, plainN_p, Fr.refl _ _⟩
  case round =>
    obtain ⟨i, s, rfl, rfl, hi, hix, hsz, HS⟩ := hrel
    by_cases hlt : i < xl ∧ i < 20
    · have hlt2 : (i : Int) < (xl : Int) := by omega
      have hlt3 : (i : Int) < 20 := by omega
      have hlt4 : i < xl := hlt.1
      obtain ⟨ad, e0, c0'⟩ := HSR.out i (X[i]'(by rw [HXL.out]; exact hlt.1)) (List.getElem?_eq_getElem _)
      have hadl : ad.block < w.heap.size := by
        have h1 := World.block_lt_of_cell? _ _ c0'
        have h2 : (ad.add i).block = ad.block := by unfold Addr.add; split <;> rfl
        omega
      obtain ⟨k, hk⟩ : ∃ k : Nat, (X[i]'(by rw [HXL.out]; exact hlt.1)).toNat = k := ⟨_, rfl⟩
      have hk2 : k < 256 := by rw [← hk]; exact UInt8.toNat_lt _
      rw [hk] at c0'
      have c0 : wr.cell? (ad.add i) = some (.int .u8 (k : Int)) := (HS.out.2.cell (p := ad.add i) (World.block_lt_of_cell? _ _ c0') id).trans c0'
      subst e0
      obtain ⟨m, hm⟩ : ∃ m, k % 26 = m := ⟨_, rfl⟩
      have hm2 : m < 26 := by omega
      have hr : (k : Int).tmod 26 = (m : Int) := by rw [Int.tmod_eq_emod_of_nonneg (by omega)]; omega
      have hr2 : (k : Int) % 26 = (m : Int) := by omega
      obtain ⟨B, hB1, hB2, hB3⟩ := letter_ok m hm2
      have hcv := byte_text B (97 + (m : Int)) (by omega) wr
      have hsz2 : (s.size : Int) + (((⟨#[B]⟩ : ByteArray).size : Nat) : Int) ≤ 9223372036854775807 := by
        have : (⟨#[B]⟩ : ByteArray).size = 1 := rfl
        rw [this]; omega
      have HS2 : Hid (PlainN (tx (s ++ ⟨#[B]⟩)) ∧ Fr (fun _ => False) w (wr.alloc (.cells #[.int .u8 (97 + (m : Int))] 5)) ∧ (s ++ ⟨#[B]⟩).size = i + 1 + 1) := ⟨plainN_add HS.out.1 B hB2 hB3, HS.out.2.alloc _, by rw [← tx_len, tx_cat, List.length_append, tx_len, hsz]; rfl⟩
      have hwr : IntKind.u8.wrap (97 + (m : Int)) = 97 + (m : Int) := by unfold IntKind.wrap; simp [IntKind.bits, IntKind.signed]; omega
      clear hk c0' hm hsz hB1 hB2 hB3 hlt
      go_wp2_with (fail)
      go_roundw
      case rel => exact ⟨i + 1, _, rfl, by go_num, by omega, by omega, HS2.out.2.2, HS2.out.1, HS2.out.2.1⟩
      case measure => simp [intOf]; omega
    · have hsz2 : s.size ≤ 21 := by omega
      have HSZ : Hid (s.size ≤ 21) := hsz2
      have HFw : Hid (Fr (fun _ => False) w wr) := HS.out.2
      have HPN : Hid (PlainN (tx s)) := HS.out.1
      have KX2 := KX.out wr s HFw.out hsz2
      obtain ⟨⟨LX, erX⟩, hRX⟩ : ∃ r, rewReq l (tx s) = r := ⟨_, rfl⟩
      obtain ⟨⟨LY, erY⟩, hRY⟩ : ∃ r, rewRes l (tx s) = r := ⟨_, rfl⟩
      have HKX : Hid (erX = 0 → requestO LX = 0 ∧ plainF LX = plainF l ∧ ∃ y, LX[LX.length - 1]? = some y ∧ tx y.1 = sVia ∧ 1 ≤ LX.length) := by have := rewReq_keeps (l := l) HPN.out; rw [hRX] at this; exact this
      have HKY : Hid (erY = 0 → (responseO l).2 = 0 ∧ responseO LY = responseO l ∧ plainF LY = plainF l ∧ ∃ y, LY[LY.length - 1]? = some y ∧ tx y.1 = sVia ∧ 1 ≤ LY.length) := by have := rewRes_keeps (l := l) HPN.out; rw [hRY] at this; exact this
      have HRY : Hid (rewRes l (tx s) = (LY, erY)) := hRY
      rw [hRX] at KX2
      clear hRX hRY hsz hsz2
      by_cases hlt5 : i < xl
      case' pos =>
        have hlt2 : (i : Int) < (xl : Int) := by omega
        have hlt3 : ¬ (i : Int) < 20 := by omega
        go_wp2_with (fail)
      case' neg =>
        have hlt2 : ¬ (i : Int) < (xl : Int) := by omega
        go_wp2_with (fail)
      all_goals (
        refine KX2.mono ?_
        rintro e w1 ⟨qx, cx, rfl, hX, f1⟩
        dsimp only at hX ⊢
        have HF1 : Hid (Fr (fun _ => False) w w1) := HFw.out.trans f1
        have HX1 : Hid (HL w1 qx cx LX) := hX
        have KQ : Hid (∀ W, Fr (fun _ => False) w1 W → Calls Tryz.prog 13 #[.slice qx LX.length cx] W fun e w' => e = .returned (.int .i64 (requestO LX)) ∧ Fr (fun _ => False) W w') := fun W f => rRequest_in qx cx LX W (HX1.out.fr f)
        have KPX : Hid (∀ W, Fr (fun _ => False) w1 W → Calls Tryz.prog 14 #[.slice qx LX.length cx] W fun e w' => ListAs W (plainF LX) e w') := fun W f => xplain_in qx cx LX W (HX1.out.fr f)
        have hfx := hX.few
        clear hX f1 KX2 HFw
        by_cases hx0 : erX = 0
        case' pos =>
          subst hx0
          obtain ⟨hq0, hpl, ⟨yn, yv, ys⟩, hy, hyn, hy1⟩ := HKX.out rfl
          have KQ2 := KQ.out w1 (Fr.refl _ _)
          rw [hq0] at KQ2
          rw [hpl] at KPX
          obtain ⟨nx, hnx⟩ : ∃ nx, LX.length = nx := ⟨_, rfl⟩
          rw [hnx] at hfx hy hy1 KQ2 KPX ⊢
          have HY : Hid (LX[nx - 1]? = some (yn, yv, ys)) := hy
          have hw1 : wrap64 ((nx : Int) - 1) = ((nx - 1 : Nat) : Int) := by unfold wrap64; omega
          have hw2 : (nx : Int) - 1 = ((nx - 1 : Nat) : Int) := by omega
          have hnl : nx - 1 < nx := by omega
          have hnl2 : ((nx - 1 : Nat) : Int) < (nx : Int) := by omega
          obtain ⟨pv, rv⟩ := list_equ hyn
          unfold sVia at pv rv
          clear hq0 hpl hy hyn HKX hnx
          go_wp2_with (fail)
          refine KQ2.mono ?_
          rintro e w2 ⟨rfl, f2⟩
          have HF2 : Hid (Fr (fun _ => False) w1 w2) := f2
          have KP2 := KPX.out w2 f2
          clear f2 KQ2
          go_wp2_with (fail)
          refine KP2.mono ?_
          rintro e w3 ⟨qa, ca, rfl, ha, f3⟩
          have HF3 : Hid (Fr (fun _ => False) w1 w3) := HF2.out.trans f3
          have HA : Hid (HL w3 qa ca (plainF l)) := ha
          have KL2 := KL.out w3 (HF1.out.trans HF3.out)
          clear f3 ha KP2
          go_wp2_with (fail)
          refine KL2.mono ?_
          rintro e w4 ⟨qb, cb, rfl, hb, f4⟩
          have HF4 : Hid (Fr (fun _ => False) w1 w4) := HF3.out.trans f4
          have KH := headers_in qa qb ca cb (plainF l) w4 (HA.out.fr f4) hb
          clear f4 hb KL2
          go_wp2_with (fail)
          refine KH.mono ?_
          rintro e w5 ⟨rfl, f5⟩
          have HF5 : Hid (Fr (fun _ => False) w1 w5) := HF4.out.trans f5
          obtain ⟨bb, oo, e9, hbb, c0, c1, c2, -⟩ := (HX1.out.fr HF5.out).cells (nx - 1) (yn, yv, ys) HY.out
          subst e9
          dsimp only at c0 c1 c2
          have HFz : Hid (Fr (fun _ => False) w w5) := HF1.out.trans HF5.out
          clear f5 KH
          go_wp2_with (fail)
        case' neg =>
          have hx2 : (erX == 0) = false := beq_eq_false_iff_ne.2 hx0
          have HFz : Hid (Fr (fun _ => False) w w1) := HF1.out
          go_wp2_with (fail)
        all_goals (
          rename World => wz
          have KS2 := KS.out wz HFz.out
          obtain ⟨st, hst⟩ : ∃ st, (((responseO l).1 : Nat) : Int) = st := ⟨_, rfl⟩
          have HST : Hid ((((responseO l).1 : Nat) : Int) = st) := hst
          obtain ⟨fe, hfe⟩ : ∃ fe, (responseO l).2 = fe := ⟨_, rfl⟩
          have HFE : Hid ((responseO l).2 = fe) := hfe
          rw [hst, hfe] at KS2
          clear hst hfe
          refine KS2.mono ?_
          rintro e v1 ⟨rfl, g1⟩
          have HG1 : Hid (Fr (fun _ => False) w v1) := HFz.out.trans g1
          have KY2 := KY.out v1 s HG1.out HSZ.out
          rw [HRY.out] at KY2
          clear g1 KS2
          go_wp2_with (fail)
          refine KY2.mono ?_
          rintro e v2 ⟨qy, cy, rfl, hY, g2⟩
          dsimp only at hY ⊢
          have HG2 : Hid (Fr (fun _ => False) w v2) := HG1.out.trans g2
          have HY2 : Hid (HL v2 qy cy LY) := hY
          have KQY : Hid (∀ W, Fr (fun _ => False) v2 W → Calls Tryz.prog 15 #[.slice qy LY.length cy] W fun e w' => e = .returned (.tuple #[.int .i64 (((responseO LY).1 : Nat) : Int), .int .i64 (responseO LY).2]) ∧ Fr (fun _ => False) W w') := fun W f => rResponse_in qy cy LY W (HY2.out.fr f)
          have KPY : Hid (∀ W, Fr (fun _ => False) v2 W → Calls Tryz.prog 14 #[.slice qy LY.length cy] W fun e w' => ListAs W (plainF LY) e w') := fun W f => xplain_in qy cy LY W (HY2.out.fr f)
          have hfy := hY.few
          clear hY g2 KY2
          by_cases hy0 : erY = 0
          case' pos =>
            subst hy0
            obtain ⟨hq0, hq1, hpl, ⟨yn, yv, ys⟩, hy, hyn, hy1⟩ := HKY.out rfl
            have KQ2 := KQY.out v2 (Fr.refl _ _)
            rw [hq1, HST.out, HFE.out] at KQ2
            rw [HFE.out] at hq0
            subst hq0
            rw [hpl] at KPY
            obtain ⟨ny, hny⟩ : ∃ ny, LY.length = ny := ⟨_, rfl⟩
            rw [hny] at hfy hy hy1 KQ2 KPY ⊢
            have HYY : Hid (LY[ny - 1]? = some (yn, yv, ys)) := hy
            have hu1 : wrap64 ((ny : Int) - 1) = ((ny - 1 : Nat) : Int) := by unfold wrap64; omega
            have hu2 : (ny : Int) - 1 = ((ny - 1 : Nat) : Int) := by omega
            have hul : ny - 1 < ny := by omega
            have hul2 : ((ny - 1 : Nat) : Int) < (ny : Int) := by omega
            obtain ⟨pv, rv⟩ := list_equ hyn
            unfold sVia at pv rv
            clear hq1 hpl hy hyn HKY hny
            go_wp2_with (fail)
            refine KQ2.mono ?_
            rintro e v3 ⟨rfl, g3⟩
            have HG3 : Hid (Fr (fun _ => False) v2 v3) := g3
            have KP2 := KPY.out v3 g3
            clear g3 KQ2
            go_wp2_with (fail)
            refine KP2.mono ?_
            rintro e v4 ⟨qa, ca, rfl, ha, g4⟩
            have HG4 : Hid (Fr (fun _ => False) v2 v4) := HG3.out.trans g4
            have HA : Hid (HL v4 qa ca (plainF l)) := ha
            have KL2 := KL.out v4 (HG2.out.trans HG4.out)
            clear g4 ha KP2
            go_wp2_with (fail)
            refine KL2.mono ?_
            rintro e v5 ⟨qb, cb, rfl, hb, g5⟩
            have HG5 : Hid (Fr (fun _ => False) v2 v5) := HG4.out.trans g5
            have KH := headers_in qa qb ca cb (plainF l) v5 (HA.out.fr g5) hb
            clear g5 hb KL2
            go_wp2_with (fail)
            refine KH.mono ?_
            rintro e v6 ⟨rfl, g6⟩
            have HG6 : Hid (Fr (fun _ => False) v2 v6) := HG5.out.trans g6
            obtain ⟨bb, oo, e9, hbb, c0, c1, c2, -⟩ := (HY2.out.fr HG6.out).cells (ny - 1) (yn, yv, ys) HYY.out
            subst e9
            dsimp only at c0 c1 c2
            have HFe : Hid (Fr (fun _ => False) w v6) := HG2.out.trans HG6.out
            clear g6 KH
            go_wp2_with (fail)
          case' neg =>
            have hy2 : (erY == 0) = false := beq_eq_false_iff_ne.2 hy0
            have HFe : Hid (Fr (fun _ => False) w v2) := HG2.out
            go_wp2_with (fail)
          all_goals (
            refine (KA.out _ HFe.out).mono ?_
            rintro e v9 ⟨rfl, g9⟩
            have HF9 : Hid (Fr (fun _ => False) w v9) := HFe.out.trans g9
            clear g9
            go_wp2_with (fail)
            go_ret
            exact ⟨rfl, HF9.out.below (fun _ _ h => h)⟩)))
end Go.Proofs.YtplggcfoadjffaaGreatDoor
