/- The walk of StreamPlays. -/
import Derived.Test.YtahlhkpabkplfaaVn
import Derived.Test.YtahlhkpabkplfaaVo
import Derived.Test.YtahlhkpabkplfaaLt
import Derived.Deep.Cut
namespace Go.Proofs.Ytahlhkpabkplfaa
open Go.RowKit Go.Maps
set_option linter.unusedVariables false
set_option maxRecDepth 100000
set_option maxHeartbeats 4000000

theorem yplays_not (sv : Bool) (most : Int) (q : Option Addr) (c m : Nat) (w : World) (h : ¬ (0 ≤ most ∧ most ≤ 1024)) : Calls Try.prog 4 #[.bool sv, .int .i64 most, .slice q m c] w fun e w' => e = .returned (.bool true) ∧ Below w.heap.size w w' := by
  have K1 := yNew_not sv most w h
  have K2 := ryNew_not sv most w h
  clear h
  go_enter Try.func4, Try.ntmps4
  go_wp2_with (first | (go_at_call 12; refine K1.mono ?_; clear K1; rintro e w' ⟨rfl, rfl⟩) | (go_at_call 13; refine K2.mono ?_; clear K2; rintro e w' ⟨rfl, rfl⟩))
  go_loopw [11] (fun x11 wr => x11 = .int .i64 0 ∧ w = wr) (fun _ _ => 0)
  case atStart => exact ⟨rfl, rfl⟩
  case round =>
    obtain ⟨rfl, rfl⟩ := hrel
    go_wp2_with (go_at_call 11; refine (yawake_in _).mono ?_; rintro e w6 ⟨rfl, hf6⟩)
    go_ret
    exact ⟨rfl, hf6.below (fun _ _ => id)⟩
theorem yplays_walk (sv : Bool) (most : Int) (q : Option Addr) (c m : Nat) (L : List (Int × Int × Int)) (w : World) (hI : Ops10 w q c L) (hl : L.length = m) : Calls Try.prog 4 #[.bool sv, .int .i64 most, .slice q m c] w fun e w' => e = .returned (.bool true) ∧ Below w.heap.size w w' := by
  by_cases hr : 0 ≤ most ∧ most ≤ 1024
  case neg => exact yplays_not sv most q c m w hr
  have KN := yNew_in sv most w hr.1 hr.2
  obtain ⟨g, hg⟩ : ∃ g, g = w.heap.size + 1 := ⟨_, rfl⟩
  obtain ⟨mb, hmb⟩ : ∃ mb, mb = w.heap.size := ⟨_, rfl⟩
  obtain ⟨base, hbase⟩ : ∃ base, base = w.heap.size := ⟨_, rfl⟩
  rw [← hg] at KN
  have KN2 : Calls Try.prog 12 #[.bool sv, .int .i64 most] w fun e w' => e = .returned (.tuple #[.pointer (some ⟨g, 0, none⟩), .int .i64 0]) ∧ Hid (YAt w' g mb (newS sv most) ∧ Fr (fun _ => False) w w') := by
    refine KN.mono ?_
    rintro e w' ⟨rfl, y1, f1, -⟩
    rw [hmb]
    exact ⟨rfl, y1, f1⟩
  clear KN
  have HI : Hid (Ops10 w q c L) := hI
  have HL : Hid (L.length = m) := hl
  have hmb2 : (m : Int) ≤ 9000000000000000000 := by have := hI.few; rw [hl] at this; have h2 : reachBytes < 2 ^ 47 := reach_lt; omega
  have HG : Hid (g = w.heap.size + 1 ∧ mb = w.heap.size ∧ base = w.heap.size) := ⟨hg, hmb, hbase⟩
  clear hg hmb hbase hI hl
  go_enter Try.func4, Try.ntmps4
  go_upto_region 2 with (go_at_call 12; refine KN2.mono ?_; clear KN2; rintro e w1 ⟨rfl, Y1⟩)
  have hb1 : base ≤ w1.heap.size := by rw [HG.out.2.2]; exact Y1.out.2.size
  have KR := ryNew_in base sv most w1 hr.1 hr.2 hb1
  obtain ⟨g', hg'⟩ : ∃ g', g' = w1.heap.size := ⟨_, rfl⟩
  rw [← hg'] at KR
  clear hg' hb1
  go_wp2_with (go_at_call 13; refine KR.mono ?_; clear KR; rintro e w2 ⟨rfl, r2, f2⟩)
  have HS0 : Hid (∃ S vL vG, Both base w2 g mb g' S vL vG ∧ Fr (fun k => base ≤ k) w w2) := ⟨newS sv most, _, _, ⟨Y1.out.1.fr f2 id id, r2, by have := HG.out; omega, by have := HG.out; omega, gone_new _ _⟩, (Y1.out.2.trans f2).mono (fun _ _ e => e.elim)⟩
  clear Y1 r2 f2 hr
  have KS : Hid (∀ (w5 : World) (T : Stm) (uL uG : Value), Hid (Both base w5 g mb g' T uL uG) → ∀ (W : World) (d : Int), Hid (Fr (fun _ => False) w5 W) → IsI d → Calls Try.prog 15 #[.pointer (some ⟨g, 0, none⟩), .pointer (some ⟨g', 0, none⟩), .int .i64 d] W fun e w' => e = .returned (.bool true) ∧ Hid (Fr (fun _ => False) w5 w')) := fun w5 T uL uG hB W d hW hd => by
    refine (ysame_in base g mb g' T uL uG d W (hB.out.later hW.out) hd).mono ?_
    rintro e w' ⟨rfl, hf⟩
    exact ⟨rfl, hW.out.trans hf⟩
  go_loopw [11] (fun x11 wr => ∃ (i : Nat), x11 = .int .i64 (i : Int) ∧ i ≤ m ∧ Hid (∃ S vL vG, Both base wr g mb g' S vL vG ∧ Fr (fun k => base ≤ k) w wr)) (fun x11 _ => m - (intOf x11).toNat)
  case atStart => exact ⟨0, rfl, by omega, HS0.out⟩
  case round =>
    clear HS0
    obtain ⟨i, rfl, hin, HS⟩ := hrel
    by_cases hlt : i < m
    · have hlt2 : (i : Int) < (m : Int) := by omega
      obtain ⟨⟨wh, d, n⟩, ho⟩ : ∃ o, L[i]? = some o := ⟨L[i]'(by rw [HL.out]; exact hlt), List.getElem?_eq_getElem _⟩
      obtain ⟨gq, oq, rfl, hgq, a0, a1, a2, i0, i1, i2⟩ := HI.out.cells i _ ho
      dsimp only at a0 a1 a2 i0 i1 i2
      obtain ⟨S, vL, vG, b0, f0⟩ := HS.out
      have hgb : ¬ base ≤ gq := by have := HG.out; omega
      have k0 : wr.cell? ⟨gq, oq + i * 3, none⟩ = some (.int .i64 wh) := (f0.cell (p := ⟨gq, _, none⟩) hgq hgb).trans a0
      have k1 : wr.cell? ⟨gq, oq + i * 3 + 1, none⟩ = some (.int .i64 d) := (f0.cell (p := ⟨gq, _, none⟩) hgq hgb).trans a1
      have k2 : wr.cell? ⟨gq, oq + i * 3 + 2, none⟩ = some (.int .i64 n) := (f0.cell (p := ⟨gq, _, none⟩) hgq hgb).trans a2
      have KA := yplay_in base g mb g' S vL vG (wh, d, n) wr b0 (by have h1 := HG.out; have h2 := f0.size; omega)
      dsimp only at KA
      have KA2 : Calls Try.prog 14 #[.pointer (some ⟨g, 0, none⟩), .pointer (some ⟨g', 0, none⟩), .agg #[.int .i64 wh, .int .i64 d, .int .i64 n]] wr fun e w' => e = .returned (.bool true) ∧ ∃ uL uG, Hid (Both base w' g mb g' (playS S (wh, d, n)) uL uG) ∧ Hid (Fr (fun k => base ≤ k) w w') ∧ w'.cell? ⟨gq, oq + i * 3 + 1, none⟩ = some (.int .i64 d) ∧ Hid (Fr (fun _ => False) w' w') := by
        refine KA.mono ?_
        rintro e w' ⟨rfl, uL, uG, b5, f5⟩
        have f6 := f0.trans f5
        exact ⟨rfl, uL, uG, b5, f6, (f6.cell (p := ⟨gq, _, none⟩) hgq hgb).trans a1, Fr.refl _ _⟩
      have iD : IsI d := i1
      have iA : IsI 1 := ⟨by decide, by decide⟩
      have iB : IsI 2 := ⟨by decide, by decide⟩
      have HID : Hid (IsI d ∧ IsI 1 ∧ IsI 2) := ⟨iD, iA, iB⟩
      clear ho hgq a0 a1 a2 b0 f0 HS hgb KA i0 i1 i2 iD iA iB
      go_wp2_with (first | (go_at_call 14; refine KA2.mono ?_; clear KA2; rintro e w5 ⟨rfl, uL, uG, B5, F5, k5, P6⟩) | (go_at_call 15; refine (KS.out _ _ _ _ B5 _ _ P6 (by first | exact HID.out.1 | exact HID.out.2.1 | exact HID.out.2.2)).mono ?_; rintro e w6 ⟨rfl, P6⟩))
      go_roundw
      case rel => exact ⟨i + 1, by go_num, by omega, playS S (wh, d, n), uL, uG, B5.out.later P6.out, F5.out.trans (P6.out.mono (fun _ _ e => e.elim))⟩
      case measure => simp [intOf]; omega
    · go_wp2_with (go_at_call 11; refine (yawake_in _).mono ?_; rintro e w6 ⟨rfl, hf6⟩)
      go_ret
      obtain ⟨S, vL, vG, b0, f0⟩ := HS.out
      exact ⟨rfl, (f0.trans (hf6.mono (fun _ _ e => e.elim))).below (fun k hk e => by have h1 := HG.out; have h2 : base ≤ k := e; omega)⟩
end Go.Proofs.Ytahlhkpabkplfaa
