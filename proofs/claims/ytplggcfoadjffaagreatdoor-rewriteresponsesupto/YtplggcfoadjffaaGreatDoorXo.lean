/- Whether two lists are the same; awake; which requests may be sent again. -/
import Derived.Test.YtplggcfoadjffaaGreatDoorXn
namespace Go.Proofs.YtplggcfoadjffaaGreatDoor
open Go.RowKit
set_option linter.unusedVariables false
set_option maxRecDepth 100000
set_option maxHeartbeats 4000000

theorem awake14_in (w : World) (hP : PowAt w) : Calls Tryz.prog 10 #[] w fun e w' => e = .returned (.bool true) ∧ Fr (fun _ => False) w w' := by
  have K := plain_in 502 w hP (by decide) (by decide)
  have hs : mkS (statL 502) = ⟨#[53, 48, 50]⟩ := by decide
  rw [hs] at K
  go_enter Tryz.func10, Tryz.ntmps10
  go_wp2_with (fail)
  refine K.mono ?_
  rintro e w1 ⟨g, rfl, hl, f1⟩
  have HF1 : Hid (Fr (fun _ => False) w w1) := f1
  obtain ⟨b, o, e1, hb, c0, c1, c2, -⟩ := hl.cells 0 _ rfl
  cases e1
  dsimp only at c0 c1 c2
  simp only [Nat.zero_mul, Nat.add_zero, Nat.zero_add] at c0 c1 c2
  unfold statusS at c0
  clear f1 K hl
  go_wp2_with (fail)
  go_ret
  exact ⟨rfl, HF1.out⟩
theorem headers_in (q q' : Option Addr) (c c' : Nat) (l : List Hd) (w : World) (h : HL w q c l) (h' : HL w q' c' l) : Calls Tryz.prog 9 #[.slice q l.length c, .slice q' l.length c'] w fun e w' => e = .returned (.bool true) ∧ Fr (fun _ => False) w w' := by
  have HA : Hid (HL w q c l) := h
  have HB : Hid (HL w q' c' l) := h'
  have hfew := h.few
  obtain ⟨len, hlen⟩ : ∃ len, l.length = len := ⟨_, rfl⟩
  have HN : Hid (l.length = len) := hlen
  rw [hlen] at hfew ⊢
  clear h h' hlen
  go_enter Tryz.func9, Tryz.ntmps9
  go_wp2_with (fail)
  go_loopw [5] (fun x5 wr => ∃ i : Nat, x5 = .int .i64 (i : Int) ∧ i ≤ len ∧ Fr (fun _ => False) w wr) (fun x5 _ => len - (intOf x5).toNat)
  case atStart => exact ⟨0, rfl, by omega, Fr.refl _ _⟩
  case round =>
    obtain ⟨i, rfl, hi, hf⟩ := hrel
    by_cases hlt : i < len
    · have hlt2 : (i : Int) < (len : Int) := by omega
      obtain ⟨x, hx⟩ : ∃ x, l[i]? = some x := ⟨_, List.getElem?_eq_getElem (by rw [HN.out]; exact hlt)⟩
      obtain ⟨b, o, rfl, hb, c0, c1, c2, -⟩ := (HA.out.fr hf).cells i x hx
      obtain ⟨b', o', rfl, hb', d0, d1, d2, -⟩ := (HB.out.fr hf).cells i x hx
      obtain ⟨xn, xv, xs⟩ := x
      dsimp only at c0 c1 c2 d0 d1 d2
      have HF : Hid (Fr (fun _ => False) w wr) := hf
      have s1 := str_same xn
      have s2 := str_same xv
      clear hx hf
      go_wp2_with (fail)
      go_region
      go_wp2_with (fail)
      go_roundw
      case rel => exact ⟨i + 1, by go_num, by omega, HF.out.drew⟩
      case measure => simp [intOf]; omega
    · have hlt2 : ¬ (i : Int) < (len : Int) := by omega
      go_wp2_with (fail)
      go_ret
      exact ⟨rfl, hf⟩
end Go.Proofs.YtplggcfoadjffaaGreatDoor
