/- The walk of RewriteSecrets. -/
import Derived.Test.YtplggcfoadjffaaGreatDoorXm
import Derived.Test.YtplggcfoadjffaaGreatDoorXo
import Derived.Test.YtplggcfoadjffaaGreatDoorXq
namespace Go.Proofs.YtplggcfoadjffaaGreatDoor
open Go.RowKit
set_option linter.unusedVariables false
set_option maxRecDepth 100000
set_option maxHeartbeats 8000000

theorem rewReq_sec (l : List Hd) (name : List UInt8) : ∀ x ∈ (rewReq l name).1, secQ l x = true := by
  intro x hx
  unfold rewReq passR at hx
  split at hx
  · split at hx
    · split at hx
      · exact req_secret l name _ _ x hx
      · simp at hx
    · simp at hx
  · simp at hx
theorem rewRes_sec (l : List Hd) (name : List UInt8) : ∀ x ∈ (rewRes l name).1, secS l x = true := by
  intro x hx
  unfold rewRes passR at hx
  split at hx
  · split at hx
    · exact res_secret l name x hx
    · simp at hx
  · simp at hx
theorem rewReq_len (l : List Hd) (name : List UInt8) : (rewReq l name).1.length ≠ 0 → (rewReq l name).2 = 0 := by
  unfold rewReq passR
  split
  · split
    · split <;> simp
    · simp
  · simp
theorem rewRes_len (l : List Hd) (name : List UInt8) : (rewRes l name).1.length ≠ 0 → (rewRes l name).2 = 0 := by
  unfold rewRes passR
  split
  · split <;> simp
  · simp
theorem secQ_of {l : List Hd} {xn xv : ByteArray} (h : secQ l (xn, xv, false) = true) : tx xn ≠ sAuthz ∧ tx xn ≠ sCookie ∧ (tx xn = sVia ∨ wasB l (xn, xv, false) = false) := by
  unfold secQ at h
  simp only [Bool.false_or, Bool.not_eq_true', Bool.or_eq_false_iff, Bool.and_eq_false_iff, beq_eq_false_iff_ne, Bool.not_eq_false', beq_iff_eq] at h
  exact ⟨h.1.1, h.1.2, h.2⟩
theorem secS_of {l : List Hd} {xn xv : ByteArray} (h : secS l (xn, xv, false) = true) : tx xn ≠ sSetC ∧ (tx xn = sVia ∨ wasB l (xn, xv, false) = false) := by
  unfold secS at h
  simp only [Bool.false_or, Bool.not_eq_true', Bool.or_eq_false_iff, Bool.and_eq_false_iff, beq_eq_false_iff_ne, Bool.not_eq_false', beq_iff_eq] at h
  exact ⟨h.1, h.2⟩
theorem list_ne {s : ByteArray} {n : List UInt8} (h : tx s ≠ n) : (s.toList == n) = false ∧ ¬ s.toList = n := by
  rw [tx_toList]
  exact ⟨beq_eq_false_iff_ne.2 h, h⟩
theorem list_eq {s : ByteArray} {n : List UInt8} (h : tx s = n) : (s.toList == n) = true ∧ s.toList = n := by
  rw [tx_toList]
  exact ⟨beq_iff_eq.2 h, h⟩
theorem secrets_walk (q : Option Addr) (c : Nat) (l : List Hd) (w : World) (hl : HL w q c l) (hE : ErrAt w) (hP : PowAt w) (hls : l.length * 40 + 400 ≤ 2 ^ 47) :
    Calls Tryz.prog 6 #[.slice q l.length c] w fun e w' => e = .returned (.bool true) ∧ Below w.heap.size w w' := by
  have KX := xReq_in q c l ⟨#[112]⟩ w hl hE hls (by decide)
  have KY : Hid (∀ W, Fr (fun _ => False) w W → Calls Tryz.prog 11 #[.slice q l.length c, .string ⟨#[112]⟩] W fun e w' => PassAs W (rewRes l (tx ⟨#[112]⟩)) e w') := fun W f => xRes_in q c l ⟨#[112]⟩ W (hl.fr f) (hE.fr f) hls (by decide)
  have KA : Hid (∀ W, Fr (fun _ => False) w W → Calls Tryz.prog 10 #[] W fun e w' => e = .returned (.bool true) ∧ Fr (fun _ => False) W w') := fun W f => awake14_in W (hP.fr f)
  have KW0 : Hid (∀ W xn xv xs, Fr (fun _ => False) w W → Calls Tryz.prog 16 #[.slice q l.length c, .agg #[.string xn, .string xv, .bool xs]] W fun e w' => e = .returned (.bool (wasB l (xn, xv, xs))) ∧ Fr (fun _ => False) W w') := fun W xn xv xs f => was_in q c l xn xv xs W (hl.fr f)
  obtain ⟨⟨LX, erX⟩, hRX⟩ : ∃ r, rewReq l (tx ⟨#[112]⟩) = r := ⟨_, rfl⟩
  obtain ⟨⟨LY, erY⟩, hRY⟩ : ∃ r, rewRes l (tx ⟨#[112]⟩) = r := ⟨_, rfl⟩
  have HSLX : Hid (∀ x ∈ LX, secQ l x = true) := by have := rewReq_sec l (tx ⟨#[112]⟩); rw [hRX] at this; exact this
  have HSLY : Hid (∀ x ∈ LY, secS l x = true) := by have := rewRes_sec l (tx ⟨#[112]⟩); rw [hRY] at this; exact this
  have HELX : Hid (LX.length ≠ 0 → erX = 0) := by have := rewReq_len l (tx ⟨#[112]⟩); rw [hRX] at this; exact this
  have HELY : Hid (LY.length ≠ 0 → erY = 0) := by have := rewRes_len l (tx ⟨#[112]⟩); rw [hRY] at this; exact this
  rw [hRX] at KX
  rw [hRY] at KY
  obtain ⟨len, hlen⟩ : ∃ len, l.length = len := ⟨_, rfl⟩
  rw [hlen] at KX KY KW0 ⊢
  clear hl hE hP hls hRX hRY hlen
  go_enter Tryz.func6, Tryz.ntmps6
  go_wp2_with (fail)
  refine KX.mono ?_
  rintro e w1 ⟨qx, cx, rfl, hX, f1⟩
  dsimp only at hX ⊢
  have HF1 : Hid (Fr (fun _ => False) w w1) := f1
  have HX1 : Hid (HL w1 qx cx LX) := hX
  obtain ⟨nx, hnx⟩ : ∃ nx, LX.length = nx := ⟨_, rfl⟩
  have HNLX : Hid (LX.length = nx) := hnx
  rw [hnx] at HELX ⊢
  have hfx : nx * 40 < 2 ^ 47 := by rw [← hnx]; exact hX.few
  clear hX f1 KX hnx
  go_wp2_with (fail)
  refine (KY.out w1 HF1.out).mono ?_
  rintro e w2 ⟨qy, cy, rfl, hY, f2⟩
  dsimp only at hY ⊢
  have Fw2 : Hid (Fr (fun _ => False) w w2) := HF1.out.trans f2
  have HHLX : Hid (HL w2 qx cx LX) := HX1.out.fr f2
  have HY2 : Hid (HL w2 qy cy LY) := hY
  obtain ⟨ny, hny⟩ : ∃ ny, LY.length = ny := ⟨_, rfl⟩
  have HNLY : Hid (LY.length = ny) := hny
  rw [hny] at HELY ⊢
  have hfy : ny * 40 < 2 ^ 47 := by rw [← hny]; exact hY.few
  clear hY f2 HX1 hny
  go_wp2_with (fail)
  go_loopw [7] (fun v wr => ∃ i : Nat, v = .int .i64 (i : Int) ∧ i ≤ nx ∧ Fr (fun _ => False) w2 wr) (fun v _ => nx - (intOf v).toNat)
  case atStart => exact ⟨0, rfl, by omega, Fr.refl _ _⟩
  case round =>
    obtain ⟨i, rfl, hi, hf⟩ := hrel
    have HF : Hid (Fr (fun _ => False) w2 wr) := hf
    by_cases hlt : i < nx
    · have hlt2 : (i : Int) < (nx : Int) := by omega
      obtain rfl : erX = 0 := HELX.out (by omega)
      obtain ⟨x, hx⟩ : ∃ x, LX[i]? = some x := ⟨_, List.getElem?_eq_getElem (by rw [HNLX.out]; exact hlt)⟩
      obtain ⟨b, o, e0, hb, c0, c1, c2, -⟩ := (HHLX.out.fr hf).cells i x hx
      have hsx := HSLX.out x (List.mem_of_getElem? hx)
      obtain ⟨xn, xv, xs⟩ := x
      dsimp only at c0 c1 c2
      subst e0
      clear hx hf
      cases xs with
      | true =>
        clear hsx
        go_wp2_with (fail)
        go_roundw
        case rel => exact ⟨i + 1, by go_num, by omega, HF.out⟩
        case measure => simp [intOf]; omega
      | false =>
        obtain ⟨a0, a1, hvw⟩ := secQ_of hsx
        obtain ⟨p0, r0⟩ := list_ne a0
        unfold sAuthz at p0 r0
        obtain ⟨p1, r1⟩ := list_ne a1
        unfold sCookie at p1 r1
        by_cases hvia : tx xn = sVia
        · obtain ⟨pv, rv⟩ := list_eq hvia
          unfold sVia at pv rv
          clear hvia hvw a0 a1 hsx
          go_wp2_with (fail)
          go_roundw
          case rel => exact ⟨i + 1, by go_num, by omega, HF.out⟩
          case measure => simp [intOf]; omega
        · obtain ⟨pv, rv⟩ := list_ne hvia
          unfold sVia at pv rv
          have hwas : wasB l (xn, xv, false) = false := by
            rcases hvw with h | h
            · exact absurd h hvia
            · exact h
          have KW := KW0.out wr xn xv false (Fw2.out.trans HF.out)
          rw [hwas] at KW
          clear hvia hvw a0 a1 hsx hwas
          go_wp2_with (fail)
          refine KW.mono ?_
          rintro e w9 ⟨rfl, f9⟩
          have HF9 : Hid (Fr (fun _ => False) w2 w9) := HF.out.trans f9
          clear f9 KW
          go_wp2_with (fail)
          go_roundw
          case rel => exact ⟨i + 1, by go_num, by omega, HF9.out⟩
          case measure => simp [intOf]; omega
    · have hlt2 : ¬ (i : Int) < (nx : Int) := by omega
      have FE : Hid (Fr (fun _ => False) w wr) := Fw2.out.trans HF.out
      clear hf
      by_cases hx0 : erX = 0
      case' pos =>
        subst hx0
        go_wp2_with (fail)
      case' neg =>
        have hx2 : (erX == 0) = false := beq_eq_false_iff_ne.2 hx0
        go_wp2_with (fail)
      all_goals (
        have HHLY : Hid (HL wr qy cy LY) := HY2.out.fr HF.out
        have Fw3 : Hid (Fr (fun _ => False) w wr) := FE.out
        clear FE HF HY2
        rename World => w3
        go_loopw [8] (fun v wr => ∃ i : Nat, v = .int .i64 (i : Int) ∧ i ≤ ny ∧ Fr (fun _ => False) w3 wr) (fun v _ => ny - (intOf v).toNat)
        case atStart => exact ⟨0, rfl, by omega, Fr.refl _ _⟩
        case round =>
          obtain ⟨i, rfl, hi, hf⟩ := hrel
          have HF : Hid (Fr (fun _ => False) w3 wr) := hf
          by_cases hlt : i < ny
          · have hlt2 : (i : Int) < (ny : Int) := by omega
            obtain rfl : erY = 0 := HELY.out (by omega)
            obtain ⟨x, hx⟩ : ∃ x, LY[i]? = some x := ⟨_, List.getElem?_eq_getElem (by rw [HNLY.out]; exact hlt)⟩
            obtain ⟨b, o, e0, hb, c0, c1, c2, -⟩ := (HHLY.out.fr hf).cells i x hx
            have hsx := HSLY.out x (List.mem_of_getElem? hx)
            obtain ⟨xn, xv, xs⟩ := x
            dsimp only at c0 c1 c2
            subst e0
            clear hx hf
            cases xs with
            | true =>
              clear hsx
              go_wp2_with (fail)
              go_roundw
              case rel => exact ⟨i + 1, by go_num, by omega, HF.out⟩
              case measure => simp [intOf]; omega
            | false =>
              obtain ⟨a0, hvw⟩ := secS_of hsx
              obtain ⟨p0, r0⟩ := list_ne a0
              unfold sSetC at p0 r0
              by_cases hvia : tx xn = sVia
              · obtain ⟨pv, rv⟩ := list_eq hvia
                unfold sVia at pv rv
                clear hvia hvw a0 hsx
                go_wp2_with (fail)
                go_roundw
                case rel => exact ⟨i + 1, by go_num, by omega, HF.out⟩
                case measure => simp [intOf]; omega
              · obtain ⟨pv, rv⟩ := list_ne hvia
                unfold sVia at pv rv
                have hwas : wasB l (xn, xv, false) = false := by
                  rcases hvw with h | h
                  · exact absurd h hvia
                  · exact h
                have KW := KW0.out wr xn xv false (Fw3.out.trans HF.out)
                rw [hwas] at KW
                clear hvia hvw a0 hsx hwas
                go_wp2_with (fail)
                refine KW.mono ?_
                rintro e w9 ⟨rfl, f9⟩
                have HF9 : Hid (Fr (fun _ => False) w3 w9) := HF.out.trans f9
                clear f9 KW
                go_wp2_with (fail)
                go_roundw
                case rel => exact ⟨i + 1, by go_num, by omega, HF9.out⟩
                case measure => simp [intOf]; omega
          · have hlt2 : ¬ (i : Int) < (ny : Int) := by omega
            have FE : Hid (Fr (fun _ => False) w wr) := Fw3.out.trans HF.out
            clear hf
            by_cases hx0 : erY = 0
            case' pos =>
              subst hx0
              go_wp2_with (fail)
            case' neg =>
              have hx2 : (erY == 0) = false := beq_eq_false_iff_ne.2 hx0
              go_wp2_with (fail)
            all_goals (
              refine (KA.out wr FE.out).mono ?_
              rintro e w8 ⟨rfl, f8⟩
              have HF8 : Hid (Fr (fun _ => False) w w8) := FE.out.trans f8
              clear f8
              go_wp2_with (fail)
              go_ret
              exact ⟨rfl, HF8.out.below (fun _ _ h => h)⟩))
end Go.Proofs.YtplggcfoadjffaaGreatDoor
