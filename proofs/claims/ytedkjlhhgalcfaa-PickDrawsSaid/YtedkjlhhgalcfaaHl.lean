/- The walk of PickDraws. -/
import Derived.Test.YtedkjlhhgalcfaaHj
namespace Go.Proofs.Ytedkjlhhgalcfaa
open Go.RowKit
set_option linter.unusedVariables false
set_option maxRecDepth 100000
set_option maxHeartbeats 4000000

/-- Is it among the first k? -/
def hasK (T : List Int) (X : Int) (k : Nat) : Bool := (T.take k).any fun b => b == X
theorem hasK_next {T : List Int} {X b : Int} {k : Nat} (h : T[k]? = some b) : hasK T X (k + 1) = (hasK T X k || (b == X)) := by
  unfold hasK
  rw [List.take_add_one, h, List.any_append]
  simp
theorem hasK_all {T : List Int} {X : Int} {k r : Nat} (h : T.length ≤ k) (hr : T[r]? = some X) : hasK T X k = true := by
  unfold hasK
  rw [List.take_of_length_le h, List.any_eq_true]
  exact ⟨X, List.mem_of_getElem? hr, by simp⟩
theorem draws_walk (q : Option Addr) (c n : Nat) (L : List Bk) (d : Int) (W : World) (h : BacksAt W q c L) (hl : L.length = n) (hd : IsI d) : Calls Try.prog 7 #[.slice q n c, .int .i64 d] W fun e W' => e = .returned (.bool true) ∧ Below W.heap.size W W' := by
  have HB : Hid (BacksAt W q c L) := h
  have HL : Hid (L.length = n) := hl
  have HD : Hid (IsI d) := hd
  have hnb : (n : Int) ≤ 6000000000000 := by have := h.small; omega
  have K := pkTies_in q c n L W h hl
  have hmn : (tieL L).length ≤ n := by rw [← hl]; exact nums_len _ _ _
  obtain ⟨T, hT⟩ : ∃ T, tieL L = T := ⟨_, rfl⟩
  rw [hT] at K hmn
  have HT : Hid (tieL L = T) := hT
  obtain ⟨m, hm⟩ : ∃ m, T.length = m := ⟨_, rfl⟩
  have HM : Hid (T.length = m) := hm
  rw [hm] at hmn
  clear h hl hd hT hm
  go_enter Try.func7, Try.ntmps7
  go_wp2_with (go_at_call 12; refine K.mono ?_; clear K; rintro e w1 ⟨ta, tm, tc, rfl, h1⟩; obtain ⟨e1, htc⟩ := h1.own.lenI; rw [HM.out] at e1 htc; subst e1; have H1 : Hid (GotS W w1 ta tm tc T) := h1; clear h1)
  go_loopw [6] (fun x6 wr => ∃ i : Nat, x6 = .int .i64 (i : Int) ∧ i ≤ tm ∧ i ≤ 100 ∧ Hid (Fr (fun _ => False) w1 wr)) (fun x6 _ => tm - (intOf x6).toNat)
  case atStart => exact ⟨0, rfl, by omega, by omega, Fr.refl _ _⟩
  case round =>
    obtain ⟨i, rfl, hin, hi100, HR⟩ := hrel
    by_cases hlt : i < tm ∧ i < 100
    · obtain ⟨hl1, hl2⟩ := hlt
      have hlt2 : (i : Int) < (tm : Int) := by omega
      have hlt3 : (i : Int) < 100 := by omega
      obtain ⟨x, hx⟩ : ∃ x, T[i]? = some x := ⟨_, List.getElem?_eq_getElem (by rw [HM.out]; exact hl1)⟩
      have K := pkChoose_in q c n L (i : Int) wr (HB.out.fr (H1.out.fr.trans HR.out) (fun _ _ => id)) HL.out ⟨by omega, by omega⟩
      unfold ChoA at K
      rw [HT.out, ch_at hx, show chE T = 0 from if_neg (by rw [HM.out]; omega)] at K
      obtain ⟨g, o, rfl, hg, t0⟩ := H1.out.own.ints i x hx
      have HX : Hid (g < w1.heap.size ∧ w1.cell? ⟨g, o + i, none⟩ = some (.int .i64 x)) := ⟨hg, t0⟩
      clear hx hg t0
      go_wp2_with (go_at_call 14; refine K.mono ?_; clear K; rintro e w2 ⟨rfl, f2⟩; have F2 : Hid (Fr (fun _ => False) wr w2) := f2; clear f2; have c0 : w2.cell? ⟨g, o + i, none⟩ = some (.int .i64 x) := ((HR.out.trans F2.out).cell (p := ⟨g, o + i, none⟩) HX.out.1 id).trans HX.out.2)
      go_roundw
      case rel => exact ⟨i + 1, by go_num, by omega, by omega, HR.out.trans F2.out⟩
      case measure => simp [intOf]; omega
    · have HA : Hid (¬ (i < tm ∧ i < 100)) := hlt
      have K := pkChoose_in q c n L d wr (HB.out.fr (H1.out.fr.trans HR.out) (fun _ _ => id)) HL.out HD.out
      unfold ChoA at K
      rw [HT.out] at K
      by_cases hz : tm = 0
      · subst hz
        obtain ⟨e1, e2⟩ := ch_none HM.out d
        rw [e1, e2] at K
        have hi0 : i = 0 := by omega
        subst hi0
        clear e1 e2 hlt
        go_wp2_with (first
          | (go_at_call 14; refine K.mono ?_; clear K; rintro e w2 ⟨rfl, f2⟩; have F2 : Hid (Fr (fun _ => False) wr w2) := f2; clear f2)
          | (go_at_call 11; refine (pkawake_in _).mono ?_; rintro e w4 ⟨rfl, f4⟩))
        go_ret
        exact ⟨rfl, (((H1.out.fr.trans HR.out).trans F2.out).trans f4).below (fun _ _ => id)⟩
      · obtain ⟨r, hr, hrm, hx, hE⟩ := ch_some (t := T) (by rw [HM.out]; exact hz) d
        rw [hE] at K
        rw [HM.out] at hr hrm
        obtain ⟨X, hX⟩ : ∃ X, chI T d = X := ⟨_, rfl⟩
        rw [hX] at hx K
        have HX : Hid (T[r]? = some X) := hx
        have hz2 : (tm : Int) ≠ 0 := by omega
        clear hX hE hx hr
        by_cases hl1 : i < tm
        · have hlt2 : (i : Int) < (tm : Int) := by omega
          have hlt3 : ¬ (i : Int) < 100 := by omega
          clear hlt
          go_wp2_with (go_at_call 14; refine K.mono ?_; clear K; rintro e w2 ⟨rfl, f2⟩; have F2 : Hid (Fr (fun _ => False) w1 w2) := HR.out.trans f2; clear f2)
          go_loopw [11, 12] (fun x11 x12 wq => ∃ k : Nat, x11 = .bool (hasK T X k) ∧ x12 = .int .i64 (k : Int) ∧ k ≤ tm ∧ Hid (Fr (fun _ => False) w1 wq)) (fun _ x12 _ => tm - (intOf x12).toNat)
          case atStart => exact ⟨0, rfl, rfl, by omega, F2.out⟩
          case round =>
            obtain ⟨k, rfl, rfl, hkn, HQ⟩ := hrel
            by_cases hkl : k < tm
            · have hkl2 : (k : Int) < (tm : Int) := by omega
              obtain ⟨b, hb⟩ : ∃ d, T[k]? = some d := ⟨T[k]'(by rw [HM.out]; exact hkl), List.getElem?_eq_getElem _⟩
              obtain ⟨g, o, rfl, -, c0⟩ := (H1.out.own.fr HQ.out (fun _ _ => id)).ints k b hb
              have HN : Hid (hasK T X (k + 1) = (hasK T X k || (b == X))) := hasK_next hb
              obtain ⟨V, hV⟩ : ∃ V, hasK T X k = V := ⟨_, rfl⟩
              rw [hV] at HN ⊢
              clear hb hV
              cases V
              · go_wp2_with (fail)
                go_roundw
                case rel => exact ⟨k + 1, by rw [HN.out]; rfl, by go_num, by omega, HQ.out⟩
                case measure => simp [intOf]; omega
              · go_wp2_with (fail)
                go_roundw
                case rel => exact ⟨k + 1, by rw [HN.out]; rfl, by go_num, by omega, HQ.out⟩
                case measure => simp [intOf]; omega
            · have hkl2 : ¬ (k : Int) < (tm : Int) := by omega
              have HE : Hid (hasK T X k = true) := hasK_all (by rw [HM.out]; omega) HX.out
              rw [HE.out]
              go_wp2_with (go_at_call 11; refine (pkawake_in _).mono ?_; rintro e w4 ⟨rfl, f4⟩)
              go_ret
              exact ⟨rfl, ((H1.out.fr.trans HQ.out).trans f4).below (fun _ _ => id)⟩
        · have hlt2 : ¬ (i : Int) < (tm : Int) := by omega
          clear hlt
          go_wp2_with (go_at_call 14; refine K.mono ?_; clear K; rintro e w2 ⟨rfl, f2⟩; have F2 : Hid (Fr (fun _ => False) w1 w2) := HR.out.trans f2; clear f2)
          go_loopw [11, 12] (fun x11 x12 wq => ∃ k : Nat, x11 = .bool (hasK T X k) ∧ x12 = .int .i64 (k : Int) ∧ k ≤ tm ∧ Hid (Fr (fun _ => False) w1 wq)) (fun _ x12 _ => tm - (intOf x12).toNat)
          case atStart => exact ⟨0, rfl, rfl, by omega, F2.out⟩
          case round =>
            obtain ⟨k, rfl, rfl, hkn, HQ⟩ := hrel
            by_cases hkl : k < tm
            · have hkl2 : (k : Int) < (tm : Int) := by omega
              obtain ⟨b, hb⟩ : ∃ d, T[k]? = some d := ⟨T[k]'(by rw [HM.out]; exact hkl), List.getElem?_eq_getElem _⟩
              obtain ⟨g, o, rfl, -, c0⟩ := (H1.out.own.fr HQ.out (fun _ _ => id)).ints k b hb
              have HN : Hid (hasK T X (k + 1) = (hasK T X k || (b == X))) := hasK_next hb
              obtain ⟨V, hV⟩ : ∃ V, hasK T X k = V := ⟨_, rfl⟩
              rw [hV] at HN ⊢
              clear hb hV
              cases V
              · go_wp2_with (fail)
                go_roundw
                case rel => exact ⟨k + 1, by rw [HN.out]; rfl, by go_num, by omega, HQ.out⟩
                case measure => simp [intOf]; omega
              · go_wp2_with (fail)
                go_roundw
                case rel => exact ⟨k + 1, by rw [HN.out]; rfl, by go_num, by omega, HQ.out⟩
                case measure => simp [intOf]; omega
            · have hkl2 : ¬ (k : Int) < (tm : Int) := by omega
              have HE : Hid (hasK T X k = true) := hasK_all (by rw [HM.out]; omega) HX.out
              rw [HE.out]
              go_wp2_with (go_at_call 11; refine (pkawake_in _).mono ?_; rintro e w4 ⟨rfl, f4⟩)
              go_ret
              exact ⟨rfl, ((H1.out.fr.trans HQ.out).trans f4).below (fun _ _ => id)⟩
end Go.Proofs.Ytedkjlhhgalcfaa
