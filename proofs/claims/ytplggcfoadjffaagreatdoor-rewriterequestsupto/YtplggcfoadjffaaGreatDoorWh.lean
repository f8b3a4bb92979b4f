/- The document's Response. -/
import Derived.Test.YtplggcfoadjffaaGreatDoorWe
import Derived.Test.YtplggcfoadjffaaGreatDoorXm
import Derived.Test.YtplggcfoadjffaaGreatDoorOu
namespace Go.Proofs.YtplggcfoadjffaaGreatDoor
open Go.RowKit
set_option linter.unusedVariables false
set_option maxRecDepth 100000
set_option maxHeartbeats 8000000

theorem resStepD_len (d : List Hd) (h : Hd) : (resStepD d h).length ≤ 1 := by
  unfold resStepD
  repeat' split
  all_goals simp
theorem resStepD_sizes {l : List Hd} (hs : ∀ x ∈ l, x.1.size < 2 ^ 47 ∧ x.2.1.size < 2 ^ 47) : ∀ x ∈ gathO resStepD [] l, x.1.size < 2 ^ 47 ∧ x.2.1.size < 2 ^ 47 := by
  intro x hx
  obtain ⟨h, hm, d, hd⟩ := gath_mem1 hx
  have h0 := hs h hm
  unfold resStepD at hd
  split at hd
  · simp at hd
  split at hd
  · simp at hd; subst hd; exact h0
  · simp at hd; subst hd; exact h0
theorem viaH_sizes {l : List Hd} {name : List UInt8} (h : (viaO l name).length ≤ 16384) : (viaH l name).1.size < 2 ^ 47 ∧ (viaH l name).2.1.size < 2 ^ 47 := by
  unfold viaH
  refine ⟨?_, ?_⟩
  · show (mkS sVia).size < _
    rw [mkS_size]; decide
  · show (mkS (viaO l name)).size < _
    rw [mkS_size]; omega
theorem rxRes_in (q : Option Addr) (c : Nat) (l : List Hd) (name : ByteArray) (w : World) (hl : HL w q c l) (hls : l.length * 40 + 400 ≤ 2 ^ 47) (hbk : bulkV l ≤ 2 ^ 60) (hname : name.size ≤ 2 ^ 60) :
    Calls Tryz.prog 12 #[.slice q l.length c, .string name] w fun e w' => PassAs w (rewRes l (tx name)) e w' := by
  have KQ := rResponse_in q c l w hl
  have HLW : Hid (HL w q c l) := hl
  have KV : Hid (∀ W, Fr (fun _ => False) w W → Calls Tryz.prog 26 #[.slice q l.length c, .string name] W fun e w' => ViaAs W l (tx name) e w') := fun W f => rvia_in q c l name W (hl.fr f) hbk hname
  obtain ⟨st, hst⟩ : ∃ st, (((responseO l).1 : Nat) : Int) = st := ⟨_, rfl⟩
  rw [hst] at KQ
  have hfew := hl.few
  obtain ⟨len, hlen⟩ : ∃ len, l.length = len := ⟨_, rfl⟩
  have HN : Hid (l.length = len) := hlen
  rw [hlen] at KQ KV hfew hls ⊢
  clear hl hbk hname hlen hst
  by_cases h0 : (responseO l).2 = 0
  · rw [h0] at KQ
    have HD : Hid (gathO resStepD [] l = pickO l allN ++ gathO resStep [] l) := res_doc (response_status h0).1
    have HR0 : Hid ((responseO l).2 = 0) := h0
    clear h0
    go_enter Tryz.func12, Tryz.ntmps12
    go_wp2_with (fail)
    refine KQ.mono ?_
    rintro e w1 ⟨rfl, f1⟩
    have HF1 : Hid (Fr (fun _ => False) w w1) := f1
    have HR1 : Hid (RowN w (.slice none 0 0) [] w1) := (RowN.nil w).later f1
    clear f1 KQ
    go_wp2_with (fail)
    go_loopw [8, 9] (fun x8 x9 wr => ∃ (i : Nat) (la : Option Addr) (m lc : Nat), x8 = .slice la m lc ∧ x9 = .int .i64 (i : Int) ∧ i ≤ len ∧ Hid (RowN w (.slice la m lc) (gathO resStepD [] (l.take i)) wr)) (fun _ x9 _ => len - (intOf x9).toNat)
    case atStart => exact ⟨0, none, 0, 0, rfl, rfl, by omega, HR1.out⟩
    case round =>
      obtain ⟨i, la, m, lc, rfl, rfl, hi, HK⟩ := hrel
      by_cases hlt : i < len
      · have hlt2 : (i : Int) < (len : Int) := by omega
        obtain ⟨x, hx⟩ : ∃ x, l[i]? = some x := ⟨_, List.getElem?_eq_getElem (by rw [HN.out]; exact hlt)⟩
        obtain ⟨b, o, rfl, hb, c0, c1, c2, -⟩ := (HLW.out.fr HK.out.fr).cells i x hx
        have hstp := gathO_step (f := resStepD) hx
        obtain ⟨xn, xv, xs⟩ := x
        dsimp only at c0 c1 c2
        have HM : Hid ((gathO resStepD [] (l.take i)).length * 40 < 2 ^ 47) := by
          have h1 := gathO_len (f := resStepD) resStepD_len (l.take i) []
          rw [List.length_take] at h1
          show _ < _
          omega
        clear hx
        by_cases hv : tx xn = sVia
        · have HE : Hid (gathO resStepD [] (l.take (i + 1)) = gathO resStepD [] (l.take i)) := by
            show _ = _
            rw [hstp]
            unfold resStepD
            rw [if_pos hv, List.append_nil]
          obtain ⟨p0, r0⟩ := list_equ hv
          unfold sVia at p0 r0
          clear hv hstp
          go_wp2_with (fail)
          go_roundw
          case rel => exact ⟨i + 1, la, m, lc, rfl, by go_num, by omega, by rw [HE.out]; exact HK.out⟩
          case measure => simp [intOf]; omega
        · obtain ⟨p0, r0⟩ := list_neq hv
          unfold sVia at p0 r0
          by_cases hs : tx xn = sSetC
          case' pos =>
            have HE : Hid (gathO resStepD [] (l.take (i + 1)) = gathO resStepD [] (l.take i) ++ [(xn, xv, true)]) := by
              show _ = _
              rw [hstp]
              unfold resStepD
              rw [if_neg hv, if_pos hs]
            obtain ⟨p1, r1⟩ := list_equ hs
            unfold sSetC at p1 r1
            clear hv hs hstp
            cases xs
          case' neg =>
            have HE : Hid (gathO resStepD [] (l.take (i + 1)) = gathO resStepD [] (l.take i) ++ [(xn, xv, xs)]) := by
              show _ = _
              rw [hstp]
              unfold resStepD
              rw [if_neg hv, if_neg hs]
            obtain ⟨p1, r1⟩ := list_neq hs
            unfold sSetC at p1 r1
            clear hv hs hstp
            cases xs
          all_goals (
            go_wp2_with (refine wpList_addH rfl (.tmp 44) (.tmp 46) rfl (.slice la m lc) (gathO resStepD [] (l.take i)) (xn, xv, _) rfl (HK.out.later ((Fr.refl _ _).alloc _)).row (by go_simp) HM.out ?_; intro a6 n6 c6 w6 N6 O6 F6 K6)
            have HK3 : Hid (RowN w (.slice a6 n6 c6) (gathO resStepD [] (l.take (i + 1))) w6) := by rw [HE.out]; exact (HK.out.later ((Fr.refl _ _).alloc _)).add O6.out F6.out K6.out
            go_roundw
            case rel => exact ⟨i + 1, a6, n6, c6, rfl, by go_num, by omega, HK3.out⟩
            case measure => simp [intOf]; omega)
      · have hlt2 : ¬ (i : Int) < (len : Int) := by omega
        have HK2 : Hid (RowN w (.slice la m lc) (gathO resStepD [] l) wr) := by
          have h := HK.out
          rw [List.take_of_length_le (by rw [HN.out]; omega)] at h
          exact h
        have KV2 := KV.out wr HK2.out.fr
        have HM : Hid ((gathO resStepD [] l).length * 40 < 2 ^ 47) := by
          have h1 := gathO_len (f := resStepD) resStepD_len l []
          rw [HN.out] at h1
          show _ < _
          omega
        unfold ViaAs at KV2
        clear HK
        by_cases hL : (viaO l (tx name)).length ≤ 16384
        · rw [if_pos hL] at KV2
          have HPR : Hid (rewRes l (tx name) = (passO resStep l (tx name), 0)) := by show _ = _; unfold rewRes passR; rw [if_pos HR0.out, if_pos hL]
          have HVS : Hid ((viaO l (tx name)).length ≤ 16384 ∧ True) := ⟨hL, trivial⟩
          obtain ⟨VN, hVN⟩ : ∃ VN, mkS sVia = VN := ⟨_, rfl⟩
          obtain ⟨VT, hVT⟩ : ∃ VT, mkS (viaO l (tx name)) = VT := ⟨_, rfl⟩
          have HVH : Hid (viaH l (tx name) = (VN, VT, false)) := by show _ = _; unfold viaH; rw [hVN, hVT]
          rw [hVN, hVT] at KV2
          clear hL hVN hVT
          go_wp2_with (fail)
          refine KV2.mono ?_
          rintro e w5 ⟨rfl, f5⟩
          have HK5 : Hid (RowN w (.slice la m lc) (gathO resStepD [] l) (w5.alloc (.cells #[.string VN, .string VT, .bool false] 35))) := (HK2.out.later f5).later ((Fr.refl _ _).alloc _)
          clear f5 KV2
          go_wp2_with (refine wpList_addH rfl (.tmp 57) (.tmp 59) rfl (.slice la m lc) (gathO resStepD [] l) (VN, VT, false) rfl HK5.out.row (by go_simp) HM.out ?_; intro a6 n6 c6 w6 N6 O6 F6 K6)
          have hN := HK5.out.add O6.out F6.out K6.out
          go_ret2
          rw [HPR.out]
          have e9 : gathO resStepD [] l ++ [(VN, VT, false)] = passO resStep l (tx name) := by rw [HD.out, ← HVH.out]; rfl
          rw [e9] at hN
          have hsz : ∀ y ∈ passO resStep l (tx name), y.1.size < 2 ^ 47 ∧ y.2.1.size < 2 ^ 47 := fun y hy => by
            rw [← e9, List.mem_append] at hy
            rcases hy with hy | hy
            · exact resStepD_sizes HLW.out.sizes y hy
            · simp at hy; subst hy; rw [← HVH.out]; exact viaH_sizes HVS.out.1
          have hlen9 : (passO resStep l (tx name)).length * 40 < 2 ^ 47 := by
            rw [← e9, List.length_append]
            have h1 := gathO_len (f := resStepD) resStepD_len l []
            rw [HN.out] at h1
            simp
            omega
          obtain ⟨rfl, hh⟩ := hN.hl hlen9 hsz
          exact ⟨a6, c6, rfl, hh, hN.fr⟩
        · rw [if_neg hL] at KV2
          have HPR : Hid (rewRes l (tx name) = ([], 2)) := by show _ = _; unfold rewRes passR; rw [if_pos HR0.out, if_neg hL]
          clear hL
          go_wp2_with (fail)
          refine KV2.mono ?_
          rintro e w5 ⟨rfl, f5⟩
          have HF5 : Hid (Fr (fun _ => False) w (w5.alloc (.cells #[.string ⟨#[]⟩, .string ⟨#[]⟩, .bool false] 35))) := (HK2.out.fr.trans f5).alloc _
          clear f5 KV2
          go_wp2_with (fail)
          go_ret2
          rw [HPR.out]
          exact ⟨none, 0, rfl, HL.nil _, HF5.out⟩
  · have HRW : Hid (rewRes l (tx name) = ([], (responseO l).2)) := by show _ = _; unfold rewRes; rw [if_neg h0]
    obtain ⟨V, hV⟩ : ∃ V, (responseO l).2 = V := ⟨_, rfl⟩
    rw [hV] at KQ HRW h0
    clear hV
    go_enter Tryz.func12, Tryz.ntmps12
    go_wp2_with (fail)
    refine KQ.mono ?_
    rintro e w1 ⟨rfl, f1⟩
    have HF1 : Hid (Fr (fun _ => False) w w1) := f1
    clear f1 KQ
    go_wp2_with (fail)
    go_ret2
    rw [HRW.out]
    exact ⟨none, 0, rfl, HL.nil _, HF1.out⟩
end Go.Proofs.YtplggcfoadjffaaGreatDoor
