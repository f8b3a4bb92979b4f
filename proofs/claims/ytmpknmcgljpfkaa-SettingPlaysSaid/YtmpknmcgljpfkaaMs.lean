/- The walk of SettingPlays. -/
import Derived.Test.YtmpknmcgljpfkaaMr
namespace Go.Proofs.Ytmpknmcgljpfkaa
open Go.RowKit Go.Maps
set_option linter.unusedVariables false
set_option maxRecDepth 100000
set_option maxHeartbeats 16000000

/-- A copy of a list, laid onto an empty one. -/
theorem copy_lit {w : World} {q : Option Addr} {c m : Nat} {Y : List (Int × Nat)} (h : SetsAt w q c Y) (hm : Y.length = m) :
    ∃ (p : Option Addr) (d : Nat) (w7 : World), (Builtin.append_ #[33, 33] 33 #[.slice (some ⟨w.heap.size, 0, none⟩) 0 0, .slice q m c]).run Try.prog (w.alloc (.cells #[] 24)) = .ok (.slice p m d) w7 ∧ Copy w7 p d Y ∧ Fr (fun _ => False) w w7 := by
  have hlit : (w.alloc (.cells #[] 24)).ownsRow 0 24 2 (.slice (some ⟨w.heap.size, 0, none⟩) 0 0) 0 [] := World.ownsRow_lit (base := 0) (e := 24) (size := 2) w #[] 0 (Nat.zero_le _) (by decide) rfl
  have f5 : Fr (fun _ => False) w (w.alloc (.cells #[] 24)) := (Fr.refl _ _).alloc _
  obtain ⟨p, d, w7, hr7, hc7, hf7⟩ := copyS_run (h.later f5) _ hlit
  rw [hm] at hr7
  exact ⟨p, d, w7, hr7, hc7, fr_new f5 hf7 (fun k e => by simp [Value.ownBlock] at e; omega)⟩
theorem plays_walk (q : Option Addr) (c : Nat) (L : List (Int × Option Addr × Nat × List (Int × Nat))) (w : World) (hL : Ops9 w q c L) :
    Calls Try.prog 4 #[.slice q L.length c] w fun e w' => e = .returned (.bool true) ∧ Below w.heap.size w w' := by
  have K1 := NewQ w w (Fr.refl _ _)
  have KA : Hid (∀ w, Calls Try.prog 11 #[] w fun e w' => e = .returned (.bool true) ∧ Fr (fun _ => False) w w') := fun w => sawake_in w
  obtain ⟨N, hn⟩ : ∃ N, L.length = N := ⟨_, rfl⟩
  have HL : Hid (Ops9 w q c L) := hL
  have HN : Hid (L.length = N) := hn
  have hfew : N * 32 < 2 ^ 47 := by have := hL.few; have : reachBytes < 2 ^ 47 := reach_lt; omega
  have hn2 : (N : Int) ≤ 9223372036854775806 := by omega
  rw [hn]
  clear hn hL
  go_enter Try.func4, Try.ntmps4
  go_wp2_with (fail)
  refine K1.mono ?_
  clear K1
  rintro e w1 ⟨g, b, rfl, h1, -⟩
  have K2 := rsNew_in w w1 h1.one.fr
  have S1 : Hid (SetQ w w1 g b firstV none 0 0 []) := h1
  clear h1
  go_wp2_with (fail)
  refine K2.mono ?_
  clear K2
  rintro e w2 ⟨rg, rb, rfl, h2, hf2⟩
  have S2 : Hid (Two w g b rg rb 0 w2) := ⟨firstV, none, 0, 0, [], none, 0, 0, [], S1.out.later hf2, h2, rfl, fun k e => by simp [Value.ownBlock] at e, Nat.le_refl _⟩
  clear h2 hf2 S1
  go_wp2_with (fail)
  go_loopw [5] (fun x5 wr => ∃ i : Nat, x5 = .int .i64 (i : Int) ∧ i ≤ N ∧ Hid (Two w g b rg rb i wr)) (fun x5 _ => N - (intOf x5).toNat)
  case atStart => exact ⟨0, rfl, by omega, S2.out⟩
  case round =>
    clear S2
    obtain ⟨i, rfl, hin, HS⟩ := hrel
    by_cases hlt : i < N
    · obtain ⟨⟨wt, p1, c1, Y⟩, hs⟩ : ∃ s, L[i]? = some s := ⟨L[i]'(by rw [HN.out]; exact hlt), List.getElem?_eq_getElem _⟩
      have HSS : Hid (L[i]? = some (wt, p1, c1, Y)) := hs
      obtain ⟨gq, oq, rfl, hgq, d0, d1, -, hY⟩ := (HL.out.later HS.out.fr).cells i _ hs
      have HG : Hid (gq < w.heap.size) := by
        obtain ⟨_, _, e, h9, -⟩ := HL.out.cells i _ hs
        cases e
        exact h9
      have HKEEP : Hid (∀ w', Fr (fun _ => False) w w' → w'.cell? ⟨gq, oq + i * 2, none⟩ = some (.int .i64 wt) ∧ w'.cell? ⟨gq, oq + i * 2 + 1, none⟩ = some (.slice p1 Y.length c1) ∧ SetsAt w' p1 c1 Y) := fun w' hf => by
        obtain ⟨_, _, e, -, k0, k1, -, k3⟩ := (HL.out.later hf).cells i _ hs
        cases e
        exact ⟨k0, k1, k3⟩
      have hlt2 : (i : Int) < (N : Int) := by omega
      clear hs hgq
      dsimp only at d0 d1 hY
      obtain ⟨m, hm⟩ : ∃ m, Y.length = m := ⟨_, rfl⟩
      rw [hm] at d1 HKEEP
      have HM : Hid (Y.length = m) := hm
      obtain ⟨V, a, n, c', LL, ra, rn, rc, RL, TS⟩ := HS.out
      have HT : Hid (TwoS w wr g b rg rb V a n c' LL ra rn rc RL i) := TS
      have HRL : Hid (RL.length = LL.length) := by have := congrArg List.length TS.same; simp at this; exact this.symm
      clear TS HS
      by_cases h0 : wt = 0
      case' pos =>
        subst h0
        obtain ⟨p, d, w7, hr7, hc7, hf7⟩ := copy_lit hY hm
        have T7 : Hid (TwoS w w7 g b rg rb V a n c' LL ra rn rc RL i) := HT.out.later hf7
        obtain ⟨⟨V2, cd⟩, ho⟩ : ∃ o, applyO V Y = o := ⟨_, rfl⟩
        have HO : Hid (applyO V Y = (V2, cd)) := ho
        have K3 := Apply1 T7.out.prog.one p d m Y hc7.sets hm ho
        unfold Appl1 at K3
        obtain ⟨nn, hnn⟩ : ∃ nn, (if cd = 0 then (V2 4 : Int) - (V 4 : Int) else 0) = nn := ⟨_, rfl⟩
        have HNN : Hid ((if cd = 0 then (V2 4 : Int) - (V 4 : Int) else 0) = nn) := hnn
        obtain ⟨bb, hbb⟩ : ∃ bb, (cd != 0) = bb := ⟨_, rfl⟩
        have HBB : Hid ((cd != 0) = bb) := hbb
        rw [hnn, hbb] at K3
        have d2 : (wr.alloc (.cells #[] 24)).cell? ⟨gq, oq + i * 2 + 1, none⟩ = some (.slice p1 m c1) := (HKEEP.out _ (HT.out.prog.one.fr.alloc _)).2.1
        clear hY hm ho hnn hbb hc7 hf7 HT
        go_upto_region 15 with (first
          | (refine wpList_append_run9 rfl (.tmp 53) (.tmp 58) 33 rfl (.slice (some ⟨wr.heap.size, 0, none⟩) 0 0) (.slice p1 m c1) (.slice p m d) (by go_simp) (by go_simp) hr7 ?_)
          | (go_at_call 14; refine K3.mono ?_; clear K3; rintro e w8 ⟨rfl, h8, hf8⟩))
        obtain ⟨w9, hw9⟩ : ∃ w9, w9 = w8.alloc (.cells #[.bool bb, .int .i64 0, .int .i64 cd] 37) := ⟨_, rfl⟩
        obtain ⟨gx, hgx⟩ : ∃ gx, gx = w8.heap.size := ⟨_, rfl⟩
        have f89 : Fr (fun _ => False) w8 w9 := by rw [hw9]; exact (Fr.refl _ _).alloc _
        have X9 : Hid (w9.heap[gx]? = some (.cells #[.bool bb, .int .i64 0, .int .i64 cd] 37 (0, 0))) := by show _ = _; rw [hw9, hgx]; exact heap_alloc_new w8 _
        have h89 := T7.out.appl h8 hf8
        have S9 : Hid (SetQ w w9 g b V2 a n c' LL ∧ RefQ w w9 rg rb V ra rn rc RL) := ⟨h89.1.later f89, h89.2.later f89⟩
        rw [← hw9, ← hgx]
        clear hw9 hgx h89 f89 h8 hf8 d0 d1 d2 hr7
        obtain ⟨-, e1, hY9⟩ := HKEEP.out w9 S9.out.1.one.fr
        have K4 := rsApply_in S9.out.2 p1 c1 m Y hY9 HM.out HO.out
        unfold RAppAs at K4
        rw [HNN.out, HBB.out] at K4
        clear hY9
        go_upto_region 16 with (go_at_call 15; refine K4.mono ?_; clear K4; rintro e w10 ⟨rfl, h10, hf10⟩)
        obtain ⟨w11, hw11⟩ : ∃ w11, w11 = w10.alloc (.cells #[.bool bb, .int .i64 0, .int .i64 cd] 37) := ⟨_, rfl⟩
        obtain ⟨gy, hgy⟩ : ∃ gy, gy = w10.heap.size := ⟨_, rfl⟩
        have f11 : Fr (fun _ => False) w10 w11 := by rw [hw11]; exact (Fr.refl _ _).alloc _
        have y11 : w11.heap[gy]? = some (.cells #[.bool bb, .int .i64 0, .int .i64 cd] 37 (0, 0)) := by rw [hw11, hgy]; exact heap_alloc_new w10 _
        have x10 : w10.heap[gx]? = some (.cells #[.bool bb, .int .i64 0, .int .i64 cd] 37 (0, 0)) := (hf10.block _ (lt_of_heap X9.out) (cells_ne9 X9.out S9.out.2.vals (by decide))).trans X9.out
        have x11 : w11.heap[gx]? = some (.cells #[.bool bb, .int .i64 0, .int .i64 cd] 37 (0, 0)) := (f11.block _ (lt_of_heap x10) id).trans x10
        have SZ : Hid (Two w g b rg rb (i + 1) w11) := ⟨V2, a, n, c', LL, ra, rn, rc, RL, (S9.out.1.by_vals S9.out.2 hf10).later f11, h10.later f11, T7.out.same, T7.out.ap, Nat.le_trans T7.out.few (Nat.le_succ _)⟩
        rw [← hw11, ← hgy]
        clear hw11 hgy f11 x10 h10 hf10 e1
        have x0 : w11.cell? ⟨gx, 0, none⟩ = some (.bool bb) := cell_of_heap x11 rfl
        have x1 : w11.cell? ⟨gx, 1, none⟩ = some (.int .i64 0) := cell_of_heap x11 rfl
        have x2 : w11.cell? ⟨gx, 2, none⟩ = some (.int .i64 cd) := cell_of_heap x11 rfl
        have y0 : w11.cell? ⟨gy, 0, none⟩ = some (.bool bb) := cell_of_heap y11 rfl
        have y1 : w11.cell? ⟨gy, 1, none⟩ = some (.int .i64 0) := cell_of_heap y11 rfl
        have y2 : w11.cell? ⟨gy, 2, none⟩ = some (.int .i64 cd) := cell_of_heap y11 rfl
        clear x11 y11 S9 X9 T7
        go_upto_region 22 with (fail)
        clear x0 x1 x2 y0 y1 y2
        clear HO HNN HBB
      case' neg =>
        have hb0 : (wt == 0) = false := by simp [h0]
        clear h0
        by_cases h1 : wt = 1
        case' pos =>
          subst h1
          have hbd : (LL.length + 1) * 24 < 2 ^ 47 := by have := HT.out.few; omega
          have K3 := rsOffer_in HT.out.ref p1 c1 m Y hY hm (by rw [HRL.out]; exact hbd)
          clear hY hm
          go_upto_region 20 with (go_at_call 16; refine K3.mono ?_; clear K3; rintro e w2 ⟨rfl, pr, dr, ra2, rn2, rc2, h2, hf2, hb2⟩)
          clear d0 d1 hb0
          have S2 : Hid (SetQ w w2 g b V a n c' LL ∧ RefQ w w2 rg rb V ra2 rn2 rc2 (RL ++ [(pr, dr, Y)])) := ⟨HT.out.prog.by_queue HT.out.ref HT.out.ap hf2, h2⟩
          have AP2 : Hid (∀ k, (Value.slice a n c').ownBlock = some k → (Value.slice ra2 rn2 rc2).ownBlock ≠ some k) := fun k e => by
            rcases hb2 with e2 | ⟨k', e2, hk⟩
            · rw [e2]; exact HT.out.ap k e
            · rw [e2]
              intro e3
              cases e3
              have := HT.out.prog.own.lt k e
              omega
          have HSAME : Hid (LL.map (·.2.2) = RL.map (·.2.2) ∧ LL.length ≤ i) := ⟨HT.out.same, HT.out.few⟩
          clear h2 hf2 hb2 HT
          obtain ⟨-, e1, hY2⟩ := HKEEP.out w2 S2.out.1.one.fr
          obtain ⟨p, d, w7, hr7, hc7, hf7⟩ := copy_lit hY2 HM.out
          have T7 : Hid (SetQ w w7 g b V a n c' LL ∧ RefQ w w7 rg rb V ra2 rn2 rc2 (RL ++ [(pr, dr, Y)])) := ⟨S2.out.1.later hf7, S2.out.2.later hf7⟩
          have K4 := OfferQ T7.out.1 p d m Y hc7.sets HM.out hbd
          have d2 : (w2.alloc (.cells #[] 24)).cell? ⟨gq, oq + i * 2 + 1, none⟩ = some (.slice p1 m c1) := (HKEEP.out _ (S2.out.1.one.fr.alloc _)).2.1
          clear hY2 hc7 hf7 S2 e1
          go_upto_region 22 with (first
            | (refine wpList_append_run9 rfl (.tmp 91) (.tmp 96) 33 rfl (.slice (some ⟨w2.heap.size, 0, none⟩) 0 0) (.slice p1 m c1) (.slice p m d) (by go_simp) (by go_simp) hr7 ?_)
            | (go_at_call 17; refine K4.mono ?_; clear K4; rintro e w11 ⟨rfl, pp, dd, a2, n2, c2, h2, hf2, hb2⟩))
          have SZ : Hid (Two w g b rg rb (i + 1) w11) := by
            refine ⟨V, a2, n2, c2, LL ++ [(pp, dd, Y)], ra2, rn2, rc2, RL ++ [(pr, dr, Y)], h2, T7.out.2.by_queue T7.out.1 AP2.out hf2, ?_, fun k e => ?_, ?_⟩
            · rw [List.map_append, List.map_append, HSAME.out.1]
              rfl
            · rcases hb2 with e2 | ⟨k', e2, hk⟩
              · rw [e2] at e
                exact AP2.out k e
              · rw [e2] at e
                cases e
                intro e3
                have := T7.out.2.own.lt _ e3
                omega
            · have := HSAME.out.2
              simp
              omega
          clear h2 hf2 hb2 T7 AP2 HSAME d2 hr7
        case' neg =>
          have hb1 : (wt == 1) = false := by simp [h1]
          clear h1 hY hm d1
          by_cases hLL : LL = []
          case' pos =>
            subst hLL
            have hR : RL = [] := List.eq_nil_of_length_eq_zero HRL.out
            subst hR
            have K3 := AckQ0 HT.out.prog
            have K4 := rsAck_none HT.out.ref
            have K5 := lists_in none none 0 0 0 [] wr (SetsAt.nil _) (SetsAt.nil _) rfl
            go_upto_region 22 with (first
              | (go_at_call 18; refine K3.mono ?_; clear K3; rintro e w2 ⟨rfl, rfl⟩)
              | (go_at_call 19; refine K4.mono ?_; clear K4; rintro e w3 ⟨rfl, rfl⟩)
              | (go_at_call 20; refine K5.mono ?_; clear K5; rintro e w11 ⟨rfl, hf11⟩))
            have SZ : Hid (Two w g b rg rb (i + 1) w11) := Two.mono ⟨V, a, n, c', [], ra, rn, rc, [], HT.out.later hf11⟩ (Nat.le_succ _)
            clear hf11 HT d0 hb0 hb1
          case' neg =>
            obtain ⟨⟨px, dx, Yx⟩, LL, rfl⟩ := List.exists_cons_of_ne_nil hLL
            obtain ⟨⟨py, dy, Yy⟩, RL, rfl⟩ := List.exists_cons_of_ne_nil (l := RL) (fun e => by have := HRL.out; rw [e] at this; simp at this)
            have hsame := HT.out.same
            simp only [List.map_cons, List.cons.injEq] at hsame
            obtain ⟨rfl, hsame⟩ := hsame
            have HSAME : Hid (LL.map (·.2.2) = RL.map (·.2.2) ∧ LL.length ≤ i) := ⟨hsame, by have := HT.out.few; simp at this; omega⟩
            clear hsame hLL
            have K3 := AckQ HT.out.prog
            unfold AckAs offV at K3
            dsimp only at K3
            obtain ⟨mx, hmx⟩ : ∃ mx, Yx.length = mx := ⟨_, rfl⟩
            have HMX : Hid (Yx.length = mx) := hmx
            rw [hmx] at K3
            clear hmx
            go_upto_region 10 with (go_at_call 18; refine K3.mono ?_; clear K3; rintro e w2 ⟨rfl, a2, n2, c2, h2, hc2, hf2, hb2⟩)
            have S2 : Hid (SetQ w w2 g b V a2 n2 c2 LL ∧ RefQ w w2 rg rb V ra rn rc ((py, dy, Yx) :: RL) ∧ Copy w2 px dx Yx) := ⟨h2, HT.out.ref.by_queue HT.out.prog HT.out.ap hf2, hc2⟩
            have AP2 : Hid (∀ k, (Value.slice a2 n2 c2).ownBlock = some k → (Value.slice ra rn rc).ownBlock ≠ some k) := by rw [hb2]; exact HT.out.ap
            clear h2 hc2 hf2 hb2 HT
            have K4 := rsAck_some S2.out.2.1
            unfold RAckAs offV at K4
            dsimp only at K4
            rw [HMX.out] at K4
            go_upto_region 11 with (go_at_call 19; refine K4.mono ?_; clear K4; rintro e w3 ⟨rfl, a3, n3, c3, h3, hc3, hf3, hb3⟩)
            have hcx : Copy w3 px dx Yx := S2.out.2.2.fr hf3 (fun k cur hk => tag_set hk S2.out.2.1.set (by decide))
            have K5 := lists_in px py dx dy mx Yx w3 hcx.sets hc3.sets HMX.out
            have S3 : Hid (SetQ w w3 g b V a2 n2 c2 LL ∧ RefQ w w3 rg rb V a3 n3 c3 RL) := ⟨S2.out.1.by_queue S2.out.2.1 AP2.out (hf3.mono (fun _ _ e => .inl e)), h3⟩
            have AP3 : Hid (∀ k, (Value.slice a2 n2 c2).ownBlock = some k → (Value.slice a3 n3 c3).ownBlock ≠ some k) := by rw [hb3]; exact AP2.out
            clear h3 hc3 hf3 hb3 hcx S2 AP2
            go_upto_region 22 with (go_at_call 20; refine K5.mono ?_; clear K5; rintro e w11 ⟨rfl, hf11⟩)
            have SZ : Hid (Two w g b rg rb (i + 1) w11) := Two.mono ⟨V, a2, n2, c2, LL, a3, n3, c3, RL, S3.out.1.later hf11, S3.out.2.later hf11, HSAME.out.1, AP3.out, HSAME.out.2⟩ (Nat.le_succ _)
            clear hf11 S3 AP3 HSAME d0 hb0 hb1
      all_goals go_wp2_with (fail)
      all_goals go_loopw [14] (fun x14 wz => ∃ z : Int, x14 = .int .i64 z ∧ -1 ≤ z ∧ z ≤ 12 ∧ Hid (Two w g b rg rb (i + 1) wz)) (fun x14 _ => (12 - intOf x14).toNat)
      all_goals first | (case atStart => exact ⟨-1, rfl, by omega, by omega, SZ.out⟩) | skip
      all_goals
        rename World => wz
        obtain ⟨z, rfl, hz1, hz2, HZ⟩ := hrel
        clear SZ
        obtain ⟨V9, a9, n9, c9, L9, ra9, rn9, rc9, R9, T9⟩ := HZ.out
        by_cases hz : z < 12
        · have hzI : IsI z := by unfold IsI; omega
          have K5 := Get1 T9.prog.one z hzI
          have K6 := rsGet_in T9.ref z
          obtain ⟨x, hx⟩ : ∃ x, getV V9 z = x := ⟨_, rfl⟩
          rw [hx] at K5 K6
          clear hx T9
          go_wp2_with (first
            | (go_at_call 21; refine K5.mono ?_; clear K5; rintro e w5 ⟨rfl, rfl⟩)
            | (go_at_call 22; refine K6.mono ?_; clear K6; rintro e w5 ⟨rfl, rfl⟩))
          go_roundw
          case rel => exact ⟨z + 1, rfl, by omega, by omega, HZ.out⟩
          case measure => simp [intOf]; omega
        · have KO : Hid (∀ k, Calls Try.prog 23 #[.pointer (some ⟨g, 0, none⟩)] (wz.drewN k) fun e w' => e = .returned (.int .i64 (n9 : Int)) ∧ w' = wz.drewN k) := fun k => (OpenQ (T9.prog.later ((Fr.refl _ _).drewN k))).mono (fun e w' h => ⟨h.1, h.2.symm⟩)
          have hl9 : rn9 = n9 := by rw [T9.ref.len, T9.prog.len]; have := congrArg List.length T9.same; simp at this; exact this.symm
          have r1 : wz.cell? ⟨rg, 1, none⟩ = some (.slice ra9 n9 rc9) := by rw [← hl9]; exact cell_of_heap T9.ref.set rfl
          clear T9 hl9
          go_wp2_with (fail)
          go_quiet ((go_at_call 23; exact Calls.quiet_of_same (KO.out _)))
          go_wp2_with (fail)
          go_roundw
          case rel => exact ⟨i + 1, by go_num, by omega, HZ.out.later ((Fr.refl _ _).drewN _)⟩
          case measure => simp [intOf]; omega
    · have hi : i = N := by omega
      subst hi
      go_wp2_with (go_at_call 11; refine (KA.out _).mono ?_; rintro e w9 ⟨rfl, hf9⟩)
      go_ret
      exact ⟨rfl, (HS.out.fr.trans hf9).below (fun _ _ => id)⟩
end Go.Proofs.Ytmpknmcgljpfkaa
