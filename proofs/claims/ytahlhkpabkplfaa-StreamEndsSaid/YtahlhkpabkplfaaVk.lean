/- The document's streams: Do. -/
import Derived.Test.YtahlhkpabkplfaaVe
import Derived.Test.YtahlhkpabkplfaaVg
import Derived.Deep.DeepCutAuto
namespace Go.Proofs.Ytahlhkpabkplfaa
open Go.RowKit
set_option linter.unusedVariables false
set_option maxRecDepth 100000
set_option maxHeartbeats 4000000

theorem ryDo_del8 (base g : Nat) (S : Stm) (vL vG : Value) (d wh : Int) (w : World) (k c er : Int) (H : Hid (RAt base w g S vL vG)) (hb : base ≤ w.heap.size) (hd : ¬ d < 1) (hd2 : ¬ 2147483647 < d) (hgate : ¬ (S.gone.contains d = true ∧ 0 ≤ wh ∧ wh ≤ 4)) (hstep : stepO (stateS S d) wh = (4, k, c, er)) (he : er = 0) (hk1 : ¬ k = 1) (hk2 : ¬ k = 2) (x : Int × Int) (hf : findS S.L d = some x) (hw : wh = 8) : Calls Try.prog 30 #[.pointer (some ⟨g, 0, none⟩), .int .i64 d, .int .i64 wh] w (RPost base w g vL vG (dropS (moveS S d 4) d) (doV (4, (false, 0, 0), 0))) := by
  subst he hw
  obtain ⟨a, cc, rfl, hcap⟩ := H.out.row.form
  obtain ⟨m, hm⟩ : ∃ m, S.L.length = m := ⟨_, rfl⟩
  have hfew := few_known H.out.inv
  rw [hm] at hcap H hfew ⊢
  have HM : Hid (S.L.length = m) := hm
  clear hm
  have HFD : Hid (findS S.L d = some x) := hf
  clear hf
  go_enter Try.func30, Try.ntmps30
  go_upto_region 1 with (fail)
  obtain ⟨w1, hw1⟩ : ∃ w1, w1 = w.alloc (.cells #[.bool false, .int .i64 0, .int .i64 0] 48) := ⟨_, rfl⟩
  have F1 : Hid (Fr (fun _ => False) w w1) := by rw [hw1]; exact (Fr.refl _ _).alloc _
  have R1 : Hid (w1.heap[w.heap.size]? = some (.cells #[.bool false, .int .i64 0, .int .i64 0] 48 (0, 0))) := by rw [hw1]; exact heap_alloc_new _ _
  rw [← hw1]
  clear hw1
  have H1 : Hid (RAt base w1 g S (.slice a m cc) vG) := H.out.later F1.out
  have hb1 : Hid (base ≤ w1.heap.size) := Nat.le_trans hb F1.out.size
  have G1 : Hid (Fr (RX g (.slice a m cc) vG) w w1) := F1.out.mono (fun _ _ e => e.elim)
  have KS := ryState_in base g S (.slice a m cc) vG d w1 H1.out
  have KD := ryDropped_in base g S (.slice a m cc) vG d w1 H1.out
  have KT := ryStep_in (stateS S d) 8 w1
  unfold stepV at KT
  rw [hstep] at KT
  dsimp only at KT
  go_upto_region 4 with (go_at_call 32; refine KS.mono ?_; clear KS; rintro e w' ⟨rfl, rfl⟩)
  go_cut [36] (fun s36 wc => s36 = .bool false ∧ w1 = wc)
  case first =>
    cases hgb : S.gone.contains d
    · rw [hgb] at KD
      clear hgate
      go_wp2_with (go_at_call 33; refine KD.mono ?_; clear KD; rintro e w' ⟨rfl, rfl⟩)
      go_meet
      case rel => exact ⟨rfl, rfl⟩
    · rw [hgb] at KD
      by_cases h0 : (0 : Int) ≤ 8
      · have h4 : (4 : Int) < 8 := by
          rcases Int.lt_or_le 4 8 with h | h
          · exact h
          · exact absurd ⟨hgb, h0, h⟩ hgate
        clear hgate
        go_wp2_with (go_at_call 33; refine KD.mono ?_; clear KD; rintro e w' ⟨rfl, rfl⟩)
        go_meet
        case rel => exact ⟨(by first | rfl | rw [decide_eq_false (by omega)]), rfl⟩
      · clear hgate
        go_wp2_with (go_at_call 33; refine KD.mono ?_; clear KD; rintro e w' ⟨rfl, rfl⟩)
        go_meet
        case rel => exact ⟨rfl, rfl⟩
  obtain ⟨rfl, rfl⟩ := hcut
  go_upto_region 7 with (go_at_call 10; refine KT.mono ?_; clear KT; rintro e w2 ⟨rfl, hf2⟩)
  have F2 : Hid (Fr (fun _ => False) w1 w2) := hf2
  have H2 : Hid (RAt base w2 g S (.slice a m cc) vG) := H1.out.later hf2
  have R2 : Hid (w2.heap[w.heap.size]? = some (.cells #[.bool false, .int .i64 0, .int .i64 0] 48 (0, 0))) := (hf2.block _ (lt_of_heap R1.out) id).trans R1.out
  have G2 : Hid (Fr (RX g (.slice a m cc) vG) w w2) := G1.out.trans (hf2.mono (fun _ _ e => e.elim))
  have hb2 : Hid (base ≤ w2.heap.size) := Nat.le_trans hb1.out hf2.size
  clear hf2
  have KG : Calls Try.prog 52 #[.pointer (some ⟨g, 0, none⟩), .int .i64 d] w2 fun e w' => (∃ i : Nat, e = .returned (.int .i64 (i : Int)) ∧ S.L[i]? = some x ∧ x.1 = d) ∧ w2 = w' := by
    refine (ryfind_in base g S _ vG d w2 H2.out).mono ?_
    rintro e w' ⟨⟨r, rfl, hr⟩, rfl⟩
    rcases hr with ⟨-, hn⟩ | ⟨i, y, rfl, h1, h2, h3, -⟩
    · rw [HFD.out] at hn; cases hn
    · rw [HFD.out] at h3
      cases h3
      exact ⟨⟨i, rfl, h1, h2⟩, rfl⟩
  go_upto_region 14 with (go_at_call 52; refine KG.mono ?_; clear KG; rintro e w' ⟨⟨i, rfl, hi, hid⟩, rfl⟩)
  have hlt : i < m := by rw [← HM.out]; exact (List.getElem?_eq_some_iff.1 hi).1
  have hlt2 : (i : Int) < (m : Int) := by omega
  obtain ⟨gl, cap, e1, r0, r1, rz⟩ := H2.out.row.cells i _ hi
  have e2 := (Value.slice.inj e1).1
  subst e2
  have HX : Hid (S.L[i]? = some x ∧ x.1 = d) := ⟨hi, hid⟩
  have c3 : w2.cell? ⟨g, 3, none⟩ = some (.slice (some ⟨gl, 0, none⟩) m cc) := H2.out.cells.2.2.2.1
  have hz := rz (i * 2 + 1)
  clear e1 hi hid rz
  go_upto_region 17 with (fail)
  obtain ⟨w3, hw3⟩ : ∃ w3, w3 = w2.setCell ⟨gl, i * 2 + 1, none⟩ (.int .i64 4) := ⟨_, rfl⟩
  have hglg : gl ≠ g := H2.out.apart.1 gl rfl
  have F3 : Hid (Fr (fun k => k = gl) w2 w3) := by rw [hw3]; exact setB_fr _ _ rfl
  have L3 : Hid (RowAt w3 (.slice (some ⟨gl, 0, none⟩) m cc) (setL d 4 S.L)) := by
    rw [hw3, ← set_at 4 H2.out.inv.rise HX.out.1 HX.out.2]
    exact H2.out.row.set i x 4 HX.out.1
  have B3 : Hid (w3.heap[g]? = some (.cells #[.bool S.server, .int .i64 S.most, .int .i64 S.mine, .slice (some ⟨gl, 0, none⟩) m cc, vG, .int .i64 S.theirs, .int .i64 S.ours] 72 (0, 0))) := (F3.out.block g (lt_of_heap H2.out.blk) (fun e => hglg e.symm)).trans H2.out.blk
  have V3 : Hid (OwnAt w3 3 vG (S.gone.map (Value.int .i64))) := H2.out.gone.fr F3.out (fun k hk e => H2.out.apart.2.2 k (by rw [e]; rfl) hk)
  have hflt := (H2.out.fault R2.out)
  have R3 : Hid (w3.heap[w.heap.size]? = some (.cells #[.bool false, .int .i64 0, .int .i64 0] 48 (0, 0))) := (F3.out.block _ (lt_of_heap R2.out) (fun e => hflt.2.1 gl rfl e.symm)).trans R2.out
  have G3 : Hid (Fr (RX g (.slice (some ⟨gl, 0, none⟩) m cc) vG) w w3) := G2.out.trans (F3.out.mono (fun k _ e => .inr (.inl (by rw [e]; rfl))))
  rw [← hw3]
  clear hw3 r0 r1 hz c3 hflt
  have hcc : m ≤ cc := hcap
  have hnf : ∀ k, vG.ownBlock = some k → k ≠ gl := fun k hk e => H2.out.apart.2.2 k (by rw [e]; rfl) hk
  have hrest : ((setL d 4 S.L).take i = S.L.take i) ∧ ((setL d 4 S.L).drop (i + 1) = S.L.drop (i + 1)) := by
    rw [← set_at 4 H2.out.inv.rise HX.out.1 HX.out.2]
    exact ⟨List.take_set_of_le (Nat.le_refl _), List.drop_set_of_lt (by omega)⟩
  have hlen3 : (setL d 4 S.L).length = m := by unfold setL; rw [List.length_map, HM.out]
  have hl1 : (S.L.take i).length = i := by rw [List.length_take, HM.out]; omega
  have hl2 : (S.L.drop (i + 1)).length = m - (i + 1) := by rw [List.length_drop, HM.out]
  obtain ⟨a4, c4, w4, hr4, hR4, hF4, hO4⟩ := row_append (RowAt.nil w3) (some ⟨gl, 0, none⟩) i cc (M := S.L.take i) hl1.symm (fun hp => by
    obtain ⟨g', e', hs⟩ := L3.out.src 0 (S.L.take i) (by rw [List.drop_zero, hl1]; exact hrest.1.symm) hp
    cases e'
    exact ⟨_, rfl, by simpa using hs⟩) (by simp; omega)
  rw [List.nil_append, hl1] at hr4 hR4 hO4
  have F4 : Hid (Fr (fun _ => False) w3 w4) := hF4.mono (fun k _ e => by simp [Value.ownBlock] at e)
  have L4 : RowAt w4 (.slice (some ⟨gl, 0, none⟩) m cc) (setL d 4 S.L) := L3.out.fr F4.out (fun _ _ => id)
  obtain ⟨dp, hcut2, hdp⟩ := ycut_from Try.prog 70 89 Try.underlying70 (by kernel_rfl) ⟨gl, 0, none⟩ m cc (i + 1) (by omega) (by omega)
  have hcut1 := ycut_to Try.prog 70 89 Try.underlying70 (by kernel_rfl) ⟨gl, 0, none⟩ m cc i (by omega) (by omega) (by omega) (by rw [add_none])
  obtain ⟨a5, c5, w5, hr5, hR5, hF5, hO5⟩ := row_append hR4 dp (m - (i + 1)) (cc - (i + 1)) (M := S.L.drop (i + 1)) hl2.symm (fun hp => by
    obtain ⟨g', e', hs⟩ := L4.src (i + 1) (S.L.drop (i + 1)) (by rw [hrest.2, List.take_length]) hp
    cases e'
    refine ⟨_, hdp (by omega), ?_⟩
    rw [add_none, Nat.zero_add]
    exact hs) (by rw [hl1, hl2]; omega)
  have hdel := del_at H2.out.inv.rise HX.out.1 HX.out.2
  have hl5 : (S.L.take i ++ S.L.drop (i + 1)).length = m - 1 := by rw [List.length_append, hl1, hl2]; omega
  rw [hl5] at hr5 hR5 hO5
  rw [hdel] at hR5
  have hsz3 := F4.out.size
  have N4 : ∀ k, (Value.slice a4 i c4).ownBlock = some k → w3.heap.size ≤ k := fun k hk => by
    rcases hO4 with e | e
    · rw [e] at hk; simp [Value.ownBlock] at hk
    · rw [e] at hk; cases hk; omega
  have N5 : ∀ k, (Value.slice a5 (m - 1) c5).ownBlock = some k → w3.heap.size ≤ k := fun k hk => by
    rcases hO5 with e | e
    · rw [e] at hk; exact N4 k hk
    · rw [e] at hk; cases hk; omega
  have F5 : Hid (Fr (fun _ => False) w3 w5) := F4.out.fresh hF5 N4
  have hbs : base ≤ w3.heap.size := Nat.le_trans hb2.out F3.out.size
  have hg3 := lt_of_heap B3.out
  have k34 : w4.cell? ⟨g, 3, none⟩ = some (.slice (some ⟨gl, 0, none⟩) m cc) := cell_of_heap ((F4.out.block g hg3 id).trans B3.out) rfl
  have k33 : w3.cell? ⟨g, 3, none⟩ = some (.slice (some ⟨gl, 0, none⟩) m cc) := cell_of_heap B3.out rfl
  have B5 : Hid (w5.heap[g]? = some (.cells #[.bool S.server, .int .i64 S.most, .int .i64 S.mine, .slice (some ⟨gl, 0, none⟩) m cc, vG, .int .i64 S.theirs, .int .i64 S.ours] 72 (0, 0))) := (F5.out.block g hg3 id).trans B3.out
  have k35 : w5.cell? ⟨g, 3, none⟩ = some (.slice (some ⟨gl, 0, none⟩) m cc) := cell_of_heap B5.out rfl
  have z35 : w5.frozen? ⟨g, 3, none⟩ = false := frozen_of_heap B5.out
  have hi5 := inv_turn H2.out.inv d 4 0 (by omega)
  change InvS (moveS S d 4) at hi5
  have HMV : Hid (moveS S d 4 = { S with L := S.L.filter (fun x => x.1 ≠ d) }) := moveS_del HFD.out
  obtain ⟨w6, hw6⟩ : ∃ w6, w6 = w5.setCell ⟨g, 3, none⟩ (.slice a5 (m - 1) c5) := ⟨_, rfl⟩
  have F6 : Hid (Fr (fun k => k = g) w5 w6) := by rw [hw6]; exact setB_fr _ _ rfl
  have H6 : Hid (RAt base w6 g (moveS S d 4) (.slice a5 (m - 1) c5) vG) := by
    rw [HMV.out] at hi5 ⊢
    refine ⟨by rw [hw6]; exact vset B5.out, ?_, (V3.out.fr F5.out (fun _ _ => id)).fr F6.out (fun k hk => H2.out.apart.2.1 k hk), hi5, H2.out.bg, fun k hk => Nat.le_trans hbs (N5 k hk), H2.out.bG⟩
    have hne5 : ∀ k, (Value.slice a5 (m - 1) c5).ownBlock = some k → ¬ k = g := fun k hk => by have := N5 k hk; omega
    exact hR5.fr F6.out hne5
  have hgf := tag_ne R3.out B3.out (by decide)
  have R6 : Hid (w6.heap[w.heap.size]? = some (.cells #[.bool false, .int .i64 0, .int .i64 0] 48 (0, 0))) := (F6.out.block _ (Nat.lt_of_lt_of_le (lt_of_heap R3.out) F5.out.size) hgf).trans ((F5.out.block _ (lt_of_heap R3.out) id).trans R3.out)
  have G6 : Hid (Fr (RX g (.slice (some ⟨gl, 0, none⟩) m cc) vG) w w6) := (G3.out.trans (F5.out.mono (fun _ _ e => e.elim))).trans (F6.out.mono (fun _ _ e => .inl e))
  have hb6 : Hid (base ≤ w6.heap.size) := Nat.le_trans hbs (Nat.le_trans F5.out.size F6.out.size)
  have HR4 : Hid ((Builtin.append_ #[70, 70] 70 #[.slice none 0 0, .slice (some ⟨gl, 0, none⟩) i cc]).run Try.prog w3 = .ok (.slice a4 i c4) w4) := hr4
  have HR5 : Hid ((Builtin.append_ #[70, 70] 70 #[.slice a4 i c4, .slice dp (m - (i + 1)) (cc - (i + 1))]).run Try.prog w4 = .ok (.slice a5 (m - 1) c5) w5) := hr5
  have hip : ((i : Int) + 1) = ((i + 1 : Nat) : Int) := by omega
  rw [← hip] at hcut2
  clear hr4 hr5 hR4 hR5 hF4 hF5 hO4 hO5 L4 hdel hl5 N4 N5 hrest hlen3 hl1 hl2 hnf hip hi5 hg3
  go_upto_region 21 with (first | (refine wpList_append_run9 rfl (.tmp 76) (.tmp 82) 70 rfl (.slice none 0 0) (.slice (some ⟨gl, 0, none⟩) i cc) (.slice a4 i c4) rfl rfl HR4.out ?_) | (refine wpList_append_run9 rfl (.tmp 85) (.tmp 92) 70 rfl (.slice a4 i c4) (.slice dp (m - (i + 1)) (cc - (i + 1))) (.slice a5 (m - 1) c5) rfl rfl HR5.out ?_))
  rw [← hw6]
  clear hw6 k33 k34 k35 z35
  have KX := rydrop_in base g (moveS S d 4) (.slice a5 (m - 1) c5) vG d w6 H6.out hb6.out
  go_upto_region 23 with (go_at_call 50; refine KX.mono ?_; clear KX; rintro e w7 ⟨rfl, uG, a1, a2, a3⟩)
  have H7 : Hid (RAt base w7 g (dropS (moveS S d 4) d) (.slice a5 (m - 1) c5) uG) := a1
  have hfx := H6.out.fault R6.out
  have R7 : Hid (w7.heap[w.heap.size]? = some (.cells #[.bool false, .int .i64 0, .int .i64 0] 48 (0, 0))) := (a2.block _ (lt_of_heap R6.out) (by rintro (e | e); exact hfx.1 e; exact hfx.2.2 _ e rfl)).trans R6.out
  have G7 : Hid (Fr (RX g (.slice (some ⟨gl, 0, none⟩) m cc) vG) w w7) := G6.out.trans (a2.mono (fun k _ e => e.elim .inl (fun e => .inr (.inr e))))
  clear a1 a2 a3
  go_wp2_with ((refine wpList_storeB rfl 48 (.tmp 7) (.tmp 102) rfl w.heap.size #[.bool false, .int .i64 0, .int .i64 0] #[.bool false, .int .i64 0, .int .i64 0] 48 rfl rfl R7.out rfl (by kernel_rfl) (by simp [Value.oneCell']) ?_; intro y H9 G9))
  have d0 : y.cell? ⟨w.heap.size, 0, none⟩ = some (.bool false) := cell_of_heap H9.out rfl
  have d1 : y.cell? ⟨w.heap.size, 1, none⟩ = some (.int .i64 0) := cell_of_heap H9.out rfl
  have d2 : y.cell? ⟨w.heap.size, 2, none⟩ = some (.int .i64 0) := cell_of_heap H9.out rfl
  refine bodyPost_ret (v := .tuple #[.int .i64 4, .agg #[.bool false, .int .i64 0, .int .i64 0], .int .i64 0]) (by simp [results, Try.results30, go_sem, d0, d1, d2]) rfl ?_
  exact ⟨rfl, _, _, H7.out.done R7.out G9.out (Nat.le_refl _) G7.out⟩
end Go.Proofs.Ytahlhkpabkplfaa
