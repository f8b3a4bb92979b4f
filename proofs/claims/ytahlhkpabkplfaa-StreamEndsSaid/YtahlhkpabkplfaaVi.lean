/- The document's streams: Do. -/
import Derived.Test.YtahlhkpabkplfaaVe
import Derived.Test.YtahlhkpabkplfaaVg
import Derived.Deep.DeepCutAuto
namespace Go.Proofs.Ytahlhkpabkplfaa
open Go.RowKit
set_option linter.unusedVariables false
set_option maxRecDepth 100000
set_option maxHeartbeats 4000000

theorem ryDo_set (base g : Nat) (S : Stm) (vL vG : Value) (d wh : Int) (w : World) (n k c er : Int) (H : Hid (RAt base w g S vL vG)) (hb : base ≤ w.heap.size) (hd : ¬ d < 1) (hd2 : ¬ 2147483647 < d) (hgate : ¬ (S.gone.contains d = true ∧ 0 ≤ wh ∧ wh ≤ 4)) (hstep : stepO (stateS S d) wh = (n, k, c, er)) (he : er = 0) (hk1 : ¬ k = 1) (hk2 : ¬ k = 2) (hn : 0 ≤ n ∧ n ≤ 4) (hn4 : ¬ n = 4) (x : Int × Int) (hf : findS S.L d = some x) : Calls Try.prog 30 #[.pointer (some ⟨g, 0, none⟩), .int .i64 d, .int .i64 wh] w (RPost base w g vL vG (moveS S d n) (doV (n, (false, 0, 0), 0))) := by
  subst he
  obtain ⟨a, cc, rfl, hcap⟩ := H.out.row.form
  obtain ⟨m, hm⟩ : ∃ m, S.L.length = m := ⟨_, rfl⟩
  have hfew := few_known H.out.inv
  rw [hm] at hcap H hfew ⊢
  have HM : Hid (S.L.length = m) := hm
  clear hm
  have HFD : Hid (findS S.L d = some x) := hf
  clear hf
  go_enter Try.func30, Try.ntmps30
  go_upto_region 1 with (fail)
  obtain ⟨w1, hw1⟩ : ∃ w1, w1 = w.alloc (.cells #[.bool false, .int .i64 0, .int .i64 0] 48) := ⟨_, rfl⟩
  have F1 : Hid (Fr (fun _ => False) w w1) := by rw [hw1]; exact (Fr.refl _ _).alloc _
  have R1 : Hid (w1.heap[w.heap.size]? = some (.cells #[.bool false, .int .i64 0, .int .i64 0] 48 (0, 0))) := by rw [hw1]; exact heap_alloc_new _ _
  rw [← hw1]
  clear hw1
  have H1 : Hid (RAt base w1 g S (.slice a m cc) vG) := H.out.later F1.out
  have hb1 : Hid (base ≤ w1.heap.size) := Nat.le_trans hb F1.out.size
  have G1 : Hid (Fr (RX g (.slice a m cc) vG) w w1) := F1.out.mono (fun _ _ e => e.elim)
  have KS := ryState_in base g S (.slice a m cc) vG d w1 H1.out
  have KD := ryDropped_in base g S (.slice a m cc) vG d w1 H1.out
  have KT := ryStep_in (stateS S d) wh w1
  unfold stepV at KT
  rw [hstep] at KT
  dsimp only at KT
  go_upto_region 4 with (go_at_call 32; refine KS.mono ?_; clear KS; rintro e w' ⟨rfl, rfl⟩)
  go_cut [36] (fun s36 wc => s36 = .bool false ∧ w1 = wc)
  case first =>
    cases hgb : S.gone.contains d
    · rw [hgb] at KD
      clear hgate
      go_wp2_with (go_at_call 33; refine KD.mono ?_; clear KD; rintro e w' ⟨rfl, rfl⟩)
      go_meet
      case rel => exact ⟨rfl, rfl⟩
    · rw [hgb] at KD
      by_cases h0 : 0 ≤ wh
      · have h4 : 4 < wh := by
          rcases Int.lt_or_le 4 wh with h | h
          · exact h
          · exact absurd ⟨hgb, h0, h⟩ hgate
        clear hgate
        go_wp2_with (go_at_call 33; refine KD.mono ?_; clear KD; rintro e w' ⟨rfl, rfl⟩)
        go_meet
        case rel => exact ⟨(by first | rfl | rw [decide_eq_false (by omega)]), rfl⟩
      · clear hgate
        go_wp2_with (go_at_call 33; refine KD.mono ?_; clear KD; rintro e w' ⟨rfl, rfl⟩)
        go_meet
        case rel => exact ⟨rfl, rfl⟩
  obtain ⟨rfl, rfl⟩ := hcut
  go_upto_region 7 with (go_at_call 10; refine KT.mono ?_; clear KT; rintro e w2 ⟨rfl, hf2⟩)
  have F2 : Hid (Fr (fun _ => False) w1 w2) := hf2
  have H2 : Hid (RAt base w2 g S (.slice a m cc) vG) := H1.out.later hf2
  have R2 : Hid (w2.heap[w.heap.size]? = some (.cells #[.bool false, .int .i64 0, .int .i64 0] 48 (0, 0))) := (hf2.block _ (lt_of_heap R1.out) id).trans R1.out
  have G2 : Hid (Fr (RX g (.slice a m cc) vG) w w2) := G1.out.trans (hf2.mono (fun _ _ e => e.elim))
  have hb2 : Hid (base ≤ w2.heap.size) := Nat.le_trans hb1.out hf2.size
  clear hf2
  have KG : Calls Try.prog 52 #[.pointer (some ⟨g, 0, none⟩), .int .i64 d] w2 fun e w' => (∃ i : Nat, e = .returned (.int .i64 (i : Int)) ∧ S.L[i]? = some x ∧ x.1 = d) ∧ w2 = w' := by
    refine (ryfind_in base g S _ vG d w2 H2.out).mono ?_
    rintro e w' ⟨⟨r, rfl, hr⟩, rfl⟩
    rcases hr with ⟨-, hn⟩ | ⟨i, y, rfl, h1, h2, h3, -⟩
    · rw [HFD.out] at hn; cases hn
    · rw [HFD.out] at h3
      cases h3
      exact ⟨⟨i, rfl, h1, h2⟩, rfl⟩
  go_upto_region 14 with (go_at_call 52; refine KG.mono ?_; clear KG; rintro e w' ⟨⟨i, rfl, hi, hid⟩, rfl⟩)
  have hlt : i < m := by rw [← HM.out]; exact (List.getElem?_eq_some_iff.1 hi).1
  have hlt2 : (i : Int) < (m : Int) := by omega
  obtain ⟨gl, cap, e1, r0, r1, rz⟩ := H2.out.row.cells i _ hi
  have e2 := (Value.slice.inj e1).1
  subst e2
  have HX : Hid (S.L[i]? = some x ∧ x.1 = d) := ⟨hi, hid⟩
  have c3 : w2.cell? ⟨g, 3, none⟩ = some (.slice (some ⟨gl, 0, none⟩) m cc) := H2.out.cells.2.2.2.1
  have hz := rz (i * 2 + 1)
  clear e1 hi hid rz
  go_upto_region 17 with (fail)
  obtain ⟨w3, hw3⟩ : ∃ w3, w3 = w2.setCell ⟨gl, i * 2 + 1, none⟩ (.int .i64 n) := ⟨_, rfl⟩
  have hglg : gl ≠ g := H2.out.apart.1 gl rfl
  have F3 : Hid (Fr (fun k => k = gl) w2 w3) := by rw [hw3]; exact setB_fr _ _ rfl
  have L3 : Hid (RowAt w3 (.slice (some ⟨gl, 0, none⟩) m cc) (setL d n S.L)) := by
    rw [hw3, ← set_at n H2.out.inv.rise HX.out.1 HX.out.2]
    exact H2.out.row.set i x n HX.out.1
  have B3 : Hid (w3.heap[g]? = some (.cells #[.bool S.server, .int .i64 S.most, .int .i64 S.mine, .slice (some ⟨gl, 0, none⟩) m cc, vG, .int .i64 S.theirs, .int .i64 S.ours] 72 (0, 0))) := (F3.out.block g (lt_of_heap H2.out.blk) (fun e => hglg e.symm)).trans H2.out.blk
  have V3 : Hid (OwnAt w3 3 vG (S.gone.map (Value.int .i64))) := H2.out.gone.fr F3.out (fun k hk e => H2.out.apart.2.2 k (by rw [e]; rfl) hk)
  have hflt := (H2.out.fault R2.out)
  have R3 : Hid (w3.heap[w.heap.size]? = some (.cells #[.bool false, .int .i64 0, .int .i64 0] 48 (0, 0))) := (F3.out.block _ (lt_of_heap R2.out) (fun e => hflt.2.1 gl rfl e.symm)).trans R2.out
  have G3 : Hid (Fr (RX g (.slice (some ⟨gl, 0, none⟩) m cc) vG) w w3) := G2.out.trans (F3.out.mono (fun k _ e => .inr (.inl (by rw [e]; rfl))))
  rw [← hw3]
  clear hw3 r0 r1 hz c3 hflt
  have hi3 := inv_turn H2.out.inv d n 0 hn
  change InvS (moveS S d n) at hi3
  have HMV : Hid (moveS S d n = { S with L := setL d n S.L }) := moveS_set HFD.out hn4
  have H3 : Hid (RAt base w3 g (moveS S d n) (.slice (some ⟨gl, 0, none⟩) m cc) vG) := by
    rw [HMV.out] at hi3 ⊢
    exact ⟨B3.out, L3.out, V3.out, hi3, H2.out.bg, H2.out.bL, H2.out.bG⟩
  clear hi3
  go_wp2_with ((refine wpList_storeB rfl 48 (.tmp 7) (.tmp 102) rfl w.heap.size #[.bool false, .int .i64 0, .int .i64 0] #[.bool false, .int .i64 0, .int .i64 0] 48 rfl rfl R3.out rfl (by kernel_rfl) (by simp [Value.oneCell']) ?_; intro y H9 G9))
  have d0 : y.cell? ⟨w.heap.size, 0, none⟩ = some (.bool false) := cell_of_heap H9.out rfl
  have d1 : y.cell? ⟨w.heap.size, 1, none⟩ = some (.int .i64 0) := cell_of_heap H9.out rfl
  have d2 : y.cell? ⟨w.heap.size, 2, none⟩ = some (.int .i64 0) := cell_of_heap H9.out rfl
  refine bodyPost_ret (v := .tuple #[.int .i64 n, .agg #[.bool false, .int .i64 0, .int .i64 0], .int .i64 0]) (by simp [results, Try.results30, go_sem, d0, d1, d2]) rfl ?_
  exact ⟨rfl, _, _, H3.out.done R3.out G9.out (Nat.le_refl _) G3.out⟩
end Go.Proofs.Ytahlhkpabkplfaa
