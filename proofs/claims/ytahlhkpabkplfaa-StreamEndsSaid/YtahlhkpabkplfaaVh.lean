/- The document's streams: Do. -/
import Derived.Test.YtahlhkpabkplfaaVe
import Derived.Test.YtahlhkpabkplfaaVg
import Derived.Deep.DeepCutAuto
namespace Go.Proofs.Ytahlhkpabkplfaa
open Go.RowKit
set_option linter.unusedVariables false
set_option maxRecDepth 100000
set_option maxHeartbeats 4000000

theorem ryDo_low (base g : Nat) (S : Stm) (vL vG : Value) (d wh : Int) (w : World) (H : Hid (RAt base w g S vL vG)) (hb : base ≤ w.heap.size) (hd : d < 1) : Calls Try.prog 30 #[.pointer (some ⟨g, 0, none⟩), .int .i64 d, .int .i64 wh] w (RPost base w g vL vG S (doV (0, (false, 0, 0), 1))) := by
  go_enter Try.func30, Try.ntmps30
  go_upto_region 1 with (fail)
  obtain ⟨w1, hw1⟩ : ∃ w1, w1 = w.alloc (.cells #[.bool false, .int .i64 0, .int .i64 0] 48) := ⟨_, rfl⟩
  have F1 : Hid (Fr (fun _ => False) w w1) := by rw [hw1]; exact (Fr.refl _ _).alloc _
  have R1 : Hid (w1.heap[w.heap.size]? = some (.cells #[.bool false, .int .i64 0, .int .i64 0] 48 (0, 0))) := by rw [hw1]; exact heap_alloc_new _ _
  rw [← hw1]
  clear hw1
  have H1 : Hid (RAt base w1 g S vL vG) := H.out.later F1.out
  have hb1 : Hid (base ≤ w1.heap.size) := Nat.le_trans hb F1.out.size
  have G1 : Hid (Fr (RX g vL vG) w w1) := F1.out.mono (fun _ _ e => e.elim)
  go_wp2_with ((refine wpList_storeB rfl 48 (.tmp 7) (.tmp 22) rfl w.heap.size #[.bool false, .int .i64 0, .int .i64 0] #[.bool false, .int .i64 0, .int .i64 0] 48 rfl rfl R1.out rfl (by kernel_rfl) (by simp [Value.oneCell']) ?_; intro y H9 G9))
  have d0 : y.cell? ⟨w.heap.size, 0, none⟩ = some (.bool false) := cell_of_heap H9.out rfl
  have d1 : y.cell? ⟨w.heap.size, 1, none⟩ = some (.int .i64 0) := cell_of_heap H9.out rfl
  have d2 : y.cell? ⟨w.heap.size, 2, none⟩ = some (.int .i64 0) := cell_of_heap H9.out rfl
  refine bodyPost_ret (v := .tuple #[.int .i64 0, .agg #[.bool false, .int .i64 0, .int .i64 0], .int .i64 1]) (by simp [results, Try.results30, go_sem, d0, d1, d2]) rfl ?_
  exact ⟨rfl, _, _, H1.out.done R1.out G9.out (Nat.le_refl _) G1.out⟩
theorem ryDo_high (base g : Nat) (S : Stm) (vL vG : Value) (d wh : Int) (w : World) (H : Hid (RAt base w g S vL vG)) (hb : base ≤ w.heap.size) (hd : ¬ d < 1) (hd2 : 2147483647 < d) : Calls Try.prog 30 #[.pointer (some ⟨g, 0, none⟩), .int .i64 d, .int .i64 wh] w (RPost base w g vL vG S (doV (0, (false, 0, 0), 1))) := by
  go_enter Try.func30, Try.ntmps30
  go_upto_region 1 with (fail)
  obtain ⟨w1, hw1⟩ : ∃ w1, w1 = w.alloc (.cells #[.bool false, .int .i64 0, .int .i64 0] 48) := ⟨_, rfl⟩
  have F1 : Hid (Fr (fun _ => False) w w1) := by rw [hw1]; exact (Fr.refl _ _).alloc _
  have R1 : Hid (w1.heap[w.heap.size]? = some (.cells #[.bool false, .int .i64 0, .int .i64 0] 48 (0, 0))) := by rw [hw1]; exact heap_alloc_new _ _
  rw [← hw1]
  clear hw1
  have H1 : Hid (RAt base w1 g S vL vG) := H.out.later F1.out
  have hb1 : Hid (base ≤ w1.heap.size) := Nat.le_trans hb F1.out.size
  have G1 : Hid (Fr (RX g vL vG) w w1) := F1.out.mono (fun _ _ e => e.elim)
  go_wp2_with ((refine wpList_storeB rfl 48 (.tmp 7) (.tmp 22) rfl w.heap.size #[.bool false, .int .i64 0, .int .i64 0] #[.bool false, .int .i64 0, .int .i64 0] 48 rfl rfl R1.out rfl (by kernel_rfl) (by simp [Value.oneCell']) ?_; intro y H9 G9))
  have d0 : y.cell? ⟨w.heap.size, 0, none⟩ = some (.bool false) := cell_of_heap H9.out rfl
  have d1 : y.cell? ⟨w.heap.size, 1, none⟩ = some (.int .i64 0) := cell_of_heap H9.out rfl
  have d2 : y.cell? ⟨w.heap.size, 2, none⟩ = some (.int .i64 0) := cell_of_heap H9.out rfl
  refine bodyPost_ret (v := .tuple #[.int .i64 0, .agg #[.bool false, .int .i64 0, .int .i64 0], .int .i64 1]) (by simp [results, Try.results30, go_sem, d0, d1, d2]) rfl ?_
  exact ⟨rfl, _, _, H1.out.done R1.out G9.out (Nat.le_refl _) G1.out⟩
theorem ryDo_gone (base g : Nat) (S : Stm) (vL vG : Value) (d wh : Int) (w : World) (H : Hid (RAt base w g S vL vG)) (hb : base ≤ w.heap.size) (hd : ¬ d < 1) (hd2 : ¬ 2147483647 < d) (hg : S.gone.contains d = true) (h0 : 0 ≤ wh) (h4 : wh ≤ 4) : Calls Try.prog 30 #[.pointer (some ⟨g, 0, none⟩), .int .i64 d, .int .i64 wh] w (RPost base w g vL vG S (doV (4, (false, 0, 0), 0))) := by
  go_enter Try.func30, Try.ntmps30
  go_upto_region 1 with (fail)
  obtain ⟨w1, hw1⟩ : ∃ w1, w1 = w.alloc (.cells #[.bool false, .int .i64 0, .int .i64 0] 48) := ⟨_, rfl⟩
  have F1 : Hid (Fr (fun _ => False) w w1) := by rw [hw1]; exact (Fr.refl _ _).alloc _
  have R1 : Hid (w1.heap[w.heap.size]? = some (.cells #[.bool false, .int .i64 0, .int .i64 0] 48 (0, 0))) := by rw [hw1]; exact heap_alloc_new _ _
  rw [← hw1]
  clear hw1
  have H1 : Hid (RAt base w1 g S vL vG) := H.out.later F1.out
  have hb1 : Hid (base ≤ w1.heap.size) := Nat.le_trans hb F1.out.size
  have G1 : Hid (Fr (RX g vL vG) w w1) := F1.out.mono (fun _ _ e => e.elim)
  have KS := ryState_in base g S vL vG d w1 H1.out
  have KD := ryDropped_in base g S vL vG d w1 H1.out
  rw [hg] at KD
  go_wp2_with (first | (go_at_call 32; refine KS.mono ?_; clear KS; rintro e w' ⟨rfl, rfl⟩) | (go_at_call 33; refine KD.mono ?_; clear KD; rintro e w' ⟨rfl, rfl⟩) | (refine wpList_storeB rfl 48 (.tmp 7) (.tmp 37) rfl w.heap.size #[.bool false, .int .i64 0, .int .i64 0] #[.bool false, .int .i64 0, .int .i64 0] 48 rfl rfl R1.out rfl (by kernel_rfl) (by simp [Value.oneCell']) ?_; intro y H9 G9))
  have d0 : y.cell? ⟨w.heap.size, 0, none⟩ = some (.bool false) := cell_of_heap H9.out rfl
  have d1 : y.cell? ⟨w.heap.size, 1, none⟩ = some (.int .i64 0) := cell_of_heap H9.out rfl
  have d2 : y.cell? ⟨w.heap.size, 2, none⟩ = some (.int .i64 0) := cell_of_heap H9.out rfl
  refine bodyPost_ret (v := .tuple #[.int .i64 4, .agg #[.bool false, .int .i64 0, .int .i64 0], .int .i64 0]) (by simp [results, Try.results30, go_sem, d0, d1, d2]) rfl ?_
  exact ⟨rfl, _, _, H1.out.done R1.out G9.out (Nat.le_refl _) G1.out⟩
theorem ryDo_err (base g : Nat) (S : Stm) (vL vG : Value) (d wh : Int) (w : World) (n k c er : Int) (H : Hid (RAt base w g S vL vG)) (hb : base ≤ w.heap.size) (hd : ¬ d < 1) (hd2 : ¬ 2147483647 < d) (hgate : ¬ (S.gone.contains d = true ∧ 0 ≤ wh ∧ wh ≤ 4)) (hstep : stepO (stateS S d) wh = (n, k, c, er)) (he : ¬ er = 0) : Calls Try.prog 30 #[.pointer (some ⟨g, 0, none⟩), .int .i64 d, .int .i64 wh] w (RPost base w g vL vG S (doV (0, (false, 0, 0), er))) := by
  go_enter Try.func30, Try.ntmps30
  go_upto_region 1 with (fail)
  obtain ⟨w1, hw1⟩ : ∃ w1, w1 = w.alloc (.cells #[.bool false, .int .i64 0, .int .i64 0] 48) := ⟨_, rfl⟩
  have F1 : Hid (Fr (fun _ => False) w w1) := by rw [hw1]; exact (Fr.refl _ _).alloc _
  have R1 : Hid (w1.heap[w.heap.size]? = some (.cells #[.bool false, .int .i64 0, .int .i64 0] 48 (0, 0))) := by rw [hw1]; exact heap_alloc_new _ _
  rw [← hw1]
  clear hw1
  have H1 : Hid (RAt base w1 g S vL vG) := H.out.later F1.out
  have hb1 : Hid (base ≤ w1.heap.size) := Nat.le_trans hb F1.out.size
  have G1 : Hid (Fr (RX g vL vG) w w1) := F1.out.mono (fun _ _ e => e.elim)
  have KS := ryState_in base g S vL vG d w1 H1.out
  have KD := ryDropped_in base g S vL vG d w1 H1.out
  have KT := ryStep_in (stateS S d) wh w1
  unfold stepV at KT
  rw [hstep] at KT
  dsimp only at KT
  go_upto_region 4 with (go_at_call 32; refine KS.mono ?_; clear KS; rintro e w' ⟨rfl, rfl⟩)
  go_cut [36] (fun s36 wc => s36 = .bool false ∧ w1 = wc)
  case first =>
    cases hgb : S.gone.contains d
    · rw [hgb] at KD
      clear hgate
      go_wp2_with (go_at_call 33; refine KD.mono ?_; clear KD; rintro e w' ⟨rfl, rfl⟩)
      go_meet
      case rel => exact ⟨rfl, rfl⟩
    · rw [hgb] at KD
      by_cases h0 : 0 ≤ wh
      · have h4 : 4 < wh := by
          rcases Int.lt_or_le 4 wh with h | h
          · exact h
          · exact absurd ⟨hgb, h0, h⟩ hgate
        clear hgate
        go_wp2_with (go_at_call 33; refine KD.mono ?_; clear KD; rintro e w' ⟨rfl, rfl⟩)
        go_meet
        case rel => exact ⟨(by first | rfl | rw [decide_eq_false (by omega)]), rfl⟩
      · clear hgate
        go_wp2_with (go_at_call 33; refine KD.mono ?_; clear KD; rintro e w' ⟨rfl, rfl⟩)
        go_meet
        case rel => exact ⟨rfl, rfl⟩
  obtain ⟨rfl, rfl⟩ := hcut
  go_upto_region 7 with (go_at_call 10; refine KT.mono ?_; clear KT; rintro e w2 ⟨rfl, hf2⟩)
  have F2 : Hid (Fr (fun _ => False) w1 w2) := hf2
  have H2 : Hid (RAt base w2 g S vL vG) := H1.out.later hf2
  have R2 : Hid (w2.heap[w.heap.size]? = some (.cells #[.bool false, .int .i64 0, .int .i64 0] 48 (0, 0))) := (hf2.block _ (lt_of_heap R1.out) id).trans R1.out
  have G2 : Hid (Fr (RX g vL vG) w w2) := G1.out.trans (hf2.mono (fun _ _ e => e.elim))
  have hb2 : Hid (base ≤ w2.heap.size) := Nat.le_trans hb1.out hf2.size
  clear hf2
  go_wp2_with ((refine wpList_storeB rfl 48 (.tmp 7) (.tmp 48) rfl w.heap.size #[.bool false, .int .i64 0, .int .i64 0] #[.bool false, .int .i64 0, .int .i64 0] 48 rfl rfl R2.out rfl (by kernel_rfl) (by simp [Value.oneCell']) ?_; intro y H9 G9))
  have d0 : y.cell? ⟨w.heap.size, 0, none⟩ = some (.bool false) := cell_of_heap H9.out rfl
  have d1 : y.cell? ⟨w.heap.size, 1, none⟩ = some (.int .i64 0) := cell_of_heap H9.out rfl
  have d2 : y.cell? ⟨w.heap.size, 2, none⟩ = some (.int .i64 0) := cell_of_heap H9.out rfl
  refine bodyPost_ret (v := .tuple #[.int .i64 0, .agg #[.bool false, .int .i64 0, .int .i64 0], .int .i64 er]) (by simp [results, Try.results30, go_sem, d0, d1, d2]) rfl ?_
  exact ⟨rfl, _, _, H2.out.done R2.out G9.out (Nat.le_refl _) G2.out⟩
theorem ryDo_k1 (base g : Nat) (S : Stm) (vL vG : Value) (d wh : Int) (w : World) (n k c er : Int) (H : Hid (RAt base w g S vL vG)) (hb : base ≤ w.heap.size) (hd : ¬ d < 1) (hd2 : ¬ 2147483647 < d) (hgate : ¬ (S.gone.contains d = true ∧ 0 ≤ wh ∧ wh ≤ 4)) (hstep : stepO (stateS S d) wh = (n, k, c, er)) (he : er = 0) (hk : k = 1) : Calls Try.prog 30 #[.pointer (some ⟨g, 0, none⟩), .int .i64 d, .int .i64 wh] w (RPost base w g vL vG S (doV (0, (true, d, c), 0))) := by
  subst he hk
  go_enter Try.func30, Try.ntmps30
  go_upto_region 1 with (fail)
  obtain ⟨w1, hw1⟩ : ∃ w1, w1 = w.alloc (.cells #[.bool false, .int .i64 0, .int .i64 0] 48) := ⟨_, rfl⟩
  have F1 : Hid (Fr (fun _ => False) w w1) := by rw [hw1]; exact (Fr.refl _ _).alloc _
  have R1 : Hid (w1.heap[w.heap.size]? = some (.cells #[.bool false, .int .i64 0, .int .i64 0] 48 (0, 0))) := by rw [hw1]; exact heap_alloc_new _ _
  rw [← hw1]
  clear hw1
  have H1 : Hid (RAt base w1 g S vL vG) := H.out.later F1.out
  have hb1 : Hid (base ≤ w1.heap.size) := Nat.le_trans hb F1.out.size
  have G1 : Hid (Fr (RX g vL vG) w w1) := F1.out.mono (fun _ _ e => e.elim)
  have KS := ryState_in base g S vL vG d w1 H1.out
  have KD := ryDropped_in base g S vL vG d w1 H1.out
  have KT := ryStep_in (stateS S d) wh w1
  unfold stepV at KT
  rw [hstep] at KT
  dsimp only at KT
  go_upto_region 4 with (go_at_call 32; refine KS.mono ?_; clear KS; rintro e w' ⟨rfl, rfl⟩)
  go_cut [36] (fun s36 wc => s36 = .bool false ∧ w1 = wc)
  case first =>
    cases hgb : S.gone.contains d
    · rw [hgb] at KD
      clear hgate
      go_wp2_with (go_at_call 33; refine KD.mono ?_; clear KD; rintro e w' ⟨rfl, rfl⟩)
      go_meet
      case rel => exact ⟨rfl, rfl⟩
    · rw [hgb] at KD
      by_cases h0 : 0 ≤ wh
      · have h4 : 4 < wh := by
          rcases Int.lt_or_le 4 wh with h | h
          · exact h
          · exact absurd ⟨hgb, h0, h⟩ hgate
        clear hgate
        go_wp2_with (go_at_call 33; refine KD.mono ?_; clear KD; rintro e w' ⟨rfl, rfl⟩)
        go_meet
        case rel => exact ⟨(by first | rfl | rw [decide_eq_false (by omega)]), rfl⟩
      · clear hgate
        go_wp2_with (go_at_call 33; refine KD.mono ?_; clear KD; rintro e w' ⟨rfl, rfl⟩)
        go_meet
        case rel => exact ⟨rfl, rfl⟩
  obtain ⟨rfl, rfl⟩ := hcut
  go_upto_region 7 with (go_at_call 10; refine KT.mono ?_; clear KT; rintro e w2 ⟨rfl, hf2⟩)
  have F2 : Hid (Fr (fun _ => False) w1 w2) := hf2
  have H2 : Hid (RAt base w2 g S vL vG) := H1.out.later hf2
  have R2 : Hid (w2.heap[w.heap.size]? = some (.cells #[.bool false, .int .i64 0, .int .i64 0] 48 (0, 0))) := (hf2.block _ (lt_of_heap R1.out) id).trans R1.out
  have G2 : Hid (Fr (RX g vL vG) w w2) := G1.out.trans (hf2.mono (fun _ _ e => e.elim))
  have hb2 : Hid (base ≤ w2.heap.size) := Nat.le_trans hb1.out hf2.size
  clear hf2
  go_wp2_with ((refine wpList_storeB rfl 48 (.tmp 7) (.tmp 54) rfl w.heap.size #[.bool false, .int .i64 0, .int .i64 0] #[.bool true, .int .i64 d, .int .i64 c] 48 rfl rfl R2.out rfl (by kernel_rfl) (by simp [Value.oneCell']) ?_; intro y H9 G9))
  have d0 : y.cell? ⟨w.heap.size, 0, none⟩ = some (.bool true) := cell_of_heap H9.out rfl
  have d1 : y.cell? ⟨w.heap.size, 1, none⟩ = some (.int .i64 d) := cell_of_heap H9.out rfl
  have d2 : y.cell? ⟨w.heap.size, 2, none⟩ = some (.int .i64 c) := cell_of_heap H9.out rfl
  refine bodyPost_ret (v := .tuple #[.int .i64 0, .agg #[.bool true, .int .i64 d, .int .i64 c], .int .i64 0]) (by simp [results, Try.results30, go_sem, d0, d1, d2]) rfl ?_
  exact ⟨rfl, _, _, H2.out.done R2.out G9.out (Nat.le_refl _) G2.out⟩
theorem ryDo_k2 (base g : Nat) (S : Stm) (vL vG : Value) (d wh : Int) (w : World) (n k c er : Int) (H : Hid (RAt base w g S vL vG)) (hb : base ≤ w.heap.size) (hd : ¬ d < 1) (hd2 : ¬ 2147483647 < d) (hgate : ¬ (S.gone.contains d = true ∧ 0 ≤ wh ∧ wh ≤ 4)) (hstep : stepO (stateS S d) wh = (n, k, c, er)) (he : er = 0) (hk : k = 2) : Calls Try.prog 30 #[.pointer (some ⟨g, 0, none⟩), .int .i64 d, .int .i64 wh] w (RPost base w g vL vG S (doV (0, (true, 0, c), 0))) := by
  subst he hk
  go_enter Try.func30, Try.ntmps30
  go_upto_region 1 with (fail)
  obtain ⟨w1, hw1⟩ : ∃ w1, w1 = w.alloc (.cells #[.bool false, .int .i64 0, .int .i64 0] 48) := ⟨_, rfl⟩
  have F1 : Hid (Fr (fun _ => False) w w1) := by rw [hw1]; exact (Fr.refl _ _).alloc _
  have R1 : Hid (w1.heap[w.heap.size]? = some (.cells #[.bool false, .int .i64 0, .int .i64 0] 48 (0, 0))) := by rw [hw1]; exact heap_alloc_new _ _
  rw [← hw1]
  clear hw1
  have H1 : Hid (RAt base w1 g S vL vG) := H.out.later F1.out
  have hb1 : Hid (base ≤ w1.heap.size) := Nat.le_trans hb F1.out.size
  have G1 : Hid (Fr (RX g vL vG) w w1) := F1.out.mono (fun _ _ e => e.elim)
  have KS := ryState_in base g S vL vG d w1 H1.out
  have KD := ryDropped_in base g S vL vG d w1 H1.out
  have KT := ryStep_in (stateS S d) wh w1
  unfold stepV at KT
  rw [hstep] at KT
  dsimp only at KT
  go_upto_region 4 with (go_at_call 32; refine KS.mono ?_; clear KS; rintro e w' ⟨rfl, rfl⟩)
  go_cut [36] (fun s36 wc => s36 = .bool false ∧ w1 = wc)
  case first =>
    cases hgb : S.gone.contains d
    · rw [hgb] at KD
      clear hgate
      go_wp2_with (go_at_call 33; refine KD.mono ?_; clear KD; rintro e w' ⟨rfl, rfl⟩)
      go_meet
      case rel => exact ⟨rfl, rfl⟩
    · rw [hgb] at KD
      by_cases h0 : 0 ≤ wh
      · have h4 : 4 < wh := by
          rcases Int.lt_or_le 4 wh with h | h
          · exact h
          · exact absurd ⟨hgb, h0, h⟩ hgate
        clear hgate
        go_wp2_with (go_at_call 33; refine KD.mono ?_; clear KD; rintro e w' ⟨rfl, rfl⟩)
        go_meet
        case rel => exact ⟨(by first | rfl | rw [decide_eq_false (by omega)]), rfl⟩
      · clear hgate
        go_wp2_with (go_at_call 33; refine KD.mono ?_; clear KD; rintro e w' ⟨rfl, rfl⟩)
        go_meet
        case rel => exact ⟨rfl, rfl⟩
  obtain ⟨rfl, rfl⟩ := hcut
  go_upto_region 7 with (go_at_call 10; refine KT.mono ?_; clear KT; rintro e w2 ⟨rfl, hf2⟩)
  have F2 : Hid (Fr (fun _ => False) w1 w2) := hf2
  have H2 : Hid (RAt base w2 g S vL vG) := H1.out.later hf2
  have R2 : Hid (w2.heap[w.heap.size]? = some (.cells #[.bool false, .int .i64 0, .int .i64 0] 48 (0, 0))) := (hf2.block _ (lt_of_heap R1.out) id).trans R1.out
  have G2 : Hid (Fr (RX g vL vG) w w2) := G1.out.trans (hf2.mono (fun _ _ e => e.elim))
  have hb2 : Hid (base ≤ w2.heap.size) := Nat.le_trans hb1.out hf2.size
  clear hf2
  go_wp2_with ((refine wpList_storeB rfl 48 (.tmp 7) (.tmp 58) rfl w.heap.size #[.bool false, .int .i64 0, .int .i64 0] #[.bool true, .int .i64 0, .int .i64 c] 48 rfl rfl R2.out rfl (by kernel_rfl) (by simp [Value.oneCell']) ?_; intro y H9 G9))
  have d0 : y.cell? ⟨w.heap.size, 0, none⟩ = some (.bool true) := cell_of_heap H9.out rfl
  have d1 : y.cell? ⟨w.heap.size, 1, none⟩ = some (.int .i64 0) := cell_of_heap H9.out rfl
  have d2 : y.cell? ⟨w.heap.size, 2, none⟩ = some (.int .i64 c) := cell_of_heap H9.out rfl
  refine bodyPost_ret (v := .tuple #[.int .i64 0, .agg #[.bool true, .int .i64 0, .int .i64 c], .int .i64 0]) (by simp [results, Try.results30, go_sem, d0, d1, d2]) rfl ?_
  exact ⟨rfl, _, _, H2.out.done R2.out G9.out (Nat.le_refl _) G2.out⟩
theorem ryDo_none (base g : Nat) (S : Stm) (vL vG : Value) (d wh : Int) (w : World) (n k c er : Int) (H : Hid (RAt base w g S vL vG)) (hb : base ≤ w.heap.size) (hd : ¬ d < 1) (hd2 : ¬ 2147483647 < d) (hgate : ¬ (S.gone.contains d = true ∧ 0 ≤ wh ∧ wh ≤ 4)) (hstep : stepO (stateS S d) wh = (n, k, c, er)) (he : er = 0) (hk1 : ¬ k = 1) (hk2 : ¬ k = 2) (hf : findS S.L d = none) : Calls Try.prog 30 #[.pointer (some ⟨g, 0, none⟩), .int .i64 d, .int .i64 wh] w (RPost base w g vL vG S (doV (n, (false, 0, 0), 0))) := by
  subst he
  go_enter Try.func30, Try.ntmps30
  go_upto_region 1 with (fail)
  obtain ⟨w1, hw1⟩ : ∃ w1, w1 = w.alloc (.cells #[.bool false, .int .i64 0, .int .i64 0] 48) := ⟨_, rfl⟩
  have F1 : Hid (Fr (fun _ => False) w w1) := by rw [hw1]; exact (Fr.refl _ _).alloc _
  have R1 : Hid (w1.heap[w.heap.size]? = some (.cells #[.bool false, .int .i64 0, .int .i64 0] 48 (0, 0))) := by rw [hw1]; exact heap_alloc_new _ _
  rw [← hw1]
  clear hw1
  have H1 : Hid (RAt base w1 g S vL vG) := H.out.later F1.out
  have hb1 : Hid (base ≤ w1.heap.size) := Nat.le_trans hb F1.out.size
  have G1 : Hid (Fr (RX g vL vG) w w1) := F1.out.mono (fun _ _ e => e.elim)
  have KS := ryState_in base g S vL vG d w1 H1.out
  have KD := ryDropped_in base g S vL vG d w1 H1.out
  have KT := ryStep_in (stateS S d) wh w1
  unfold stepV at KT
  rw [hstep] at KT
  dsimp only at KT
  go_upto_region 4 with (go_at_call 32; refine KS.mono ?_; clear KS; rintro e w' ⟨rfl, rfl⟩)
  go_cut [36] (fun s36 wc => s36 = .bool false ∧ w1 = wc)
  case first =>
    cases hgb : S.gone.contains d
    · rw [hgb] at KD
      clear hgate
      go_wp2_with (go_at_call 33; refine KD.mono ?_; clear KD; rintro e w' ⟨rfl, rfl⟩)
      go_meet
      case rel => exact ⟨rfl, rfl⟩
    · rw [hgb] at KD
      by_cases h0 : 0 ≤ wh
      · have h4 : 4 < wh := by
          rcases Int.lt_or_le 4 wh with h | h
          · exact h
          · exact absurd ⟨hgb, h0, h⟩ hgate
        clear hgate
        go_wp2_with (go_at_call 33; refine KD.mono ?_; clear KD; rintro e w' ⟨rfl, rfl⟩)
        go_meet
        case rel => exact ⟨(by first | rfl | rw [decide_eq_false (by omega)]), rfl⟩
      · clear hgate
        go_wp2_with (go_at_call 33; refine KD.mono ?_; clear KD; rintro e w' ⟨rfl, rfl⟩)
        go_meet
        case rel => exact ⟨rfl, rfl⟩
  obtain ⟨rfl, rfl⟩ := hcut
  go_upto_region 7 with (go_at_call 10; refine KT.mono ?_; clear KT; rintro e w2 ⟨rfl, hf2⟩)
  have F2 : Hid (Fr (fun _ => False) w1 w2) := hf2
  have H2 : Hid (RAt base w2 g S vL vG) := H1.out.later hf2
  have R2 : Hid (w2.heap[w.heap.size]? = some (.cells #[.bool false, .int .i64 0, .int .i64 0] 48 (0, 0))) := (hf2.block _ (lt_of_heap R1.out) id).trans R1.out
  have G2 : Hid (Fr (RX g vL vG) w w2) := G1.out.trans (hf2.mono (fun _ _ e => e.elim))
  have hb2 : Hid (base ≤ w2.heap.size) := Nat.le_trans hb1.out hf2.size
  clear hf2
  have KG : Calls Try.prog 52 #[.pointer (some ⟨g, 0, none⟩), .int .i64 d] w2 fun e w' => e = .returned (.int .i64 (-1)) ∧ w2 = w' := by
    refine (ryfind_in base g S vL vG d w2 H2.out).mono ?_
    rintro e w' ⟨⟨r, rfl, hr⟩, rfl⟩
    rcases hr with ⟨rfl, hn⟩ | ⟨i, y, rfl, h1, h2, h3, -⟩
    · exact ⟨rfl, rfl⟩
    · rw [hf] at h3; cases h3
  go_wp2_with (first | (go_at_call 52; refine KG.mono ?_; clear KG; rintro e w' ⟨rfl, rfl⟩) | (refine wpList_storeB rfl 48 (.tmp 7) (.tmp 65) rfl w.heap.size #[.bool false, .int .i64 0, .int .i64 0] #[.bool false, .int .i64 0, .int .i64 0] 48 rfl rfl R2.out rfl (by kernel_rfl) (by simp [Value.oneCell']) ?_; intro y H9 G9))
  have d0 : y.cell? ⟨w.heap.size, 0, none⟩ = some (.bool false) := cell_of_heap H9.out rfl
  have d1 : y.cell? ⟨w.heap.size, 1, none⟩ = some (.int .i64 0) := cell_of_heap H9.out rfl
  have d2 : y.cell? ⟨w.heap.size, 2, none⟩ = some (.int .i64 0) := cell_of_heap H9.out rfl
  refine bodyPost_ret (v := .tuple #[.int .i64 n, .agg #[.bool false, .int .i64 0, .int .i64 0], .int .i64 0]) (by simp [results, Try.results30, go_sem, d0, d1, d2]) rfl ?_
  exact ⟨rfl, _, _, H2.out.done R2.out G9.out (Nat.le_refl _) G2.out⟩
end Go.Proofs.Ytahlhkpabkplfaa
