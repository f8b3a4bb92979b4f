/- Check; awake. -/
import Derived.Test.YtmpknmcgljpfkaaMd
import Derived.Test.YtmpknmcgljpfkaaXp
import Derived.Test.YtmpknmcgljpfkaaSt
import Derived.Deep.Upon
import Derived.Deep.DeepCutAuto
import Derived.Deep.RegionHeldLaw
import Derived.Deep.RegionWith
import Derived.Deep.RegionLaw
namespace Go.Proofs.Ytmpknmcgljpfkaa
open Go.RowKit Go.Maps
set_option linter.unusedVariables false
set_option maxRecDepth 100000
set_option maxHeartbeats 4000000

theorem sawake_in (w : World) : Calls Try.prog 11 #[] w fun e w' => e = .returned (.bool true) ∧ Fr (fun _ => False) w w' := by
  have K := sNew_in w
  go_enter Try.func11, Try.ntmps11
  go_wp2_with (first
    | (go_at_call 12; refine K.mono ?_; clear K; rintro e w1 ⟨g, b, rfl, hS, hM, hf, h1, h2⟩; have KG := sGet_in g b _ firstV 4 w1 hS hM (by unfold IsI; omega); rw [show getV firstV 4 = 65535 from rfl] at KG)
    | (go_at_call 21; refine KG.mono ?_; clear KG; rintro e w' ⟨rfl, rfl⟩))
  go_ret
  exact ⟨rfl, hf⟩

/-- What Check tells. -/
def checkO (id : Int) (n : Nat) : Int := if kn id then codeO id (firstV id) n else 0
theorem sCheck_in (d : Int) (n : Nat) (w : World) (hi : IsI d) : Calls Try.prog 9 #[.agg #[.int .i64 d, .int .u32 (n : Int)]] w fun e w' => e = .returned (.int .i64 (checkO d n)) ∧ Fr (fun _ => False) w w' := by
  have KR := fun w => rules_in w
  obtain ⟨r0, r1, r2, hv, hone⟩ : ∃ r0 r1 r2, (rulesM d).getD zeroRule = .agg #[r0, r1, r2] ∧ (#[r0, r1, r2] : Array Value).all (·.oneCell') = true := by
    unfold rulesM; split <;> exact ⟨_, _, _, rfl, by simp [Value.oneCell']⟩
  obtain ⟨kb, hs⟩ : ∃ kb, (rulesM d).isSome = kb := ⟨_, rfl⟩
  have HONE : Hid ((#[r0, r1, r2] : Array Value).all (·.oneCell') = true) := hone
  have HV : Hid ((rulesM d).getD zeroRule = .agg #[r0, r1, r2]) := hv
  have HS : Hid ((rulesM d).isSome = kb) := hs
  obtain ⟨W, hW⟩ : ∃ W, W = w.alloc (.cells #[.int .i64 d, .int .u32 (n : Int)] 24) := ⟨_, rfl⟩
  have HFW : Hid (Fr (fun _ => False) w W) := by rw [hW]; exact (Fr.refl _ _).alloc _
  have hbx : W.heap[w.heap.size]? = some (.cells #[.int .i64 d, .int .u32 (n : Int)] 24 (0, 0)) := by rw [hW]; exact heap_alloc_new w _
  have HB : Hid (W.heap[w.heap.size]? = some (.cells #[.int .i64 d, .int .u32 (n : Int)] 24 (0, 0))) := hbx
  have HKEEP : Hid (∀ w', Fr (fun _ => False) W w' → w'.heap[w.heap.size]? = some (.cells #[.int .i64 d, .int .u32 (n : Int)] 24 (0, 0))) := fun w' hf => (hf.block _ (lt_of_heap HB.out) id).trans HB.out
  clear hone hbx
  go_enter Try.func9, Try.ntmps9
  go_upto_region 1 with (fail)
  rw [← hW]
  clear hW
  go_cut [3, 4] (fun s3 s4 wc => ∃ b3 : Nat, s3 = .pointer (some ⟨b3, 0, none⟩) ∧ s4 = .bool kb ∧ Hid (wc.heap[b3]? = some (.cells #[r0, r1, r2] 65 (0, 0)) ∧ Fr (fun _ => False) W wc))
  case first =>
    refine wp_region_held_drew (S := fun w2 => w2.heap[w.heap.size]? = some (.cells #[.int .i64 d, .int .u32 (n : Int)] 24 (0, 0))) (by kernel_rfl) (HKEEP.out _ ((Fr.refl _ _).drew)) (fun hHeld => ?_)
    refine wpAnyH_take (i := 1) (oi := _) (v := .pointer (some ⟨w.heap.size, 0, none⟩)) rfl (by kernel_rfl) (by kernel_rfl) (by kernel_rfl) (fun _ _ _ h => h) (Or.inl ⟨by kernel_rfl, fun w2 hw => by go_simp⟩) hHeld ?_
    refine wpAnyH_take (i := 2) (oi := _) (v := .int .i64 d) rfl (by kernel_rfl) (by kernel_rfl) (by kernel_rfl) (fun _ _ _ h => h) (Or.inl ⟨by kernel_rfl, fun w2 hw => by have c0 := cell_of_heap (i := 0) hw rfl; go_simp⟩) hHeld ?_
    simp only [Act.put, List.getElem_toArray, List.getElem_cons_succ, List.getElem_cons_zero, List.setIfInBounds_toArray, List.set_cons_zero, List.set_cons_succ]
    obtain ⟨w0, hw0⟩ : ∃ w0, w0 = W.drew := ⟨_, rfl⟩
    have F0 : Hid (Fr (fun _ => False) W w0) := by rw [hw0]; exact (Fr.refl _ _).drew
    rw [← hw0] at hHeld ⊢
    clear hw0
    refine wpAnyH_ready (rs := [0, 7]) (by kernel_rfl) (by simp) ?_
    refine AllReadyH.cons rfl (fun K hK => ?_) (AllReadyH.cons rfl (fun K hK => ?_) AllReadyH.nil)
    ·
      go_simp
      refine (KR _).mono ?_
      rintro e w1 ⟨rfl, hm1, hf1, hs1⟩
      have F1 : Hid (Fr (fun _ => False) W w1) := F0.out.trans hf1
      obtain ⟨mb, hmb⟩ : ∃ mb, mb = w0.heap.size := ⟨_, rfl⟩
      rw [← hmb] at hm1 ⊢
      have M1 : Hid (MapAt w1 mb 7 rulesM) := hm1
      clear hmb hs1 hm1
      refine hK.out _ _ (HKEEP.out _ F1.out) (fun hHeld1 => ?_)
      clear hK K
      refine wpAnyH_ready (rs := [3, 7]) (by kernel_rfl) (by simp) ?_
      refine AllReadyH.cons rfl (fun K hK => ?_) (AllReadyH.cons rfl (fun K hK => ?_) AllReadyH.nil)
      ·
        have hl := (M1.out.look Try.underlying67 zero_rule hi).2
        rw [hv, hs] at hl
        go_simp
        refine hK.out _ _ hHeld1 (fun _ => ?_)
        clear hK K hl
        refine wpAnyH_take (i := 4) (oi := _) (v := .tuple #[.agg #[r0, r1, r2], .bool kb]) rfl (by kernel_rfl) (by kernel_rfl) (by kernel_rfl) (fun _ _ _ h => h) (Or.inl ⟨by kernel_rfl, fun w2 hw => by go_simp⟩) hHeld1 ?_
        refine wpAnyH_take (i := 5) (oi := _) (v := .agg #[r0, r1, r2]) rfl (by kernel_rfl) (by kernel_rfl) (by kernel_rfl) (fun _ _ _ h => h) (Or.inl ⟨by kernel_rfl, fun w2 hw => by go_simp⟩) hHeld1 ?_
        refine wpAnyH_take (i := 6) (oi := _) (v := .bool kb) rfl (by kernel_rfl) (by kernel_rfl) (by kernel_rfl) (fun _ _ _ h => h) (Or.inl ⟨by kernel_rfl, fun w2 hw => by go_simp⟩) hHeld1 ?_
        simp only [Act.put, List.getElem_toArray, List.getElem_cons_succ, List.getElem_cons_zero, List.setIfInBounds_toArray, List.set_cons_zero, List.set_cons_succ]
        refine wpAnyH_ready (rs := [7]) (by kernel_rfl) (by simp) ?_
        refine AllReadyH.cons rfl (fun K hK => ?_) AllReadyH.nil
        go_simp
        refine hK.out _ _ (HKEEP.out _ (F1.out.alloc _)) (fun hHeld2 => ?_)
        clear hK K
        obtain ⟨w2, hw2⟩ : ∃ w2, w2 = w1.alloc (.cells #[.int .u32 0, .nilFunc, .int .i64 0] 65) := ⟨_, rfl⟩
        obtain ⟨ab, hab⟩ : ∃ ab, ab = w1.heap.size := ⟨_, rfl⟩
        have A2 : Hid (w2.heap[ab]? = some (.cells #[.int .u32 0, .nilFunc, .int .i64 0] 65 (0, 0))) := by rw [hw2, hab]; exact heap_alloc_new _ _
        have F2 : Hid (Fr (fun _ => False) W w2) := by rw [hw2]; exact F1.out.alloc _
        have fa2 : Fr (fun _ => False) w1 w2 := by rw [hw2]; exact (Fr.refl _ _).alloc _
        have Z2 : Hid (W.heap.size ≤ ab) := by rw [hab]; exact F1.out.size
        rw [← hab, ← hw2]
        rw [← hw2] at hHeld2
        clear hw2 hab
        refine wpAnyH_ready (rs := [8]) (by kernel_rfl) (by simp) ?_
        refine AllReadyH.cons rfl (fun K hK => ?_) AllReadyH.nil
        refine stepR_storeB rfl rfl 65 (.tmp 3) (.tmp 10) rfl ab #[.int .u32 0, .nilFunc, .int .i64 0] #[r0, r1, r2] 65 rfl rfl A2.out rfl (by kernel_rfl) HONE.out ?_
        intro y1 H1 G1
        have FY : Hid (Fr (fun _ => False) W y1) := ((F2.out.mono (T := fun k => W.heap.size ≤ k) (fun _ _ e => e.elim)).trans (G1.out.mono (fun k _ e => by have := Z2.out; omega))).mono (fun k hk e => by omega)
        refine hK.out _ _ (HKEEP.out _ FY.out) (fun hHeldy => ?_)
        clear hK K
        refine wpAnyH_ready (rs := [9]) (by kernel_rfl) (by simp) ?_
        refine AllReadyH.cons rfl (fun K hK => ?_) AllReadyH.nil
        go_simp
        refine hK.out _ _ hHeldy (fun _ => ?_)
        clear hK K
        refine wpAnyH_done (by kernel_rfl) ?_ _
        go_wp2_with (fail)
        go_meet
        case rel => exact ⟨ab, rfl, rfl, H1.out, FY.out⟩
      ·
        go_simp
        refine hK.out _ _ (HKEEP.out _ (F1.out.alloc _)) (fun hHeld3 => ?_)
        clear hK K
        obtain ⟨w3, hw3⟩ : ∃ w3, w3 = w1.alloc (.cells #[.int .u32 0, .nilFunc, .int .i64 0] 65) := ⟨_, rfl⟩
        obtain ⟨ab, hab⟩ : ∃ ab, ab = w1.heap.size := ⟨_, rfl⟩
        have A3 : Hid (w3.heap[ab]? = some (.cells #[.int .u32 0, .nilFunc, .int .i64 0] 65 (0, 0))) := by rw [hw3, hab]; exact heap_alloc_new _ _
        have F3 : Hid (Fr (fun _ => False) W w3) := by rw [hw3]; exact F1.out.alloc _
        have fa3 : Fr (fun _ => False) w1 w3 := by rw [hw3]; exact (Fr.refl _ _).alloc _
        have Z3 : Hid (W.heap.size ≤ ab) := by rw [hab]; exact F1.out.size
        rw [← hab, ← hw3]
        rw [← hw3] at hHeld3
        clear hw3 hab
        have M3 : Hid (MapAt w3 mb 7 rulesM) := M1.out.fr fa3 id
        refine wpAnyH_ready (rs := [3]) (by kernel_rfl) (by simp) ?_
        refine AllReadyH.cons rfl (fun K hK => ?_) AllReadyH.nil
        have hl := (M3.out.look Try.underlying67 zero_rule hi).2
        rw [hv, hs] at hl
        go_simp
        refine hK.out _ _ hHeld3 (fun _ => ?_)
        clear hK K hl
        refine wpAnyH_take (i := 4) (oi := _) (v := .tuple #[.agg #[r0, r1, r2], .bool kb]) rfl (by kernel_rfl) (by kernel_rfl) (by kernel_rfl) (fun _ _ _ h => h) (Or.inl ⟨by kernel_rfl, fun w2 hw => by go_simp⟩) hHeld3 ?_
        refine wpAnyH_take (i := 5) (oi := _) (v := .agg #[r0, r1, r2]) rfl (by kernel_rfl) (by kernel_rfl) (by kernel_rfl) (fun _ _ _ h => h) (Or.inl ⟨by kernel_rfl, fun w2 hw => by go_simp⟩) hHeld3 ?_
        refine wpAnyH_take (i := 6) (oi := _) (v := .bool kb) rfl (by kernel_rfl) (by kernel_rfl) (by kernel_rfl) (fun _ _ _ h => h) (Or.inl ⟨by kernel_rfl, fun w2 hw => by go_simp⟩) hHeld3 ?_
        simp only [Act.put, List.getElem_toArray, List.getElem_cons_succ, List.getElem_cons_zero, List.setIfInBounds_toArray, List.set_cons_zero, List.set_cons_succ]
        refine wpAnyH_ready (rs := [8]) (by kernel_rfl) (by simp) ?_
        refine AllReadyH.cons rfl (fun K hK => ?_) AllReadyH.nil
        refine stepR_storeB rfl rfl 65 (.tmp 3) (.tmp 10) rfl ab #[.int .u32 0, .nilFunc, .int .i64 0] #[r0, r1, r2] 65 rfl rfl A3.out rfl (by kernel_rfl) HONE.out ?_
        intro y1 H1 G1
        have FY : Hid (Fr (fun _ => False) W y1) := ((F3.out.mono (T := fun k => W.heap.size ≤ k) (fun _ _ e => e.elim)).trans (G1.out.mono (fun k _ e => by have := Z3.out; omega))).mono (fun k hk e => by omega)
        refine hK.out _ _ (HKEEP.out _ FY.out) (fun hHeldy => ?_)
        clear hK K
        refine wpAnyH_ready (rs := [9]) (by kernel_rfl) (by simp) ?_
        refine AllReadyH.cons rfl (fun K hK => ?_) AllReadyH.nil
        go_simp
        refine hK.out _ _ hHeldy (fun _ => ?_)
        clear hK K
        refine wpAnyH_done (by kernel_rfl) ?_ _
        go_wp2_with (fail)
        go_meet
        case rel => exact ⟨ab, rfl, rfl, H1.out, FY.out⟩
    ·
      go_simp
      refine hK.out _ _ (HKEEP.out _ (F0.out.alloc _)) (fun hHeld4 => ?_)
      clear hK K
      obtain ⟨w4, hw4⟩ : ∃ w4, w4 = w0.alloc (.cells #[.int .u32 0, .nilFunc, .int .i64 0] 65) := ⟨_, rfl⟩
      obtain ⟨ab, hab⟩ : ∃ ab, ab = w0.heap.size := ⟨_, rfl⟩
      have A4 : Hid (w4.heap[ab]? = some (.cells #[.int .u32 0, .nilFunc, .int .i64 0] 65 (0, 0))) := by rw [hw4, hab]; exact heap_alloc_new _ _
      have F4 : Hid (Fr (fun _ => False) W w4) := by rw [hw4]; exact F0.out.alloc _
      have fa4 : Fr (fun _ => False) w0 w4 := by rw [hw4]; exact (Fr.refl _ _).alloc _
      have Z4 : Hid (W.heap.size ≤ ab) := by rw [hab]; exact F0.out.size
      rw [← hab, ← hw4]
      rw [← hw4] at hHeld4
      clear hw4 hab
      refine wpAnyH_ready (rs := [0]) (by kernel_rfl) (by simp) ?_
      refine AllReadyH.cons rfl (fun K hK => ?_) AllReadyH.nil
      go_simp
      refine (KR _).mono ?_
      rintro e w5 ⟨rfl, hm5, hf5, hs5⟩
      have F5 : Hid (Fr (fun _ => False) W w5) := F4.out.trans hf5
      obtain ⟨mb, hmb⟩ : ∃ mb, mb = w4.heap.size := ⟨_, rfl⟩
      rw [← hmb] at hm5 ⊢
      have M5 : Hid (MapAt w5 mb 7 rulesM) := hm5
      clear hmb hs5 hm5
      refine hK.out _ _ (HKEEP.out _ F5.out) (fun hHeld5 => ?_)
      clear hK K
      have A5 : Hid (w5.heap[ab]? = some (.cells #[.int .u32 0, .nilFunc, .int .i64 0] 65 (0, 0))) := (hf5.block _ (lt_of_heap A4.out) id).trans A4.out
      refine wpAnyH_ready (rs := [3]) (by kernel_rfl) (by simp) ?_
      refine AllReadyH.cons rfl (fun K hK => ?_) AllReadyH.nil
      have hl := (M5.out.look Try.underlying67 zero_rule hi).2
      rw [hv, hs] at hl
      go_simp
      refine hK.out _ _ hHeld5 (fun _ => ?_)
      clear hK K hl
      refine wpAnyH_take (i := 4) (oi := _) (v := .tuple #[.agg #[r0, r1, r2], .bool kb]) rfl (by kernel_rfl) (by kernel_rfl) (by kernel_rfl) (fun _ _ _ h => h) (Or.inl ⟨by kernel_rfl, fun w2 hw => by go_simp⟩) hHeld5 ?_
      refine wpAnyH_take (i := 5) (oi := _) (v := .agg #[r0, r1, r2]) rfl (by kernel_rfl) (by kernel_rfl) (by kernel_rfl) (fun _ _ _ h => h) (Or.inl ⟨by kernel_rfl, fun w2 hw => by go_simp⟩) hHeld5 ?_
      refine wpAnyH_take (i := 6) (oi := _) (v := .bool kb) rfl (by kernel_rfl) (by kernel_rfl) (by kernel_rfl) (fun _ _ _ h => h) (Or.inl ⟨by kernel_rfl, fun w2 hw => by go_simp⟩) hHeld5 ?_
      simp only [Act.put, List.getElem_toArray, List.getElem_cons_succ, List.getElem_cons_zero, List.setIfInBounds_toArray, List.set_cons_zero, List.set_cons_succ]
      refine wpAnyH_ready (rs := [8]) (by kernel_rfl) (by simp) ?_
      refine AllReadyH.cons rfl (fun K hK => ?_) AllReadyH.nil
      refine stepR_storeB rfl rfl 65 (.tmp 3) (.tmp 10) rfl ab #[.int .u32 0, .nilFunc, .int .i64 0] #[r0, r1, r2] 65 rfl rfl A5.out rfl (by kernel_rfl) HONE.out ?_
      intro y1 H1 G1
      have FY : Hid (Fr (fun _ => False) W y1) := ((F5.out.mono (T := fun k => W.heap.size ≤ k) (fun _ _ e => e.elim)).trans (G1.out.mono (fun k _ e => by have := Z4.out; omega))).mono (fun k hk e => by omega)
      refine hK.out _ _ (HKEEP.out _ FY.out) (fun hHeldy => ?_)
      clear hK K
      refine wpAnyH_ready (rs := [9]) (by kernel_rfl) (by simp) ?_
      refine AllReadyH.cons rfl (fun K hK => ?_) AllReadyH.nil
      go_simp
      refine hK.out _ _ hHeldy (fun _ => ?_)
      clear hK K
      refine wpAnyH_done (by kernel_rfl) ?_ _
      go_wp2_with (fail)
      go_meet
      case rel => exact ⟨ab, rfl, rfl, H1.out, FY.out⟩
  case rest =>
    obtain ⟨b3, rfl, rfl, HC⟩ := hcut
    clear KR
    have c0 : wc.cell? ⟨b3, 0, none⟩ = some r0 := cell_of_heap HC.out.1 rfl
    have c1 : wc.cell? ⟨b3, 1, none⟩ = some r1 := cell_of_heap HC.out.1 rfl
    have c2 : wc.cell? ⟨b3, 2, none⟩ = some r2 := cell_of_heap HC.out.1 rfl
    have d0 : wc.cell? ⟨w.heap.size, 0, none⟩ = some (.int .i64 d) := cell_of_heap (HKEEP.out _ HC.out.2) rfl
    have d1 : wc.cell? ⟨w.heap.size, 1, none⟩ = some (.int .u32 (n : Int)) := cell_of_heap (HKEEP.out _ HC.out.2) rfl
    cases hk : kn d
    · obtain rfl : false = kb := by rw [← HS.out]; simp [rulesM, hk]
      have hO : Hid (checkO d n = 0) := by show _ = _; simp [checkO, hk]
      go_wp2_with (fail)
      go_ret
      exact ⟨by rw [hO.out]; rfl, HFW.out.trans HC.out.2⟩
    · obtain rfl : true = kb := by rw [← HS.out]; simp [rulesM, hk]
      have hV := HV.out
      simp only [rulesM, hk, if_true, Option.getD_some, ruleV, Value.agg.injEq, Array.mk.injEq, List.cons.injEq, and_true] at hV
      obtain ⟨rfl, rfl, rfl⟩ := hV
      have hO : Hid (checkO d n = codeO d (firstV d) n) := by show _ = _; simp [checkO, hk]
      have KC := fun w => check_in d (firstV d) n w hk
      unfold ruleV at KC
      have HK : Hid (∀ w, Calls Try.prog 25 #[.agg #[.int .u32 (firstV d : Nat), .func (.func (fitFn d)) #[] #[], .int .i64 (badC d)], .int .u32 (firstV d : Int), .int .u32 (n : Int)] w fun e w' => e = .returned (.int .i64 (codeO d (firstV d) n)) ∧ Fr (fun _ => False) w w') := KC
      clear KC
      go_wp2_with (go_at_call 25; refine (HK.out _).mono ?_; rintro e w4 ⟨rfl, hf4⟩)
      go_ret
      exact ⟨by rw [hO.out]; rfl, (HFW.out.trans HC.out.2).trans hf4⟩
end Go.Proofs.Ytmpknmcgljpfkaa
