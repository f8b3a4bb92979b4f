/- Contracts of the joiner's copies and of the whole block. -/
import Derived.Test.YtdndhidinbmpdaaBc
namespace Go.Proofs.Ytdndhidinbmpdaa
open Go.RowKit
set_option linter.unusedVariables false
set_option maxRecDepth 100000
set_option maxHeartbeats 4000000

/-- A frame that is answered: its value, and that its payload and settings lie in new memory. -/
def CopiedAs (w : World) (f : Fra) (e : Ending) (w' : World) : Prop := ∃ p cp q cq, e = .returned (.agg #[.int .i64 f.k, .int .i64 f.fl, .int .i64 f.st, .slice p f.X.length cp, .int .i64 f.pad, .int .u32 f.code, .int .i64 f.last, .int .i64 f.inc, .int .i64 f.dep, .bool f.only, .int .i64 f.wt, .slice q f.Y.length cq]) ∧ SrcAt w' p f.X ∧ Copy w' q cq f.Y ∧ (∀ ad, p = some ad → w.heap.size ≤ ad.block) ∧ Fr (fun _ => False) w w'

theorem FAt.set3 {w : World} {g : Nat} {f : Fra} {p q p' : Option Addr} {cp cq cp' : Nat} (h : FAt w g f p cp q cq) : FAt (w.setCell ⟨g, 3, none⟩ (.slice p' f.X.length cp')) g f p' cp' q cq := by
  have := heap_set (j := 3) (.slice p' f.X.length cp') h
  simpa [FAt] using this
theorem FAt.set11 {w : World} {g : Nat} {f : Fra} {p q q' : Option Addr} {cp cq cq' : Nat} (h : FAt w g f p cp q cq) : FAt (w.setCell ⟨g, 11, none⟩ (.slice q' f.Y.length cq')) g f p cp q' cq' := by
  have := heap_set (j := 11) (.slice q' f.Y.length cq') h
  simpa [FAt] using this

theorem copied_in (f : Fra) (p q : Option Addr) (cp cq : Nat) (w : World) (hp : SrcAt w p f.X) (hq : SetsAt w q cq f.Y) (hm : f.X.length ≤ 225179981368371) :
    Calls Try.prog 23 #[.agg #[.int .i64 f.k, .int .i64 f.fl, .int .i64 f.st, .slice p f.X.length cp, .int .i64 f.pad, .int .u32 f.code, .int .i64 f.last, .int .i64 f.inc, .int .i64 f.dep, .bool f.only, .int .i64 f.wt, .slice q f.Y.length cq]] w fun e w' => CopiedAs w f e w' := by
  obtain ⟨W, hW⟩ : ∃ W, W = (w.alloc (.cells #[.int .i64 f.k, .int .i64 f.fl, .int .i64 f.st, .slice p f.X.length cp, .int .i64 f.pad, .int .u32 f.code, .int .i64 f.last, .int .i64 f.inc, .int .i64 f.dep, .bool f.only, .int .i64 f.wt, .slice q f.Y.length cq] 34)).alloc (.cells #[.int .i64 0, .int .i64 0, .int .i64 0, .slice none 0 0, .int .i64 0, .int .u32 0, .int .i64 0, .int .i64 0, .int .i64 0, .bool false, .int .i64 0, .slice none 0 0] 34) := ⟨_, rfl⟩
  have HFW : Hid (Fr (fun _ => False) w W) := by rw [hW]; exact ((Fr.refl _ _).alloc _).alloc _
  have A1 : Hid (FAt W w.heap.size f p cp q cq) := by rw [hW]; exact past_at _ (heap_alloc_new w _)
  have R1 : Hid (W.heap[w.heap.size + 1]? = some (.cells #[.int .i64 0, .int .i64 0, .int .i64 0, .slice none 0 0, .int .i64 0, .int .u32 0, .int .i64 0, .int .i64 0, .int .i64 0, .bool false, .int .i64 0, .slice none 0 0] 34 (0, 0))) := by rw [hW]; exact last_at _ (by simp)
  have K1 : Hid (Calls Try.prog 27 #[.slice p f.X.length cp] W fun e w' => ∃ a' c', e = .returned (.slice a' f.X.length c') ∧ Gath W w' (.slice a' f.X.length c') f.X) := Clone_in p _ cp f.X W (hp.oldF HFW.out) rfl hm
  have HQ : Hid (SetsAt W q cq f.Y) := hq.later HFW.out
  have HQL : Hid (∀ ad, q = some ad → 0 < f.Y.length → ad.block < w.heap.size) := sets_lt hq
  have c3 : W.cell? ⟨w.heap.size, 3, none⟩ = some (.slice p f.X.length cp) := cell_of_heap A1.out rfl
  have z3 : W.frozen? ⟨w.heap.size, 3, none⟩ = false := frozen_of_heap A1.out
  clear hp hq
  go_enter Try.func23, Try.ntmps23
  go_upto_region 1 with (fail)
  rw [← hW]
  clear hW
  go_upto_region 2 with (go_at_call 27; refine K1.out.mono ?_; rintro e w1 ⟨a1, c1, rfl, G1⟩; have HG : Hid (Gath W w1 (.slice a1 f.X.length c1) f.X) := G1; clear G1 c3 z3; have B1 : Hid (FAt w1 w.heap.size f p cp q cq) := A1.out.later HG.out.2.2; have z3 : w1.frozen? ⟨w.heap.size, 3, none⟩ = false := frozen_of_heap B1.out; have c3 : w1.cell? ⟨w.heap.size, 3, none⟩ = some (.slice p f.X.length cp) := cell_of_heap B1.out rfl)
  have B2 : Hid (FAt (w1.setCell ⟨w.heap.size, 3, none⟩ (.slice a1 f.X.length c1)) w.heap.size f a1 c1 q cq) := B1.out.set3
  have F2 : Hid (Fr (fun k => k = w.heap.size) W (w1.setCell ⟨w.heap.size, 3, none⟩ (.slice a1 f.X.length c1))) := (HG.out.2.2.mono (fun _ _ e => e.elim)).setB _ _
  obtain ⟨w2, hw2⟩ : ∃ w2, w2 = w1.setCell ⟨w.heap.size, 3, none⟩ (.slice a1 f.X.length c1) := ⟨_, rfl⟩
  rw [← hw2] at B2 F2 ⊢
  have Hw2 : Hid (Fr (fun k => k = w.heap.size) w1 w2) := by rw [hw2]; exact (Fr.refl _ _).setB _ _
  clear hw2 c3 z3
  have HS2 : Hid (SrcAt w2 a1 f.X) := (own_src HG.out.1).fr Hw2.out (fun ad e _ e2 => by have := HG.out.new ad e; have := lt_of_heap A1.out; omega)
  have HN2 : Hid (∀ ad, a1 = some ad → W.heap.size ≤ ad.block) := HG.out.new
  have HQ2 : Hid (SetsAt w2 q cq f.Y) := HQ.out.fr F2.out (fun ad e hl e2 => by
    have e4 : ad.block = w.heap.size := e2
    have h6 := HQL.out _ e hl
    omega)
  have c11 : w2.cell? ⟨w.heap.size, 11, none⟩ = some (.slice q f.Y.length cq) := cell_of_heap B2.out rfl
  have K2 : Hid (Calls Try.prog 29 #[.slice q f.Y.length cq] w2 fun e w' => ∃ q' c', e = .returned (.slice q' f.Y.length c') ∧ Copy w' q' c' f.Y ∧ Fr (fun _ => False) w2 w') := sClone_in q cq f.Y w2 HQ2.out
  go_upto_region 3 with (go_at_call 29; refine K2.out.mono ?_; rintro e w3 ⟨q1, d1, rfl, hC, hF⟩; have HC3 : Hid (Copy w3 q1 d1 f.Y ∧ Fr (fun _ => False) w2 w3) := ⟨hC, hF⟩; clear hC hF c11; have B3 : Hid (FAt w3 w.heap.size f a1 c1 q cq) := B2.out.later HC3.out.2; have c11 : w3.cell? ⟨w.heap.size, 11, none⟩ = some (.slice q f.Y.length cq) := cell_of_heap B3.out rfl; have z11 : w3.frozen? ⟨w.heap.size, 11, none⟩ = false := frozen_of_heap B3.out)
  obtain ⟨w4, hw4⟩ : ∃ w4, w4 = w3.setCell ⟨w.heap.size, 11, none⟩ (.slice q1 f.Y.length d1) := ⟨_, rfl⟩
  have B4 : Hid (FAt w4 w.heap.size f a1 c1 q1 d1) := by rw [hw4]; exact B3.out.set11
  have F4 : Hid (Fr (fun k => k = w.heap.size) w3 w4) := by rw [hw4]; exact (Fr.refl _ _).setB _ _
  rw [← hw4]
  clear hw4 c11 z11
  obtain ⟨b0, b1, b2, b3, b4, b5, b6, b7, b8, b9, b10, b11⟩ := fcells B4.out
  have FA : Hid (Fr (fun k => k = w.heap.size) W w4) := (F2.out.trans (HC3.out.2.mono (fun _ _ e => e.elim))).trans F4.out
  have R4 : Hid (w4.heap[w.heap.size + 1]? = some (.cells #[.int .i64 0, .int .i64 0, .int .i64 0, .slice none 0 0, .int .i64 0, .int .u32 0, .int .i64 0, .int .i64 0, .int .i64 0, .bool false, .int .i64 0, .slice none 0 0] 34 (0, 0))) := (FA.out.block _ (lt_of_heap R1.out) (by omega)).trans R1.out
  have HWS : Hid (w.heap.size + 1 < W.heap.size) := lt_of_heap R1.out
  have HS4 : Hid (SrcAt w4 a1 f.X) := (HS2.out.oldF HC3.out.2).fr F4.out (fun ad e _ e2 => by have := HN2.out ad e; have := HWS.out; omega)
  have HC4 : Hid (Copy w4 q1 d1 f.Y) := HC3.out.1.fr F4.out (fun k cur hk e => by subst e; have := B3.out; rw [FAt, hk] at this; simp at this)
  go_wp2_with (refine wpList_storeB rfl 34 (.tmp 2) (.tmp 11) rfl (w.heap.size + 1) #[.int .i64 0, .int .i64 0, .int .i64 0, .slice none 0 0, .int .i64 0, .int .u32 0, .int .i64 0, .int .i64 0, .int .i64 0, .bool false, .int .i64 0, .slice none 0 0] #[.int .i64 f.k, .int .i64 f.fl, .int .i64 f.st, .slice a1 f.X.length c1, .int .i64 f.pad, .int .u32 f.code, .int .i64 f.last, .int .i64 f.inc, .int .i64 f.dep, .bool f.only, .int .i64 f.wt, .slice q1 f.Y.length d1] 34 rfl rfl R4.out rfl (by kernel_rfl) (by simp [Value.oneCell']) ?_; intro w5 H5 G5; refine Hid.out ?_)
  unfold Hid
  go_wp2_with (fail)
  obtain ⟨r0, r1, r2, r3, r4, r5, r6, r7, r8, r9, r10, r11⟩ := cells12 H5.out
  refine bodyPost_ret (v := .agg #[.int .i64 f.k, .int .i64 f.fl, .int .i64 f.st, .slice a1 f.X.length c1, .int .i64 f.pad, .int .u32 f.code, .int .i64 f.last, .int .i64 f.inc, .int .i64 f.dep, .bool f.only, .int .i64 f.wt, .slice q1 f.Y.length d1]) (by simp [results, Try.results23, go_sem, r0, r1, r2, r3, r4, r5, r6, r7, r8, r9, r10, r11]) rfl ?_
  refine ⟨a1, c1, q1, d1, rfl, HS4.out.fr G5.out (fun ad e _ e2 => by have := HN2.out ad e; have := HWS.out; omega), HC4.out.fr G5.out (fun k cur hk e => by subst e; have := R4.out; rw [hk] at this; simp at this), fun ad e => by have := HN2.out ad e; have := HWS.out; omega, ?_⟩
  exact (((HFW.out.mono (T := fun k => k = w.heap.size ∨ k = w.heap.size + 1) (fun _ _ e => e.elim)).trans (FA.out.mono (fun _ _ e => .inl e))).trans (G5.out.mono (fun _ _ e => .inr e))).mono (fun k hk e => by omega)

theorem finish_in (g : Nat) (m : Int) (o : Opn) (p : Option Addr) (n c : Nat) (w : World) (h : JC w g m o (.slice p n c)) :
    Calls Try.prog 24 #[.pointer (some ⟨g, 0, none⟩)] w fun e w' => e = .returned (.agg #[.int .i64 (opK o), .int .i64 (opF o), .int .i64 (opS o), .slice p n c, .int .i64 0, .int .u32 0, .int .i64 0, .int .i64 0, .int .i64 0, .bool false, .int .i64 0, .slice none 0 0]) ∧ JC w' g m none (.slice none 0 0) ∧ Fr (fun k => k = g) w w' := by
  obtain ⟨W, hW⟩ : ∃ W, W = w.alloc (.cells #[.int .i64 0, .int .i64 0, .int .i64 0, .slice none 0 0, .int .i64 0, .int .u32 0, .int .i64 0, .int .i64 0, .int .i64 0, .bool false, .int .i64 0, .slice none 0 0] 34) := ⟨_, rfl⟩
  have HFW : Hid (Fr (fun _ => False) w W) := by rw [hW]; exact (Fr.refl _ _).alloc _
  have R1 : Hid (W.heap[w.heap.size]? = some (.cells #[.int .i64 0, .int .i64 0, .int .i64 0, .slice none 0 0, .int .i64 0, .int .u32 0, .int .i64 0, .int .i64 0, .int .i64 0, .bool false, .int .i64 0, .slice none 0 0] 34 (0, 0))) := by rw [hW]; exact heap_alloc_new w _
  have HLT : Hid (g < w.heap.size) := lt_of_heap h
  have HJW : Hid (JC W g m o (.slice p n c)) := h.fr HFW.out id
  clear h
  go_enter Try.func24, Try.ntmps24
  go_upto_region 1 with (fail)
  rw [← hW]
  clear hW
  go_wp2_with (fail)
  refine wp_region_held_drew (S := fun w2 => JC w2 g m o (.slice p n c)) (by kernel_rfl) HJW.out (fun hHeld => ?_)
  have HFD : Hid (Fr (fun _ => False) w W.drew) := HFW.out.drew
  have R2 : Hid (W.drew.heap[w.heap.size]? = some (.cells #[.int .i64 0, .int .i64 0, .int .i64 0, .slice none 0 0, .int .i64 0, .int .u32 0, .int .i64 0, .int .i64 0, .int .i64 0, .bool false, .int .i64 0, .slice none 0 0] 34 (0, 0))) := R1.out
  generalize W.drew = V at hHeld HFD R2 ⊢
  refine wpAnyH_take (i := 0) (oi := _) (v := .pointer (some ⟨g, 0, none⟩)) rfl (by kernel_rfl) (by kernel_rfl) (by kernel_rfl) (fun _ _ _ h => h) (Or.inl ⟨by kernel_rfl, fun w2 hw => by go_simp⟩) hHeld ?_
  refine wpAnyH_take (i := 1) (oi := _) (v := .pointer (some ⟨g, 0, none⟩)) rfl (by kernel_rfl) (by kernel_rfl) (by kernel_rfl) (fun _ _ _ h => h) (Or.inl ⟨by kernel_rfl, fun w2 hw => by go_simp⟩) hHeld ?_
  refine wpAnyH_take (i := 2) (oi := _) (v := .pointer (some ⟨g, 2, none⟩)) rfl (by kernel_rfl) (by kernel_rfl) (by kernel_rfl) (fun _ _ _ h => h) (Or.inl ⟨by kernel_rfl, fun w2 hw => by go_simp⟩) hHeld ?_
  refine wpAnyH_take (i := 3) (oi := _) (v := .pointer (some ⟨g, 2, none⟩)) rfl (by kernel_rfl) (by kernel_rfl) (by kernel_rfl) (fun _ _ _ h => h) (Or.inl ⟨by kernel_rfl, fun w2 hw => by go_simp⟩) hHeld ?_
  refine wpAnyH_take (i := 4) (oi := _) (v := .int .i64 (opK o)) rfl (by kernel_rfl) (by kernel_rfl) (by kernel_rfl) (fun _ _ _ h => h) (Or.inl ⟨by kernel_rfl, fun w2 hw => by obtain ⟨d0, d1, d2, d3, d4, d5⟩ := jcells hw; go_simp⟩) hHeld ?_
  refine wpAnyH_take (i := 5) (oi := _) (v := .pointer (some ⟨g, 0, none⟩)) rfl (by kernel_rfl) (by kernel_rfl) (by kernel_rfl) (fun _ _ _ h => h) (Or.inl ⟨by kernel_rfl, fun w2 hw => by go_simp⟩) hHeld ?_
  refine wpAnyH_take (i := 6) (oi := _) (v := .pointer (some ⟨g, 0, none⟩)) rfl (by kernel_rfl) (by kernel_rfl) (by kernel_rfl) (fun _ _ _ h => h) (Or.inl ⟨by kernel_rfl, fun w2 hw => by go_simp⟩) hHeld ?_
  refine wpAnyH_take (i := 7) (oi := _) (v := .pointer (some ⟨g, 2, none⟩)) rfl (by kernel_rfl) (by kernel_rfl) (by kernel_rfl) (fun _ _ _ h => h) (Or.inl ⟨by kernel_rfl, fun w2 hw => by go_simp⟩) hHeld ?_
  refine wpAnyH_take (i := 8) (oi := _) (v := .pointer (some ⟨g, 3, none⟩)) rfl (by kernel_rfl) (by kernel_rfl) (by kernel_rfl) (fun _ _ _ h => h) (Or.inl ⟨by kernel_rfl, fun w2 hw => by go_simp⟩) hHeld ?_
  refine wpAnyH_take (i := 9) (oi := _) (v := .int .i64 (opF o)) rfl (by kernel_rfl) (by kernel_rfl) (by kernel_rfl) (fun _ _ _ h => h) (Or.inl ⟨by kernel_rfl, fun w2 hw => by obtain ⟨d0, d1, d2, d3, d4, d5⟩ := jcells hw; go_simp⟩) hHeld ?_
  refine wpAnyH_take (i := 10) (oi := _) (v := .pointer (some ⟨g, 0, none⟩)) rfl (by kernel_rfl) (by kernel_rfl) (by kernel_rfl) (fun _ _ _ h => h) (Or.inl ⟨by kernel_rfl, fun w2 hw => by go_simp⟩) hHeld ?_
  refine wpAnyH_take (i := 11) (oi := _) (v := .pointer (some ⟨g, 0, none⟩)) rfl (by kernel_rfl) (by kernel_rfl) (by kernel_rfl) (fun _ _ _ h => h) (Or.inl ⟨by kernel_rfl, fun w2 hw => by go_simp⟩) hHeld ?_
  refine wpAnyH_take (i := 12) (oi := _) (v := .pointer (some ⟨g, 2, none⟩)) rfl (by kernel_rfl) (by kernel_rfl) (by kernel_rfl) (fun _ _ _ h => h) (Or.inl ⟨by kernel_rfl, fun w2 hw => by go_simp⟩) hHeld ?_
  refine wpAnyH_take (i := 13) (oi := _) (v := .pointer (some ⟨g, 4, none⟩)) rfl (by kernel_rfl) (by kernel_rfl) (by kernel_rfl) (fun _ _ _ h => h) (Or.inl ⟨by kernel_rfl, fun w2 hw => by go_simp⟩) hHeld ?_
  refine wpAnyH_take (i := 14) (oi := _) (v := .int .i64 (opS o)) rfl (by kernel_rfl) (by kernel_rfl) (by kernel_rfl) (fun _ _ _ h => h) (Or.inl ⟨by kernel_rfl, fun w2 hw => by obtain ⟨d0, d1, d2, d3, d4, d5⟩ := jcells hw; go_simp⟩) hHeld ?_
  refine wpAnyH_take (i := 15) (oi := _) (v := .pointer (some ⟨g, 0, none⟩)) rfl (by kernel_rfl) (by kernel_rfl) (by kernel_rfl) (fun _ _ _ h => h) (Or.inl ⟨by kernel_rfl, fun w2 hw => by go_simp⟩) hHeld ?_
  refine wpAnyH_take (i := 16) (oi := _) (v := .pointer (some ⟨g, 0, none⟩)) rfl (by kernel_rfl) (by kernel_rfl) (by kernel_rfl) (fun _ _ _ h => h) (Or.inl ⟨by kernel_rfl, fun w2 hw => by go_simp⟩) hHeld ?_
  refine wpAnyH_take (i := 17) (oi := _) (v := .pointer (some ⟨g, 5, none⟩)) rfl (by kernel_rfl) (by kernel_rfl) (by kernel_rfl) (fun _ _ _ h => h) (Or.inl ⟨by kernel_rfl, fun w2 hw => by go_simp⟩) hHeld ?_
  refine wpAnyH_take (i := 18) (oi := _) (v := .slice p n c) rfl (by kernel_rfl) (by kernel_rfl) (by kernel_rfl) (fun _ _ _ h => h) (Or.inl ⟨by kernel_rfl, fun w2 hw => by obtain ⟨d0, d1, d2, d3, d4, d5⟩ := jcells hw; go_simp⟩) hHeld ?_
  refine wpAnyH_take (i := 19) (oi := _) (v := .agg #[.int .i64 (opK o), .int .i64 (opF o), .int .i64 (opS o), .slice p n c, .int .i64 0, .int .u32 0, .int .i64 0, .int .i64 0, .int .i64 0, .bool false, .int .i64 0, .slice none 0 0]) rfl (by kernel_rfl) (by kernel_rfl) (by kernel_rfl) (fun _ _ _ h => h) (Or.inl ⟨by kernel_rfl, fun w2 hw => by go_simp⟩) hHeld ?_
  simp only [Act.put, List.getElem_toArray, List.getElem_cons_succ, List.getElem_cons_zero, List.setIfInBounds_toArray, List.set_cons_zero, List.set_cons_succ]
  refine wpAnyH_ready (rs := [20]) (by kernel_rfl) (by simp) ?_
  refine AllReadyH.cons rfl (fun K hK => ?_) AllReadyH.nil
  go_simp
  refine hK.out _ _ (hHeld.fr ((Fr.refl (fun _ => False) _).alloc _) id) (fun hHeld2 => ?_)
  clear hK K
  refine wpAnyH_ready (rs := [21]) (by kernel_rfl) (by simp) ?_
  refine AllReadyH.cons rfl (fun K hK => ?_) AllReadyH.nil
  refine stepR_storeB rfl rfl 34 (.tmp 3) (.tmp 23) rfl V.heap.size #[.int .i64 0, .int .i64 0, .int .i64 0, .slice none 0 0, .int .i64 0, .int .u32 0, .int .i64 0, .int .i64 0, .int .i64 0, .bool false, .int .i64 0, .slice none 0 0] #[.int .i64 (opK o), .int .i64 (opF o), .int .i64 (opS o), .slice p n c, .int .i64 0, .int .u32 0, .int .i64 0, .int .i64 0, .int .i64 0, .bool false, .int .i64 0, .slice none 0 0] 34 rfl rfl (heap_alloc_new V _) rfl (by kernel_rfl) (by simp [Value.oneCell']) ?_
  intro w5 H5 G5
  refine hK.out _ _ (hHeld2.fr G5.out (by have := HLT.out; have := HFD.out.size; omega)) (fun hHeld3 => ?_)
  clear hK K
  refine wpAnyH_done (by kernel_rfl) ?_ _
  have F5 : Hid (Fr (fun _ => False) V w5) := (((Fr.refl (fun k => k = V.heap.size) V).alloc _).trans G5.out).mono (fun k hk e => by omega)
  have KD : Hid (Calls Try.prog 28 #[.pointer (some ⟨g, 0, none⟩)] w5 fun e w' => e = .returned (.tuple #[]) ∧ JC w' g m none (.slice none 0 0) ∧ Fr (fun k => k = g) w5 w') := drop_in g m o _ w5 hHeld3
  have HVS : Hid (w.heap.size < V.heap.size) := lt_of_heap R2.out
  clear hHeld hHeld2 hHeld3
  go_upto_region 3 with (go_at_call 28; refine KD.out.mono ?_; rintro e w6 ⟨rfl, hj, hf⟩; have T1 : Hid (JC w6 g m none (.slice none 0 0) ∧ Fr (fun k => k = g) w5 w6) := ⟨hj, hf⟩; clear hj hf)
  have H6 : Hid (w6.heap[V.heap.size]? = some (.cells #[.int .i64 (opK o), .int .i64 (opF o), .int .i64 (opS o), .slice p n c, .int .i64 0, .int .u32 0, .int .i64 0, .int .i64 0, .int .i64 0, .bool false, .int .i64 0, .slice none 0 0] 34 (0, 0))) := (T1.out.2.block _ (lt_of_heap H5.out) (by have := HLT.out; have := HVS.out; omega)).trans H5.out
  obtain ⟨b0, b1, b2, b3, b4, b5, b6, b7, b8, b9, b10, b11⟩ := cells12 H6.out
  have F6 : Hid (Fr (fun k => k = g) V w6) := (F5.out.mono (fun _ _ e => e.elim)).trans T1.out.2
  have R6 : Hid (w6.heap[w.heap.size]? = some (.cells #[.int .i64 0, .int .i64 0, .int .i64 0, .slice none 0 0, .int .i64 0, .int .u32 0, .int .i64 0, .int .i64 0, .int .i64 0, .bool false, .int .i64 0, .slice none 0 0] 34 (0, 0))) := (F6.out.block _ HVS.out (by have := HLT.out; omega)).trans R2.out
  go_wp2_with (refine wpList_storeB rfl 34 (.tmp 2) (.tmp 26) rfl w.heap.size #[.int .i64 0, .int .i64 0, .int .i64 0, .slice none 0 0, .int .i64 0, .int .u32 0, .int .i64 0, .int .i64 0, .int .i64 0, .bool false, .int .i64 0, .slice none 0 0] #[.int .i64 (opK o), .int .i64 (opF o), .int .i64 (opS o), .slice p n c, .int .i64 0, .int .u32 0, .int .i64 0, .int .i64 0, .int .i64 0, .bool false, .int .i64 0, .slice none 0 0] 34 rfl rfl R6.out rfl (by kernel_rfl) (by simp [Value.oneCell']) ?_; intro w7 H7 G7; refine Hid.out ?_)
  unfold Hid
  go_wp2_with (fail)
  obtain ⟨r0, r1, r2, r3, r4, r5, r6, r7, r8, r9, r10, r11⟩ := cells12 H7.out
  refine bodyPost_ret (v := .agg #[.int .i64 (opK o), .int .i64 (opF o), .int .i64 (opS o), .slice p n c, .int .i64 0, .int .u32 0, .int .i64 0, .int .i64 0, .int .i64 0, .bool false, .int .i64 0, .slice none 0 0]) (by simp [results, Try.results24, go_sem, r0, r1, r2, r3, r4, r5, r6, r7, r8, r9, r10, r11]) rfl ?_
  have hlt := HLT.out
  refine ⟨rfl, T1.out.1.fr G7.out (by omega), ?_⟩
  exact (((HFD.out.mono (T := fun k => k = g ∨ k = w.heap.size) (fun _ _ e => e.elim)).trans (F6.out.mono (fun _ _ e => .inl e))).trans (G7.out.mono (fun _ _ e => .inr e))).mono (fun k hk e => by omega)
end Go.Proofs.Ytdndhidinbmpdaa
