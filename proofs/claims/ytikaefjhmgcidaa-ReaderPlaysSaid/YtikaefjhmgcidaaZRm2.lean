/- What stands in a frame, by the document: payloads. -/
import Derived.Test.YtikaefjhmgcidaaZRm
import Derived.Deep.Cut
namespace Go.Proofs.Ytikaefjhmgcidaa
open Go.RowKit
set_option linter.unusedVariables false
set_option maxRecDepth 100000
set_option maxHeartbeats 4000000

theorem fd_0 (fl st : Int) (x : Nat) (a : Option Addr) (len cap : Nat) (b : List UInt8) (w : World) (h0 : 0 ≤ fl) (h1 : fl ≤ 255) (hs : SrcAt w a b) (hl : b.length = len) (hc : len ≤ cap) (hm : len ≤ 16777215) :
    Calls Try.prog 37 #[.agg #[.int .i64 0, .int .i64 fl, .int .i64 st, .slice none 0 0, .int .i64 (x : Int), .int .u32 0, .int .i64 0, .int .i64 0, .int .i64 0, .bool false, .int .i64 0, .slice none 0 0], .slice a len cap] w fun e w' => RdAs w (⟨0, fl, st, b, x, 0, 0, 0, 0, false, 0, []⟩, ⟨false, 0, 0⟩) e w' := by
  obtain ⟨W, hW⟩ : ∃ W, W = ((w.alloc (.cells #[.int .i64 0, .int .i64 fl, .int .i64 st, .slice none 0 0, .int .i64 (x : Int), .int .u32 0, .int .i64 0, .int .i64 0, .int .i64 0, .bool false, .int .i64 0, .slice none 0 0] 36)).alloc (.cells #[.int .i64 0, .int .i64 0, .int .i64 0, .slice none 0 0, .int .i64 0, .int .u32 0, .int .i64 0, .int .i64 0, .int .i64 0, .bool false, .int .i64 0, .slice none 0 0] 36)).alloc (.cells #[.bool false, .int .i64 0, .int .i64 0] 38) := ⟨_, rfl⟩
  have HFW : Hid (Fr (fun _ => False) w W) := by rw [hW]; exact (((Fr.refl _ _).alloc _).alloc _).alloc _
  have A0 : Hid (W.heap[w.heap.size]? = some (.cells #[.int .i64 0, .int .i64 fl, .int .i64 st, .slice none 0 0, .int .i64 (x : Int), .int .u32 0, .int .i64 0, .int .i64 0, .int .i64 0, .bool false, .int .i64 0, .slice none 0 0] 36 (0, 0))) := by rw [hW]; exact past_at _ (past_at _ (heap_alloc_new w _))
  have hr1 : W.heap[w.heap.size + 1]? = some (.cells #[.int .i64 0, .int .i64 0, .int .i64 0, .slice none 0 0, .int .i64 0, .int .u32 0, .int .i64 0, .int .i64 0, .int .i64 0, .bool false, .int .i64 0, .slice none 0 0] 36 (0, 0)) := by rw [hW]; exact past_at _ (last_at _ (by simp))
  have hr2 : W.heap[w.heap.size + 2]? = some (.cells #[.bool false, .int .i64 0, .int .i64 0] 38 (0, 0)) := by rw [hW]; exact last_at _ (by simp)
  have HRES : Hid (∀ w', Fr (fun k => k = w.heap.size) W w' → w'.heap[w.heap.size + 1]? = some (.cells #[.int .i64 0, .int .i64 0, .int .i64 0, .slice none 0 0, .int .i64 0, .int .u32 0, .int .i64 0, .int .i64 0, .int .i64 0, .bool false, .int .i64 0, .slice none 0 0] 36 (0, 0)) ∧ w'.heap[w.heap.size + 2]? = some (.cells #[.bool false, .int .i64 0, .int .i64 0] 38 (0, 0))) := fun w' hf => ⟨(hf.block _ (lt_of_heap hr1) (by omega)).trans hr1, (hf.block _ (lt_of_heap hr2) (by omega)).trans hr2⟩
  have HS : Hid (∀ w', Fr (fun k => k = w.heap.size) W w' → SrcAt w' a b) := fun w' hf => src_ge hs ((HFW.out.mono (T := fun k => w.heap.size ≤ k) (fun _ _ e => e.elim)).trans (hf.mono (fun k _ e => by omega)))
  have HL : Hid (b.length = len) := hl
  obtain ⟨c0, c1, c2, c3, c4, c5, c6, c7, c8, c9, c10, c11⟩ := cells12 A0.out
  have F0 : Hid (Fr (fun k => k = w.heap.size) W W) := Fr.refl _ _
  obtain ⟨j, J1, J2, J3, J4⟩ := info5
  have J1 : Hid _ := J1
  have J2 : Hid _ := J2
  have J3 : Hid _ := J3
  have J4 : Hid _ := J4
  clear hs hl hr1 hr2
  go_enter Try.func37, Try.ntmps37
  go_upto_region 1 with (fail)
  rw [← hW]
  clear hW
  go_wp2_with first
    | (refine wpList_gather (w0 := W) rfl (.tmp 120) (.tmp 121) 31 31 rfl j Try.underlying31 Try.underlying31 J1.out J2.out J3.out J4.out (.slice (some ⟨W.heap.size, 0, none⟩) 0 0) [] (by go_simp) (Gath.start (Fr.refl _ _)) a len cap (by go_simp) (b) (((HS.out _ F0.out)).oldF ((Fr.refl _ _).alloc _)) HL.out (by simp only [List.length_nil]; omega) ?_; intro ag ng dg wg Ng Gg Fg; have AG : Hid (wg.heap[w.heap.size]? = some (.cells #[.int .i64 0, .int .i64 fl, .int .i64 st, .slice none 0 0, .int .i64 (x : Int), .int .u32 0, .int .i64 0, .int .i64 0, .int .i64 0, .bool false, .int .i64 0, .slice none 0 0] 36 (0, 0))) := (Gg.2.2.block _ (lt_of_heap A0.out) id).trans A0.out; have FG : Hid (Fr (fun k => k = w.heap.size) W wg) := F0.out.trans (Gg.2.2.mono (fun _ _ e => e.elim)); clear c0 c1 c2 c3 c4 c5 c6 c7 c8 c9 c10 c11; obtain ⟨c0, c1, c2, c3, c4, c5, c6, c7, c8, c9, c10, c11⟩ := cells12 AG.out; have zg : wg.frozen? ⟨w.heap.size, 3, none⟩ = false := frozen_of_heap AG.out; have FG2 : Hid (Fr (fun k => k = w.heap.size) W (wg.setCell ⟨w.heap.size, 3, none⟩ (.slice ag ng dg))) := FG.out.setB _ _)
    | (refine wpList_storeB rfl 36 (.tmp 4) (.tmp 124) rfl (w.heap.size + 1) #[.int .i64 0, .int .i64 0, .int .i64 0, .slice none 0 0, .int .i64 0, .int .u32 0, .int .i64 0, .int .i64 0, .int .i64 0, .bool false, .int .i64 0, .slice none 0 0] #[.int .i64 0, .int .i64 fl, .int .i64 st, .slice ag ng dg, .int .i64 (x : Int), .int .u32 0, .int .i64 0, .int .i64 0, .int .i64 0, .bool false, .int .i64 0, .slice none 0 0] 36 rfl rfl (HRES.out _ FG2.out).1 rfl (by kernel_rfl) (by simp [Value.oneCell']) ?_; intro w4 H4 F4)
    | (refine wpList_storeB rfl 38 (.tmp 5) (.tmp 125) rfl (w.heap.size + 2) #[.bool false, .int .i64 0, .int .i64 0] #[.bool false, .int .i64 0, .int .i64 0] 38 rfl rfl ((F4.out.block _ (lt_of_heap (HRES.out _ FG2.out).2) (by omega)).trans (HRES.out _ FG2.out).2) rfl (by kernel_rfl) (by simp [Value.oneCell']) ?_; intro w5 H5 F5)
  obtain ⟨r0, r1, r2, r3, r4, r5, r6, r7, r8, r9, r10, r11⟩ := cells12 ((F5.out.block _ (lt_of_heap H4.out) (by omega)).trans H4.out)
  obtain ⟨s0, s1, s2⟩ := cells3 H5.out
  have FALL : Fr (fun k => k = w.heap.size + 1 ∨ k = w.heap.size + 2) (wg.setCell ⟨w.heap.size, 3, none⟩ (.slice ag ng dg)) w5 := (F4.out.mono (fun _ _ e => .inl e)).trans (F5.out.mono (fun _ _ e => .inr e))
  refine bodyPost_ret (v := .tuple #[.agg #[.int .i64 0, .int .i64 fl, .int .i64 st, .slice ag ng dg, .int .i64 (x : Int), .int .u32 0, .int .i64 0, .int .i64 0, .int .i64 0, .bool false, .int .i64 0, .slice none 0 0], .agg #[.bool false, .int .i64 0, .int .i64 0]]) (by simp [results, Try.results37, go_sem, r0, r1, r2, r3, r4, r5, r6, r7, r8, r9, r10, r11, s0, s1, s2]) rfl ?_
  have FEND : Fr (fun _ => False) w w5 := ((((HFW.out.mono (T := fun k => w.heap.size ≤ k) (fun _ _ e => e.elim)).trans (FG2.out.mono (fun k _ e => by omega))).trans (FALL.mono (fun k _ e => by omega)))).mono (fun k hk e => by omega)
  have hge : ∀ ad, ag = some ad → w.heap.size + 3 ≤ ad.block := fun ad e => Nat.le_trans (by have h1 := F0.out.size; have h2 := lt_of_heap (HRES.out _ F0.out).2; omega) (Gg.new ad e)
  have hng : ng = (b).length := by rw [Ng.out, HL.out]; simp
  refine ⟨ag, dg, none, 0, ?_, ?_, SetsAt.nil _, (fun ad e _ => by have := hge ad e; omega), (fun ad e => by cases e), FEND⟩
  · rw [hng]; rfl
  · have hsrc : SrcAt wg ag (b) := own_src Gg.1
    refine (hsrc.fr ((Fr.refl (fun k => k = w.heap.size) wg).setB 3 (.slice ag ng dg)) (fun ad e _ e2 => by have := hge ad e; omega)).fr FALL (fun ad e _ e2 => by have := hge ad e; omega)

theorem fd_6 (fl st : Int) (x : Nat) (a : Option Addr) (len cap : Nat) (b : List UInt8) (w : World) (h0 : 0 ≤ fl) (h1 : fl ≤ 255) (hs : SrcAt w a b) (hl : b.length = len) (hc : len ≤ cap) (hm : len ≤ 16777215) :
    Calls Try.prog 37 #[.agg #[.int .i64 6, .int .i64 fl, .int .i64 st, .slice none 0 0, .int .i64 (x : Int), .int .u32 0, .int .i64 0, .int .i64 0, .int .i64 0, .bool false, .int .i64 0, .slice none 0 0], .slice a len cap] w fun e w' => RdAs w (⟨6, fl, st, b, x, 0, 0, 0, 0, false, 0, []⟩, ⟨false, 0, 0⟩) e w' := by
  obtain ⟨W, hW⟩ : ∃ W, W = ((w.alloc (.cells #[.int .i64 6, .int .i64 fl, .int .i64 st, .slice none 0 0, .int .i64 (x : Int), .int .u32 0, .int .i64 0, .int .i64 0, .int .i64 0, .bool false, .int .i64 0, .slice none 0 0] 36)).alloc (.cells #[.int .i64 0, .int .i64 0, .int .i64 0, .slice none 0 0, .int .i64 0, .int .u32 0, .int .i64 0, .int .i64 0, .int .i64 0, .bool false, .int .i64 0, .slice none 0 0] 36)).alloc (.cells #[.bool false, .int .i64 0, .int .i64 0] 38) := ⟨_, rfl⟩
  have HFW : Hid (Fr (fun _ => False) w W) := by rw [hW]; exact (((Fr.refl _ _).alloc _).alloc _).alloc _
  have A0 : Hid (W.heap[w.heap.size]? = some (.cells #[.int .i64 6, .int .i64 fl, .int .i64 st, .slice none 0 0, .int .i64 (x : Int), .int .u32 0, .int .i64 0, .int .i64 0, .int .i64 0, .bool false, .int .i64 0, .slice none 0 0] 36 (0, 0))) := by rw [hW]; exact past_at _ (past_at _ (heap_alloc_new w _))
  have hr1 : W.heap[w.heap.size + 1]? = some (.cells #[.int .i64 0, .int .i64 0, .int .i64 0, .slice none 0 0, .int .i64 0, .int .u32 0, .int .i64 0, .int .i64 0, .int .i64 0, .bool false, .int .i64 0, .slice none 0 0] 36 (0, 0)) := by rw [hW]; exact past_at _ (last_at _ (by simp))
  have hr2 : W.heap[w.heap.size + 2]? = some (.cells #[.bool false, .int .i64 0, .int .i64 0] 38 (0, 0)) := by rw [hW]; exact last_at _ (by simp)
  have HRES : Hid (∀ w', Fr (fun k => k = w.heap.size) W w' → w'.heap[w.heap.size + 1]? = some (.cells #[.int .i64 0, .int .i64 0, .int .i64 0, .slice none 0 0, .int .i64 0, .int .u32 0, .int .i64 0, .int .i64 0, .int .i64 0, .bool false, .int .i64 0, .slice none 0 0] 36 (0, 0)) ∧ w'.heap[w.heap.size + 2]? = some (.cells #[.bool false, .int .i64 0, .int .i64 0] 38 (0, 0))) := fun w' hf => ⟨(hf.block _ (lt_of_heap hr1) (by omega)).trans hr1, (hf.block _ (lt_of_heap hr2) (by omega)).trans hr2⟩
  have HS : Hid (∀ w', Fr (fun k => k = w.heap.size) W w' → SrcAt w' a b) := fun w' hf => src_ge hs ((HFW.out.mono (T := fun k => w.heap.size ≤ k) (fun _ _ e => e.elim)).trans (hf.mono (fun k _ e => by omega)))
  have HL : Hid (b.length = len) := hl
  obtain ⟨c0, c1, c2, c3, c4, c5, c6, c7, c8, c9, c10, c11⟩ := cells12 A0.out
  have F0 : Hid (Fr (fun k => k = w.heap.size) W W) := Fr.refl _ _
  obtain ⟨j, J1, J2, J3, J4⟩ := info5
  have J1 : Hid _ := J1
  have J2 : Hid _ := J2
  have J3 : Hid _ := J3
  have J4 : Hid _ := J4
  clear hs hl hr1 hr2
  go_enter Try.func37, Try.ntmps37
  go_upto_region 1 with (fail)
  rw [← hW]
  clear hW
  go_wp2_with first
    | (refine wpList_gather (w0 := W) rfl (.tmp 120) (.tmp 121) 31 31 rfl j Try.underlying31 Try.underlying31 J1.out J2.out J3.out J4.out (.slice (some ⟨W.heap.size, 0, none⟩) 0 0) [] (by go_simp) (Gath.start (Fr.refl _ _)) a len cap (by go_simp) (b) (((HS.out _ F0.out)).oldF ((Fr.refl _ _).alloc _)) HL.out (by simp only [List.length_nil]; omega) ?_; intro ag ng dg wg Ng Gg Fg; have AG : Hid (wg.heap[w.heap.size]? = some (.cells #[.int .i64 6, .int .i64 fl, .int .i64 st, .slice none 0 0, .int .i64 (x : Int), .int .u32 0, .int .i64 0, .int .i64 0, .int .i64 0, .bool false, .int .i64 0, .slice none 0 0] 36 (0, 0))) := (Gg.2.2.block _ (lt_of_heap A0.out) id).trans A0.out; have FG : Hid (Fr (fun k => k = w.heap.size) W wg) := F0.out.trans (Gg.2.2.mono (fun _ _ e => e.elim)); clear c0 c1 c2 c3 c4 c5 c6 c7 c8 c9 c10 c11; obtain ⟨c0, c1, c2, c3, c4, c5, c6, c7, c8, c9, c10, c11⟩ := cells12 AG.out; have zg : wg.frozen? ⟨w.heap.size, 3, none⟩ = false := frozen_of_heap AG.out; have FG2 : Hid (Fr (fun k => k = w.heap.size) W (wg.setCell ⟨w.heap.size, 3, none⟩ (.slice ag ng dg))) := FG.out.setB _ _)
    | (refine wpList_storeB rfl 36 (.tmp 4) (.tmp 124) rfl (w.heap.size + 1) #[.int .i64 0, .int .i64 0, .int .i64 0, .slice none 0 0, .int .i64 0, .int .u32 0, .int .i64 0, .int .i64 0, .int .i64 0, .bool false, .int .i64 0, .slice none 0 0] #[.int .i64 6, .int .i64 fl, .int .i64 st, .slice ag ng dg, .int .i64 (x : Int), .int .u32 0, .int .i64 0, .int .i64 0, .int .i64 0, .bool false, .int .i64 0, .slice none 0 0] 36 rfl rfl (HRES.out _ FG2.out).1 rfl (by kernel_rfl) (by simp [Value.oneCell']) ?_; intro w4 H4 F4)
    | (refine wpList_storeB rfl 38 (.tmp 5) (.tmp 125) rfl (w.heap.size + 2) #[.bool false, .int .i64 0, .int .i64 0] #[.bool false, .int .i64 0, .int .i64 0] 38 rfl rfl ((F4.out.block _ (lt_of_heap (HRES.out _ FG2.out).2) (by omega)).trans (HRES.out _ FG2.out).2) rfl (by kernel_rfl) (by simp [Value.oneCell']) ?_; intro w5 H5 F5)
  obtain ⟨r0, r1, r2, r3, r4, r5, r6, r7, r8, r9, r10, r11⟩ := cells12 ((F5.out.block _ (lt_of_heap H4.out) (by omega)).trans H4.out)
  obtain ⟨s0, s1, s2⟩ := cells3 H5.out
  have FALL : Fr (fun k => k = w.heap.size + 1 ∨ k = w.heap.size + 2) (wg.setCell ⟨w.heap.size, 3, none⟩ (.slice ag ng dg)) w5 := (F4.out.mono (fun _ _ e => .inl e)).trans (F5.out.mono (fun _ _ e => .inr e))
  refine bodyPost_ret (v := .tuple #[.agg #[.int .i64 6, .int .i64 fl, .int .i64 st, .slice ag ng dg, .int .i64 (x : Int), .int .u32 0, .int .i64 0, .int .i64 0, .int .i64 0, .bool false, .int .i64 0, .slice none 0 0], .agg #[.bool false, .int .i64 0, .int .i64 0]]) (by simp [results, Try.results37, go_sem, r0, r1, r2, r3, r4, r5, r6, r7, r8, r9, r10, r11, s0, s1, s2]) rfl ?_
  have FEND : Fr (fun _ => False) w w5 := ((((HFW.out.mono (T := fun k => w.heap.size ≤ k) (fun _ _ e => e.elim)).trans (FG2.out.mono (fun k _ e => by omega))).trans (FALL.mono (fun k _ e => by omega)))).mono (fun k hk e => by omega)
  have hge : ∀ ad, ag = some ad → w.heap.size + 3 ≤ ad.block := fun ad e => Nat.le_trans (by have h1 := F0.out.size; have h2 := lt_of_heap (HRES.out _ F0.out).2; omega) (Gg.new ad e)
  have hng : ng = (b).length := by rw [Ng.out, HL.out]; simp
  refine ⟨ag, dg, none, 0, ?_, ?_, SetsAt.nil _, (fun ad e _ => by have := hge ad e; omega), (fun ad e => by cases e), FEND⟩
  · rw [hng]; rfl
  · have hsrc : SrcAt wg ag (b) := own_src Gg.1
    refine (hsrc.fr ((Fr.refl (fun k => k = w.heap.size) wg).setB 3 (.slice ag ng dg)) (fun ad e _ e2 => by have := hge ad e; omega)).fr FALL (fun ad e _ e2 => by have := hge ad e; omega)

theorem fd_9 (fl st : Int) (x : Nat) (a : Option Addr) (len cap : Nat) (b : List UInt8) (w : World) (h0 : 0 ≤ fl) (h1 : fl ≤ 255) (hs : SrcAt w a b) (hl : b.length = len) (hc : len ≤ cap) (hm : len ≤ 16777215) :
    Calls Try.prog 37 #[.agg #[.int .i64 9, .int .i64 fl, .int .i64 st, .slice none 0 0, .int .i64 (x : Int), .int .u32 0, .int .i64 0, .int .i64 0, .int .i64 0, .bool false, .int .i64 0, .slice none 0 0], .slice a len cap] w fun e w' => RdAs w (⟨9, fl, st, b, x, 0, 0, 0, 0, false, 0, []⟩, ⟨false, 0, 0⟩) e w' := by
  obtain ⟨W, hW⟩ : ∃ W, W = ((w.alloc (.cells #[.int .i64 9, .int .i64 fl, .int .i64 st, .slice none 0 0, .int .i64 (x : Int), .int .u32 0, .int .i64 0, .int .i64 0, .int .i64 0, .bool false, .int .i64 0, .slice none 0 0] 36)).alloc (.cells #[.int .i64 0, .int .i64 0, .int .i64 0, .slice none 0 0, .int .i64 0, .int .u32 0, .int .i64 0, .int .i64 0, .int .i64 0, .bool false, .int .i64 0, .slice none 0 0] 36)).alloc (.cells #[.bool false, .int .i64 0, .int .i64 0] 38) := ⟨_, rfl⟩
  have HFW : Hid (Fr (fun _ => False) w W) := by rw [hW]; exact (((Fr.refl _ _).alloc _).alloc _).alloc _
  have A0 : Hid (W.heap[w.heap.size]? = some (.cells #[.int .i64 9, .int .i64 fl, .int .i64 st, .slice none 0 0, .int .i64 (x : Int), .int .u32 0, .int .i64 0, .int .i64 0, .int .i64 0, .bool false, .int .i64 0, .slice none 0 0] 36 (0, 0))) := by rw [hW]; exact past_at _ (past_at _ (heap_alloc_new w _))
  have hr1 : W.heap[w.heap.size + 1]? = some (.cells #[.int .i64 0, .int .i64 0, .int .i64 0, .slice none 0 0, .int .i64 0, .int .u32 0, .int .i64 0, .int .i64 0, .int .i64 0, .bool false, .int .i64 0, .slice none 0 0] 36 (0, 0)) := by rw [hW]; exact past_at _ (last_at _ (by simp))
  have hr2 : W.heap[w.heap.size + 2]? = some (.cells #[.bool false, .int .i64 0, .int .i64 0] 38 (0, 0)) := by rw [hW]; exact last_at _ (by simp)
  have HRES : Hid (∀ w', Fr (fun k => k = w.heap.size) W w' → w'.heap[w.heap.size + 1]? = some (.cells #[.int .i64 0, .int .i64 0, .int .i64 0, .slice none 0 0, .int .i64 0, .int .u32 0, .int .i64 0, .int .i64 0, .int .i64 0, .bool false, .int .i64 0, .slice none 0 0] 36 (0, 0)) ∧ w'.heap[w.heap.size + 2]? = some (.cells #[.bool false, .int .i64 0, .int .i64 0] 38 (0, 0))) := fun w' hf => ⟨(hf.block _ (lt_of_heap hr1) (by omega)).trans hr1, (hf.block _ (lt_of_heap hr2) (by omega)).trans hr2⟩
  have HS : Hid (∀ w', Fr (fun k => k = w.heap.size) W w' → SrcAt w' a b) := fun w' hf => src_ge hs ((HFW.out.mono (T := fun k => w.heap.size ≤ k) (fun _ _ e => e.elim)).trans (hf.mono (fun k _ e => by omega)))
  have HL : Hid (b.length = len) := hl
  obtain ⟨c0, c1, c2, c3, c4, c5, c6, c7, c8, c9, c10, c11⟩ := cells12 A0.out
  have F0 : Hid (Fr (fun k => k = w.heap.size) W W) := Fr.refl _ _
  obtain ⟨j, J1, J2, J3, J4⟩ := info5
  have J1 : Hid _ := J1
  have J2 : Hid _ := J2
  have J3 : Hid _ := J3
  have J4 : Hid _ := J4
  clear hs hl hr1 hr2
  go_enter Try.func37, Try.ntmps37
  go_upto_region 1 with (fail)
  rw [← hW]
  clear hW
  go_wp2_with first
    | (refine wpList_gather (w0 := W) rfl (.tmp 120) (.tmp 121) 31 31 rfl j Try.underlying31 Try.underlying31 J1.out J2.out J3.out J4.out (.slice (some ⟨W.heap.size, 0, none⟩) 0 0) [] (by go_simp) (Gath.start (Fr.refl _ _)) a len cap (by go_simp) (b) (((HS.out _ F0.out)).oldF ((Fr.refl _ _).alloc _)) HL.out (by simp only [List.length_nil]; omega) ?_; intro ag ng dg wg Ng Gg Fg; have AG : Hid (wg.heap[w.heap.size]? = some (.cells #[.int .i64 9, .int .i64 fl, .int .i64 st, .slice none 0 0, .int .i64 (x : Int), .int .u32 0, .int .i64 0, .int .i64 0, .int .i64 0, .bool false, .int .i64 0, .slice none 0 0] 36 (0, 0))) := (Gg.2.2.block _ (lt_of_heap A0.out) id).trans A0.out; have FG : Hid (Fr (fun k => k = w.heap.size) W wg) := F0.out.trans (Gg.2.2.mono (fun _ _ e => e.elim)); clear c0 c1 c2 c3 c4 c5 c6 c7 c8 c9 c10 c11; obtain ⟨c0, c1, c2, c3, c4, c5, c6, c7, c8, c9, c10, c11⟩ := cells12 AG.out; have zg : wg.frozen? ⟨w.heap.size, 3, none⟩ = false := frozen_of_heap AG.out; have FG2 : Hid (Fr (fun k => k = w.heap.size) W (wg.setCell ⟨w.heap.size, 3, none⟩ (.slice ag ng dg))) := FG.out.setB _ _)
    | (refine wpList_storeB rfl 36 (.tmp 4) (.tmp 124) rfl (w.heap.size + 1) #[.int .i64 0, .int .i64 0, .int .i64 0, .slice none 0 0, .int .i64 0, .int .u32 0, .int .i64 0, .int .i64 0, .int .i64 0, .bool false, .int .i64 0, .slice none 0 0] #[.int .i64 9, .int .i64 fl, .int .i64 st, .slice ag ng dg, .int .i64 (x : Int), .int .u32 0, .int .i64 0, .int .i64 0, .int .i64 0, .bool false, .int .i64 0, .slice none 0 0] 36 rfl rfl (HRES.out _ FG2.out).1 rfl (by kernel_rfl) (by simp [Value.oneCell']) ?_; intro w4 H4 F4)
    | (refine wpList_storeB rfl 38 (.tmp 5) (.tmp 125) rfl (w.heap.size + 2) #[.bool false, .int .i64 0, .int .i64 0] #[.bool false, .int .i64 0, .int .i64 0] 38 rfl rfl ((F4.out.block _ (lt_of_heap (HRES.out _ FG2.out).2) (by omega)).trans (HRES.out _ FG2.out).2) rfl (by kernel_rfl) (by simp [Value.oneCell']) ?_; intro w5 H5 F5)
  obtain ⟨r0, r1, r2, r3, r4, r5, r6, r7, r8, r9, r10, r11⟩ := cells12 ((F5.out.block _ (lt_of_heap H4.out) (by omega)).trans H4.out)
  obtain ⟨s0, s1, s2⟩ := cells3 H5.out
  have FALL : Fr (fun k => k = w.heap.size + 1 ∨ k = w.heap.size + 2) (wg.setCell ⟨w.heap.size, 3, none⟩ (.slice ag ng dg)) w5 := (F4.out.mono (fun _ _ e => .inl e)).trans (F5.out.mono (fun _ _ e => .inr e))
  refine bodyPost_ret (v := .tuple #[.agg #[.int .i64 9, .int .i64 fl, .int .i64 st, .slice ag ng dg, .int .i64 (x : Int), .int .u32 0, .int .i64 0, .int .i64 0, .int .i64 0, .bool false, .int .i64 0, .slice none 0 0], .agg #[.bool false, .int .i64 0, .int .i64 0]]) (by simp [results, Try.results37, go_sem, r0, r1, r2, r3, r4, r5, r6, r7, r8, r9, r10, r11, s0, s1, s2]) rfl ?_
  have FEND : Fr (fun _ => False) w w5 := ((((HFW.out.mono (T := fun k => w.heap.size ≤ k) (fun _ _ e => e.elim)).trans (FG2.out.mono (fun k _ e => by omega))).trans (FALL.mono (fun k _ e => by omega)))).mono (fun k hk e => by omega)
  have hge : ∀ ad, ag = some ad → w.heap.size + 3 ≤ ad.block := fun ad e => Nat.le_trans (by have h1 := F0.out.size; have h2 := lt_of_heap (HRES.out _ F0.out).2; omega) (Gg.new ad e)
  have hng : ng = (b).length := by rw [Ng.out, HL.out]; simp
  refine ⟨ag, dg, none, 0, ?_, ?_, SetsAt.nil _, (fun ad e _ => by have := hge ad e; omega), (fun ad e => by cases e), FEND⟩
  · rw [hng]; rfl
  · have hsrc : SrcAt wg ag (b) := own_src Gg.1
    refine (hsrc.fr ((Fr.refl (fun k => k = w.heap.size) wg).setB 3 (.slice ag ng dg)) (fun ad e _ e2 => by have := hge ad e; omega)).fr FALL (fun ad e _ e2 => by have := hge ad e; omega)

theorem fd_1 (fl st : Int) (x : Nat) (a : Option Addr) (len cap : Nat) (b : List UInt8) (w : World) (h0 : 0 ≤ fl) (h1 : fl ≤ 255) (hs : SrcAt w a b) (hl : b.length = len) (hc : len ≤ cap) (hm : len ≤ 16777215) (hq : has fl 32 = false) :
    Calls Try.prog 37 #[.agg #[.int .i64 1, .int .i64 fl, .int .i64 st, .slice none 0 0, .int .i64 (x : Int), .int .u32 0, .int .i64 0, .int .i64 0, .int .i64 0, .bool false, .int .i64 0, .slice none 0 0], .slice a len cap] w fun e w' => RdAs w (⟨1, fl, st, b, x, 0, 0, 0, 0, false, 0, []⟩, ⟨false, 0, 0⟩) e w' := by
  obtain ⟨W, hW⟩ : ∃ W, W = ((w.alloc (.cells #[.int .i64 1, .int .i64 fl, .int .i64 st, .slice none 0 0, .int .i64 (x : Int), .int .u32 0, .int .i64 0, .int .i64 0, .int .i64 0, .bool false, .int .i64 0, .slice none 0 0] 36)).alloc (.cells #[.int .i64 0, .int .i64 0, .int .i64 0, .slice none 0 0, .int .i64 0, .int .u32 0, .int .i64 0, .int .i64 0, .int .i64 0, .bool false, .int .i64 0, .slice none 0 0] 36)).alloc (.cells #[.bool false, .int .i64 0, .int .i64 0] 38) := ⟨_, rfl⟩
  have HFW : Hid (Fr (fun _ => False) w W) := by rw [hW]; exact (((Fr.refl _ _).alloc _).alloc _).alloc _
  have A0 : Hid (W.heap[w.heap.size]? = some (.cells #[.int .i64 1, .int .i64 fl, .int .i64 st, .slice none 0 0, .int .i64 (x : Int), .int .u32 0, .int .i64 0, .int .i64 0, .int .i64 0, .bool false, .int .i64 0, .slice none 0 0] 36 (0, 0))) := by rw [hW]; exact past_at _ (past_at _ (heap_alloc_new w _))
  have hr1 : W.heap[w.heap.size + 1]? = some (.cells #[.int .i64 0, .int .i64 0, .int .i64 0, .slice none 0 0, .int .i64 0, .int .u32 0, .int .i64 0, .int .i64 0, .int .i64 0, .bool false, .int .i64 0, .slice none 0 0] 36 (0, 0)) := by rw [hW]; exact past_at _ (last_at _ (by simp))
  have hr2 : W.heap[w.heap.size + 2]? = some (.cells #[.bool false, .int .i64 0, .int .i64 0] 38 (0, 0)) := by rw [hW]; exact last_at _ (by simp)
  have HRES : Hid (∀ w', Fr (fun k => k = w.heap.size) W w' → w'.heap[w.heap.size + 1]? = some (.cells #[.int .i64 0, .int .i64 0, .int .i64 0, .slice none 0 0, .int .i64 0, .int .u32 0, .int .i64 0, .int .i64 0, .int .i64 0, .bool false, .int .i64 0, .slice none 0 0] 36 (0, 0)) ∧ w'.heap[w.heap.size + 2]? = some (.cells #[.bool false, .int .i64 0, .int .i64 0] 38 (0, 0))) := fun w' hf => ⟨(hf.block _ (lt_of_heap hr1) (by omega)).trans hr1, (hf.block _ (lt_of_heap hr2) (by omega)).trans hr2⟩
  have HS : Hid (∀ w', Fr (fun k => k = w.heap.size) W w' → SrcAt w' a b) := fun w' hf => src_ge hs ((HFW.out.mono (T := fun k => w.heap.size ≤ k) (fun _ _ e => e.elim)).trans (hf.mono (fun k _ e => by omega)))
  have HL : Hid (b.length = len) := hl
  obtain ⟨c0, c1, c2, c3, c4, c5, c6, c7, c8, c9, c10, c11⟩ := cells12 A0.out
  have K5 : ∀ w, Calls Try.prog 41 #[.int .i64 1, .int .i64 fl] w fun e w' => e = .returned (.bool false) ∧ w = w' := fun w => by have h := prio_in 1 fl w h0 h1; rwa [show prioB 1 fl = false by rw [← hq]; simp [prioB]] at h
  have F0 : Hid (Fr (fun k => k = w.heap.size) W W) := Fr.refl _ _
  obtain ⟨j, J1, J2, J3, J4⟩ := info5
  have J1 : Hid _ := J1
  have J2 : Hid _ := J2
  have J3 : Hid _ := J3
  have J4 : Hid _ := J4
  clear hs hl hr1 hr2
  go_enter Try.func37, Try.ntmps37
  go_wp2_with (fail)
  rw [← hW]
  clear hW
  go_wp2_with first
    | (go_at_call 41; refine (K5 _).mono ?_; rintro e w' ⟨rfl, rfl⟩)
    | (refine wpList_gather (w0 := W) rfl (.tmp 120) (.tmp 121) 31 31 rfl j Try.underlying31 Try.underlying31 J1.out J2.out J3.out J4.out (.slice (some ⟨W.heap.size, 0, none⟩) 0 0) [] (by go_simp) (Gath.start (Fr.refl _ _)) a len cap (by go_simp) (b) (((HS.out _ F0.out)).oldF ((Fr.refl _ _).alloc _)) HL.out (by simp only [List.length_nil]; omega) ?_; intro ag ng dg wg Ng Gg Fg; have AG : Hid (wg.heap[w.heap.size]? = some (.cells #[.int .i64 1, .int .i64 fl, .int .i64 st, .slice none 0 0, .int .i64 (x : Int), .int .u32 0, .int .i64 0, .int .i64 0, .int .i64 0, .bool false, .int .i64 0, .slice none 0 0] 36 (0, 0))) := (Gg.2.2.block _ (lt_of_heap A0.out) id).trans A0.out; have FG : Hid (Fr (fun k => k = w.heap.size) W wg) := F0.out.trans (Gg.2.2.mono (fun _ _ e => e.elim)); clear c0 c1 c2 c3 c4 c5 c6 c7 c8 c9 c10 c11; obtain ⟨c0, c1, c2, c3, c4, c5, c6, c7, c8, c9, c10, c11⟩ := cells12 AG.out; have zg : wg.frozen? ⟨w.heap.size, 3, none⟩ = false := frozen_of_heap AG.out; have FG2 : Hid (Fr (fun k => k = w.heap.size) W (wg.setCell ⟨w.heap.size, 3, none⟩ (.slice ag ng dg))) := FG.out.setB _ _)
    | (refine wpList_storeB rfl 36 (.tmp 4) (.tmp 124) rfl (w.heap.size + 1) #[.int .i64 0, .int .i64 0, .int .i64 0, .slice none 0 0, .int .i64 0, .int .u32 0, .int .i64 0, .int .i64 0, .int .i64 0, .bool false, .int .i64 0, .slice none 0 0] #[.int .i64 1, .int .i64 fl, .int .i64 st, .slice ag ng dg, .int .i64 (x : Int), .int .u32 0, .int .i64 0, .int .i64 0, .int .i64 0, .bool false, .int .i64 0, .slice none 0 0] 36 rfl rfl (HRES.out _ FG2.out).1 rfl (by kernel_rfl) (by simp [Value.oneCell']) ?_; intro w4 H4 F4)
    | (refine wpList_storeB rfl 38 (.tmp 5) (.tmp 125) rfl (w.heap.size + 2) #[.bool false, .int .i64 0, .int .i64 0] #[.bool false, .int .i64 0, .int .i64 0] 38 rfl rfl ((F4.out.block _ (lt_of_heap (HRES.out _ FG2.out).2) (by omega)).trans (HRES.out _ FG2.out).2) rfl (by kernel_rfl) (by simp [Value.oneCell']) ?_; intro w5 H5 F5)
  obtain ⟨r0, r1, r2, r3, r4, r5, r6, r7, r8, r9, r10, r11⟩ := cells12 ((F5.out.block _ (lt_of_heap H4.out) (by omega)).trans H4.out)
  obtain ⟨s0, s1, s2⟩ := cells3 H5.out
  have FALL : Fr (fun k => k = w.heap.size + 1 ∨ k = w.heap.size + 2) (wg.setCell ⟨w.heap.size, 3, none⟩ (.slice ag ng dg)) w5 := (F4.out.mono (fun _ _ e => .inl e)).trans (F5.out.mono (fun _ _ e => .inr e))
  refine bodyPost_ret (v := .tuple #[.agg #[.int .i64 1, .int .i64 fl, .int .i64 st, .slice ag ng dg, .int .i64 (x : Int), .int .u32 0, .int .i64 0, .int .i64 0, .int .i64 0, .bool false, .int .i64 0, .slice none 0 0], .agg #[.bool false, .int .i64 0, .int .i64 0]]) (by simp [results, Try.results37, go_sem, r0, r1, r2, r3, r4, r5, r6, r7, r8, r9, r10, r11, s0, s1, s2]) rfl ?_
  have FEND : Fr (fun _ => False) w w5 := ((((HFW.out.mono (T := fun k => w.heap.size ≤ k) (fun _ _ e => e.elim)).trans (FG2.out.mono (fun k _ e => by omega))).trans (FALL.mono (fun k _ e => by omega)))).mono (fun k hk e => by omega)
  have hge : ∀ ad, ag = some ad → w.heap.size + 3 ≤ ad.block := fun ad e => Nat.le_trans (by have h1 := F0.out.size; have h2 := lt_of_heap (HRES.out _ F0.out).2; omega) (Gg.new ad e)
  have hng : ng = (b).length := by rw [Ng.out, HL.out]; simp
  refine ⟨ag, dg, none, 0, ?_, ?_, SetsAt.nil _, (fun ad e _ => by have := hge ad e; omega), (fun ad e => by cases e), FEND⟩
  · rw [hng]; rfl
  · have hsrc : SrcAt wg ag (b) := own_src Gg.1
    refine (hsrc.fr ((Fr.refl (fun k => k = w.heap.size) wg).setB 3 (.slice ag ng dg)) (fun ad e _ e2 => by have := hge ad e; omega)).fr FALL (fun ad e _ e2 => by have := hge ad e; omega)

end Go.Proofs.Ytikaefjhmgcidaa
