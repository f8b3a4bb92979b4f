/- A frame's parts, by the document: without padding. -/
import Derived.Test.YtikaefjhmgcidaaZMRk
namespace Go.Proofs.Ytikaefjhmgcidaa
open Go.RowKit
set_option linter.unusedVariables false
set_option maxRecDepth 100000
set_option maxHeartbeats 4000000

theorem pt_k (k fl st : Int) (a : Option Addr) (len cap : Nat) (b : List UInt8) (w : World) (h0 : 0 ≤ fl) (h1 : fl ≤ 255) (hs : SrcAt w a b) (hl : b.length = len) (hc : len ≤ cap) (hm : len ≤ 16777215) (hc0 : canP k = false) (hk1 : (k == 1) = false) (hk5 : (k == 5) = false) :
    Calls Try.prog 36 #[.agg #[.int .i64 k, .int .i64 fl, .int .i64 st, .slice none 0 0, .int .i64 0, .int .u32 0, .int .i64 0, .int .i64 0, .int .i64 0, .bool false, .int .i64 0, .slice none 0 0], .slice a len cap] w fun e w' => PtAs w k fl st 0 0 (b) e w' := by
  obtain ⟨W, hW⟩ : ∃ W, W = ((w.alloc (.cells #[.int .i64 k, .int .i64 fl, .int .i64 st, .slice none 0 0, .int .i64 0, .int .u32 0, .int .i64 0, .int .i64 0, .int .i64 0, .bool false, .int .i64 0, .slice none 0 0] 36)).alloc (.cells #[.int .i64 0, .int .i64 0, .int .i64 0, .slice none 0 0, .int .i64 0, .int .u32 0, .int .i64 0, .int .i64 0, .int .i64 0, .bool false, .int .i64 0, .slice none 0 0] 36)).alloc (.cells #[.bool false, .int .i64 0, .int .i64 0] 38) := ⟨_, rfl⟩
  have HFW : Hid (Fr (fun _ => False) w W) := by rw [hW]; exact (((Fr.refl _ _).alloc _).alloc _).alloc _
  have A0 : Hid (W.heap[w.heap.size]? = some (.cells #[.int .i64 k, .int .i64 fl, .int .i64 st, .slice none 0 0, .int .i64 0, .int .u32 0, .int .i64 0, .int .i64 0, .int .i64 0, .bool false, .int .i64 0, .slice none 0 0] 36 (0, 0))) := by rw [hW]; exact past_at _ (past_at _ (heap_alloc_new w _))
  have hr1 : W.heap[w.heap.size + 1]? = some (.cells #[.int .i64 0, .int .i64 0, .int .i64 0, .slice none 0 0, .int .i64 0, .int .u32 0, .int .i64 0, .int .i64 0, .int .i64 0, .bool false, .int .i64 0, .slice none 0 0] 36 (0, 0)) := by rw [hW]; exact past_at _ (last_at _ (by simp))
  have hr2 : W.heap[w.heap.size + 2]? = some (.cells #[.bool false, .int .i64 0, .int .i64 0] 38 (0, 0)) := by rw [hW]; exact last_at _ (by simp)
  have HRES : Hid (∀ w', Fr (fun k => k = w.heap.size) W w' → w'.heap[w.heap.size + 1]? = some (.cells #[.int .i64 0, .int .i64 0, .int .i64 0, .slice none 0 0, .int .i64 0, .int .u32 0, .int .i64 0, .int .i64 0, .int .i64 0, .bool false, .int .i64 0, .slice none 0 0] 36 (0, 0)) ∧ w'.heap[w.heap.size + 2]? = some (.cells #[.bool false, .int .i64 0, .int .i64 0] 38 (0, 0))) := fun w' hf => ⟨(hf.block _ (lt_of_heap hr1) (by omega)).trans hr1, (hf.block _ (lt_of_heap hr2) (by omega)).trans hr2⟩
  have K3 : ∀ w, Calls Try.prog 39 #[.int .i64 k] w fun e w' => e = .returned (.bool false) ∧ w = w' := fun w => by have h := rpadded_in k w; rwa [hc0] at h
  have K4 : ∀ w, Calls Try.prog 40 #[.int .i64 fl, .int .i64 8] w fun e w' => e = .returned (.bool (has fl 8)) ∧ w = w' := fun w => by have h := has_in fl 8 w (by omega) h0 h1; exact h
  have HS : Hid (SrcAt w a b) := hs
  have HL : Hid (b.length = len) := hl
  obtain ⟨c0, c1, c2, c3, c4, c5, c6, c7, c8, c9, c10, c11⟩ := cells12 A0.out
  have A1 : Hid (W.heap[w.heap.size]? = some (.cells #[.int .i64 k, .int .i64 fl, .int .i64 st, .slice none 0 0, .int .i64 0, .int .u32 0, .int .i64 0, .int .i64 0, .int .i64 0, .bool false, .int .i64 0, .slice none 0 0] 36 (0, 0))) := A0.out
  have F1 : Hid (Fr (fun k => k = w.heap.size) W W) := Fr.refl _ _
  clear hs hl hr1 hr2
  have hone3 : (#[.bool false, .int .i64 0, .int .i64 0] : Array Value).all (·.oneCell') = true := by simp [Value.oneCell']
  go_enter Try.func36, Try.ntmps36
  go_wp2_with (fail)
  rw [← hW]
  clear hW
  go_wp2_with first
    | (go_at_call 39; refine (K3 _).mono ?_; rintro e w' ⟨rfl, rfl⟩)
    | (go_at_call 40; refine (K4 _).mono ?_; rintro e w' ⟨rfl, rfl⟩)
    | (refine wpList_storeB rfl 36 (.tmp 4) (.tmp 78) rfl (w.heap.size + 1) #[.int .i64 0, .int .i64 0, .int .i64 0, .slice none 0 0, .int .i64 0, .int .u32 0, .int .i64 0, .int .i64 0, .int .i64 0, .bool false, .int .i64 0, .slice none 0 0] #[.int .i64 k, .int .i64 fl, .int .i64 st, .slice none 0 0, .int .i64 0, .int .u32 0, .int .i64 0, .int .i64 0, .int .i64 0, .bool false, .int .i64 0, .slice none 0 0] 36 rfl rfl (HRES.out _ F1.out).1 rfl (by kernel_rfl) (by simp [Value.oneCell']) ?_; intro w4 H4 F4)
    | (refine wpList_storeB rfl 38 (.tmp 6) (.tmp 80) rfl (w.heap.size + 2) #[.bool false, .int .i64 0, .int .i64 0] #[.bool false, .int .i64 0, .int .i64 0] 38 rfl rfl ((F4.out.block _ (lt_of_heap (HRES.out _ F1.out).2) (by omega)).trans (HRES.out _ F1.out).2) rfl (by kernel_rfl) hone3 ?_; intro w5 H5 F5)
  have F3 := F1
  obtain ⟨r0, r1, r2, r3, r4, r5, r6, r7, r8, r9, r10, r11⟩ := cells12 ((F5.out.block _ (lt_of_heap H4.out) (by omega)).trans H4.out)
  obtain ⟨s0, s1, s2⟩ := cells3 H5.out
  refine bodyPost_ret (v := .tuple #[.agg #[.int .i64 k, .int .i64 fl, .int .i64 st, .slice none 0 0, .int .i64 0, .int .u32 0, .int .i64 0, .int .i64 0, .int .i64 0, .bool false, .int .i64 0, .slice none 0 0], .slice a len cap, .agg #[.bool false, .int .i64 0, .int .i64 0]]) (by simp [results, Try.results36, go_sem, r0, r1, r2, r3, r4, r5, r6, r7, r8, r9, r10, r11, s0, s1, s2]) rfl ?_
  refine ⟨a, len, cap, rfl, ?_, fun _ => ⟨HS.out.oldF (((((HFW.out.mono (T := fun k => w.heap.size ≤ k) (fun _ _ e => e.elim)).trans (F3.out.mono (fun k _ e => by omega))).trans (F4.out.mono (fun k _ e => by omega))).trans (F5.out.mono (fun k _ e => by omega))).mono (fun k hk e => by omega)), HL.out, hc⟩⟩
  exact ((((HFW.out.mono (T := fun k => w.heap.size ≤ k) (fun _ _ e => e.elim)).trans (F3.out.mono (fun k _ e => by omega))).trans (F4.out.mono (fun k _ e => by omega))).trans (F5.out.mono (fun k _ e => by omega))).mono (fun k hk e => by omega)

theorem pt_0n (fl st : Int) (a : Option Addr) (len cap : Nat) (b : List UInt8) (w : World) (h0 : 0 ≤ fl) (h1 : fl ≤ 255) (hs : SrcAt w a b) (hl : b.length = len) (hc : len ≤ cap) (hm : len ≤ 16777215) (h8 : has fl 8 = false) :
    Calls Try.prog 36 #[.agg #[.int .i64 0, .int .i64 fl, .int .i64 st, .slice none 0 0, .int .i64 0, .int .u32 0, .int .i64 0, .int .i64 0, .int .i64 0, .bool false, .int .i64 0, .slice none 0 0], .slice a len cap] w fun e w' => PtAs w 0 fl st 0 0 (b) e w' := by
  obtain ⟨W, hW⟩ : ∃ W, W = ((w.alloc (.cells #[.int .i64 0, .int .i64 fl, .int .i64 st, .slice none 0 0, .int .i64 0, .int .u32 0, .int .i64 0, .int .i64 0, .int .i64 0, .bool false, .int .i64 0, .slice none 0 0] 36)).alloc (.cells #[.int .i64 0, .int .i64 0, .int .i64 0, .slice none 0 0, .int .i64 0, .int .u32 0, .int .i64 0, .int .i64 0, .int .i64 0, .bool false, .int .i64 0, .slice none 0 0] 36)).alloc (.cells #[.bool false, .int .i64 0, .int .i64 0] 38) := ⟨_, rfl⟩
  have HFW : Hid (Fr (fun _ => False) w W) := by rw [hW]; exact (((Fr.refl _ _).alloc _).alloc _).alloc _
  have A0 : Hid (W.heap[w.heap.size]? = some (.cells #[.int .i64 0, .int .i64 fl, .int .i64 st, .slice none 0 0, .int .i64 0, .int .u32 0, .int .i64 0, .int .i64 0, .int .i64 0, .bool false, .int .i64 0, .slice none 0 0] 36 (0, 0))) := by rw [hW]; exact past_at _ (past_at _ (heap_alloc_new w _))
  have hr1 : W.heap[w.heap.size + 1]? = some (.cells #[.int .i64 0, .int .i64 0, .int .i64 0, .slice none 0 0, .int .i64 0, .int .u32 0, .int .i64 0, .int .i64 0, .int .i64 0, .bool false, .int .i64 0, .slice none 0 0] 36 (0, 0)) := by rw [hW]; exact past_at _ (last_at _ (by simp))
  have hr2 : W.heap[w.heap.size + 2]? = some (.cells #[.bool false, .int .i64 0, .int .i64 0] 38 (0, 0)) := by rw [hW]; exact last_at _ (by simp)
  have HRES : Hid (∀ w', Fr (fun k => k = w.heap.size) W w' → w'.heap[w.heap.size + 1]? = some (.cells #[.int .i64 0, .int .i64 0, .int .i64 0, .slice none 0 0, .int .i64 0, .int .u32 0, .int .i64 0, .int .i64 0, .int .i64 0, .bool false, .int .i64 0, .slice none 0 0] 36 (0, 0)) ∧ w'.heap[w.heap.size + 2]? = some (.cells #[.bool false, .int .i64 0, .int .i64 0] 38 (0, 0))) := fun w' hf => ⟨(hf.block _ (lt_of_heap hr1) (by omega)).trans hr1, (hf.block _ (lt_of_heap hr2) (by omega)).trans hr2⟩
  have K3 : ∀ w, Calls Try.prog 39 #[.int .i64 0] w fun e w' => e = .returned (.bool true) ∧ w = w' := fun w => by have h := rpadded_in 0 w; rwa [show canP 0 = true by decide] at h
  have K4 : ∀ w, Calls Try.prog 40 #[.int .i64 fl, .int .i64 8] w fun e w' => e = .returned (.bool false) ∧ w = w' := fun w => by have h := has_in fl 8 w (by omega) h0 h1; rw [← h8]; exact h
  have HS : Hid (SrcAt w a b) := hs
  have HL : Hid (b.length = len) := hl
  obtain ⟨c0, c1, c2, c3, c4, c5, c6, c7, c8, c9, c10, c11⟩ := cells12 A0.out
  have A1 : Hid (W.heap[w.heap.size]? = some (.cells #[.int .i64 0, .int .i64 fl, .int .i64 st, .slice none 0 0, .int .i64 0, .int .u32 0, .int .i64 0, .int .i64 0, .int .i64 0, .bool false, .int .i64 0, .slice none 0 0] 36 (0, 0))) := A0.out
  have F1 : Hid (Fr (fun k => k = w.heap.size) W W) := Fr.refl _ _
  clear hs hl hr1 hr2
  have hone3 : (#[.bool false, .int .i64 0, .int .i64 0] : Array Value).all (·.oneCell') = true := by simp [Value.oneCell']
  go_enter Try.func36, Try.ntmps36
  go_wp2_with (fail)
  rw [← hW]
  clear hW
  go_wp2_with first
    | (go_at_call 39; refine (K3 _).mono ?_; rintro e w' ⟨rfl, rfl⟩)
    | (go_at_call 40; refine (K4 _).mono ?_; rintro e w' ⟨rfl, rfl⟩)
    | (refine wpList_storeB rfl 36 (.tmp 4) (.tmp 78) rfl (w.heap.size + 1) #[.int .i64 0, .int .i64 0, .int .i64 0, .slice none 0 0, .int .i64 0, .int .u32 0, .int .i64 0, .int .i64 0, .int .i64 0, .bool false, .int .i64 0, .slice none 0 0] #[.int .i64 0, .int .i64 fl, .int .i64 st, .slice none 0 0, .int .i64 0, .int .u32 0, .int .i64 0, .int .i64 0, .int .i64 0, .bool false, .int .i64 0, .slice none 0 0] 36 rfl rfl (HRES.out _ F1.out).1 rfl (by kernel_rfl) (by simp [Value.oneCell']) ?_; intro w4 H4 F4)
    | (refine wpList_storeB rfl 38 (.tmp 6) (.tmp 80) rfl (w.heap.size + 2) #[.bool false, .int .i64 0, .int .i64 0] #[.bool false, .int .i64 0, .int .i64 0] 38 rfl rfl ((F4.out.block _ (lt_of_heap (HRES.out _ F1.out).2) (by omega)).trans (HRES.out _ F1.out).2) rfl (by kernel_rfl) hone3 ?_; intro w5 H5 F5)
  have F3 := F1
  obtain ⟨r0, r1, r2, r3, r4, r5, r6, r7, r8, r9, r10, r11⟩ := cells12 ((F5.out.block _ (lt_of_heap H4.out) (by omega)).trans H4.out)
  obtain ⟨s0, s1, s2⟩ := cells3 H5.out
  refine bodyPost_ret (v := .tuple #[.agg #[.int .i64 0, .int .i64 fl, .int .i64 st, .slice none 0 0, .int .i64 0, .int .u32 0, .int .i64 0, .int .i64 0, .int .i64 0, .bool false, .int .i64 0, .slice none 0 0], .slice a len cap, .agg #[.bool false, .int .i64 0, .int .i64 0]]) (by simp [results, Try.results36, go_sem, r0, r1, r2, r3, r4, r5, r6, r7, r8, r9, r10, r11, s0, s1, s2]) rfl ?_
  refine ⟨a, len, cap, rfl, ?_, fun _ => ⟨HS.out.oldF (((((HFW.out.mono (T := fun k => w.heap.size ≤ k) (fun _ _ e => e.elim)).trans (F3.out.mono (fun k _ e => by omega))).trans (F4.out.mono (fun k _ e => by omega))).trans (F5.out.mono (fun k _ e => by omega))).mono (fun k hk e => by omega)), HL.out, hc⟩⟩
  exact ((((HFW.out.mono (T := fun k => w.heap.size ≤ k) (fun _ _ e => e.elim)).trans (F3.out.mono (fun k _ e => by omega))).trans (F4.out.mono (fun k _ e => by omega))).trans (F5.out.mono (fun k _ e => by omega))).mono (fun k hk e => by omega)

theorem pt_1n (fl st : Int) (a : Option Addr) (len cap : Nat) (b : List UInt8) (w : World) (h0 : 0 ≤ fl) (h1 : fl ≤ 255) (hs : SrcAt w a b) (hl : b.length = len) (hc : len ≤ cap) (hm : len ≤ 16777215) (h8 : has fl 8 = false) (hq : has fl 32 = false) :
    Calls Try.prog 36 #[.agg #[.int .i64 1, .int .i64 fl, .int .i64 st, .slice none 0 0, .int .i64 0, .int .u32 0, .int .i64 0, .int .i64 0, .int .i64 0, .bool false, .int .i64 0, .slice none 0 0], .slice a len cap] w fun e w' => PtAs w 1 fl st 0 0 (b) e w' := by
  obtain ⟨W, hW⟩ : ∃ W, W = ((w.alloc (.cells #[.int .i64 1, .int .i64 fl, .int .i64 st, .slice none 0 0, .int .i64 0, .int .u32 0, .int .i64 0, .int .i64 0, .int .i64 0, .bool false, .int .i64 0, .slice none 0 0] 36)).alloc (.cells #[.int .i64 0, .int .i64 0, .int .i64 0, .slice none 0 0, .int .i64 0, .int .u32 0, .int .i64 0, .int .i64 0, .int .i64 0, .bool false, .int .i64 0, .slice none 0 0] 36)).alloc (.cells #[.bool false, .int .i64 0, .int .i64 0] 38) := ⟨_, rfl⟩
  have HFW : Hid (Fr (fun _ => False) w W) := by rw [hW]; exact (((Fr.refl _ _).alloc _).alloc _).alloc _
  have A0 : Hid (W.heap[w.heap.size]? = some (.cells #[.int .i64 1, .int .i64 fl, .int .i64 st, .slice none 0 0, .int .i64 0, .int .u32 0, .int .i64 0, .int .i64 0, .int .i64 0, .bool false, .int .i64 0, .slice none 0 0] 36 (0, 0))) := by rw [hW]; exact past_at _ (past_at _ (heap_alloc_new w _))
  have hr1 : W.heap[w.heap.size + 1]? = some (.cells #[.int .i64 0, .int .i64 0, .int .i64 0, .slice none 0 0, .int .i64 0, .int .u32 0, .int .i64 0, .int .i64 0, .int .i64 0, .bool false, .int .i64 0, .slice none 0 0] 36 (0, 0)) := by rw [hW]; exact past_at _ (last_at _ (by simp))
  have hr2 : W.heap[w.heap.size + 2]? = some (.cells #[.bool false, .int .i64 0, .int .i64 0] 38 (0, 0)) := by rw [hW]; exact last_at _ (by simp)
  have HRES : Hid (∀ w', Fr (fun k => k = w.heap.size) W w' → w'.heap[w.heap.size + 1]? = some (.cells #[.int .i64 0, .int .i64 0, .int .i64 0, .slice none 0 0, .int .i64 0, .int .u32 0, .int .i64 0, .int .i64 0, .int .i64 0, .bool false, .int .i64 0, .slice none 0 0] 36 (0, 0)) ∧ w'.heap[w.heap.size + 2]? = some (.cells #[.bool false, .int .i64 0, .int .i64 0] 38 (0, 0))) := fun w' hf => ⟨(hf.block _ (lt_of_heap hr1) (by omega)).trans hr1, (hf.block _ (lt_of_heap hr2) (by omega)).trans hr2⟩
  have K3 : ∀ w, Calls Try.prog 39 #[.int .i64 1] w fun e w' => e = .returned (.bool true) ∧ w = w' := fun w => by have h := rpadded_in 1 w; rwa [show canP 1 = true by decide] at h
  have K4 : ∀ w, Calls Try.prog 40 #[.int .i64 fl, .int .i64 8] w fun e w' => e = .returned (.bool false) ∧ w = w' := fun w => by have h := has_in fl 8 w (by omega) h0 h1; rw [← h8]; exact h
  have K5 : ∀ w, Calls Try.prog 41 #[.int .i64 1, .int .i64 fl] w fun e w' => e = .returned (.bool false) ∧ w = w' := fun w => by have h := prio_in 1 fl w h0 h1; rwa [show prioB 1 fl = false by rw [← hq]; simp [prioB]] at h
  have HS : Hid (SrcAt w a b) := hs
  have HL : Hid (b.length = len) := hl
  obtain ⟨c0, c1, c2, c3, c4, c5, c6, c7, c8, c9, c10, c11⟩ := cells12 A0.out
  have A1 : Hid (W.heap[w.heap.size]? = some (.cells #[.int .i64 1, .int .i64 fl, .int .i64 st, .slice none 0 0, .int .i64 0, .int .u32 0, .int .i64 0, .int .i64 0, .int .i64 0, .bool false, .int .i64 0, .slice none 0 0] 36 (0, 0))) := A0.out
  have F1 : Hid (Fr (fun k => k = w.heap.size) W W) := Fr.refl _ _
  clear hs hl hr1 hr2
  have hone3 : (#[.bool false, .int .i64 0, .int .i64 0] : Array Value).all (·.oneCell') = true := by simp [Value.oneCell']
  go_enter Try.func36, Try.ntmps36
  go_wp2_with (fail)
  rw [← hW]
  clear hW
  go_wp2_with first
    | (go_at_call 39; refine (K3 _).mono ?_; rintro e w' ⟨rfl, rfl⟩)
    | (go_at_call 40; refine (K4 _).mono ?_; rintro e w' ⟨rfl, rfl⟩)
    | (go_at_call 41; refine (K5 _).mono ?_; rintro e w' ⟨rfl, rfl⟩)
    | (refine wpList_storeB rfl 36 (.tmp 4) (.tmp 78) rfl (w.heap.size + 1) #[.int .i64 0, .int .i64 0, .int .i64 0, .slice none 0 0, .int .i64 0, .int .u32 0, .int .i64 0, .int .i64 0, .int .i64 0, .bool false, .int .i64 0, .slice none 0 0] #[.int .i64 1, .int .i64 fl, .int .i64 st, .slice none 0 0, .int .i64 0, .int .u32 0, .int .i64 0, .int .i64 0, .int .i64 0, .bool false, .int .i64 0, .slice none 0 0] 36 rfl rfl (HRES.out _ F1.out).1 rfl (by kernel_rfl) (by simp [Value.oneCell']) ?_; intro w4 H4 F4)
    | (refine wpList_storeB rfl 38 (.tmp 6) (.tmp 80) rfl (w.heap.size + 2) #[.bool false, .int .i64 0, .int .i64 0] #[.bool false, .int .i64 0, .int .i64 0] 38 rfl rfl ((F4.out.block _ (lt_of_heap (HRES.out _ F1.out).2) (by omega)).trans (HRES.out _ F1.out).2) rfl (by kernel_rfl) hone3 ?_; intro w5 H5 F5)
  have F3 := F1
  obtain ⟨r0, r1, r2, r3, r4, r5, r6, r7, r8, r9, r10, r11⟩ := cells12 ((F5.out.block _ (lt_of_heap H4.out) (by omega)).trans H4.out)
  obtain ⟨s0, s1, s2⟩ := cells3 H5.out
  refine bodyPost_ret (v := .tuple #[.agg #[.int .i64 1, .int .i64 fl, .int .i64 st, .slice none 0 0, .int .i64 0, .int .u32 0, .int .i64 0, .int .i64 0, .int .i64 0, .bool false, .int .i64 0, .slice none 0 0], .slice a len cap, .agg #[.bool false, .int .i64 0, .int .i64 0]]) (by simp [results, Try.results36, go_sem, r0, r1, r2, r3, r4, r5, r6, r7, r8, r9, r10, r11, s0, s1, s2]) rfl ?_
  refine ⟨a, len, cap, rfl, ?_, fun _ => ⟨HS.out.oldF (((((HFW.out.mono (T := fun k => w.heap.size ≤ k) (fun _ _ e => e.elim)).trans (F3.out.mono (fun k _ e => by omega))).trans (F4.out.mono (fun k _ e => by omega))).trans (F5.out.mono (fun k _ e => by omega))).mono (fun k hk e => by omega)), HL.out, hc⟩⟩
  exact ((((HFW.out.mono (T := fun k => w.heap.size ≤ k) (fun _ _ e => e.elim)).trans (F3.out.mono (fun k _ e => by omega))).trans (F4.out.mono (fun k _ e => by omega))).trans (F5.out.mono (fun k _ e => by omega))).mono (fun k hk e => by omega)

theorem pt_1qn_s (fl st : Int) (a : Option Addr) (len cap : Nat) (b : List UInt8) (w : World) (h0 : 0 ≤ fl) (h1 : fl ≤ 255) (hs : SrcAt w a b) (hl : b.length = len) (hc : len ≤ cap) (hm : len ≤ 16777215) (h8 : has fl 8 = false) (hq : has fl 32 = true) (hsh : len < 5) :
    Calls Try.prog 36 #[.agg #[.int .i64 1, .int .i64 fl, .int .i64 st, .slice none 0 0, .int .i64 0, .int .u32 0, .int .i64 0, .int .i64 0, .int .i64 0, .bool false, .int .i64 0, .slice none 0 0], .slice a len cap] w fun e w' => PtAs w 1 fl st 0 6 ([]) e w' := by
  obtain ⟨W, hW⟩ : ∃ W, W = ((w.alloc (.cells #[.int .i64 1, .int .i64 fl, .int .i64 st, .slice none 0 0, .int .i64 0, .int .u32 0, .int .i64 0, .int .i64 0, .int .i64 0, .bool false, .int .i64 0, .slice none 0 0] 36)).alloc (.cells #[.int .i64 0, .int .i64 0, .int .i64 0, .slice none 0 0, .int .i64 0, .int .u32 0, .int .i64 0, .int .i64 0, .int .i64 0, .bool false, .int .i64 0, .slice none 0 0] 36)).alloc (.cells #[.bool false, .int .i64 0, .int .i64 0] 38) := ⟨_, rfl⟩
  have HFW : Hid (Fr (fun _ => False) w W) := by rw [hW]; exact (((Fr.refl _ _).alloc _).alloc _).alloc _
  have A0 : Hid (W.heap[w.heap.size]? = some (.cells #[.int .i64 1, .int .i64 fl, .int .i64 st, .slice none 0 0, .int .i64 0, .int .u32 0, .int .i64 0, .int .i64 0, .int .i64 0, .bool false, .int .i64 0, .slice none 0 0] 36 (0, 0))) := by rw [hW]; exact past_at _ (past_at _ (heap_alloc_new w _))
  have hr1 : W.heap[w.heap.size + 1]? = some (.cells #[.int .i64 0, .int .i64 0, .int .i64 0, .slice none 0 0, .int .i64 0, .int .u32 0, .int .i64 0, .int .i64 0, .int .i64 0, .bool false, .int .i64 0, .slice none 0 0] 36 (0, 0)) := by rw [hW]; exact past_at _ (last_at _ (by simp))
  have hr2 : W.heap[w.heap.size + 2]? = some (.cells #[.bool false, .int .i64 0, .int .i64 0] 38 (0, 0)) := by rw [hW]; exact last_at _ (by simp)
  have HRES : Hid (∀ w', Fr (fun k => k = w.heap.size) W w' → w'.heap[w.heap.size + 1]? = some (.cells #[.int .i64 0, .int .i64 0, .int .i64 0, .slice none 0 0, .int .i64 0, .int .u32 0, .int .i64 0, .int .i64 0, .int .i64 0, .bool false, .int .i64 0, .slice none 0 0] 36 (0, 0)) ∧ w'.heap[w.heap.size + 2]? = some (.cells #[.bool false, .int .i64 0, .int .i64 0] 38 (0, 0))) := fun w' hf => ⟨(hf.block _ (lt_of_heap hr1) (by omega)).trans hr1, (hf.block _ (lt_of_heap hr2) (by omega)).trans hr2⟩
  have K3 : ∀ w, Calls Try.prog 39 #[.int .i64 1] w fun e w' => e = .returned (.bool true) ∧ w = w' := fun w => by have h := rpadded_in 1 w; rwa [show canP 1 = true by decide] at h
  have K4 : ∀ w, Calls Try.prog 40 #[.int .i64 fl, .int .i64 8] w fun e w' => e = .returned (.bool false) ∧ w = w' := fun w => by have h := has_in fl 8 w (by omega) h0 h1; rw [← h8]; exact h
  have K5 : ∀ w, Calls Try.prog 41 #[.int .i64 1, .int .i64 fl] w fun e w' => e = .returned (.bool true) ∧ w = w' := fun w => by have h := prio_in 1 fl w h0 h1; rwa [show prioB 1 fl = true by rw [← hq]; simp [prioB]] at h
  have HS : Hid (SrcAt w a b) := hs
  have HL : Hid (b.length = len) := hl
  obtain ⟨c0, c1, c2, c3, c4, c5, c6, c7, c8, c9, c10, c11⟩ := cells12 A0.out
  have A1 : Hid (W.heap[w.heap.size]? = some (.cells #[.int .i64 1, .int .i64 fl, .int .i64 st, .slice none 0 0, .int .i64 0, .int .u32 0, .int .i64 0, .int .i64 0, .int .i64 0, .bool false, .int .i64 0, .slice none 0 0] 36 (0, 0))) := A0.out
  have F1 : Hid (Fr (fun k => k = w.heap.size) W W) := Fr.refl _ _
  clear hs hl hr1 hr2
  go_enter Try.func36, Try.ntmps36
  go_wp2_with (fail)
  rw [← hW]
  clear hW
  go_wp2_with first
    | (go_at_call 39; refine (K3 _).mono ?_; rintro e w' ⟨rfl, rfl⟩)
    | (go_at_call 40; refine (K4 _).mono ?_; rintro e w' ⟨rfl, rfl⟩)
    | (go_at_call 41; refine (K5 _).mono ?_; rintro e w' ⟨rfl, rfl⟩)
  refine wp_region_held_drew (S := fun w2 => w2.heap[w.heap.size]? = some (.cells #[.int .i64 1, .int .i64 fl, .int .i64 st, .slice none 0 0, .int .i64 0, .int .u32 0, .int .i64 0, .int .i64 0, .int .i64 0, .bool false, .int .i64 0, .slice none 0 0] 36 (0, 0))) (by kernel_rfl) A1.out (fun hHeld => ?_)
  refine wpAnyH_take (i := 0) (oi := _) (v := .agg #[.int .i64 1, .int .i64 fl, .int .i64 st, .slice none 0 0, .int .i64 0, .int .u32 0, .int .i64 0, .int .i64 0, .int .i64 0, .bool false, .int .i64 0, .slice none 0 0]) rfl (by kernel_rfl) (by kernel_rfl) (by kernel_rfl) (fun _ _ _ h => h) (Or.inl ⟨by kernel_rfl, fun w2 hw => by obtain ⟨c0, c1, c2, c3, c4, c5, c6, c7, c8, c9, c10, c11⟩ := cells12 hw; go_simp⟩) hHeld ?_
  simp only [Act.put, List.getElem_toArray, List.getElem_cons_zero, List.setIfInBounds_toArray, List.set_cons_zero, List.set_cons_succ]
  refine wpAnyH_ready (rs := [1]) (by kernel_rfl) (by simp) ?_
  refine AllReadyH.cons rfl (fun K hK => ?_) AllReadyH.nil
  go_simp
  refine (fault_in 6 _).mono ?_
  rintro e w3 ⟨rfl, hf3⟩
  have F3 : Hid (Fr (fun k => k = w.heap.size) W w3) := F1.out.trans (((Fr.refl _ _).drew.trans hf3).mono (fun _ _ e => e.elim))
  have A3 : Hid (w3.heap[w.heap.size]? = some (.cells #[.int .i64 1, .int .i64 fl, .int .i64 st, .slice none 0 0, .int .i64 0, .int .u32 0, .int .i64 0, .int .i64 0, .int .i64 0, .bool false, .int .i64 0, .slice none 0 0] 36 (0, 0))) := (((Fr.refl (fun _ => False) _).drew.trans hf3).block _ (lt_of_heap A1.out) id).trans A1.out
  refine hK.out _ _ A3.out (fun hHeld2 => ?_)
  clear hK K
  refine wpAnyH_ready (rs := [2]) (by kernel_rfl) (by simp) ?_
  refine AllReadyH.cons rfl (fun K hK => ?_) AllReadyH.nil
  refine stepR_storeB rfl rfl 36 (.tmp 4) (.tmp 39) rfl (w.heap.size + 1) #[.int .i64 0, .int .i64 0, .int .i64 0, .slice none 0 0, .int .i64 0, .int .u32 0, .int .i64 0, .int .i64 0, .int .i64 0, .bool false, .int .i64 0, .slice none 0 0] #[.int .i64 1, .int .i64 fl, .int .i64 st, .slice none 0 0, .int .i64 0, .int .u32 0, .int .i64 0, .int .i64 0, .int .i64 0, .bool false, .int .i64 0, .slice none 0 0] 36 rfl rfl (HRES.out _ F3.out).1 rfl (by kernel_rfl) (by simp [Value.oneCell']) ?_
  intro w4 H4 F4
  refine hK.out _ _ ((F4.out.block _ (lt_of_heap A3.out) (by omega)).trans A3.out) (fun hHeld3 => ?_)
  clear hK K
  refine wpAnyH_ready (rs := [3]) (by kernel_rfl) (by simp) ?_
  refine AllReadyH.cons rfl (fun K hK => ?_) AllReadyH.nil
  go_simp
  refine hK.out _ _ hHeld3 (fun _ => ?_)
  clear hK K
  refine wpAnyH_ready (rs := [4]) (by kernel_rfl) (by simp) ?_
  refine AllReadyH.cons rfl (fun K hK => ?_) AllReadyH.nil
  refine stepR_storeB rfl rfl 38 (.tmp 6) (.tmp 40) rfl (w.heap.size + 2) #[.bool false, .int .i64 0, .int .i64 0] #[.bool true, .int .i64 0, .int .i64 6] 38 rfl rfl ((F4.out.block _ (lt_of_heap (HRES.out _ F3.out).2) (by omega)).trans (HRES.out _ F3.out).2) rfl (by kernel_rfl) (by simp [Value.oneCell']) ?_
  intro w5 H5 F5
  refine hK.out _ _ ((F5.out.block _ (lt_of_heap hHeld3) (by omega)).trans hHeld3) (fun _ => ?_)
  clear hK K
  refine wpAnyH_done (by kernel_rfl) ?_ _
  go_wp2_with (fail)
  obtain ⟨r0, r1, r2, r3, r4, r5, r6, r7, r8, r9, r10, r11⟩ := cells12 ((F5.out.block _ (lt_of_heap H4.out) (by omega)).trans H4.out)
  obtain ⟨s0, s1, s2⟩ := cells3 H5.out
  refine bodyPost_ret (v := .tuple #[.agg #[.int .i64 1, .int .i64 fl, .int .i64 st, .slice none 0 0, .int .i64 0, .int .u32 0, .int .i64 0, .int .i64 0, .int .i64 0, .bool false, .int .i64 0, .slice none 0 0], .slice none 0 0, .agg #[.bool true, .int .i64 0, .int .i64 6]]) (by simp [results, Try.results36, go_sem, r0, r1, r2, r3, r4, r5, r6, r7, r8, r9, r10, r11, s0, s1, s2]) rfl ?_
  refine ⟨none, 0, 0, rfl, ?_, fun h => by cases h⟩
  exact ((((HFW.out.mono (T := fun k => w.heap.size ≤ k) (fun _ _ e => e.elim)).trans (F3.out.mono (fun k _ e => by omega))).trans (F4.out.mono (fun k _ e => by omega))).trans (F5.out.mono (fun k _ e => by omega))).mono (fun k hk e => by omega)

theorem pt_1qn (fl st : Int) (a : Option Addr) (len cap : Nat) (b : List UInt8) (w : World) (h0 : 0 ≤ fl) (h1 : fl ≤ 255) (hs : SrcAt w a b) (hl : b.length = len) (hc : len ≤ cap) (hm : len ≤ 16777215) (h8 : has fl 8 = false) (hq : has fl 32 = true) (hsh : 5 ≤ len) :
    Calls Try.prog 36 #[.agg #[.int .i64 1, .int .i64 fl, .int .i64 st, .slice none 0 0, .int .i64 0, .int .u32 0, .int .i64 0, .int .i64 0, .int .i64 0, .bool false, .int .i64 0, .slice none 0 0], .slice a len cap] w fun e w' => PtAs w 1 fl st 0 0 (b) e w' := by
  obtain ⟨W, hW⟩ : ∃ W, W = ((w.alloc (.cells #[.int .i64 1, .int .i64 fl, .int .i64 st, .slice none 0 0, .int .i64 0, .int .u32 0, .int .i64 0, .int .i64 0, .int .i64 0, .bool false, .int .i64 0, .slice none 0 0] 36)).alloc (.cells #[.int .i64 0, .int .i64 0, .int .i64 0, .slice none 0 0, .int .i64 0, .int .u32 0, .int .i64 0, .int .i64 0, .int .i64 0, .bool false, .int .i64 0, .slice none 0 0] 36)).alloc (.cells #[.bool false, .int .i64 0, .int .i64 0] 38) := ⟨_, rfl⟩
  have HFW : Hid (Fr (fun _ => False) w W) := by rw [hW]; exact (((Fr.refl _ _).alloc _).alloc _).alloc _
  have A0 : Hid (W.heap[w.heap.size]? = some (.cells #[.int .i64 1, .int .i64 fl, .int .i64 st, .slice none 0 0, .int .i64 0, .int .u32 0, .int .i64 0, .int .i64 0, .int .i64 0, .bool false, .int .i64 0, .slice none 0 0] 36 (0, 0))) := by rw [hW]; exact past_at _ (past_at _ (heap_alloc_new w _))
  have hr1 : W.heap[w.heap.size + 1]? = some (.cells #[.int .i64 0, .int .i64 0, .int .i64 0, .slice none 0 0, .int .i64 0, .int .u32 0, .int .i64 0, .int .i64 0, .int .i64 0, .bool false, .int .i64 0, .slice none 0 0] 36 (0, 0)) := by rw [hW]; exact past_at _ (last_at _ (by simp))
  have hr2 : W.heap[w.heap.size + 2]? = some (.cells #[.bool false, .int .i64 0, .int .i64 0] 38 (0, 0)) := by rw [hW]; exact last_at _ (by simp)
  have HRES : Hid (∀ w', Fr (fun k => k = w.heap.size) W w' → w'.heap[w.heap.size + 1]? = some (.cells #[.int .i64 0, .int .i64 0, .int .i64 0, .slice none 0 0, .int .i64 0, .int .u32 0, .int .i64 0, .int .i64 0, .int .i64 0, .bool false, .int .i64 0, .slice none 0 0] 36 (0, 0)) ∧ w'.heap[w.heap.size + 2]? = some (.cells #[.bool false, .int .i64 0, .int .i64 0] 38 (0, 0))) := fun w' hf => ⟨(hf.block _ (lt_of_heap hr1) (by omega)).trans hr1, (hf.block _ (lt_of_heap hr2) (by omega)).trans hr2⟩
  have K3 : ∀ w, Calls Try.prog 39 #[.int .i64 1] w fun e w' => e = .returned (.bool true) ∧ w = w' := fun w => by have h := rpadded_in 1 w; rwa [show canP 1 = true by decide] at h
  have K4 : ∀ w, Calls Try.prog 40 #[.int .i64 fl, .int .i64 8] w fun e w' => e = .returned (.bool false) ∧ w = w' := fun w => by have h := has_in fl 8 w (by omega) h0 h1; rw [← h8]; exact h
  have K5 : ∀ w, Calls Try.prog 41 #[.int .i64 1, .int .i64 fl] w fun e w' => e = .returned (.bool true) ∧ w = w' := fun w => by have h := prio_in 1 fl w h0 h1; rwa [show prioB 1 fl = true by rw [← hq]; simp [prioB]] at h
  have HS : Hid (SrcAt w a b) := hs
  have HL : Hid (b.length = len) := hl
  obtain ⟨c0, c1, c2, c3, c4, c5, c6, c7, c8, c9, c10, c11⟩ := cells12 A0.out
  have A1 : Hid (W.heap[w.heap.size]? = some (.cells #[.int .i64 1, .int .i64 fl, .int .i64 st, .slice none 0 0, .int .i64 0, .int .u32 0, .int .i64 0, .int .i64 0, .int .i64 0, .bool false, .int .i64 0, .slice none 0 0] 36 (0, 0))) := A0.out
  have F1 : Hid (Fr (fun k => k = w.heap.size) W W) := Fr.refl _ _
  clear hs hl hr1 hr2
  have hone3 : (#[.bool false, .int .i64 0, .int .i64 0] : Array Value).all (·.oneCell') = true := by simp [Value.oneCell']
  go_enter Try.func36, Try.ntmps36
  go_wp2_with (fail)
  rw [← hW]
  clear hW
  go_wp2_with first
    | (go_at_call 39; refine (K3 _).mono ?_; rintro e w' ⟨rfl, rfl⟩)
    | (go_at_call 40; refine (K4 _).mono ?_; rintro e w' ⟨rfl, rfl⟩)
    | (go_at_call 41; refine (K5 _).mono ?_; rintro e w' ⟨rfl, rfl⟩)
    | (refine wpList_storeB rfl 36 (.tmp 4) (.tmp 78) rfl (w.heap.size + 1) #[.int .i64 0, .int .i64 0, .int .i64 0, .slice none 0 0, .int .i64 0, .int .u32 0, .int .i64 0, .int .i64 0, .int .i64 0, .bool false, .int .i64 0, .slice none 0 0] #[.int .i64 1, .int .i64 fl, .int .i64 st, .slice none 0 0, .int .i64 0, .int .u32 0, .int .i64 0, .int .i64 0, .int .i64 0, .bool false, .int .i64 0, .slice none 0 0] 36 rfl rfl (HRES.out _ F1.out).1 rfl (by kernel_rfl) (by simp [Value.oneCell']) ?_; intro w4 H4 F4)
    | (refine wpList_storeB rfl 38 (.tmp 6) (.tmp 80) rfl (w.heap.size + 2) #[.bool false, .int .i64 0, .int .i64 0] #[.bool false, .int .i64 0, .int .i64 0] 38 rfl rfl ((F4.out.block _ (lt_of_heap (HRES.out _ F1.out).2) (by omega)).trans (HRES.out _ F1.out).2) rfl (by kernel_rfl) hone3 ?_; intro w5 H5 F5)
  have F3 := F1
  obtain ⟨r0, r1, r2, r3, r4, r5, r6, r7, r8, r9, r10, r11⟩ := cells12 ((F5.out.block _ (lt_of_heap H4.out) (by omega)).trans H4.out)
  obtain ⟨s0, s1, s2⟩ := cells3 H5.out
  refine bodyPost_ret (v := .tuple #[.agg #[.int .i64 1, .int .i64 fl, .int .i64 st, .slice none 0 0, .int .i64 0, .int .u32 0, .int .i64 0, .int .i64 0, .int .i64 0, .bool false, .int .i64 0, .slice none 0 0], .slice a len cap, .agg #[.bool false, .int .i64 0, .int .i64 0]]) (by simp [results, Try.results36, go_sem, r0, r1, r2, r3, r4, r5, r6, r7, r8, r9, r10, r11, s0, s1, s2]) rfl ?_
  refine ⟨a, len, cap, rfl, ?_, fun _ => ⟨HS.out.oldF (((((HFW.out.mono (T := fun k => w.heap.size ≤ k) (fun _ _ e => e.elim)).trans (F3.out.mono (fun k _ e => by omega))).trans (F4.out.mono (fun k _ e => by omega))).trans (F5.out.mono (fun k _ e => by omega))).mono (fun k hk e => by omega)), HL.out, hc⟩⟩
  exact ((((HFW.out.mono (T := fun k => w.heap.size ≤ k) (fun _ _ e => e.elim)).trans (F3.out.mono (fun k _ e => by omega))).trans (F4.out.mono (fun k _ e => by omega))).trans (F5.out.mono (fun k _ e => by omega))).mono (fun k hk e => by omega)

theorem pt_5n_s (fl st : Int) (a : Option Addr) (len cap : Nat) (b : List UInt8) (w : World) (h0 : 0 ≤ fl) (h1 : fl ≤ 255) (hs : SrcAt w a b) (hl : b.length = len) (hc : len ≤ cap) (hm : len ≤ 16777215) (h8 : has fl 8 = false) (hsh : len < 4) :
    Calls Try.prog 36 #[.agg #[.int .i64 5, .int .i64 fl, .int .i64 st, .slice none 0 0, .int .i64 0, .int .u32 0, .int .i64 0, .int .i64 0, .int .i64 0, .bool false, .int .i64 0, .slice none 0 0], .slice a len cap] w fun e w' => PtAs w 5 fl st 0 6 ([]) e w' := by
  obtain ⟨W, hW⟩ : ∃ W, W = ((w.alloc (.cells #[.int .i64 5, .int .i64 fl, .int .i64 st, .slice none 0 0, .int .i64 0, .int .u32 0, .int .i64 0, .int .i64 0, .int .i64 0, .bool false, .int .i64 0, .slice none 0 0] 36)).alloc (.cells #[.int .i64 0, .int .i64 0, .int .i64 0, .slice none 0 0, .int .i64 0, .int .u32 0, .int .i64 0, .int .i64 0, .int .i64 0, .bool false, .int .i64 0, .slice none 0 0] 36)).alloc (.cells #[.bool false, .int .i64 0, .int .i64 0] 38) := ⟨_, rfl⟩
  have HFW : Hid (Fr (fun _ => False) w W) := by rw [hW]; exact (((Fr.refl _ _).alloc _).alloc _).alloc _
  have A0 : Hid (W.heap[w.heap.size]? = some (.cells #[.int .i64 5, .int .i64 fl, .int .i64 st, .slice none 0 0, .int .i64 0, .int .u32 0, .int .i64 0, .int .i64 0, .int .i64 0, .bool false, .int .i64 0, .slice none 0 0] 36 (0, 0))) := by rw [hW]; exact past_at _ (past_at _ (heap_alloc_new w _))
  have hr1 : W.heap[w.heap.size + 1]? = some (.cells #[.int .i64 0, .int .i64 0, .int .i64 0, .slice none 0 0, .int .i64 0, .int .u32 0, .int .i64 0, .int .i64 0, .int .i64 0, .bool false, .int .i64 0, .slice none 0 0] 36 (0, 0)) := by rw [hW]; exact past_at _ (last_at _ (by simp))
  have hr2 : W.heap[w.heap.size + 2]? = some (.cells #[.bool false, .int .i64 0, .int .i64 0] 38 (0, 0)) := by rw [hW]; exact last_at _ (by simp)
  have HRES : Hid (∀ w', Fr (fun k => k = w.heap.size) W w' → w'.heap[w.heap.size + 1]? = some (.cells #[.int .i64 0, .int .i64 0, .int .i64 0, .slice none 0 0, .int .i64 0, .int .u32 0, .int .i64 0, .int .i64 0, .int .i64 0, .bool false, .int .i64 0, .slice none 0 0] 36 (0, 0)) ∧ w'.heap[w.heap.size + 2]? = some (.cells #[.bool false, .int .i64 0, .int .i64 0] 38 (0, 0))) := fun w' hf => ⟨(hf.block _ (lt_of_heap hr1) (by omega)).trans hr1, (hf.block _ (lt_of_heap hr2) (by omega)).trans hr2⟩
  have K3 : ∀ w, Calls Try.prog 39 #[.int .i64 5] w fun e w' => e = .returned (.bool true) ∧ w = w' := fun w => by have h := rpadded_in 5 w; rwa [show canP 5 = true by decide] at h
  have K4 : ∀ w, Calls Try.prog 40 #[.int .i64 fl, .int .i64 8] w fun e w' => e = .returned (.bool false) ∧ w = w' := fun w => by have h := has_in fl 8 w (by omega) h0 h1; rw [← h8]; exact h
  have HS : Hid (SrcAt w a b) := hs
  have HL : Hid (b.length = len) := hl
  obtain ⟨c0, c1, c2, c3, c4, c5, c6, c7, c8, c9, c10, c11⟩ := cells12 A0.out
  have A1 : Hid (W.heap[w.heap.size]? = some (.cells #[.int .i64 5, .int .i64 fl, .int .i64 st, .slice none 0 0, .int .i64 0, .int .u32 0, .int .i64 0, .int .i64 0, .int .i64 0, .bool false, .int .i64 0, .slice none 0 0] 36 (0, 0))) := A0.out
  have F1 : Hid (Fr (fun k => k = w.heap.size) W W) := Fr.refl _ _
  clear hs hl hr1 hr2
  go_enter Try.func36, Try.ntmps36
  go_wp2_with (fail)
  rw [← hW]
  clear hW
  go_wp2_with first
    | (go_at_call 39; refine (K3 _).mono ?_; rintro e w' ⟨rfl, rfl⟩)
    | (go_at_call 40; refine (K4 _).mono ?_; rintro e w' ⟨rfl, rfl⟩)
  refine wp_region_held_drew (S := fun w2 => w2.heap[w.heap.size]? = some (.cells #[.int .i64 5, .int .i64 fl, .int .i64 st, .slice none 0 0, .int .i64 0, .int .u32 0, .int .i64 0, .int .i64 0, .int .i64 0, .bool false, .int .i64 0, .slice none 0 0] 36 (0, 0))) (by kernel_rfl) A1.out (fun hHeld => ?_)
  refine wpAnyH_take (i := 0) (oi := _) (v := .agg #[.int .i64 5, .int .i64 fl, .int .i64 st, .slice none 0 0, .int .i64 0, .int .u32 0, .int .i64 0, .int .i64 0, .int .i64 0, .bool false, .int .i64 0, .slice none 0 0]) rfl (by kernel_rfl) (by kernel_rfl) (by kernel_rfl) (fun _ _ _ h => h) (Or.inl ⟨by kernel_rfl, fun w2 hw => by obtain ⟨c0, c1, c2, c3, c4, c5, c6, c7, c8, c9, c10, c11⟩ := cells12 hw; go_simp⟩) hHeld ?_
  simp only [Act.put, List.getElem_toArray, List.getElem_cons_zero, List.setIfInBounds_toArray, List.set_cons_zero, List.set_cons_succ]
  refine wpAnyH_ready (rs := [1]) (by kernel_rfl) (by simp) ?_
  refine AllReadyH.cons rfl (fun K hK => ?_) AllReadyH.nil
  go_simp
  refine (fault_in 6 _).mono ?_
  rintro e w3 ⟨rfl, hf3⟩
  have F3 : Hid (Fr (fun k => k = w.heap.size) W w3) := F1.out.trans (((Fr.refl _ _).drew.trans hf3).mono (fun _ _ e => e.elim))
  have A3 : Hid (w3.heap[w.heap.size]? = some (.cells #[.int .i64 5, .int .i64 fl, .int .i64 st, .slice none 0 0, .int .i64 0, .int .u32 0, .int .i64 0, .int .i64 0, .int .i64 0, .bool false, .int .i64 0, .slice none 0 0] 36 (0, 0))) := (((Fr.refl (fun _ => False) _).drew.trans hf3).block _ (lt_of_heap A1.out) id).trans A1.out
  refine hK.out _ _ A3.out (fun hHeld2 => ?_)
  clear hK K
  refine wpAnyH_ready (rs := [2]) (by kernel_rfl) (by simp) ?_
  refine AllReadyH.cons rfl (fun K hK => ?_) AllReadyH.nil
  refine stepR_storeB rfl rfl 36 (.tmp 4) (.tmp 39) rfl (w.heap.size + 1) #[.int .i64 0, .int .i64 0, .int .i64 0, .slice none 0 0, .int .i64 0, .int .u32 0, .int .i64 0, .int .i64 0, .int .i64 0, .bool false, .int .i64 0, .slice none 0 0] #[.int .i64 5, .int .i64 fl, .int .i64 st, .slice none 0 0, .int .i64 0, .int .u32 0, .int .i64 0, .int .i64 0, .int .i64 0, .bool false, .int .i64 0, .slice none 0 0] 36 rfl rfl (HRES.out _ F3.out).1 rfl (by kernel_rfl) (by simp [Value.oneCell']) ?_
  intro w4 H4 F4
  refine hK.out _ _ ((F4.out.block _ (lt_of_heap A3.out) (by omega)).trans A3.out) (fun hHeld3 => ?_)
  clear hK K
  refine wpAnyH_ready (rs := [3]) (by kernel_rfl) (by simp) ?_
  refine AllReadyH.cons rfl (fun K hK => ?_) AllReadyH.nil
  go_simp
  refine hK.out _ _ hHeld3 (fun _ => ?_)
  clear hK K
  refine wpAnyH_ready (rs := [4]) (by kernel_rfl) (by simp) ?_
  refine AllReadyH.cons rfl (fun K hK => ?_) AllReadyH.nil
  refine stepR_storeB rfl rfl 38 (.tmp 6) (.tmp 40) rfl (w.heap.size + 2) #[.bool false, .int .i64 0, .int .i64 0] #[.bool true, .int .i64 0, .int .i64 6] 38 rfl rfl ((F4.out.block _ (lt_of_heap (HRES.out _ F3.out).2) (by omega)).trans (HRES.out _ F3.out).2) rfl (by kernel_rfl) (by simp [Value.oneCell']) ?_
  intro w5 H5 F5
  refine hK.out _ _ ((F5.out.block _ (lt_of_heap hHeld3) (by omega)).trans hHeld3) (fun _ => ?_)
  clear hK K
  refine wpAnyH_done (by kernel_rfl) ?_ _
  go_wp2_with (fail)
  obtain ⟨r0, r1, r2, r3, r4, r5, r6, r7, r8, r9, r10, r11⟩ := cells12 ((F5.out.block _ (lt_of_heap H4.out) (by omega)).trans H4.out)
  obtain ⟨s0, s1, s2⟩ := cells3 H5.out
  refine bodyPost_ret (v := .tuple #[.agg #[.int .i64 5, .int .i64 fl, .int .i64 st, .slice none 0 0, .int .i64 0, .int .u32 0, .int .i64 0, .int .i64 0, .int .i64 0, .bool false, .int .i64 0, .slice none 0 0], .slice none 0 0, .agg #[.bool true, .int .i64 0, .int .i64 6]]) (by simp [results, Try.results36, go_sem, r0, r1, r2, r3, r4, r5, r6, r7, r8, r9, r10, r11, s0, s1, s2]) rfl ?_
  refine ⟨none, 0, 0, rfl, ?_, fun h => by cases h⟩
  exact ((((HFW.out.mono (T := fun k => w.heap.size ≤ k) (fun _ _ e => e.elim)).trans (F3.out.mono (fun k _ e => by omega))).trans (F4.out.mono (fun k _ e => by omega))).trans (F5.out.mono (fun k _ e => by omega))).mono (fun k hk e => by omega)

theorem pt_5n (fl st : Int) (a : Option Addr) (len cap : Nat) (b : List UInt8) (w : World) (h0 : 0 ≤ fl) (h1 : fl ≤ 255) (hs : SrcAt w a b) (hl : b.length = len) (hc : len ≤ cap) (hm : len ≤ 16777215) (h8 : has fl 8 = false) (hsh : 4 ≤ len) :
    Calls Try.prog 36 #[.agg #[.int .i64 5, .int .i64 fl, .int .i64 st, .slice none 0 0, .int .i64 0, .int .u32 0, .int .i64 0, .int .i64 0, .int .i64 0, .bool false, .int .i64 0, .slice none 0 0], .slice a len cap] w fun e w' => PtAs w 5 fl st 0 0 (b) e w' := by
  obtain ⟨W, hW⟩ : ∃ W, W = ((w.alloc (.cells #[.int .i64 5, .int .i64 fl, .int .i64 st, .slice none 0 0, .int .i64 0, .int .u32 0, .int .i64 0, .int .i64 0, .int .i64 0, .bool false, .int .i64 0, .slice none 0 0] 36)).alloc (.cells #[.int .i64 0, .int .i64 0, .int .i64 0, .slice none 0 0, .int .i64 0, .int .u32 0, .int .i64 0, .int .i64 0, .int .i64 0, .bool false, .int .i64 0, .slice none 0 0] 36)).alloc (.cells #[.bool false, .int .i64 0, .int .i64 0] 38) := ⟨_, rfl⟩
  have HFW : Hid (Fr (fun _ => False) w W) := by rw [hW]; exact (((Fr.refl _ _).alloc _).alloc _).alloc _
  have A0 : Hid (W.heap[w.heap.size]? = some (.cells #[.int .i64 5, .int .i64 fl, .int .i64 st, .slice none 0 0, .int .i64 0, .int .u32 0, .int .i64 0, .int .i64 0, .int .i64 0, .bool false, .int .i64 0, .slice none 0 0] 36 (0, 0))) := by rw [hW]; exact past_at _ (past_at _ (heap_alloc_new w _))
  have hr1 : W.heap[w.heap.size + 1]? = some (.cells #[.int .i64 0, .int .i64 0, .int .i64 0, .slice none 0 0, .int .i64 0, .int .u32 0, .int .i64 0, .int .i64 0, .int .i64 0, .bool false, .int .i64 0, .slice none 0 0] 36 (0, 0)) := by rw [hW]; exact past_at _ (last_at _ (by simp))
  have hr2 : W.heap[w.heap.size + 2]? = some (.cells #[.bool false, .int .i64 0, .int .i64 0] 38 (0, 0)) := by rw [hW]; exact last_at _ (by simp)
  have HRES : Hid (∀ w', Fr (fun k => k = w.heap.size) W w' → w'.heap[w.heap.size + 1]? = some (.cells #[.int .i64 0, .int .i64 0, .int .i64 0, .slice none 0 0, .int .i64 0, .int .u32 0, .int .i64 0, .int .i64 0, .int .i64 0, .bool false, .int .i64 0, .slice none 0 0] 36 (0, 0)) ∧ w'.heap[w.heap.size + 2]? = some (.cells #[.bool false, .int .i64 0, .int .i64 0] 38 (0, 0))) := fun w' hf => ⟨(hf.block _ (lt_of_heap hr1) (by omega)).trans hr1, (hf.block _ (lt_of_heap hr2) (by omega)).trans hr2⟩
  have K3 : ∀ w, Calls Try.prog 39 #[.int .i64 5] w fun e w' => e = .returned (.bool true) ∧ w = w' := fun w => by have h := rpadded_in 5 w; rwa [show canP 5 = true by decide] at h
  have K4 : ∀ w, Calls Try.prog 40 #[.int .i64 fl, .int .i64 8] w fun e w' => e = .returned (.bool false) ∧ w = w' := fun w => by have h := has_in fl 8 w (by omega) h0 h1; rw [← h8]; exact h
  have HS : Hid (SrcAt w a b) := hs
  have HL : Hid (b.length = len) := hl
  obtain ⟨c0, c1, c2, c3, c4, c5, c6, c7, c8, c9, c10, c11⟩ := cells12 A0.out
  have A1 : Hid (W.heap[w.heap.size]? = some (.cells #[.int .i64 5, .int .i64 fl, .int .i64 st, .slice none 0 0, .int .i64 0, .int .u32 0, .int .i64 0, .int .i64 0, .int .i64 0, .bool false, .int .i64 0, .slice none 0 0] 36 (0, 0))) := A0.out
  have F1 : Hid (Fr (fun k => k = w.heap.size) W W) := Fr.refl _ _
  clear hs hl hr1 hr2
  have hone3 : (#[.bool false, .int .i64 0, .int .i64 0] : Array Value).all (·.oneCell') = true := by simp [Value.oneCell']
  go_enter Try.func36, Try.ntmps36
  go_wp2_with (fail)
  rw [← hW]
  clear hW
  go_wp2_with first
    | (go_at_call 39; refine (K3 _).mono ?_; rintro e w' ⟨rfl, rfl⟩)
    | (go_at_call 40; refine (K4 _).mono ?_; rintro e w' ⟨rfl, rfl⟩)
    | (refine wpList_storeB rfl 36 (.tmp 4) (.tmp 78) rfl (w.heap.size + 1) #[.int .i64 0, .int .i64 0, .int .i64 0, .slice none 0 0, .int .i64 0, .int .u32 0, .int .i64 0, .int .i64 0, .int .i64 0, .bool false, .int .i64 0, .slice none 0 0] #[.int .i64 5, .int .i64 fl, .int .i64 st, .slice none 0 0, .int .i64 0, .int .u32 0, .int .i64 0, .int .i64 0, .int .i64 0, .bool false, .int .i64 0, .slice none 0 0] 36 rfl rfl (HRES.out _ F1.out).1 rfl (by kernel_rfl) (by simp [Value.oneCell']) ?_; intro w4 H4 F4)
    | (refine wpList_storeB rfl 38 (.tmp 6) (.tmp 80) rfl (w.heap.size + 2) #[.bool false, .int .i64 0, .int .i64 0] #[.bool false, .int .i64 0, .int .i64 0] 38 rfl rfl ((F4.out.block _ (lt_of_heap (HRES.out _ F1.out).2) (by omega)).trans (HRES.out _ F1.out).2) rfl (by kernel_rfl) hone3 ?_; intro w5 H5 F5)
  have F3 := F1
  obtain ⟨r0, r1, r2, r3, r4, r5, r6, r7, r8, r9, r10, r11⟩ := cells12 ((F5.out.block _ (lt_of_heap H4.out) (by omega)).trans H4.out)
  obtain ⟨s0, s1, s2⟩ := cells3 H5.out
  refine bodyPost_ret (v := .tuple #[.agg #[.int .i64 5, .int .i64 fl, .int .i64 st, .slice none 0 0, .int .i64 0, .int .u32 0, .int .i64 0, .int .i64 0, .int .i64 0, .bool false, .int .i64 0, .slice none 0 0], .slice a len cap, .agg #[.bool false, .int .i64 0, .int .i64 0]]) (by simp [results, Try.results36, go_sem, r0, r1, r2, r3, r4, r5, r6, r7, r8, r9, r10, r11, s0, s1, s2]) rfl ?_
  refine ⟨a, len, cap, rfl, ?_, fun _ => ⟨HS.out.oldF (((((HFW.out.mono (T := fun k => w.heap.size ≤ k) (fun _ _ e => e.elim)).trans (F3.out.mono (fun k _ e => by omega))).trans (F4.out.mono (fun k _ e => by omega))).trans (F5.out.mono (fun k _ e => by omega))).mono (fun k hk e => by omega)), HL.out, hc⟩⟩
  exact ((((HFW.out.mono (T := fun k => w.heap.size ≤ k) (fun _ _ e => e.elim)).trans (F3.out.mono (fun k _ e => by omega))).trans (F4.out.mono (fun k _ e => by omega))).trans (F5.out.mono (fun k _ e => by omega))).mono (fun k hk e => by omega)

end Go.Proofs.Ytikaefjhmgcidaa
