/- What stands in a frame, by the document: numbers. -/
import Derived.Test.YtikaefjhmgcidaaZRm
namespace Go.Proofs.Ytikaefjhmgcidaa
open Go.RowKit
set_option linter.unusedVariables false
set_option maxRecDepth 100000
set_option maxHeartbeats 4000000

theorem fd_3 (fl st : Int) (x : Nat) (a : Option Addr) (len cap : Nat) (b : List UInt8) (w : World) (h0 : 0 ≤ fl) (h1 : fl ≤ 255) (hs : SrcAt w a b) (hl : b.length = len) (hc : len ≤ cap) (hm : len ≤ 16777215) (hn : 4 ≤ len) :
    Calls Try.prog 37 #[.agg #[.int .i64 3, .int .i64 fl, .int .i64 st, .slice none 0 0, .int .i64 (x : Int), .int .u32 0, .int .i64 0, .int .i64 0, .int .i64 0, .bool false, .int .i64 0, .slice none 0 0], .slice a len cap] w fun e w' => RdAs w (⟨3, fl, st, [], x, (num (b.take 4)), 0, 0, 0, false, 0, []⟩, ⟨false, 0, 0⟩) e w' := by
  obtain ⟨W, hW⟩ : ∃ W, W = ((w.alloc (.cells #[.int .i64 3, .int .i64 fl, .int .i64 st, .slice none 0 0, .int .i64 (x : Int), .int .u32 0, .int .i64 0, .int .i64 0, .int .i64 0, .bool false, .int .i64 0, .slice none 0 0] 36)).alloc (.cells #[.int .i64 0, .int .i64 0, .int .i64 0, .slice none 0 0, .int .i64 0, .int .u32 0, .int .i64 0, .int .i64 0, .int .i64 0, .bool false, .int .i64 0, .slice none 0 0] 36)).alloc (.cells #[.bool false, .int .i64 0, .int .i64 0] 38) := ⟨_, rfl⟩
  have HFW : Hid (Fr (fun _ => False) w W) := by rw [hW]; exact (((Fr.refl _ _).alloc _).alloc _).alloc _
  have A0 : Hid (W.heap[w.heap.size]? = some (.cells #[.int .i64 3, .int .i64 fl, .int .i64 st, .slice none 0 0, .int .i64 (x : Int), .int .u32 0, .int .i64 0, .int .i64 0, .int .i64 0, .bool false, .int .i64 0, .slice none 0 0] 36 (0, 0))) := by rw [hW]; exact past_at _ (past_at _ (heap_alloc_new w _))
  have hr1 : W.heap[w.heap.size + 1]? = some (.cells #[.int .i64 0, .int .i64 0, .int .i64 0, .slice none 0 0, .int .i64 0, .int .u32 0, .int .i64 0, .int .i64 0, .int .i64 0, .bool false, .int .i64 0, .slice none 0 0] 36 (0, 0)) := by rw [hW]; exact past_at _ (last_at _ (by simp))
  have hr2 : W.heap[w.heap.size + 2]? = some (.cells #[.bool false, .int .i64 0, .int .i64 0] 38 (0, 0)) := by rw [hW]; exact last_at _ (by simp)
  have HRES : Hid (∀ w', Fr (fun k => k = w.heap.size) W w' → w'.heap[w.heap.size + 1]? = some (.cells #[.int .i64 0, .int .i64 0, .int .i64 0, .slice none 0 0, .int .i64 0, .int .u32 0, .int .i64 0, .int .i64 0, .int .i64 0, .bool false, .int .i64 0, .slice none 0 0] 36 (0, 0)) ∧ w'.heap[w.heap.size + 2]? = some (.cells #[.bool false, .int .i64 0, .int .i64 0] 38 (0, 0))) := fun w' hf => ⟨(hf.block _ (lt_of_heap hr1) (by omega)).trans hr1, (hf.block _ (lt_of_heap hr2) (by omega)).trans hr2⟩
  have HS : Hid (∀ w', Fr (fun k => k = w.heap.size) W w' → SrcAt w' a b) := fun w' hf => src_ge hs ((HFW.out.mono (T := fun k => w.heap.size ≤ k) (fun _ _ e => e.elim)).trans (hf.mono (fun k _ e => by omega)))
  have HL : Hid (b.length = len) := hl
  obtain ⟨c0, c1, c2, c3, c4, c5, c6, c7, c8, c9, c10, c11⟩ := cells12 A0.out
  have F0 : Hid (Fr (fun k => k = w.heap.size) W W) := Fr.refl _ _
  have KN : Hid (∀ w', Fr (fun k => k = w.heap.size) W w' → Calls Try.prog 52 #[.slice a len cap, .int .i64 0] w' fun e w2 => e = .returned (.tuple #[.int .u32 ((num (b.take 4) : Nat) : Int), .int .i64 4, .int .i64 0]) ∧ w' = w2) := fun w' hf => by
    have h := RU32 a len cap ((0 : Nat) : Int) w' b (HS.out w' hf) hl (by omega)
    rw [read_at 4 0 b (by omega)] at h
    refine h.mono ?_
    rintro e w2 ⟨he, rfl⟩
    exact ⟨he, rfl⟩
  obtain ⟨N, hN⟩ : ∃ N, num (b.take 4) = N := ⟨_, rfl⟩
  rw [hN] at KN
  have z1 : W.frozen? ⟨w.heap.size, 5, none⟩ = false := frozen_of_heap A0.out
  have A1 : Hid ((W.setCell ⟨w.heap.size, 5, none⟩ (.int .u32 (N : Int))).heap[w.heap.size]? = some (.cells #[.int .i64 3, .int .i64 fl, .int .i64 st, .slice none 0 0, .int .i64 (x : Int), .int .u32 (N : Nat), .int .i64 0, .int .i64 0, .int .i64 0, .bool false, .int .i64 0, .slice none 0 0] 36 (0, 0))) := block_set A0.out
  have F1 : Hid (Fr (fun k => k = w.heap.size) W (W.setCell ⟨w.heap.size, 5, none⟩ (.int .u32 (N : Int)))) := F0.out.setB _ _
  try rw [hN]
  clear hs hl hr1 hr2
  go_enter Try.func37, Try.ntmps37
  go_wp2_with (fail)
  rw [← hW]
  clear hW
  go_wp2_with first
    | (go_at_call 52; refine (KN.out _ F0.out).mono ?_; rintro e w' ⟨rfl, rfl⟩)
    | (refine wpList_storeB rfl 36 (.tmp 4) (.tmp 25) rfl (w.heap.size + 1) #[.int .i64 0, .int .i64 0, .int .i64 0, .slice none 0 0, .int .i64 0, .int .u32 0, .int .i64 0, .int .i64 0, .int .i64 0, .bool false, .int .i64 0, .slice none 0 0] #[.int .i64 3, .int .i64 fl, .int .i64 st, .slice none 0 0, .int .i64 (x : Int), .int .u32 (N : Nat), .int .i64 0, .int .i64 0, .int .i64 0, .bool false, .int .i64 0, .slice none 0 0] 36 rfl rfl (HRES.out _ F1.out).1 rfl (by kernel_rfl) (by simp [Value.oneCell']) ?_; intro w4 H4 F4)
    | (refine wpList_storeB rfl 38 (.tmp 5) (.tmp 26) rfl (w.heap.size + 2) #[.bool false, .int .i64 0, .int .i64 0] #[.bool false, .int .i64 0, .int .i64 0] 38 rfl rfl ((F4.out.block _ (lt_of_heap (HRES.out _ F1.out).2) (by omega)).trans (HRES.out _ F1.out).2) rfl (by kernel_rfl) (by simp [Value.oneCell']) ?_; intro w5 H5 F5)
  obtain ⟨r0, r1, r2, r3, r4, r5, r6, r7, r8, r9, r10, r11⟩ := cells12 ((F5.out.block _ (lt_of_heap H4.out) (by omega)).trans H4.out)
  obtain ⟨s0, s1, s2⟩ := cells3 H5.out
  have FALL : Fr (fun k => k = w.heap.size + 1 ∨ k = w.heap.size + 2) _ w5 := (F4.out.mono (fun _ _ e => .inl e)).trans (F5.out.mono (fun _ _ e => .inr e))
  refine bodyPost_ret (v := .tuple #[.agg #[.int .i64 3, .int .i64 fl, .int .i64 st, .slice none 0 0, .int .i64 (x : Int), .int .u32 (N : Nat), .int .i64 0, .int .i64 0, .int .i64 0, .bool false, .int .i64 0, .slice none 0 0], .agg #[.bool false, .int .i64 0, .int .i64 0]]) (by simp [results, Try.results37, go_sem, r0, r1, r2, r3, r4, r5, r6, r7, r8, r9, r10, r11, s0, s1, s2]) rfl ?_
  have FEND : Fr (fun _ => False) w w5 := ((((HFW.out.mono (T := fun k => w.heap.size ≤ k) (fun _ _ e => e.elim)).trans (F1.out.mono (fun k _ e => by omega))).trans (FALL.mono (fun k _ e => by omega)))).mono (fun k hk e => by omega)
  exact ⟨none, 0, none, 0, rfl, SrcAt.nil _ _, SetsAt.nil _, (fun ad e => by cases e), (fun ad e => by cases e), FEND⟩

theorem fd_8 (fl st : Int) (x : Nat) (a : Option Addr) (len cap : Nat) (b : List UInt8) (w : World) (h0 : 0 ≤ fl) (h1 : fl ≤ 255) (hs : SrcAt w a b) (hl : b.length = len) (hc : len ≤ cap) (hm : len ≤ 16777215) (hn : 4 ≤ len) (hz : (num (b.take 4) % 2147483648 == 0) = false) :
    Calls Try.prog 37 #[.agg #[.int .i64 8, .int .i64 fl, .int .i64 st, .slice none 0 0, .int .i64 (x : Int), .int .u32 0, .int .i64 0, .int .i64 0, .int .i64 0, .bool false, .int .i64 0, .slice none 0 0], .slice a len cap] w fun e w' => RdAs w (⟨8, fl, st, [], x, 0, 0, ((num (b.take 4) % 2147483648 : Nat) : Int), 0, false, 0, []⟩, ⟨false, 0, 0⟩) e w' := by
  obtain ⟨W, hW⟩ : ∃ W, W = ((w.alloc (.cells #[.int .i64 8, .int .i64 fl, .int .i64 st, .slice none 0 0, .int .i64 (x : Int), .int .u32 0, .int .i64 0, .int .i64 0, .int .i64 0, .bool false, .int .i64 0, .slice none 0 0] 36)).alloc (.cells #[.int .i64 0, .int .i64 0, .int .i64 0, .slice none 0 0, .int .i64 0, .int .u32 0, .int .i64 0, .int .i64 0, .int .i64 0, .bool false, .int .i64 0, .slice none 0 0] 36)).alloc (.cells #[.bool false, .int .i64 0, .int .i64 0] 38) := ⟨_, rfl⟩
  have HFW : Hid (Fr (fun _ => False) w W) := by rw [hW]; exact (((Fr.refl _ _).alloc _).alloc _).alloc _
  have A0 : Hid (W.heap[w.heap.size]? = some (.cells #[.int .i64 8, .int .i64 fl, .int .i64 st, .slice none 0 0, .int .i64 (x : Int), .int .u32 0, .int .i64 0, .int .i64 0, .int .i64 0, .bool false, .int .i64 0, .slice none 0 0] 36 (0, 0))) := by rw [hW]; exact past_at _ (past_at _ (heap_alloc_new w _))
  have hr1 : W.heap[w.heap.size + 1]? = some (.cells #[.int .i64 0, .int .i64 0, .int .i64 0, .slice none 0 0, .int .i64 0, .int .u32 0, .int .i64 0, .int .i64 0, .int .i64 0, .bool false, .int .i64 0, .slice none 0 0] 36 (0, 0)) := by rw [hW]; exact past_at _ (last_at _ (by simp))
  have hr2 : W.heap[w.heap.size + 2]? = some (.cells #[.bool false, .int .i64 0, .int .i64 0] 38 (0, 0)) := by rw [hW]; exact last_at _ (by simp)
  have HRES : Hid (∀ w', Fr (fun k => k = w.heap.size) W w' → w'.heap[w.heap.size + 1]? = some (.cells #[.int .i64 0, .int .i64 0, .int .i64 0, .slice none 0 0, .int .i64 0, .int .u32 0, .int .i64 0, .int .i64 0, .int .i64 0, .bool false, .int .i64 0, .slice none 0 0] 36 (0, 0)) ∧ w'.heap[w.heap.size + 2]? = some (.cells #[.bool false, .int .i64 0, .int .i64 0] 38 (0, 0))) := fun w' hf => ⟨(hf.block _ (lt_of_heap hr1) (by omega)).trans hr1, (hf.block _ (lt_of_heap hr2) (by omega)).trans hr2⟩
  have HS : Hid (∀ w', Fr (fun k => k = w.heap.size) W w' → SrcAt w' a b) := fun w' hf => src_ge hs ((HFW.out.mono (T := fun k => w.heap.size ≤ k) (fun _ _ e => e.elim)).trans (hf.mono (fun k _ e => by omega)))
  have HL : Hid (b.length = len) := hl
  obtain ⟨c0, c1, c2, c3, c4, c5, c6, c7, c8, c9, c10, c11⟩ := cells12 A0.out
  have F0 : Hid (Fr (fun k => k = w.heap.size) W W) := Fr.refl _ _
  have KN : Hid (∀ w', Fr (fun k => k = w.heap.size) W w' → Calls Try.prog 49 #[.slice a len cap, .int .i64 0] w' fun e w2 => e = .returned (.tuple #[.int .i64 ((num (b.take 4) % 2147483648 : Nat) : Int), .int .i64 4, .int .i64 0]) ∧ w' = w2) := fun w' hf => by
    have h := RU31 a len cap ((0 : Nat) : Int) w' b (HS.out w' hf) hl (by omega)
    rw [read_at 4 0 b (by omega)] at h
    refine h.mono ?_
    rintro e w2 ⟨he, rfl⟩
    exact ⟨he, rfl⟩
  obtain ⟨N, hN⟩ : ∃ N, num (b.take 4) % 2147483648 = N := ⟨_, rfl⟩
  rw [hN] at KN hz
  have z1 : W.frozen? ⟨w.heap.size, 7, none⟩ = false := frozen_of_heap A0.out
  have A1 : Hid ((W.setCell ⟨w.heap.size, 7, none⟩ (.int .i64 (N : Int))).heap[w.heap.size]? = some (.cells #[.int .i64 8, .int .i64 fl, .int .i64 st, .slice none 0 0, .int .i64 (x : Int), .int .u32 0, .int .i64 0, .int .i64 (N : Int), .int .i64 0, .bool false, .int .i64 0, .slice none 0 0] 36 (0, 0))) := block_set A0.out
  have F1 : Hid (Fr (fun k => k = w.heap.size) W (W.setCell ⟨w.heap.size, 7, none⟩ (.int .i64 (N : Int)))) := F0.out.setB _ _
  try rw [hN]
  have hz2 : ((N : Int) == 0) = false := by rw [← hz, Bool.eq_iff_iff]; simp
  clear hz
  clear hs hl hr1 hr2
  go_enter Try.func37, Try.ntmps37
  go_wp2_with (fail)
  rw [← hW]
  clear hW
  go_wp2_with first
    | (go_at_call 49; refine (KN.out _ F0.out).mono ?_; rintro e w' ⟨rfl, rfl⟩)
    | (refine wpList_storeB rfl 36 (.tmp 4) (.tmp 43) rfl (w.heap.size + 1) #[.int .i64 0, .int .i64 0, .int .i64 0, .slice none 0 0, .int .i64 0, .int .u32 0, .int .i64 0, .int .i64 0, .int .i64 0, .bool false, .int .i64 0, .slice none 0 0] #[.int .i64 8, .int .i64 fl, .int .i64 st, .slice none 0 0, .int .i64 (x : Int), .int .u32 0, .int .i64 0, .int .i64 (N : Int), .int .i64 0, .bool false, .int .i64 0, .slice none 0 0] 36 rfl rfl (HRES.out _ F1.out).1 rfl (by kernel_rfl) (by simp [Value.oneCell']) ?_; intro w4 H4 F4)
    | (refine wpList_storeB rfl 38 (.tmp 5) (.tmp 44) rfl (w.heap.size + 2) #[.bool false, .int .i64 0, .int .i64 0] #[.bool false, .int .i64 0, .int .i64 0] 38 rfl rfl ((F4.out.block _ (lt_of_heap (HRES.out _ F1.out).2) (by omega)).trans (HRES.out _ F1.out).2) rfl (by kernel_rfl) (by simp [Value.oneCell']) ?_; intro w5 H5 F5)
  obtain ⟨r0, r1, r2, r3, r4, r5, r6, r7, r8, r9, r10, r11⟩ := cells12 ((F5.out.block _ (lt_of_heap H4.out) (by omega)).trans H4.out)
  obtain ⟨s0, s1, s2⟩ := cells3 H5.out
  have FALL : Fr (fun k => k = w.heap.size + 1 ∨ k = w.heap.size + 2) _ w5 := (F4.out.mono (fun _ _ e => .inl e)).trans (F5.out.mono (fun _ _ e => .inr e))
  refine bodyPost_ret (v := .tuple #[.agg #[.int .i64 8, .int .i64 fl, .int .i64 st, .slice none 0 0, .int .i64 (x : Int), .int .u32 0, .int .i64 0, .int .i64 (N : Int), .int .i64 0, .bool false, .int .i64 0, .slice none 0 0], .agg #[.bool false, .int .i64 0, .int .i64 0]]) (by simp [results, Try.results37, go_sem, r0, r1, r2, r3, r4, r5, r6, r7, r8, r9, r10, r11, s0, s1, s2]) rfl ?_
  have FEND : Fr (fun _ => False) w w5 := ((((HFW.out.mono (T := fun k => w.heap.size ≤ k) (fun _ _ e => e.elim)).trans (F1.out.mono (fun k _ e => by omega))).trans (FALL.mono (fun k _ e => by omega)))).mono (fun k hk e => by omega)
  exact ⟨none, 0, none, 0, rfl, SrcAt.nil _ _, SetsAt.nil _, (fun ad e => by cases e), (fun ad e => by cases e), FEND⟩

theorem fd_8z (fl st : Int) (x : Nat) (a : Option Addr) (len cap : Nat) (b : List UInt8) (w : World) (h0 : 0 ≤ fl) (h1 : fl ≤ 255) (hs : SrcAt w a b) (hl : b.length = len) (hc : len ≤ cap) (hm : len ≤ 16777215) (hn : 4 ≤ len) (hz : (num (b.take 4) % 2147483648 == 0) = true) :
    Calls Try.prog 37 #[.agg #[.int .i64 8, .int .i64 fl, .int .i64 st, .slice none 0 0, .int .i64 (x : Int), .int .u32 0, .int .i64 0, .int .i64 0, .int .i64 0, .bool false, .int .i64 0, .slice none 0 0], .slice a len cap] w fun e w' => RdAs w (⟨8, fl, st, [], x, 0, 0, ((num (b.take 4) % 2147483648 : Nat) : Int), 0, false, 0, []⟩, ⟨true, st, 1⟩) e w' := by
  obtain ⟨W, hW⟩ : ∃ W, W = ((w.alloc (.cells #[.int .i64 8, .int .i64 fl, .int .i64 st, .slice none 0 0, .int .i64 (x : Int), .int .u32 0, .int .i64 0, .int .i64 0, .int .i64 0, .bool false, .int .i64 0, .slice none 0 0] 36)).alloc (.cells #[.int .i64 0, .int .i64 0, .int .i64 0, .slice none 0 0, .int .i64 0, .int .u32 0, .int .i64 0, .int .i64 0, .int .i64 0, .bool false, .int .i64 0, .slice none 0 0] 36)).alloc (.cells #[.bool false, .int .i64 0, .int .i64 0] 38) := ⟨_, rfl⟩
  have HFW : Hid (Fr (fun _ => False) w W) := by rw [hW]; exact (((Fr.refl _ _).alloc _).alloc _).alloc _
  have A0 : Hid (W.heap[w.heap.size]? = some (.cells #[.int .i64 8, .int .i64 fl, .int .i64 st, .slice none 0 0, .int .i64 (x : Int), .int .u32 0, .int .i64 0, .int .i64 0, .int .i64 0, .bool false, .int .i64 0, .slice none 0 0] 36 (0, 0))) := by rw [hW]; exact past_at _ (past_at _ (heap_alloc_new w _))
  have hr1 : W.heap[w.heap.size + 1]? = some (.cells #[.int .i64 0, .int .i64 0, .int .i64 0, .slice none 0 0, .int .i64 0, .int .u32 0, .int .i64 0, .int .i64 0, .int .i64 0, .bool false, .int .i64 0, .slice none 0 0] 36 (0, 0)) := by rw [hW]; exact past_at _ (last_at _ (by simp))
  have hr2 : W.heap[w.heap.size + 2]? = some (.cells #[.bool false, .int .i64 0, .int .i64 0] 38 (0, 0)) := by rw [hW]; exact last_at _ (by simp)
  have HRES : Hid (∀ w', Fr (fun k => k = w.heap.size) W w' → w'.heap[w.heap.size + 1]? = some (.cells #[.int .i64 0, .int .i64 0, .int .i64 0, .slice none 0 0, .int .i64 0, .int .u32 0, .int .i64 0, .int .i64 0, .int .i64 0, .bool false, .int .i64 0, .slice none 0 0] 36 (0, 0)) ∧ w'.heap[w.heap.size + 2]? = some (.cells #[.bool false, .int .i64 0, .int .i64 0] 38 (0, 0))) := fun w' hf => ⟨(hf.block _ (lt_of_heap hr1) (by omega)).trans hr1, (hf.block _ (lt_of_heap hr2) (by omega)).trans hr2⟩
  have HS : Hid (∀ w', Fr (fun k => k = w.heap.size) W w' → SrcAt w' a b) := fun w' hf => src_ge hs ((HFW.out.mono (T := fun k => w.heap.size ≤ k) (fun _ _ e => e.elim)).trans (hf.mono (fun k _ e => by omega)))
  have HL : Hid (b.length = len) := hl
  obtain ⟨c0, c1, c2, c3, c4, c5, c6, c7, c8, c9, c10, c11⟩ := cells12 A0.out
  have F0 : Hid (Fr (fun k => k = w.heap.size) W W) := Fr.refl _ _
  have KN : Hid (∀ w', Fr (fun k => k = w.heap.size) W w' → Calls Try.prog 49 #[.slice a len cap, .int .i64 0] w' fun e w2 => e = .returned (.tuple #[.int .i64 ((num (b.take 4) % 2147483648 : Nat) : Int), .int .i64 4, .int .i64 0]) ∧ w' = w2) := fun w' hf => by
    have h := RU31 a len cap ((0 : Nat) : Int) w' b (HS.out w' hf) hl (by omega)
    rw [read_at 4 0 b (by omega)] at h
    refine h.mono ?_
    rintro e w2 ⟨he, rfl⟩
    exact ⟨he, rfl⟩
  obtain ⟨N, hN⟩ : ∃ N, num (b.take 4) % 2147483648 = N := ⟨_, rfl⟩
  rw [hN] at KN hz
  have z1 : W.frozen? ⟨w.heap.size, 7, none⟩ = false := frozen_of_heap A0.out
  have A1 : Hid ((W.setCell ⟨w.heap.size, 7, none⟩ (.int .i64 (N : Int))).heap[w.heap.size]? = some (.cells #[.int .i64 8, .int .i64 fl, .int .i64 st, .slice none 0 0, .int .i64 (x : Int), .int .u32 0, .int .i64 0, .int .i64 (N : Int), .int .i64 0, .bool false, .int .i64 0, .slice none 0 0] 36 (0, 0))) := block_set A0.out
  have F1 : Hid (Fr (fun k => k = w.heap.size) W (W.setCell ⟨w.heap.size, 7, none⟩ (.int .i64 (N : Int)))) := F0.out.setB _ _
  try rw [hN]
  have hz2 : ((N : Int) == 0) = true := by rw [← hz, Bool.eq_iff_iff]; simp
  clear hz
  clear hs hl hr1 hr2
  go_enter Try.func37, Try.ntmps37
  go_wp2_with (fail)
  rw [← hW]
  clear hW
  go_wp2_with first
    | (go_at_call 49; refine (KN.out _ F0.out).mono ?_; rintro e w' ⟨rfl, rfl⟩)
  refine wp_region_held_drew (S := fun w2 => w2.heap[w.heap.size]? = some (.cells #[.int .i64 8, .int .i64 fl, .int .i64 st, .slice none 0 0, .int .i64 (x : Int), .int .u32 0, .int .i64 0, .int .i64 (N : Int), .int .i64 0, .bool false, .int .i64 0, .slice none 0 0] 36 (0, 0))) (by kernel_rfl) A1.out (fun hHeld => ?_)
  refine wpAnyH_take (i := 0) (oi := _) (v := .agg #[.int .i64 8, .int .i64 fl, .int .i64 st, .slice none 0 0, .int .i64 (x : Int), .int .u32 0, .int .i64 0, .int .i64 (N : Int), .int .i64 0, .bool false, .int .i64 0, .slice none 0 0]) rfl (by kernel_rfl) (by kernel_rfl) (by kernel_rfl) (fun _ _ _ h => h) (Or.inl ⟨by kernel_rfl, fun w2 hw => by obtain ⟨c0, c1, c2, c3, c4, c5, c6, c7, c8, c9, c10, c11⟩ := cells12 hw; go_simp⟩) hHeld ?_
  refine wpAnyH_take (i := 1) (oi := _) (v := .pointer (some ⟨w.heap.size, 2, none⟩)) rfl (by kernel_rfl) (by kernel_rfl) (by kernel_rfl) (fun _ _ _ h => h) (Or.inl ⟨by kernel_rfl, fun w2 hw => by go_simp⟩) hHeld ?_
  refine wpAnyH_take (i := 2) (oi := _) (v := .int .i64 st) rfl (by kernel_rfl) (by kernel_rfl) (by kernel_rfl) (fun _ _ _ h => h) (Or.inl ⟨by kernel_rfl, fun w2 hw => by obtain ⟨c0, c1, c2, c3, c4, c5, c6, c7, c8, c9, c10, c11⟩ := cells12 hw; go_simp⟩) hHeld ?_
  refine wpAnyH_take (i := 3) (oi := _) (v := .agg #[.bool true, .int .i64 st, .int .i64 1]) rfl (by kernel_rfl) (by kernel_rfl) (by kernel_rfl) (fun _ _ _ h => h) (Or.inl ⟨by kernel_rfl, fun w2 hw => by go_simp⟩) hHeld ?_
  simp only [Act.put, List.getElem_toArray, List.getElem_cons_succ, List.getElem_cons_zero, List.setIfInBounds_toArray, List.set_cons_zero, List.set_cons_succ]
  refine wpAnyH_ready (rs := [4]) (by kernel_rfl) (by simp) ?_
  refine AllReadyH.cons rfl (fun K hK => ?_) AllReadyH.nil
  have FD : Hid (Fr (fun k => k = w.heap.size) W (W.setCell ⟨w.heap.size, 7, none⟩ (.int .i64 (N : Int))).drew) := F1.out.drew
  refine stepR_storeB rfl rfl 36 (.tmp 4) (.tmp 39) rfl (w.heap.size + 1) #[.int .i64 0, .int .i64 0, .int .i64 0, .slice none 0 0, .int .i64 0, .int .u32 0, .int .i64 0, .int .i64 0, .int .i64 0, .bool false, .int .i64 0, .slice none 0 0] #[.int .i64 8, .int .i64 fl, .int .i64 st, .slice none 0 0, .int .i64 (x : Int), .int .u32 0, .int .i64 0, .int .i64 (N : Int), .int .i64 0, .bool false, .int .i64 0, .slice none 0 0] 36 rfl rfl (HRES.out _ FD.out).1 rfl (by kernel_rfl) (by simp [Value.oneCell']) ?_
  intro w4 H4 F4
  refine hK.out _ _ ((F4.out.block _ (lt_of_heap hHeld) (by omega)).trans hHeld) (fun hHeld3 => ?_)
  clear hK K
  refine wpAnyH_ready (rs := [5]) (by kernel_rfl) (by simp) ?_
  refine AllReadyH.cons rfl (fun K hK => ?_) AllReadyH.nil
  refine stepR_storeB rfl rfl 38 (.tmp 5) (.tmp 42) rfl (w.heap.size + 2) #[.bool false, .int .i64 0, .int .i64 0] #[.bool true, .int .i64 st, .int .i64 1] 38 rfl rfl ((F4.out.block _ (lt_of_heap (HRES.out _ FD.out).2) (by omega)).trans (HRES.out _ FD.out).2) rfl (by kernel_rfl) (by simp [Value.oneCell']) ?_
  intro w5 H5 F5
  refine hK.out _ _ ((F5.out.block _ (lt_of_heap hHeld3) (by omega)).trans hHeld3) (fun _ => ?_)
  clear hK K
  refine wpAnyH_done (by kernel_rfl) ?_ _
  go_wp2_with (fail)
  obtain ⟨r0, r1, r2, r3, r4, r5, r6, r7, r8, r9, r10, r11⟩ := cells12 ((F5.out.block _ (lt_of_heap H4.out) (by omega)).trans H4.out)
  obtain ⟨s0, s1, s2⟩ := cells3 H5.out
  have FALL : Fr (fun k => k = w.heap.size + 1 ∨ k = w.heap.size + 2) _ w5 := (F4.out.mono (fun _ _ e => .inl e)).trans (F5.out.mono (fun _ _ e => .inr e))
  refine bodyPost_ret (v := .tuple #[.agg #[.int .i64 8, .int .i64 fl, .int .i64 st, .slice none 0 0, .int .i64 (x : Int), .int .u32 0, .int .i64 0, .int .i64 (N : Int), .int .i64 0, .bool false, .int .i64 0, .slice none 0 0], .agg #[.bool true, .int .i64 st, .int .i64 1]]) (by simp [results, Try.results37, go_sem, r0, r1, r2, r3, r4, r5, r6, r7, r8, r9, r10, r11, s0, s1, s2]) rfl ?_
  have FEND : Fr (fun _ => False) w w5 := ((((HFW.out.mono (T := fun k => w.heap.size ≤ k) (fun _ _ e => e.elim)).trans (FD.out.mono (fun k _ e => by omega))).trans (FALL.mono (fun k _ e => by omega)))).mono (fun k hk e => by omega)
  exact ⟨none, 0, none, 0, rfl, SrcAt.nil _ _, SetsAt.nil _, (fun ad e => by cases e), (fun ad e => by cases e), FEND⟩

theorem fd_2 (fl st : Int) (x : Nat) (a : Option Addr) (len cap : Nat) (b : List UInt8) (w : World) (h0 : 0 ≤ fl) (h1 : fl ≤ 255) (hs : SrcAt w a b) (hl : b.length = len) (hc : len ≤ cap) (hm : len ≤ 16777215) (hn : 5 ≤ len) :
    Calls Try.prog 37 #[.agg #[.int .i64 2, .int .i64 fl, .int .i64 st, .slice none 0 0, .int .i64 (x : Int), .int .u32 0, .int .i64 0, .int .i64 0, .int .i64 0, .bool false, .int .i64 0, .slice none 0 0], .slice a len cap] w fun e w' => RdAs w (rdP 2 ⟨2, fl, st, [], x, 0, 0, 0, 0, false, 0, []⟩ b, ⟨false, 0, 0⟩) e w' := by
  obtain ⟨W, hW⟩ : ∃ W, W = ((w.alloc (.cells #[.int .i64 2, .int .i64 fl, .int .i64 st, .slice none 0 0, .int .i64 (x : Int), .int .u32 0, .int .i64 0, .int .i64 0, .int .i64 0, .bool false, .int .i64 0, .slice none 0 0] 36)).alloc (.cells #[.int .i64 0, .int .i64 0, .int .i64 0, .slice none 0 0, .int .i64 0, .int .u32 0, .int .i64 0, .int .i64 0, .int .i64 0, .bool false, .int .i64 0, .slice none 0 0] 36)).alloc (.cells #[.bool false, .int .i64 0, .int .i64 0] 38) := ⟨_, rfl⟩
  have HFW : Hid (Fr (fun _ => False) w W) := by rw [hW]; exact (((Fr.refl _ _).alloc _).alloc _).alloc _
  have A0 : Hid (W.heap[w.heap.size]? = some (.cells #[.int .i64 2, .int .i64 fl, .int .i64 st, .slice none 0 0, .int .i64 (x : Int), .int .u32 0, .int .i64 0, .int .i64 0, .int .i64 0, .bool false, .int .i64 0, .slice none 0 0] 36 (0, 0))) := by rw [hW]; exact past_at _ (past_at _ (heap_alloc_new w _))
  have hr1 : W.heap[w.heap.size + 1]? = some (.cells #[.int .i64 0, .int .i64 0, .int .i64 0, .slice none 0 0, .int .i64 0, .int .u32 0, .int .i64 0, .int .i64 0, .int .i64 0, .bool false, .int .i64 0, .slice none 0 0] 36 (0, 0)) := by rw [hW]; exact past_at _ (last_at _ (by simp))
  have hr2 : W.heap[w.heap.size + 2]? = some (.cells #[.bool false, .int .i64 0, .int .i64 0] 38 (0, 0)) := by rw [hW]; exact last_at _ (by simp)
  have HRES : Hid (∀ w', Fr (fun k => k = w.heap.size) W w' → w'.heap[w.heap.size + 1]? = some (.cells #[.int .i64 0, .int .i64 0, .int .i64 0, .slice none 0 0, .int .i64 0, .int .u32 0, .int .i64 0, .int .i64 0, .int .i64 0, .bool false, .int .i64 0, .slice none 0 0] 36 (0, 0)) ∧ w'.heap[w.heap.size + 2]? = some (.cells #[.bool false, .int .i64 0, .int .i64 0] 38 (0, 0))) := fun w' hf => ⟨(hf.block _ (lt_of_heap hr1) (by omega)).trans hr1, (hf.block _ (lt_of_heap hr2) (by omega)).trans hr2⟩
  have HS : Hid (∀ w', Fr (fun k => k = w.heap.size) W w' → SrcAt w' a b) := fun w' hf => src_ge hs ((HFW.out.mono (T := fun k => w.heap.size ≤ k) (fun _ _ e => e.elim)).trans (hf.mono (fun k _ e => by omega)))
  have HL : Hid (b.length = len) := hl
  obtain ⟨c0, c1, c2, c3, c4, c5, c6, c7, c8, c9, c10, c11⟩ := cells12 A0.out
  have F0 : Hid (Fr (fun k => k = w.heap.size) W W) := Fr.refl _ _
  have KP : Hid (∀ w', Fr (fun k => k = w.heap.size) W w' → Calls Try.prog 51 #[.agg #[.int .i64 2, .int .i64 fl, .int .i64 st, .slice none 0 0, .int .i64 (x : Int), .int .u32 0, .int .i64 0, .int .i64 0, .int .i64 0, .bool false, .int .i64 0, .slice none 0 0], .slice a len cap] w' fun e w2 => e = .returned (.agg #[.int .i64 2, .int .i64 fl, .int .i64 st, .slice none 0 0, .int .i64 (x : Int), .int .u32 0, .int .i64 0, .int .i64 0, .int .i64 ((num (b.take 4) % 2147483648 : Nat) : Int), .bool (decide (128 ≤ (b.getD 0 0).toNat)), .int .i64 (((b.getD 4 0).toNat : Nat) + 1), .slice none 0 0]) ∧ Fr (fun _ => False) w' w2) := fun w' hf => prior_in ⟨2, fl, st, [], x, 0, 0, 0, 0, false, 0, []⟩ none none 0 0 a len cap b w' (HS.out w' hf) hl (by omega) (by omega)
  obtain ⟨dN, hdN⟩ : ∃ dN : Int, ((num (b.take 4) % 2147483648 : Nat) : Int) = dN := ⟨_, rfl⟩
  obtain ⟨on, hon⟩ : ∃ on, decide (128 ≤ (b.getD 0 0).toNat) = on := ⟨_, rfl⟩
  obtain ⟨wN, hwN⟩ : ∃ wN : Int, ((b.getD 4 0).toNat : Int) + 1 = wN := ⟨_, rfl⟩
  rw [hdN, hon, hwN] at KP
  have hres : (rdP 2 ⟨2, fl, st, [], x, 0, 0, 0, 0, false, 0, []⟩ b) = ⟨2, fl, st, [], x, 0, 0, 0, dN, on, wN, []⟩ := by simp only [rdP, hdN, hon, hwN]; simp
  rw [hres]
  clear hdN hon hwN hres
  clear hs hl hr1 hr2
  go_enter Try.func37, Try.ntmps37
  go_wp2_with (fail)
  rw [← hW]
  clear hW
  go_wp2_with first
    | (go_at_call 51; refine (KP.out _ F0.out).mono ?_; rintro e wp ⟨rfl, hfp⟩; have FP : Hid (Fr (fun k => k = w.heap.size) W wp) := hfp.mono (fun _ _ e => e.elim); clear hfp)
    | (refine wpList_storeB rfl 36 (.tmp 4) (.tmp 14) rfl (w.heap.size + 1) #[.int .i64 0, .int .i64 0, .int .i64 0, .slice none 0 0, .int .i64 0, .int .u32 0, .int .i64 0, .int .i64 0, .int .i64 0, .bool false, .int .i64 0, .slice none 0 0] #[.int .i64 2, .int .i64 fl, .int .i64 st, .slice none 0 0, .int .i64 (x : Int), .int .u32 0, .int .i64 0, .int .i64 0, .int .i64 dN, .bool on, .int .i64 wN, .slice none 0 0] 36 rfl rfl (HRES.out _ FP.out).1 rfl (by kernel_rfl) (by simp [Value.oneCell']) ?_; intro w4 H4 F4)
    | (refine wpList_storeB rfl 38 (.tmp 5) (.tmp 15) rfl (w.heap.size + 2) #[.bool false, .int .i64 0, .int .i64 0] #[.bool false, .int .i64 0, .int .i64 0] 38 rfl rfl ((F4.out.block _ (lt_of_heap (HRES.out _ FP.out).2) (by omega)).trans (HRES.out _ FP.out).2) rfl (by kernel_rfl) (by simp [Value.oneCell']) ?_; intro w5 H5 F5)
  obtain ⟨r0, r1, r2, r3, r4, r5, r6, r7, r8, r9, r10, r11⟩ := cells12 ((F5.out.block _ (lt_of_heap H4.out) (by omega)).trans H4.out)
  obtain ⟨s0, s1, s2⟩ := cells3 H5.out
  have FALL : Fr (fun k => k = w.heap.size + 1 ∨ k = w.heap.size + 2) _ w5 := (F4.out.mono (fun _ _ e => .inl e)).trans (F5.out.mono (fun _ _ e => .inr e))
  refine bodyPost_ret (v := .tuple #[.agg #[.int .i64 2, .int .i64 fl, .int .i64 st, .slice none 0 0, .int .i64 (x : Int), .int .u32 0, .int .i64 0, .int .i64 0, .int .i64 dN, .bool on, .int .i64 wN, .slice none 0 0], .agg #[.bool false, .int .i64 0, .int .i64 0]]) (by simp [results, Try.results37, go_sem, r0, r1, r2, r3, r4, r5, r6, r7, r8, r9, r10, r11, s0, s1, s2]) rfl ?_
  have FEND : Fr (fun _ => False) w w5 := ((((HFW.out.mono (T := fun k => w.heap.size ≤ k) (fun _ _ e => e.elim)).trans (FP.out.mono (fun k _ e => by omega))).trans (FALL.mono (fun k _ e => by omega)))).mono (fun k hk e => by omega)
  exact ⟨none, 0, none, 0, rfl, SrcAt.nil _ _, SetsAt.nil _, (fun ad e => by cases e), (fun ad e => by cases e), FEND⟩

end Go.Proofs.Ytikaefjhmgcidaa
