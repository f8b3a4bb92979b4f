/- Contract of the joiner's In: a joiner that nobody made. -/
import Derived.Test.YtdndhidinbmpdaaBe
namespace Go.Proofs.Ytdndhidinbmpdaa
open Go.RowKit
set_option linter.unusedVariables false
set_option maxRecDepth 100000
set_option maxHeartbeats 4000000

theorem In_nil (f : Fra) (p q : Option Addr) (cp cq : Nat) (w : World) :
    Calls Try.prog 15 #[.pointer none, .agg #[.int .i64 f.k, .int .i64 f.fl, .int .i64 f.st, .slice p f.X.length cp, .int .i64 f.pad, .int .u32 f.code, .int .i64 f.last, .int .i64 f.inc, .int .i64 f.dep, .bool f.only, .int .i64 f.wt, .slice q f.Y.length cq]] w fun e w' => e = .returned (.tuple #[zeroV, .bool false, .agg #[.bool true, .int .i64 0, .int .i64 2]]) ∧ Fr (fun _ => False) w w' := by
  obtain ⟨W, hW⟩ : ∃ W, W = ((w.alloc (.cells #[.int .i64 f.k, .int .i64 f.fl, .int .i64 f.st, .slice p f.X.length cp, .int .i64 f.pad, .int .u32 f.code, .int .i64 f.last, .int .i64 f.inc, .int .i64 f.dep, .bool f.only, .int .i64 f.wt, .slice q f.Y.length cq] 34)).alloc (.cells #[.int .i64 0, .int .i64 0, .int .i64 0, .slice none 0 0, .int .i64 0, .int .u32 0, .int .i64 0, .int .i64 0, .int .i64 0, .bool false, .int .i64 0, .slice none 0 0] 34)).alloc (.cells #[.bool false, .int .i64 0, .int .i64 0] 43) := ⟨_, rfl⟩
  have HFW : Hid (Fr (fun _ => False) w W) := by rw [hW]; exact (((Fr.refl _ _).alloc _).alloc _).alloc _
  have A1 : Hid (FAt W w.heap.size f p cp q cq) := by rw [hW]; exact past_at _ (past_at _ (heap_alloc_new w _))
  have R1 : Hid (W.heap[w.heap.size + 1]? = some (.cells #[.int .i64 0, .int .i64 0, .int .i64 0, .slice none 0 0, .int .i64 0, .int .u32 0, .int .i64 0, .int .i64 0, .int .i64 0, .bool false, .int .i64 0, .slice none 0 0] 34 (0, 0))) := by rw [hW]; exact past_at _ (last_at _ (by simp))
  have R2 : Hid (W.heap[w.heap.size + 2]? = some (.cells #[.bool false, .int .i64 0, .int .i64 0] 43 (0, 0))) := by rw [hW]; exact last_at _ (by simp)
  have HWS : Hid (W.heap.size = w.heap.size + 3) := by show _ = _; rw [hW]; simp
  have KM : Hid (Calls Try.prog 20 #[.pointer none] W fun e w' => e = .returned (.bool false) ∧ W = w') := made_nil W
  go_enter Try.func15, Try.ntmps15
  go_upto_region 1 with (fail)
  rw [← hW]
  clear hW
  go_wp2_with (first
    | (go_at_call 20; refine KM.out.mono ?_; rintro e w1 ⟨rfl, rfl⟩)
    | (refine wpList_storeB rfl 34 (.tmp 4) (.tmp 11) rfl (w.heap.size + 1) #[.int .i64 0, .int .i64 0, .int .i64 0, .slice none 0 0, .int .i64 0, .int .u32 0, .int .i64 0, .int .i64 0, .int .i64 0, .bool false, .int .i64 0, .slice none 0 0] #[.int .i64 0, .int .i64 0, .int .i64 0, .slice none 0 0, .int .i64 0, .int .u32 0, .int .i64 0, .int .i64 0, .int .i64 0, .bool false, .int .i64 0, .slice none 0 0] 34 rfl rfl R1.out rfl (by kernel_rfl) (by simp [Value.oneCell']) ?_; intro x1 X1 Y1)
    | (refine wpList_storeB rfl 43 (.tmp 6) (.tmp 12) rfl (w.heap.size + 2) #[.bool false, .int .i64 0, .int .i64 0] #[.bool true, .int .i64 0, .int .i64 2] 43 rfl rfl ((Y1.out.block _ (lt_of_heap R2.out) (by omega)).trans R2.out) rfl (by kernel_rfl) (by simp [Value.oneCell']) ?_; intro x2 X2 Y2; refine Hid.out ?_))
  unfold Hid
  go_wp2_with (fail)
  obtain ⟨r0, r1, r2, r3, r4, r5, r6, r7, r8, r9, r10, r11⟩ := cells12 ((Y2.out.block _ (lt_of_heap X1.out) (by omega)).trans X1.out)
  obtain ⟨s0, s1, s2⟩ := cells3 X2.out
  refine bodyPost_ret (v := .tuple #[zeroV, .bool false, .agg #[.bool true, .int .i64 0, .int .i64 2]]) (by simp [zeroV, results, Try.results15, go_sem, r0, r1, r2, r3, r4, r5, r6, r7, r8, r9, r10, r11, s0, s1, s2]) rfl ?_
  exact ⟨rfl, ((HFW.out.mono (T := fun k => k = w.heap.size + 1 ∨ k = w.heap.size + 2) (fun _ _ e => e.elim)).trans ((Y1.out.mono (fun _ _ e => .inl e)).trans (Y2.out.mono (fun _ _ e => .inr e)))).mono (fun k hk e => by omega)⟩
theorem In_zero (g : Nat) (f : Fra) (p q : Option Addr) (cp cq : Nat) (w : World) (h : w.cell? ⟨g, 0, none⟩ = some (.bool false)) :
    Calls Try.prog 15 #[.pointer (some ⟨g, 0, none⟩), .agg #[.int .i64 f.k, .int .i64 f.fl, .int .i64 f.st, .slice p f.X.length cp, .int .i64 f.pad, .int .u32 f.code, .int .i64 f.last, .int .i64 f.inc, .int .i64 f.dep, .bool f.only, .int .i64 f.wt, .slice q f.Y.length cq]] w fun e w' => e = .returned (.tuple #[zeroV, .bool false, .agg #[.bool true, .int .i64 0, .int .i64 2]]) ∧ Fr (fun _ => False) w w' := by
  obtain ⟨W, hW⟩ : ∃ W, W = ((w.alloc (.cells #[.int .i64 f.k, .int .i64 f.fl, .int .i64 f.st, .slice p f.X.length cp, .int .i64 f.pad, .int .u32 f.code, .int .i64 f.last, .int .i64 f.inc, .int .i64 f.dep, .bool f.only, .int .i64 f.wt, .slice q f.Y.length cq] 34)).alloc (.cells #[.int .i64 0, .int .i64 0, .int .i64 0, .slice none 0 0, .int .i64 0, .int .u32 0, .int .i64 0, .int .i64 0, .int .i64 0, .bool false, .int .i64 0, .slice none 0 0] 34)).alloc (.cells #[.bool false, .int .i64 0, .int .i64 0] 43) := ⟨_, rfl⟩
  have HFW : Hid (Fr (fun _ => False) w W) := by rw [hW]; exact (((Fr.refl _ _).alloc _).alloc _).alloc _
  have A1 : Hid (FAt W w.heap.size f p cp q cq) := by rw [hW]; exact past_at _ (past_at _ (heap_alloc_new w _))
  have R1 : Hid (W.heap[w.heap.size + 1]? = some (.cells #[.int .i64 0, .int .i64 0, .int .i64 0, .slice none 0 0, .int .i64 0, .int .u32 0, .int .i64 0, .int .i64 0, .int .i64 0, .bool false, .int .i64 0, .slice none 0 0] 34 (0, 0))) := by rw [hW]; exact past_at _ (last_at _ (by simp))
  have R2 : Hid (W.heap[w.heap.size + 2]? = some (.cells #[.bool false, .int .i64 0, .int .i64 0] 43 (0, 0))) := by rw [hW]; exact last_at _ (by simp)
  have HWS : Hid (W.heap.size = w.heap.size + 3) := by show _ = _; rw [hW]; simp
  have KM : Hid (Calls Try.prog 20 #[.pointer (some ⟨g, 0, none⟩)] W fun e w' => e = .returned (.bool false) ∧ W = w') := made_cell g false W ((HFW.out.cell (p := ⟨g, 0, none⟩) (World.block_lt_of_cell? _ _ h) id).trans h)
  go_enter Try.func15, Try.ntmps15
  go_upto_region 1 with (fail)
  rw [← hW]
  clear hW
  go_wp2_with (first
    | (go_at_call 20; refine KM.out.mono ?_; rintro e w1 ⟨rfl, rfl⟩)
    | (refine wpList_storeB rfl 34 (.tmp 4) (.tmp 11) rfl (w.heap.size + 1) #[.int .i64 0, .int .i64 0, .int .i64 0, .slice none 0 0, .int .i64 0, .int .u32 0, .int .i64 0, .int .i64 0, .int .i64 0, .bool false, .int .i64 0, .slice none 0 0] #[.int .i64 0, .int .i64 0, .int .i64 0, .slice none 0 0, .int .i64 0, .int .u32 0, .int .i64 0, .int .i64 0, .int .i64 0, .bool false, .int .i64 0, .slice none 0 0] 34 rfl rfl R1.out rfl (by kernel_rfl) (by simp [Value.oneCell']) ?_; intro x1 X1 Y1)
    | (refine wpList_storeB rfl 43 (.tmp 6) (.tmp 12) rfl (w.heap.size + 2) #[.bool false, .int .i64 0, .int .i64 0] #[.bool true, .int .i64 0, .int .i64 2] 43 rfl rfl ((Y1.out.block _ (lt_of_heap R2.out) (by omega)).trans R2.out) rfl (by kernel_rfl) (by simp [Value.oneCell']) ?_; intro x2 X2 Y2; refine Hid.out ?_))
  unfold Hid
  go_wp2_with (fail)
  obtain ⟨r0, r1, r2, r3, r4, r5, r6, r7, r8, r9, r10, r11⟩ := cells12 ((Y2.out.block _ (lt_of_heap X1.out) (by omega)).trans X1.out)
  obtain ⟨s0, s1, s2⟩ := cells3 X2.out
  refine bodyPost_ret (v := .tuple #[zeroV, .bool false, .agg #[.bool true, .int .i64 0, .int .i64 2]]) (by simp [zeroV, results, Try.results15, go_sem, r0, r1, r2, r3, r4, r5, r6, r7, r8, r9, r10, r11, s0, s1, s2]) rfl ?_
  exact ⟨rfl, ((HFW.out.mono (T := fun k => k = w.heap.size + 1 ∨ k = w.heap.size + 2) (fun _ _ e => e.elim)).trans ((Y1.out.mono (fun _ _ e => .inl e)).trans (Y2.out.mono (fun _ _ e => .inr e)))).mono (fun k hk e => by omega)⟩
end Go.Proofs.Ytdndhidinbmpdaa
