/- A joiner that nobody made: the law's walk. -/
import Derived.Test.YtdndhidinbmpdaaBf
namespace Go.Proofs.Ytdndhidinbmpdaa
open Go.RowKit
set_option linter.unusedVariables false
set_option maxRecDepth 100000
set_option maxHeartbeats 4000000

theorem bzero_walk (f : Fra) (p q : Option Addr) (cp cq : Nat) (w : World) :
    Calls Try.prog 7 #[.agg #[.int .i64 f.k, .int .i64 f.fl, .int .i64 f.st, .slice p f.X.length cp, .int .i64 f.pad, .int .u32 f.code, .int .i64 f.last, .int .i64 f.inc, .int .i64 f.dep, .bool f.only, .int .i64 f.wt, .slice q f.Y.length cq]] w fun e w' => e = .returned (.bool true) ∧ Below w.heap.size w w' := by
  obtain ⟨W, hW⟩ : ∃ W, W = (w.alloc (.cells #[.int .i64 f.k, .int .i64 f.fl, .int .i64 f.st, .slice p f.X.length cp, .int .i64 f.pad, .int .u32 f.code, .int .i64 f.last, .int .i64 f.inc, .int .i64 f.dep, .bool f.only, .int .i64 f.wt, .slice q f.Y.length cq] 34)).alloc (.cells #[.bool false, .int .i64 0, .int .i64 0, .int .i64 0, .int .i64 0, .slice none 0 0] 56) := ⟨_, rfl⟩
  have HFW : Hid (Fr (fun _ => False) w W) := by rw [hW]; exact ((Fr.refl _ _).alloc _).alloc _
  have A1 : Hid (FAt W w.heap.size f p cp q cq) := by rw [hW]; exact past_at _ (heap_alloc_new w _)
  have B1 : Hid (W.heap[w.heap.size + 1]? = some (.cells #[.bool false, .int .i64 0, .int .i64 0, .int .i64 0, .int .i64 0, .slice none 0 0] 56 (0, 0))) := by rw [hW]; exact last_at _ (by simp)
  have KN : Hid (Calls Try.prog 15 #[.pointer none, .agg #[.int .i64 f.k, .int .i64 f.fl, .int .i64 f.st, .slice p f.X.length cp, .int .i64 f.pad, .int .u32 f.code, .int .i64 f.last, .int .i64 f.inc, .int .i64 f.dep, .bool f.only, .int .i64 f.wt, .slice q f.Y.length cq]] W fun e w' => e = .returned (.tuple #[zeroV, .bool false, .agg #[.bool true, .int .i64 0, .int .i64 2]]) ∧ Fr (fun _ => False) W w') := In_nil f p q cp cq W
  obtain ⟨d0, d1, d2, d3, d4, d5, d6, d7, d8, d9, d10, d11⟩ := fcells A1.out
  go_enter Try.func7, Try.ntmps7
  go_upto_region 3 with (fail)
  rw [← hW]
  clear hW
  go_upto_region 4 with (first
    | (go_at_call 15; refine KN.out.mono ?_; rintro e w1 ⟨rfl, hf1⟩; have F1 : Hid (Fr (fun _ => False) W w1) := hf1; clear hf1; unfold zeroV)
    | (refine wpList_storeB rfl 34 (.tmp 5) (.tmp 15) rfl w1.heap.size #[.int .i64 0, .int .i64 0, .int .i64 0, .slice none 0 0, .int .i64 0, .int .u32 0, .int .i64 0, .int .i64 0, .int .i64 0, .bool false, .int .i64 0, .slice none 0 0] #[.int .i64 0, .int .i64 0, .int .i64 0, .slice none 0 0, .int .i64 0, .int .u32 0, .int .i64 0, .int .i64 0, .int .i64 0, .bool false, .int .i64 0, .slice none 0 0] 34 rfl rfl (past_at _ (heap_alloc_new w1 _)) rfl (by kernel_rfl) (by simp [Value.oneCell']) ?_; intro x1 X1 Y1)
    | (refine wpList_storeB rfl 43 (.tmp 7) (.tmp 17) rfl (w1.heap.size + 1) #[.bool false, .int .i64 0, .int .i64 0] #[.bool true, .int .i64 0, .int .i64 2] 43 rfl rfl ((Y1.out.block _ (by simp) (by omega)).trans (last_at _ (by simp))) rfl (by kernel_rfl) (by simp [Value.oneCell']) ?_; intro x2 X2 Y2))
  have F2 : Hid (Fr (fun _ => False) w1 x2) := ((((Fr.refl (fun k => k = w1.heap.size ∨ k = w1.heap.size + 1) _).alloc _).alloc _).trans ((Y1.out.mono (fun _ _ e => .inl e)).trans (Y2.out.mono (fun _ _ e => .inr e)))).mono (fun k hk e => by omega)
  have FA : Hid (Fr (fun _ => False) W x2) := F1.out.trans F2.out
  clear d0 d1 d2 d3 d4 d5 d6 d7 d8 d9 d10 d11
  obtain ⟨d0, d1, d2, d3, d4, d5, d6, d7, d8, d9, d10, d11⟩ := fcells (A1.out.later FA.out)
  have KZ : Hid (Calls Try.prog 15 #[.pointer (some ⟨w.heap.size + 1, 0, none⟩), .agg #[.int .i64 f.k, .int .i64 f.fl, .int .i64 f.st, .slice p f.X.length cp, .int .i64 f.pad, .int .u32 f.code, .int .i64 f.last, .int .i64 f.inc, .int .i64 f.dep, .bool f.only, .int .i64 f.wt, .slice q f.Y.length cq]] x2 fun e w' => e = .returned (.tuple #[zeroV, .bool false, .agg #[.bool true, .int .i64 0, .int .i64 2]]) ∧ Fr (fun _ => False) x2 w') := In_zero (w.heap.size + 1) f p q cp cq x2 (cell_of_heap ((FA.out.block _ (lt_of_heap B1.out) id).trans B1.out) rfl)
  go_upto_region 5 with (first
    | (go_at_call 15; refine KZ.out.mono ?_; rintro e w3 ⟨rfl, hf3⟩; have F3 : Hid (Fr (fun _ => False) x2 w3) := hf3; clear hf3; unfold zeroV)
    | (refine wpList_storeB rfl 34 (.tmp 8) (.tmp 21) rfl w3.heap.size #[.int .i64 0, .int .i64 0, .int .i64 0, .slice none 0 0, .int .i64 0, .int .u32 0, .int .i64 0, .int .i64 0, .int .i64 0, .bool false, .int .i64 0, .slice none 0 0] #[.int .i64 0, .int .i64 0, .int .i64 0, .slice none 0 0, .int .i64 0, .int .u32 0, .int .i64 0, .int .i64 0, .int .i64 0, .bool false, .int .i64 0, .slice none 0 0] 34 rfl rfl (past_at _ (heap_alloc_new w3 _)) rfl (by kernel_rfl) (by simp [Value.oneCell']) ?_; intro x3 X3 Y3)
    | (refine wpList_storeB rfl 43 (.tmp 10) (.tmp 23) rfl (w3.heap.size + 1) #[.bool false, .int .i64 0, .int .i64 0] #[.bool true, .int .i64 0, .int .i64 2] 43 rfl rfl ((Y3.out.block _ (by simp) (by omega)).trans (last_at _ (by simp))) rfl (by kernel_rfl) (by simp [Value.oneCell']) ?_; intro x4 X4 Y4))
  have F4 : Hid (Fr (fun _ => False) w3 x4) := ((((Fr.refl (fun k => k = w3.heap.size ∨ k = w3.heap.size + 1) _).alloc _).alloc _).trans ((Y3.out.mono (fun _ _ e => .inl e)).trans (Y4.out.mono (fun _ _ e => .inr e)))).mono (fun k hk e => by omega)
  have FB : Hid (Fr (fun _ => False) x2 x4) := F3.out.trans F4.out
  have FC : Hid (Fr (fun _ => False) W x4) := FA.out.trans FB.out
  obtain ⟨s0, s1, s2⟩ := cells3 ((FB.out.block _ (lt_of_heap X2.out) id).trans X2.out)
  obtain ⟨t0, t1, t2⟩ := cells3 X4.out
  have KS : Hid (Calls Try.prog 17 #[.pointer none] x4 fun e w' => e = .returned (.int .i64 0) ∧ x4 = w') := Stream_nil x4
  have KH : Hid (Calls Try.prog 18 #[.pointer (some ⟨w.heap.size + 1, 0, none⟩)] x4 fun e w' => e = .returned (.int .i64 0) ∧ x4 = w') := Held_zero (w.heap.size + 1) x4 (cell_of_heap ((FC.out.block _ (lt_of_heap B1.out) id).trans B1.out) rfl)
  clear d0 d1 d2 d3 d4 d5 d6 d7 d8 d9 d10 d11
  go_wp2_with (first
    | (go_at_call 17; refine KS.out.mono ?_; rintro e w' ⟨rfl, rfl⟩)
    | (go_at_call 18; refine KH.out.mono ?_; rintro e w' ⟨rfl, rfl⟩))
  go_ret
  exact ⟨rfl, (HFW.out.trans FC.out).below (fun _ _ => id)⟩
end Go.Proofs.Ytdndhidinbmpdaa
