/- Contract of the joiner's In: a frame that may not come. -/
import Derived.Test.YtdndhidinbmpdaaBe
namespace Go.Proofs.Ytdndhidinbmpdaa
open Go.RowKit
set_option linter.unusedVariables false
set_option maxRecDepth 100000
set_option maxHeartbeats 4000000

theorem In_not (g m : Nat) (o : Opn) (H : List UInt8) (v : Value) (f : Fra) (p q : Option Addr) (cp cq : Nat) (w : World) (h : JAt w g m o H v) (hI : FrIn w f p q cq) (hfo : follB o f = false) :
    Calls Try.prog 15 #[.pointer (some ⟨g, 0, none⟩), .agg #[.int .i64 f.k, .int .i64 f.fl, .int .i64 f.st, .slice p f.X.length cp, .int .i64 f.pad, .int .u32 f.code, .int .i64 f.last, .int .i64 f.inc, .int .i64 f.dep, .bool f.only, .int .i64 f.wt, .slice q f.Y.length cq]] w fun e w' => InAs w g m v (inJ m o H f) e w' := by
  obtain ⟨W, hW⟩ : ∃ W, W = ((w.alloc (.cells #[.int .i64 f.k, .int .i64 f.fl, .int .i64 f.st, .slice p f.X.length cp, .int .i64 f.pad, .int .u32 f.code, .int .i64 f.last, .int .i64 f.inc, .int .i64 f.dep, .bool f.only, .int .i64 f.wt, .slice q f.Y.length cq] 34)).alloc (.cells #[.int .i64 0, .int .i64 0, .int .i64 0, .slice none 0 0, .int .i64 0, .int .u32 0, .int .i64 0, .int .i64 0, .int .i64 0, .bool false, .int .i64 0, .slice none 0 0] 34)).alloc (.cells #[.bool false, .int .i64 0, .int .i64 0] 43) := ⟨_, rfl⟩
  have HFW : Hid (Fr (fun _ => False) w W) := by rw [hW]; exact (((Fr.refl _ _).alloc _).alloc _).alloc _
  have A1 : Hid (FAt W w.heap.size f p cp q cq) := by rw [hW]; exact past_at _ (past_at _ (heap_alloc_new w _))
  have R1 : Hid (W.heap[w.heap.size + 1]? = some (.cells #[.int .i64 0, .int .i64 0, .int .i64 0, .slice none 0 0, .int .i64 0, .int .u32 0, .int .i64 0, .int .i64 0, .int .i64 0, .bool false, .int .i64 0, .slice none 0 0] 34 (0, 0))) := by rw [hW]; exact past_at _ (last_at _ (by simp))
  have R2 : Hid (W.heap[w.heap.size + 2]? = some (.cells #[.bool false, .int .i64 0, .int .i64 0] 43 (0, 0))) := by rw [hW]; exact last_at _ (by simp)
  have HWS : Hid (W.heap.size = w.heap.size + 3) := by show _ = _; rw [hW]; simp
  have HLT : Hid (g < w.heap.size) := lt_of_heap h.c
  have HJ : Hid (JAt w g m o H v) := h
  have HJW : Hid (JAt W g m o H v) := h.later HFW.out
  have HI : Hid (FrIn W f p q cq) := hI.later HFW.out
  have HLE : Hid (∀ k, v.ownBlock = some k → k < w.heap.size) := fun k hk => h.own.lt k hk
  have KM : Hid (Calls Try.prog 20 #[.pointer (some ⟨g, 0, none⟩)] W fun e w' => e = .returned (.bool true) ∧ W = w') := made_cell g true W (cell_of_heap HJW.out.c rfl)
  have KF : Hid (Calls Try.prog 21 #[.pointer (some ⟨g, 0, none⟩), .agg #[.int .i64 f.k, .int .i64 f.fl, .int .i64 f.st, .slice p f.X.length cp, .int .i64 f.pad, .int .u32 f.code, .int .i64 f.last, .int .i64 f.inc, .int .i64 f.dep, .bool f.only, .int .i64 f.wt, .slice q f.Y.length cq]] W fun e w' => e = .returned (.bool (follB o f)) ∧ Fr (fun _ => False) W w') := follows_in g m o v f p q cp cq W HJW.out.c
  obtain ⟨d0, d1, d2, d3, d4, d5, d6, d7, d8, d9, d10, d11⟩ := fcells A1.out
  clear h hI
  rw [hfo] at KF
  have HO : Hid (inJ m o H f = ⟨zeroF, false, 1, none, []⟩) := by show _ = _; unfold inJ; rw [if_pos hfo]
  clear hfo
  go_enter Try.func15, Try.ntmps15
  go_upto_region 1 with (fail)
  rw [← hW]
  clear hW
  go_wp2_with (first
    | (go_at_call 20; refine KM.out.mono ?_; rintro e w1 ⟨rfl, rfl⟩)
    | (go_at_call 21; refine KF.out.mono ?_; rintro e w1 ⟨rfl, hf1⟩; have F1 : Hid (Fr (fun _ => False) W w1) := hf1; clear hf1; have KX : Hid (Calls Try.prog 22 #[.pointer (some ⟨g, 0, none⟩), .int .i64 1] w1 fun e w' => e = .returned (.tuple #[zeroV, .bool false, .agg #[.bool true, .int .i64 0, .int .i64 1]]) ∧ JC w' g m none (.slice none 0 0) ∧ Fr (fun k => k = g) w1 w') := fail_in g m o v 1 w1 (HJW.out.c.fr F1.out id))
    | (go_at_call 22; refine KX.out.mono ?_; rintro e w2 ⟨rfl, hj2, hf2⟩; have T2 : Hid (JC w2 g m none (.slice none 0 0) ∧ Fr (fun k => k = g) W w2) := ⟨hj2, (F1.out.mono (fun _ _ e => e.elim)).trans hf2⟩; clear hj2 hf2; have S1 : Hid (w2.heap[w.heap.size + 1]? = some (.cells #[.int .i64 0, .int .i64 0, .int .i64 0, .slice none 0 0, .int .i64 0, .int .u32 0, .int .i64 0, .int .i64 0, .int .i64 0, .bool false, .int .i64 0, .slice none 0 0] 34 (0, 0))) := (T2.out.2.block _ (lt_of_heap R1.out) (by have := HLT.out; omega)).trans R1.out; have S2 : Hid (w2.heap[w.heap.size + 2]? = some (.cells #[.bool false, .int .i64 0, .int .i64 0] 43 (0, 0))) := (T2.out.2.block _ (lt_of_heap R2.out) (by have := HLT.out; omega)).trans R2.out; unfold zeroV)
    | (refine wpList_storeB rfl 34 (.tmp 4) (.tmp 20) rfl (w.heap.size + 1) #[.int .i64 0, .int .i64 0, .int .i64 0, .slice none 0 0, .int .i64 0, .int .u32 0, .int .i64 0, .int .i64 0, .int .i64 0, .bool false, .int .i64 0, .slice none 0 0] #[.int .i64 0, .int .i64 0, .int .i64 0, .slice none 0 0, .int .i64 0, .int .u32 0, .int .i64 0, .int .i64 0, .int .i64 0, .bool false, .int .i64 0, .slice none 0 0] 34 rfl rfl S1.out rfl (by kernel_rfl) (by simp [Value.oneCell']) ?_; intro x1 X1 Y1)
    | (refine wpList_storeB rfl 43 (.tmp 6) (.tmp 22) rfl (w.heap.size + 2) #[.bool false, .int .i64 0, .int .i64 0] #[.bool true, .int .i64 0, .int .i64 1] 43 rfl rfl ((Y1.out.block _ (lt_of_heap S2.out) (by omega)).trans S2.out) rfl (by kernel_rfl) (by simp [Value.oneCell']) ?_; intro x2 X2 Y2; refine Hid.out ?_))
  unfold Hid
  go_wp2_with (fail)
  obtain ⟨r0, r1, r2, r3, r4, r5, r6, r7, r8, r9, r10, r11⟩ := cells12 ((Y2.out.block _ (lt_of_heap X1.out) (by omega)).trans X1.out)
  obtain ⟨s0, s1, s2⟩ := cells3 X2.out
  refine bodyPost_ret (v := .tuple #[.agg #[.int .i64 0, .int .i64 0, .int .i64 0, .slice none 0 0, .int .i64 0, .int .u32 0, .int .i64 0, .int .i64 0, .int .i64 0, .bool false, .int .i64 0, .slice none 0 0], .bool false, .agg #[.bool true, .int .i64 0, .int .i64 1]]) (by simp [results, Try.results15, go_sem, r0, r1, r2, r3, r4, r5, r6, r7, r8, r9, r10, r11, s0, s1, s2]) rfl ?_
  rw [HO.out]
  have hlt := HLT.out
  have FR : Fr (fun k => k = w.heap.size + 1 ∨ k = w.heap.size + 2) w2 x2 := (Y1.out.mono (fun _ _ e => .inl e)).trans (Y2.out.mono (fun _ _ e => .inr e))
  exact ⟨none, 0, none, 0, .slice none 0 0, rfl, SrcAt.nil _ _, SetsAt.nil _, fun ad e => (by cases e), JAt.none (T2.out.1.fr FR (by omega)) HJ.out.m, ((HFW.out.mono (T := fun k => (k = g ∨ v.ownBlock = some k) ∨ k = w.heap.size + 1 ∨ k = w.heap.size + 2) (fun _ _ e => e.elim)).trans ((T2.out.2.mono (fun _ _ e => .inl (.inl e))).trans (FR.mono (fun _ _ e => .inr e)))).mono (fun k hk e => by rcases e with e | e; exact e; omega), .inr (.inl rfl)⟩
end Go.Proofs.Ytdndhidinbmpdaa
