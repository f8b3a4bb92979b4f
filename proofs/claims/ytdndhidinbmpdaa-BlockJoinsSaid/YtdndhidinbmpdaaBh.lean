/- Contract of the joiner's In: a frame that is told as it is. -/
import Derived.Test.YtdndhidinbmpdaaBe
namespace Go.Proofs.Ytdndhidinbmpdaa
open Go.RowKit
set_option linter.unusedVariables false
set_option maxRecDepth 100000
set_option maxHeartbeats 4000000

theorem In_other (g m : Nat) (o : Opn) (H : List UInt8) (v : Value) (f : Fra) (p q : Option Addr) (cp cq : Nat) (w : World) (h : JAt w g m o H v) (hI : FrIn w f p q cq) (hfo : follB o f = true) (hk1 : f.k ≠ 1) (hk9 : f.k ≠ 9) :
    Calls Try.prog 15 #[.pointer (some ⟨g, 0, none⟩), .agg #[.int .i64 f.k, .int .i64 f.fl, .int .i64 f.st, .slice p f.X.length cp, .int .i64 f.pad, .int .u32 f.code, .int .i64 f.last, .int .i64 f.inc, .int .i64 f.dep, .bool f.only, .int .i64 f.wt, .slice q f.Y.length cq]] w fun e w' => InAs w g m v (inJ m o H f) e w' := by
  obtain ⟨W, hW⟩ : ∃ W, W = ((w.alloc (.cells #[.int .i64 f.k, .int .i64 f.fl, .int .i64 f.st, .slice p f.X.length cp, .int .i64 f.pad, .int .u32 f.code, .int .i64 f.last, .int .i64 f.inc, .int .i64 f.dep, .bool f.only, .int .i64 f.wt, .slice q f.Y.length cq] 34)).alloc (.cells #[.int .i64 0, .int .i64 0, .int .i64 0, .slice none 0 0, .int .i64 0, .int .u32 0, .int .i64 0, .int .i64 0, .int .i64 0, .bool false, .int .i64 0, .slice none 0 0] 34)).alloc (.cells #[.bool false, .int .i64 0, .int .i64 0] 43) := ⟨_, rfl⟩
  have HFW : Hid (Fr (fun _ => False) w W) := by rw [hW]; exact (((Fr.refl _ _).alloc _).alloc _).alloc _
  have A1 : Hid (FAt W w.heap.size f p cp q cq) := by rw [hW]; exact past_at _ (past_at _ (heap_alloc_new w _))
  have R1 : Hid (W.heap[w.heap.size + 1]? = some (.cells #[.int .i64 0, .int .i64 0, .int .i64 0, .slice none 0 0, .int .i64 0, .int .u32 0, .int .i64 0, .int .i64 0, .int .i64 0, .bool false, .int .i64 0, .slice none 0 0] 34 (0, 0))) := by rw [hW]; exact past_at _ (last_at _ (by simp))
  have R2 : Hid (W.heap[w.heap.size + 2]? = some (.cells #[.bool false, .int .i64 0, .int .i64 0] 43 (0, 0))) := by rw [hW]; exact last_at _ (by simp)
  have HWS : Hid (W.heap.size = w.heap.size + 3) := by show _ = _; rw [hW]; simp
  have HLT : Hid (g < w.heap.size) := lt_of_heap h.c
  have HJ : Hid (JAt w g m o H v) := h
  have HJW : Hid (JAt W g m o H v) := h.later HFW.out
  have HI : Hid (FrIn W f p q cq) := hI.later HFW.out
  have HLE : Hid (∀ k, v.ownBlock = some k → k < w.heap.size) := fun k hk => h.own.lt k hk
  have KM : Hid (Calls Try.prog 20 #[.pointer (some ⟨g, 0, none⟩)] W fun e w' => e = .returned (.bool true) ∧ W = w') := made_cell g true W (cell_of_heap HJW.out.c rfl)
  have KF : Hid (Calls Try.prog 21 #[.pointer (some ⟨g, 0, none⟩), .agg #[.int .i64 f.k, .int .i64 f.fl, .int .i64 f.st, .slice p f.X.length cp, .int .i64 f.pad, .int .u32 f.code, .int .i64 f.last, .int .i64 f.inc, .int .i64 f.dep, .bool f.only, .int .i64 f.wt, .slice q f.Y.length cq]] W fun e w' => e = .returned (.bool (follB o f)) ∧ Fr (fun _ => False) W w') := follows_in g m o v f p q cp cq W HJW.out.c
  obtain ⟨d0, d1, d2, d3, d4, d5, d6, d7, d8, d9, d10, d11⟩ := fcells A1.out
  clear h hI
  rw [hfo] at KF
  have HO : Hid (inJ m o H f = ⟨f, true, 0, o, H⟩) := by show _ = _; unfold inJ; rw [if_neg (by rw [hfo]; simp), if_pos ⟨hk1, hk9⟩]
  have e1 : (f.k != 1) = true := by simpa using hk1
  have e9 : (f.k != 9) = true := by simpa using hk9
  have D1 : decide (f.k = 1) = false := by simpa using hk1
  have D9 : decide (f.k = 9) = false := by simpa using hk9
  have e3 : (f.k == 1) = false := by simpa using hk1
  have e4 : (f.k == 9) = false := by simpa using hk9
  have HX : Hid (f.X.length ≤ 225179981368371) := by have := HI.out.few; show _ ≤ _; omega
  clear hfo hk1 hk9
  go_enter Try.func15, Try.ntmps15
  go_upto_region 1 with (fail)
  rw [← hW]
  clear hW
  go_wp2_with (first
    | (go_at_call 20; refine KM.out.mono ?_; rintro e w1 ⟨rfl, rfl⟩)
    | (go_at_call 21; refine KF.out.mono ?_; rintro e w1 ⟨rfl, hf1⟩; have F1 : Hid (Fr (fun _ => False) W w1) := hf1; clear hf1; clear d0 d1 d2 d3 d4 d5 d6 d7 d8 d9 d10 d11; have A2 : Hid (FAt w1 w.heap.size f p cp q cq) := A1.out.later F1.out; obtain ⟨d0, d1, d2, d3, d4, d5, d6, d7, d8, d9, d10, d11⟩ := fcells A2.out; have KX : Hid (Calls Try.prog 23 #[.agg #[.int .i64 f.k, .int .i64 f.fl, .int .i64 f.st, .slice p f.X.length cp, .int .i64 f.pad, .int .u32 f.code, .int .i64 f.last, .int .i64 f.inc, .int .i64 f.dep, .bool f.only, .int .i64 f.wt, .slice q f.Y.length cq]] w1 fun e w' => CopiedAs w1 f e w') := copied_in f p q cp cq w1 (HI.out.later F1.out).src (HI.out.later F1.out).sets HX.out)
    | (go_at_call 23; refine KX.out.mono ?_; rintro e w2 ⟨p2, cp2, q2, cq2, rfl, hs2, hy2, hn2, hf2⟩; have T2 : Hid (SrcAt w2 p2 f.X ∧ Copy w2 q2 cq2 f.Y ∧ (∀ ad, p2 = some ad → w1.heap.size ≤ ad.block) ∧ Fr (fun _ => False) W w2) := ⟨hs2, hy2, hn2, F1.out.trans hf2⟩; clear hs2 hy2 hn2 hf2; have S1 : Hid (w2.heap[w.heap.size + 1]? = some (.cells #[.int .i64 0, .int .i64 0, .int .i64 0, .slice none 0 0, .int .i64 0, .int .u32 0, .int .i64 0, .int .i64 0, .int .i64 0, .bool false, .int .i64 0, .slice none 0 0] 34 (0, 0))) := (T2.out.2.2.2.block _ (lt_of_heap R1.out) id).trans R1.out; have S2 : Hid (w2.heap[w.heap.size + 2]? = some (.cells #[.bool false, .int .i64 0, .int .i64 0] 43 (0, 0))) := (T2.out.2.2.2.block _ (lt_of_heap R2.out) id).trans R2.out)
    | (refine wpList_storeB rfl 34 (.tmp 4) (.tmp 33) rfl (w.heap.size + 1) #[.int .i64 0, .int .i64 0, .int .i64 0, .slice none 0 0, .int .i64 0, .int .u32 0, .int .i64 0, .int .i64 0, .int .i64 0, .bool false, .int .i64 0, .slice none 0 0] #[.int .i64 f.k, .int .i64 f.fl, .int .i64 f.st, .slice p2 f.X.length cp2, .int .i64 f.pad, .int .u32 f.code, .int .i64 f.last, .int .i64 f.inc, .int .i64 f.dep, .bool f.only, .int .i64 f.wt, .slice q2 f.Y.length cq2] 34 rfl rfl S1.out rfl (by kernel_rfl) (by simp [Value.oneCell']) ?_; intro x1 X1 Y1)
    | (refine wpList_storeB rfl 43 (.tmp 6) (.tmp 34) rfl (w.heap.size + 2) #[.bool false, .int .i64 0, .int .i64 0] #[.bool false, .int .i64 0, .int .i64 0] 43 rfl rfl ((Y1.out.block _ (lt_of_heap S2.out) (by omega)).trans S2.out) rfl (by kernel_rfl) (by simp [Value.oneCell']) ?_; intro x2 X2 Y2; refine Hid.out ?_))
  unfold Hid
  go_wp2_with (fail)
  obtain ⟨r0, r1, r2, r3, r4, r5, r6, r7, r8, r9, r10, r11⟩ := cells12 ((Y2.out.block _ (lt_of_heap X1.out) (by omega)).trans X1.out)
  obtain ⟨s0, s1, s2⟩ := cells3 X2.out
  refine bodyPost_ret (v := .tuple #[.agg #[.int .i64 f.k, .int .i64 f.fl, .int .i64 f.st, .slice p2 f.X.length cp2, .int .i64 f.pad, .int .u32 f.code, .int .i64 f.last, .int .i64 f.inc, .int .i64 f.dep, .bool f.only, .int .i64 f.wt, .slice q2 f.Y.length cq2], .bool true, .agg #[.bool false, .int .i64 0, .int .i64 0]]) (by simp [results, Try.results15, go_sem, r0, r1, r2, r3, r4, r5, r6, r7, r8, r9, r10, r11, s0, s1, s2]) rfl ?_
  rw [HO.out]
  have hlt := HLT.out
  have hws := HWS.out
  have hz := F1.out.size
  have FR : Fr (fun k => k = w.heap.size + 1 ∨ k = w.heap.size + 2) w2 x2 := (Y1.out.mono (fun _ _ e => .inl e)).trans (Y2.out.mono (fun _ _ e => .inr e))
  have hq2 : SetsAt x2 q2 cq2 f.Y := (T2.out.2.1.fr FR (fun k cur hk e => by
    rcases e with rfl | rfl
    · have := S1.out; rw [hk] at this; simp at this
    · have := S2.out; rw [hk] at this; simp at this)).sets
  exact ⟨p2, cp2, q2, cq2, v, rfl, T2.out.1.fr FR (fun ad e _ e2 => by have := T2.out.2.2.1 ad e; omega), hq2, fun ad e _ => .inr (by have := T2.out.2.2.1 ad e; omega), (HJW.out.later T2.out.2.2.2).fr FR (by omega) (fun k hk => by have := HLE.out k hk; omega), ((HFW.out.mono (T := fun k => (k = g ∨ v.ownBlock = some k) ∨ k = w.heap.size + 1 ∨ k = w.heap.size + 2) (fun _ _ e => e.elim)).trans ((T2.out.2.2.2.mono (fun _ _ e => e.elim)).trans (FR.mono (fun _ _ e => .inr e)))).mono (fun k hk e => by rcases e with e | e; exact e; omega), .inl rfl⟩
end Go.Proofs.Ytdndhidinbmpdaa
