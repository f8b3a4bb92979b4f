/- Contract of the document's In: a frame that is told as it is. -/
import Derived.Test.YtdndhidinbmpdaaCy
import Derived.BigQuiet
namespace Go.Proofs.Ytdndhidinbmpdaa
open Go.RowKit
set_option linter.unusedVariables false
set_option maxRecDepth 100000
set_option maxHeartbeats 4000000

theorem rIn_other (g m : Nat) (f : Fra) (p q : Option Addr) (cp cq : Nat) (w : World) (h : RJ w g m none [] (Value.slice none 0 0)) (hI : FrIn w f p q cq) (hk1 : ¬ f.k = 1) (hk : ¬ f.k = 9) :
    Calls Try.prog 16 #[.pointer (some ⟨g, 0, none⟩), .agg #[.int .i64 f.k, .int .i64 f.fl, .int .i64 f.st, .slice p f.X.length cp, .int .i64 f.pad, .int .u32 f.code, .int .i64 f.last, .int .i64 f.inc, .int .i64 f.dep, .bool f.only, .int .i64 f.wt, .slice q f.Y.length cq]] w fun e w' => RInAs w g m (Value.slice none 0 0) (inJ m none [] f) e w' := by
  obtain ⟨W, hW⟩ : ∃ W, W = ((w.alloc (.cells #[.int .i64 f.k, .int .i64 f.fl, .int .i64 f.st, .slice p f.X.length cp, .int .i64 f.pad, .int .u32 f.code, .int .i64 f.last, .int .i64 f.inc, .int .i64 f.dep, .bool f.only, .int .i64 f.wt, .slice q f.Y.length cq] 34)).alloc (.cells #[.int .i64 0, .int .i64 0, .int .i64 0, .slice none 0 0, .int .i64 0, .int .u32 0, .int .i64 0, .int .i64 0, .int .i64 0, .bool false, .int .i64 0, .slice none 0 0] 34)).alloc (.cells #[.bool false, .int .i64 0, .int .i64 0] 43) := ⟨_, rfl⟩
  have HFW : Hid (Fr (fun _ => False) w W) := by rw [hW]; exact (((Fr.refl _ _).alloc _).alloc _).alloc _
  have A1 : Hid (FAt W w.heap.size f p cp q cq) := by rw [hW]; exact past_at _ (past_at _ (heap_alloc_new w _))
  have R1 : Hid (W.heap[w.heap.size + 1]? = some (.cells #[.int .i64 0, .int .i64 0, .int .i64 0, .slice none 0 0, .int .i64 0, .int .u32 0, .int .i64 0, .int .i64 0, .int .i64 0, .bool false, .int .i64 0, .slice none 0 0] 34 (0, 0))) := by rw [hW]; exact past_at _ (last_at _ (by simp))
  have R2 : Hid (W.heap[w.heap.size + 2]? = some (.cells #[.bool false, .int .i64 0, .int .i64 0] 43 (0, 0))) := by rw [hW]; exact last_at _ (by simp)
  have HWS : Hid (W.heap.size = w.heap.size + 3) := by show _ = _; rw [hW]; simp
  have HLT : Hid (g < w.heap.size) := lt_of_heap h.c
  have HJ : Hid (RJ w g m none [] (Value.slice none 0 0)) := h
  have HJW : Hid (RJ W g m none [] (Value.slice none 0 0)) := h.later HFW.out
  have HI : Hid (FrIn W f p q cq) := hI.later HFW.out
  have HIw : Hid (FrIn w f p q cq) := hI
  have HLE : Hid (∀ k, ((Value.slice none 0 0)).ownBlock = some k → k < w.heap.size) := fun k hk => h.own.lt k hk
  obtain ⟨d0, d1, d2, d3, d4, d5, d6, d7, d8, d9, d10, d11⟩ := fcells A1.out
  obtain ⟨j0, j1, j2, j3⟩ := rcells HJW.out.c
  dsimp only [opS, opE] at j1 j2
  have hgs : ¬ w.heap.size = g := by have := HLT.out; omega
  have hgs2 : ¬ g = w.heap.size := by have := HLT.out; omega
  clear h hI
  have HO : Hid (inJ m none [] f = ⟨f, true, 0, none, []⟩) := by show _ = _; unfold inJ; rw [if_neg (by simp [follB, hk]), if_pos ⟨hk1, hk⟩]
  have hka : (f.k != 9) = true := by simpa using hk
  have hkb : decide (f.k = 9) = false := by simpa using hk
  have hkc : (f.k == 9) = false := by simpa using hk
  have hk1a : (f.k != 1) = true := by simpa using hk1
  have hk1b : decide (f.k = 1) = false := by simpa using hk1
  have hk1c : (f.k == 1) = false := by simpa using hk1
  clear hk hk1
  go_enter Try.func16, Try.ntmps16
  go_upto_region 1 with (fail)
  rw [← hW]
  clear hW
  go_wp2_with (fail)
  go_quiet (fail)
  have FQ : Hid (Fr (fun _ => False) W (W.drewN nq)) := (Fr.refl _ _).drewN nq
  clear d0 d1 d2 d3 d4 d5 d6 d7 d8 d9 d10 d11 j0 j1 j2 j3
  generalize W.drewN nq = wq at FQ ⊢
  have JQ : Hid (RJ wq g m none [] (Value.slice none 0 0)) := HJW.out.later FQ.out
  have AQ : Hid (FAt wq w.heap.size f p cp q cq) := A1.out.later FQ.out
  obtain ⟨d0, d1, d2, d3, d4, d5, d6, d7, d8, d9, d10, d11⟩ := fcells AQ.out
  obtain ⟨j0, j1, j2, j3⟩ := rcells JQ.out.c
  dsimp only [opS, opE] at j1 j2
  have z1 := rfroz JQ.out.c 1
  have z2 := rfroz JQ.out.c 2
  have z3 := rfroz JQ.out.c 3
  have S1 : Hid (wq.heap[w.heap.size + 1]? = some (.cells #[.int .i64 0, .int .i64 0, .int .i64 0, .slice none 0 0, .int .i64 0, .int .u32 0, .int .i64 0, .int .i64 0, .int .i64 0, .bool false, .int .i64 0, .slice none 0 0] 34 (0, 0))) := (FQ.out.block _ (lt_of_heap R1.out) id).trans R1.out
  have S2 : Hid (wq.heap[w.heap.size + 2]? = some (.cells #[.bool false, .int .i64 0, .int .i64 0] 43 (0, 0))) := (FQ.out.block _ (lt_of_heap R2.out) id).trans R2.out
  go_wp2_with (first
    | (refine wpList_storeB rfl 34 (.tmp 4) (.tmp 52) rfl (w.heap.size + 1) #[.int .i64 0, .int .i64 0, .int .i64 0, .slice none 0 0, .int .i64 0, .int .u32 0, .int .i64 0, .int .i64 0, .int .i64 0, .bool false, .int .i64 0, .slice none 0 0] #[.int .i64 f.k, .int .i64 f.fl, .int .i64 f.st, .slice p f.X.length cp, .int .i64 f.pad, .int .u32 f.code, .int .i64 f.last, .int .i64 f.inc, .int .i64 f.dep, .bool f.only, .int .i64 f.wt, .slice q f.Y.length cq] 34 rfl rfl S1.out rfl (by kernel_rfl) (by simp [Value.oneCell']) ?_; intro x1 X1 Y1) | (refine wpList_storeB rfl 43 (.tmp 6) (.tmp 53) rfl (w.heap.size + 2) #[.bool false, .int .i64 0, .int .i64 0] #[.bool false, .int .i64 0, .int .i64 0] 43 rfl rfl ((Y1.out.block _ (lt_of_heap S2.out) (by omega)).trans S2.out) rfl (by kernel_rfl) (by simp [Value.oneCell']) ?_; intro x2 X2 Y2; refine Hid.out ?_))
  unfold Hid
  go_wp2_with (fail)
  obtain ⟨r0, r1, r2, r3, r4, r5, r6, r7, r8, r9, r10, r11⟩ := cells12 ((Y2.out.block _ (lt_of_heap X1.out) (by omega)).trans X1.out)
  obtain ⟨s0, s1, s2⟩ := cells3 X2.out
  refine bodyPost_ret (v := .tuple #[.agg #[.int .i64 f.k, .int .i64 f.fl, .int .i64 f.st, .slice p f.X.length cp, .int .i64 f.pad, .int .u32 f.code, .int .i64 f.last, .int .i64 f.inc, .int .i64 f.dep, .bool f.only, .int .i64 f.wt, .slice q f.Y.length cq], .bool true, .agg #[.bool false, .int .i64 0, .int .i64 0]]) (by simp [results, Try.results16, go_sem, r0, r1, r2, r3, r4, r5, r6, r7, r8, r9, r10, r11, s0, s1, s2]) rfl ?_
  rw [HO.out]
  have hlt := HLT.out
  have FR : Fr (fun k => k = w.heap.size + 1 ∨ k = w.heap.size + 2) wq x2 := (Y1.out.mono (fun _ _ e => .inl e)).trans (Y2.out.mono (fun _ _ e => .inr e))
  have FALL : Fr (fun _ => False) w x2 := ((HFW.out.mono (T := fun k => k = w.heap.size + 1 ∨ k = w.heap.size + 2) (fun _ _ e => e.elim)).trans ((FQ.out.mono (fun _ _ e => e.elim)).trans FR)).mono (fun k hk e => by omega)
  exact ⟨p, cp, q, cq, .slice none 0 0, rfl, HIw.out.src.oldF FALL, JQ.out.fr FR (by omega) (fun k hk => by simp [Value.ownBlock] at hk), FALL.mono (fun _ _ e => e.elim), .inl rfl⟩
end Go.Proofs.Ytdndhidinbmpdaa
