/- Contract of the joiner's In: a block begins, and is whole. -/
import Derived.Test.YtdndhidinbmpdaaBe
namespace Go.Proofs.Ytdndhidinbmpdaa
open Go.RowKit
set_option linter.unusedVariables false
set_option maxRecDepth 100000
set_option maxHeartbeats 4000000

theorem In_done1 (g m : Nat) (o : Opn) (H : List UInt8) (v : Value) (f : Fra) (p q : Option Addr) (cp cq : Nat) (w : World) (h : JAt w g m o H v) (hI : FrIn w f p q cq) (hfo : follB o f = true) (hk : f.k = 1) (hl : ¬ (m : Int) - (H.length : Int) < (f.X.length : Int)) (hd : doneB f.fl = true) :
    Calls Try.prog 15 #[.pointer (some ⟨g, 0, none⟩), .agg #[.int .i64 f.k, .int .i64 f.fl, .int .i64 f.st, .slice p f.X.length cp, .int .i64 f.pad, .int .u32 f.code, .int .i64 f.last, .int .i64 f.inc, .int .i64 f.dep, .bool f.only, .int .i64 f.wt, .slice q f.Y.length cq]] w fun e w' => InAs w g m v (inJ m o H f) e w' := by
  obtain ⟨W, hW⟩ : ∃ W, W = ((w.alloc (.cells #[.int .i64 f.k, .int .i64 f.fl, .int .i64 f.st, .slice p f.X.length cp, .int .i64 f.pad, .int .u32 f.code, .int .i64 f.last, .int .i64 f.inc, .int .i64 f.dep, .bool f.only, .int .i64 f.wt, .slice q f.Y.length cq] 34)).alloc (.cells #[.int .i64 0, .int .i64 0, .int .i64 0, .slice none 0 0, .int .i64 0, .int .u32 0, .int .i64 0, .int .i64 0, .int .i64 0, .bool false, .int .i64 0, .slice none 0 0] 34)).alloc (.cells #[.bool false, .int .i64 0, .int .i64 0] 43) := ⟨_, rfl⟩
  have HFW : Hid (Fr (fun _ => False) w W) := by rw [hW]; exact (((Fr.refl _ _).alloc _).alloc _).alloc _
  have A1 : Hid (FAt W w.heap.size f p cp q cq) := by rw [hW]; exact past_at _ (past_at _ (heap_alloc_new w _))
  have R1 : Hid (W.heap[w.heap.size + 1]? = some (.cells #[.int .i64 0, .int .i64 0, .int .i64 0, .slice none 0 0, .int .i64 0, .int .u32 0, .int .i64 0, .int .i64 0, .int .i64 0, .bool false, .int .i64 0, .slice none 0 0] 34 (0, 0))) := by rw [hW]; exact past_at _ (last_at _ (by simp))
  have R2 : Hid (W.heap[w.heap.size + 2]? = some (.cells #[.bool false, .int .i64 0, .int .i64 0] 43 (0, 0))) := by rw [hW]; exact last_at _ (by simp)
  have HWS : Hid (W.heap.size = w.heap.size + 3) := by show _ = _; rw [hW]; simp
  have HLT : Hid (g < w.heap.size) := lt_of_heap h.c
  have HJ : Hid (JAt w g m o H v) := h
  have HJW : Hid (JAt W g m o H v) := h.later HFW.out
  have HI : Hid (FrIn W f p q cq) := hI.later HFW.out
  have HLE : Hid (∀ k, v.ownBlock = some k → k < w.heap.size) := fun k hk => h.own.lt k hk
  have KM : Hid (Calls Try.prog 20 #[.pointer (some ⟨g, 0, none⟩)] W fun e w' => e = .returned (.bool true) ∧ W = w') := made_cell g true W (cell_of_heap HJW.out.c rfl)
  have KF : Hid (Calls Try.prog 21 #[.pointer (some ⟨g, 0, none⟩), .agg #[.int .i64 f.k, .int .i64 f.fl, .int .i64 f.st, .slice p f.X.length cp, .int .i64 f.pad, .int .u32 f.code, .int .i64 f.last, .int .i64 f.inc, .int .i64 f.dep, .bool f.only, .int .i64 f.wt, .slice q f.Y.length cq]] W fun e w' => e = .returned (.bool (follB o f)) ∧ Fr (fun _ => False) W w') := follows_in g m o v f p q cp cq W HJW.out.c
  obtain ⟨d0, d1, d2, d3, d4, d5, d6, d7, d8, d9, d10, d11⟩ := fcells A1.out
  clear h hI
  rw [hfo] at KF
  have HO : Hid (inJ m o H f = ⟨wholeF (some (endB f.fl, f.st)) (H ++ f.X), true, 0, none, []⟩) := by show _ = _; unfold inJ; rw [if_neg (by rw [hfo]; simp), if_neg (by rw [hk]; decide), if_neg hl]; simp [hk, hd]
  have HN : Hid (((some (endB f.fl, f.st)) : Opn) ≠ none) := by show _ ≠ _; simp
  have e1 : (f.k != 1) = false := by rw [hk]; rfl
  have e9 : (f.k != 9) = true := by rw [hk]; rfl
  have D1 : decide (f.k = 1) = true := by rw [hk]; rfl
  have D9 : decide (f.k = 9) = false := by rw [hk]; rfl
  have e3 : (f.k == 1) = true := by rw [hk]; rfl
  have e4 : (f.k == 9) = false := by rw [hk]; rfl
  have HMM : Hid (m ≤ 65536 ∧ H.length ≤ m) := ⟨HJW.out.m, HJW.out.le⟩
  have HFEW : Hid (f.X.length < 2 ^ 47) := HI.out.few
  obtain ⟨hp0, hc0, hv0⟩ := HJW.out.form
  subst hv0
  obtain ⟨j0, j1, j2, j3, j4, j5⟩ := jcells HJW.out.c
  have B1 : wrap64 ((m : Int) - (H.length : Int)) = (m : Int) - (H.length : Int) := by have := HMM.out; unfold wrap64; omega
  have B2 : IntKind.i64.wrap ((m : Int) - (H.length : Int)) = (m : Int) - (H.length : Int) := by rw [IntWalk.i64_left]; exact B1
  have L1 : decide ((m : Int) - (H.length : Int) < (f.X.length : Int)) = false := by simpa using hl
  have LM : Hid (H.length + f.X.length ≤ m) := by show _ ≤ _; omega
  have HK : Hid (f.k = 1) := hk
  have Q1 : decide (bits .and .i64 f.fl 4 = 0) = false := by simpa [doneB] using hd
  have Q2 : (bits .and .i64 f.fl 4 == 0) = false := by simpa [doneB] using hd
  have QF := flag_or f.fl
  obtain ⟨FL, hFL⟩ : ∃ FL : Int, (if endB f.fl = true then 5 else 4) = FL := ⟨_, rfl⟩
  rw [hFL] at QF
  have HFL : Hid ((if endB f.fl = true then (5 : Int) else 4) = FL) := hFL
  clear hfo hk hl hd hFL
  go_enter Try.func15, Try.ntmps15
  go_upto_region 1 with (fail)
  rw [← hW]
  clear hW
  go_upto_region 7 with (first
    | (go_at_call 20; refine KM.out.mono ?_; rintro e w1 ⟨rfl, rfl⟩)
    | (go_at_call 21; refine KF.out.mono ?_; rintro e w1 ⟨rfl, hf1⟩; have F1 : Hid (Fr (fun _ => False) W w1) := hf1; clear hf1; clear d0 d1 d2 d3 d4 d5 d6 d7 d8 d9 d10 d11 j0 j1 j2 j3 j4 j5; have A2 : Hid (FAt w1 w.heap.size f p cp q cq) := A1.out.later F1.out; obtain ⟨d0, d1, d2, d3, d4, d5, d6, d7, d8, d9, d10, d11⟩ := fcells A2.out; have J2 : Hid (JAt w1 g m o H (.slice hp0 H.length hc0)) := HJW.out.later F1.out; obtain ⟨j0, j1, j2, j3, j4, j5⟩ := jcells J2.out.c))
  go_wp2_with (fail)
  go_quiet (fail)
  have FQ : Hid (Fr (fun _ => False) W (w1.drewN nq)) := F1.out.drewN nq
  clear d0 d1 d2 d3 d4 d5 d6 d7 d8 d9 d10 d11 j0 j1 j2 j3 j4 j5 A2 J2 F1
  generalize w1.drewN nq = wq at FQ ⊢
  have JQ : Hid (JAt wq g m o H (.slice hp0 H.length hc0)) := HJW.out.later FQ.out
  have AQ : Hid (FAt wq w.heap.size f p cp q cq) := A1.out.later FQ.out
  obtain ⟨d0, d1, d2, d3, d4, d5, d6, d7, d8, d9, d10, d11⟩ := fcells AQ.out
  obtain ⟨j0, j1, j2, j3, j4, j5⟩ := jcells JQ.out.c
  have z2 := jfroz JQ.out.c 2
  have z3 := jfroz JQ.out.c 3
  have z4 := jfroz JQ.out.c 4
  go_upto_region 11 with (fail)
  obtain ⟨wo, hwo⟩ : ∃ wo, wo = ((wq.setCell ⟨g, 2, none⟩ (.int .i64 f.k)).setCell ⟨g, 3, none⟩ (.int .i64 FL)).setCell ⟨g, 4, none⟩ (.int .i64 f.st) := ⟨_, rfl⟩
  have FO : Hid (Fr (fun k => k = g) wq wo) := by rw [hwo]; exact (((Fr.refl _ _).setB _ _).setB _ _).setB _ _
  have JO : Hid (JC wo g m (some (endB f.fl, f.st)) (.slice hp0 H.length hc0)) := by rw [hwo, HK.out, ← HFL.out]; exact set_opn JQ.out.c (endB f.fl, f.st)
  rw [← hwo]
  clear hwo
  clear d0 d1 d2 d3 d4 d5 d6 d7 d8 d9 d10 d11 j0 j1 j2 j3 j4 j5 z2 z3 z4
  have AO : Hid (FAt wo w.heap.size f p cp q cq) := (FO.out.block _ (lt_of_heap AQ.out) (by have := HLT.out; omega)).trans AQ.out
  obtain ⟨d0, d1, d2, d3, d4, d5, d6, d7, d8, d9, d10, d11⟩ := fcells AO.out
  obtain ⟨j0, j1, j2, j3, j4, j5⟩ := jcells JO.out
  have SO : Hid (SrcAt wo.drew p f.X) := ((HI.out.later FQ.out).src.fr FO.out (JQ.out.c.src (HI.out.later FQ.out).src)).heap rfl
  have OO : Hid (OwnAt wo.drew 5 (.slice hp0 H.length hc0) (bv H)) := (JQ.out.own.fr FO.out JQ.out.ne).fr ((Fr.refl (fun _ => False) _).drew) (fun _ _ => id)
  have HNE : Hid (∀ k, (Value.slice hp0 H.length hc0).ownBlock = some k → k ≠ g ∧ k ≠ w.heap.size ∧ k ≠ w.heap.size + 1 ∧ k ≠ w.heap.size + 2) := fun k hk => ⟨JQ.out.ne k hk, by have := HLE.out k hk; omega, by have := HLE.out k hk; omega, by have := HLE.out k hk; omega⟩
  have HCC : Hid (∀ w4, Fr (fun k => (Value.slice hp0 H.length hc0).ownBlock = some k) wo.drew w4 → w4.cell? ⟨g, 5, none⟩ = some (.slice hp0 H.length hc0) ∧ w4.frozen? ⟨g, 5, none⟩ = false ∧ JC w4 g m (some (endB f.fl, f.st)) (.slice hp0 H.length hc0)) := fun w4 hf => by
    have h4 : JC w4 g m (some (endB f.fl, f.st)) (.slice hp0 H.length hc0) := JC.fr (w := wo.drew) JO.out hf (fun e => (HNE.out g e).1 rfl)
    exact ⟨(jcells h4).2.2.2.2.2, jfroz h4 5, h4⟩
  have HBY : Hid (H.length + f.X.length ≤ 225179981368371) := by have := LM.out; have := HMM.out; show _ ≤ _; omega
  obtain ⟨i5, i1, i2, i3, i4⟩ := info5
  have I1 : Hid (Try.prog.info? 5 = some i5) := i1
  have I2 : Hid (i5.zero = some (.int .u8 0)) := i2
  have I3 : Hid (i5.size = 1) := i3
  have I4 : Hid (i5.bytes = 1) := i4
  clear i1 i2 i3 i4 B1 B2 L1 QF
  go_wp2_with (fail)
  go_region_law (refine step_append_bytes rfl (.tmp 74) (.tmp 76) 22 22 rfl 5 i5 Try.underlying22 Try.underlying22 I1.out I2.out I3.out I4.out (.slice hp0 H.length hc0) H (by go_simp) OO.out p f.X.length cp (by go_simp) f.X SO.out rfl HBY.out ?_; intro a4 n4 c4 w4 Hn4 hown4 hf4 hk4; obtain ⟨r1, r2, r3⟩ := HCC.out w4 hf4.out)
  all_goals (
    have HN4 : Hid (n4 = (H ++ f.X).length) := by show _ = _; rw [Hn4.out, List.length_append]
    have O4 : Hid (OwnAt w4 5 (.slice a4 n4 c4) (bv (H ++ f.X))) := hown4
    have F4 : Hid (Fr (fun k => (Value.slice hp0 H.length hc0).ownBlock = some k) wo.drew w4) := hf4.out
    have K4 : Hid ((Value.slice a4 n4 c4).ownBlock = (Value.slice hp0 H.length hc0).ownBlock ∨ ∃ k, (Value.slice a4 n4 c4).ownBlock = some k ∧ wo.drew.heap.size ≤ k) := hk4.out
    have R4 : Hid (JC w4 g m (some (endB f.fl, f.st)) (.slice hp0 H.length hc0)) := r3
    clear hown4 hf4 hk4 r1 r2 r3
    clear d0 d1 d2 d3 d4 d5 d6 d7 d8 d9 d10 d11 j0 j1 j2 j3 j4 j5
    obtain ⟨w5, hw5⟩ : ∃ w5, w5 = w4.setCell ⟨g, 5, none⟩ (.slice a4 n4 c4) := ⟨_, rfl⟩
    have J5 : Hid (JC w5 g m (some (endB f.fl, f.st)) (.slice a4 n4 c4)) := by rw [hw5]; exact set_held R4.out _
    have F5 : Hid (Fr (fun k => k = g) w4 w5) := by rw [hw5]; exact (Fr.refl _ _).setB _ _
    rw [← hw5]
    clear hw5
    have FA : Hid (Fr (fun k => k = g ∨ (Value.slice hp0 H.length hc0).ownBlock = some k) W w5) := ((FQ.out.mono (fun _ _ e => e.elim)).trans ((FO.out.mono (fun _ _ e => .inl e)).trans (Fr.trans (b := wo.drew) (Fr.refl _ _).drew (F4.out.mono (fun _ _ e => .inr e))))).trans (F5.out.mono (fun _ _ e => .inl e))
    have WS : Hid (w.heap.size + 3 ≤ wo.drew.heap.size) := by have := HWS.out; have := FQ.out.size; have h3 := FO.out.size; show _ ≤ wo.heap.size; omega
    have O5 : Hid (OwnAt w5 5 (.slice a4 n4 c4) (bv (H ++ f.X))) := O4.out.fr F5.out (fun k hk e => by
      subst e
      rcases K4.out with h1 | ⟨k', h1, h2⟩
      · rw [h1] at hk; exact (HNE.out _ hk).1 rfl
      · rw [h1] at hk; cases hk; have := WS.out; have := HLT.out; omega)
    have A5 : Hid (FAt w5 w.heap.size f p cp q cq) := (FA.out.block _ (lt_of_heap A1.out) (fun e => by rcases e with e | e; have := HLT.out; omega; exact (HNE.out _ e).2.1 rfl)).trans A1.out
    have S1 : Hid (w5.heap[w.heap.size + 1]? = some (.cells #[.int .i64 0, .int .i64 0, .int .i64 0, .slice none 0 0, .int .i64 0, .int .u32 0, .int .i64 0, .int .i64 0, .int .i64 0, .bool false, .int .i64 0, .slice none 0 0] 34 (0, 0))) := (FA.out.block _ (lt_of_heap R1.out) (fun e => by rcases e with e | e; have := HLT.out; omega; exact (HNE.out _ e).2.2.1 rfl)).trans R1.out
    have S2 : Hid (w5.heap[w.heap.size + 2]? = some (.cells #[.bool false, .int .i64 0, .int .i64 0] 43 (0, 0))) := (FA.out.block _ (lt_of_heap R2.out) (fun e => by rcases e with e | e; have := HLT.out; omega; exact (HNE.out _ e).2.2.2 rfl)).trans R2.out
    obtain ⟨d0, d1, d2, d3, d4, d5, d6, d7, d8, d9, d10, d11⟩ := fcells A5.out
    have KX : Hid (Calls Try.prog 24 #[.pointer (some ⟨g, 0, none⟩)] w5 fun e w' => e = .returned (.agg #[.int .i64 (opK (some (endB f.fl, f.st))), .int .i64 (opF (some (endB f.fl, f.st))), .int .i64 (opS (some (endB f.fl, f.st))), .slice a4 n4 c4, .int .i64 0, .int .u32 0, .int .i64 0, .int .i64 0, .int .i64 0, .bool false, .int .i64 0, .slice none 0 0]) ∧ JC w' g m none (.slice none 0 0) ∧ Fr (fun k => k = g) w5 w') := finish_in g m (some (endB f.fl, f.st)) a4 n4 c4 w5 J5.out
    obtain ⟨OK, hOK⟩ : ∃ x, opK (some (endB f.fl, f.st)) = x := ⟨_, rfl⟩
    obtain ⟨OF, hOF⟩ : ∃ x, opF (some (endB f.fl, f.st)) = x := ⟨_, rfl⟩
    obtain ⟨OS, hOS⟩ : ∃ x, opS (some (endB f.fl, f.st)) = x := ⟨_, rfl⟩
    rw [hOK, hOF, hOS] at KX
    have HOK : Hid (opK (some (endB f.fl, f.st)) = OK ∧ opF (some (endB f.fl, f.st)) = OF ∧ opS (some (endB f.fl, f.st)) = OS) := ⟨hOK, hOF, hOS⟩
    clear hOK hOF hOS
    go_wp2_with (first
      | (go_at_call 24; refine KX.out.mono ?_; rintro e w6 ⟨rfl, hj6, hf6⟩; have T6 : Hid (JC w6 g m none (.slice none 0 0) ∧ Fr (fun k => k = g) w5 w6) := ⟨hj6, hf6⟩; clear hj6 hf6; have U1 : Hid (w6.heap[w.heap.size + 1]? = some (.cells #[.int .i64 0, .int .i64 0, .int .i64 0, .slice none 0 0, .int .i64 0, .int .u32 0, .int .i64 0, .int .i64 0, .int .i64 0, .bool false, .int .i64 0, .slice none 0 0] 34 (0, 0))) := (T6.out.2.block _ (lt_of_heap S1.out) (by have := HLT.out; omega)).trans S1.out; have U2 : Hid (w6.heap[w.heap.size + 2]? = some (.cells #[.bool false, .int .i64 0, .int .i64 0] 43 (0, 0))) := (T6.out.2.block _ (lt_of_heap S2.out) (by have := HLT.out; omega)).trans S2.out)
      | (refine wpList_storeB rfl 34 (.tmp 4) (.tmp 87) rfl (w.heap.size + 1) #[.int .i64 0, .int .i64 0, .int .i64 0, .slice none 0 0, .int .i64 0, .int .u32 0, .int .i64 0, .int .i64 0, .int .i64 0, .bool false, .int .i64 0, .slice none 0 0] #[.int .i64 OK, .int .i64 OF, .int .i64 OS, .slice a4 n4 c4, .int .i64 0, .int .u32 0, .int .i64 0, .int .i64 0, .int .i64 0, .bool false, .int .i64 0, .slice none 0 0] 34 rfl rfl U1.out rfl (by kernel_rfl) (by simp [Value.oneCell']) ?_; intro x1 X1 Y1)
      | (refine wpList_storeB rfl 43 (.tmp 6) (.tmp 88) rfl (w.heap.size + 2) #[.bool false, .int .i64 0, .int .i64 0] #[.bool false, .int .i64 0, .int .i64 0] 43 rfl rfl ((Y1.out.block _ (lt_of_heap U2.out) (by omega)).trans U2.out) rfl (by kernel_rfl) (by simp [Value.oneCell']) ?_; intro x2 X2 Y2; refine Hid.out ?_))
    unfold Hid
    go_wp2_with (fail)
    obtain ⟨r0, r1, r2, r3, r4, r5, r6, r7, r8, r9, r10, r11⟩ := cells12 ((Y2.out.block _ (lt_of_heap X1.out) (by omega)).trans X1.out)
    obtain ⟨s0, s1, s2⟩ := cells3 X2.out
    refine bodyPost_ret (v := .tuple #[.agg #[.int .i64 OK, .int .i64 OF, .int .i64 OS, .slice a4 n4 c4, .int .i64 0, .int .u32 0, .int .i64 0, .int .i64 0, .int .i64 0, .bool false, .int .i64 0, .slice none 0 0], .bool true, .agg #[.bool false, .int .i64 0, .int .i64 0]]) (by simp [results, Try.results15, go_sem, r0, r1, r2, r3, r4, r5, r6, r7, r8, r9, r10, r11, s0, s1, s2]) rfl ?_
    rw [HO.out]
    have hlt := HLT.out
    have FR : Fr (fun k => k = w.heap.size + 1 ∨ k = w.heap.size + 2) w6 x2 := (Y1.out.mono (fun _ _ e => .inl e)).trans (Y2.out.mono (fun _ _ e => .inr e))
    obtain ⟨hOK, hOF, hOS⟩ := HOK.out
    have hOK1 : OK = 1 := by rw [← hOK]; rfl
    have hn4 := HN4.out
    have hwn : ∀ ad, a4 = some ad → (Value.slice hp0 H.length hc0).ownBlock = some ad.block ∨ wo.drew.heap.size ≤ ad.block := fun ad e => by
      rcases K4.out with h1 | ⟨k', h1, h2⟩
      · left; rw [← h1, e]; rfl
      · right; rw [e] at h1; cases h1; exact h2
    have hws := WS.out
    have hsrc : SrcAt x2 a4 (H ++ f.X) := ((own_src O5.out).fr T6.out.2 (fun ad e _ e2 => by
      rcases hwn ad e with h1 | h1
      · exact (HNE.out _ h1).1 e2
      · omega)).fr FR (fun ad e _ e2 => by
      rcases hwn ad e with h1 | h1
      · have := HNE.out _ h1; omega
      · omega)
    subst hOK1
    subst hn4
    subst hOF
    subst hOS
    exact ⟨a4, c4, none, 0, .slice none 0 0, rfl, hsrc, SetsAt.nil _, fun ad e _ => by
      rcases hwn ad e with h1 | h1
      · exact .inl h1
      · exact .inr (by omega), JAt.none (T6.out.1.fr FR (by omega)) HMM.out.1, ((HFW.out.mono (T := fun k => (k = g ∨ (Value.slice hp0 H.length hc0).ownBlock = some k) ∨ k = w.heap.size + 1 ∨ k = w.heap.size + 2) (fun _ _ e => e.elim)).trans ((FA.out.mono (fun _ _ e => .inl e)).trans ((T6.out.2.mono (fun _ _ e => .inl (.inl e))).trans (FR.mono (fun _ _ e => .inr e))))).mono (fun k hk e => by rcases e with e | e; exact e; omega), .inr (.inl rfl)⟩)
end Go.Proofs.Ytdndhidinbmpdaa
