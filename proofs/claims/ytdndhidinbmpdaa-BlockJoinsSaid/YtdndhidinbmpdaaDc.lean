/- Contract of the document's In: a block that grows too long. -/
import Derived.Test.YtdndhidinbmpdaaCy
import Derived.BigQuiet
namespace Go.Proofs.Ytdndhidinbmpdaa
open Go.RowKit
set_option linter.unusedVariables false
set_option maxRecDepth 100000
set_option maxHeartbeats 4000000

theorem rIn_long1 (g m : Nat) (f : Fra) (p q : Option Addr) (cp cq : Nat) (w : World) (h : RJ w g m none [] (Value.slice none 0 0)) (hI : FrIn w f p q cq) (hfl : 0 ≤ f.fl) (hps : 1 ≤ f.st) (hk : f.k = 1) (hl : (m : Int) < (f.X.length : Int)) :
    Calls Try.prog 16 #[.pointer (some ⟨g, 0, none⟩), .agg #[.int .i64 f.k, .int .i64 f.fl, .int .i64 f.st, .slice p f.X.length cp, .int .i64 f.pad, .int .u32 f.code, .int .i64 f.last, .int .i64 f.inc, .int .i64 f.dep, .bool f.only, .int .i64 f.wt, .slice q f.Y.length cq]] w fun e w' => RInAs w g m (Value.slice none 0 0) (inJ m none [] f) e w' := by
  obtain ⟨W, hW⟩ : ∃ W, W = ((w.alloc (.cells #[.int .i64 f.k, .int .i64 f.fl, .int .i64 f.st, .slice p f.X.length cp, .int .i64 f.pad, .int .u32 f.code, .int .i64 f.last, .int .i64 f.inc, .int .i64 f.dep, .bool f.only, .int .i64 f.wt, .slice q f.Y.length cq] 34)).alloc (.cells #[.int .i64 0, .int .i64 0, .int .i64 0, .slice none 0 0, .int .i64 0, .int .u32 0, .int .i64 0, .int .i64 0, .int .i64 0, .bool false, .int .i64 0, .slice none 0 0] 34)).alloc (.cells #[.bool false, .int .i64 0, .int .i64 0] 43) := ⟨_, rfl⟩
  have HFW : Hid (Fr (fun _ => False) w W) := by rw [hW]; exact (((Fr.refl _ _).alloc _).alloc _).alloc _
  have A1 : Hid (FAt W w.heap.size f p cp q cq) := by rw [hW]; exact past_at _ (past_at _ (heap_alloc_new w _))
  have R1 : Hid (W.heap[w.heap.size + 1]? = some (.cells #[.int .i64 0, .int .i64 0, .int .i64 0, .slice none 0 0, .int .i64 0, .int .u32 0, .int .i64 0, .int .i64 0, .int .i64 0, .bool false, .int .i64 0, .slice none 0 0] 34 (0, 0))) := by rw [hW]; exact past_at _ (last_at _ (by simp))
  have R2 : Hid (W.heap[w.heap.size + 2]? = some (.cells #[.bool false, .int .i64 0, .int .i64 0] 43 (0, 0))) := by rw [hW]; exact last_at _ (by simp)
  have HWS : Hid (W.heap.size = w.heap.size + 3) := by show _ = _; rw [hW]; simp
  have HLT : Hid (g < w.heap.size) := lt_of_heap h.c
  have HJ : Hid (RJ w g m none [] (Value.slice none 0 0)) := h
  have HJW : Hid (RJ W g m none [] (Value.slice none 0 0)) := h.later HFW.out
  have HI : Hid (FrIn W f p q cq) := hI.later HFW.out
  have HIw : Hid (FrIn w f p q cq) := hI
  have HLE : Hid (∀ k, ((Value.slice none 0 0)).ownBlock = some k → k < w.heap.size) := fun k hk => h.own.lt k hk
  obtain ⟨d0, d1, d2, d3, d4, d5, d6, d7, d8, d9, d10, d11⟩ := fcells A1.out
  obtain ⟨j0, j1, j2, j3⟩ := rcells HJW.out.c
  dsimp only [opS, opE] at j1 j2
  have hgs : ¬ w.heap.size = g := by have := HLT.out; omega
  have hgs2 : ¬ g = w.heap.size := by have := HLT.out; omega
  clear h hI
  have HO : Hid (inJ m none [] f = ⟨zeroF, false, 11, none, []⟩) := by show _ = _; unfold inJ; rw [if_neg (by simp [follB, hk]), if_neg (by rw [hk]; decide), if_pos (by simpa using hl)]
  have B1 : wrap64 (m : Int) = (m : Int) := by have := HJW.out.m; unfold wrap64; omega
  have B2 : IntKind.i64.wrap (m : Int) = (m : Int) := by rw [IntWalk.i64_left]; exact B1
  have HMM : Hid (m ≤ 65536) := HJW.out.m
  have hfr := i64r HIw.out.fl
  obtain ⟨E, hE⟩ : ∃ E, endB f.fl = E := ⟨_, rfl⟩
  have HE : Hid (endB f.fl = E) := hE
  have hE2 : decide (f.fl % 2 = 1) = E := by rw [← hE]; exact (end_mod hfl hfr.2).symm
  have hE3 : (f.fl % 2 == 1) = E := hE2
  have hE4 : (f.fl.tmod 2 == 1) = E := by rw [Int.tmod_eq_emod_of_nonneg hfl]; exact hE3
  have hE5 : decide (f.fl.tmod 2 = 1) = E := hE4
  have we : wrap64 (f.fl % 2) = f.fl % 2 := by unfold wrap64; omega
  have ho1 : f.k = 1 := hk
  have hk9 : ¬ f.k = 9 := by omega
  have ho1a : (f.k != 1) = false := by simpa using ho1
  have ho1b : decide (f.k = 1) = true := by simpa using ho1
  have ho1c : (f.k == 1) = true := by simpa using ho1
  have hk9a : (f.k != 9) = true := by simpa using hk9
  have hk9b : decide (f.k = 9) = false := by simpa using hk9
  have hk9c : (f.k == 9) = false := by simpa using hk9
  have HPS : Hid (1 ≤ f.st) := hps
  have L1 : decide ((m : Int) < (f.X.length : Int)) = true := by simpa using hl
  clear hk hk9 ho1 hE hps
  go_enter Try.func16, Try.ntmps16
  go_upto_region 1 with (fail)
  rw [← hW]
  clear hW
  go_wp2_with (fail)
  go_quiet (fail)
  have FQ : Hid (Fr (fun _ => False) W (W.drewN nq)) := (Fr.refl _ _).drewN nq
  clear d0 d1 d2 d3 d4 d5 d6 d7 d8 d9 d10 d11 j0 j1 j2 j3
  generalize W.drewN nq = wq at FQ ⊢
  have JQ : Hid (RJ wq g m none [] (Value.slice none 0 0)) := HJW.out.later FQ.out
  have AQ : Hid (FAt wq w.heap.size f p cp q cq) := A1.out.later FQ.out
  obtain ⟨d0, d1, d2, d3, d4, d5, d6, d7, d8, d9, d10, d11⟩ := fcells AQ.out
  obtain ⟨j0, j1, j2, j3⟩ := rcells JQ.out.c
  dsimp only [opS, opE] at j1 j2
  have z1 := rfroz JQ.out.c 1
  have z2 := rfroz JQ.out.c 2
  have z3 := rfroz JQ.out.c 3
  go_upto_region 9 with (fail)
  obtain ⟨wo, hwo⟩ : ∃ wo, wo = ((wq.setCell ⟨g, 1, none⟩ (.int .i64 f.st)).setCell ⟨g, 2, none⟩ (.bool E)).setCell ⟨g, 3, none⟩ (.slice none 0 0) := ⟨_, rfl⟩
  have FO : Hid (Fr (fun k => k = g) wq wo) := by rw [hwo]; exact (((Fr.refl _ _).setB _ _).setB _ _).setB _ _
  have JO : Hid (RC wo g m (some (E, f.st)) (Value.slice none 0 0)) := by rw [hwo]; exact rset_open JQ.out.c (E, f.st)
  rw [← hwo]
  clear hwo
  clear d0 d1 d2 d3 d4 d5 d6 d7 d8 d9 d10 d11 j0 j1 j2 j3 z1 z2 z3
  have AO : Hid (FAt wo w.heap.size f p cp q cq) := (FO.out.block _ (lt_of_heap AQ.out) (by have := HLT.out; omega)).trans AQ.out
  obtain ⟨d0, d1, d2, d3, d4, d5, d6, d7, d8, d9, d10, d11⟩ := fcells AO.out
  obtain ⟨j0, j1, j2, j3⟩ := rcells JO.out
  go_wp2_with (fail)
  go_quiet (fail)
  have FP : Hid (Fr (fun _ => False) wo (wo.drewN nq)) := (Fr.refl _ _).drewN nq
  clear d0 d1 d2 d3 d4 d5 d6 d7 d8 d9 d10 d11 j0 j1 j2 j3
  generalize wo.drewN nq = wp at FP ⊢
  have JB : Hid (RC wp g m (some (E, f.st)) (Value.slice none 0 0)) := JO.out.fr FP.out id
  have FR0 : Hid (Fr (fun k => k = g) W wp) := (FQ.out.mono (fun _ _ e => e.elim)).trans (FO.out.trans (FP.out.mono (fun _ _ e => e.elim)))
  have KX : Hid (Calls Try.prog 25 #[.pointer (some ⟨g, 0, none⟩), .int .i64 11] wp fun e w' => e = .returned (.tuple #[zeroV, .bool false, .agg #[.bool true, .int .i64 0, .int .i64 11]]) ∧ RC w' g m none (.slice none 0 0) ∧ Fr (fun k => k = g) wp w') := rfault_in g m (some (E, f.st)) (Value.slice none 0 0) 11 wp JB.out
  go_wp2_with (first
    | (go_at_call 25; refine KX.out.mono ?_; rintro e w2 ⟨rfl, hj2, hf2⟩; have T2 : Hid (RC w2 g m none (.slice none 0 0) ∧ Fr (fun k => k = g) W w2) := ⟨hj2, FR0.out.trans hf2⟩; clear hj2 hf2; have S1 : Hid (w2.heap[w.heap.size + 1]? = some (.cells #[.int .i64 0, .int .i64 0, .int .i64 0, .slice none 0 0, .int .i64 0, .int .u32 0, .int .i64 0, .int .i64 0, .int .i64 0, .bool false, .int .i64 0, .slice none 0 0] 34 (0, 0))) := (T2.out.2.block _ (lt_of_heap R1.out) (by have := HLT.out; omega)).trans R1.out; have S2 : Hid (w2.heap[w.heap.size + 2]? = some (.cells #[.bool false, .int .i64 0, .int .i64 0] 43 (0, 0))) := (T2.out.2.block _ (lt_of_heap R2.out) (by have := HLT.out; omega)).trans R2.out; unfold zeroV)
    | (refine wpList_storeB rfl 34 (.tmp 4) (.tmp 88) rfl (w.heap.size + 1) #[.int .i64 0, .int .i64 0, .int .i64 0, .slice none 0 0, .int .i64 0, .int .u32 0, .int .i64 0, .int .i64 0, .int .i64 0, .bool false, .int .i64 0, .slice none 0 0] #[.int .i64 0, .int .i64 0, .int .i64 0, .slice none 0 0, .int .i64 0, .int .u32 0, .int .i64 0, .int .i64 0, .int .i64 0, .bool false, .int .i64 0, .slice none 0 0] 34 rfl rfl S1.out rfl (by kernel_rfl) (by simp [Value.oneCell']) ?_; intro x1 X1 Y1) | (refine wpList_storeB rfl 43 (.tmp 6) (.tmp 90) rfl (w.heap.size + 2) #[.bool false, .int .i64 0, .int .i64 0] #[.bool true, .int .i64 0, .int .i64 11] 43 rfl rfl ((Y1.out.block _ (lt_of_heap S2.out) (by omega)).trans S2.out) rfl (by kernel_rfl) (by simp [Value.oneCell']) ?_; intro x2 X2 Y2; refine Hid.out ?_))
  unfold Hid
  go_wp2_with (fail)
  obtain ⟨r0, r1, r2, r3, r4, r5, r6, r7, r8, r9, r10, r11⟩ := cells12 ((Y2.out.block _ (lt_of_heap X1.out) (by omega)).trans X1.out)
  obtain ⟨s0, s1, s2⟩ := cells3 X2.out
  refine bodyPost_ret (v := .tuple #[.agg #[.int .i64 0, .int .i64 0, .int .i64 0, .slice none 0 0, .int .i64 0, .int .u32 0, .int .i64 0, .int .i64 0, .int .i64 0, .bool false, .int .i64 0, .slice none 0 0], .bool false, .agg #[.bool true, .int .i64 0, .int .i64 11]]) (by simp [results, Try.results16, go_sem, r0, r1, r2, r3, r4, r5, r6, r7, r8, r9, r10, r11, s0, s1, s2]) rfl ?_
  rw [HO.out]
  have hlt := HLT.out
  have FR : Fr (fun k => k = w.heap.size + 1 ∨ k = w.heap.size + 2) w2 x2 := (Y1.out.mono (fun _ _ e => .inl e)).trans (Y2.out.mono (fun _ _ e => .inr e))
  exact ⟨none, 0, none, 0, .slice none 0 0, rfl, SrcAt.nil _ _, RJ.none (T2.out.1.fr FR (by omega)) HJ.out.m, ((HFW.out.mono (T := fun k => (k = g ∨ ((Value.slice none 0 0)).ownBlock = some k) ∨ k = w.heap.size + 1 ∨ k = w.heap.size + 2) (fun _ _ e => e.elim)).trans ((T2.out.2.mono (fun _ _ e => .inl (.inl e))).trans (FR.mono (fun _ _ e => .inr e)))).mono (fun k hk e => by rcases e with e | e; exact e; omega), .inr (.inl rfl)⟩
theorem rIn_long9 (g m : Nat) (en : Bool) (s : Int) (H : List UInt8) (v : Value) (f : Fra) (p q : Option Addr) (cp cq : Nat) (w : World) (h : RJ w g m (some (en, s)) H v) (hI : FrIn w f p q cq) (hfl : 0 ≤ f.fl) (hk : f.k = 9) (hst : f.st = s) (hl : (m : Int) - (H.length : Int) < (f.X.length : Int)) :
    Calls Try.prog 16 #[.pointer (some ⟨g, 0, none⟩), .agg #[.int .i64 f.k, .int .i64 f.fl, .int .i64 f.st, .slice p f.X.length cp, .int .i64 f.pad, .int .u32 f.code, .int .i64 f.last, .int .i64 f.inc, .int .i64 f.dep, .bool f.only, .int .i64 f.wt, .slice q f.Y.length cq]] w fun e w' => RInAs w g m v (inJ m (some (en, s)) H f) e w' := by
  obtain ⟨hp0, hc0, hv0⟩ := h.form
  subst hv0
  obtain ⟨W, hW⟩ : ∃ W, W = ((w.alloc (.cells #[.int .i64 f.k, .int .i64 f.fl, .int .i64 f.st, .slice p f.X.length cp, .int .i64 f.pad, .int .u32 f.code, .int .i64 f.last, .int .i64 f.inc, .int .i64 f.dep, .bool f.only, .int .i64 f.wt, .slice q f.Y.length cq] 34)).alloc (.cells #[.int .i64 0, .int .i64 0, .int .i64 0, .slice none 0 0, .int .i64 0, .int .u32 0, .int .i64 0, .int .i64 0, .int .i64 0, .bool false, .int .i64 0, .slice none 0 0] 34)).alloc (.cells #[.bool false, .int .i64 0, .int .i64 0] 43) := ⟨_, rfl⟩
  have HFW : Hid (Fr (fun _ => False) w W) := by rw [hW]; exact (((Fr.refl _ _).alloc _).alloc _).alloc _
  have A1 : Hid (FAt W w.heap.size f p cp q cq) := by rw [hW]; exact past_at _ (past_at _ (heap_alloc_new w _))
  have R1 : Hid (W.heap[w.heap.size + 1]? = some (.cells #[.int .i64 0, .int .i64 0, .int .i64 0, .slice none 0 0, .int .i64 0, .int .u32 0, .int .i64 0, .int .i64 0, .int .i64 0, .bool false, .int .i64 0, .slice none 0 0] 34 (0, 0))) := by rw [hW]; exact past_at _ (last_at _ (by simp))
  have R2 : Hid (W.heap[w.heap.size + 2]? = some (.cells #[.bool false, .int .i64 0, .int .i64 0] 43 (0, 0))) := by rw [hW]; exact last_at _ (by simp)
  have HWS : Hid (W.heap.size = w.heap.size + 3) := by show _ = _; rw [hW]; simp
  have HLT : Hid (g < w.heap.size) := lt_of_heap h.c
  have HJ : Hid (RJ w g m (some (en, s)) H (Value.slice hp0 H.length hc0)) := h
  have HJW : Hid (RJ W g m (some (en, s)) H (Value.slice hp0 H.length hc0)) := h.later HFW.out
  have HI : Hid (FrIn W f p q cq) := hI.later HFW.out
  have HIw : Hid (FrIn w f p q cq) := hI
  have HLE : Hid (∀ k, ((Value.slice hp0 H.length hc0)).ownBlock = some k → k < w.heap.size) := fun k hk => h.own.lt k hk
  obtain ⟨d0, d1, d2, d3, d4, d5, d6, d7, d8, d9, d10, d11⟩ := fcells A1.out
  obtain ⟨j0, j1, j2, j3⟩ := rcells HJW.out.c
  dsimp only [opS, opE] at j1 j2
  have hs0 : ¬ s = 0 := by have h1 : 1 ≤ s := h.pos _ rfl; omega
  have hs0a : (s != 0) = true := by simpa using hs0
  have hs0b : decide (s = 0) = false := by simpa using hs0
  have hs0c : (s == 0) = false := by simpa using hs0
  have hgs : ¬ w.heap.size = g := by have := HLT.out; omega
  have hgs2 : ¬ g = w.heap.size := by have := HLT.out; omega
  clear h hI
  have HO : Hid (inJ m (some (en, s)) H f = ⟨zeroF, false, 11, none, []⟩) := by show _ = _; unfold inJ; rw [if_neg (by simp [follB, hk, hst]), if_neg (by rw [hk]; decide), if_pos (by simpa using hl)]
  have B1 : wrap64 ((m : Int) - (H.length : Int)) = (m : Int) - (H.length : Int) := by have := HJW.out.m; have := HJW.out.le; unfold wrap64; omega
  have B2 : IntKind.i64.wrap ((m : Int) - (H.length : Int)) = (m : Int) - (H.length : Int) := by rw [IntWalk.i64_left]; exact B1
  have HMM : Hid (m ≤ 65536) := HJW.out.m
  have hk1 : ¬ f.k = 1 := by omega
  have hka : (f.k != 9) = false := by simpa using hk
  have hkb : decide (f.k = 9) = true := by simpa using hk
  have hkc : (f.k == 9) = true := by simpa using hk
  have hk1a : (f.k != 1) = true := by simpa using hk1
  have hk1b : decide (f.k = 1) = false := by simpa using hk1
  have hk1c : (f.k == 1) = false := by simpa using hk1
  have hsta : (f.st != s) = false := by simpa using hst
  have hstb : decide (f.st = s) = true := by simpa using hst
  have hstc : (f.st == s) = true := by simpa using hst
  have L1 : decide ((m : Int) - (H.length : Int) < (f.X.length : Int)) = true := by simpa using hl
  clear hk hk1 hst
  go_enter Try.func16, Try.ntmps16
  go_upto_region 1 with (fail)
  rw [← hW]
  clear hW
  go_wp2_with (fail)
  go_quiet (fail)
  have FQ : Hid (Fr (fun _ => False) W (W.drewN nq)) := (Fr.refl _ _).drewN nq
  clear d0 d1 d2 d3 d4 d5 d6 d7 d8 d9 d10 d11 j0 j1 j2 j3
  generalize W.drewN nq = wq at FQ ⊢
  have JQ : Hid (RJ wq g m (some (en, s)) H (Value.slice hp0 H.length hc0)) := HJW.out.later FQ.out
  have AQ : Hid (FAt wq w.heap.size f p cp q cq) := A1.out.later FQ.out
  obtain ⟨d0, d1, d2, d3, d4, d5, d6, d7, d8, d9, d10, d11⟩ := fcells AQ.out
  obtain ⟨j0, j1, j2, j3⟩ := rcells JQ.out.c
  dsimp only [opS, opE] at j1 j2
  have z1 := rfroz JQ.out.c 1
  have z2 := rfroz JQ.out.c 2
  have z3 := rfroz JQ.out.c 3
  go_upto_region 9 with (fail)
  obtain ⟨wo, hwo⟩ : ∃ wo, wo = wq := ⟨_, rfl⟩
  have FO : Hid (Fr (fun k => k = g) wq wo) := by rw [hwo]; exact Fr.refl _ _
  have JO : Hid (RC wo g m (some (en, s)) (.slice hp0 H.length hc0)) := by rw [hwo]; exact JQ.out.c
  rw [← hwo]
  clear hwo
  clear d0 d1 d2 d3 d4 d5 d6 d7 d8 d9 d10 d11 j0 j1 j2 j3 z1 z2 z3
  have AO : Hid (FAt wo w.heap.size f p cp q cq) := (FO.out.block _ (lt_of_heap AQ.out) (by have := HLT.out; omega)).trans AQ.out
  obtain ⟨d0, d1, d2, d3, d4, d5, d6, d7, d8, d9, d10, d11⟩ := fcells AO.out
  obtain ⟨j0, j1, j2, j3⟩ := rcells JO.out
  go_wp2_with (fail)
  go_quiet (fail)
  have FP : Hid (Fr (fun _ => False) wo (wo.drewN nq)) := (Fr.refl _ _).drewN nq
  clear d0 d1 d2 d3 d4 d5 d6 d7 d8 d9 d10 d11 j0 j1 j2 j3
  generalize wo.drewN nq = wp at FP ⊢
  have JB : Hid (RC wp g m (some (en, s)) (Value.slice hp0 H.length hc0)) := JO.out.fr FP.out id
  have FR0 : Hid (Fr (fun k => k = g) W wp) := (FQ.out.mono (fun _ _ e => e.elim)).trans (FO.out.trans (FP.out.mono (fun _ _ e => e.elim)))
  have KX : Hid (Calls Try.prog 25 #[.pointer (some ⟨g, 0, none⟩), .int .i64 11] wp fun e w' => e = .returned (.tuple #[zeroV, .bool false, .agg #[.bool true, .int .i64 0, .int .i64 11]]) ∧ RC w' g m none (.slice none 0 0) ∧ Fr (fun k => k = g) wp w') := rfault_in g m (some (en, s)) (Value.slice hp0 H.length hc0) 11 wp JB.out
  go_wp2_with (first
    | (go_at_call 25; refine KX.out.mono ?_; rintro e w2 ⟨rfl, hj2, hf2⟩; have T2 : Hid (RC w2 g m none (.slice none 0 0) ∧ Fr (fun k => k = g) W w2) := ⟨hj2, FR0.out.trans hf2⟩; clear hj2 hf2; have S1 : Hid (w2.heap[w.heap.size + 1]? = some (.cells #[.int .i64 0, .int .i64 0, .int .i64 0, .slice none 0 0, .int .i64 0, .int .u32 0, .int .i64 0, .int .i64 0, .int .i64 0, .bool false, .int .i64 0, .slice none 0 0] 34 (0, 0))) := (T2.out.2.block _ (lt_of_heap R1.out) (by have := HLT.out; omega)).trans R1.out; have S2 : Hid (w2.heap[w.heap.size + 2]? = some (.cells #[.bool false, .int .i64 0, .int .i64 0] 43 (0, 0))) := (T2.out.2.block _ (lt_of_heap R2.out) (by have := HLT.out; omega)).trans R2.out; unfold zeroV)
    | (refine wpList_storeB rfl 34 (.tmp 4) (.tmp 88) rfl (w.heap.size + 1) #[.int .i64 0, .int .i64 0, .int .i64 0, .slice none 0 0, .int .i64 0, .int .u32 0, .int .i64 0, .int .i64 0, .int .i64 0, .bool false, .int .i64 0, .slice none 0 0] #[.int .i64 0, .int .i64 0, .int .i64 0, .slice none 0 0, .int .i64 0, .int .u32 0, .int .i64 0, .int .i64 0, .int .i64 0, .bool false, .int .i64 0, .slice none 0 0] 34 rfl rfl S1.out rfl (by kernel_rfl) (by simp [Value.oneCell']) ?_; intro x1 X1 Y1) | (refine wpList_storeB rfl 43 (.tmp 6) (.tmp 90) rfl (w.heap.size + 2) #[.bool false, .int .i64 0, .int .i64 0] #[.bool true, .int .i64 0, .int .i64 11] 43 rfl rfl ((Y1.out.block _ (lt_of_heap S2.out) (by omega)).trans S2.out) rfl (by kernel_rfl) (by simp [Value.oneCell']) ?_; intro x2 X2 Y2; refine Hid.out ?_))
  unfold Hid
  go_wp2_with (fail)
  obtain ⟨r0, r1, r2, r3, r4, r5, r6, r7, r8, r9, r10, r11⟩ := cells12 ((Y2.out.block _ (lt_of_heap X1.out) (by omega)).trans X1.out)
  obtain ⟨s0, s1, s2⟩ := cells3 X2.out
  refine bodyPost_ret (v := .tuple #[.agg #[.int .i64 0, .int .i64 0, .int .i64 0, .slice none 0 0, .int .i64 0, .int .u32 0, .int .i64 0, .int .i64 0, .int .i64 0, .bool false, .int .i64 0, .slice none 0 0], .bool false, .agg #[.bool true, .int .i64 0, .int .i64 11]]) (by simp [results, Try.results16, go_sem, r0, r1, r2, r3, r4, r5, r6, r7, r8, r9, r10, r11, s0, s1, s2]) rfl ?_
  rw [HO.out]
  have hlt := HLT.out
  have FR : Fr (fun k => k = w.heap.size + 1 ∨ k = w.heap.size + 2) w2 x2 := (Y1.out.mono (fun _ _ e => .inl e)).trans (Y2.out.mono (fun _ _ e => .inr e))
  exact ⟨none, 0, none, 0, .slice none 0 0, rfl, SrcAt.nil _ _, RJ.none (T2.out.1.fr FR (by omega)) HJ.out.m, ((HFW.out.mono (T := fun k => (k = g ∨ ((Value.slice hp0 H.length hc0)).ownBlock = some k) ∨ k = w.heap.size + 1 ∨ k = w.heap.size + 2) (fun _ _ e => e.elim)).trans ((T2.out.2.mono (fun _ _ e => .inl (.inl e))).trans (FR.mono (fun _ _ e => .inr e)))).mono (fun k hk e => by rcases e with e | e; exact e; omega), .inr (.inl rfl)⟩
end Go.Proofs.Ytdndhidinbmpdaa
