/- Contract of the document's In: a block begins or goes on. -/
import Derived.Test.YtdndhidinbmpdaaCy
import Derived.BigQuiet
namespace Go.Proofs.Ytdndhidinbmpdaa
open Go.RowKit
set_option linter.unusedVariables false
set_option maxRecDepth 100000
set_option maxHeartbeats 4000000

theorem rIn_done1 (g m : Nat) (f : Fra) (p q : Option Addr) (cp cq : Nat) (w : World) (h : RJ w g m none [] (Value.slice none 0 0)) (hI : FrIn w f p q cq) (hfl : 0 ≤ f.fl) (hps : 1 ≤ f.st) (hk : f.k = 1) (hl : ¬ (m : Int) < (f.X.length : Int)) (hd : doneB f.fl = true) :
    Calls Try.prog 16 #[.pointer (some ⟨g, 0, none⟩), .agg #[.int .i64 f.k, .int .i64 f.fl, .int .i64 f.st, .slice p f.X.length cp, .int .i64 f.pad, .int .u32 f.code, .int .i64 f.last, .int .i64 f.inc, .int .i64 f.dep, .bool f.only, .int .i64 f.wt, .slice q f.Y.length cq]] w fun e w' => RInAs w g m (Value.slice none 0 0) (inJ m none [] f) e w' := by
  obtain ⟨W, hW⟩ : ∃ W, W = ((w.alloc (.cells #[.int .i64 f.k, .int .i64 f.fl, .int .i64 f.st, .slice p f.X.length cp, .int .i64 f.pad, .int .u32 f.code, .int .i64 f.last, .int .i64 f.inc, .int .i64 f.dep, .bool f.only, .int .i64 f.wt, .slice q f.Y.length cq] 34)).alloc (.cells #[.int .i64 0, .int .i64 0, .int .i64 0, .slice none 0 0, .int .i64 0, .int .u32 0, .int .i64 0, .int .i64 0, .int .i64 0, .bool false, .int .i64 0, .slice none 0 0] 34)).alloc (.cells #[.bool false, .int .i64 0, .int .i64 0] 43) := ⟨_, rfl⟩
  have HFW : Hid (Fr (fun _ => False) w W) := by rw [hW]; exact (((Fr.refl _ _).alloc _).alloc _).alloc _
  have A1 : Hid (FAt W w.heap.size f p cp q cq) := by rw [hW]; exact past_at _ (past_at _ (heap_alloc_new w _))
  have R1 : Hid (W.heap[w.heap.size + 1]? = some (.cells #[.int .i64 0, .int .i64 0, .int .i64 0, .slice none 0 0, .int .i64 0, .int .u32 0, .int .i64 0, .int .i64 0, .int .i64 0, .bool false, .int .i64 0, .slice none 0 0] 34 (0, 0))) := by rw [hW]; exact past_at _ (last_at _ (by simp))
  have R2 : Hid (W.heap[w.heap.size + 2]? = some (.cells #[.bool false, .int .i64 0, .int .i64 0] 43 (0, 0))) := by rw [hW]; exact last_at _ (by simp)
  have HWS : Hid (W.heap.size = w.heap.size + 3) := by show _ = _; rw [hW]; simp
  have HLT : Hid (g < w.heap.size) := lt_of_heap h.c
  have HJ : Hid (RJ w g m none [] (Value.slice none 0 0)) := h
  have HJW : Hid (RJ W g m none [] (Value.slice none 0 0)) := h.later HFW.out
  have HI : Hid (FrIn W f p q cq) := hI.later HFW.out
  have HIw : Hid (FrIn w f p q cq) := hI
  have HLE : Hid (∀ k, ((Value.slice none 0 0)).ownBlock = some k → k < w.heap.size) := fun k hk => h.own.lt k hk
  obtain ⟨d0, d1, d2, d3, d4, d5, d6, d7, d8, d9, d10, d11⟩ := fcells A1.out
  obtain ⟨j0, j1, j2, j3⟩ := rcells HJW.out.c
  dsimp only [opS, opE] at j1 j2
  have hgs : ¬ w.heap.size = g := by have := HLT.out; omega
  have hgs2 : ¬ g = w.heap.size := by have := HLT.out; omega
  clear h hI
  have HO : Hid (inJ m none [] f = ⟨wholeF (some (endB f.fl, f.st)) ([] ++ f.X), true, 0, none, []⟩) := by show _ = _; unfold inJ; rw [if_neg (by simp [follB, hk]), if_neg (by rw [hk]; decide), if_neg (by simpa using hl)]; simp [hk, hd]
  have B1 : wrap64 (m : Int) = (m : Int) := by have := HJW.out.m; unfold wrap64; omega
  have B2 : IntKind.i64.wrap (m : Int) = (m : Int) := by rw [IntWalk.i64_left]; exact B1
  have HMM : Hid (m ≤ 65536) := HJW.out.m
  have hfr := i64r HIw.out.fl
  obtain ⟨E, hE⟩ : ∃ E, endB f.fl = E := ⟨_, rfl⟩
  have HE : Hid (endB f.fl = E) := hE
  have hE2 : decide (f.fl % 2 = 1) = E := by rw [← hE]; exact (end_mod hfl hfr.2).symm
  have hE3 : (f.fl % 2 == 1) = E := hE2
  have hE4 : (f.fl.tmod 2 == 1) = E := by rw [Int.tmod_eq_emod_of_nonneg hfl]; exact hE3
  have hE5 : decide (f.fl.tmod 2 = 1) = E := hE4
  have we : wrap64 (f.fl % 2) = f.fl % 2 := by unfold wrap64; omega
  have ho1 : f.k = 1 := hk
  have hk9 : ¬ f.k = 9 := by omega
  have ho1a : (f.k != 1) = false := by simpa using ho1
  have ho1b : decide (f.k = 1) = true := by simpa using ho1
  have ho1c : (f.k == 1) = true := by simpa using ho1
  have hk9a : (f.k != 9) = true := by simpa using hk9
  have hk9b : decide (f.k = 9) = false := by simpa using hk9
  have hk9c : (f.k == 9) = false := by simpa using hk9
  have HPS : Hid (1 ≤ f.st) := hps
  have hdm : decide (f.fl / 4 % 2 = 0) = false := by have h9 := done_mod hfl (i64r HIw.out.fl).2; rw [hd] at h9; simpa using h9.symm
  have hdn : (f.fl / 4 % 2 == 0) = false := hdm
  have hdo : ((f.fl.tdiv 4).tmod 2 == 0) = false := by rw [Int.tdiv_eq_ediv_of_nonneg hfl, Int.tmod_eq_emod_of_nonneg (by omega)]; exact hdn
  have hdp : decide ((f.fl.tdiv 4).tmod 2 = 0) = false := hdo
  have wf1 : wrap64 (f.fl / 4) = f.fl / 4 := by have := i64r HIw.out.fl; unfold wrap64; omega
  have wf2 : wrap64 (f.fl / 4 % 2) = f.fl / 4 % 2 := by unfold wrap64; omega
  have L1 : decide ((m : Int) < (f.X.length : Int)) = false := by simpa using hl
  have LM : Hid (([] : List UInt8).length + f.X.length ≤ m) := by show _ ≤ _; simp; omega
  have L2 : decide (m < f.X.length) = false := by simp; omega
  clear hk hk9 ho1 hE hps hl hd
  go_enter Try.func16, Try.ntmps16
  go_upto_region 1 with (fail)
  rw [← hW]
  clear hW
  go_wp2_with (fail)
  go_quiet (fail)
  have FQ : Hid (Fr (fun _ => False) W (W.drewN nq)) := (Fr.refl _ _).drewN nq
  clear d0 d1 d2 d3 d4 d5 d6 d7 d8 d9 d10 d11 j0 j1 j2 j3
  generalize W.drewN nq = wq at FQ ⊢
  have JQ : Hid (RJ wq g m none [] (Value.slice none 0 0)) := HJW.out.later FQ.out
  have AQ : Hid (FAt wq w.heap.size f p cp q cq) := A1.out.later FQ.out
  obtain ⟨d0, d1, d2, d3, d4, d5, d6, d7, d8, d9, d10, d11⟩ := fcells AQ.out
  obtain ⟨j0, j1, j2, j3⟩ := rcells JQ.out.c
  dsimp only [opS, opE] at j1 j2
  have z1 := rfroz JQ.out.c 1
  have z2 := rfroz JQ.out.c 2
  have z3 := rfroz JQ.out.c 3
  go_upto_region 9 with (fail)
  obtain ⟨wo, hwo⟩ : ∃ wo, wo = ((wq.setCell ⟨g, 1, none⟩ (.int .i64 f.st)).setCell ⟨g, 2, none⟩ (.bool E)).setCell ⟨g, 3, none⟩ (.slice none 0 0) := ⟨_, rfl⟩
  have FO : Hid (Fr (fun k => k = g) wq wo) := by rw [hwo]; exact (((Fr.refl _ _).setB _ _).setB _ _).setB _ _
  have JO : Hid (RC wo g m (some (E, f.st)) (Value.slice none 0 0)) := by rw [hwo]; exact rset_open JQ.out.c (E, f.st)
  rw [← hwo]
  clear hwo
  clear d0 d1 d2 d3 d4 d5 d6 d7 d8 d9 d10 d11 j0 j1 j2 j3 z1 z2 z3
  have AO : Hid (FAt wo w.heap.size f p cp q cq) := (FO.out.block _ (lt_of_heap AQ.out) (by have := HLT.out; omega)).trans AQ.out
  obtain ⟨d0, d1, d2, d3, d4, d5, d6, d7, d8, d9, d10, d11⟩ := fcells AO.out
  obtain ⟨j0, j1, j2, j3⟩ := rcells JO.out
  go_wp2_with (fail)
  go_quiet (fail)
  have FP : Hid (Fr (fun _ => False) wo (wo.drewN nq)) := (Fr.refl _ _).drewN nq
  clear d0 d1 d2 d3 d4 d5 d6 d7 d8 d9 d10 d11 j0 j1 j2 j3
  generalize wo.drewN nq = wp at FP ⊢
  have JB : Hid (RC wp g m (some (E, f.st)) (Value.slice none 0 0)) := JO.out.fr FP.out id
  have FR0 : Hid (Fr (fun k => k = g) W wp) := (FQ.out.mono (fun _ _ e => e.elim)).trans (FO.out.trans (FP.out.mono (fun _ _ e => e.elim)))
  have AP : Hid (FAt wp w.heap.size f p cp q cq) := AO.out.later FP.out
  obtain ⟨d0, d1, d2, d3, d4, d5, d6, d7, d8, d9, d10, d11⟩ := fcells AP.out
  obtain ⟨j0, j1, j2, j3⟩ := rcells JB.out
  have HFP : Hid (Fr (fun k => k = g) wq wp) := FO.out.trans (FP.out.mono (fun _ _ e => e.elim))
  have SO : Hid (SrcAt wp.drew p f.X) := ((HI.out.later FQ.out).src.fr HFP.out (by have h8 := JQ.out.c; exact h8.src (HI.out.later FQ.out).src)).heap rfl
  have OO : Hid (OwnAt wp.drew 5 (Value.slice none 0 0) (bv ([]))) := OwnAt.nil _ _
  have HNE : Hid (∀ k, (Value.slice none 0 0).ownBlock = some k → k ≠ g ∧ k ≠ w.heap.size ∧ k ≠ w.heap.size + 1 ∧ k ≠ w.heap.size + 2) := fun k hk => ⟨JQ.out.ne k hk, by have := HLE.out k hk; omega, by have := HLE.out k hk; omega, by have := HLE.out k hk; omega⟩
  have HCC : Hid (∀ w4, Fr (fun k => (Value.slice none 0 0).ownBlock = some k) wp.drew w4 → w4.cell? ⟨g, 3, none⟩ = some (Value.slice none 0 0) ∧ w4.frozen? ⟨g, 3, none⟩ = false ∧ RC w4 g m (some (E, f.st)) (Value.slice none 0 0)) := fun w4 hf => by
    have h4 : RC w4 g m (some (E, f.st)) (Value.slice none 0 0) := RC.fr (w := wp.drew) JB.out hf (fun e => (HNE.out g e).1 rfl)
    exact ⟨(rcells h4).2.2.2, rfroz h4 3, h4⟩
  have HBY : Hid (([] : List UInt8).length + f.X.length ≤ 225179981368371) := by have := LM.out; have := HMM.out; show _ ≤ _; omega
  obtain ⟨i5, i1, i2, i3, i4⟩ := info5
  have I1 : Hid (Try.prog.info? 5 = some i5) := i1
  have I2 : Hid (i5.zero = some (.int .u8 0)) := i2
  have I3 : Hid (i5.size = 1) := i3
  have I4 : Hid (i5.bytes = 1) := i4
  clear i1 i2 i3 i4 B1 B2 L1
  go_wp2_with (fail)
  go_region_law (refine step_append_bytes rfl (.tmp 95) (.tmp 97) 22 22 rfl 5 i5 Try.underlying22 Try.underlying22 I1.out I2.out I3.out I4.out (Value.slice none 0 0) [] (by go_simp) OO.out p f.X.length cp (by go_simp) f.X SO.out rfl HBY.out ?_; intro a4 n4 c4 w4 Hn4 hown4 hf4 hk4; obtain ⟨r1, r2, r3⟩ := HCC.out w4 hf4.out)
  all_goals (
    have HN4 : Hid (n4 = ([] ++ f.X).length) := by show _ = _; rw [Hn4.out, List.length_append]
    have O4 : Hid (OwnAt w4 5 (.slice a4 n4 c4) (bv ([] ++ f.X))) := hown4
    have F4 : Hid (Fr (fun k => (Value.slice none 0 0).ownBlock = some k) wp.drew w4) := hf4.out
    have K4 : Hid ((Value.slice a4 n4 c4).ownBlock = (Value.slice none 0 0).ownBlock ∨ ∃ k, (Value.slice a4 n4 c4).ownBlock = some k ∧ wp.drew.heap.size ≤ k) := hk4.out
    have R4 : Hid (RC w4 g m (some (E, f.st)) (Value.slice none 0 0)) := r3
    clear hown4 hf4 hk4 r1 r2 r3
    clear d0 d1 d2 d3 d4 d5 d6 d7 d8 d9 d10 d11 j0 j1 j2 j3
    obtain ⟨w5, hw5⟩ : ∃ w5, w5 = w4.setCell ⟨g, 3, none⟩ (.slice a4 n4 c4) := ⟨_, rfl⟩
    have J5 : Hid (RC w5 g m (some (E, f.st)) (.slice a4 n4 c4)) := by rw [hw5]; exact rset_held R4.out _
    have F5 : Hid (Fr (fun k => k = g) w4 w5) := by rw [hw5]; exact (Fr.refl _ _).setB _ _
    rw [← hw5]
    clear hw5
    have FA : Hid (Fr (fun k => k = g ∨ (Value.slice none 0 0).ownBlock = some k) W w5) := ((FR0.out.mono (fun _ _ e => .inl e)).trans (Fr.trans (b := wp.drew) (Fr.refl _ _).drew (F4.out.mono (fun _ _ e => .inr e)))).trans (F5.out.mono (fun _ _ e => .inl e))
    have WS : Hid (w.heap.size + 3 ≤ wp.drew.heap.size) := by have := HWS.out; have h3 := FR0.out.size; show _ ≤ wp.heap.size; omega
    have O5 : Hid (OwnAt w5 5 (.slice a4 n4 c4) (bv ([] ++ f.X))) := O4.out.fr F5.out (fun k hk e => by
      subst e
      rcases K4.out with h1 | ⟨k', h1, h2⟩
      · rw [h1] at hk; exact (HNE.out _ hk).1 rfl
      · rw [h1] at hk; cases hk; have := WS.out; have := HLT.out; omega)
    have A5 : Hid (FAt w5 w.heap.size f p cp q cq) := (FA.out.block _ (lt_of_heap A1.out) (fun e => by rcases e with e | e; have := HLT.out; omega; exact (HNE.out _ e).2.1 rfl)).trans A1.out
    have S1 : Hid (w5.heap[w.heap.size + 1]? = some (.cells #[.int .i64 0, .int .i64 0, .int .i64 0, .slice none 0 0, .int .i64 0, .int .u32 0, .int .i64 0, .int .i64 0, .int .i64 0, .bool false, .int .i64 0, .slice none 0 0] 34 (0, 0))) := (FA.out.block _ (lt_of_heap R1.out) (fun e => by rcases e with e | e; have := HLT.out; omega; exact (HNE.out _ e).2.2.1 rfl)).trans R1.out
    have S2 : Hid (w5.heap[w.heap.size + 2]? = some (.cells #[.bool false, .int .i64 0, .int .i64 0] 43 (0, 0))) := (FA.out.block _ (lt_of_heap R2.out) (fun e => by rcases e with e | e; have := HLT.out; omega; exact (HNE.out _ e).2.2.2 rfl)).trans R2.out
    obtain ⟨d0, d1, d2, d3, d4, d5, d6, d7, d8, d9, d10, d11⟩ := fcells A5.out
    go_wp2_with (fail)
    refine wp_region_held_drew (S := fun w2 => RC w2 g m (some (E, f.st)) (.slice a4 n4 c4)) (by kernel_rfl) J5.out (fun hHeld => ?_)
    have FD : Hid (Fr (fun _ => False) w5 w5.drew) := (Fr.refl _ _).drew
    generalize w5.drew = V5 at hHeld FD ⊢
    refine wpAnyH_take (i := 0) (oi := _) (v := .pointer (some ⟨g, 0, none⟩)) rfl (by kernel_rfl) (by kernel_rfl) (by kernel_rfl) (fun _ _ _ h => h) (Or.inl ⟨by kernel_rfl, fun w2 hw => by go_simp⟩) hHeld ?_
    refine wpAnyH_take (i := 1) (oi := _) (v := .pointer (some ⟨g, 0, none⟩)) rfl (by kernel_rfl) (by kernel_rfl) (by kernel_rfl) (fun _ _ _ h => h) (Or.inl ⟨by kernel_rfl, fun w2 hw => by go_simp⟩) hHeld ?_
    refine wpAnyH_take (i := 2) (oi := _) (v := .pointer (some ⟨g, 1, none⟩)) rfl (by kernel_rfl) (by kernel_rfl) (by kernel_rfl) (fun _ _ _ h => h) (Or.inl ⟨by kernel_rfl, fun w2 hw => by go_simp⟩) hHeld ?_
    refine wpAnyH_take (i := 3) (oi := _) (v := .int .i64 f.st) rfl (by kernel_rfl) (by kernel_rfl) (by kernel_rfl) (fun _ _ _ h => h) (Or.inl ⟨by kernel_rfl, fun w2 hw => by obtain ⟨t0, t1, t2, t3⟩ := rcells hw; dsimp only [opS, opE] at t1 t2; go_simp⟩) hHeld ?_
    refine wpAnyH_take (i := 4) (oi := _) (v := .pointer (some ⟨g, 0, none⟩)) rfl (by kernel_rfl) (by kernel_rfl) (by kernel_rfl) (fun _ _ _ h => h) (Or.inl ⟨by kernel_rfl, fun w2 hw => by go_simp⟩) hHeld ?_
    refine wpAnyH_take (i := 5) (oi := _) (v := .pointer (some ⟨g, 0, none⟩)) rfl (by kernel_rfl) (by kernel_rfl) (by kernel_rfl) (fun _ _ _ h => h) (Or.inl ⟨by kernel_rfl, fun w2 hw => by go_simp⟩) hHeld ?_
    refine wpAnyH_take (i := 6) (oi := _) (v := .pointer (some ⟨g, 3, none⟩)) rfl (by kernel_rfl) (by kernel_rfl) (by kernel_rfl) (fun _ _ _ h => h) (Or.inl ⟨by kernel_rfl, fun w2 hw => by go_simp⟩) hHeld ?_
    refine wpAnyH_take (i := 7) (oi := _) (v := .slice a4 n4 c4) rfl (by kernel_rfl) (by kernel_rfl) (by kernel_rfl) (fun _ _ _ h => h) (Or.inl ⟨by kernel_rfl, fun w2 hw => by obtain ⟨t0, t1, t2, t3⟩ := rcells hw; dsimp only [opS, opE] at t1 t2; go_simp⟩) hHeld ?_
    refine wpAnyH_take (i := 8) (oi := _) (v := .agg #[.int .i64 1, .int .i64 4, .int .i64 f.st, .slice a4 n4 c4, .int .i64 0, .int .u32 0, .int .i64 0, .int .i64 0, .int .i64 0, .bool false, .int .i64 0, .slice none 0 0]) rfl (by kernel_rfl) (by kernel_rfl) (by kernel_rfl) (fun _ _ _ h => h) (Or.inl ⟨by kernel_rfl, fun w2 hw => by go_simp⟩) hHeld ?_
    simp only [Act.put, List.getElem_toArray, List.getElem_cons_succ, List.getElem_cons_zero, List.setIfInBounds_toArray, List.set_cons_zero, List.set_cons_succ]
    refine wpAnyH_ready (rs := [9]) (by kernel_rfl) (by simp) ?_
    refine AllReadyH.cons rfl (fun K hK => ?_) AllReadyH.nil
    go_simp
    refine hK.out _ _ (hHeld.fr ((Fr.refl (fun _ => False) _).alloc _) id) (fun hHeld2 => ?_)
    clear hK K
    refine wpAnyH_ready (rs := [10]) (by kernel_rfl) (by simp) ?_
    refine AllReadyH.cons rfl (fun K hK => ?_) AllReadyH.nil
    refine stepR_storeB rfl rfl 34 (.tmp 7) (.tmp 116) rfl V5.heap.size #[.int .i64 0, .int .i64 0, .int .i64 0, .slice none 0 0, .int .i64 0, .int .u32 0, .int .i64 0, .int .i64 0, .int .i64 0, .bool false, .int .i64 0, .slice none 0 0] #[.int .i64 1, .int .i64 4, .int .i64 f.st, .slice a4 n4 c4, .int .i64 0, .int .u32 0, .int .i64 0, .int .i64 0, .int .i64 0, .bool false, .int .i64 0, .slice none 0 0] 34 rfl rfl (heap_alloc_new V5 _) rfl (by kernel_rfl) (by simp [Value.oneCell']) ?_
    intro w6 H6 G6
    have HGV : Hid (g < V5.heap.size) := lt_of_heap hHeld
    refine hK.out _ _ (hHeld2.fr G6.out (by have := HGV.out; omega)) (fun hHeld3 => ?_)
    clear hK K
    refine wpAnyH_done (by kernel_rfl) ?_ _
    have J6 : Hid (RC w6 g m (some (E, f.st)) (.slice a4 n4 c4)) := hHeld3
    have F6 : Hid (Fr (fun _ => False) w5 w6) := ((FD.out.mono (T := fun k => k = V5.heap.size) (fun _ _ e => e.elim)).trans (((Fr.refl (fun k => k = V5.heap.size) V5).alloc _).trans G6.out)).mono (fun k hk e => by have := FD.out.size; omega)
    have HV5 : Hid (w5.heap.size ≤ V5.heap.size) := FD.out.size
    clear hHeld hHeld2 hHeld3 d0 d1 d2 d3 d4 d5 d6 d7 d8 d9 d10 d11
    obtain ⟨j0, j1, j2, j3⟩ := rcells J6.out
    dsimp only [opS, opE] at j1 j2
    have z1 := rfroz J6.out 1
    have z2 := rfroz J6.out 2
    have z3 := rfroz J6.out 3
    obtain ⟨b0, b1, b2, b3, b4, b5, b6, b7, b8, b9, b10, b11⟩ := cells12 H6.out
    have yb : w6.frozen? ⟨V5.heap.size, 1, none⟩ = false := frozen_of_heap H6.out
    have hgne : ¬ V5.heap.size = g := by have := HGV.out; omega
    have hgne2 : ¬ g = V5.heap.size := by have := HGV.out; omega
    cases E with
    | true =>
      have H7 : (w6.setCell ⟨V5.heap.size, 1, none⟩ (.int .i64 5)).heap[V5.heap.size]? = some (.cells #[.int .i64 1, .int .i64 5, .int .i64 f.st, .slice a4 n4 c4, .int .i64 0, .int .u32 0, .int .i64 0, .int .i64 0, .int .i64 0, .bool false, .int .i64 0, .slice none 0 0] 34 (0, 0)) := by
        have := heap_set (j := 1) (.int .i64 5) H6.out
        simpa using this
      have F7 : Fr (fun k => k = V5.heap.size) w6 (w6.setCell ⟨V5.heap.size, 1, none⟩ (.int .i64 5)) := (Fr.refl _ _).setB _ _
      have J7 : RC (w6.setCell ⟨V5.heap.size, 1, none⟩ (.int .i64 5)) g m (some (true, f.st)) (.slice a4 n4 c4) := J6.out.fr F7 hgne2
      obtain ⟨k0, k1, k2, k3⟩ := rcells J7
      have y1 := rfroz J7 1
      have y2 := rfroz J7 2
      have y3 := rfroz J7 3
      dsimp only [opS, opE] at k1 k2
      obtain ⟨w8, hw8⟩ : ∃ w8, w8 = (((w6.setCell ⟨V5.heap.size, 1, none⟩ (.int .i64 5)).setCell ⟨g, 1, none⟩ (.int .i64 0)).setCell ⟨g, 2, none⟩ (.bool false)).setCell ⟨g, 3, none⟩ (.slice none 0 0) := ⟨_, rfl⟩
      have J8 : Hid (RC w8 g m none (.slice none 0 0)) := by rw [hw8]; exact rset_none J7
      have F8 : Hid (Fr (fun k => k = g) (w6.setCell ⟨V5.heap.size, 1, none⟩ (.int .i64 5)) w8) := by rw [hw8]; exact (((Fr.refl _ _).setB _ _).setB _ _).setB _ _
      have H8 : Hid (w8.heap[V5.heap.size]? = some (.cells #[.int .i64 1, .int .i64 5, .int .i64 f.st, .slice a4 n4 c4, .int .i64 0, .int .u32 0, .int .i64 0, .int .i64 0, .int .i64 0, .bool false, .int .i64 0, .slice none 0 0] 34 (0, 0))) := (F8.out.block _ (lt_of_heap H7) hgne).trans H7
      have F58 : Hid (Fr (fun k => k = g) w5 w8) := (((F6.out.mono (T := fun k => k = g ∨ k = V5.heap.size) (fun _ _ e => e.elim)).trans (F7.mono (fun _ _ e => .inr e))).trans (F8.out.mono (fun _ _ e => .inl e))).mono (fun k hk e => by have := HV5.out; omega)
      clear H7 F7 J7
      go_upto_region 20 with (fail)
      rw [← hw8]
      clear hw8 j0 j1 j2 j3 z1 z2 z3 b0 b1 b2 b3 b4 b5 b6 b7 b8 b9 b10 b11 yb k0 k1 k2 k3 y1 y2 y3
      obtain ⟨b0, b1, b2, b3, b4, b5, b6, b7, b8, b9, b10, b11⟩ := cells12 H8.out
      have U1 : Hid (w8.heap[w.heap.size + 1]? = some (.cells #[.int .i64 0, .int .i64 0, .int .i64 0, .slice none 0 0, .int .i64 0, .int .u32 0, .int .i64 0, .int .i64 0, .int .i64 0, .bool false, .int .i64 0, .slice none 0 0] 34 (0, 0))) := (F58.out.block _ (lt_of_heap S1.out) (by have := HLT.out; omega)).trans S1.out
      have U2 : Hid (w8.heap[w.heap.size + 2]? = some (.cells #[.bool false, .int .i64 0, .int .i64 0] 43 (0, 0))) := (F58.out.block _ (lt_of_heap S2.out) (by have := HLT.out; omega)).trans S2.out
      go_wp2_with (first
        | (refine wpList_storeB rfl 34 (.tmp 4) (.tmp 131) rfl (w.heap.size + 1) #[.int .i64 0, .int .i64 0, .int .i64 0, .slice none 0 0, .int .i64 0, .int .u32 0, .int .i64 0, .int .i64 0, .int .i64 0, .bool false, .int .i64 0, .slice none 0 0] #[.int .i64 1, .int .i64 5, .int .i64 f.st, .slice a4 n4 c4, .int .i64 0, .int .u32 0, .int .i64 0, .int .i64 0, .int .i64 0, .bool false, .int .i64 0, .slice none 0 0] 34 rfl rfl U1.out rfl (by kernel_rfl) (by simp [Value.oneCell']) ?_; intro x1 X1 Y1) | (refine wpList_storeB rfl 43 (.tmp 6) (.tmp 132) rfl (w.heap.size + 2) #[.bool false, .int .i64 0, .int .i64 0] #[.bool false, .int .i64 0, .int .i64 0] 43 rfl rfl ((Y1.out.block _ (lt_of_heap U2.out) (by omega)).trans U2.out) rfl (by kernel_rfl) (by simp [Value.oneCell']) ?_; intro x2 X2 Y2; refine Hid.out ?_))
      unfold Hid
      go_wp2_with (fail)
      obtain ⟨r0, r1, r2, r3, r4, r5, r6, r7, r8, r9, r10, r11⟩ := cells12 ((Y2.out.block _ (lt_of_heap X1.out) (by omega)).trans X1.out)
      obtain ⟨s0, s1, s2⟩ := cells3 X2.out
      refine bodyPost_ret (v := .tuple #[.agg #[.int .i64 1, .int .i64 5, .int .i64 f.st, .slice a4 n4 c4, .int .i64 0, .int .u32 0, .int .i64 0, .int .i64 0, .int .i64 0, .bool false, .int .i64 0, .slice none 0 0], .bool true, .agg #[.bool false, .int .i64 0, .int .i64 0]]) (by simp [results, Try.results16, go_sem, r0, r1, r2, r3, r4, r5, r6, r7, r8, r9, r10, r11, s0, s1, s2]) rfl ?_
      rw [HO.out]
      have hlt := HLT.out
      have FR : Fr (fun k => k = w.heap.size + 1 ∨ k = w.heap.size + 2) w8 x2 := (Y1.out.mono (fun _ _ e => .inl e)).trans (Y2.out.mono (fun _ _ e => .inr e))
      have hn4 := HN4.out
      have hwn : ∀ ad, a4 = some ad → (Value.slice none 0 0).ownBlock = some ad.block ∨ wp.drew.heap.size ≤ ad.block := fun ad e => by
        rcases K4.out with h1 | ⟨k', h1, h2⟩
        · left; rw [← h1, e]; rfl
        · right; rw [e] at h1; cases h1; exact h2
      have hws := WS.out
      have hsrc : SrcAt x2 a4 ([] ++ f.X) := ((own_src O5.out).fr F58.out (fun ad e _ e2 => by
        rcases hwn ad e with h1 | h1
        · exact (HNE.out _ h1).1 e2
        · omega)).fr FR (fun ad e _ e2 => by
        rcases hwn ad e with h1 | h1
        · have := HNE.out _ h1; omega
        · omega)
      subst hn4
      rw [HE.out]
      exact ⟨a4, c4, none, 0, .slice none 0 0, rfl, hsrc, RJ.none (J8.out.fr FR (by omega)) HMM.out, ((HFW.out.mono (T := fun k => (k = g ∨ (Value.slice none 0 0).ownBlock = some k) ∨ k = w.heap.size + 1 ∨ k = w.heap.size + 2) (fun _ _ e => e.elim)).trans ((FA.out.mono (fun _ _ e => .inl e)).trans ((F58.out.mono (fun _ _ e => .inl (.inl e))).trans (FR.mono (fun _ _ e => .inr e))))).mono (fun k hk e => by rcases e with e | e; exact e; omega), .inr (.inl rfl)⟩
    | false =>
      have H7 : (w6).heap[V5.heap.size]? = some (.cells #[.int .i64 1, .int .i64 4, .int .i64 f.st, .slice a4 n4 c4, .int .i64 0, .int .u32 0, .int .i64 0, .int .i64 0, .int .i64 0, .bool false, .int .i64 0, .slice none 0 0] 34 (0, 0)) := H6.out
      have F7 : Fr (fun k => k = V5.heap.size) w6 (w6) := Fr.refl _ _
      have J7 : RC (w6) g m (some (false, f.st)) (.slice a4 n4 c4) := J6.out
      obtain ⟨k0, k1, k2, k3⟩ := rcells J7
      have y1 := rfroz J7 1
      have y2 := rfroz J7 2
      have y3 := rfroz J7 3
      dsimp only [opS, opE] at k1 k2
      obtain ⟨w8, hw8⟩ : ∃ w8, w8 = (((w6).setCell ⟨g, 1, none⟩ (.int .i64 0)).setCell ⟨g, 2, none⟩ (.bool false)).setCell ⟨g, 3, none⟩ (.slice none 0 0) := ⟨_, rfl⟩
      have J8 : Hid (RC w8 g m none (.slice none 0 0)) := by rw [hw8]; exact rset_none J7
      have F8 : Hid (Fr (fun k => k = g) (w6) w8) := by rw [hw8]; exact (((Fr.refl _ _).setB _ _).setB _ _).setB _ _
      have H8 : Hid (w8.heap[V5.heap.size]? = some (.cells #[.int .i64 1, .int .i64 4, .int .i64 f.st, .slice a4 n4 c4, .int .i64 0, .int .u32 0, .int .i64 0, .int .i64 0, .int .i64 0, .bool false, .int .i64 0, .slice none 0 0] 34 (0, 0))) := (F8.out.block _ (lt_of_heap H7) hgne).trans H7
      have F58 : Hid (Fr (fun k => k = g) w5 w8) := (((F6.out.mono (T := fun k => k = g ∨ k = V5.heap.size) (fun _ _ e => e.elim)).trans (F7.mono (fun _ _ e => .inr e))).trans (F8.out.mono (fun _ _ e => .inl e))).mono (fun k hk e => by have := HV5.out; omega)
      clear H7 F7 J7
      go_upto_region 20 with (fail)
      rw [← hw8]
      clear hw8 j0 j1 j2 j3 z1 z2 z3 b0 b1 b2 b3 b4 b5 b6 b7 b8 b9 b10 b11 yb k0 k1 k2 k3 y1 y2 y3
      obtain ⟨b0, b1, b2, b3, b4, b5, b6, b7, b8, b9, b10, b11⟩ := cells12 H8.out
      have U1 : Hid (w8.heap[w.heap.size + 1]? = some (.cells #[.int .i64 0, .int .i64 0, .int .i64 0, .slice none 0 0, .int .i64 0, .int .u32 0, .int .i64 0, .int .i64 0, .int .i64 0, .bool false, .int .i64 0, .slice none 0 0] 34 (0, 0))) := (F58.out.block _ (lt_of_heap S1.out) (by have := HLT.out; omega)).trans S1.out
      have U2 : Hid (w8.heap[w.heap.size + 2]? = some (.cells #[.bool false, .int .i64 0, .int .i64 0] 43 (0, 0))) := (F58.out.block _ (lt_of_heap S2.out) (by have := HLT.out; omega)).trans S2.out
      go_wp2_with (first
        | (refine wpList_storeB rfl 34 (.tmp 4) (.tmp 131) rfl (w.heap.size + 1) #[.int .i64 0, .int .i64 0, .int .i64 0, .slice none 0 0, .int .i64 0, .int .u32 0, .int .i64 0, .int .i64 0, .int .i64 0, .bool false, .int .i64 0, .slice none 0 0] #[.int .i64 1, .int .i64 4, .int .i64 f.st, .slice a4 n4 c4, .int .i64 0, .int .u32 0, .int .i64 0, .int .i64 0, .int .i64 0, .bool false, .int .i64 0, .slice none 0 0] 34 rfl rfl U1.out rfl (by kernel_rfl) (by simp [Value.oneCell']) ?_; intro x1 X1 Y1) | (refine wpList_storeB rfl 43 (.tmp 6) (.tmp 132) rfl (w.heap.size + 2) #[.bool false, .int .i64 0, .int .i64 0] #[.bool false, .int .i64 0, .int .i64 0] 43 rfl rfl ((Y1.out.block _ (lt_of_heap U2.out) (by omega)).trans U2.out) rfl (by kernel_rfl) (by simp [Value.oneCell']) ?_; intro x2 X2 Y2; refine Hid.out ?_))
      unfold Hid
      go_wp2_with (fail)
      obtain ⟨r0, r1, r2, r3, r4, r5, r6, r7, r8, r9, r10, r11⟩ := cells12 ((Y2.out.block _ (lt_of_heap X1.out) (by omega)).trans X1.out)
      obtain ⟨s0, s1, s2⟩ := cells3 X2.out
      refine bodyPost_ret (v := .tuple #[.agg #[.int .i64 1, .int .i64 4, .int .i64 f.st, .slice a4 n4 c4, .int .i64 0, .int .u32 0, .int .i64 0, .int .i64 0, .int .i64 0, .bool false, .int .i64 0, .slice none 0 0], .bool true, .agg #[.bool false, .int .i64 0, .int .i64 0]]) (by simp [results, Try.results16, go_sem, r0, r1, r2, r3, r4, r5, r6, r7, r8, r9, r10, r11, s0, s1, s2]) rfl ?_
      rw [HO.out]
      have hlt := HLT.out
      have FR : Fr (fun k => k = w.heap.size + 1 ∨ k = w.heap.size + 2) w8 x2 := (Y1.out.mono (fun _ _ e => .inl e)).trans (Y2.out.mono (fun _ _ e => .inr e))
      have hn4 := HN4.out
      have hwn : ∀ ad, a4 = some ad → (Value.slice none 0 0).ownBlock = some ad.block ∨ wp.drew.heap.size ≤ ad.block := fun ad e => by
        rcases K4.out with h1 | ⟨k', h1, h2⟩
        · left; rw [← h1, e]; rfl
        · right; rw [e] at h1; cases h1; exact h2
      have hws := WS.out
      have hsrc : SrcAt x2 a4 ([] ++ f.X) := ((own_src O5.out).fr F58.out (fun ad e _ e2 => by
        rcases hwn ad e with h1 | h1
        · exact (HNE.out _ h1).1 e2
        · omega)).fr FR (fun ad e _ e2 => by
        rcases hwn ad e with h1 | h1
        · have := HNE.out _ h1; omega
        · omega)
      subst hn4
      rw [HE.out]
      exact ⟨a4, c4, none, 0, .slice none 0 0, rfl, hsrc, RJ.none (J8.out.fr FR (by omega)) HMM.out, ((HFW.out.mono (T := fun k => (k = g ∨ (Value.slice none 0 0).ownBlock = some k) ∨ k = w.heap.size + 1 ∨ k = w.heap.size + 2) (fun _ _ e => e.elim)).trans ((FA.out.mono (fun _ _ e => .inl e)).trans ((F58.out.mono (fun _ _ e => .inl (.inl e))).trans (FR.mono (fun _ _ e => .inr e))))).mono (fun k hk e => by rcases e with e | e; exact e; omega), .inr (.inl rfl)⟩)
end Go.Proofs.Ytdndhidinbmpdaa
