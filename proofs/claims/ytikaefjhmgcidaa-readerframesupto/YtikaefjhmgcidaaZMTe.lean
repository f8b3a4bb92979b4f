/- Contract of the reader's Next. -/
import Derived.Test.YtikaefjhmgcidaaZTd
namespace Go.Proofs.Ytikaefjhmgcidaa
open Go.RowKit
set_option linter.unusedVariables false
set_option maxRecDepth 100000
set_option maxHeartbeats 4000000

/-- A reader in memory: what it has that was not told of, the fault by which it has failed; the block of its bytes; a bound. -/
def Rdr (w : World) (g : Nat) (most : Int) (B : List UInt8) (X : Flt) (ob : Option Nat) (M : Nat) : Prop :=
  ∃ a n c at_ D, RdC w g most (.slice a n c) at_ X ∧ OwnAt w 5 (.slice a n c) (bv D) ∧ at_ ≤ D.length ∧ D.drop at_ = B ∧ (Value.slice a n c).ownBlock = ob ∧ (X.is = false → D.length ≤ M)
/-- What Next answers. -/
def NextAs (w : World) (g : Nat) (most : Int) (ob : Option Nat) (M : Nat) (r : (Fra × Bool × Flt) × List UInt8 × Flt) (e : Ending) (w' : World) : Prop :=
  ∃ p cp q cq ob', e = .returned (.tuple #[.agg #[.int .i64 r.1.1.k, .int .i64 r.1.1.fl, .int .i64 r.1.1.st, .slice p r.1.1.X.length cp, .int .i64 r.1.1.pad, .int .u32 r.1.1.code, .int .i64 r.1.1.last, .int .i64 r.1.1.inc, .int .i64 r.1.1.dep, .bool r.1.1.only, .int .i64 r.1.1.wt, .slice q r.1.1.Y.length cq], .bool r.1.2.1, .agg #[.bool r.1.2.2.is, .int .i64 r.1.2.2.st, .int .i64 r.1.2.2.code]]) ∧ SrcAt w' p r.1.1.X ∧ SetsAt w' q cq r.1.1.Y ∧ (∀ ad, p = some ad → 0 < r.1.1.X.length → w.heap.size ≤ ad.block ∧ ob' ≠ some ad.block) ∧ (∀ ad, q = some ad → 0 < r.1.1.Y.length → w.heap.size ≤ ad.block ∧ ob' ≠ some ad.block) ∧ Rdr w' g most r.2.1 r.2.2 ob' (min M (2 * r.2.1.length)) ∧ Fr (fun k => k = g) w w' ∧ (ob' = ob ∨ ∃ k, ob' = some k ∧ w.heap.size ≤ k)

theorem Next_nil (w : World) : Calls Try.prog 12 #[.pointer none] w fun e w' => e = .returned (.tuple #[.agg #[.int .i64 0, .int .i64 0, .int .i64 0, .slice none 0 0, .int .i64 0, .int .u32 0, .int .i64 0, .int .i64 0, .int .i64 0, .bool false, .int .i64 0, .slice none 0 0], .bool false, .agg #[.bool false, .int .i64 0, .int .i64 0]]) ∧ Fr (fun _ => False) w w' := by
  have KM := fun w => made_nil w
  go_enter Try.func12, Try.ntmps12
  go_wp2_with (first
    | (go_at_call 21; refine (KM _).mono ?_; rintro e w' ⟨rfl, rfl⟩)
    | (refine wpList_storeB rfl 36 (.tmp 2) (.tmp 11) rfl w.heap.size #[.int .i64 0, .int .i64 0, .int .i64 0, .slice none 0 0, .int .i64 0, .int .u32 0, .int .i64 0, .int .i64 0, .int .i64 0, .bool false, .int .i64 0, .slice none 0 0] #[.int .i64 0, .int .i64 0, .int .i64 0, .slice none 0 0, .int .i64 0, .int .u32 0, .int .i64 0, .int .i64 0, .int .i64 0, .bool false, .int .i64 0, .slice none 0 0] 36 rfl rfl (past_at _ (heap_alloc_new w _)) rfl (by kernel_rfl) (by simp [Value.oneCell']) ?_; intro w5 H5 G5)
    | (refine wpList_storeB rfl 38 (.tmp 4) (.tmp 12) rfl (w.heap.size + 1) #[.bool false, .int .i64 0, .int .i64 0] #[.bool false, .int .i64 0, .int .i64 0] 38 rfl rfl ((G5.out.block _ (by simp) (by omega)).trans (last_at _ (by simp))) rfl (by kernel_rfl) (by simp [Value.oneCell']) ?_; intro w6 H6 G6))
  obtain ⟨r0, r1, r2, r3, r4, r5, r6, r7, r8, r9, r10, r11⟩ := cells12 ((G6.out.block _ (lt_of_heap H5.out) (by omega)).trans H5.out)
  obtain ⟨s0, s1, s2⟩ := cells3 H6.out
  refine bodyPost_ret (v := .tuple #[.agg #[.int .i64 0, .int .i64 0, .int .i64 0, .slice none 0 0, .int .i64 0, .int .u32 0, .int .i64 0, .int .i64 0, .int .i64 0, .bool false, .int .i64 0, .slice none 0 0], .bool false, .agg #[.bool false, .int .i64 0, .int .i64 0]]) (by simp [results, Try.results12, go_sem, r0, r1, r2, r3, r4, r5, r6, r7, r8, r9, r10, r11, s0, s1, s2]) rfl ?_
  exact ⟨rfl, ((((Fr.refl (fun k => k = w.heap.size ∨ k = w.heap.size + 1) _).alloc _).alloc _).trans ((G5.out.mono (fun _ _ e => .inl e)).trans (G6.out.mono (fun _ _ e => .inr e)))).mono (fun k hk e => by omega)⟩
theorem Next_zero (g : Nat) (v : Value) (at_ : Nat) (X : Flt) (w : World) (h : RdC w g 0 v at_ X) : Calls Try.prog 12 #[.pointer (some ⟨g, 0, none⟩)] w fun e w' => e = .returned (.tuple #[.agg #[.int .i64 0, .int .i64 0, .int .i64 0, .slice none 0 0, .int .i64 0, .int .u32 0, .int .i64 0, .int .i64 0, .int .i64 0, .bool false, .int .i64 0, .slice none 0 0], .bool false, .agg #[.bool false, .int .i64 0, .int .i64 0]]) ∧ Fr (fun _ => False) w w' := by
  have KM : Hid (∀ w2, Fr (fun _ => False) w w2 → Calls Try.prog 21 #[.pointer (some ⟨g, 0, none⟩)] w2 fun e w' => e = .returned (.bool false) ∧ w2 = w') := fun w2 hf => made_zero g v at_ X w2 (h.fr hf id)
  clear h
  go_enter Try.func12, Try.ntmps12
  go_wp2_with (first
    | (go_at_call 21; refine (KM.out _ (((Fr.refl _ _).alloc _).alloc _)).mono ?_; rintro e w' ⟨rfl, rfl⟩)
    | (refine wpList_storeB rfl 36 (.tmp 2) (.tmp 11) rfl w.heap.size #[.int .i64 0, .int .i64 0, .int .i64 0, .slice none 0 0, .int .i64 0, .int .u32 0, .int .i64 0, .int .i64 0, .int .i64 0, .bool false, .int .i64 0, .slice none 0 0] #[.int .i64 0, .int .i64 0, .int .i64 0, .slice none 0 0, .int .i64 0, .int .u32 0, .int .i64 0, .int .i64 0, .int .i64 0, .bool false, .int .i64 0, .slice none 0 0] 36 rfl rfl (past_at _ (heap_alloc_new w _)) rfl (by kernel_rfl) (by simp [Value.oneCell']) ?_; intro w5 H5 G5)
    | (refine wpList_storeB rfl 38 (.tmp 4) (.tmp 12) rfl (w.heap.size + 1) #[.bool false, .int .i64 0, .int .i64 0] #[.bool false, .int .i64 0, .int .i64 0] 38 rfl rfl ((G5.out.block _ (by simp) (by omega)).trans (last_at _ (by simp))) rfl (by kernel_rfl) (by simp [Value.oneCell']) ?_; intro w6 H6 G6))
  obtain ⟨r0, r1, r2, r3, r4, r5, r6, r7, r8, r9, r10, r11⟩ := cells12 ((G6.out.block _ (lt_of_heap H5.out) (by omega)).trans H5.out)
  obtain ⟨s0, s1, s2⟩ := cells3 H6.out
  refine bodyPost_ret (v := .tuple #[.agg #[.int .i64 0, .int .i64 0, .int .i64 0, .slice none 0 0, .int .i64 0, .int .u32 0, .int .i64 0, .int .i64 0, .int .i64 0, .bool false, .int .i64 0, .slice none 0 0], .bool false, .agg #[.bool false, .int .i64 0, .int .i64 0]]) (by simp [results, Try.results12, go_sem, r0, r1, r2, r3, r4, r5, r6, r7, r8, r9, r10, r11, s0, s1, s2]) rfl ?_
  exact ⟨rfl, ((((Fr.refl (fun k => k = w.heap.size ∨ k = w.heap.size + 1) _).alloc _).alloc _).trans ((G5.out.mono (fun _ _ e => .inl e)).trans (G6.out.mono (fun _ _ e => .inr e)))).mono (fun k hk e => by omega)⟩

theorem Next_in (g : Nat) (most : Int) (B : List UInt8) (X : Flt) (ob : Option Nat) (M : Nat) (w : World) (h : Rdr w g most B X ob M) (hM : M ≤ 225179981368371) (hm : 0 < most) (hmost : (Lit.int .i64 most).wf = true) :
    Calls Try.prog 12 #[.pointer (some ⟨g, 0, none⟩)] w fun e w' => NextAs w g most ob M (nextR most B X) e w' := by
  obtain ⟨a, n, c, at_, D, hrd, how, hat, rfl, rfl, hbd⟩ := h
  obtain ⟨W, hW⟩ : ∃ W, W = (w.alloc (.cells #[.int .i64 0, .int .i64 0, .int .i64 0, .slice none 0 0, .int .i64 0, .int .u32 0, .int .i64 0, .int .i64 0, .int .i64 0, .bool false, .int .i64 0, .slice none 0 0] 36)).alloc (.cells #[.bool false, .int .i64 0, .int .i64 0] 38) := ⟨_, rfl⟩
  have HFW : Hid (Fr (fun _ => False) w W) := by rw [hW]; exact ((Fr.refl _ _).alloc _).alloc _
  have HWS : Hid (W.heap.size = w.heap.size + 2) := by rw [hW]; show _ = _; simp
  have hr1 : W.heap[w.heap.size]? = some (.cells #[.int .i64 0, .int .i64 0, .int .i64 0, .slice none 0 0, .int .i64 0, .int .u32 0, .int .i64 0, .int .i64 0, .int .i64 0, .bool false, .int .i64 0, .slice none 0 0] 36 (0, 0)) := by rw [hW]; exact past_at _ (heap_alloc_new w _)
  have hr2 : W.heap[w.heap.size + 1]? = some (.cells #[.bool false, .int .i64 0, .int .i64 0] 38 (0, 0)) := by rw [hW]; exact last_at _ (by simp)
  have HRES : Hid (∀ (S : Nat → Prop) w', Fr S W w' → ¬ S w.heap.size → ¬ S (w.heap.size + 1) → w'.heap[w.heap.size]? = some (.cells #[.int .i64 0, .int .i64 0, .int .i64 0, .slice none 0 0, .int .i64 0, .int .u32 0, .int .i64 0, .int .i64 0, .int .i64 0, .bool false, .int .i64 0, .slice none 0 0] 36 (0, 0)) ∧ w'.heap[w.heap.size + 1]? = some (.cells #[.bool false, .int .i64 0, .int .i64 0] 38 (0, 0))) := fun S w' hf n1 n2 => ⟨(hf.block _ (lt_of_heap hr1) n1).trans hr1, (hf.block _ (lt_of_heap hr2) n2).trans hr2⟩
  have HLT : Hid (g < w.heap.size) := hrd.lt
  have HR : Hid (RdC w g most (.slice a n c) at_ X) := hrd
  have HO : Hid (OwnAt w 5 (.slice a n c) (bv D)) := how
  have HRW : Hid (RdC W g most (.slice a n c) at_ X) := hrd.fr HFW.out id
  have HOW : Hid (OwnAt W 5 (.slice a n c) (bv D)) := how.fr HFW.out (fun _ _ => id)
  have HDN : Hid (n = D.length) := (own_len how).1
  have KM : Hid (Calls Try.prog 21 #[.pointer (some ⟨g, 0, none⟩)] W fun e w' => e = .returned (.bool true) ∧ W = w') := made_in g most _ at_ X W HRW.out hm
  obtain ⟨c0, c1, c2, c3, c4, c5⟩ := rcells HRW.out
  clear hr1 hr2 hrd how
  cases hX : X.is
  case true =>
    have HE : Hid (nextR most (D.drop at_) X = ((zeroF, false, X), D.drop at_, X)) := by show _ = _; rw [nextR_eq, if_pos hX]
    rw [hX] at c3
    have HX : Hid (X.is = true) := hX
    clear hX hbd
    go_enter Try.func12, Try.ntmps12
    go_upto_region 1 with (fail)
    rw [← hW]
    clear hW
    go_wp2_with (go_at_call 21; refine KM.out.mono ?_; rintro e w' ⟨rfl, rfl⟩)
    refine wp_region_held_drew (S := fun w2 => RdC w2 g most (.slice a n c) at_ X) (by kernel_rfl) HRW.out (fun hHeld => ?_)
    refine wpAnyH_take (i := 0) (oi := _) (v := .agg #[.int .i64 0, .int .i64 0, .int .i64 0, .slice none 0 0, .int .i64 0, .int .u32 0, .int .i64 0, .int .i64 0, .int .i64 0, .bool false, .int .i64 0, .slice none 0 0]) rfl (by kernel_rfl) (by kernel_rfl) (by kernel_rfl) (fun _ _ _ h => h) (Or.inl ⟨by kernel_rfl, fun w2 hw => by go_simp⟩) hHeld ?_
    refine wpAnyH_take (i := 1) (oi := _) (v := .pointer (some ⟨g, 0, none⟩)) rfl (by kernel_rfl) (by kernel_rfl) (by kernel_rfl) (fun _ _ _ h => h) (Or.inl ⟨by kernel_rfl, fun w2 hw => by go_simp⟩) hHeld ?_
    refine wpAnyH_take (i := 2) (oi := _) (v := .pointer (some ⟨g, 0, none⟩)) rfl (by kernel_rfl) (by kernel_rfl) (by kernel_rfl) (fun _ _ _ h => h) (Or.inl ⟨by kernel_rfl, fun w2 hw => by go_simp⟩) hHeld ?_
    refine wpAnyH_take (i := 3) (oi := _) (v := .pointer (some ⟨g, 3, none⟩)) rfl (by kernel_rfl) (by kernel_rfl) (by kernel_rfl) (fun _ _ _ h => h) (Or.inl ⟨by kernel_rfl, fun w2 hw => by go_simp⟩) hHeld ?_
    refine wpAnyH_take (i := 4) (oi := _) (v := .agg #[.bool X.is, .int .i64 X.st, .int .i64 X.code]) rfl (by kernel_rfl) (by kernel_rfl) (by kernel_rfl) (fun _ _ _ h => h) (Or.inl ⟨by kernel_rfl, fun w2 hw => by obtain ⟨d0, d1, d2, d3, d4, d5⟩ := rcells hw; go_simp⟩) hHeld ?_
    simp only [Act.put, List.getElem_toArray, List.getElem_cons_succ, List.getElem_cons_zero, List.setIfInBounds_toArray, List.set_cons_zero, List.set_cons_succ]
    have HR5 := HRES.out (fun _ => False) W.drew ((Fr.refl _ _).drew) id id
    refine wpAnyH_ready (rs := [5]) (by kernel_rfl) (by simp) ?_
    refine AllReadyH.cons rfl (fun K hK => ?_) AllReadyH.nil
    refine stepR_storeB rfl rfl 36 (.tmp 2) (.tmp 18) rfl w.heap.size #[.int .i64 0, .int .i64 0, .int .i64 0, .slice none 0 0, .int .i64 0, .int .u32 0, .int .i64 0, .int .i64 0, .int .i64 0, .bool false, .int .i64 0, .slice none 0 0] #[.int .i64 0, .int .i64 0, .int .i64 0, .slice none 0 0, .int .i64 0, .int .u32 0, .int .i64 0, .int .i64 0, .int .i64 0, .bool false, .int .i64 0, .slice none 0 0] 36 rfl rfl HR5.1 rfl (by kernel_rfl) (by simp [Value.oneCell']) ?_
    intro w5 H5 G5
    refine hK.out _ _ (hHeld.fr G5.out (by have := HLT.out; omega)) (fun hHeld2 => ?_)
    clear hK K
    refine wpAnyH_ready (rs := [6]) (by kernel_rfl) (by simp) ?_
    refine AllReadyH.cons rfl (fun K hK => ?_) AllReadyH.nil
    go_simp
    refine hK.out _ _ hHeld2 (fun _ => ?_)
    clear hK K
    refine wpAnyH_ready (rs := [7]) (by kernel_rfl) (by simp) ?_
    refine AllReadyH.cons rfl (fun K hK => ?_) AllReadyH.nil
    refine stepR_storeB rfl rfl 38 (.tmp 4) (.tmp 22) rfl (w.heap.size + 1) #[.bool false, .int .i64 0, .int .i64 0] #[.bool X.is, .int .i64 X.st, .int .i64 X.code] 38 rfl rfl ((G5.out.block _ (lt_of_heap HR5.2) (by omega)).trans HR5.2) rfl (by kernel_rfl) (by simp [Value.oneCell']) ?_
    intro w6 H6 G6
    refine hK.out _ _ (hHeld2.fr G6.out (by have := HLT.out; omega)) (fun _ => ?_)
    clear hK K
    refine wpAnyH_done (by kernel_rfl) ?_ _
    go_wp2_with (fail)
    obtain ⟨r0, r1, r2, r3, r4, r5, r6, r7, r8, r9, r10, r11⟩ := cells12 ((G6.out.block _ (lt_of_heap H5.out) (by omega)).trans H5.out)
    obtain ⟨s0, s1, s2⟩ := cells3 H6.out
    refine bodyPost_ret (v := .tuple #[.agg #[.int .i64 0, .int .i64 0, .int .i64 0, .slice none 0 0, .int .i64 0, .int .u32 0, .int .i64 0, .int .i64 0, .int .i64 0, .bool false, .int .i64 0, .slice none 0 0], .bool false, .agg #[.bool X.is, .int .i64 X.st, .int .i64 X.code]]) (by simp [results, Try.results12, go_sem, r0, r1, r2, r3, r4, r5, r6, r7, r8, r9, r10, r11, s0, s1, s2]) rfl ?_
    have FALL : Fr (fun k => k = w.heap.size ∨ k = w.heap.size + 1) W w6 := ((Fr.refl _ _).drew).trans ((G5.out.mono (fun _ _ e => .inl e)).trans (G6.out.mono (fun _ _ e => .inr e)))
    have FEND : Fr (fun _ => False) w w6 := ((HFW.out.mono (T := fun k => k = w.heap.size ∨ k = w.heap.size + 1) (fun _ _ e => e.elim)).trans FALL).mono (fun k hk e => by omega)
    rw [HE.out]
    refine ⟨none, 0, none, 0, _, rfl, SrcAt.nil _ _, SetsAt.nil _, fun ad e => (by cases e), fun ad e => (by cases e), ⟨a, n, c, at_, D, HR.out.fr FEND id, HO.out.fr FEND (fun _ _ => id), hat, rfl, rfl, fun h => (by rw [HX.out] at h; cases h)⟩, FEND.mono (fun _ _ e => e.elim), .inl rfl⟩
  case false =>
    have hDM := hbd hX
    have KF : Hid (Calls Try.prog 22 #[.pointer (some ⟨g, 0, none⟩)] W fun e w2 => FoundAs W g most (.slice a n c) D (nextR most (D.drop at_) X) e w2) := find_in g most a n c at_ X D W HRW.out HOW.out (by rw [HDN.out]; exact hat) (by rw [HDN.out]; omega) hmost hX
    obtain ⟨⟨⟨gf, is, ⟨fi, fs, fcd⟩⟩, B2, X2⟩, hout⟩ : ∃ out, nextR most (D.drop at_) X = out := ⟨_, rfl⟩
    rw [hout] at KF ⊢
    have HDM : Hid (D.length ≤ M ∧ M ≤ 225179981368371) := ⟨hDM, hM⟩
    rw [hX] at c3
    clear hX hbd hDM hout
    go_enter Try.func12, Try.ntmps12
    go_upto_region 1 with (fail)
    rw [← hW]
    clear hW
    go_wp2_with (first
      | (go_at_call 21; refine KM.out.mono ?_; rintro e w' ⟨rfl, rfl⟩)
      | (go_at_call 22; refine KF.out.mono ?_; rintro e w1 ⟨p, cp, q, cq, at', rfl, hs1, hy1, hp1, hq1, hr1, hat1, hd1, hf1⟩; have T1 : Hid (SrcAt w1 p gf.X ∧ SetsAt w1 q cq gf.Y ∧ (∀ ad, p = some ad → 0 < gf.X.length → W.heap.size ≤ ad.block) ∧ (∀ ad, q = some ad → 0 < gf.Y.length → W.heap.size ≤ ad.block) ∧ RdC w1 g most (.slice a n c) at' X2 ∧ at' ≤ D.length ∧ D.drop at' = B2 ∧ Fr (fun k => k = g) W w1) := ⟨hs1, hy1, hp1, hq1, hr1, hat1, hd1, hf1⟩; clear hs1 hy1 hp1 hq1 hr1 hat1 hd1 hf1 c0 c1 c2 c3 c4 c5)
      | (refine wpList_storeB rfl 36 (.tmp 5) (.tmp 26) rfl w1.heap.size #[.int .i64 0, .int .i64 0, .int .i64 0, .slice none 0 0, .int .i64 0, .int .u32 0, .int .i64 0, .int .i64 0, .int .i64 0, .bool false, .int .i64 0, .slice none 0 0] #[.int .i64 gf.k, .int .i64 gf.fl, .int .i64 gf.st, .slice p gf.X.length cp, .int .i64 gf.pad, .int .u32 gf.code, .int .i64 gf.last, .int .i64 gf.inc, .int .i64 gf.dep, .bool gf.only, .int .i64 gf.wt, .slice q gf.Y.length cq] 36 rfl rfl (past_at _ (heap_alloc_new w1 _)) rfl (by kernel_rfl) (by simp [Value.oneCell']) ?_; intro w2 H2 G2)
      | (refine wpList_storeB rfl 38 (.tmp 7) (.tmp 28) rfl (w1.heap.size + 1) #[.bool false, .int .i64 0, .int .i64 0] #[.bool fi, .int .i64 fs, .int .i64 fcd] 38 rfl rfl ((G2.out.block _ (by simp) (by omega)).trans (last_at _ (by simp))) rfl (by kernel_rfl) (by simp [Value.oneCell']) ?_; intro w3 H3 G3; refine Hid.out ?_))
    unfold Hid
    have FF3 : Hid (Fr (fun _ => False) w1 w3) := ((((Fr.refl (fun k => k = w1.heap.size ∨ k = w1.heap.size + 1) _).alloc _).alloc _).trans ((G2.out.mono (fun _ _ e => .inl e)).trans (G3.out.mono (fun _ _ e => .inr e)))).mono (fun k hk e => by omega)
    have A3 : Hid (FAt w3 w1.heap.size gf p cp q cq) := (G3.out.block _ (lt_of_heap H2.out) (by omega)).trans H2.out
    have B3 : Hid (w3.heap[w1.heap.size + 1]? = some (.cells #[.bool fi, .int .i64 fs, .int .i64 fcd] 38 (0, 0))) := H3.out
    clear H2 G2 H3 G3
    have FW3 : Hid (Fr (fun k => k = g) W w3) := T1.out.2.2.2.2.2.2.2.trans (FF3.out.mono (fun _ _ e => e.elim))
    have HO3 : Hid (OwnAt w3 5 (.slice a n c) (bv D)) := HOW.out.fr FW3.out (own_ne HRW.out HOW.out)
    have KV : Hid (Calls Try.prog 23 #[.pointer (some ⟨g, 0, none⟩)] w3 fun e w' => e = .returned (.tuple #[]) ∧ MovedAs w3 g most (.slice a n c) at' X2 D w') := move_in g most a n c at' X2 D w3 (T1.out.2.2.2.2.1.fr FF3.out id) HO3.out hm (by rw [HDN.out]; exact T1.out.2.2.2.2.2.1) (by rw [HDN.out]; have := HDM.out; omega)
    go_wp2_with (go_at_call 23; refine KV.out.mono ?_; rintro e w4 ⟨rfl, hmv⟩; have MV : Hid (MovedAs w3 g most (.slice a n c) at' X2 D w4) := hmv; clear hmv)
    obtain ⟨a', n', c', at2, D', hr4, ho4, hat4, hd4, hb4, hf4, hob4⟩ := MV.out
    have hz1 : W.heap.size ≤ w1.heap.size := T1.out.2.2.2.2.2.2.2.size
    have hz2 := HWS.out
    have hz3 := HLT.out
    have hA4 : FAt w4 w1.heap.size gf p cp q cq := (hf4.block _ (lt_of_heap A3.out) (by omega)).trans A3.out
    have hB4 : w4.heap[w1.heap.size + 1]? = some (.cells #[.bool fi, .int .i64 fs, .int .i64 fcd] 38 (0, 0)) := (hf4.block _ (lt_of_heap B3.out) (by omega)).trans B3.out
    refine wp_region_held_drew (S := fun w2 => FAt w2 w1.heap.size gf p cp q cq ∧ w2.heap[w1.heap.size + 1]? = some (.cells #[.bool fi, .int .i64 fs, .int .i64 fcd] 38 (0, 0))) (by kernel_rfl) ⟨hA4, hB4⟩ (fun hHeld => ?_)
    refine wpAnyH_take (i := 0) (oi := _) (v := .agg #[.int .i64 gf.k, .int .i64 gf.fl, .int .i64 gf.st, .slice p gf.X.length cp, .int .i64 gf.pad, .int .u32 gf.code, .int .i64 gf.last, .int .i64 gf.inc, .int .i64 gf.dep, .bool gf.only, .int .i64 gf.wt, .slice q gf.Y.length cq]) rfl (by kernel_rfl) (by kernel_rfl) (by kernel_rfl) (fun _ _ _ h => h) (Or.inl ⟨by kernel_rfl, fun w2 hw => by obtain ⟨c0, c1, c2, c3, c4, c5, c6, c7, c8, c9, c10, c11⟩ := fcells hw.1; go_simp⟩) hHeld ?_
    refine wpAnyH_take (i := 1) (oi := _) (v := .bool is) rfl (by kernel_rfl) (by kernel_rfl) (by kernel_rfl) (fun _ _ _ h => h) (Or.inl ⟨by kernel_rfl, fun w2 hw => by go_simp⟩) hHeld ?_
    refine wpAnyH_take (i := 2) (oi := _) (v := .agg #[.bool fi, .int .i64 fs, .int .i64 fcd]) rfl (by kernel_rfl) (by kernel_rfl) (by kernel_rfl) (fun _ _ _ h => h) (Or.inl ⟨by kernel_rfl, fun w2 hw => by obtain ⟨d0, d1, d2⟩ := cells3 hw.2; go_simp⟩) hHeld ?_
    simp only [Act.put, List.getElem_toArray, List.getElem_cons_succ, List.getElem_cons_zero, List.setIfInBounds_toArray, List.set_cons_zero, List.set_cons_succ]
    have HR5 := HRES.out (fun k => k = g) w4.drew ((FW3.out.trans hf4).drew) (by omega) (by omega)
    refine wpAnyH_ready (rs := [3]) (by kernel_rfl) (by simp) ?_
    refine AllReadyH.cons rfl (fun K hK => ?_) AllReadyH.nil
    refine stepR_storeB rfl rfl 36 (.tmp 2) (.tmp 31) rfl w.heap.size #[.int .i64 0, .int .i64 0, .int .i64 0, .slice none 0 0, .int .i64 0, .int .u32 0, .int .i64 0, .int .i64 0, .int .i64 0, .bool false, .int .i64 0, .slice none 0 0] #[.int .i64 gf.k, .int .i64 gf.fl, .int .i64 gf.st, .slice p gf.X.length cp, .int .i64 gf.pad, .int .u32 gf.code, .int .i64 gf.last, .int .i64 gf.inc, .int .i64 gf.dep, .bool gf.only, .int .i64 gf.wt, .slice q gf.Y.length cq] 36 rfl rfl HR5.1 rfl (by kernel_rfl) (by simp [Value.oneCell']) ?_
    intro w5 H5 G5
    refine hK.out _ _ ⟨(G5.out.block _ (lt_of_heap hHeld.1) (by omega)).trans hHeld.1, (G5.out.block _ (lt_of_heap hHeld.2) (by omega)).trans hHeld.2⟩ (fun hHeld2 => ?_)
    clear hK K
    refine wpAnyH_ready (rs := [4]) (by kernel_rfl) (by simp) ?_
    refine AllReadyH.cons rfl (fun K hK => ?_) AllReadyH.nil
    go_simp
    refine hK.out _ _ hHeld2 (fun _ => ?_)
    clear hK K
    refine wpAnyH_ready (rs := [5]) (by kernel_rfl) (by simp) ?_
    refine AllReadyH.cons rfl (fun K hK => ?_) AllReadyH.nil
    refine stepR_storeB rfl rfl 38 (.tmp 4) (.tmp 33) rfl (w.heap.size + 1) #[.bool false, .int .i64 0, .int .i64 0] #[.bool fi, .int .i64 fs, .int .i64 fcd] 38 rfl rfl ((G5.out.block _ (lt_of_heap HR5.2) (by omega)).trans HR5.2) rfl (by kernel_rfl) (by simp [Value.oneCell']) ?_
    intro w6 H6 G6
    refine hK.out _ _ ⟨(G6.out.block _ (lt_of_heap hHeld2.1) (by omega)).trans hHeld2.1, (G6.out.block _ (lt_of_heap hHeld2.2) (by omega)).trans hHeld2.2⟩ (fun _ => ?_)
    clear hK K
    refine wpAnyH_done (by kernel_rfl) ?_ _
    go_wp2_with (fail)
    obtain ⟨r0, r1, r2, r3, r4, r5, r6, r7, r8, r9, r10, r11⟩ := cells12 ((G6.out.block _ (lt_of_heap H5.out) (by omega)).trans H5.out)
    obtain ⟨s0, s1, s2⟩ := cells3 H6.out
    refine bodyPost_ret (v := .tuple #[.agg #[.int .i64 gf.k, .int .i64 gf.fl, .int .i64 gf.st, .slice p gf.X.length cp, .int .i64 gf.pad, .int .u32 gf.code, .int .i64 gf.last, .int .i64 gf.inc, .int .i64 gf.dep, .bool gf.only, .int .i64 gf.wt, .slice q gf.Y.length cq], .bool is, .agg #[.bool fi, .int .i64 fs, .int .i64 fcd]]) (by simp [results, Try.results12, go_sem, r0, r1, r2, r3, r4, r5, r6, r7, r8, r9, r10, r11, s0, s1, s2]) rfl ?_
    have FALL : Fr (fun k => k = w.heap.size ∨ k = w.heap.size + 1) w4 w6 := ((Fr.refl _ _).drew).trans ((G5.out.mono (fun _ _ e => .inl e)).trans (G6.out.mono (fun _ _ e => .inr e)))
    have F46 : Fr (fun k => k = g ∨ k = w.heap.size ∨ k = w.heap.size + 1) w1 w6 := (FF3.out.mono (T := fun k => k = g ∨ k = w.heap.size ∨ k = w.heap.size + 1) (fun _ _ e => e.elim)).trans ((hf4.mono (fun _ _ e => .inl e)).trans (FALL.mono (fun _ _ e => .inr e)))
    have hownlt : ∀ k, (Value.slice a n c).ownBlock = some k → k < w.heap.size := fun k hk => HO.out.lt k hk
    have hz4 : w1.heap.size ≤ w3.heap.size := FF3.out.size
    have hpn : ∀ ad : Addr, W.heap.size ≤ ad.block → ad.block < w1.heap.size → w.heap.size ≤ ad.block ∧ (Value.slice a' n' c').ownBlock ≠ some ad.block := by
      intro ad h1 h2
      refine ⟨by omega, fun he => ?_⟩
      rcases hob4 with hob | ⟨k, hk, hk2⟩
      · rw [hob] at he; have := hownlt _ he; omega
      · rw [hk] at he; cases he; omega
    refine ⟨p, cp, q, cq, _, rfl, T1.out.1.fr F46 (fun ad e hl e2 => by have := T1.out.2.2.1 ad e hl; omega), T1.out.2.1.fr F46 (fun ad e hl e2 => by have := T1.out.2.2.2.1 ad e hl; omega), fun ad e hl => hpn ad (T1.out.2.2.1 ad e hl) (srcB_lt T1.out.1 ad e hl), fun ad e hl => hpn ad (T1.out.2.2.2.1 ad e hl) (sets_lt T1.out.2.1 ad e hl), ⟨a', n', c', at2, D', hr4.fr FALL (by omega), ho4.fr FALL (fun k hk => ?_), hat4, ?_, rfl, fun _ => ?_⟩, ?_, ?_⟩
    · rcases hob4 with hob | ⟨k', hk', hk2⟩
      · rw [hob] at hk; have := hownlt _ hk; omega
      · rw [hk'] at hk; cases hk; have := lt_of_heap B3.out; omega
    · rw [hd4]; exact T1.out.2.2.2.2.2.2.1
    · rw [T1.out.2.2.2.2.2.2.1] at hb4; have := HDM.out; exact Nat.le_min.2 ⟨by omega, hb4.1⟩
    · exact (((HFW.out.mono (T := fun k => k = g ∨ k = w.heap.size ∨ k = w.heap.size + 1) (fun _ _ e => e.elim)).trans (T1.out.2.2.2.2.2.2.2.mono (fun _ _ e => .inl e))).trans F46).mono (fun k hk e => by omega)
    · rcases hob4 with hob | ⟨k, hk, hk2⟩
      · exact .inl hob
      · exact .inr ⟨k, hk, by omega⟩
end Go.Proofs.Ytikaefjhmgcidaa
/- A reader's contracts in the words of what it has. -/
namespace Go.Proofs.Ytikaefjhmgcidaa
open Go.RowKit
set_option linter.unusedVariables false
set_option maxRecDepth 100000
set_option maxHeartbeats 4000000

theorem Rdr.lt {w : World} {g : Nat} {most : Int} {B : List UInt8} {X : Flt} {ob : Option Nat} {M : Nat} (h : Rdr w g most B X ob M) : g < w.heap.size ∧ (∀ k, ob = some k → k < w.heap.size ∧ k ≠ g) := by
  obtain ⟨a, n, c, at_, D, hr, ho, hat, hD, rfl, hM⟩ := h
  exact ⟨hr.lt, fun k hk => ⟨ho.lt k hk, own_ne hr ho k hk⟩⟩
theorem Rdr.fr {S : Nat → Prop} {w w' : World} {g : Nat} {most : Int} {B : List UInt8} {X : Flt} {ob : Option Nat} {M : Nat} (h : Rdr w g most B X ob M) (hf : Fr S w w') (hg : ¬ S g) (hs : ∀ k, ob = some k → ¬ S k) : Rdr w' g most B X ob M := by
  obtain ⟨a, n, c, at_, D, hr, ho, hat, hD, rfl, hM⟩ := h
  exact ⟨a, n, c, at_, D, hr.fr hf hg, ho.fr hf hs, hat, hD, rfl, hM⟩
theorem Rdr.later {w w' : World} {g : Nat} {most : Int} {B : List UInt8} {X : Flt} {ob : Option Nat} {M : Nat} (h : Rdr w g most B X ob M) (hf : Fr (fun _ => False) w w') : Rdr w' g most B X ob M := h.fr hf id (fun _ _ => id)
theorem Rdr.mono {w : World} {g : Nat} {most : Int} {B : List UInt8} {X : Flt} {ob : Option Nat} {M N : Nat} (h : Rdr w g most B X ob M) (hN : M ≤ N) : Rdr w g most B X ob N := by
  obtain ⟨a, n, c, at_, D, hr, ho, hat, hD, ho2, hM⟩ := h
  exact ⟨a, n, c, at_, D, hr, ho, hat, hD, ho2, fun hx => Nat.le_trans (hM hx) hN⟩
theorem New_rdr (most : Int) (w : World) (h0 : 16384 ≤ most) (h1 : most ≤ 16777215) :
    Calls Try.prog 8 #[.int .i64 most] w fun e w' => e = .returned (.tuple #[.pointer (some ⟨w.heap.size, 0, none⟩), .int .i64 0]) ∧ Rdr w' w.heap.size most [] ⟨false, 0, 0⟩ none 0 ∧ Fr (fun _ => False) w w' :=
  (nNew_in most w h0 h1).mono (by
    rintro e w' ⟨rfl, hr, hf, -⟩
    exact ⟨rfl, ⟨none, 0, 0, 0, [], hr, OwnAt.nil _ _, by simp, rfl, rfl, by simp⟩, hf⟩)
/-- What Feed leaves, in these words. -/
def FedR (w : World) (g : Nat) (most : Int) (B : List UInt8) (X : Flt) (ob : Option Nat) (M : Nat) (e : Ending) (w' : World) : Prop :=
  e = .returned (.int .i64 0) ∧ ∃ ob', Rdr w' g most B X ob' M ∧ Fr (fun k => k = g ∨ ob = some k) w w' ∧ (ob' = ob ∨ ∃ k, ob' = some k ∧ w.heap.size ≤ k)
theorem Feed_rdr (g : Nat) (most : Int) (B : List UInt8) (X : Flt) (ob : Option Nat) (M : Nat) (sp : Option Addr) (m cb : Nat) (b : List UInt8) (w : World) (h : Rdr w g most B X ob M) (hm : 0 < most) (hX : X.is = false) (hs : SrcAt w sp b) (hb : b.length = m) (hbig : M + m ≤ 225179981368371) :
    Calls Try.prog 10 #[.pointer (some ⟨g, 0, none⟩), .slice sp m cb] w fun e w' => FedR w g most (B ++ b) X ob (M + m) e w' := by
  obtain ⟨a, n, c, at_, D, hr, ho, hat, hD, rfl, hM⟩ := h
  have hM := hM hX
  refine (Feed_in g most a n c at_ X D sp m cb b w hr ho hm hX hs hb (by omega)).mono ?_
  rintro e w' ⟨rfl, a', n', c', hr', ho', hf, hob⟩
  exact ⟨rfl, _, ⟨a', n', c', at_, D ++ b, hr', ho', by simp; omega, by rw [List.drop_append_of_le_length hat, hD], rfl, fun _ => by simp; omega⟩, hf, hob⟩
theorem Feed_rdr_failed (g : Nat) (most : Int) (B : List UInt8) (X : Flt) (ob : Option Nat) (M : Nat) (v : Value) (w : World) (h : Rdr w g most B X ob M) (hm : 0 < most) (hX : X.is = true) :
    Calls Try.prog 10 #[.pointer (some ⟨g, 0, none⟩), v] w fun e w' => e = .returned (.int .i64 5) ∧ w = w' := by
  obtain ⟨a, n, c, at_, D, hr, ho, hat, hD, rfl, hM⟩ := h
  exact Feed_failed g most _ at_ X v w hr hm hX
theorem Rest_any (g : Nat) (most : Int) (a : Option Addr) (n c at_ : Nat) (X : Flt) (w : World) (h : RdC w g most (.slice a n c) at_ X) (hm : 0 < most) (hat : at_ ≤ n) (hn : n ≤ 9223372036854775807) :
    Calls Try.prog 16 #[.pointer (some ⟨g, 0, none⟩)] w fun e w' => e = .returned (.int .i64 ((n - at_ : Nat) : Int)) ∧ ∃ k, w' = w.drewN k := by
  obtain ⟨c0, c1, c2, c3, c4, c5⟩ := rcells h
  have KM := made_in g most _ at_ X w h hm
  have hsub : ((n - at_ : Nat) : Int) = (n : Int) - (at_ : Int) := by omega
  rw [hsub]
  clear hsub
  go_enter Try.func16, Try.ntmps16
  go_wp2_with (go_at_call 21; refine KM.mono ?_; clear KM; rintro e w' ⟨rfl, rfl⟩)
  go_quiet (fail)
  go_wp2_with (fail)
  go_ret
  exact ⟨rfl, _, rfl⟩
theorem Rest_rdr (g : Nat) (most : Int) (B : List UInt8) (X : Flt) (ob : Option Nat) (M : Nat) (w : World) (h : Rdr w g most B X ob M) (hm : 0 < most) :
    Calls Try.prog 16 #[.pointer (some ⟨g, 0, none⟩)] w fun e w' => e = .returned (.int .i64 (B.length : Int)) ∧ Fr (fun _ => False) w w' := by
  obtain ⟨a, n, c, at_, D, hr, ho, hat, rfl, rfl, hM⟩ := h
  have hn := (own_len ho).1
  have hbig : n ≤ 9223372036854775807 := by
    rcases ho with ⟨hv, -⟩ | ⟨g', off, cap, cur, hv, hg, h1, h2, h3, h4⟩
    · cases hv; simp
    · cases hv; rw [bv_length] at hn ⊢; unfold maxLen at h3; rw [bv_length] at h2; omega
  refine (Rest_any g most a n c at_ X w hr hm (by omega) hbig).mono ?_
  rintro e w' ⟨rfl, k, rfl⟩
  exact ⟨by rw [List.length_drop, hn], (Fr.refl _ _).drewN _⟩
theorem Failed_rdr (g : Nat) (most : Int) (B : List UInt8) (X : Flt) (ob : Option Nat) (M : Nat) (w : World) (h : Rdr w g most B X ob M) (hm : 0 < most) :
    Calls Try.prog 15 #[.pointer (some ⟨g, 0, none⟩)] w fun e w' => e = .returned (.bool X.is) ∧ w = w' := by
  obtain ⟨a, n, c, at_, D, hr, ho, hat, hD, rfl, hM⟩ := h
  exact Failed_in g most _ at_ X w hr hm
/-- Fewer bytes than a head has: nothing is told. -/
theorem next_short (most : Int) (h0 : 0 ≤ most) (B : List UInt8) (h : B.length < 9) : nextR most B ⟨false, 0, 0⟩ = ((zeroF, false, ⟨false, 0, 0⟩), B, ⟨false, 0, 0⟩) := by
  rw [nextR_eq, if_neg (by simp), if_pos (by rw [parseO, if_neg (by omega), if_pos h]; simp)]
theorem next_failed (most : Int) (B : List UInt8) (X : Flt) (h : X.is = true) : nextR most B X = ((zeroF, false, X), B, X) := by
  rw [nextR_eq, if_pos h]
/-- A head that tells more bytes than may be. -/
theorem next_long (most : Int) (h0 : 0 ≤ most) (B : List UInt8) (h : 9 ≤ B.length) (hb : most < (num (B.take 3) : Nat)) : nextR most B ⟨false, 0, 0⟩ = ((zeroF, false, ⟨true, 0, 6⟩), B, ⟨true, 0, 6⟩) := by
  have e : parseO B most = (zeroF, 9, ⟨true, 0, 6⟩, 0) := by rw [parseO, if_neg (by omega), if_neg (by omega), if_pos hb]
  rw [nextR_eq, if_neg (by simp), e, if_neg (by simp), if_pos ⟨rfl, rfl⟩]
end Go.Proofs.Ytikaefjhmgcidaa
